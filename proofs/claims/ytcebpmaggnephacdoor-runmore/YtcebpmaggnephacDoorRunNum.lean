/-
  Our own: package run: the numbers of functions by their names.
-/
import Derived.Test.YtcebpmaggnephacDoorRunCall
namespace Go.Proofs.YtcebpmaggnephacDoor
open Go.RowKit Go.Maps

set_option maxRecDepth 100000 in
set_option maxHeartbeats 2000000 in
theorem numbers_any (F : List Fu) (hP : WfP F) (hF : F.length ≤ 10) (hL : ∀ g ∈ F, LowF g) (w : World) (v : Value) (hX : XLF (InH w) w v F) :
    Calls Tryd.prog 34 #[v] w fun e w' => e = .returned (.map (some w.heap.size)) ∧ FirstAt w' w.heap.size F ∧ Below w.heap.size w w' ∧ w.heap.size < w'.heap.size := by
  obtain ⟨xs, hr, hk⟩ := hX
  obtain ⟨ad, cap, rfl⟩ := hr.is
  have hF' : (F.length : Int) ≤ 10 := by omega
  have R := hidX hr
  have KK := hidX hk
  have LL := hidX hL
  clear hr hk hL
  have hmm := @run_makeMap Tryd.prog
  go_enter Tryd.func34, Tryd.ntmps34
  go_wp2_with fail
  go_loopw [9] (fun vi wr => ∃ q : Nat, q ≤ F.length ∧ vi = .int .i64 q ∧ Below w.heap.size w wr ∧ w.heap.size < wr.heap.size ∧ FirstAt wr w.heap.size (F.take q)) (fun vi _ => F.length - (intOf vi).toNat)
  case atStart => exact ⟨0, Nat.zero_le _, rfl, by (repeat (first | exact Below.refl _ _ | assumption | refine Below.drew ?_ | refine Below.trans ?_ (drewN_below' _ _ _) | refine Below.setCell ?_ (by first | (simp; done) | (simp; omega)) _ | refine Below.alloc ?_ (by first | (simp; done) | (simp; omega)) _)), by simp, firstAt_made w⟩
  case round =>
    obtain ⟨q, hq, rfl, hbl, hz, hfr⟩ := hrel
    by_cases hlt : q < F.length
    · have hlt' : (q : Int) < (F.length : Int) := by omega
      obtain ⟨ka, e1, e2⟩ := KK.out.at hlt
      have hlow := LL.out _ (List.getElem_mem hlt)
      have htk : F.take (q + 1) = F.take q ++ [F[q]] := List.take_succ_eq_append_getElem hlt
      have hany' : ((F.take q).any fun f => f.name == F[q].name) = false := by
        rw [List.any_eq_false]
        intro f hf
        obtain ⟨i, hi, rfl⟩ := List.mem_take_iff_getElem.1 hf
        intro e
        have := hP.names q hlt i (by omega) (by simpa using e)
        omega
      generalize F[q] = x at e1 hlow htk hany'
      obtain ⟨xm, xp, xb⟩ := x
      obtain ⟨pv, bv, bs, rfl, r2, r3, r4⟩ := e1
      obtain ⟨l1, _⟩ := hlow
      simp only at r2 r3 r4 l1 e2 hany'
      obtain ⟨g, off, rfl, hg, hx⟩ := x3_at R.out hlt e2
      obtain ⟨adp, cp, rfl⟩ := r2.is
      obtain ⟨adb, cb, rfl⟩ := r3.is
      have k1 := hx.keep (hbl.block g hg)
      have a0 := k1.c0
      have a1 := k1.c1
      have a2 := k1.c2
      have HTK := hidX htk
      have hblk : (wr.alloc (.cells #[.string ⟨xm.toArray⟩, .slice adp xp.length cp, .slice adb xb.length cb] 37)).heap[w.heap.size]? = wr.heap[w.heap.size]? := Below.heap_alloc _ _ _ hz
      have HFR := hidX hfr
      have HBK := hidX hblk
      have hql : (F.take q).length = q := by rw [List.length_take]; omega
      obtain ⟨D, d1, d2, d3⟩ := hfr
      rw [hql] at d1
      have D1 := hidX d1
      have D2 := hidX d2
      have D3 := hidX d3
      have HA := hidX hany'
      have HQL := hidX hql
      have hkey := key_text xm (by omega)
      clear hx k1 r2 r3 r4 e2 htk hblk hany' d1 d2 d3 hql
      go_wp2_with (first | (at_mapUpdate; refine wpList_mapUpdate_own _ rfl _ _ _ 63 rfl 9 3 law_string Tryd.underlying63 (plainElem Tryd.prog 3) w.heap.size q D rfl (owns_block D1.out HBK.out) (by unfold maxLen; omega) _ _ (.string xm) rfl rfl hkey (.lit (.int .i64 q)) [] (plainElem_int Tryd.underlying3 (WalkArith.wf_i64 (by omega))) ?_; intro w1 hown1 hgrow1) | go_in)
      have hf2 : FirstAt w1 w.heap.size (F.take q ++ [⟨xm, xp, xb⟩]) := FirstAt.put (x := ⟨xm, xp, xb⟩) D1.out D2.out D3.out HA.out (by rw [HQL.out]; exact hown1)
      rw [← HTK.out] at hf2
      have HF2 := hidX hf2
      have hb1 : Below w.heap.size w w1 := (hbl.alloc (by omega) _).grown hgrow1 (by simp; omega) (fun j hj => by cases hj; exact Nat.le_refl _)
      have hz1 : w.heap.size < w1.heap.size := by have := hgrow1.size; simp at this; omega
      clear hown1 hgrow1 hf2 a0 a1 a2
      go_roundw
      case rel => exact ⟨q + 1, by omega, by go_num, hb1, hz1, HF2.out⟩
      case measure => simp [intOf]; omega
    · have hqn : q = F.length := by omega
      subst hqn
      rw [List.take_length] at hfr
      have HFR := hidX hfr
      clear hfr
      go_wp2
      go_ret
      exact ⟨rfl, HFR.out, hbl, hz⟩
/-- An outcome's cells. -/
def outC (how : List UInt8) (v : Int) (ov : Value) (t : Nat) : Array Value := #[.string ⟨how.toArray⟩, .int .i64 v, ov, .int .i64 (t : Int)]
def kDone : List UInt8 := [100, 111, 110, 101]
/-- What a run that is well asked comes to. -/
def RunTo (w : World) (r : Vr) (e : Ending) (w' : World) : Prop :=
  Below w.heap.size w w' ∧ ∃ ov, w'.ownsRow w.heap.size 3 1 ov r.st.out.length (intsC r.st.out) ∧ match r with
    | .stop c s => e = .returned (.tuple #[.agg (outC (howS c) 0 ov s.ticks), .nilIface])
    | .val v s => e = .returned (.tuple #[.agg (outC kDone v ov s.ticks), .nilIface])
/-- Is it well asked? -/
def AskOk (F : List Fu) (m : List UInt8) (n : Nat) : Prop := ∃ f ∈ F, f.name = m ∧ f.params.length = n
end Go.Proofs.YtcebpmaggnephacDoor
