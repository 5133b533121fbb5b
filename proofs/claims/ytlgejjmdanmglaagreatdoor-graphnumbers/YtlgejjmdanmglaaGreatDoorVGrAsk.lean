/- Our own: texts joined: GrAsk. -/
import Derived.Test.YtlgejjmdanmglaaGreatDoorVFlowA
import Derived.Test.YtlgejjmdanmglaaGreatDoorVBase
import Derived.Deep.OwnRows
namespace Go.Proofs.YtlgejjmdanmglaaGreatDoor
open Go.RowKit
def askX (res : Nat → Option Int) : List Nat → Option (List Int)
 | [] => some []
 | i :: r => match res i, askX res r with
  | some v, some l => some (v :: l)
  | _, _ => none
theorem askX_at {res : Nat → Option Int} : ∀ {l : List Nat} {vs : List Int}, askX res l = some vs → vs.length = l.length ∧ ∀ k (hk : k < l.length) (hk' : k < vs.length), res l[k] = some vs[k]
 | [], vs, h => by
  have : vs = [] := by simpa [askX] using h.symm
  subst this; exact ⟨rfl, fun k hk => absurd hk (by simp)⟩
 | i :: r, vs, h => by
  unfold askX at h
  split at h
  ·next v l h1 h2 =>
   injection h with h
   subst h
   obtain ⟨e1, e2⟩ := askX_at h2
   refine ⟨by simp [e1], fun k hk hk' => ?_⟩
   cases k with
   | zero => exact h1
   | succ k => exact e2 k (by simpa using hk) (by simpa using hk')
  ·cases h
theorem askX_none {res : Nat → Option Int} : ∀ {l : List Nat} {k : Nat} (hk : k < l.length), res l[k] = none → askX res l = none
 | [], _, hk, _ => absurd hk (by simp)
 | i :: r, 0, _, h => by unfold askX; rw [show res i = none from h]
 | i :: r, k + 1, hk, h => by
  have := askX_none (l := r) (k := k) (by simpa using hk) h
  unfold askX
  rw [this]
  split
  ·next h2 => cases h2
  ·rfl
theorem askX_all {res : Nat → Option Int} : ∀ {l : List Nat} {f : Nat → Int}, (∀ k (hk : k < l.length), res l[k] = some (f k)) → askX res l = some ((List.range l.length).map f)
 | [], _, _ => rfl
 | i :: r, f, h => by
  have h0 := h 0 (by simp)
  have ih := askX_all (l := r) (f := fun k => f (k + 1)) (fun k hk => h (k + 1) (by simpa using hk))
  unfold askX
  rw [show res i = some (f 0) from h0, ih]
  simp [List.range_succ_eq_map, Function.comp_def]
def AskV (w w' : World) (v : Value) (ok : Value) (r : Option (List Int)) : Prop := match r with
 | some vs => ok = .bool true ∧ XRow (fun b => w.heap.size ≤ b ∧ b < w'.heap.size) w' v vs.length (intsG vs)
 | none => ok = .bool false
theorem made_intsI (n : Nat) : madeCells #[.int .i64 0] n = (intsG (List.replicate n 0)).toArray := by
 apply Array.ext'
 apply List.ext_getElem?
 intro i
 simp [madeCells, intsG, List.getElem?_replicate]
 by_cases h : i < n <;> simp [h, Nat.mod_one]
theorem ints_set (l : List Int) (m : Nat) (i : Int) : (intsG l).set m (.int .i64 i) = intsG (l.set m i) := by simp [intsG, List.map_set]
set_option maxRecDepth 100000 in
set_option maxHeartbeats 1000000 in
theorem ask_any {w : World} {wb c : Nat} {A : Nat → Prop} {lv : Value} {l : List Nat} (hrow : XRow A w lv l.length (natsG l)) (hA : ∀ b, A b → b < w.heap.size ∧ b ≠ c) (hl : l.length ≤ 1000) (hc : c < w.heap.size) (res : Nat → Option Int) (J : World → Prop) (h0 : J w) (hJ : ∀ X Y, J X → w.heap.size ≤ X.heap.size → Below w.heap.size X Y → J Y)
  (hR : ∀ X, J X → w.heap.size ≤ X.heap.size → ∀ i ∈ l, Calls Tryz.prog 96 #[.pointer (some ⟨wb, 0, none⟩), .int .i64 (i : Int)] X fun e w' => J w' ∧ But c X w' ∧ e = .returned (.tuple #[.int .i64 ((res i).getD 0), .bool (res i).isSome])) :
  Calls Tryz.prog 75 #[.pointer (some ⟨wb, 0, none⟩), lv] w fun e w' => J w' ∧ But c w w' ∧ ∃ v ok, e = .returned (.tuple #[v, ok]) ∧ AskV w w' v ok (askX res l) := by
 obtain ⟨ad, cap, rfl⟩ := hrow.is
 have hmk := run_make_row' (P := Tryz.prog) 40 3 (.int .i64 0) 8 Tryz.underlying40 int_info rfl .i64 .i64 l.length (by omega) (by omega)
 rw [made_intsI] at hmk
 obtain ⟨is0, his0⟩ : ∃ is0, is0 = intsG (List.replicate l.length 0) := ⟨_, rfl⟩
 rw [← his0] at hmk
 obtain ⟨W0, hW0⟩ : ∃ W0, W0 = w.alloc (.cells is0.toArray 3) := ⟨_, rfl⟩
 have hb0 : Below w.heap.size w W0 := by rw [hW0]; (repeat (first | exact Below.refl _ _ | assumption | refine Below.drew ?_ | refine bT ?_ _ | refine bS ?_ _ | refine bA ?_ _))
 have hx0 : W0.heap[w.heap.size]? = some (.cells (intsG (List.replicate l.length 0)).toArray 3 (0, 0)) := by rw [hW0, his0]; exact heap_alloc_new _ _
 have HX0 := hidX hx0
 have HB0 := hidX hb0
 have HJ0 := hidX (hJ w W0 h0 (Nat.le_refl _) hb0)
 have HJ := hidX hJ
 have HR := hidX hR
 have HROW := hidX hrow
 have HA := hidX hA
 have hl' : (l.length : Int) ≤ 1000 := by omega
 generalize hres : askX res l = rr
 have HRS := hidX hres
 clear hx0 hb0 hJ h0 hR hrow hA his0 hres
 go_enter Tryz.func75, Tryz.ntmps75
 go_wp2_with fail
 rw [← hW0]
 clear hW0 hmk
 go_loopw [16] (fun vi wr => ∃ (q : Nat) (vs : List Int), q ≤ l.length ∧ vi = .int .i64 q ∧ vs.length = l.length ∧ Hid (But c w wr) ∧ Hid (wr.heap[w.heap.size]? = some (.cells (intsG vs).toArray 3 (0, 0))) ∧ Hid (J wr) ∧ Hid (∀ k (hk : k < l.length) (hk' : k < vs.length), k < q → res l[k] = some vs[k])) (fun vi _ => l.length - (intOf vi).toNat)
 case atStart => exact ⟨0, _, Nat.zero_le _, rfl, by simp, But.of HB0.out, HX0.out, HJ0.out, fun k _ _ h => absurd h (by omega)⟩
 case round =>
  obtain ⟨q, vs, hq, rfl, hvl, HBQ, HXQ, HJQ, HVQ⟩ := hrel
  have hz := HBQ.out.size
  have hnz := heap_lt HXQ.out
  by_cases hlt : q < l.length
  ·have hlt' : (q : Int) < (l.length : Int) := by omega
   obtain ⟨g3, off3, e3, hg3, kc⟩ := HROW.out.nat hlt
   subst e3
   have hg3' := HA.out _ hg3
   replace kc : wr.cell? ⟨g3, off3 + q, none⟩ = _ := (World.cell?_of_block (a := ⟨g3, _, none⟩) (HBQ.out.block g3 hg3'.1 hg3'.2)).trans kc
   have hgd : l.getD q 0 = l[q] := by simp [hlt]
   rw [hgd] at kc
   have hcall := HR.out wr HJQ.out (by omega) l[q] (List.getElem_mem hlt)
   have hnone := fun h => askX_none (res := res) (k := q) hlt h
   have HVN := hidX (fun (v : Int) (hv : res l[q] = some v) (k : Nat) (hk : k < l.length) (hk' : k < (vs.set q v).length) (hkq : k < q + 1) => (show res l[k] = some (vs.set q v)[k] from by
    by_cases e : k = q
    ·subst e; rw [hv]; simp
    ·rw [List.getElem_set_ne (Ne.symm e)]; exact HVQ.out k hk (by omega) (by omega)))
   generalize l[q] = i at *
   have HNO := hidX hnone
   have HC := hidX hcall
   clear hcall hnone hgd hg3'
   go_wp2_with fail
   refine HC.out.mono ?_
   rintro e W1 ⟨hj1, hb1, rfl⟩
   have hx1 := (hb1.block w.heap.size hnz (by omega)).trans HXQ.out
   have HX1 := hidX hx1
   have HJ1 := hidX hj1
   have HB1 := hidX (HBQ.out.trans hb1)
   have hz1 := (HBQ.out.trans hb1).size
   cases hr : res i with
   | none =>
    have hrr : rr = none := by rw [← HRS.out]; exact HNO.out hr
    subst hrr
    clear hr hx1 hj1 hb1 kc
    go_wp2
    go_ret2
    exact ⟨HJ1.out, HB1.out, _, _, rfl, rfl⟩
   | some v =>
    have HVV := hidX (HVN.out v hr)
    have f0 := free_of_blk hx1 q
    obtain ⟨u0, c0⟩ : ∃ u, W1.cell? ⟨w.heap.size, q, none⟩ = some u := by rw [cell_of_blk hx1, List.getElem?_toArray]; exact ⟨_, List.getElem?_eq_getElem (by rw [intsG_len]; omega)⟩
    have hs := blk_setCell hx1 q (.int .i64 v)
    rw [List.setIfInBounds_toArray, ints_set] at hs
    have HS := hidX hs
    have HJ2 := hidX (HJ.out W1 (W1.setCell ⟨w.heap.size, q, none⟩ (.int .i64 v)) hj1 (by omega) (Below.setCell (p := ⟨w.heap.size, q, none⟩) (Below.refl _ _) (Nat.le_refl _) _))
    have HB2 := hidX (HB1.out.setNew w.heap.size q (Nat.le_refl _) (.int .i64 v))
    clear hr hx1 hj1 hb1 kc hs
    go_wp2
    go_roundw
    case rel => exact ⟨q + 1, vs.set q v, by omega, by go_num, by rw [List.length_set]; exact hvl, HB2.out, HS.out, HJ2.out, fun k hk hk' h => HVV.out k hk hk' h⟩
    case measure => simp [intOf]; omega
  ·have hqn : q = l.length := by omega
   subst hqn
   have hall := askX_all (res := res) (l := l) (f := fun k => vs.getD k 0) (fun k hk => by
    rw [HVQ.out k hk (by omega) hk]; simp [show k < vs.length by omega])
   have hvs : (List.range l.length).map (fun k => vs.getD k 0) = vs := by
    rw [← hvl]
    apply List.ext_getElem?
    intro k
    by_cases hk : k < vs.length
    ·simp [hk]
    ·rw [List.getElem?_eq_none (by simp; omega), List.getElem?_eq_none (by omega)]
   rw [hvs] at hall
   have hrr : rr = some vs := by rw [← HRS.out]; exact hall
   subst hrr
   have HXR := hidX (show XRow (fun b => w.heap.size ≤ b ∧ b < wr.heap.size) wr (.slice (some ⟨w.heap.size, 0, none⟩) l.length l.length) vs.length (intsG vs) from by
    rw [← hvl]
    exact ⟨_, _, rfl, fun _ => ⟨w.heap.size, 0, rfl, ⟨Nat.le_refl _, hnz⟩, fun j u hu => by rw [Nat.zero_add, cell_of_blk HXQ.out, List.getElem?_toArray]; exact hu⟩⟩)
   clear hall hvs
   go_wp2
   go_ret2
   exact ⟨HJQ.out, HBQ.out, _, _, rfl, rfl, HXR.out⟩
end Go.Proofs.YtlgejjmdanmglaaGreatDoor
