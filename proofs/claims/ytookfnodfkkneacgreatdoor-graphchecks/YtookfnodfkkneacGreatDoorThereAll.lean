/-
  Our own: texts joined: GrThere, GrIsSound.
-/
import Derived.Test.YtookfnodfkkneacGreatDoorGrAskOf
import Derived.Test.YtookfnodfkkneacGreatDoorFlowA

/-
  Our own: the document's model of graphs: are all phis and calls that a value hangs on there?
-/
namespace Go.Proofs.YtookfnodfkkneacGreatDoor
open Go.RowKit

/-- A value is there, at the end of a node. -/
def thereP (L : List Nd) (a v : Nat) : Prop := Star (TkE L) 0 a → ∀ f, Star (Rk L) v f → keeps L f → madeAt L f = a ∨ ¬ Star (Away (TkE L) (fun y => y = madeAt L f)) 0 a
section
variable {ones twos : List (List UInt8)} {Q : Int} {L : List Nd}
theorem keeps_made (hW : WellG ones twos Q L) {f : Nat} (hf : f < L.length) (hk : keeps L f) : madeAt L f < L.length ∧ madeAt L f ≠ 0 := by
  have key : ∀ k, k < L.length → ((ndAt L k).kind = gCall ∨ (ndAt L k).kind = gRegion) → k ≠ 0 := fun k _ h e => by
    subst e
    rw [show ((0 : Nat) : Int) = 0 from rfl, hW.start] at h
    exact absurd h (by decide)
  unfold madeAt
  by_cases h : (ndAt L f).kind = gPhi
  · rw [if_pos h]
    obtain ⟨r, e1, e2, e3, _⟩ := phi_region hW (ndAt_ex hf) h
    have : (ndAt L f).ins.getD 0 0 = (r : Int) := by rw [List.getD_eq_getElem?_getD, e1]; rfl
    rw [this, Int.toNat_natCast]
    exact ⟨e2, key r e2 (Or.inr e3)⟩
  · rw [if_neg h]
    exact ⟨hf, key f hf (Or.inl (hk.resolve_left h))⟩
theorem away_cast {m x : Nat} : Star (Away (TkE L) (fun y => (y : Int) = (m : Int))) 0 x ↔ Star (Away (TkE L) (fun y => y = m)) 0 x :=
  ⟨Star.imp fun a b h => ⟨h.1, fun e => h.2 (by omega)⟩, Star.imp fun a b h => ⟨h.1, fun e => h.2 (by omega)⟩⟩
theorem away_none {x : Nat} : (¬ ((0 : Nat) : Int) = -1 ∧ Star (Away (TkE L) (fun y => (y : Int) = -1)) 0 x) ↔ Star (TkE L) 0 x :=
  ⟨fun h => h.2.imp fun a b h => h.1, fun h => ⟨by decide, h.imp fun a b h => ⟨h, by omega⟩⟩⟩
end
theorem thereP_iff {L : List Nd} {a v : Nat} {out : List Nat} {b : Bool} (hs : b = true ↔ Star (TkE L) 0 a) (ho : ∀ x, x ∈ out ↔ Star (Rk L) v x ∧ keeps L x) : thereP L a v ↔ (b = true → ∀ f ∈ out, madeAt L f = a ∨ ¬ Star (Away (TkE L) (fun y => y = madeAt L f)) 0 a) := by
  unfold thereP
  rw [hs]
  constructor
  · intro h h1 f hf
    obtain ⟨h2, h3⟩ := (ho f).1 hf
    exact h h1 f h2 h3
  · intro h h1 f h2 h3
    exact h h1 f ((ho f).2 ⟨h2, h3⟩)
set_option maxRecDepth 100000 in
set_option maxHeartbeats 2000000 in
theorem isThere_any {w : World} (nm0 : List UInt8) (P : Int) (nv : Value) (L : List Nd) {ones twos : List (List UInt8)} {Q : Int} (hW : WellG ones twos Q L) (hlow : ∀ n ∈ L, LowN n) (hG : XG false (InH w) w nv L) (v a : Nat) (hv : v < L.length) (ha : a < L.length) (ab : Nat) (sn : List Bool) (hsn : w.heap[ab]? = some (.cells (boolsG sn).toArray 4 (0, 0))) (hsl : sn.length = L.length) (hseen : ∀ x, seenP sn x ↔ Star (TkE L) 0 x) :
    Calls Tryz.prog 45 #[.agg #[.string ⟨nm0.toArray⟩, .int .i64 P, nv], .int .i64 v, .int .i64 a, .slice (some ⟨ab, 0, none⟩) L.length L.length] w fun e w' => Below w.heap.size w w' ∧ ∃ b : Bool, e = .returned (.bool b) ∧ (b = true ↔ thereP L a v) := by
  have hL := hW.len.2
  obtain ⟨ad, cap, rfl⟩ := hG.is
  have hL' : (L.length : Int) ≤ 1000 := by omega
  have ha' : (a : Int) < (L.length : Int) := by omega
  obtain ⟨W0, hW0⟩ : ∃ W0, W0 = w.alloc (.cells #[.string ⟨nm0.toArray⟩, .int .i64 P, .slice ad L.length cap] 48) := ⟨_, rfl⟩
  have hb0 : Below w.heap.size w W0 := by rw [hW0]; (repeat (first | exact Below.refl _ _ | assumption | refine Below.drew ?_ | refine Below.trans ?_ (drewN_below' _ _ _) | refine Below.setCell ?_ (by first | (simp; done) | (simp; omega)) _ | refine Below.alloc ?_ (by first | (simp; done) | (simp; omega)) _))
  have hbx : W0.heap[w.heap.size]? = some (.cells #[.string ⟨nm0.toArray⟩, .int .i64 P, .slice ad L.length cap] 48 (0, 0)) := by rw [hW0]; exact heap_alloc_new _ _
  have hax : a < sn.length := by omega
  have hab := heap_lt hsn
  have c1 : w.cell? ⟨ab, a, none⟩ = some (.bool sn[a]) := by rw [cell_of_blk hsn a]; simp [boolsG, hax]
  have hsa : sn[a] = true ↔ Star (TkE L) 0 a := by rw [← hseen a]; unfold seenP; simp [hax]
  have HB0 := hidX hb0
  have HBX := hidX hbx
  have HW := hidX hW
  have HLW := hidX hlow
  have HG := hidX hG
  have HSA := hidX hsa
  have hgx := fun (Y : World) (hY : Below w.heap.size w Y) => hG.imp (inH_up hY) (keepH hY)
  have HGX := hidX hgx
  have HASK := hidX (askedOf_any nm0 P (.slice ad L.length cap) L hW hlow (hgx W0 hb0) v hv)
  clear hW hlow hG hsa hseen hgx hsl hsn
  generalize sn[a] = bs at *
  clear hax
  have d0 := cell_of_blk hbx 0
  have d1 := cell_of_blk hbx 1
  have d2 := cell_of_blk hbx 2
  simp only [List.getElem?_toArray, List.getElem?_cons_zero, List.getElem?_cons_succ] at d0 d1 d2
  clear hb0 hbx
  cases bs with
  | false =>
    have HST := hidX (show ¬ Star (TkE L) 0 a from fun h => absurd (HSA.out.2 h) (by decide))
    clear HSA
    go_enter Tryz.func45, Tryz.ntmps45
    go_wp2_with fail
    rw [← hW0]
    clear hW0
    go_wp2
    go_ret
    refine ⟨HB0.out, true, rfl, fun _ => ?_, fun _ => rfl⟩
    intro h
    exact absurd h HST.out
  | true =>
    have HST := hidX (show Star (TkE L) 0 a from HSA.out.1 rfl)
    clear HSA
    go_enter Tryz.func45, Tryz.ntmps45
    go_wp2_with fail
    rw [← hW0]
    clear hW0
    refine HASK.out.mono ?_
    rintro e W1 ⟨hb1, va, out, rfl, hol, hown, hlt, hout⟩
    obtain ⟨vad, vcap, rfl⟩ := own_is hown
    have hiff := thereP_iff (b := true) ⟨fun _ => HST.out, fun _ => rfl⟩ hout
    have HIF := hidX hiff
    have hx1 := (hb1.block _ (heap_lt HBX.out)).trans HBX.out
    have HX1 := hidX hx1
    have HLT := hidX hlt
    have HROW := hidX (xrow_own hown)
    have HB1 := hidX hb1
    have HK := hidX (fun f (hf : f ∈ out) => ((hout f).1 hf).2)
    have hol' : (out.length : Int) ≤ 1000 := by omega
    clear hiff hx1 hlt hown hb1 hout d0 d1 d2
    go_wp2_with fail
    go_loopw [10] (fun vi wr => ∃ q : Nat, q ≤ out.length ∧ vi = .int .i64 q ∧ Hid (Below W1.heap.size W1 wr) ∧ Hid (∀ f ∈ out.take q, madeAt L f = a ∨ ¬ Star (Away (TkE L) (fun y => y = madeAt L f)) 0 a)) (fun vi _ => out.length - (intOf vi).toNat)
    case atStart => exact ⟨0, Nat.zero_le _, rfl, Below.refl _ _, fun f hf => absurd hf (by simp)⟩
    case round =>
      obtain ⟨q, hq, rfl, HBQ, HFQ⟩ := hrel
      have hw1 : Below w.heap.size w wr := bl_trans HB0.out HB0.out.size (bl_trans HB1.out HB1.out.size HBQ.out)
      have HWQ := hidX hw1
      by_cases hlq : q < out.length
      · have hlq' : (q : Int) < (out.length : Int) := by omega
        obtain ⟨g3, off3, e3, hg3, kc⟩ := HROW.out.nat hlq
        subst e3
        replace kc := (HBQ.out.cell (p := ⟨g3, _, none⟩) hg3.2).trans kc
        have hgd : out.getD q 0 = out[q] := by simp [hlq]
        rw [hgd] at kc
        have htk : out.take (q + 1) = out.take q ++ [out[q]] := List.take_succ_eq_append_getElem hlq
        have hfl := HLT.out _ (List.getElem_mem hlq)
        have hkf := HK.out _ (List.getElem_mem hlq)
        have hmm := List.getElem_mem hlq
        generalize out[q] = f at *
        obtain ⟨hm1, hm0⟩ := keeps_made HW.out hfl hkf
        obtain ⟨gg, goff, ad1, cap1, eg, hgg, _, hrow, k0, k1, _, _⟩ := HG.out.node hfl
        subst eg
        have hgl : gg < w.heap.size := hgg
        replace k0 := (hw1.cell (p := ⟨gg, _, none⟩) hgl).trans k0
        replace k1 := (hw1.cell (p := ⟨gg, _, none⟩) hgl).trans k1
        have hxr := (HBQ.out.block _ (heap_lt HX1.out)).trans HX1.out
        have d0 := cell_of_blk hxr 0
        have d1 := cell_of_blk hxr 1
        have d2 := cell_of_blk hxr 2
        simp only [List.getElem?_toArray, List.getElem?_cons_zero, List.getElem?_cons_succ] at d0 d1 d2
        have hfl' : (f : Int) < (L.length : Int) := by omega
        have hnd : ndAt L (f : Int) = L[f] := by simp [ndAt, hfl]
        have hmd : madeAt L f = if L[f].kind = gPhi then (L[f].ins.getD 0 0).toNat else f := by unfold madeAt; rw [hnd]
        have HRE := hidX (reach_any nm0 P (.slice (some ⟨gg, goff, none⟩) L.length cap) L HW.out HLW.out (HGX.out wr hw1) ((madeAt L f : Nat) : Int))
        have hphl : L[f].kind = gPhi → 1 ≤ L[f].ins.length := fun h => by
          have := (fits_len (HW.out.node.at (ndAt_ex hfl)).fits).2.2.2.2.2.1 (by rw [hnd]; exact h)
          rwa [hnd] at this
        have hpos : ∀ y ∈ L[f].ins, 0 ≤ y := fun y hy => ((HW.out.node.at (ndAt_ex hfl)).bnd y (by rw [hnd]; exact hy)).1
        generalize L[f] = n at *
        generalize hmade : madeAt L f = m at *
        have HMD := hidX hmade
        have HTK := hidX htk
        have HMM := hidX hmm
        clear hmade htk hmm hkf hnd hxr hgd
        by_cases ck : n.kind = gPhi
        · have t1 : (n.kind == [112, 104, 105]) = true := by rw [ck]; decide
          rw [if_pos ck] at hmd
          have hl1 := hphl ck
          have hlk : 0 < n.ins.length := by omega
          obtain ⟨g4, off4, e4, hg4, kd⟩ := hrow.int hlk
          subst e4
          have hg4l : g4 < w.heap.size := hg4
          replace kd := (hw1.cell (p := ⟨g4, _, none⟩) hg4l).trans kd
          rw [Nat.add_zero] at kd
          have hi0 : n.ins[0] = (m : Int) := by
            have h1 := hpos _ (List.getElem_mem hlk)
            have h2 : n.ins.getD 0 0 = n.ins[0] := by simp [hlk]
            rw [h2] at hmd
            omega
          rw [hi0] at kd
          have hl1' : (1 : Int) ≤ (n.ins.length : Int) := by omega
          clear hmd hi0 hrow hpos hphl ck
          by_cases hma : m = a
          · have hte : ((m : Int) == (a : Int)) = true := by simp [hma]
            have HMA := hidX hma
            clear hma hm0 hm1
            go_wp2
            go_roundw
            case rel => exact ⟨q + 1, by omega, by go_num, HBQ.out, fun g hg => (by
              rw [HTK.out] at hg
              rcases List.mem_append.1 hg with h | h
              · exact HFQ.out g h
              · rw [List.mem_singleton] at h
                subst h
                rw [HMD.out]
                exact Or.inl HMA.out)⟩
            case measure => simp [intOf]; omega
          · have hte : ((m : Int) == (a : Int)) = false := by simp; omega
            have HMA := hidX hma
            clear hma
            go_wp2_with fail
            refine HRE.out.mono ?_
            rintro e W2 ⟨hb2, sn2, rfl, hsn2, hsl2, hse2⟩
            have hax2 : a < sn2.length := by omega
            have c2 : W2.cell? ⟨wr.heap.size + 1, a, none⟩ = some (.bool sn2[a]) := by rw [cell_of_blk hsn2 a]; simp [boolsG, hax2]
            have hsa2 : sn2[a] = true ↔ Star (Away (TkE L) (fun y => y = m)) 0 a := by
              have := hse2 a
              rw [away_cast] at this
              unfold seenP at this
              rw [List.getElem?_eq_getElem hax2] at this
              constructor
              · intro h; exact (this.1 (by rw [h])).2
              · intro h
                have h2 := this.2 ⟨by omega, h⟩
                injection h2
            have HSA2 := hidX hsa2
            have HB2 := hidX (bl_trans HBQ.out HBQ.out.size hb2)
            have HWB := hidX (bl_trans HWQ.out HWQ.out.size hb2)
            clear hsa2 hsn2 hse2 hb2
            generalize sn2[a] = bb at *
            clear hax2 hsl2
            cases bb with
            | true =>
              go_wp2
              go_ret
              refine ⟨HWB.out, false, rfl, fun h => (by cases h), fun h => ?_⟩
              have h1 := HIF.out.1 h (by trivial) _ HMM.out
              rw [HMD.out] at h1
              exact absurd (HSA2.out.1 (by trivial)) (h1.resolve_left HMA.out)
            | false =>
              go_wp2
              go_roundw
              case rel => exact ⟨q + 1, by omega, by go_num, HB2.out, fun g hg => (by
                rw [HTK.out] at hg
                rcases List.mem_append.1 hg with h | h
                · exact HFQ.out g h
                · rw [List.mem_singleton] at h
                  subst h
                  rw [HMD.out]
                  exact Or.inr (fun h3 => absurd (HSA2.out.2 h3) (by simp)))⟩
              case measure => simp [intOf]; omega
        · have t1 : (n.kind == [112, 104, 105]) = false := ne_lit ck
          rw [if_neg ck] at hmd
          subst hmd
          clear hrow hpos hphl ck
          by_cases hma : m = a
          · have hte : ((m : Int) == (a : Int)) = true := by simp [hma]
            have HMA := hidX hma
            clear hma hm0 hm1
            go_wp2
            go_roundw
            case rel => exact ⟨q + 1, by omega, by go_num, HBQ.out, fun g hg => (by
              rw [HTK.out] at hg
              rcases List.mem_append.1 hg with h | h
              · exact HFQ.out g h
              · rw [List.mem_singleton] at h
                subst h
                rw [HMD.out]
                exact Or.inl HMA.out)⟩
            case measure => simp [intOf]; omega
          · have hte : ((m : Int) == (a : Int)) = false := by simp; omega
            have HMA := hidX hma
            clear hma
            go_wp2_with fail
            refine HRE.out.mono ?_
            rintro e W2 ⟨hb2, sn2, rfl, hsn2, hsl2, hse2⟩
            have hax2 : a < sn2.length := by omega
            have c2 : W2.cell? ⟨wr.heap.size + 1, a, none⟩ = some (.bool sn2[a]) := by rw [cell_of_blk hsn2 a]; simp [boolsG, hax2]
            have hsa2 : sn2[a] = true ↔ Star (Away (TkE L) (fun y => y = m)) 0 a := by
              have := hse2 a
              rw [away_cast] at this
              unfold seenP at this
              rw [List.getElem?_eq_getElem hax2] at this
              constructor
              · intro h; exact (this.1 (by rw [h])).2
              · intro h
                have h2 := this.2 ⟨by omega, h⟩
                injection h2
            have HSA2 := hidX hsa2
            have HB2 := hidX (bl_trans HBQ.out HBQ.out.size hb2)
            have HWB := hidX (bl_trans HWQ.out HWQ.out.size hb2)
            clear hsa2 hsn2 hse2 hb2
            generalize sn2[a] = bb at *
            clear hax2 hsl2
            cases bb with
            | true =>
              go_wp2
              go_ret
              refine ⟨HWB.out, false, rfl, fun h => (by cases h), fun h => ?_⟩
              have h1 := HIF.out.1 h (by trivial) _ HMM.out
              rw [HMD.out] at h1
              exact absurd (HSA2.out.1 (by trivial)) (h1.resolve_left HMA.out)
            | false =>
              go_wp2
              go_roundw
              case rel => exact ⟨q + 1, by omega, by go_num, HB2.out, fun g hg => (by
                rw [HTK.out] at hg
                rcases List.mem_append.1 hg with h | h
                · exact HFQ.out g h
                · rw [List.mem_singleton] at h
                  subst h
                  rw [HMD.out]
                  exact Or.inr (fun h3 => absurd (HSA2.out.2 h3) (by simp)))⟩
              case measure => simp [intOf]; omega
      · have hqn : q = out.length := by omega
        subst hqn
        have hf := HFQ.out
        rw [List.take_length] at hf
        have HFF := hidX hf
        clear hf hw1
        go_wp2
        go_ret
        exact ⟨HWQ.out, true, rfl, fun _ => HIF.out.2 fun _ => HFF.out, fun _ => rfl⟩
end Go.Proofs.YtookfnodfkkneacGreatDoor

/-
  Our own: the document's model of graphs: is a graph sound?
-/
namespace Go.Proofs.YtookfnodfkkneacGreatDoor
open Go.RowKit

/-- Who asks, at which end: a node's k-th. -/
def aOf (L : List Nd) (n : Nd) (k : Nat) : Nat := if n.kind = gPhi then ((ndAt L (n.ins.getD 0 0)).ins.getD (k - 1) 0).toNat else (n.ins.getD 0 0).toNat
def asks (n : Nd) : Prop := n.kind = gIf ∨ n.kind = gPrint ∨ n.kind = gReturn ∨ n.kind = gCall ∨ n.kind = gPhi
def okAt (L : List Nd) (j : Nat) : Prop := asks (ndAt L j) → ∀ k, 1 ≤ k → k < (ndAt L j).ins.length → thereP L (aOf L (ndAt L j) k) ((ndAt L j).ins.getD k 0).toNat
section
variable {ones twos : List (List UInt8)} {Q : Int} {L : List Nd}
theorem sound_there : SoundR L ↔ ∀ a v : Nat, Ask L a (v : Int) → thereP L a v := by
  unfold SoundR thereP
  constructor
  · intro h a v h1 h2 f h3 h4; exact h a v f h1 h2 h3 h4
  · intro h a v f h1 h2 h3 h4; exact h a v h1 h2 f h3 h4
theorem sound_ok (hW : WellG ones twos Q L) : SoundR L ↔ ∀ j, j < L.length → okAt L j := by
  rw [sound_there]
  constructor
  · intro h j hj hA k h1 h2
    have hx := ndAt_ex hj
    have W := hW.node.at hx
    have hgk := ins_get h2
    have hbk := W.bnd _ (List.mem_of_getElem? hgk)
    have h0 : 0 < (ndAt L j).ins.length := by omega
    have hg0 := ins_get h0
    have hb0 := W.bnd _ (List.mem_of_getElem? hg0)
    refine h _ _ ⟨j, _, hx, ?_⟩
    have hv : (((ndAt L j).ins.getD k 0).toNat : Int) = (ndAt L j).ins.getD k 0 := by omega
    by_cases hp : (ndAt L j).kind = gPhi
    · right
      obtain ⟨r, e1, e2, e3, e4⟩ := phi_region hW hx hp
      have e5 : (ndAt L j).ins.getD 0 0 = (r : Int) := by rw [List.getD_eq_getElem?_getD, e1]; rfl
      have hkr : k - 1 < (ndAt L (r : Int)).ins.length := by omega
      have hgr := ins_get hkr
      have hbr := (hW.node.at (ndAt_ex e2)).bnd _ (List.mem_of_getElem? hgr)
      refine ⟨hp, r, _, k - 1, e1, ndAt_ex e2, ?_, ?_⟩
      · unfold aOf
        rw [if_pos hp, e5, hgr]
        congr 1
        omega
      · rw [show k - 1 + 1 = k by omega, hgk, hv]
    · left
      refine ⟨?_, ?_, k - 1, ?_⟩
      · rcases hA with h | h | h | h | h
        · exact Or.inl h
        · exact Or.inr (Or.inl h)
        · exact Or.inr (Or.inr (Or.inl h))
        · exact Or.inr (Or.inr (Or.inr h))
        · exact absurd h hp
      · unfold aOf
        rw [if_neg hp, hg0]
        congr 1
        omega
      · rw [show k - 1 + 1 = k by omega, hgk, hv]
  · rintro h a v ⟨j, n, h1, ⟨h2, h3, k, h4⟩ | ⟨h2, r, m, k, h3, h4, h5, h6⟩⟩
    · have hn := ndAt_of h1
      have := h j (lt_of_at h1) (by rw [hn]; rcases h2 with h | h | h | h; exact Or.inl h; exact Or.inr (Or.inl h); exact Or.inr (Or.inr (Or.inl h)); exact Or.inr (Or.inr (Or.inr (Or.inl h)))) (k + 1) (by omega) (by rw [hn]; exact lt_of_at h4)
      rw [hn] at this
      unfold aOf at this
      rw [if_neg (fun e => by rw [e] at h2; exact absurd h2 (by decide)), List.getD_eq_getElem?_getD, h3, List.getD_eq_getElem?_getD, h4] at this
      simpa using this
    · have hn := ndAt_of h1
      have := h j (lt_of_at h1) (by rw [hn]; exact Or.inr (Or.inr (Or.inr (Or.inr h2)))) (k + 1) (by omega) (by rw [hn]; exact lt_of_at h6)
      rw [hn] at this
      unfold aOf at this
      rw [if_pos h2, List.getD_eq_getElem?_getD (l := n.ins) (i := 0), h3, List.getD_eq_getElem?_getD, List.getD_eq_getElem?_getD, h6] at this
      simp only [Option.getD_some, Nat.add_sub_cancel] at this
      rw [ndAt_of h4, h5] at this
      simpa using this
end
set_option maxRecDepth 100000 in
set_option maxHeartbeats 4000000 in
theorem isSound_any {w : World} (nm0 : List UInt8) (P : Int) (nv : Value) (L : List Nd) {ones twos : List (List UInt8)} {Q : Int} (hW : WellG ones twos Q L) (hlow : ∀ n ∈ L, LowN n) (hG : XG false (InH w) w nv L) :
    Calls Tryz.prog 20 #[.agg #[.string ⟨nm0.toArray⟩, .int .i64 P, nv]] w fun e w' => Below w.heap.size w w' ∧ ∃ b : Bool, e = .returned (.bool b) ∧ (b = true ↔ SoundR L) := by
  have hL := hW.len.2
  obtain ⟨ad, cap, rfl⟩ := hG.is
  have hL' : (L.length : Int) ≤ 1000 := by omega
  obtain ⟨W0, hW0⟩ : ∃ W0, W0 = w.alloc (.cells #[.string ⟨nm0.toArray⟩, .int .i64 P, .slice ad L.length cap] 48) := ⟨_, rfl⟩
  have hb0 : Below w.heap.size w W0 := by rw [hW0]; (repeat (first | exact Below.refl _ _ | assumption | refine Below.drew ?_ | refine Below.trans ?_ (drewN_below' _ _ _) | refine Below.setCell ?_ (by first | (simp; done) | (simp; omega)) _ | refine Below.alloc ?_ (by first | (simp; done) | (simp; omega)) _))
  have hz0 : W0.heap.size = w.heap.size + 1 := by rw [hW0]; simp
  have hbx : W0.heap[w.heap.size]? = some (.cells #[.string ⟨nm0.toArray⟩, .int .i64 P, .slice ad L.length cap] 48 (0, 0)) := by rw [hW0]; exact heap_alloc_new _ _
  have hre := reach_any nm0 P (.slice ad L.length cap) L hW hlow (hG.imp (inH_up hb0) (keepH hb0)) (-1)
  rw [hz0] at hre
  have HRE := hidX hre
  have HB0 := hidX hb0
  have HBX := hidX hbx
  have HW := hidX hW
  have HLW := hidX hlow
  have HG := hidX hG
  have HZ0 := hidX hz0
  have d0 := cell_of_blk hbx 0
  have d1 := cell_of_blk hbx 1
  have d2 := cell_of_blk hbx 2
  simp only [List.getElem?_toArray, List.getElem?_cons_zero, List.getElem?_cons_succ] at d0 d1 d2
  clear hW hlow hG hre hb0 hbx hz0
  go_enter Tryz.func20, Tryz.ntmps20
  go_wp2_with fail
  rw [← hW0]
  clear hW0
  refine HRE.out.mono ?_
  rintro e W1 ⟨hb1, sn, rfl, hsn, hsl, hse⟩
  have hb1' : Below W0.heap.size W0 W1 := by rw [HZ0.out]; exact hb1
  have HSN1 := hidX hsn
  have HSE := hidX (fun x => (hse x).trans away_none)
  have HXB1 := hidX ((hb1'.block _ (heap_lt HBX.out)).trans HBX.out)
  have HB1 := hidX (bl_trans HB0.out HB0.out.size hb1')
  clear hb1 hb1' hsn hse d0 d1 d2
  go_wp2_with fail
  go_loopw [4] (fun vi wr => ∃ q : Nat, q ≤ L.length ∧ vi = .int .i64 q ∧ Hid (Below W1.heap.size W1 wr) ∧ Hid (∀ i, i < q → okAt L i)) (fun vi _ => L.length - (intOf vi).toNat)
  case atStart => exact ⟨0, Nat.zero_le _, rfl, Below.refl _ _, fun i hi => absurd hi (by omega)⟩
  case round =>
    obtain ⟨q, hq, rfl, HBQ, HOK⟩ := hrel
    obtain ⟨wo, hwo⟩ : ∃ wo, wo = wr := ⟨_, rfl⟩
    subst hwo
    have hwq : Below w.heap.size w wo := bl_trans HB1.out HB1.out.size HBQ.out
    have HWQ := hidX hwq
    have hxw := (HBQ.out.block _ (heap_lt HXB1.out)).trans HXB1.out
    have b2 : wo.cell? ⟨w.heap.size, 2, none⟩ = some (.slice ad L.length cap) := cell_of_blk hxw 2
    by_cases hlt : q < L.length
    · have hlt' : (q : Int) < (L.length : Int) := by omega
      obtain ⟨gg, goff, ad1, cap1, e1, hgg, _, hrow, k0, k1, k2, k3⟩ := HG.out.node hlt
      subst e1
      have hgl : gg < w.heap.size := hgg
      replace k0 := (hwq.cell (p := ⟨gg, _, none⟩) hgl).trans k0
      replace k1 := (hwq.cell (p := ⟨gg, _, none⟩) hgl).trans k1
      replace k2 := (hwq.cell (p := ⟨gg, _, none⟩) hgl).trans k2
      replace k3 := (hwq.cell (p := ⟨gg, _, none⟩) hgl).trans k3
      have hnd : ndAt L (q : Int) = L[q] := by simp [ndAt, hlt]
      have hWn := HW.out.node.at (ndAt_ex hlt)
      rw [hnd] at hWn
      have hln := (HLW.out _ (List.getElem_mem hlt)).ins
      have hok : okAt L q ↔ (asks L[q] → ∀ k, 1 ≤ k → k < L[q].ins.length → thereP L (aOf L L[q] k) (L[q].ins.getD k 0).toNat) := by unfold okAt; rw [hnd]
      have hphr : L[q].kind = gPhi → ∃ r : Nat, L[q].ins[0]? = some (r : Int) ∧ r < L.length ∧ L[q].ins.length = (ndAt L r).ins.length + 1 := fun h => by
        obtain ⟨r, e1, e2, _, e4⟩ := phi_region HW.out (ndAt_ex hlt) (by rw [hnd]; exact h)
        rw [hnd] at e1 e4
        exact ⟨r, e1, e2, e4⟩
      generalize L[q] = n at *
      obtain ⟨X1, hX1⟩ : ∃ X1, X1 = wo.alloc (.cells #[.string ⟨n.kind.toArray⟩, .slice ad1 n.ins.length cap1, .int .i64 n.num, .string ⟨n.name.toArray⟩] 93) := ⟨_, rfl⟩
      have hb1 : Below wo.heap.size wo X1 := by rw [hX1]; (repeat (first | exact Below.refl _ _ | assumption | refine Below.drew ?_ | refine Below.trans ?_ (drewN_below' _ _ _) | refine Below.setCell ?_ (by first | (simp; done) | (simp; omega)) _ | refine Below.alloc ?_ (by first | (simp; done) | (simp; omega)) _))
      have hx1 : X1.heap[wo.heap.size]? = some (.cells #[.string ⟨n.kind.toArray⟩, .slice ad1 n.ins.length cap1, .int .i64 n.num, .string ⟨n.name.toArray⟩] 93 (0, 0)) := by rw [hX1]; exact heap_alloc_new _ _
      have HX1 := hidX hx1
      have HBX1 := hidX (bl_trans HBQ.out HBQ.out.size hb1)
      have HX1W := hidX (bl_trans hwq hwq.size hb1)
      have HXB := hidX ((hb1.block _ (heap_lt hxw)).trans hxw)
      have HSN := hidX (((hb1.block _ (by have := heap_lt HSN1.out; have := HBQ.out.size; omega)).trans (HBQ.out.block _ (heap_lt HSN1.out))).trans HSN1.out)
      have HROW0 := hidX hrow
      have HWN := hidX hWn
      have HOKN0 := hidX hok
      have HPHR := hidX hphr
      have HBND := hidX hWn.bnd
      have hll : (n.ins.length : Int) ≤ 1000 := by omega
      clear hx1 hb1 hxw hwq hrow hWn hok hphr hnd
      by_cases ca : n.kind = gIf ∨ n.kind = gPrint ∨ n.kind = gReturn ∨ n.kind = gCall
      · have hck : n.kind ≠ gPhi := fun e => by rw [e] at ca; exact absurd ca (by decide)
        have HCK := hidX hck
        have hl1 : 1 ≤ n.ins.length := by
          have h := fits_len HWN.out.fits
          rcases ca with e | e | e | e
          · have := h.2.2.2.2.2.2.2.1 e; omega
          · have := h.2.2.2.2.2.2.2.2.2.2.2.1 e; omega
          · have := h.2.2.2.2.2.2.2.2.2.2.2.2.2 e; omega
          · exact h.2.2.2.2.2.2.2.2.2.2.2.2.1 e
        have HOKN := hidX (show okAt L q ↔ ∀ k, 1 ≤ k → k < n.ins.length → thereP L (aOf L n k) (n.ins.getD k 0).toNat from HOKN0.out.trans ⟨fun h => h (by rcases ca with e | e | e | e; exact Or.inl e; exact Or.inr (Or.inl e); exact Or.inr (Or.inr (Or.inl e)); exact Or.inr (Or.inr (Or.inr (Or.inl e)))), fun h _ => h⟩)
        obtain ⟨g4, off4, e4, _, _⟩ := HROW0.out.int (k := 0) (by omega)
        subst e4
        have HROW := HROW0
        have hb00 := HBND.out (n.ins[0]'(by omega)) (List.getElem_mem _)
        obtain ⟨v0, hv00⟩ : ∃ v0 : Nat, n.ins[0]'(by omega) = (v0 : Int) := ⟨(n.ins[0]'(by omega)).toNat, by omega⟩
        have HV0 := hidX (show n.ins.getD 0 0 = (v0 : Int) by rw [← hv00]; simp [show 0 < n.ins.length by omega])
        have hv0 : v0 < L.length := by rw [hv00] at hb00; omega
        clear hv00 hb00 hck
        have hkk : ((n.kind == [105, 102]) = true ∨ ((n.kind == [105, 102]) = false ∧ (n.kind == [112, 114, 105, 110, 116]) = true) ∨ ((n.kind == [105, 102]) = false ∧ (n.kind == [112, 114, 105, 110, 116]) = false ∧ (n.kind == [114, 101, 116, 117, 114, 110]) = true) ∨ ((n.kind == [105, 102]) = false ∧ (n.kind == [112, 114, 105, 110, 116]) = false ∧ (n.kind == [114, 101, 116, 117, 114, 110]) = false ∧ (n.kind == [99, 97, 108, 108]) = true)) := by
          rcases ca with h | h | h | h <;> rw [h] <;> decide
        clear ca
        rcases hkk with hkk | ⟨hkk, hkk2⟩ | ⟨hkk, hkk2, hkk3⟩ | ⟨hkk, hkk2, hkk3, hkk4⟩
        all_goals (
          go_wp2_with fail
          rw [← hX1]
          clear hX1 k0 k1 k2 k3
          go_loopw [6] (fun vi wr => ∃ k : Nat, 1 ≤ k ∧ k ≤ n.ins.length ∧ vi = .int .i64 k ∧ Hid (Below X1.heap.size X1 wr) ∧ Hid (∀ j, 1 ≤ j → j < k → thereP L (aOf L n j) (n.ins.getD j 0).toNat)) (fun vi _ => n.ins.length - (intOf vi).toNat)
          case atStart => exact ⟨1, Nat.le_refl _, hl1, rfl, Below.refl _ _, fun j h1 h2 => absurd h2 (by omega)⟩
          case round =>
            obtain ⟨k, hk1, hkl, rfl, HBK, HTK⟩ := hrel
            have hwr : Below w.heap.size w wr := bl_trans HX1W.out HX1W.out.size HBK.out
            have HWR := hidX hwr
            have hxq := (HBK.out.block _ (heap_lt HXB.out)).trans HXB.out
            have HXQ := hidX hxq
            have hnb := (HBK.out.block _ (heap_lt HX1.out)).trans HX1.out
            have HNB := hidX hnb
            have z1 : wr.cell? ⟨wo.heap.size, 1, none⟩ = some (.slice (some ⟨g4, off4, none⟩) n.ins.length cap1) := cell_of_blk hnb 1
            have hk1' : (1 : Int) ≤ (k : Int) := by omega
            by_cases hlk : k < n.ins.length
            · have hlk' : (k : Int) < (n.ins.length : Int) := by omega
              have hn0' : (0 : Int) < (n.ins.length : Int) := by omega
              have hn0 : 0 < n.ins.length := by omega
              have d0 := cell_of_blk hxq 0
              have d1 := cell_of_blk hxq 1
              have d2 := cell_of_blk hxq 2
              simp only [List.getElem?_toArray, List.getElem?_cons_zero, List.getElem?_cons_succ] at d0 d1 d2
              obtain ⟨g4', off4', e4', hg4, kc⟩ := HROW.out.int hlk
              injection e4' with e4'
              injection e4' with e4' e4''
              subst e4' e4''
              obtain ⟨g4', off4', e4', _, kd⟩ := HROW.out.int (k := 0) (by omega)
              injection e4' with e4'
              injection e4' with e4' e4''
              subst e4' e4''
              replace kc := (hwr.cell (p := ⟨g4, _, none⟩) hg4).trans kc
              replace kd := (hwr.cell (p := ⟨g4, _, none⟩) hg4).trans kd
              have hbk := HBND.out _ (List.getElem_mem hlk)
              obtain ⟨vk, hvk⟩ : ∃ vk : Nat, n.ins[k] = (vk : Int) := ⟨n.ins[k].toNat, by omega⟩
              have hv0i : n.ins[0]'(by omega) = (v0 : Int) := by
                have h1 : n.ins.getD 0 0 = n.ins[0]'(by omega) := by simp [show 0 < n.ins.length by omega]
                rw [← h1]; exact HV0.out
              rw [hvk] at kc hbk
              rw [hv0i, Nat.add_zero] at kd
              have hvV : (n.ins.getD k 0).toNat = vk := by
                have h1 : n.ins.getD k 0 = n.ins[k] := by simp [hlk]
                rw [h1, hvk, Int.toNat_natCast]
              have hvkl : vk < L.length := by omega
              have haA : aOf L n k = v0 := by
                unfold aOf
                rw [if_neg HCK.out, HV0.out, Int.toNat_natCast]
              have havl : v0 < L.length := hv0
              have hcall : ∀ Y, Below wr.heap.size wr Y → Calls Tryz.prog 45 #[.agg #[.string ⟨nm0.toArray⟩, .int .i64 P, .slice (some ⟨gg, goff, none⟩) L.length cap], .int .i64 (vk : Int), .int .i64 (v0 : Int), .slice (some ⟨w.heap.size + 1 + 1, 0, none⟩) L.length L.length] Y fun e w' => ∃ b : Bool, e = .returned (.bool b) ∧ (Below wr.heap.size wr w' ∧ (b = true ↔ thereP L (aOf L n k) (n.ins.getD k 0).toNat)) := fun Y hY => by
                have hwy := bl_trans hwr hwr.size hY
                rw [haA, hvV]
                refine (isThere_any nm0 P (.slice (some ⟨gg, goff, none⟩) L.length cap) L HW.out HLW.out (HG.out.imp (inH_up hwy) (keepH hwy)) vk v0 hvkl havl (w.heap.size + 1 + 1) sn ((hY.block _ (by have := heap_lt HSN.out; have := HBK.out.size; omega)).trans ((HBK.out.block _ (heap_lt HSN.out)).trans HSN.out)) hsl HSE.out).mono ?_
                rintro e w' ⟨h1, b, h2, h3⟩
                exact ⟨b, h2, bl_trans hY hY.size h1, h3⟩
              have HC := hidX hcall
              have hkeep : ∀ W : World, Below wr.heap.size wr W → W.cell? ⟨w.heap.size, 0, none⟩ = some (.string ⟨nm0.toArray⟩) ∧ W.cell? ⟨w.heap.size, 1, none⟩ = some (.int .i64 P) ∧ W.cell? ⟨w.heap.size, 2, none⟩ = some (.slice (some ⟨gg, goff, none⟩) L.length cap) ∧ W.cell? ⟨wo.heap.size, 1, none⟩ = some (.slice (some ⟨g4, off4, none⟩) n.ins.length cap1) ∧ W.cell? ⟨g4, off4 + k, none⟩ = some (.int .i64 (vk : Int)) ∧ W.cell? ⟨g4, off4, none⟩ = some (.int .i64 (v0 : Int)) := fun W hb => ⟨(hb.cell (p := ⟨w.heap.size, 0, none⟩) (heap_lt HXQ.out)).trans d0, (hb.cell (p := ⟨w.heap.size, 1, none⟩) (heap_lt HXQ.out)).trans d1, (hb.cell (p := ⟨w.heap.size, 2, none⟩) (heap_lt HXQ.out)).trans d2, (hb.cell (p := ⟨wo.heap.size, 1, none⟩) (heap_lt HNB.out)).trans z1, (hb.cell (p := ⟨g4, _, none⟩) (cell_lt kc)).trans kc, (hb.cell (p := ⟨g4, _, none⟩) (cell_lt kd)).trans kd⟩
              have HK := hidX hkeep
              clear hcall hkeep hvV haA hvk hv0i hbk hxq hnb hwr d0 d1 d2 z1 kc kd
              have zz : wr.cell? ⟨wo.heap.size, 1, none⟩ = some (.slice (some ⟨g4, off4, none⟩) n.ins.length cap1) := cell_of_blk HNB.out 1
              go_wp2_with fail
              clear zz
              go_region_held3 (fun W => W.cell? ⟨w.heap.size, 0, none⟩ = some (.string ⟨nm0.toArray⟩) ∧ W.cell? ⟨w.heap.size, 1, none⟩ = some (.int .i64 P) ∧ W.cell? ⟨w.heap.size, 2, none⟩ = some (.slice (some ⟨gg, goff, none⟩) L.length cap) ∧ W.cell? ⟨wo.heap.size, 1, none⟩ = some (.slice (some ⟨g4, off4, none⟩) n.ins.length cap1) ∧ W.cell? ⟨g4, off4 + k, none⟩ = some (.int .i64 (vk : Int)) ∧ W.cell? ⟨g4, off4, none⟩ = some (.int .i64 (v0 : Int)))
                (first | with_reducible exact s9 | exact HK.out _ (by (repeat (first | exact Below.refl _ _ | assumption | refine Below.drew ?_ | refine Below.trans ?_ (drewN_below' _ _ _) | refine Below.setCell ?_ (by first | (simp; done) | (simp; omega)) _ | refine Below.alloc ?_ (by first | (simp; done) | (simp; omega)) _))))
                (first
                  | (go_at_call 45; refine (HC.out _ (by (repeat (first | exact Below.refl _ _ | assumption | refine Below.drew ?_ | refine Below.trans ?_ (drewN_below' _ _ _) | refine Below.setCell ?_ (by first | (simp; done) | (simp; omega)) _ | refine Below.alloc ?_ (by first | (simp; done) | (simp; omega)) _)))).mono ?_; rintro e X9 ⟨bb, rfl, hb9, hi9⟩; have s9 := HK.out _ hb9; have HI9 := hidX hi9; have HB9 := hidX hb9; clear hi9 hb9))
              all_goals (
                cases bb with
                | true =>
                  have HT9 := hidX (show thereP L (aOf L n k) (n.ins.getD k 0).toNat from HI9.out.1 rfl)
                  clear HI9
                  go_wp2
                  go_roundw
                  case rel => exact ⟨k + 1, by omega, by omega, by go_num, bl_trans HBK.out HBK.out.size HB9.out, fun j h1 h2 => (by
                    by_cases e : j = k
                    · subst e; exact HT9.out
                    · exact HTK.out j h1 (by omega))⟩
                  case measure => simp [intOf]; omega
                | false =>
                  have HT9 := hidX (show ¬ thereP L (aOf L n k) (n.ins.getD k 0).toNat from fun h => absurd (HI9.out.2 h) (by decide))
                  clear HI9
                  go_wp2
                  go_ret
                  exact ⟨bl_trans HWR.out HWR.out.size HB9.out, false, rfl, fun h => (by cases h), fun h => absurd (HOKN.out.1 (sound_ok HW.out |>.1 h q hlt) k hk1 hlk) HT9.out⟩)
            · have hkn : k = n.ins.length := by omega
              subst hkn
              have HOKQ := hidX (HOKN.out.2 fun j h1 h2 => HTK.out j h1 h2)
              have HBW := hidX (bl_trans HBX1.out HBX1.out.size HBK.out)
              clear hwr hxq hnb
              go_wp2
              go_roundw
              case rel => exact ⟨q + 1, by omega, by go_num, HBW.out, fun i hi => (by
                by_cases e : i = q
                · subst e; exact HOKQ.out
                · exact HOK.out i (by omega))⟩
              case measure => simp [intOf]; omega)
      · by_cases cp : n.kind = gPhi
        · have HCK := hidX cp
          have t1 : (n.kind == [105, 102]) = false := by rw [cp]; decide
          have t2 : (n.kind == [112, 114, 105, 110, 116]) = false := by rw [cp]; decide
          have t3 : (n.kind == [114, 101, 116, 117, 114, 110]) = false := by rw [cp]; decide
          have t4 : (n.kind == [99, 97, 108, 108]) = false := by rw [cp]; decide
          have t5 : (n.kind == [112, 104, 105]) = true := by rw [cp]; decide
          have hl1 : 1 ≤ n.ins.length := (fits_len HWN.out.fits).2.2.2.2.2.1 cp
          have HOKN := hidX (show okAt L q ↔ ∀ k, 1 ≤ k → k < n.ins.length → thereP L (aOf L n k) (n.ins.getD k 0).toNat from HOKN0.out.trans ⟨fun h => h (Or.inr (Or.inr (Or.inr (Or.inr cp)))), fun h _ => h⟩)
          obtain ⟨g4, off4, e4, _, _⟩ := HROW0.out.int (k := 0) (by omega)
          subst e4
          have HROW := HROW0
          obtain ⟨v0, hv00, hv0, hrl⟩ := HPHR.out cp
          have HV0 := hidX (show n.ins.getD 0 0 = (v0 : Int) by rw [List.getD_eq_getElem?_getD, hv00]; rfl)
          have hndv : ndAt L (v0 : Int) = L[v0] := by simp [ndAt, hv0]
          rw [hndv] at hrl
          have HRL := hidX hrl
          clear hv00 cp ca hrl
          go_wp2_with fail
          rw [← hX1]
          clear hX1 k0 k1 k2 k3
          go_loopw [8] (fun vi wr => ∃ k : Nat, 1 ≤ k ∧ k ≤ n.ins.length ∧ vi = .int .i64 k ∧ Hid (Below X1.heap.size X1 wr) ∧ Hid (∀ j, 1 ≤ j → j < k → thereP L (aOf L n j) (n.ins.getD j 0).toNat)) (fun vi _ => n.ins.length - (intOf vi).toNat)
          case atStart => exact ⟨1, Nat.le_refl _, hl1, rfl, Below.refl _ _, fun j h1 h2 => absurd h2 (by omega)⟩
          case round =>
            obtain ⟨k, hk1, hkl, rfl, HBK, HTK⟩ := hrel
            have hwr : Below w.heap.size w wr := bl_trans HX1W.out HX1W.out.size HBK.out
            have HWR := hidX hwr
            have hxq := (HBK.out.block _ (heap_lt HXB.out)).trans HXB.out
            have HXQ := hidX hxq
            have hnb := (HBK.out.block _ (heap_lt HX1.out)).trans HX1.out
            have HNB := hidX hnb
            have z1 : wr.cell? ⟨wo.heap.size, 1, none⟩ = some (.slice (some ⟨g4, off4, none⟩) n.ins.length cap1) := cell_of_blk hnb 1
            have hk1' : (1 : Int) ≤ (k : Int) := by omega
            by_cases hlk : k < n.ins.length
            · have hlk' : (k : Int) < (n.ins.length : Int) := by omega
              have hn0' : (0 : Int) < (n.ins.length : Int) := by omega
              have hn0 : 0 < n.ins.length := by omega
              have d0 := cell_of_blk hxq 0
              have d1 := cell_of_blk hxq 1
              have d2 := cell_of_blk hxq 2
              simp only [List.getElem?_toArray, List.getElem?_cons_zero, List.getElem?_cons_succ] at d0 d1 d2
              obtain ⟨g4', off4', e4', hg4, kc⟩ := HROW.out.int hlk
              injection e4' with e4'
              injection e4' with e4' e4''
              subst e4' e4''
              obtain ⟨g4', off4', e4', _, kd⟩ := HROW.out.int (k := 0) (by omega)
              injection e4' with e4'
              injection e4' with e4' e4''
              subst e4' e4''
              replace kc := (hwr.cell (p := ⟨g4, _, none⟩) hg4).trans kc
              replace kd := (hwr.cell (p := ⟨g4, _, none⟩) hg4).trans kd
              have hbk := HBND.out _ (List.getElem_mem hlk)
              obtain ⟨vk, hvk⟩ : ∃ vk : Nat, n.ins[k] = (vk : Int) := ⟨n.ins[k].toNat, by omega⟩
              have hv0i : n.ins[0]'(by omega) = (v0 : Int) := by
                have h1 : n.ins.getD 0 0 = n.ins[0]'(by omega) := by simp [show 0 < n.ins.length by omega]
                rw [← h1]; exact HV0.out
              rw [hvk] at kc hbk
              rw [hv0i, Nat.add_zero] at kd
              have hvV : (n.ins.getD k 0).toNat = vk := by
                have h1 : n.ins.getD k 0 = n.ins[k] := by simp [hlk]
                rw [h1, hvk, Int.toNat_natCast]
              have hvkl : vk < L.length := by omega
              obtain ⟨gg', goff', ad5, cap5, eg5, _, _, hrow5, _, j1, _, _⟩ := HG.out.node hv0
              injection eg5 with eg5
              injection eg5 with eg5 eg6
              subst eg5 eg6
              have hrl := HRL.out
              have hkr : k - 1 < L[v0].ins.length := by omega
              obtain ⟨g5, off5, e5, hg5, j2⟩ := hrow5.int hkr
              subst e5
              replace j1 := (hwr.cell (p := ⟨gg, _, none⟩) hgg).trans j1
              replace j2 := (hwr.cell (p := ⟨g5, _, none⟩) hg5).trans j2
              have hb5 := (HW.out.node.at (ndAt_ex hv0)).bnd L[v0].ins[k - 1] (by rw [hndv]; exact List.getElem_mem hkr)
              obtain ⟨av, hav⟩ : ∃ av : Nat, L[v0].ins[k - 1] = (av : Int) := ⟨L[v0].ins[k - 1].toNat, by omega⟩
              rw [hav] at j2 hb5
              have haA : aOf L n k = av := by
                unfold aOf
                rw [if_pos HCK.out, HV0.out, hndv]
                have : L[v0].ins.getD (k - 1) 0 = L[v0].ins[k - 1] := by simp [hkr]
                rw [this, hav, Int.toNat_natCast]
              have hkr' : (k : Int) - 1 < (L[v0].ins.length : Int) := by omega
              have hk0 : (0 : Int) ≤ (k : Int) - 1 := by omega
              have hkt : ((k : Int) - 1).toNat = k - 1 := by omega
              have hkw : IntKind.i64.wrap ((k : Int) - 1) = (k : Int) - 1 := IntWalk.i64_in _ (by omega)
              have havl : av < L.length := by omega
              have hv0' : (v0 : Int) < (L.length : Int) := by omega
              obtain ⟨rl, hrlx⟩ : ∃ rl, rl = L[v0].ins.length := ⟨_, rfl⟩
              rw [← hrlx] at j1 hkr'
              clear hrlx
              have hcall : ∀ Y, Below wr.heap.size wr Y → Calls Tryz.prog 45 #[.agg #[.string ⟨nm0.toArray⟩, .int .i64 P, .slice (some ⟨gg, goff, none⟩) L.length cap], .int .i64 (vk : Int), .int .i64 (av : Int), .slice (some ⟨w.heap.size + 1 + 1, 0, none⟩) L.length L.length] Y fun e w' => ∃ b : Bool, e = .returned (.bool b) ∧ (Below wr.heap.size wr w' ∧ (b = true ↔ thereP L (aOf L n k) (n.ins.getD k 0).toNat)) := fun Y hY => by
                have hwy := bl_trans hwr hwr.size hY
                rw [haA, hvV]
                refine (isThere_any nm0 P (.slice (some ⟨gg, goff, none⟩) L.length cap) L HW.out HLW.out (HG.out.imp (inH_up hwy) (keepH hwy)) vk av hvkl havl (w.heap.size + 1 + 1) sn ((hY.block _ (by have := heap_lt HSN.out; have := HBK.out.size; omega)).trans ((HBK.out.block _ (heap_lt HSN.out)).trans HSN.out)) hsl HSE.out).mono ?_
                rintro e w' ⟨h1, b, h2, h3⟩
                exact ⟨b, h2, bl_trans hY hY.size h1, h3⟩
              have HC := hidX hcall
              have hkeep : ∀ W : World, Below wr.heap.size wr W → W.cell? ⟨w.heap.size, 0, none⟩ = some (.string ⟨nm0.toArray⟩) ∧ W.cell? ⟨w.heap.size, 1, none⟩ = some (.int .i64 P) ∧ W.cell? ⟨w.heap.size, 2, none⟩ = some (.slice (some ⟨gg, goff, none⟩) L.length cap) ∧ W.cell? ⟨wo.heap.size, 1, none⟩ = some (.slice (some ⟨g4, off4, none⟩) n.ins.length cap1) ∧ W.cell? ⟨g4, off4 + k, none⟩ = some (.int .i64 (vk : Int)) ∧ W.cell? ⟨g4, off4, none⟩ = some (.int .i64 (v0 : Int)) ∧ W.cell? ⟨gg, goff + v0 * 4 + 1, none⟩ = some (.slice (some ⟨g5, off5, none⟩) rl cap5) ∧ W.cell? ⟨g5, off5 + (k - 1), none⟩ = some (.int .i64 (av : Int)) := fun W hb => ⟨(hb.cell (p := ⟨w.heap.size, 0, none⟩) (heap_lt HXQ.out)).trans d0, (hb.cell (p := ⟨w.heap.size, 1, none⟩) (heap_lt HXQ.out)).trans d1, (hb.cell (p := ⟨w.heap.size, 2, none⟩) (heap_lt HXQ.out)).trans d2, (hb.cell (p := ⟨wo.heap.size, 1, none⟩) (heap_lt HNB.out)).trans z1, (hb.cell (p := ⟨g4, _, none⟩) (cell_lt kc)).trans kc, (hb.cell (p := ⟨g4, _, none⟩) (cell_lt kd)).trans kd, (hb.cell (p := ⟨gg, _, none⟩) (cell_lt j1)).trans j1, (hb.cell (p := ⟨g5, _, none⟩) (cell_lt j2)).trans j2⟩
              have HK := hidX hkeep
              clear hcall hkeep hvV haA hvk hv0i hbk hxq hnb hwr d0 d1 d2 z1 kc kd hrow5 hav hb5 j1 j2 hrl
              have zz : wr.cell? ⟨wo.heap.size, 1, none⟩ = some (.slice (some ⟨g4, off4, none⟩) n.ins.length cap1) := cell_of_blk HNB.out 1
              go_wp2_with fail
              clear zz
              go_region_held3 (fun W => W.cell? ⟨w.heap.size, 0, none⟩ = some (.string ⟨nm0.toArray⟩) ∧ W.cell? ⟨w.heap.size, 1, none⟩ = some (.int .i64 P) ∧ W.cell? ⟨w.heap.size, 2, none⟩ = some (.slice (some ⟨gg, goff, none⟩) L.length cap) ∧ W.cell? ⟨wo.heap.size, 1, none⟩ = some (.slice (some ⟨g4, off4, none⟩) n.ins.length cap1) ∧ W.cell? ⟨g4, off4 + k, none⟩ = some (.int .i64 (vk : Int)) ∧ W.cell? ⟨g4, off4, none⟩ = some (.int .i64 (v0 : Int)) ∧ W.cell? ⟨gg, goff + v0 * 4 + 1, none⟩ = some (.slice (some ⟨g5, off5, none⟩) rl cap5) ∧ W.cell? ⟨g5, off5 + (k - 1), none⟩ = some (.int .i64 (av : Int)))
                (first | with_reducible exact s9 | exact HK.out _ (by (repeat (first | exact Below.refl _ _ | assumption | refine Below.drew ?_ | refine Below.trans ?_ (drewN_below' _ _ _) | refine Below.setCell ?_ (by first | (simp; done) | (simp; omega)) _ | refine Below.alloc ?_ (by first | (simp; done) | (simp; omega)) _))))
                (first
                  | (go_at_call 45; refine (HC.out _ (by (repeat (first | exact Below.refl _ _ | assumption | refine Below.drew ?_ | refine Below.trans ?_ (drewN_below' _ _ _) | refine Below.setCell ?_ (by first | (simp; done) | (simp; omega)) _ | refine Below.alloc ?_ (by first | (simp; done) | (simp; omega)) _)))).mono ?_; rintro e X9 ⟨bb, rfl, hb9, hi9⟩; have s9 := HK.out _ hb9; have HI9 := hidX hi9; have HB9 := hidX hb9; clear hi9 hb9))
              all_goals (
                cases bb with
                | true =>
                  have HT9 := hidX (show thereP L (aOf L n k) (n.ins.getD k 0).toNat from HI9.out.1 rfl)
                  clear HI9
                  go_wp2
                  go_roundw
                  case rel => exact ⟨k + 1, by omega, by omega, by go_num, bl_trans HBK.out HBK.out.size HB9.out, fun j h1 h2 => (by
                    by_cases e : j = k
                    · subst e; exact HT9.out
                    · exact HTK.out j h1 (by omega))⟩
                  case measure => simp [intOf]; omega
                | false =>
                  have HT9 := hidX (show ¬ thereP L (aOf L n k) (n.ins.getD k 0).toNat from fun h => absurd (HI9.out.2 h) (by decide))
                  clear HI9
                  go_wp2
                  go_ret
                  exact ⟨bl_trans HWR.out HWR.out.size HB9.out, false, rfl, fun h => (by cases h), fun h => absurd (HOKN.out.1 (sound_ok HW.out |>.1 h q hlt) k hk1 hlk) HT9.out⟩)
            · have hkn : k = n.ins.length := by omega
              subst hkn
              have HOKQ := hidX (HOKN.out.2 fun j h1 h2 => HTK.out j h1 h2)
              have HBW := hidX (bl_trans HBX1.out HBX1.out.size HBK.out)
              clear hwr hxq hnb
              go_wp2
              go_roundw
              case rel => exact ⟨q + 1, by omega, by go_num, HBW.out, fun i hi => (by
                by_cases e : i = q
                · subst e; exact HOKQ.out
                · exact HOK.out i (by omega))⟩
              case measure => simp [intOf]; omega
        · have t1 : (n.kind == [105, 102]) = false := ne_lit (fun h => ca (Or.inl h))
          have t2 : (n.kind == [112, 114, 105, 110, 116]) = false := ne_lit (fun h => ca (Or.inr (Or.inl h)))
          have t3 : (n.kind == [114, 101, 116, 117, 114, 110]) = false := ne_lit (fun h => ca (Or.inr (Or.inr (Or.inl h))))
          have t4 : (n.kind == [99, 97, 108, 108]) = false := ne_lit (fun h => ca (Or.inr (Or.inr (Or.inr h))))
          have t5 : (n.kind == [112, 104, 105]) = false := ne_lit cp
          have HOKQ := hidX (HOKN0.out.2 fun h => (by
            rcases h with h | h | h | h | h
            · exact absurd (Or.inl h) ca
            · exact absurd (Or.inr (Or.inl h)) ca
            · exact absurd (Or.inr (Or.inr (Or.inl h))) ca
            · exact absurd (Or.inr (Or.inr (Or.inr h))) ca
            · exact absurd h cp))
          clear ca cp
          go_wp2_with fail
          rw [← hX1]
          clear hX1 k0 k1 k2 k3
          go_wp2
          go_roundw
          case rel => exact ⟨q + 1, by omega, by go_num, HBX1.out, fun i hi => (by
            by_cases e : i = q
            · subst e; exact HOKQ.out
            · exact HOK.out i (by omega))⟩
          case measure => simp [intOf]; omega
    · have hqn : q = L.length := by omega
      subst hqn
      clear hwq hxw
      go_wp2
      go_ret
      exact ⟨HWQ.out, true, rfl, fun _ => (sound_ok HW.out).2 HOK.out, fun _ => rfl⟩
end Go.Proofs.YtookfnodfkkneacGreatDoor
