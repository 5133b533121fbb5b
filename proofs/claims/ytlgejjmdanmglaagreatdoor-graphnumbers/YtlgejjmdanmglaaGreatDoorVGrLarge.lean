/- Our own: texts joined: GrLarge. -/
import Derived.Test.YtlgejjmdanmglaaGreatDoorVGrRep
import Derived.Test.YtlgejjmdanmglaaGreatDoorVGivTak
import Derived.Test.YtlgejjmdanmglaaGreatDoorVBase
namespace Go.Proofs.YtlgejjmdanmglaaGreatDoor
open Go.RowKit
structure OkN (n : Nd) : Prop where
 kind : n.kind.length ≤ 9223372036854775807
 ins : n.ins.length ≤ 9223372036854775807
 name : n.name.length ≤ 9223372036854775807
structure FewN (n : Nd) : Prop where
 kind : n.kind.length ≤ 20
 ins : n.ins.length ≤ 30
 name : n.name.length ≤ 20
set_option maxRecDepth 100000 in
set_option maxHeartbeats 2000000 in
theorem largeG_any {w : World} (nm0 : List UInt8) (P : Int) (nv : Value) (L : List Nd) (most : Nat) (hmost : most ≤ 1000) (hL : L.length ≤ 9223372036854775807) (hO : ∀ n ∈ L, OkN n) (hG : XG false (InH w) w nv L) :
  Calls Tryz.prog 7 #[.agg #[.string ⟨nm0.toArray⟩, .int .i64 P, nv], .int .i64 most] w fun e w' => ∃ r : Nat, e = .returned (.int .i64 r) ∧ (r = 1 ∨ (r = 0 ∧ (L.length ≤ most ∨ L.length = 1001) ∧ ∀ n ∈ L, FewN n)) ∧ Below w.heap.size w w' := by
 obtain ⟨ad, cap, rfl⟩ := hG.is
 have hL' : (L.length : Int) ≤ 9223372036854775807 := by omega
 have hmost' : (most : Int) ≤ 1000 := by omega
 have HG := hidX hG
 have HO := hidX hO
 clear hG hO
 by_cases c1 : most < L.length ∧ L.length ≠ 1001
 ·obtain ⟨c1, c2⟩ := c1
  have c1' : (most : Int) < L.length := by omega
  have c2' : ¬ (L.length : Int) = 1001 := by omega
  go_enter Tryz.func7, Tryz.ntmps7
  go_wp2
  go_ret
  exact ⟨1, rfl, Or.inl rfl, by (repeat (first | exact Below.refl _ _ | assumption | refine Below.drew ?_ | refine bT ?_ _ | refine bS ?_ _ | refine bA ?_ _))⟩
 ·have hsm : L.length ≤ most ∨ L.length = 1001 := by
   by_cases e : L.length = 1001
   ·exact Or.inr e
   ·exact Or.inl (Nat.le_of_not_lt fun h => c1 ⟨h, e⟩)
  have hL2 : L.length ≤ 1001 := by omega
  have HSM := hidX hsm
  obtain ⟨W0, hW0⟩ : ∃ W0, W0 = w.alloc (.cells #[.string ⟨nm0.toArray⟩, .int .i64 P, .slice ad L.length cap] 24) := ⟨_, rfl⟩
  have hb0 : Below w.heap.size w W0 := by rw [hW0]; (repeat (first | exact Below.refl _ _ | assumption | refine Below.drew ?_ | refine bT ?_ _ | refine bS ?_ _ | refine bA ?_ _))
  have hbx : W0.heap[w.heap.size]? = some (.cells #[.string ⟨nm0.toArray⟩, .int .i64 P, .slice ad L.length cap] 24 (0, 0)) := by rw [hW0]; exact heap_alloc_new _ _
  have b2 : W0.cell? ⟨w.heap.size, 2, none⟩ = some (.slice ad L.length cap) := cell_of_blk hbx 2
  have HB0 := hidX hb0
  have hsmI : (L.length : Int) ≤ most ∨ (L.length : Int) = 1001 := by omega
  clear hbx hsm c1 hb0
  by_cases c3 : most < L.length
  ·have c3' : (most : Int) < L.length := by omega
   have c4 : ((L.length : Int) != 1001) = false := by
    have : (L.length : Int) = 1001 := by omega
    rw [this]; rfl
   clear hsmI
   go_enter Tryz.func7, Tryz.ntmps7
   go_wp2_with fail
   rw [← hW0]
   clear hW0 c4 c3 c3'
   go_loop [5] (fun vi => ∃ q : Nat, q ≤ L.length ∧ vi = .int .i64 q ∧ Hid (∀ n ∈ L.take q, FewN n)) (fun vi => L.length - (intOf vi).toNat)
   case atStart => exact ⟨0, Nat.zero_le _, rfl, fun n hn => absurd hn (by simp)⟩
   case round =>
    obtain ⟨q, hq, rfl, HF⟩ := hrel
    by_cases hlt : q < L.length
    ·have hlt' : (q : Int) < (L.length : Int) := by omega
     obtain ⟨g, off, ad1, cap1, e1, hg, _, hr, k0, k1, k2, k3⟩ := HG.out.node hlt
     subst e1
     replace k0 := (HB0.out.cell (p := ⟨g, _, none⟩) hg).trans k0
     replace k1 := (HB0.out.cell (p := ⟨g, _, none⟩) hg).trans k1
     replace k2 := (HB0.out.cell (p := ⟨g, _, none⟩) hg).trans k2
     replace k3 := (HB0.out.cell (p := ⟨g, _, none⟩) hg).trans k3
     obtain ⟨o1, o2, o3⟩ := HO.out _ (List.getElem_mem hlt)
     have htk : L.take (q + 1) = L.take q ++ [L[q]] := List.take_succ_eq_append_getElem hlt
     have HTK := hidX htk
     clear hr htk
     generalize L[q] = n at *
     obtain ⟨nk, ni, nn, na⟩ := n
     simp only at k0 k1 k2 k3 o1 o2 o3
     have o1' : (nk.length : Int) ≤ 9223372036854775807 := by omega
     have o2' : (ni.length : Int) ≤ 9223372036854775807 := by omega
     have o3' : (na.length : Int) ≤ 9223372036854775807 := by omega
     by_cases f1 : 30 < ni.length
     ·have f1' : (30 : Int) < ni.length := by omega
      go_wp2
      go_ret
      exact ⟨1, rfl, Or.inl rfl, HB0.out⟩
     ·have f1' : ¬ (30 : Int) < ni.length := by omega
      by_cases f2 : 20 < nk.length
      ·have f2' : (20 : Int) < nk.length := by omega
       go_wp2
       go_ret
       exact ⟨1, rfl, Or.inl rfl, HB0.out⟩
      ·have f2' : ¬ (20 : Int) < nk.length := by omega
       by_cases f3 : 20 < na.length
       ·have f3' : (20 : Int) < na.length := by omega
        go_wp2
        go_ret
        exact ⟨1, rfl, Or.inl rfl, HB0.out⟩
       ·have f3' : ¬ (20 : Int) < na.length := by omega
        have HF2 := hidX (show ∀ n ∈ L.take (q + 1), FewN n from fun n hn => by
         rw [HTK.out] at hn
         rcases List.mem_append.1 hn with h | h
         ·exact HF.out n h
         ·rw [List.mem_singleton.1 h]
          exact ⟨by simp only; omega, by simp only; omega, by simp only; omega⟩)
        go_wp2
        go_round
        case rel => exact ⟨q + 1, by omega, by go_num, HF2.out⟩
        case measure => simp [intOf]; omega
    ·have hqn : q = L.length := by omega
     subst hqn
     have hF := HF.out
     rw [List.take_length] at hF
     have HFF := hidX hF
     clear hF HF
     go_wp2
     go_ret
     exact ⟨0, rfl, Or.inr ⟨rfl, HSM.out, HFF.out⟩, HB0.out⟩
  ·have c3' : ¬ (most : Int) < L.length := by omega
   clear hsmI
   go_enter Tryz.func7, Tryz.ntmps7
   go_wp2_with fail
   rw [← hW0]
   clear hW0 c3 c3'
   go_loop [5] (fun vi => ∃ q : Nat, q ≤ L.length ∧ vi = .int .i64 q ∧ Hid (∀ n ∈ L.take q, FewN n)) (fun vi => L.length - (intOf vi).toNat)
   case atStart => exact ⟨0, Nat.zero_le _, rfl, fun n hn => absurd hn (by simp)⟩
   case round =>
    obtain ⟨q, hq, rfl, HF⟩ := hrel
    by_cases hlt : q < L.length
    ·have hlt' : (q : Int) < (L.length : Int) := by omega
     obtain ⟨g, off, ad1, cap1, e1, hg, _, hr, k0, k1, k2, k3⟩ := HG.out.node hlt
     subst e1
     replace k0 := (HB0.out.cell (p := ⟨g, _, none⟩) hg).trans k0
     replace k1 := (HB0.out.cell (p := ⟨g, _, none⟩) hg).trans k1
     replace k2 := (HB0.out.cell (p := ⟨g, _, none⟩) hg).trans k2
     replace k3 := (HB0.out.cell (p := ⟨g, _, none⟩) hg).trans k3
     obtain ⟨o1, o2, o3⟩ := HO.out _ (List.getElem_mem hlt)
     have htk : L.take (q + 1) = L.take q ++ [L[q]] := List.take_succ_eq_append_getElem hlt
     have HTK := hidX htk
     clear hr htk
     generalize L[q] = n at *
     obtain ⟨nk, ni, nn, na⟩ := n
     simp only at k0 k1 k2 k3 o1 o2 o3
     have o1' : (nk.length : Int) ≤ 9223372036854775807 := by omega
     have o2' : (ni.length : Int) ≤ 9223372036854775807 := by omega
     have o3' : (na.length : Int) ≤ 9223372036854775807 := by omega
     by_cases f1 : 30 < ni.length
     ·have f1' : (30 : Int) < ni.length := by omega
      go_wp2
      go_ret
      exact ⟨1, rfl, Or.inl rfl, HB0.out⟩
     ·have f1' : ¬ (30 : Int) < ni.length := by omega
      by_cases f2 : 20 < nk.length
      ·have f2' : (20 : Int) < nk.length := by omega
       go_wp2
       go_ret
       exact ⟨1, rfl, Or.inl rfl, HB0.out⟩
      ·have f2' : ¬ (20 : Int) < nk.length := by omega
       by_cases f3 : 20 < na.length
       ·have f3' : (20 : Int) < na.length := by omega
        go_wp2
        go_ret
        exact ⟨1, rfl, Or.inl rfl, HB0.out⟩
       ·have f3' : ¬ (20 : Int) < na.length := by omega
        have HF2 := hidX (show ∀ n ∈ L.take (q + 1), FewN n from fun n hn => by
         rw [HTK.out] at hn
         rcases List.mem_append.1 hn with h | h
         ·exact HF.out n h
         ·rw [List.mem_singleton.1 h]
          exact ⟨by simp only; omega, by simp only; omega, by simp only; omega⟩)
        go_wp2
        go_round
        case rel => exact ⟨q + 1, by omega, by go_num, HF2.out⟩
        case measure => simp [intOf]; omega
    ·have hqn : q = L.length := by omega
     subst hqn
     have hF := HF.out
     rw [List.take_length] at hF
     have HFF := hidX hF
     clear hF HF
     go_wp2
     go_ret
     exact ⟨0, rfl, Or.inr ⟨rfl, HSM.out, HFF.out⟩, HB0.out⟩
structure IntN (n : Nd) : Prop where
 num : -9223372036854775808 ≤ n.num ∧ n.num ≤ 9223372036854775807
 each : ∀ x ∈ n.ins, -9223372036854775808 ≤ x ∧ x ≤ 9223372036854775807
theorem low_of {n : Nd} (h : FewN n) (k : IntN n) : LowN n := ⟨h.kind, by have := h.ins; omega, by have := h.name; omega, k.num, k.each⟩
end Go.Proofs.YtlgejjmdanmglaaGreatDoor
