/- Our own: texts joined: MrHas, MoThree. -/
import Derived.Test.YtbcpomdcmilpjaaDoorXMaMa
namespace Go.Proofs.YtbcpomdcmilpjaaDoor
open Go.RowKit
set_option maxRecDepth 100000 in
set_option maxHeartbeats 1000000 in
theorem risOf_any (t : ByteArray) (hsz : t.size ≤ 1000) (c : UInt8) (w : World) : Calls Tryd.prog 46 #[.string t, .int .u8 (c.toNat : Int)] w fun e w' => e = .returned (.bool (decide (c ∈ t.data.toList))) ∧ w' = w := by
 have hl : t.data.toList.length = t.size := rfl
 have hsz' : (t.size : Int) ≤ 1000 := by omega
 have hat : ∀ i (h : i < t.size), t.data.toList[i]'h = t[i] := fun i h => rfl
 generalize hR : decide (c ∈ t.data.toList) = R
 have HR := hidX hR
 have HAT := hidX hat
 have HL := hidX hl
 clear hR hat hl
 go_enter Tryd.func46, Tryd.ntmps46
 go_wp2_with fail
 go_loop [5] (fun vi => ∃ q : Nat, q ≤ t.size ∧ vi = .int .i64 q ∧ Hid (∀ i (h : i < t.size), i < q → t[i] ≠ c)) (fun vi => t.size - (intOf vi).toNat)
 case atStart => exact ⟨0, Nat.zero_le _, rfl, fun i _ h => absurd h (by omega)⟩
 case round =>
  obtain ⟨q, hq, rfl, HQ⟩ := hrel
  by_cases hlt : q < t.size
  ·have hlt' : (q : Int) < t.size := by omega
   by_cases he : t[q] = c
   ·have he' : ((t[q].toNat : Int) == (c.toNat : Int)) = true := by rw [he]; simp
    have hr : R = true := by
     rw [← HR.out, decide_eq_true_iff, ← he, ← HAT.out q hlt]
     exact List.getElem_mem _
    subst hr
    clear he
    go_wp2
    go_ret
    exact ⟨rfl, rfl⟩
   ·have he' : ((t[q].toNat : Int) == (c.toNat : Int)) = false := by
     rw [beq_eq_false_iff_ne]
     intro h
     exact he (UInt8.toNat_inj.1 (by omega))
    have HQ2 := hidX (show ∀ i (h : i < t.size), i < q + 1 → t[i] ≠ c from fun i h hi => by
     by_cases e : i = q
     ·subst e; exact he
     ·exact HQ.out i h (by omega))
    clear he
    go_wp2
    refine ⟨⟨q + 1, by omega, by go_num, HQ2.out⟩, by simp [intOf]; omega⟩
  ·have hqe : q = t.size := by omega
   subst hqe
   have hr : R = false := by
    rw [← HR.out, decide_eq_false_iff_not]
    intro h
    obtain ⟨i, hi, e⟩ := List.getElem_of_mem h
    have hi' : i < t.size := by rw [← HL.out]; exact hi
    exact HQ.out i hi' hi' (by rw [← HAT.out i hi']; exact e)
   subst hr
   go_wp2
   go_ret
   exact ⟨rfl, rfl⟩
theorem risReg_any (r : Int) (w : World) : Calls Tryd.prog 47 #[.int .i64 r] w fun e w' => e = .returned (.bool (decide (0 ≤ r ∧ r < 8))) ∧ w' = w := by
 by_cases h0 : 0 ≤ r
 ·by_cases h1 : r < 8
  ·rw [decide_eq_true (And.intro h0 h1)]
   go_enter Tryd.func47, Tryd.ntmps47
   go_wp2
   go_ret
   exact ⟨rfl, rfl⟩
  ·rw [decide_eq_false (fun h => h1 h.2)]
   go_enter Tryd.func47, Tryd.ntmps47
   go_wp2
   go_ret
   exact ⟨rfl, rfl⟩
 ·rw [decide_eq_false (fun h => h0 h.1)]
  have h0' : r < 0 := by omega
  go_enter Tryd.func47, Tryd.ntmps47
  go_wp2
  go_ret
  exact ⟨rfl, rfl⟩
def hasS (o : Co) : List UInt8 := (if o.d then [100] else []) ++ ((if o.a then [97] else []) ++ ((if o.b || o.many then [98] else []) ++ (if o.imm then [105] else [])))
theorem hasS_d (o : Co) : decide ((100 : UInt8) ∈ (⟨(hasS o).toArray⟩ : ByteArray).data.toList) = o.d := by
 show decide ((100 : UInt8) ∈ hasS o) = o.d
 unfold hasS
 cases o.d <;> cases o.a <;> cases o.b <;> cases o.many <;> cases o.imm <;> decide
theorem hasS_a (o : Co) : decide ((97 : UInt8) ∈ (⟨(hasS o).toArray⟩ : ByteArray).data.toList) = o.a := by
 show decide ((97 : UInt8) ∈ hasS o) = o.a
 unfold hasS
 cases o.d <;> cases o.a <;> cases o.b <;> cases o.many <;> cases o.imm <;> decide
theorem hasS_b (o : Co) : decide ((98 : UInt8) ∈ (⟨(hasS o).toArray⟩ : ByteArray).data.toList) = (o.b || o.many) := by
 show decide ((98 : UInt8) ∈ hasS o) = (o.b || o.many)
 unfold hasS
 cases o.d <;> cases o.a <;> cases o.b <;> cases o.many <;> cases o.imm <;> decide
theorem hasS_i (o : Co) : decide ((105 : UInt8) ∈ (⟨(hasS o).toArray⟩ : ByteArray).data.toList) = o.imm := by
 show decide ((105 : UInt8) ∈ hasS o) = o.imm
 unfold hasS
 cases o.d <;> cases o.a <;> cases o.b <;> cases o.many <;> cases o.imm <;> decide
theorem hasS_len (o : Co) : (hasS o).length ≤ 4 := by
 unfold hasS
 cases o.d <;> cases o.a <;> cases o.b <;> cases o.many <;> cases o.imm <;> decide
def opsM (w : World) : World := w.alloc (.cells (coL.map fun o => Value.string ⟨o.kind.toArray⟩).toArray 9)
theorem rOps_any (w : World) : Calls Tryd.prog 29 #[] w fun e w' => e = .returned (.slice (some ⟨w.heap.size, 0, none⟩) 29 29) ∧ w' = opsM w := by
 go_enter Tryd.func29, Tryd.ntmps29
 go_wp2
 go_ret
 exact ⟨rfl, rfl⟩
theorem opsM_at (w : World) (q : Nat) (hq : q < coL.length) : (opsM w).cell? ⟨w.heap.size, q, none⟩ = some (.string ⟨coL[q].kind.toArray⟩) := by
 unfold opsM
 rw [cell_of_blk (heap_alloc_new w _), List.getElem?_toArray, List.getElem?_map, List.getElem?_eq_getElem hq]; rfl
set_option maxRecDepth 100000 in
set_option maxHeartbeats 1000000 in
theorem rNumber_any (k : List UInt8) (w : World) : Calls Tryd.prog 28 #[.string ⟨k.toArray⟩] w fun e w' => e = .returned (.int .i64 ((coNamed k).1 : Nat)) ∧ Below w.heap.size w w' := by
 generalize hR : (coNamed k).1 = R
 have HR := hidX hR
 have HB := hidX (show Below w.heap.size w (opsM w) from by unfold opsM; (repeat (first | exact Below.refl _ _ | assumption | refine Below.drew ?_ | refine bT ?_ _ | refine bS ?_ _ | refine bA ?_ _)))
 have HC := hidX (opsM_at w)
 have HO := hidX (rOps_any w)
 generalize opsM w = W at HB HC HO
 clear hR
 go_enter Tryd.func28, Tryd.ntmps28
 go_wp2_with fail
 refine HO.out.mono ?_
 rintro e w2 ⟨rfl, hw⟩
 subst hw
 go_wp2_with fail
 go_loop [4] (fun vi => ∃ q : Nat, q ≤ 29 ∧ vi = .int .i64 q ∧ Hid (∀ j (hj : j < q) (hq : q ≤ coL.length), (coL[j]'(by omega)).kind ≠ k)) (fun vi => 29 - (intOf vi).toNat)
 case atStart => exact ⟨0, by omega, rfl, fun j hj => absurd hj (by omega)⟩
 case round =>
  obtain ⟨q, hq, rfl, HN⟩ := hrel
  by_cases hlt : q < 29
  ·have hlt' : (q : Int) < 29 := by omega
   have c0 := HC.out q (by rw [coL_len]; exact hlt)
   by_cases he : (coL[q]'(by rw [coL_len]; exact hlt)).kind = k
   ·have hr : R = q + 1 := by
     have := coIn_at (k := k) (l := coL) (n := 0) (q := q) (by rw [coL_len]; exact hlt) (fun j hj => HN.out j hj (by rw [coL_len]; exact hq)) he
     rw [← HR.out, coNamed, this]; simp
    subst hr
    generalize (coL[q]'(by rw [coL_len]; exact hlt)).kind = kq at c0 he
    have he' : (kq == k) = true := by simp [he]
    clear he
    go_wp2
    go_ret
    exact ⟨by simp, HB.out⟩
   ·have HN2 := hidX (show ∀ j (hj : j < q + 1) (hq : q + 1 ≤ coL.length), (coL[j]'(by omega)).kind ≠ k from fun j hj hq1 => by
     by_cases e : j = q
     ·subst e; exact he
     ·exact HN.out j (by omega) (by omega))
    generalize (coL[q]'(by rw [coL_len]; exact hlt)).kind = kq at c0 he
    have he' : (kq == k) = false := ne_lit he
    clear he
    go_wp2
    refine ⟨⟨q + 1, by omega, by go_num, HN2.out⟩, by simp [intOf]; omega⟩
  ·have hqe : q = 29 := by omega
   subst hqe
   have hr : R = 0 := by
    rw [← HR.out, coNamed, coIn_not (l := coL) fun s hs => by
     obtain ⟨j, hj, e⟩ := List.getElem_of_mem hs
     rw [← e]; exact HN.out j (by rw [coL_len] at hj; exact hj) (Nat.le_refl _)]
   subst hr
   go_wp2
   go_ret
   exact ⟨rfl, HB.out⟩
end Go.Proofs.YtbcpomdcmilpjaaDoor
namespace Go.Proofs.YtbcpomdcmilpjaaDoor
open Go.RowKit
def opsTw (w : World) : World := w.alloc (.cells (twosE.map fun s => Value.string ⟨s.toArray⟩).toArray 9)
theorem rOps1_any (w : World) : Calls Tryd.prog 44 #[] w fun e w' => e = .returned (.slice (some ⟨w.heap.size, 0, none⟩) 14 14) ∧ w' = opsTw w := by
 go_enter Tryd.func44, Tryd.ntmps44
 go_wp2
 go_ret
 exact ⟨rfl, rfl⟩
theorem opsTw_at (w : World) (q : Nat) (hq : q < twosE.length) : (opsTw w).cell? ⟨w.heap.size, q, none⟩ = some (.string ⟨twosE[q].toArray⟩) := by
 unfold opsTw
 have h := heap_alloc_new w (.cells (twosE.map fun s => Value.string ⟨s.toArray⟩).toArray 9)
 rw [cell_of_blk h, List.getElem?_toArray]
 simp [hq]
theorem sg_at : ∀ q : Fin 29, 15 ≤ q.val → ∃ h : q.val - 15 < twosE.length, (coL[q.val]'q.isLt).sg = twosE[q.val - 15] := by decide
set_option maxRecDepth 100000 in
set_option maxHeartbeats 4000000 in
theorem threeOf_any (k : List UInt8) (q : Nat) (hq : q < 14) (hk : (coNamed k).1 = q + 16) (sg : List UInt8) (hs : ∃ h : q < twosE.length, sg = twosE[q]) (w : World) :
  Calls Tryd.prog 27 #[.string ⟨k.toArray⟩] w fun e w' => e = .returned (.string ⟨sg.toArray⟩) ∧ Below w.heap.size w w' := by
 have HA := hidX (fun X => rNumber_any k X)
 have HB := hidX (fun X => rNumber_any [97, 100, 100] X)
 rw [hk, show ((q + 16 : Nat) : Int) = (q : Int) + 16 from by omega] at HA
 rw [show (coNamed [97, 100, 100]).1 = 16 from rfl] at HB
 obtain ⟨h14, hsg⟩ := hs
 have HS := hidX (fun X => opsTw_at X q h14)
 rw [← hsg] at HS
 have hq' : (q : Int) < 14 := by omega
 clear hk hsg
 go_enter Tryd.func27, Tryd.ntmps27
 go_wp2_with fail
 refine (HA.out _).mono ?_
 rintro e X1 ⟨rfl, hb1⟩
 have HX1 := hidX hb1
 clear hb1
 go_wp2_with fail
 refine (HB.out _).mono ?_
 rintro e X2 ⟨rfl, hb2⟩
 have HX2 := hidX (bl_trans HX1.out HX1.out.size hb2)
 clear hb2
 go_wp2_with fail
 refine (rOps1_any _).mono ?_
 rintro e X3 ⟨rfl, hh⟩
 have k0 := HS.out X2
 have HX3 := hidX (show Below w.heap.size w X3 from by rw [hh]; unfold opsTw; exact HX2.out.alloc HX2.out.size _)
 rw [← hh] at k0
 clear hh
 go_wp2
 go_ret
 exact ⟨rfl, HX3.out⟩
end Go.Proofs.YtbcpomdcmilpjaaDoor
