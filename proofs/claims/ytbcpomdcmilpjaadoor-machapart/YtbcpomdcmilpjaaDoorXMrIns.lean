/- Our own: texts joined: MrIns. -/
import Derived.Test.YtbcpomdcmilpjaaDoorXMrHasOf
namespace Go.Proofs.YtbcpomdcmilpjaaDoor
open Go.RowKit
def errN (c : Nat) : Nat := if c = 0 then 0 else if c = 1 then 4 else if c = 2 then 2 else 3
theorem rIs (o : Co) (c : UInt8) (r : Bool) (h : decide (c ∈ (⟨(hasS o).toArray⟩ : ByteArray).data.toList) = r) (w : World) : Calls Tryd.prog 46 #[.string ⟨(hasS o).toArray⟩, .int .u8 (c.toNat : Int)] w fun e w' => e = .returned (.bool r) ∧ w' = w := by
 rw [← h]
 exact risOf_any _ (by show (hasS o).length ≤ 1000; have := hasS_len o; omega) c w
theorem rReg (r : Int) (b : Bool) (h : decide (0 ≤ r ∧ r < 8) = b) (w : World) : Calls Tryd.prog 47 #[.int .i64 r] w fun e w' => e = .returned (.bool b) ∧ w' = w := by
 rw [← h]
 exact risReg_any r w
set_option maxRecDepth 100000 in
set_option maxHeartbeats 8000000 in
theorem rIns_di (k : List UInt8) (o : Co) (num : Nat) (hnum : num ≠ 0) (hd : o.d = true) (ha : o.a = false) (hb : (o.b || o.many) = false) (hn : o.imm = true) (hcall : (k == [99, 97, 108, 108]) = false)
  (HN : ∀ W : World, Calls Tryd.prog 28 #[.string ⟨k.toArray⟩] W fun e w' => e = .returned (.int .i64 (num : Nat)) ∧ Below W.heap.size W w')
  (HH : ∀ W : World, Calls Tryd.prog 45 #[.string ⟨k.toArray⟩] W fun e w' => e = .returned (.string ⟨(hasS o).toArray⟩) ∧ w' = W)
  (D A B I : Int) (hD : 0 ≤ D ∧ D < 256) (hA : 0 ≤ A ∧ A < 256) (hB : 0 ≤ B ∧ B < 256) (hI : -2147483648 ≤ I ∧ I < 2147483648) (w : World) :
  Calls Tryd.prog 30 #[.agg #[.string ⟨k.toArray⟩, .int .i64 D, .int .i64 A, .int .i64 B, .int .i64 I]] w fun e w' => e = .returned (.int .i64 ((if 8 ≤ D then 2 else if A ≠ 0 ∨ B ≠ 0 then 3 else 0 : Nat) : Int)) ∧ Below w.heap.size w w' := by
 obtain ⟨W0, hW0⟩ : ∃ W0, W0 = w.alloc (.cells #[.string ⟨k.toArray⟩, .int .i64 D, .int .i64 A, .int .i64 B, .int .i64 I] 55) := ⟨_, rfl⟩
 have hb0 : Below w.heap.size w W0 := by rw [hW0]; (repeat (first | exact Below.refl _ _ | assumption | refine Below.drew ?_ | refine bT ?_ _ | refine bS ?_ _ | refine bA ?_ _))
 have hx0 : W0.heap[w.heap.size]? = some (.cells #[.string ⟨k.toArray⟩, .int .i64 D, .int .i64 A, .int .i64 B, .int .i64 I] 55 (0, 0)) := by rw [hW0]; exact heap_alloc_new _ _
 have HB0 := hidX hb0
 have HX0 := hidX hx0
 have H1 := hidX HN
 have H2 := hidX HH
 have I1 := hidX (rIs o 100 true ((hasS_d o).trans hd))
 have I2 := hidX (rIs o 97 false ((hasS_a o).trans ha))
 have I3 := hidX (rIs o 98 false ((hasS_b o).trans hb))
 have I4 := hidX (rIs o 105 true ((hasS_i o).trans hn))
 obtain ⟨rd, hrd⟩ : ∃ rd, decide (0 ≤ D ∧ D < 8) = rd := ⟨_, rfl⟩
 obtain ⟨ra, hra⟩ : ∃ ra, decide (0 ≤ A ∧ A < 8) = ra := ⟨_, rfl⟩
 have R1 := hidX (rReg D rd hrd)
 have R2 := hidX (rReg A ra hra)
 have HRD := hidX hrd
 have HRA := hidX hra
 have hnum' : ((num : Int) == 0) = false := by simp; omega
 obtain ⟨r, hr⟩ : ∃ r : Nat, r = (if 8 ≤ D then 2 else if A ≠ 0 ∨ B ≠ 0 then 3 else 0) := ⟨_, rfl⟩
 rw [← hr]
 have HR := hidX hr
 generalize hasS o = hs at H2 I1 I2 I3 I4
 obtain ⟨hD0, hD1⟩ := hD
 obtain ⟨hA0, hA1⟩ := hA
 obtain ⟨hB0, hB1⟩ := hB
 obtain ⟨hI0, hI1⟩ := hI
 clear HN HH hd ha hb hn hnum hb0 hx0 hrd hra hr
 go_enter Tryd.func30, Tryd.ntmps30
 go_wp2_with fail
 rw [← hW0]
 refine (H1.out _).mono ?_
 rintro e w1 ⟨rfl, hb1⟩
 have hx1 := (hb1.block _ (heap_lt HX0.out)).trans HX0.out
 have c0 : w1.cell? ⟨w.heap.size, 0, none⟩ = some (.string ⟨k.toArray⟩) := cell_of_blk hx1 0
 have c1 : w1.cell? ⟨w.heap.size, 1, none⟩ = some (.int .i64 D) := cell_of_blk hx1 1
 have c2 : w1.cell? ⟨w.heap.size, 2, none⟩ = some (.int .i64 A) := cell_of_blk hx1 2
 have c3 : w1.cell? ⟨w.heap.size, 3, none⟩ = some (.int .i64 B) := cell_of_blk hx1 3
 have c4 : w1.cell? ⟨w.heap.size, 4, none⟩ = some (.int .i64 I) := cell_of_blk hx1 4
 have HBF := hidX (bl_trans HB0.out HB0.out.size hb1)
 clear hW0 hb1 hx1
 go_wp2_with fail
 refine (H2.out _).mono ?_
 rintro e w2 ⟨rfl, hh⟩
 replace hh := hh.symm
 subst hh
 go_wp2_with fail
 refine (I1.out _).mono ?_
 rintro e w2 ⟨rfl, hh⟩
 replace hh := hh.symm
 subst hh
 go_wp2_with fail
 refine (I2.out _).mono ?_
 rintro e w2 ⟨rfl, hh⟩
 replace hh := hh.symm
 subst hh
 go_wp2_with fail
 refine (I3.out _).mono ?_
 rintro e w2 ⟨rfl, hh⟩
 replace hh := hh.symm
 subst hh
 go_wp2_with fail
 refine (I4.out _).mono ?_
 rintro e w2 ⟨rfl, hh⟩
 replace hh := hh.symm
 subst hh
 go_wp2_with fail
 refine (R1.out _).mono ?_
 rintro e w2 ⟨rfl, hh⟩
 replace hh := hh.symm
 subst hh
 go_wp2_with fail
 refine (R2.out _).mono ?_
 rintro e w2 ⟨rfl, hh⟩
 replace hh := hh.symm
 subst hh
 cases ra
 all_goals (
  by_cases hDr : 8 ≤ D
  ·have e1 : rd = false := by rw [← HRD.out, decide_eq_false_iff_not]; omega
   subst e1
   have hres : r = 2 := by rw [HR.out]; rw [if_pos (by omega)]
   subst hres
   clear hDr
   go_wp2
   go_ret
   exact ⟨rfl, HBF.out⟩
  have f1 : rd = true := by rw [← HRD.out, decide_eq_true_iff]; omega
  subst f1
  by_cases hAz : A ≠ 0
  ·have e4 : (A != 0) = true := by simpa using hAz
   have hres : r = 3 := by rw [HR.out]; rw [if_neg (by first | omega | exact fun h => h), if_pos (by omega)]
   subst hres
   clear hAz
   go_wp2
   go_ret
   exact ⟨rfl, HBF.out⟩
  have fA : (A != 0) = false := by simpa using hAz
  by_cases hBz : B ≠ 0
  ·have e4 : (B != 0) = true := by simpa using hBz
   have hres : r = 3 := by rw [HR.out]; rw [if_neg (by first | omega | exact fun h => h), if_pos (by omega)]
   subst hres
   clear hBz
   go_wp2
   go_ret
   exact ⟨rfl, HBF.out⟩
  have fB : (B != 0) = false := by simpa using hBz
  have hres : r = 0 := by rw [HR.out, if_neg (by first | omega | exact fun h => h), if_neg (by first | omega | exact fun h => h)]
  subst hres
  clear hDr hAz hBz
  go_wp2
  go_ret
  exact ⟨rfl, HBF.out⟩)
set_option maxRecDepth 100000 in
set_option maxHeartbeats 8000000 in
theorem rIns_ai (k : List UInt8) (o : Co) (num : Nat) (hnum : num ≠ 0) (hd : o.d = false) (ha : o.a = true) (hb : (o.b || o.many) = false) (hn : o.imm = true) (hcall : (k == [99, 97, 108, 108]) = false)
  (HN : ∀ W : World, Calls Tryd.prog 28 #[.string ⟨k.toArray⟩] W fun e w' => e = .returned (.int .i64 (num : Nat)) ∧ Below W.heap.size W w')
  (HH : ∀ W : World, Calls Tryd.prog 45 #[.string ⟨k.toArray⟩] W fun e w' => e = .returned (.string ⟨(hasS o).toArray⟩) ∧ w' = W)
  (D A B I : Int) (hD : 0 ≤ D ∧ D < 256) (hA : 0 ≤ A ∧ A < 256) (hB : 0 ≤ B ∧ B < 256) (hI : -2147483648 ≤ I ∧ I < 2147483648) (w : World) :
  Calls Tryd.prog 30 #[.agg #[.string ⟨k.toArray⟩, .int .i64 D, .int .i64 A, .int .i64 B, .int .i64 I]] w fun e w' => e = .returned (.int .i64 ((if 8 ≤ A then 2 else if D ≠ 0 ∨ B ≠ 0 then 3 else 0 : Nat) : Int)) ∧ Below w.heap.size w w' := by
 obtain ⟨W0, hW0⟩ : ∃ W0, W0 = w.alloc (.cells #[.string ⟨k.toArray⟩, .int .i64 D, .int .i64 A, .int .i64 B, .int .i64 I] 55) := ⟨_, rfl⟩
 have hb0 : Below w.heap.size w W0 := by rw [hW0]; (repeat (first | exact Below.refl _ _ | assumption | refine Below.drew ?_ | refine bT ?_ _ | refine bS ?_ _ | refine bA ?_ _))
 have hx0 : W0.heap[w.heap.size]? = some (.cells #[.string ⟨k.toArray⟩, .int .i64 D, .int .i64 A, .int .i64 B, .int .i64 I] 55 (0, 0)) := by rw [hW0]; exact heap_alloc_new _ _
 have HB0 := hidX hb0
 have HX0 := hidX hx0
 have H1 := hidX HN
 have H2 := hidX HH
 have I1 := hidX (rIs o 100 false ((hasS_d o).trans hd))
 have I2 := hidX (rIs o 97 true ((hasS_a o).trans ha))
 have I3 := hidX (rIs o 98 false ((hasS_b o).trans hb))
 have I4 := hidX (rIs o 105 true ((hasS_i o).trans hn))
 obtain ⟨rd, hrd⟩ : ∃ rd, decide (0 ≤ D ∧ D < 8) = rd := ⟨_, rfl⟩
 obtain ⟨ra, hra⟩ : ∃ ra, decide (0 ≤ A ∧ A < 8) = ra := ⟨_, rfl⟩
 have R1 := hidX (rReg D rd hrd)
 have R2 := hidX (rReg A ra hra)
 have HRD := hidX hrd
 have HRA := hidX hra
 have hnum' : ((num : Int) == 0) = false := by simp; omega
 obtain ⟨r, hr⟩ : ∃ r : Nat, r = (if 8 ≤ A then 2 else if D ≠ 0 ∨ B ≠ 0 then 3 else 0) := ⟨_, rfl⟩
 rw [← hr]
 have HR := hidX hr
 generalize hasS o = hs at H2 I1 I2 I3 I4
 obtain ⟨hD0, hD1⟩ := hD
 obtain ⟨hA0, hA1⟩ := hA
 obtain ⟨hB0, hB1⟩ := hB
 obtain ⟨hI0, hI1⟩ := hI
 clear HN HH hd ha hb hn hnum hb0 hx0 hrd hra hr
 go_enter Tryd.func30, Tryd.ntmps30
 go_wp2_with fail
 rw [← hW0]
 refine (H1.out _).mono ?_
 rintro e w1 ⟨rfl, hb1⟩
 have hx1 := (hb1.block _ (heap_lt HX0.out)).trans HX0.out
 have c0 : w1.cell? ⟨w.heap.size, 0, none⟩ = some (.string ⟨k.toArray⟩) := cell_of_blk hx1 0
 have c1 : w1.cell? ⟨w.heap.size, 1, none⟩ = some (.int .i64 D) := cell_of_blk hx1 1
 have c2 : w1.cell? ⟨w.heap.size, 2, none⟩ = some (.int .i64 A) := cell_of_blk hx1 2
 have c3 : w1.cell? ⟨w.heap.size, 3, none⟩ = some (.int .i64 B) := cell_of_blk hx1 3
 have c4 : w1.cell? ⟨w.heap.size, 4, none⟩ = some (.int .i64 I) := cell_of_blk hx1 4
 have HBF := hidX (bl_trans HB0.out HB0.out.size hb1)
 clear hW0 hb1 hx1
 go_wp2_with fail
 refine (H2.out _).mono ?_
 rintro e w2 ⟨rfl, hh⟩
 replace hh := hh.symm
 subst hh
 go_wp2_with fail
 refine (I1.out _).mono ?_
 rintro e w2 ⟨rfl, hh⟩
 replace hh := hh.symm
 subst hh
 go_wp2_with fail
 refine (I2.out _).mono ?_
 rintro e w2 ⟨rfl, hh⟩
 replace hh := hh.symm
 subst hh
 go_wp2_with fail
 refine (I3.out _).mono ?_
 rintro e w2 ⟨rfl, hh⟩
 replace hh := hh.symm
 subst hh
 go_wp2_with fail
 refine (I4.out _).mono ?_
 rintro e w2 ⟨rfl, hh⟩
 replace hh := hh.symm
 subst hh
 go_wp2_with fail
 refine (R1.out _).mono ?_
 rintro e w2 ⟨rfl, hh⟩
 replace hh := hh.symm
 subst hh
 go_wp2_with fail
 refine (R2.out _).mono ?_
 rintro e w2 ⟨rfl, hh⟩
 replace hh := hh.symm
 subst hh
 cases rd
 all_goals (
  by_cases hAr : 8 ≤ A
  ·have e2 : ra = false := by rw [← HRA.out, decide_eq_false_iff_not]; omega
   subst e2
   have hres : r = 2 := by rw [HR.out]; rw [if_pos (by omega)]
   subst hres
   clear hAr
   go_wp2
   go_ret
   exact ⟨rfl, HBF.out⟩
  have f2 : ra = true := by rw [← HRA.out, decide_eq_true_iff]; omega
  subst f2
  by_cases hDz : D ≠ 0
  ·have e4 : (D != 0) = true := by simpa using hDz
   have hres : r = 3 := by rw [HR.out]; rw [if_neg (by first | omega | exact fun h => h), if_pos (by omega)]
   subst hres
   clear hDz
   go_wp2
   go_ret
   exact ⟨rfl, HBF.out⟩
  have fD : (D != 0) = false := by simpa using hDz
  by_cases hBz : B ≠ 0
  ·have e4 : (B != 0) = true := by simpa using hBz
   have hres : r = 3 := by rw [HR.out]; rw [if_neg (by first | omega | exact fun h => h), if_pos (by omega)]
   subst hres
   clear hBz
   go_wp2
   go_ret
   exact ⟨rfl, HBF.out⟩
  have fB : (B != 0) = false := by simpa using hBz
  have hres : r = 0 := by rw [HR.out, if_neg (by first | omega | exact fun h => h), if_neg (by first | omega | exact fun h => h)]
  subst hres
  clear hAr hDz hBz
  go_wp2
  go_ret
  exact ⟨rfl, HBF.out⟩)
set_option maxRecDepth 100000 in
set_option maxHeartbeats 8000000 in
theorem rIns_da (k : List UInt8) (o : Co) (num : Nat) (hnum : num ≠ 0) (hd : o.d = true) (ha : o.a = true) (hb : (o.b || o.many) = false) (hn : o.imm = false) (hcall : (k == [99, 97, 108, 108]) = false)
  (HN : ∀ W : World, Calls Tryd.prog 28 #[.string ⟨k.toArray⟩] W fun e w' => e = .returned (.int .i64 (num : Nat)) ∧ Below W.heap.size W w')
  (HH : ∀ W : World, Calls Tryd.prog 45 #[.string ⟨k.toArray⟩] W fun e w' => e = .returned (.string ⟨(hasS o).toArray⟩) ∧ w' = W)
  (D A B I : Int) (hD : 0 ≤ D ∧ D < 256) (hA : 0 ≤ A ∧ A < 256) (hB : 0 ≤ B ∧ B < 256) (hI : -2147483648 ≤ I ∧ I < 2147483648) (w : World) :
  Calls Tryd.prog 30 #[.agg #[.string ⟨k.toArray⟩, .int .i64 D, .int .i64 A, .int .i64 B, .int .i64 I]] w fun e w' => e = .returned (.int .i64 ((if 8 ≤ D ∨ 8 ≤ A then 2 else if B ≠ 0 ∨ I ≠ 0 then 3 else 0 : Nat) : Int)) ∧ Below w.heap.size w w' := by
 obtain ⟨W0, hW0⟩ : ∃ W0, W0 = w.alloc (.cells #[.string ⟨k.toArray⟩, .int .i64 D, .int .i64 A, .int .i64 B, .int .i64 I] 55) := ⟨_, rfl⟩
 have hb0 : Below w.heap.size w W0 := by rw [hW0]; (repeat (first | exact Below.refl _ _ | assumption | refine Below.drew ?_ | refine bT ?_ _ | refine bS ?_ _ | refine bA ?_ _))
 have hx0 : W0.heap[w.heap.size]? = some (.cells #[.string ⟨k.toArray⟩, .int .i64 D, .int .i64 A, .int .i64 B, .int .i64 I] 55 (0, 0)) := by rw [hW0]; exact heap_alloc_new _ _
 have HB0 := hidX hb0
 have HX0 := hidX hx0
 have H1 := hidX HN
 have H2 := hidX HH
 have I1 := hidX (rIs o 100 true ((hasS_d o).trans hd))
 have I2 := hidX (rIs o 97 true ((hasS_a o).trans ha))
 have I3 := hidX (rIs o 98 false ((hasS_b o).trans hb))
 have I4 := hidX (rIs o 105 false ((hasS_i o).trans hn))
 obtain ⟨rd, hrd⟩ : ∃ rd, decide (0 ≤ D ∧ D < 8) = rd := ⟨_, rfl⟩
 obtain ⟨ra, hra⟩ : ∃ ra, decide (0 ≤ A ∧ A < 8) = ra := ⟨_, rfl⟩
 have R1 := hidX (rReg D rd hrd)
 have R2 := hidX (rReg A ra hra)
 have HRD := hidX hrd
 have HRA := hidX hra
 have hnum' : ((num : Int) == 0) = false := by simp; omega
 obtain ⟨r, hr⟩ : ∃ r : Nat, r = (if 8 ≤ D ∨ 8 ≤ A then 2 else if B ≠ 0 ∨ I ≠ 0 then 3 else 0) := ⟨_, rfl⟩
 rw [← hr]
 have HR := hidX hr
 generalize hasS o = hs at H2 I1 I2 I3 I4
 obtain ⟨hD0, hD1⟩ := hD
 obtain ⟨hA0, hA1⟩ := hA
 obtain ⟨hB0, hB1⟩ := hB
 obtain ⟨hI0, hI1⟩ := hI
 clear HN HH hd ha hb hn hnum hb0 hx0 hrd hra hr
 go_enter Tryd.func30, Tryd.ntmps30
 go_wp2_with fail
 rw [← hW0]
 refine (H1.out _).mono ?_
 rintro e w1 ⟨rfl, hb1⟩
 have hx1 := (hb1.block _ (heap_lt HX0.out)).trans HX0.out
 have c0 : w1.cell? ⟨w.heap.size, 0, none⟩ = some (.string ⟨k.toArray⟩) := cell_of_blk hx1 0
 have c1 : w1.cell? ⟨w.heap.size, 1, none⟩ = some (.int .i64 D) := cell_of_blk hx1 1
 have c2 : w1.cell? ⟨w.heap.size, 2, none⟩ = some (.int .i64 A) := cell_of_blk hx1 2
 have c3 : w1.cell? ⟨w.heap.size, 3, none⟩ = some (.int .i64 B) := cell_of_blk hx1 3
 have c4 : w1.cell? ⟨w.heap.size, 4, none⟩ = some (.int .i64 I) := cell_of_blk hx1 4
 have HBF := hidX (bl_trans HB0.out HB0.out.size hb1)
 clear hW0 hb1 hx1
 go_wp2_with fail
 refine (H2.out _).mono ?_
 rintro e w2 ⟨rfl, hh⟩
 replace hh := hh.symm
 subst hh
 go_wp2_with fail
 refine (I1.out _).mono ?_
 rintro e w2 ⟨rfl, hh⟩
 replace hh := hh.symm
 subst hh
 go_wp2_with fail
 refine (I2.out _).mono ?_
 rintro e w2 ⟨rfl, hh⟩
 replace hh := hh.symm
 subst hh
 go_wp2_with fail
 refine (I3.out _).mono ?_
 rintro e w2 ⟨rfl, hh⟩
 replace hh := hh.symm
 subst hh
 go_wp2_with fail
 refine (I4.out _).mono ?_
 rintro e w2 ⟨rfl, hh⟩
 replace hh := hh.symm
 subst hh
 go_wp2_with fail
 refine (R1.out _).mono ?_
 rintro e w2 ⟨rfl, hh⟩
 replace hh := hh.symm
 subst hh
 go_wp2_with fail
 refine (R2.out _).mono ?_
 rintro e w2 ⟨rfl, hh⟩
 replace hh := hh.symm
 subst hh
 by_cases hDr : 8 ≤ D
 ·have e1 : rd = false := by rw [← HRD.out, decide_eq_false_iff_not]; omega
  subst e1
  have hres : r = 2 := by rw [HR.out]; rw [if_pos (by omega)]
  subst hres
  clear hDr
  go_wp2
  go_ret
  exact ⟨rfl, HBF.out⟩
 have f1 : rd = true := by rw [← HRD.out, decide_eq_true_iff]; omega
 subst f1
 by_cases hAr : 8 ≤ A
 ·have e2 : ra = false := by rw [← HRA.out, decide_eq_false_iff_not]; omega
  subst e2
  have hres : r = 2 := by rw [HR.out]; rw [if_pos (by omega)]
  subst hres
  clear hAr
  go_wp2
  go_ret
  exact ⟨rfl, HBF.out⟩
 have f2 : ra = true := by rw [← HRA.out, decide_eq_true_iff]; omega
 subst f2
 by_cases hBz : B ≠ 0
 ·have e4 : (B != 0) = true := by simpa using hBz
  have hres : r = 3 := by rw [HR.out]; rw [if_neg (by first | omega | exact fun h => h), if_pos (by omega)]
  subst hres
  clear hBz
  go_wp2
  go_ret
  exact ⟨rfl, HBF.out⟩
 have fB : (B != 0) = false := by simpa using hBz
 by_cases hIz : I ≠ 0
 ·have e4 : (I != 0) = true := by simpa using hIz
  have hres : r = 3 := by rw [HR.out]; rw [if_neg (by first | omega | exact fun h => h), if_pos (by omega)]
  subst hres
  clear hIz
  go_wp2
  go_ret
  exact ⟨rfl, HBF.out⟩
 have fI : (I != 0) = false := by simpa using hIz
 have hres : r = 0 := by rw [HR.out, if_neg (by first | omega | exact fun h => h), if_neg (by first | omega | exact fun h => h)]
 subst hres
 clear hDr hAr hBz hIz
 go_wp2
 go_ret
 exact ⟨rfl, HBF.out⟩
set_option maxRecDepth 100000 in
set_option maxHeartbeats 8000000 in
theorem rIns_dbi (k : List UInt8) (o : Co) (num : Nat) (hnum : num ≠ 0) (hd : o.d = true) (ha : o.a = false) (hb : (o.b || o.many) = true) (hn : o.imm = true) (hcall : (k == [99, 97, 108, 108]) = true)
  (HN : ∀ W : World, Calls Tryd.prog 28 #[.string ⟨k.toArray⟩] W fun e w' => e = .returned (.int .i64 (num : Nat)) ∧ Below W.heap.size W w')
  (HH : ∀ W : World, Calls Tryd.prog 45 #[.string ⟨k.toArray⟩] W fun e w' => e = .returned (.string ⟨(hasS o).toArray⟩) ∧ w' = W)
  (D A B I : Int) (hD : 0 ≤ D ∧ D < 256) (hA : 0 ≤ A ∧ A < 256) (hB : 0 ≤ B ∧ B < 256) (hI : -2147483648 ≤ I ∧ I < 2147483648) (w : World) :
  Calls Tryd.prog 30 #[.agg #[.string ⟨k.toArray⟩, .int .i64 D, .int .i64 A, .int .i64 B, .int .i64 I]] w fun e w' => e = .returned (.int .i64 ((if 8 ≤ D ∨ 5 ≤ B then 2 else if A ≠ 0 then 3 else 0 : Nat) : Int)) ∧ Below w.heap.size w w' := by
 obtain ⟨W0, hW0⟩ : ∃ W0, W0 = w.alloc (.cells #[.string ⟨k.toArray⟩, .int .i64 D, .int .i64 A, .int .i64 B, .int .i64 I] 55) := ⟨_, rfl⟩
 have hb0 : Below w.heap.size w W0 := by rw [hW0]; (repeat (first | exact Below.refl _ _ | assumption | refine Below.drew ?_ | refine bT ?_ _ | refine bS ?_ _ | refine bA ?_ _))
 have hx0 : W0.heap[w.heap.size]? = some (.cells #[.string ⟨k.toArray⟩, .int .i64 D, .int .i64 A, .int .i64 B, .int .i64 I] 55 (0, 0)) := by rw [hW0]; exact heap_alloc_new _ _
 have HB0 := hidX hb0
 have HX0 := hidX hx0
 have H1 := hidX HN
 have H2 := hidX HH
 have I1 := hidX (rIs o 100 true ((hasS_d o).trans hd))
 have I2 := hidX (rIs o 97 false ((hasS_a o).trans ha))
 have I3 := hidX (rIs o 98 true ((hasS_b o).trans hb))
 have I4 := hidX (rIs o 105 true ((hasS_i o).trans hn))
 obtain ⟨rd, hrd⟩ : ∃ rd, decide (0 ≤ D ∧ D < 8) = rd := ⟨_, rfl⟩
 obtain ⟨ra, hra⟩ : ∃ ra, decide (0 ≤ A ∧ A < 8) = ra := ⟨_, rfl⟩
 have R1 := hidX (rReg D rd hrd)
 have R2 := hidX (rReg A ra hra)
 have HRD := hidX hrd
 have HRA := hidX hra
 have hnum' : ((num : Int) == 0) = false := by simp; omega
 obtain ⟨r, hr⟩ : ∃ r : Nat, r = (if 8 ≤ D ∨ 5 ≤ B then 2 else if A ≠ 0 then 3 else 0) := ⟨_, rfl⟩
 rw [← hr]
 have HR := hidX hr
 generalize hasS o = hs at H2 I1 I2 I3 I4
 obtain ⟨hD0, hD1⟩ := hD
 obtain ⟨hA0, hA1⟩ := hA
 obtain ⟨hB0, hB1⟩ := hB
 obtain ⟨hI0, hI1⟩ := hI
 clear HN HH hd ha hb hn hnum hb0 hx0 hrd hra hr
 go_enter Tryd.func30, Tryd.ntmps30
 go_wp2_with fail
 rw [← hW0]
 refine (H1.out _).mono ?_
 rintro e w1 ⟨rfl, hb1⟩
 have hx1 := (hb1.block _ (heap_lt HX0.out)).trans HX0.out
 have c0 : w1.cell? ⟨w.heap.size, 0, none⟩ = some (.string ⟨k.toArray⟩) := cell_of_blk hx1 0
 have c1 : w1.cell? ⟨w.heap.size, 1, none⟩ = some (.int .i64 D) := cell_of_blk hx1 1
 have c2 : w1.cell? ⟨w.heap.size, 2, none⟩ = some (.int .i64 A) := cell_of_blk hx1 2
 have c3 : w1.cell? ⟨w.heap.size, 3, none⟩ = some (.int .i64 B) := cell_of_blk hx1 3
 have c4 : w1.cell? ⟨w.heap.size, 4, none⟩ = some (.int .i64 I) := cell_of_blk hx1 4
 have HBF := hidX (bl_trans HB0.out HB0.out.size hb1)
 clear hW0 hb1 hx1
 go_wp2_with fail
 refine (H2.out _).mono ?_
 rintro e w2 ⟨rfl, hh⟩
 replace hh := hh.symm
 subst hh
 go_wp2_with fail
 refine (I1.out _).mono ?_
 rintro e w2 ⟨rfl, hh⟩
 replace hh := hh.symm
 subst hh
 go_wp2_with fail
 refine (I2.out _).mono ?_
 rintro e w2 ⟨rfl, hh⟩
 replace hh := hh.symm
 subst hh
 go_wp2_with fail
 refine (I3.out _).mono ?_
 rintro e w2 ⟨rfl, hh⟩
 replace hh := hh.symm
 subst hh
 go_wp2_with fail
 refine (I4.out _).mono ?_
 rintro e w2 ⟨rfl, hh⟩
 replace hh := hh.symm
 subst hh
 go_wp2_with fail
 refine (R1.out _).mono ?_
 rintro e w2 ⟨rfl, hh⟩
 replace hh := hh.symm
 subst hh
 go_wp2_with fail
 refine (R2.out _).mono ?_
 rintro e w2 ⟨rfl, hh⟩
 replace hh := hh.symm
 subst hh
 cases ra
 all_goals (
  by_cases hDr : 8 ≤ D
  ·have e1 : rd = false := by rw [← HRD.out, decide_eq_false_iff_not]; omega
   subst e1
   have hres : r = 2 := by rw [HR.out]; rw [if_pos (by omega)]
   subst hres
   clear hDr
   go_wp2
   go_ret
   exact ⟨rfl, HBF.out⟩
  have f1 : rd = true := by rw [← HRD.out, decide_eq_true_iff]; omega
  subst f1
  by_cases hBr : 5 ≤ B
  ·have e3 : ¬ B < 5 := by omega
   have hres : r = 2 := by rw [HR.out]; rw [if_pos (by omega)]
   subst hres
   clear hBr
   go_wp2
   go_ret
   exact ⟨rfl, HBF.out⟩
  have f3 : B < 5 := by omega
  by_cases hAz : A ≠ 0
  ·have e4 : (A != 0) = true := by simpa using hAz
   have hres : r = 3 := by rw [HR.out]; rw [if_neg (by first | omega | exact fun h => h), if_pos (by omega)]
   subst hres
   clear hAz
   go_wp2
   go_ret
   exact ⟨rfl, HBF.out⟩
  have fA : (A != 0) = false := by simpa using hAz
  have hres : r = 0 := by rw [HR.out, if_neg (by first | omega | exact fun h => h), if_neg (by first | omega | exact fun h => h)]
  subst hres
  clear hDr hBr hAz
  go_wp2
  go_ret
  exact ⟨rfl, HBF.out⟩)
set_option maxRecDepth 100000 in
set_option maxHeartbeats 8000000 in
theorem rIns_no (k : List UInt8) (o : Co) (num : Nat) (hnum : num ≠ 0) (hd : o.d = false) (ha : o.a = false) (hb : (o.b || o.many) = false) (hn : o.imm = false) (hcall : (k == [99, 97, 108, 108]) = false)
  (HN : ∀ W : World, Calls Tryd.prog 28 #[.string ⟨k.toArray⟩] W fun e w' => e = .returned (.int .i64 (num : Nat)) ∧ Below W.heap.size W w')
  (HH : ∀ W : World, Calls Tryd.prog 45 #[.string ⟨k.toArray⟩] W fun e w' => e = .returned (.string ⟨(hasS o).toArray⟩) ∧ w' = W)
  (D A B I : Int) (hD : 0 ≤ D ∧ D < 256) (hA : 0 ≤ A ∧ A < 256) (hB : 0 ≤ B ∧ B < 256) (hI : -2147483648 ≤ I ∧ I < 2147483648) (w : World) :
  Calls Tryd.prog 30 #[.agg #[.string ⟨k.toArray⟩, .int .i64 D, .int .i64 A, .int .i64 B, .int .i64 I]] w fun e w' => e = .returned (.int .i64 ((if False then 2 else if D ≠ 0 ∨ A ≠ 0 ∨ B ≠ 0 ∨ I ≠ 0 then 3 else 0 : Nat) : Int)) ∧ Below w.heap.size w w' := by
 obtain ⟨W0, hW0⟩ : ∃ W0, W0 = w.alloc (.cells #[.string ⟨k.toArray⟩, .int .i64 D, .int .i64 A, .int .i64 B, .int .i64 I] 55) := ⟨_, rfl⟩
 have hb0 : Below w.heap.size w W0 := by rw [hW0]; (repeat (first | exact Below.refl _ _ | assumption | refine Below.drew ?_ | refine bT ?_ _ | refine bS ?_ _ | refine bA ?_ _))
 have hx0 : W0.heap[w.heap.size]? = some (.cells #[.string ⟨k.toArray⟩, .int .i64 D, .int .i64 A, .int .i64 B, .int .i64 I] 55 (0, 0)) := by rw [hW0]; exact heap_alloc_new _ _
 have HB0 := hidX hb0
 have HX0 := hidX hx0
 have H1 := hidX HN
 have H2 := hidX HH
 have I1 := hidX (rIs o 100 false ((hasS_d o).trans hd))
 have I2 := hidX (rIs o 97 false ((hasS_a o).trans ha))
 have I3 := hidX (rIs o 98 false ((hasS_b o).trans hb))
 have I4 := hidX (rIs o 105 false ((hasS_i o).trans hn))
 obtain ⟨rd, hrd⟩ : ∃ rd, decide (0 ≤ D ∧ D < 8) = rd := ⟨_, rfl⟩
 obtain ⟨ra, hra⟩ : ∃ ra, decide (0 ≤ A ∧ A < 8) = ra := ⟨_, rfl⟩
 have R1 := hidX (rReg D rd hrd)
 have R2 := hidX (rReg A ra hra)
 have HRD := hidX hrd
 have HRA := hidX hra
 have hnum' : ((num : Int) == 0) = false := by simp; omega
 obtain ⟨r, hr⟩ : ∃ r : Nat, r = (if False then 2 else if D ≠ 0 ∨ A ≠ 0 ∨ B ≠ 0 ∨ I ≠ 0 then 3 else 0) := ⟨_, rfl⟩
 rw [← hr]
 have HR := hidX hr
 generalize hasS o = hs at H2 I1 I2 I3 I4
 obtain ⟨hD0, hD1⟩ := hD
 obtain ⟨hA0, hA1⟩ := hA
 obtain ⟨hB0, hB1⟩ := hB
 obtain ⟨hI0, hI1⟩ := hI
 clear HN HH hd ha hb hn hnum hb0 hx0 hrd hra hr
 go_enter Tryd.func30, Tryd.ntmps30
 go_wp2_with fail
 rw [← hW0]
 refine (H1.out _).mono ?_
 rintro e w1 ⟨rfl, hb1⟩
 have hx1 := (hb1.block _ (heap_lt HX0.out)).trans HX0.out
 have c0 : w1.cell? ⟨w.heap.size, 0, none⟩ = some (.string ⟨k.toArray⟩) := cell_of_blk hx1 0
 have c1 : w1.cell? ⟨w.heap.size, 1, none⟩ = some (.int .i64 D) := cell_of_blk hx1 1
 have c2 : w1.cell? ⟨w.heap.size, 2, none⟩ = some (.int .i64 A) := cell_of_blk hx1 2
 have c3 : w1.cell? ⟨w.heap.size, 3, none⟩ = some (.int .i64 B) := cell_of_blk hx1 3
 have c4 : w1.cell? ⟨w.heap.size, 4, none⟩ = some (.int .i64 I) := cell_of_blk hx1 4
 have HBF := hidX (bl_trans HB0.out HB0.out.size hb1)
 clear hW0 hb1 hx1
 go_wp2_with fail
 refine (H2.out _).mono ?_
 rintro e w2 ⟨rfl, hh⟩
 replace hh := hh.symm
 subst hh
 go_wp2_with fail
 refine (I1.out _).mono ?_
 rintro e w2 ⟨rfl, hh⟩
 replace hh := hh.symm
 subst hh
 go_wp2_with fail
 refine (I2.out _).mono ?_
 rintro e w2 ⟨rfl, hh⟩
 replace hh := hh.symm
 subst hh
 go_wp2_with fail
 refine (I3.out _).mono ?_
 rintro e w2 ⟨rfl, hh⟩
 replace hh := hh.symm
 subst hh
 go_wp2_with fail
 refine (I4.out _).mono ?_
 rintro e w2 ⟨rfl, hh⟩
 replace hh := hh.symm
 subst hh
 go_wp2_with fail
 refine (R1.out _).mono ?_
 rintro e w2 ⟨rfl, hh⟩
 replace hh := hh.symm
 subst hh
 go_wp2_with fail
 refine (R2.out _).mono ?_
 rintro e w2 ⟨rfl, hh⟩
 replace hh := hh.symm
 subst hh
 cases rd
 all_goals (
  cases ra
  all_goals (
   by_cases hDz : D ≠ 0
   ·have e4 : (D != 0) = true := by simpa using hDz
    have hres : r = 3 := by rw [HR.out]; rw [if_neg (by first | omega | exact fun h => h), if_pos (by omega)]
    subst hres
    clear hDz
    go_wp2
    go_ret
    exact ⟨rfl, HBF.out⟩
   have fD : (D != 0) = false := by simpa using hDz
   by_cases hAz : A ≠ 0
   ·have e4 : (A != 0) = true := by simpa using hAz
    have hres : r = 3 := by rw [HR.out]; rw [if_neg (by first | omega | exact fun h => h), if_pos (by omega)]
    subst hres
    clear hAz
    go_wp2
    go_ret
    exact ⟨rfl, HBF.out⟩
   have fA : (A != 0) = false := by simpa using hAz
   by_cases hBz : B ≠ 0
   ·have e4 : (B != 0) = true := by simpa using hBz
    have hres : r = 3 := by rw [HR.out]; rw [if_neg (by first | omega | exact fun h => h), if_pos (by omega)]
    subst hres
    clear hBz
    go_wp2
    go_ret
    exact ⟨rfl, HBF.out⟩
   have fB : (B != 0) = false := by simpa using hBz
   by_cases hIz : I ≠ 0
   ·have e4 : (I != 0) = true := by simpa using hIz
    have hres : r = 3 := by rw [HR.out]; rw [if_neg (by first | omega | exact fun h => h), if_pos (by omega)]
    subst hres
    clear hIz
    go_wp2
    go_ret
    exact ⟨rfl, HBF.out⟩
   have fI : (I != 0) = false := by simpa using hIz
   have hres : r = 0 := by rw [HR.out, if_neg (by first | omega | exact fun h => h), if_neg (by first | omega | exact fun h => h)]
   subst hres
   clear hDz hAz hBz hIz
   go_wp2
   go_ret
   exact ⟨rfl, HBF.out⟩))
set_option maxRecDepth 100000 in
set_option maxHeartbeats 8000000 in
theorem rIns_a (k : List UInt8) (o : Co) (num : Nat) (hnum : num ≠ 0) (hd : o.d = false) (ha : o.a = true) (hb : (o.b || o.many) = false) (hn : o.imm = false) (hcall : (k == [99, 97, 108, 108]) = false)
  (HN : ∀ W : World, Calls Tryd.prog 28 #[.string ⟨k.toArray⟩] W fun e w' => e = .returned (.int .i64 (num : Nat)) ∧ Below W.heap.size W w')
  (HH : ∀ W : World, Calls Tryd.prog 45 #[.string ⟨k.toArray⟩] W fun e w' => e = .returned (.string ⟨(hasS o).toArray⟩) ∧ w' = W)
  (D A B I : Int) (hD : 0 ≤ D ∧ D < 256) (hA : 0 ≤ A ∧ A < 256) (hB : 0 ≤ B ∧ B < 256) (hI : -2147483648 ≤ I ∧ I < 2147483648) (w : World) :
  Calls Tryd.prog 30 #[.agg #[.string ⟨k.toArray⟩, .int .i64 D, .int .i64 A, .int .i64 B, .int .i64 I]] w fun e w' => e = .returned (.int .i64 ((if 8 ≤ A then 2 else if D ≠ 0 ∨ B ≠ 0 ∨ I ≠ 0 then 3 else 0 : Nat) : Int)) ∧ Below w.heap.size w w' := by
 obtain ⟨W0, hW0⟩ : ∃ W0, W0 = w.alloc (.cells #[.string ⟨k.toArray⟩, .int .i64 D, .int .i64 A, .int .i64 B, .int .i64 I] 55) := ⟨_, rfl⟩
 have hb0 : Below w.heap.size w W0 := by rw [hW0]; (repeat (first | exact Below.refl _ _ | assumption | refine Below.drew ?_ | refine bT ?_ _ | refine bS ?_ _ | refine bA ?_ _))
 have hx0 : W0.heap[w.heap.size]? = some (.cells #[.string ⟨k.toArray⟩, .int .i64 D, .int .i64 A, .int .i64 B, .int .i64 I] 55 (0, 0)) := by rw [hW0]; exact heap_alloc_new _ _
 have HB0 := hidX hb0
 have HX0 := hidX hx0
 have H1 := hidX HN
 have H2 := hidX HH
 have I1 := hidX (rIs o 100 false ((hasS_d o).trans hd))
 have I2 := hidX (rIs o 97 true ((hasS_a o).trans ha))
 have I3 := hidX (rIs o 98 false ((hasS_b o).trans hb))
 have I4 := hidX (rIs o 105 false ((hasS_i o).trans hn))
 obtain ⟨rd, hrd⟩ : ∃ rd, decide (0 ≤ D ∧ D < 8) = rd := ⟨_, rfl⟩
 obtain ⟨ra, hra⟩ : ∃ ra, decide (0 ≤ A ∧ A < 8) = ra := ⟨_, rfl⟩
 have R1 := hidX (rReg D rd hrd)
 have R2 := hidX (rReg A ra hra)
 have HRD := hidX hrd
 have HRA := hidX hra
 have hnum' : ((num : Int) == 0) = false := by simp; omega
 obtain ⟨r, hr⟩ : ∃ r : Nat, r = (if 8 ≤ A then 2 else if D ≠ 0 ∨ B ≠ 0 ∨ I ≠ 0 then 3 else 0) := ⟨_, rfl⟩
 rw [← hr]
 have HR := hidX hr
 generalize hasS o = hs at H2 I1 I2 I3 I4
 obtain ⟨hD0, hD1⟩ := hD
 obtain ⟨hA0, hA1⟩ := hA
 obtain ⟨hB0, hB1⟩ := hB
 obtain ⟨hI0, hI1⟩ := hI
 clear HN HH hd ha hb hn hnum hb0 hx0 hrd hra hr
 go_enter Tryd.func30, Tryd.ntmps30
 go_wp2_with fail
 rw [← hW0]
 refine (H1.out _).mono ?_
 rintro e w1 ⟨rfl, hb1⟩
 have hx1 := (hb1.block _ (heap_lt HX0.out)).trans HX0.out
 have c0 : w1.cell? ⟨w.heap.size, 0, none⟩ = some (.string ⟨k.toArray⟩) := cell_of_blk hx1 0
 have c1 : w1.cell? ⟨w.heap.size, 1, none⟩ = some (.int .i64 D) := cell_of_blk hx1 1
 have c2 : w1.cell? ⟨w.heap.size, 2, none⟩ = some (.int .i64 A) := cell_of_blk hx1 2
 have c3 : w1.cell? ⟨w.heap.size, 3, none⟩ = some (.int .i64 B) := cell_of_blk hx1 3
 have c4 : w1.cell? ⟨w.heap.size, 4, none⟩ = some (.int .i64 I) := cell_of_blk hx1 4
 have HBF := hidX (bl_trans HB0.out HB0.out.size hb1)
 clear hW0 hb1 hx1
 go_wp2_with fail
 refine (H2.out _).mono ?_
 rintro e w2 ⟨rfl, hh⟩
 replace hh := hh.symm
 subst hh
 go_wp2_with fail
 refine (I1.out _).mono ?_
 rintro e w2 ⟨rfl, hh⟩
 replace hh := hh.symm
 subst hh
 go_wp2_with fail
 refine (I2.out _).mono ?_
 rintro e w2 ⟨rfl, hh⟩
 replace hh := hh.symm
 subst hh
 go_wp2_with fail
 refine (I3.out _).mono ?_
 rintro e w2 ⟨rfl, hh⟩
 replace hh := hh.symm
 subst hh
 go_wp2_with fail
 refine (I4.out _).mono ?_
 rintro e w2 ⟨rfl, hh⟩
 replace hh := hh.symm
 subst hh
 go_wp2_with fail
 refine (R1.out _).mono ?_
 rintro e w2 ⟨rfl, hh⟩
 replace hh := hh.symm
 subst hh
 go_wp2_with fail
 refine (R2.out _).mono ?_
 rintro e w2 ⟨rfl, hh⟩
 replace hh := hh.symm
 subst hh
 cases rd
 all_goals (
  by_cases hAr : 8 ≤ A
  ·have e2 : ra = false := by rw [← HRA.out, decide_eq_false_iff_not]; omega
   subst e2
   have hres : r = 2 := by rw [HR.out]; rw [if_pos (by omega)]
   subst hres
   clear hAr
   go_wp2
   go_ret
   exact ⟨rfl, HBF.out⟩
  have f2 : ra = true := by rw [← HRA.out, decide_eq_true_iff]; omega
  subst f2
  by_cases hDz : D ≠ 0
  ·have e4 : (D != 0) = true := by simpa using hDz
   have hres : r = 3 := by rw [HR.out]; rw [if_neg (by first | omega | exact fun h => h), if_pos (by omega)]
   subst hres
   clear hDz
   go_wp2
   go_ret
   exact ⟨rfl, HBF.out⟩
  have fD : (D != 0) = false := by simpa using hDz
  by_cases hBz : B ≠ 0
  ·have e4 : (B != 0) = true := by simpa using hBz
   have hres : r = 3 := by rw [HR.out]; rw [if_neg (by first | omega | exact fun h => h), if_pos (by omega)]
   subst hres
   clear hBz
   go_wp2
   go_ret
   exact ⟨rfl, HBF.out⟩
  have fB : (B != 0) = false := by simpa using hBz
  by_cases hIz : I ≠ 0
  ·have e4 : (I != 0) = true := by simpa using hIz
   have hres : r = 3 := by rw [HR.out]; rw [if_neg (by first | omega | exact fun h => h), if_pos (by omega)]
   subst hres
   clear hIz
   go_wp2
   go_ret
   exact ⟨rfl, HBF.out⟩
  have fI : (I != 0) = false := by simpa using hIz
  have hres : r = 0 := by rw [HR.out, if_neg (by first | omega | exact fun h => h), if_neg (by first | omega | exact fun h => h)]
  subst hres
  clear hAr hDz hBz hIz
  go_wp2
  go_ret
  exact ⟨rfl, HBF.out⟩)
set_option maxRecDepth 100000 in
set_option maxHeartbeats 8000000 in
theorem rIns_i (k : List UInt8) (o : Co) (num : Nat) (hnum : num ≠ 0) (hd : o.d = false) (ha : o.a = false) (hb : (o.b || o.many) = false) (hn : o.imm = true) (hcall : (k == [99, 97, 108, 108]) = false)
  (HN : ∀ W : World, Calls Tryd.prog 28 #[.string ⟨k.toArray⟩] W fun e w' => e = .returned (.int .i64 (num : Nat)) ∧ Below W.heap.size W w')
  (HH : ∀ W : World, Calls Tryd.prog 45 #[.string ⟨k.toArray⟩] W fun e w' => e = .returned (.string ⟨(hasS o).toArray⟩) ∧ w' = W)
  (D A B I : Int) (hD : 0 ≤ D ∧ D < 256) (hA : 0 ≤ A ∧ A < 256) (hB : 0 ≤ B ∧ B < 256) (hI : -2147483648 ≤ I ∧ I < 2147483648) (w : World) :
  Calls Tryd.prog 30 #[.agg #[.string ⟨k.toArray⟩, .int .i64 D, .int .i64 A, .int .i64 B, .int .i64 I]] w fun e w' => e = .returned (.int .i64 ((if False then 2 else if D ≠ 0 ∨ A ≠ 0 ∨ B ≠ 0 then 3 else 0 : Nat) : Int)) ∧ Below w.heap.size w w' := by
 obtain ⟨W0, hW0⟩ : ∃ W0, W0 = w.alloc (.cells #[.string ⟨k.toArray⟩, .int .i64 D, .int .i64 A, .int .i64 B, .int .i64 I] 55) := ⟨_, rfl⟩
 have hb0 : Below w.heap.size w W0 := by rw [hW0]; (repeat (first | exact Below.refl _ _ | assumption | refine Below.drew ?_ | refine bT ?_ _ | refine bS ?_ _ | refine bA ?_ _))
 have hx0 : W0.heap[w.heap.size]? = some (.cells #[.string ⟨k.toArray⟩, .int .i64 D, .int .i64 A, .int .i64 B, .int .i64 I] 55 (0, 0)) := by rw [hW0]; exact heap_alloc_new _ _
 have HB0 := hidX hb0
 have HX0 := hidX hx0
 have H1 := hidX HN
 have H2 := hidX HH
 have I1 := hidX (rIs o 100 false ((hasS_d o).trans hd))
 have I2 := hidX (rIs o 97 false ((hasS_a o).trans ha))
 have I3 := hidX (rIs o 98 false ((hasS_b o).trans hb))
 have I4 := hidX (rIs o 105 true ((hasS_i o).trans hn))
 obtain ⟨rd, hrd⟩ : ∃ rd, decide (0 ≤ D ∧ D < 8) = rd := ⟨_, rfl⟩
 obtain ⟨ra, hra⟩ : ∃ ra, decide (0 ≤ A ∧ A < 8) = ra := ⟨_, rfl⟩
 have R1 := hidX (rReg D rd hrd)
 have R2 := hidX (rReg A ra hra)
 have HRD := hidX hrd
 have HRA := hidX hra
 have hnum' : ((num : Int) == 0) = false := by simp; omega
 obtain ⟨r, hr⟩ : ∃ r : Nat, r = (if False then 2 else if D ≠ 0 ∨ A ≠ 0 ∨ B ≠ 0 then 3 else 0) := ⟨_, rfl⟩
 rw [← hr]
 have HR := hidX hr
 generalize hasS o = hs at H2 I1 I2 I3 I4
 obtain ⟨hD0, hD1⟩ := hD
 obtain ⟨hA0, hA1⟩ := hA
 obtain ⟨hB0, hB1⟩ := hB
 obtain ⟨hI0, hI1⟩ := hI
 clear HN HH hd ha hb hn hnum hb0 hx0 hrd hra hr
 go_enter Tryd.func30, Tryd.ntmps30
 go_wp2_with fail
 rw [← hW0]
 refine (H1.out _).mono ?_
 rintro e w1 ⟨rfl, hb1⟩
 have hx1 := (hb1.block _ (heap_lt HX0.out)).trans HX0.out
 have c0 : w1.cell? ⟨w.heap.size, 0, none⟩ = some (.string ⟨k.toArray⟩) := cell_of_blk hx1 0
 have c1 : w1.cell? ⟨w.heap.size, 1, none⟩ = some (.int .i64 D) := cell_of_blk hx1 1
 have c2 : w1.cell? ⟨w.heap.size, 2, none⟩ = some (.int .i64 A) := cell_of_blk hx1 2
 have c3 : w1.cell? ⟨w.heap.size, 3, none⟩ = some (.int .i64 B) := cell_of_blk hx1 3
 have c4 : w1.cell? ⟨w.heap.size, 4, none⟩ = some (.int .i64 I) := cell_of_blk hx1 4
 have HBF := hidX (bl_trans HB0.out HB0.out.size hb1)
 clear hW0 hb1 hx1
 go_wp2_with fail
 refine (H2.out _).mono ?_
 rintro e w2 ⟨rfl, hh⟩
 replace hh := hh.symm
 subst hh
 go_wp2_with fail
 refine (I1.out _).mono ?_
 rintro e w2 ⟨rfl, hh⟩
 replace hh := hh.symm
 subst hh
 go_wp2_with fail
 refine (I2.out _).mono ?_
 rintro e w2 ⟨rfl, hh⟩
 replace hh := hh.symm
 subst hh
 go_wp2_with fail
 refine (I3.out _).mono ?_
 rintro e w2 ⟨rfl, hh⟩
 replace hh := hh.symm
 subst hh
 go_wp2_with fail
 refine (I4.out _).mono ?_
 rintro e w2 ⟨rfl, hh⟩
 replace hh := hh.symm
 subst hh
 go_wp2_with fail
 refine (R1.out _).mono ?_
 rintro e w2 ⟨rfl, hh⟩
 replace hh := hh.symm
 subst hh
 go_wp2_with fail
 refine (R2.out _).mono ?_
 rintro e w2 ⟨rfl, hh⟩
 replace hh := hh.symm
 subst hh
 cases rd
 all_goals (
  cases ra
  all_goals (
   by_cases hDz : D ≠ 0
   ·have e4 : (D != 0) = true := by simpa using hDz
    have hres : r = 3 := by rw [HR.out]; rw [if_neg (by first | omega | exact fun h => h), if_pos (by omega)]
    subst hres
    clear hDz
    go_wp2
    go_ret
    exact ⟨rfl, HBF.out⟩
   have fD : (D != 0) = false := by simpa using hDz
   by_cases hAz : A ≠ 0
   ·have e4 : (A != 0) = true := by simpa using hAz
    have hres : r = 3 := by rw [HR.out]; rw [if_neg (by first | omega | exact fun h => h), if_pos (by omega)]
    subst hres
    clear hAz
    go_wp2
    go_ret
    exact ⟨rfl, HBF.out⟩
   have fA : (A != 0) = false := by simpa using hAz
   by_cases hBz : B ≠ 0
   ·have e4 : (B != 0) = true := by simpa using hBz
    have hres : r = 3 := by rw [HR.out]; rw [if_neg (by first | omega | exact fun h => h), if_pos (by omega)]
    subst hres
    clear hBz
    go_wp2
    go_ret
    exact ⟨rfl, HBF.out⟩
   have fB : (B != 0) = false := by simpa using hBz
   have hres : r = 0 := by rw [HR.out, if_neg (by first | omega | exact fun h => h), if_neg (by first | omega | exact fun h => h)]
   subst hres
   clear hDz hAz hBz
   go_wp2
   go_ret
   exact ⟨rfl, HBF.out⟩))
set_option maxRecDepth 100000 in
set_option maxHeartbeats 8000000 in
theorem rIns_dab (k : List UInt8) (o : Co) (num : Nat) (hnum : num ≠ 0) (hd : o.d = true) (ha : o.a = true) (hb : (o.b || o.many) = true) (hn : o.imm = false) (hcall : (k == [99, 97, 108, 108]) = false)
  (HN : ∀ W : World, Calls Tryd.prog 28 #[.string ⟨k.toArray⟩] W fun e w' => e = .returned (.int .i64 (num : Nat)) ∧ Below W.heap.size W w')
  (HH : ∀ W : World, Calls Tryd.prog 45 #[.string ⟨k.toArray⟩] W fun e w' => e = .returned (.string ⟨(hasS o).toArray⟩) ∧ w' = W)
  (D A B I : Int) (hD : 0 ≤ D ∧ D < 256) (hA : 0 ≤ A ∧ A < 256) (hB : 0 ≤ B ∧ B < 256) (hI : -2147483648 ≤ I ∧ I < 2147483648) (w : World) :
  Calls Tryd.prog 30 #[.agg #[.string ⟨k.toArray⟩, .int .i64 D, .int .i64 A, .int .i64 B, .int .i64 I]] w fun e w' => e = .returned (.int .i64 ((if 8 ≤ D ∨ 8 ≤ A ∨ 8 ≤ B then 2 else if I ≠ 0 then 3 else 0 : Nat) : Int)) ∧ Below w.heap.size w w' := by
 obtain ⟨W0, hW0⟩ : ∃ W0, W0 = w.alloc (.cells #[.string ⟨k.toArray⟩, .int .i64 D, .int .i64 A, .int .i64 B, .int .i64 I] 55) := ⟨_, rfl⟩
 have hb0 : Below w.heap.size w W0 := by rw [hW0]; (repeat (first | exact Below.refl _ _ | assumption | refine Below.drew ?_ | refine bT ?_ _ | refine bS ?_ _ | refine bA ?_ _))
 have hx0 : W0.heap[w.heap.size]? = some (.cells #[.string ⟨k.toArray⟩, .int .i64 D, .int .i64 A, .int .i64 B, .int .i64 I] 55 (0, 0)) := by rw [hW0]; exact heap_alloc_new _ _
 have HB0 := hidX hb0
 have HX0 := hidX hx0
 have H1 := hidX HN
 have H2 := hidX HH
 have I1 := hidX (rIs o 100 true ((hasS_d o).trans hd))
 have I2 := hidX (rIs o 97 true ((hasS_a o).trans ha))
 have I3 := hidX (rIs o 98 true ((hasS_b o).trans hb))
 have I4 := hidX (rIs o 105 false ((hasS_i o).trans hn))
 obtain ⟨rd, hrd⟩ : ∃ rd, decide (0 ≤ D ∧ D < 8) = rd := ⟨_, rfl⟩
 obtain ⟨ra, hra⟩ : ∃ ra, decide (0 ≤ A ∧ A < 8) = ra := ⟨_, rfl⟩
 have R1 := hidX (rReg D rd hrd)
 have R2 := hidX (rReg A ra hra)
 have HRD := hidX hrd
 have HRA := hidX hra
 have hnum' : ((num : Int) == 0) = false := by simp; omega
 obtain ⟨r, hr⟩ : ∃ r : Nat, r = (if 8 ≤ D ∨ 8 ≤ A ∨ 8 ≤ B then 2 else if I ≠ 0 then 3 else 0) := ⟨_, rfl⟩
 rw [← hr]
 have HR := hidX hr
 generalize hasS o = hs at H2 I1 I2 I3 I4
 obtain ⟨hD0, hD1⟩ := hD
 obtain ⟨hA0, hA1⟩ := hA
 obtain ⟨hB0, hB1⟩ := hB
 obtain ⟨hI0, hI1⟩ := hI
 clear HN HH hd ha hb hn hnum hb0 hx0 hrd hra hr
 go_enter Tryd.func30, Tryd.ntmps30
 go_wp2_with fail
 rw [← hW0]
 refine (H1.out _).mono ?_
 rintro e w1 ⟨rfl, hb1⟩
 have hx1 := (hb1.block _ (heap_lt HX0.out)).trans HX0.out
 have c0 : w1.cell? ⟨w.heap.size, 0, none⟩ = some (.string ⟨k.toArray⟩) := cell_of_blk hx1 0
 have c1 : w1.cell? ⟨w.heap.size, 1, none⟩ = some (.int .i64 D) := cell_of_blk hx1 1
 have c2 : w1.cell? ⟨w.heap.size, 2, none⟩ = some (.int .i64 A) := cell_of_blk hx1 2
 have c3 : w1.cell? ⟨w.heap.size, 3, none⟩ = some (.int .i64 B) := cell_of_blk hx1 3
 have c4 : w1.cell? ⟨w.heap.size, 4, none⟩ = some (.int .i64 I) := cell_of_blk hx1 4
 have HBF := hidX (bl_trans HB0.out HB0.out.size hb1)
 clear hW0 hb1 hx1
 go_wp2_with fail
 refine (H2.out _).mono ?_
 rintro e w2 ⟨rfl, hh⟩
 replace hh := hh.symm
 subst hh
 go_wp2_with fail
 refine (I1.out _).mono ?_
 rintro e w2 ⟨rfl, hh⟩
 replace hh := hh.symm
 subst hh
 go_wp2_with fail
 refine (I2.out _).mono ?_
 rintro e w2 ⟨rfl, hh⟩
 replace hh := hh.symm
 subst hh
 go_wp2_with fail
 refine (I3.out _).mono ?_
 rintro e w2 ⟨rfl, hh⟩
 replace hh := hh.symm
 subst hh
 go_wp2_with fail
 refine (I4.out _).mono ?_
 rintro e w2 ⟨rfl, hh⟩
 replace hh := hh.symm
 subst hh
 go_wp2_with fail
 refine (R1.out _).mono ?_
 rintro e w2 ⟨rfl, hh⟩
 replace hh := hh.symm
 subst hh
 go_wp2_with fail
 refine (R2.out _).mono ?_
 rintro e w2 ⟨rfl, hh⟩
 replace hh := hh.symm
 subst hh
 by_cases hDr : 8 ≤ D
 ·have e1 : rd = false := by rw [← HRD.out, decide_eq_false_iff_not]; omega
  subst e1
  have hres : r = 2 := by rw [HR.out]; rw [if_pos (by omega)]
  subst hres
  clear hDr
  go_wp2
  go_ret
  exact ⟨rfl, HBF.out⟩
 have f1 : rd = true := by rw [← HRD.out, decide_eq_true_iff]; omega
 subst f1
 by_cases hAr : 8 ≤ A
 ·have e2 : ra = false := by rw [← HRA.out, decide_eq_false_iff_not]; omega
  subst e2
  have hres : r = 2 := by rw [HR.out]; rw [if_pos (by omega)]
  subst hres
  clear hAr
  go_wp2
  go_ret
  exact ⟨rfl, HBF.out⟩
 have f2 : ra = true := by rw [← HRA.out, decide_eq_true_iff]; omega
 subst f2
 by_cases hBr : 8 ≤ B
 ·have e3 : ¬ B < 8 := by omega
  have hres : r = 2 := by rw [HR.out]; rw [if_pos (by omega)]
  subst hres
  clear hBr
  go_wp2
  go_ret
  exact ⟨rfl, HBF.out⟩
 have f3 : B < 8 := by omega
 by_cases hIz : I ≠ 0
 ·have e4 : (I != 0) = true := by simpa using hIz
  have hres : r = 3 := by rw [HR.out]; rw [if_neg (by first | omega | exact fun h => h), if_pos (by omega)]
  subst hres
  clear hIz
  go_wp2
  go_ret
  exact ⟨rfl, HBF.out⟩
 have fI : (I != 0) = false := by simpa using hIz
 have hres : r = 0 := by rw [HR.out, if_neg (by first | omega | exact fun h => h), if_neg (by first | omega | exact fun h => h)]
 subst hres
 clear hDr hAr hBr hIz
 go_wp2
 go_ret
 exact ⟨rfl, HBF.out⟩
end Go.Proofs.YtbcpomdcmilpjaaDoor
