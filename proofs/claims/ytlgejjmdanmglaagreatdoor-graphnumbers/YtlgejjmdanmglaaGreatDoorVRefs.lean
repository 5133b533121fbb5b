/- Our own: texts joined: GrRef1, GrRef2. -/
import Derived.Test.YtlgejjmdanmglaaGreatDoorVNewAll
import Derived.Test.YtlgejjmdanmglaaGreatDoorVIsIns
namespace Go.Proofs.YtlgejjmdanmglaaGreatDoor
open Go.RowKit
def waysK : List (List UInt8) := [gStart, gRegion, gYes, gNo, gTick, gPrint, gCall]
def valsK : List (List UInt8) := [gParam, gConst, gOne, gTwo, gPhi, gCall]
set_option maxRecDepth 100000 in
theorem rWay_any (k : List UInt8) (w : World) : Calls Tryz.prog 23 #[.string ⟨k.toArray⟩] w fun e w' => e = .returned (.bool (inL waysK k)) ∧ Below w.heap.size w w' := by
 have HIN := hidX (isIn_texts waysK (by decide) k 7 w)
 generalize inL waysK k = b at *
 go_enter Tryz.func23, Tryz.ntmps23
 go_wp2_with fail
 refine HIN.out.mono ?_
 rintro e w' ⟨rfl, hh⟩
 subst hh
 go_wp2
 go_ret
 exact ⟨rfl, box_blk _ _ _⟩
set_option maxRecDepth 100000 in
theorem rVal_any (k : List UInt8) (w : World) : Calls Tryz.prog 50 #[.string ⟨k.toArray⟩] w fun e w' => e = .returned (.bool (inL valsK k)) ∧ Below w.heap.size w w' := by
 have HIN := hidX (isIn_texts valsK (by decide) k 6 w)
 generalize inL valsK k = b at *
 go_enter Tryz.func50, Tryz.ntmps50
 go_wp2_with fail
 refine HIN.out.mono ?_
 rintro e w' ⟨rfl, hh⟩
 subst hh
 go_wp2
 go_ret
 exact ⟨rfl, box_blk _ _ _⟩
theorem way_k (k : List UInt8) : inL waysK k = (shp k).gives.contains 119 := by
 rcases kind_cases k with rfl | rfl | rfl | rfl | rfl | rfl | rfl | rfl | rfl | rfl | rfl | rfl | rfl | rfl | ⟨hs, h1, h2, h3, h4, h5, h6, h7, h8, h9, h10, h11, h12, h13, h14⟩ <;> first | decide | (rw [hs, Bool.eq_iff_iff, inL_iff]; simp [waysK, noShp, h1, h7, h9, h10, h11, h12, h13])
theorem val_k (k : List UInt8) : inL valsK k = (shp k).gives.contains 118 := by
 rcases kind_cases k with rfl | rfl | rfl | rfl | rfl | rfl | rfl | rfl | rfl | rfl | rfl | rfl | rfl | rfl | ⟨hs, h1, h2, h3, h4, h5, h6, h7, h8, h9, h10, h11, h12, h13, h14⟩ <;> first | decide | (rw [hs, Bool.eq_iff_iff, inL_iff]; simp [valsK, noShp, h2, h3, h4, h5, h6, h13])
def kindB (k : List UInt8) : Bool := inL waysK k || inL valsK k || k == gIf || k == gReturn
theorem kind_k (k : List UInt8) : kindB k = decide ((shp k).kind ≠ []) := by
 rcases kind_cases k with rfl | rfl | rfl | rfl | rfl | rfl | rfl | rfl | rfl | rfl | rfl | rfl | rfl | rfl | ⟨hs, h1, h2, h3, h4, h5, h6, h7, h8, h9, h10, h11, h12, h13, h14⟩ <;> first | decide | (unfold kindB; rw [hs, way_k, val_k, hs]; simp [noShp, h8, h14])
set_option maxRecDepth 100000 in
theorem rKind_any (k : List UInt8) (w : World) : Calls Tryz.prog 45 #[.string ⟨k.toArray⟩] w fun e w' => e = .returned (.bool (kindB k)) ∧ Below w.heap.size w w' := by
 have HW := hidX (rWay_any k w)
 have hk : kindB k = (inL waysK k || inL valsK k || k == [105, 102] || k == [114, 101, 116, 117, 114, 110]) := rfl
 rw [hk]
 have HV := fun X => rVal_any k X
 have HVV := hidX HV
 clear HV hk
 generalize inL waysK k = b1 at *
 generalize inL valsK k = b2 at *
 cases b1 with
 | true =>
  go_enter Tryz.func45, Tryz.ntmps45
  go_wp2_with fail
  refine HW.out.mono ?_
  rintro e W ⟨rfl, hb⟩
  go_wp2
  go_ret
  exact ⟨by simp, hb⟩
 | false =>
  cases b2 with
  | true =>
   go_enter Tryz.func45, Tryz.ntmps45
   go_wp2_with fail
   refine HW.out.mono ?_
   rintro e W ⟨rfl, hb⟩
   go_wp2_with fail
   refine (HVV.out W).mono ?_
   rintro e W2 ⟨rfl, hb2⟩
   go_wp2
   go_ret
   exact ⟨by simp, bl_trans hb hb.size hb2⟩
  | false =>
   generalize hc1 : (k == [105, 102]) = c1
   generalize hc2 : (k == [114, 101, 116, 117, 114, 110]) = c2
   cases c1 with
   | true =>
    go_enter Tryz.func45, Tryz.ntmps45
    go_wp2_with fail
    refine HW.out.mono ?_
    rintro e W ⟨rfl, hb⟩
    go_wp2_with fail
    refine (HVV.out W).mono ?_
    rintro e W2 ⟨rfl, hb2⟩
    go_wp2
    go_ret
    exact ⟨by simp, bl_trans hb hb.size hb2⟩
   | false =>
    go_enter Tryz.func45, Tryz.ntmps45
    go_wp2_with fail
    refine HW.out.mono ?_
    rintro e W ⟨rfl, hb⟩
    go_wp2_with fail
    refine (HVV.out W).mono ?_
    rintro e W2 ⟨rfl, hb2⟩
    go_wp2
    go_ret
    exact ⟨by simp, bl_trans hb hb.size hb2⟩
def countB (k : List UInt8) (c : Nat) : Bool := if k = gStart ∨ k = gParam ∨ k = gConst then c == 0 else if k = gOne ∨ k = gYes ∨ k = gNo ∨ k = gTick then c == 1 else if k = gTwo ∨ k = gIf ∨ k = gPrint ∨ k = gReturn then c == 2 else decide (1 ≤ c)
def waysR (n : Nd) : Nat := if n.kind = gRegion then n.ins.length else if n.kind = gIf ∨ n.kind = gPrint ∨ n.kind = gReturn ∨ n.kind = gCall ∨ n.kind = gTick then 1 else 0
set_option maxRecDepth 100000 in
set_option maxHeartbeats 2000000 in
theorem rCount_any (n : Nd) (hl : n.ins.length ≤ 100000) (ad : Option Addr) (cap : Nat) (w : World) : Calls Tryz.prog 46 #[ndV n ad cap] w fun e w' => e = .returned (.bool (countB n.kind n.ins.length)) ∧ Below w.heap.size w w' := by
 obtain ⟨k, ni, nn, nm⟩ := n
 simp only at hl
 have hl' : (ni.length : Int) ≤ 100000 := by omega
 rcases kind_cases k with rfl | rfl | rfl | rfl | rfl | rfl | rfl | rfl | rfl | rfl | rfl | rfl | rfl | rfl | ⟨_, h1, h2, h3, h4, h5, h6, h7, h8, h9, h10, h11, h12, h13, h14⟩
 ·have hr : countB gStart ni.length = (ni.length == 0) := by rfl
  rw [hr]
  clear hr
  unfold gStart
  go_enter Tryz.func46, Tryz.ntmps46
  go_wp2
  all_goals (go_ret; exact ⟨ret_bool (by rw [Bool.eq_iff_iff]; simp; try omega), by (repeat (first | exact Below.refl _ _ | assumption | refine Below.drew ?_ | refine bT ?_ _ | refine bS ?_ _ | refine bA ?_ _))⟩)
 ·have hr : countB gParam ni.length = (ni.length == 0) := by rfl
  rw [hr]
  clear hr
  unfold gParam
  go_enter Tryz.func46, Tryz.ntmps46
  go_wp2
  all_goals (go_ret; exact ⟨ret_bool (by rw [Bool.eq_iff_iff]; simp; try omega), by (repeat (first | exact Below.refl _ _ | assumption | refine Below.drew ?_ | refine bT ?_ _ | refine bS ?_ _ | refine bA ?_ _))⟩)
 ·have hr : countB gConst ni.length = (ni.length == 0) := by rfl
  rw [hr]
  clear hr
  unfold gConst
  go_enter Tryz.func46, Tryz.ntmps46
  go_wp2
  all_goals (go_ret; exact ⟨ret_bool (by rw [Bool.eq_iff_iff]; simp; try omega), by (repeat (first | exact Below.refl _ _ | assumption | refine Below.drew ?_ | refine bT ?_ _ | refine bS ?_ _ | refine bA ?_ _))⟩)
 ·have hr : countB gOne ni.length = (ni.length == 1) := by rfl
  rw [hr]
  clear hr
  unfold gOne
  go_enter Tryz.func46, Tryz.ntmps46
  go_wp2
  all_goals (go_ret; exact ⟨ret_bool (by rw [Bool.eq_iff_iff]; simp; try omega), by (repeat (first | exact Below.refl _ _ | assumption | refine Below.drew ?_ | refine bT ?_ _ | refine bS ?_ _ | refine bA ?_ _))⟩)
 ·have hr : countB gTwo ni.length = (ni.length == 2) := by rfl
  rw [hr]
  clear hr
  unfold gTwo
  go_enter Tryz.func46, Tryz.ntmps46
  go_wp2
  all_goals (go_ret; exact ⟨ret_bool (by rw [Bool.eq_iff_iff]; simp; try omega), by (repeat (first | exact Below.refl _ _ | assumption | refine Below.drew ?_ | refine bT ?_ _ | refine bS ?_ _ | refine bA ?_ _))⟩)
 ·have hr : countB gPhi ni.length = decide (1 ≤ ni.length) := by rfl
  rw [hr]
  clear hr
  unfold gPhi
  go_enter Tryz.func46, Tryz.ntmps46
  go_wp2
  all_goals (go_ret; exact ⟨ret_bool (by rw [Bool.eq_iff_iff]; simp; try omega), by (repeat (first | exact Below.refl _ _ | assumption | refine Below.drew ?_ | refine bT ?_ _ | refine bS ?_ _ | refine bA ?_ _))⟩)
 ·have hr : countB gRegion ni.length = decide (1 ≤ ni.length) := by rfl
  rw [hr]
  clear hr
  unfold gRegion
  go_enter Tryz.func46, Tryz.ntmps46
  go_wp2
  all_goals (go_ret; exact ⟨ret_bool (by rw [Bool.eq_iff_iff]; simp; try omega), by (repeat (first | exact Below.refl _ _ | assumption | refine Below.drew ?_ | refine bT ?_ _ | refine bS ?_ _ | refine bA ?_ _))⟩)
 ·have hr : countB gIf ni.length = (ni.length == 2) := by rfl
  rw [hr]
  clear hr
  unfold gIf
  go_enter Tryz.func46, Tryz.ntmps46
  go_wp2
  all_goals (go_ret; exact ⟨ret_bool (by rw [Bool.eq_iff_iff]; simp; try omega), by (repeat (first | exact Below.refl _ _ | assumption | refine Below.drew ?_ | refine bT ?_ _ | refine bS ?_ _ | refine bA ?_ _))⟩)
 ·have hr : countB gYes ni.length = (ni.length == 1) := by rfl
  rw [hr]
  clear hr
  unfold gYes
  go_enter Tryz.func46, Tryz.ntmps46
  go_wp2
  all_goals (go_ret; exact ⟨ret_bool (by rw [Bool.eq_iff_iff]; simp; try omega), by (repeat (first | exact Below.refl _ _ | assumption | refine Below.drew ?_ | refine bT ?_ _ | refine bS ?_ _ | refine bA ?_ _))⟩)
 ·have hr : countB gNo ni.length = (ni.length == 1) := by rfl
  rw [hr]
  clear hr
  unfold gNo
  go_enter Tryz.func46, Tryz.ntmps46
  go_wp2
  all_goals (go_ret; exact ⟨ret_bool (by rw [Bool.eq_iff_iff]; simp; try omega), by (repeat (first | exact Below.refl _ _ | assumption | refine Below.drew ?_ | refine bT ?_ _ | refine bS ?_ _ | refine bA ?_ _))⟩)
 ·have hr : countB gTick ni.length = (ni.length == 1) := by rfl
  rw [hr]
  clear hr
  unfold gTick
  go_enter Tryz.func46, Tryz.ntmps46
  go_wp2
  all_goals (go_ret; exact ⟨ret_bool (by rw [Bool.eq_iff_iff]; simp; try omega), by (repeat (first | exact Below.refl _ _ | assumption | refine Below.drew ?_ | refine bT ?_ _ | refine bS ?_ _ | refine bA ?_ _))⟩)
 ·have hr : countB gPrint ni.length = (ni.length == 2) := by rfl
  rw [hr]
  clear hr
  unfold gPrint
  go_enter Tryz.func46, Tryz.ntmps46
  go_wp2
  all_goals (go_ret; exact ⟨ret_bool (by rw [Bool.eq_iff_iff]; simp; try omega), by (repeat (first | exact Below.refl _ _ | assumption | refine Below.drew ?_ | refine bT ?_ _ | refine bS ?_ _ | refine bA ?_ _))⟩)
 ·have hr : countB gCall ni.length = decide (1 ≤ ni.length) := by rfl
  rw [hr]
  clear hr
  unfold gCall
  go_enter Tryz.func46, Tryz.ntmps46
  go_wp2
  all_goals (go_ret; exact ⟨ret_bool (by rw [Bool.eq_iff_iff]; simp; try omega), by (repeat (first | exact Below.refl _ _ | assumption | refine Below.drew ?_ | refine bT ?_ _ | refine bS ?_ _ | refine bA ?_ _))⟩)
 ·have hr : countB gReturn ni.length = (ni.length == 2) := by rfl
  rw [hr]
  clear hr
  unfold gReturn
  go_enter Tryz.func46, Tryz.ntmps46
  go_wp2
  all_goals (go_ret; exact ⟨ret_bool (by rw [Bool.eq_iff_iff]; simp; try omega), by (repeat (first | exact Below.refl _ _ | assumption | refine Below.drew ?_ | refine bT ?_ _ | refine bS ?_ _ | refine bA ?_ _))⟩)
 ·have hr : countB k ni.length = decide (1 ≤ ni.length) := by simp [countB, h1, h2, h3, h4, h5, h8, h9, h10, h11, h12, h14]
  rw [hr]
  clear hr
  have t1 : (k == [115, 116, 97, 114, 116]) = false := ne_lit h1
  have t2 : (k == [112, 97, 114, 97, 109]) = false := ne_lit h2
  have t3 : (k == [99, 111, 110, 115, 116]) = false := ne_lit h3
  have t4 : (k == [111, 110, 101]) = false := ne_lit h4
  have t5 : (k == [116, 119, 111]) = false := ne_lit h5
  have t6 : (k == [112, 104, 105]) = false := ne_lit h6
  have t7 : (k == [114, 101, 103, 105, 111, 110]) = false := ne_lit h7
  have t8 : (k == [105, 102]) = false := ne_lit h8
  have t9 : (k == [121, 101, 115]) = false := ne_lit h9
  have t10 : (k == [110, 111]) = false := ne_lit h10
  have t11 : (k == [116, 105, 99, 107]) = false := ne_lit h11
  have t12 : (k == [112, 114, 105, 110, 116]) = false := ne_lit h12
  have t13 : (k == [99, 97, 108, 108]) = false := ne_lit h13
  have t14 : (k == [114, 101, 116, 117, 114, 110]) = false := ne_lit h14
  clear h1 h2 h3 h4 h5 h6 h7 h8 h9 h10 h11 h12 h13 h14
  go_enter Tryz.func46, Tryz.ntmps46
  go_wp2
  all_goals (go_ret; exact ⟨ret_bool (by rw [Bool.eq_iff_iff]; simp; try omega), by (repeat (first | exact Below.refl _ _ | assumption | refine Below.drew ?_ | refine bT ?_ _ | refine bS ?_ _ | refine bA ?_ _))⟩)
set_option maxRecDepth 100000 in
set_option maxHeartbeats 2000000 in
theorem rWays_any (n : Nd) (hl : n.ins.length ≤ 100000) (ad : Option Addr) (cap : Nat) (w : World) : Calls Tryz.prog 49 #[ndV n ad cap] w fun e w' => e = .returned (.int .i64 ((waysR n : Nat) : Int)) ∧ Below w.heap.size w w' := by
 obtain ⟨k, ni, nn, nm⟩ := n
 simp only at hl
 have hl' : (ni.length : Int) ≤ 100000 := by omega
 rcases kind_cases k with rfl | rfl | rfl | rfl | rfl | rfl | rfl | rfl | rfl | rfl | rfl | rfl | rfl | rfl | ⟨_, h1, h2, h3, h4, h5, h6, h7, h8, h9, h10, h11, h12, h13, h14⟩
 ·have hr : waysR ⟨gStart, ni, nn, nm⟩ = 0 := by rfl
  rw [hr]
  clear hr
  unfold gStart
  go_enter Tryz.func49, Tryz.ntmps49
  go_wp2
  all_goals (go_ret; exact ⟨rfl, by (repeat (first | exact Below.refl _ _ | assumption | refine Below.drew ?_ | refine bT ?_ _ | refine bS ?_ _ | refine bA ?_ _))⟩)
 ·have hr : waysR ⟨gParam, ni, nn, nm⟩ = 0 := by rfl
  rw [hr]
  clear hr
  unfold gParam
  go_enter Tryz.func49, Tryz.ntmps49
  go_wp2
  all_goals (go_ret; exact ⟨rfl, by (repeat (first | exact Below.refl _ _ | assumption | refine Below.drew ?_ | refine bT ?_ _ | refine bS ?_ _ | refine bA ?_ _))⟩)
 ·have hr : waysR ⟨gConst, ni, nn, nm⟩ = 0 := by rfl
  rw [hr]
  clear hr
  unfold gConst
  go_enter Tryz.func49, Tryz.ntmps49
  go_wp2
  all_goals (go_ret; exact ⟨rfl, by (repeat (first | exact Below.refl _ _ | assumption | refine Below.drew ?_ | refine bT ?_ _ | refine bS ?_ _ | refine bA ?_ _))⟩)
 ·have hr : waysR ⟨gOne, ni, nn, nm⟩ = 0 := by rfl
  rw [hr]
  clear hr
  unfold gOne
  go_enter Tryz.func49, Tryz.ntmps49
  go_wp2
  all_goals (go_ret; exact ⟨rfl, by (repeat (first | exact Below.refl _ _ | assumption | refine Below.drew ?_ | refine bT ?_ _ | refine bS ?_ _ | refine bA ?_ _))⟩)
 ·have hr : waysR ⟨gTwo, ni, nn, nm⟩ = 0 := by rfl
  rw [hr]
  clear hr
  unfold gTwo
  go_enter Tryz.func49, Tryz.ntmps49
  go_wp2
  all_goals (go_ret; exact ⟨rfl, by (repeat (first | exact Below.refl _ _ | assumption | refine Below.drew ?_ | refine bT ?_ _ | refine bS ?_ _ | refine bA ?_ _))⟩)
 ·have hr : waysR ⟨gPhi, ni, nn, nm⟩ = 0 := by rfl
  rw [hr]
  clear hr
  unfold gPhi
  go_enter Tryz.func49, Tryz.ntmps49
  go_wp2
  all_goals (go_ret; exact ⟨rfl, by (repeat (first | exact Below.refl _ _ | assumption | refine Below.drew ?_ | refine bT ?_ _ | refine bS ?_ _ | refine bA ?_ _))⟩)
 ·have hr : waysR ⟨gRegion, ni, nn, nm⟩ = ni.length := by rfl
  rw [hr]
  clear hr
  unfold gRegion
  go_enter Tryz.func49, Tryz.ntmps49
  go_wp2
  all_goals (go_ret; exact ⟨rfl, by (repeat (first | exact Below.refl _ _ | assumption | refine Below.drew ?_ | refine bT ?_ _ | refine bS ?_ _ | refine bA ?_ _))⟩)
 ·have hr : waysR ⟨gIf, ni, nn, nm⟩ = 1 := by rfl
  rw [hr]
  clear hr
  unfold gIf
  go_enter Tryz.func49, Tryz.ntmps49
  go_wp2
  all_goals (go_ret; exact ⟨rfl, by (repeat (first | exact Below.refl _ _ | assumption | refine Below.drew ?_ | refine bT ?_ _ | refine bS ?_ _ | refine bA ?_ _))⟩)
 ·have hr : waysR ⟨gYes, ni, nn, nm⟩ = 0 := by rfl
  rw [hr]
  clear hr
  unfold gYes
  go_enter Tryz.func49, Tryz.ntmps49
  go_wp2
  all_goals (go_ret; exact ⟨rfl, by (repeat (first | exact Below.refl _ _ | assumption | refine Below.drew ?_ | refine bT ?_ _ | refine bS ?_ _ | refine bA ?_ _))⟩)
 ·have hr : waysR ⟨gNo, ni, nn, nm⟩ = 0 := by rfl
  rw [hr]
  clear hr
  unfold gNo
  go_enter Tryz.func49, Tryz.ntmps49
  go_wp2
  all_goals (go_ret; exact ⟨rfl, by (repeat (first | exact Below.refl _ _ | assumption | refine Below.drew ?_ | refine bT ?_ _ | refine bS ?_ _ | refine bA ?_ _))⟩)
 ·have hr : waysR ⟨gTick, ni, nn, nm⟩ = 1 := by rfl
  rw [hr]
  clear hr
  unfold gTick
  go_enter Tryz.func49, Tryz.ntmps49
  go_wp2
  all_goals (go_ret; exact ⟨rfl, by (repeat (first | exact Below.refl _ _ | assumption | refine Below.drew ?_ | refine bT ?_ _ | refine bS ?_ _ | refine bA ?_ _))⟩)
 ·have hr : waysR ⟨gPrint, ni, nn, nm⟩ = 1 := by rfl
  rw [hr]
  clear hr
  unfold gPrint
  go_enter Tryz.func49, Tryz.ntmps49
  go_wp2
  all_goals (go_ret; exact ⟨rfl, by (repeat (first | exact Below.refl _ _ | assumption | refine Below.drew ?_ | refine bT ?_ _ | refine bS ?_ _ | refine bA ?_ _))⟩)
 ·have hr : waysR ⟨gCall, ni, nn, nm⟩ = 1 := by rfl
  rw [hr]
  clear hr
  unfold gCall
  go_enter Tryz.func49, Tryz.ntmps49
  go_wp2
  all_goals (go_ret; exact ⟨rfl, by (repeat (first | exact Below.refl _ _ | assumption | refine Below.drew ?_ | refine bT ?_ _ | refine bS ?_ _ | refine bA ?_ _))⟩)
 ·have hr : waysR ⟨gReturn, ni, nn, nm⟩ = 1 := by rfl
  rw [hr]
  clear hr
  unfold gReturn
  go_enter Tryz.func49, Tryz.ntmps49
  go_wp2
  all_goals (go_ret; exact ⟨rfl, by (repeat (first | exact Below.refl _ _ | assumption | refine Below.drew ?_ | refine bT ?_ _ | refine bS ?_ _ | refine bA ?_ _))⟩)
 ·have hr : waysR ⟨k, ni, nn, nm⟩ = 0 := by simp [waysR, h7, h8, h11, h12, h13, h14]
  rw [hr]
  clear hr
  have t1 : (k == [115, 116, 97, 114, 116]) = false := ne_lit h1
  have t2 : (k == [112, 97, 114, 97, 109]) = false := ne_lit h2
  have t3 : (k == [99, 111, 110, 115, 116]) = false := ne_lit h3
  have t4 : (k == [111, 110, 101]) = false := ne_lit h4
  have t5 : (k == [116, 119, 111]) = false := ne_lit h5
  have t6 : (k == [112, 104, 105]) = false := ne_lit h6
  have t7 : (k == [114, 101, 103, 105, 111, 110]) = false := ne_lit h7
  have t8 : (k == [105, 102]) = false := ne_lit h8
  have t9 : (k == [121, 101, 115]) = false := ne_lit h9
  have t10 : (k == [110, 111]) = false := ne_lit h10
  have t11 : (k == [116, 105, 99, 107]) = false := ne_lit h11
  have t12 : (k == [112, 114, 105, 110, 116]) = false := ne_lit h12
  have t13 : (k == [99, 97, 108, 108]) = false := ne_lit h13
  have t14 : (k == [114, 101, 116, 117, 114, 110]) = false := ne_lit h14
  clear h1 h2 h3 h4 h5 h6 h7 h8 h9 h10 h11 h12 h13 h14
  go_enter Tryz.func49, Tryz.ntmps49
  go_wp2
  all_goals (go_ret; exact ⟨rfl, by (repeat (first | exact Below.refl _ _ | assumption | refine Below.drew ?_ | refine bT ?_ _ | refine bS ?_ _ | refine bA ?_ _))⟩)
end Go.Proofs.YtlgejjmdanmglaaGreatDoor
namespace Go.Proofs.YtlgejjmdanmglaaGreatDoor
open Go.RowKit
def numB (n : Nd) : Bool := n.kind == gParam || n.kind == gConst || n.num == 0
def nameG (n : Nd) : Bool := n.kind == gOne || n.kind == gTwo || n.kind == gCall || n.name == []
theorem cnt_fits {s : Shp} {k : List UInt8} {c : Nat} (hs : s = shp k) (hk : s.kind ≠ []) : (c == s.ins.length || (decide (s.ins.length < c) && s.more != [])) = countB k c := by
 subst hs
 rcases kind_cases k with rfl | rfl | rfl | rfl | rfl | rfl | rfl | rfl | rfl | rfl | rfl | rfl | rfl | rfl | ⟨h, _⟩
 ·show (c == 0 || (decide (0 < c) && false)) = (c == 0); simp
 ·show (c == 0 || (decide (0 < c) && false)) = (c == 0); simp
 ·show (c == 0 || (decide (0 < c) && false)) = (c == 0); simp
 ·show (c == 1 || (decide (1 < c) && false)) = (c == 1); simp
 ·show (c == 2 || (decide (2 < c) && false)) = (c == 2); simp
 ·show (c == 1 || (decide (1 < c) && true)) = decide (1 ≤ c); rw [Bool.eq_iff_iff]; simp; omega
 ·show (c == 1 || (decide (1 < c) && true)) = decide (1 ≤ c); rw [Bool.eq_iff_iff]; simp; omega
 ·show (c == 2 || (decide (2 < c) && false)) = (c == 2); simp
 ·show (c == 1 || (decide (1 < c) && false)) = (c == 1); simp
 ·show (c == 1 || (decide (1 < c) && false)) = (c == 1); simp
 ·show (c == 1 || (decide (1 < c) && false)) = (c == 1); simp
 ·show (c == 2 || (decide (2 < c) && false)) = (c == 2); simp
 ·show (c == 1 || (decide (1 < c) && true)) = decide (1 ≤ c); rw [Bool.eq_iff_iff]; simp; omega
 ·show (c == 2 || (decide (2 < c) && false)) = (c == 2); simp
 ·exact absurd (by rw [h]; rfl) hk
theorem num_is (k : List UInt8) : (shp k).num = (k == gParam || k == gConst) := by
 rcases kind_cases k with rfl | rfl | rfl | rfl | rfl | rfl | rfl | rfl | rfl | rfl | rfl | rfl | rfl | rfl | ⟨h, h1, h2, h3, _⟩ <;> first | decide | (rw [h]; simp [noShp, h2, h3])
theorem name_is (k : List UInt8) : (shp k).name = (k == gOne || k == gTwo || k == gCall) := by
 rcases kind_cases k with rfl | rfl | rfl | rfl | rfl | rfl | rfl | rfl | rfl | rfl | rfl | rfl | rfl | rfl | ⟨h, h1, h2, h3, h4, h5, h6, h7, h8, h9, h10, h11, h12, h13, _⟩ <;> first | decide | (rw [h]; simp [noShp, h4, h5, h13])
theorem fits_is {n : Nd} (hk : (shp n.kind).kind ≠ []) : fitsB (shp n.kind) n = (countB n.kind n.ins.length && numB n && nameG n) := by
 unfold fitsB numB nameG
 rw [cnt_fits rfl hk, num_is, name_is]
def isAt (n : Nd) (k : Nat) (x : List UInt8) : Bool := if n.kind = gYes ∨ n.kind = gNo then x == gIf else if n.kind = gPhi ∧ k = 0 then x == gRegion else if k < waysR n then inL waysK x else inL valsK x
theorem has_if (x : List UInt8) : (shp x).gives.contains 105 = (x == gIf) := by
 rcases kind_cases x with rfl | rfl | rfl | rfl | rfl | rfl | rfl | rfl | rfl | rfl | rfl | rfl | rfl | rfl | ⟨h, h1, h2, h3, h4, h5, h6, h7, h8, _⟩ <;> first | decide | (rw [h]; simp [noShp, h8])
theorem has_region (x : List UInt8) : (shp x).gives.contains 114 = (x == gRegion) := by
 rcases kind_cases x with rfl | rfl | rfl | rfl | rfl | rfl | rfl | rfl | rfl | rfl | rfl | rfl | rfl | rfl | ⟨h, h1, h2, h3, h4, h5, h6, h7, _⟩ <;> first | decide | (rw [h]; simp [noShp, h7])
theorem due_two {n : Nd} {k : Nat} (hf : fitsB (shp n.kind) n = true) (hk : k < n.ins.length) (hz : (shp n.kind).kind ≠ []) :
  dueS (shp n.kind) k = if n.kind = gYes ∨ n.kind = gNo then 105 else if n.kind = gPhi ∧ k = 0 then 114 else if k < waysR n then 119 else 118 := by
 have hl := fits_len hf
 obtain ⟨f1, f2, f3, f4, f5, f6, f7, f8, f9, f10, f11, f12, f13, f14⟩ := hl
 obtain ⟨kd, ni, nn, nm⟩ := n
 simp only at *
 rcases kind_cases kd with e | e | e | e | e | e | e | e | e | e | e | e | e | e | ⟨e, _⟩
 ·rw [f1 e] at hk; simp at hk
 ·rw [f2 e] at hk; simp at hk
 ·rw [f3 e] at hk; simp at hk
 ·have : k = 0 := by have := f4 e; omega
  subst this e; rfl
 ·have h2 := f5 e
  rcases (by omega : k = 0 ∨ k = 1) with rfl | rfl <;> (subst e; rfl)
 ·subst e
  by_cases h0 : k = 0
  ·subst h0; rfl
  ·rw [due_more (k := gPhi) (m := 118) (c := 1) (by decide) (by decide) k (by omega), if_neg (by decide), if_neg (by simp [h0]), show waysR ⟨gPhi, ni, nn, nm⟩ = 0 from rfl, if_neg (by omega)]
 ·subst e
  rw [due_region, if_neg (by decide), if_neg (by simp [gRegion, gPhi]), show waysR ⟨gRegion, ni, nn, nm⟩ = ni.length from rfl, if_pos hk]
 ·have h2 := f8 e
  rcases (by omega : k = 0 ∨ k = 1) with rfl | rfl <;> (subst e; rfl)
 ·have : k = 0 := by have := f9 e; omega
  subst this e; rfl
 ·have : k = 0 := by have := f10 e; omega
  subst this e; rfl
 ·have : k = 0 := by have := f11 e; omega
  subst this e; rfl
 ·have h2 := f12 e
  rcases (by omega : k = 0 ∨ k = 1) with rfl | rfl <;> (subst e; rfl)
 ·subst e
  by_cases h0 : k = 0
  ·subst h0; rfl
  ·rw [due_more (k := gCall) (m := 118) (c := 1) (by decide) (by decide) k (by omega), if_neg (by decide), if_neg (by simp [gCall, gPhi]), show waysR ⟨gCall, ni, nn, nm⟩ = 1 from rfl, if_neg (by omega)]
 ·have h2 := f14 e
  rcases (by omega : k = 0 ∨ k = 1) with rfl | rfl <;> (subst e; rfl)
 ·exact absurd (by rw [e]; rfl) hz
theorem giv_is {L : List Nd} {n : Nd} {k : Nat} (hf : fitsB (shp n.kind) n = true) (hk : k < n.ins.length) (hz : (shp n.kind).kind ≠ []) : givAt L n k = isAt n k (ndAt L n.ins[k]).kind := by
 unfold givAt isAt
 rw [List.getD_eq_getElem?_getD, List.getElem?_eq_getElem hk, Option.getD_some, due_two hf hk hz]
 split
 ·exact has_if _
 ·split
  ·exact has_region _
  ·split
   ·exact (way_k _).symm
   ·exact (val_k _).symm
section
variable {P : Int} {L : List Nd} {i : Nat} {n : Nd}
theorem node_step (hn : ndAt L (i : Int) = n) (hk : (shp n.kind).kind ≠ []) : nodeC onesE twosE P L i = if (n.kind = gStart ∧ 0 < i) ∨ (countB n.kind n.ins.length && numB n && nameG n) = false then 3 else if bndB P L.length n = false then 2 else if opB onesE twosE n = false then 4 else if givB L n = false ∨ phiB L n = false then 3 else 0 := by
 unfold nodeC
 simp only [hn]
 rw [if_neg hk, shp_kind hk, fits_is hk]
theorem node_none (hn : ndAt L (i : Int) = n) (hk : (shp n.kind).kind = []) : nodeC onesE twosE P L i = 4 := by
 unfold nodeC
 simp only [hn]
 rw [if_pos hk]
end
structure Rn (w : World) (g off cap : Nat) (ad1 : Option Addr) (cap1 : Nat) (P : Int) (L : List Nd) (i : Nat) (n : Nd) : Prop where
 graph : XG false (InH w) w (.slice (some ⟨g, off, none⟩) L.length cap) L
 low : InH w g
 at0 : ndAt L (i : Int) = n
 hi : i < L.length
 k0 : w.cell? ⟨g, off + i * 4, none⟩ = some (.string ⟨n.kind.toArray⟩)
 k1 : w.cell? ⟨g, off + i * 4 + 1, none⟩ = some (.slice ad1 n.ins.length cap1)
 k2 : w.cell? ⟨g, off + i * 4 + 2, none⟩ = some (.int .i64 n.num)
 k3 : w.cell? ⟨g, off + i * 4 + 3, none⟩ = some (.string ⟨n.name.toArray⟩)
 row : XRow (InH w) w (.slice ad1 n.ins.length cap1) n.ins.length (intsG n.ins)
 lown : LowN n
 lows : ∀ m ∈ L, LowN m
 few : L.length ≤ 1000
theorem Rn.at {w : World} {g off cap : Nat} {ad1 : Option Addr} {cap1 : Nat} {P : Int} {L : List Nd} {i : Nat} {n : Nd} (h : Rn w g off cap ad1 cap1 P L i n) {x : Int} (h0 : 0 ≤ x) (h1 : x < (L.length : Int)) : ∃ y : Nat, x = (y : Int) ∧ w.cell? ⟨g, off + y * 4, none⟩ = some (.string ⟨(ndAt L x).kind.toArray⟩) ∧ ∃ ad2 cap2, w.cell? ⟨g, off + y * 4 + 1, none⟩ = some (.slice ad2 (ndAt L x).ins.length cap2) := by
 have hl : x.toNat < L.length := by omega
 obtain ⟨g', off', ad2, cap2, q1, _, _, _, q5, q6, _, _⟩ := h.graph.node hl
 injection q1 with q1
 injection q1 with q1 q2
 subst q1 q2
 have e : ndAt L x = L[x.toNat] := by simp [ndAt, hl]
 rw [e]
 exact ⟨x.toNat, by omega, q5, ad2, cap2, q6⟩
end Go.Proofs.YtlgejjmdanmglaaGreatDoor
