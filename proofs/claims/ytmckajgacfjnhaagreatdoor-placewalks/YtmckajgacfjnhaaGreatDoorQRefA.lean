/- Our own: texts joined: PlRef1, PlRef2, PlRef3. -/
import Derived.Test.YtmckajgacfjnhaaGreatDoorQPlMR
import Derived.Test.YtmckajgacfjnhaaGreatDoorQIsIns
import Derived.Test.YtmckajgacfjnhaaGreatDoorQBase
namespace Go.Proofs.YtmckajgacfjnhaaGreatDoor
open Go.RowKit
set_option maxRecDepth 100000 in
set_option maxHeartbeats 2000000 in
theorem allIn_any {A : Nat → Prop} (l : List Int) (hn : l.length ≤ 100000) (V : Int) (w : World) (ad : Option Addr) (c : Nat) (h1 : XRow A w (.slice ad l.length c) l.length (intsG l)) :
  Calls Tryz.prog 30 #[.slice ad l.length c, .int .i64 V] w fun e w' => e = .returned (.bool (l.all (inV V))) ∧ w' = w := by
 have R1 := hidX h1
 have hn' : (l.length : Int) ≤ 100000 := by omega
 obtain ⟨goal, hgoal⟩ : ∃ goal, goal = l.all (inV V) := ⟨_, rfl⟩
 rw [← hgoal]
 have HG := hidX hgoal
 clear h1 hgoal
 go_enter Tryz.func30, Tryz.ntmps30
 go_wp2_with fail
 go_loopw [5] (fun i wr => ∃ q : Nat, q ≤ l.length ∧ i = .int .i64 q ∧ wr = w ∧ Hid ((l.take q).all (inV V) = true)) (fun i _ => l.length - (intOf i).toNat)
 case atStart => exact ⟨0, by omega, rfl, rfl, rfl⟩
 case round =>
  obtain ⟨q, hq, rfl, hwr, HA⟩ := hrel
  subst hwr
  by_cases hlt : q < l.length
  ·have hlt' : (q : Int) < (l.length : Int) := by omega
   obtain ⟨g, off, e1, hg, ht⟩ := R1.out.int hlt
   subst e1
   have HST := hidX (show inV V l[q] = true → (l.take (q + 1)).all (inV V) = true from fun h => by
    rw [List.take_succ_eq_append_getElem hlt, List.all_append, HA.out]; simp [h])
   have HBD := hidX (show inV V l[q] = false → goal = false from fun h => by
    rw [HG.out, List.all_eq_false]; exact ⟨_, List.getElem_mem hlt, by simp [h]⟩)
   generalize l[q] = x at *
   by_cases h0 : x < 0
   ·have hg0 := HBD.out (by simp [inV]; omega)
    subst hg0
    go_wp2
    go_ret
    exact ⟨rfl, rfl⟩
   ·by_cases h1 : x < V
    ·have h0' : 0 ≤ x := by omega
     have HS2 := hidX (HST.out (by simp [inV]; omega))
     go_wp2
     go_roundw
     case rel => exact ⟨q + 1, by omega, by go_num, trivial, HS2.out⟩
     case measure => simp [intOf]; omega
    ·have hg0 := HBD.out (by simp [inV]; omega)
     subst hg0
     have h1' : V ≤ x := by omega
     go_wp2
     go_ret
     exact ⟨rfl, rfl⟩
  ·have hqn : q = l.length := by omega
   subst hqn
   have hg0 : goal = true := by rw [HG.out]; have := HA.out; rwa [List.take_length] at this
   subst hg0
   go_wp2
   go_ret
   exact ⟨rfl, rfl⟩
end Go.Proofs.YtmckajgacfjnhaaGreatDoor
namespace Go.Proofs.YtmckajgacfjnhaaGreatDoor
open Go.RowKit
set_option maxRecDepth 100000 in
set_option maxHeartbeats 2000000 in
theorem insShapeParam (d num : Int) (n cap : Nat) (ad : Option Addr) (name : List UInt8) (w : World) (b0 b1 : Bool) (f0 : ((n : Int) == 0) = b0) (f1 : name.isEmpty = b1) :
  Calls Tryz.prog 31 #[.agg #[.string ⟨([112, 97, 114, 97, 109] : List UInt8).toArray⟩, .int .i64 d, .slice ad n cap, .int .i64 num, .string ⟨name.toArray⟩]] w fun e w' => e = .returned (.bool (b0 && b1)) ∧ Below w.heap.size w w' := by
 cases b0 <;> cases b1
 all_goals
  go_enter Tryz.func31, Tryz.ntmps31
  go_wp2
  go_ret
  exact ⟨rfl, by (repeat (first | exact Below.refl _ _ | assumption | refine Below.drew ?_ | refine bT ?_ _ | refine bS ?_ _ | refine bA ?_ _))⟩
set_option maxRecDepth 100000 in
set_option maxHeartbeats 2000000 in
theorem insShapeConst (d num : Int) (n cap : Nat) (ad : Option Addr) (name : List UInt8) (w : World) (b0 b1 : Bool) (f0 : ((n : Int) == 0) = b0) (f1 : name.isEmpty = b1) :
  Calls Tryz.prog 31 #[.agg #[.string ⟨([99, 111, 110, 115, 116] : List UInt8).toArray⟩, .int .i64 d, .slice ad n cap, .int .i64 num, .string ⟨name.toArray⟩]] w fun e w' => e = .returned (.bool (b0 && b1)) ∧ Below w.heap.size w w' := by
 cases b0 <;> cases b1
 all_goals
  go_enter Tryz.func31, Tryz.ntmps31
  go_wp2
  go_ret
  exact ⟨rfl, by (repeat (first | exact Below.refl _ _ | assumption | refine Below.drew ?_ | refine bT ?_ _ | refine bS ?_ _ | refine bA ?_ _))⟩
set_option maxRecDepth 100000 in
set_option maxHeartbeats 2000000 in
theorem insShapeOne (d num : Int) (n cap : Nat) (ad : Option Addr) (name : List UInt8) (w : World) (b0 b1 : Bool) (f0 : ((n : Int) == 1) = b0) (f1 : (num == 0) = b1) :
  Calls Tryz.prog 31 #[.agg #[.string ⟨([111, 110, 101] : List UInt8).toArray⟩, .int .i64 d, .slice ad n cap, .int .i64 num, .string ⟨name.toArray⟩]] w fun e w' => e = .returned (.bool (b0 && b1)) ∧ Below w.heap.size w w' := by
 cases b0 <;> cases b1
 all_goals
  go_enter Tryz.func31, Tryz.ntmps31
  go_wp2
  go_ret
  exact ⟨rfl, by (repeat (first | exact Below.refl _ _ | assumption | refine Below.drew ?_ | refine bT ?_ _ | refine bS ?_ _ | refine bA ?_ _))⟩
set_option maxRecDepth 100000 in
set_option maxHeartbeats 2000000 in
theorem insShapeTwo (d num : Int) (n cap : Nat) (ad : Option Addr) (name : List UInt8) (w : World) (b0 b1 : Bool) (f0 : ((n : Int) == 2) = b0) (f1 : (num == 0) = b1) :
  Calls Tryz.prog 31 #[.agg #[.string ⟨([116, 119, 111] : List UInt8).toArray⟩, .int .i64 d, .slice ad n cap, .int .i64 num, .string ⟨name.toArray⟩]] w fun e w' => e = .returned (.bool (b0 && b1)) ∧ Below w.heap.size w w' := by
 cases b0 <;> cases b1
 all_goals
  go_enter Tryz.func31, Tryz.ntmps31
  go_wp2
  go_ret
  exact ⟨rfl, by (repeat (first | exact Below.refl _ _ | assumption | refine Below.drew ?_ | refine bT ?_ _ | refine bS ?_ _ | refine bA ?_ _))⟩
set_option maxRecDepth 100000 in
set_option maxHeartbeats 2000000 in
theorem insShapeCall (d num : Int) (n cap : Nat) (ad : Option Addr) (name : List UInt8) (w : World) (b0 : Bool) (f0 : (num == 0) = b0) :
  Calls Tryz.prog 31 #[.agg #[.string ⟨([99, 97, 108, 108] : List UInt8).toArray⟩, .int .i64 d, .slice ad n cap, .int .i64 num, .string ⟨name.toArray⟩]] w fun e w' => e = .returned (.bool (b0)) ∧ Below w.heap.size w w' := by
 cases b0
 all_goals
  go_enter Tryz.func31, Tryz.ntmps31
  go_wp2
  go_ret
  exact ⟨rfl, by (repeat (first | exact Below.refl _ _ | assumption | refine Below.drew ?_ | refine bT ?_ _ | refine bS ?_ _ | refine bA ?_ _))⟩
set_option maxRecDepth 100000 in
set_option maxHeartbeats 2000000 in
theorem insShapeTick (d num : Int) (n cap : Nat) (ad : Option Addr) (name : List UInt8) (w : World) (b0 b1 b2 b3 : Bool) (f0 : ((n : Int) == 0) = b0) (f1 : name.isEmpty = b1) (f2 : (num == 0) = b2) (f3 : (d == 0) = b3) :
  Calls Tryz.prog 31 #[.agg #[.string ⟨([116, 105, 99, 107] : List UInt8).toArray⟩, .int .i64 d, .slice ad n cap, .int .i64 num, .string ⟨name.toArray⟩]] w fun e w' => e = .returned (.bool (b0 && b1 && b2 && b3)) ∧ Below w.heap.size w w' := by
 cases b0 <;> cases b1 <;> cases b2 <;> cases b3
 all_goals
  go_enter Tryz.func31, Tryz.ntmps31
  go_wp2
  go_ret
  exact ⟨rfl, by (repeat (first | exact Below.refl _ _ | assumption | refine Below.drew ?_ | refine bT ?_ _ | refine bS ?_ _ | refine bA ?_ _))⟩
set_option maxRecDepth 100000 in
set_option maxHeartbeats 2000000 in
theorem insShapePrint (d num : Int) (n cap : Nat) (ad : Option Addr) (name : List UInt8) (w : World) (b0 b1 b2 b3 : Bool) (f0 : ((n : Int) == 1) = b0) (f1 : name.isEmpty = b1) (f2 : (num == 0) = b2) (f3 : (d == 0) = b3) :
  Calls Tryz.prog 31 #[.agg #[.string ⟨([112, 114, 105, 110, 116] : List UInt8).toArray⟩, .int .i64 d, .slice ad n cap, .int .i64 num, .string ⟨name.toArray⟩]] w fun e w' => e = .returned (.bool (b0 && b1 && b2 && b3)) ∧ Below w.heap.size w w' := by
 cases b0 <;> cases b1 <;> cases b2 <;> cases b3
 all_goals
  go_enter Tryz.func31, Tryz.ntmps31
  go_wp2
  go_ret
  exact ⟨rfl, by (repeat (first | exact Below.refl _ _ | assumption | refine Below.drew ?_ | refine bT ?_ _ | refine bS ?_ _ | refine bA ?_ _))⟩
theorem psh_cases {k : List UInt8} (h : (psh k).kind ≠ []) : k = gParam ∨ k = gConst ∨ k = gOne ∨ k = gTwo ∨ k = gCall ∨ k = gTick ∨ k = gPrint := by
 by_cases h1 : k = gParam
 ·simp [h1]
 by_cases h2 : k = gConst
 ·simp [h2]
 by_cases h3 : k = gOne
 ·simp [h3]
 by_cases h4 : k = gTwo
 ·simp [h4]
 by_cases h5 : k = gCall
 ·simp [h5]
 by_cases h6 : k = gTick
 ·simp [h6]
 by_cases h7 : k = gPrint
 ·simp [h7]
 refine absurd ?_ h
 show (pshIn pshL k).kind = []
 unfold pshL pshIn pshIn pshIn pshIn pshIn pshIn pshIn pshIn
 rw [if_neg (Ne.symm h1), if_neg (Ne.symm h2), if_neg (Ne.symm h3), if_neg (Ne.symm h4), if_neg (Ne.symm h5), if_neg (Ne.symm h6), if_neg (Ne.symm h7)]
theorem psh_param : psh gParam = ⟨gParam, 0, true, true, false⟩ := rfl
theorem psh_const : psh gConst = ⟨gConst, 0, true, true, false⟩ := rfl
theorem psh_one : psh gOne = ⟨gOne, 1, true, false, true⟩ := rfl
theorem psh_two : psh gTwo = ⟨gTwo, 2, true, false, true⟩ := rfl
theorem psh_call : psh gCall = ⟨gCall, -1, true, false, true⟩ := rfl
theorem psh_tick : psh gTick = ⟨gTick, 0, false, false, false⟩ := rfl
theorem psh_print : psh gPrint = ⟨gPrint, 1, false, false, false⟩ := rfl
theorem emp_is (l : List UInt8) : l.isEmpty = (l == []) := by cases l <;> rfl
theorem insShape_any (x : Pi) (hk : (psh x.kind).kind ≠ []) (cap : Nat) (ad : Option Addr) (w : World) :
  Calls Tryz.prog 31 #[.agg #[.string ⟨x.kind.toArray⟩, .int .i64 x.d, .slice ad x.args.length cap, .int .i64 x.num, .string ⟨x.name.toArray⟩]] w fun e w' => e = .returned (.bool (pShape x)) ∧ Below w.heap.size w w' := by
 obtain ⟨k, d, args, num, name⟩ := x
 rcases psh_cases hk with e | e | e | e | e | e | e
 all_goals (simp only at e; subst e)
 ·refine (insShapeParam d num args.length cap ad name w _ _ rfl rfl ).mono fun e w' h => ⟨h.1.trans ?_, h.2⟩
  simp only [pShape, psh_param, emp_is]
  generalize ((args.length : Int) == 0) = b0
  generalize (name == []) = b1
  cases b0 <;> cases b1 <;> simp
 ·refine (insShapeConst d num args.length cap ad name w _ _ rfl rfl ).mono fun e w' h => ⟨h.1.trans ?_, h.2⟩
  simp only [pShape, psh_const, emp_is]
  generalize ((args.length : Int) == 0) = b0
  generalize (name == []) = b1
  cases b0 <;> cases b1 <;> simp
 ·refine (insShapeOne d num args.length cap ad name w _ _ rfl rfl ).mono fun e w' h => ⟨h.1.trans ?_, h.2⟩
  simp only [pShape, psh_one]
  generalize ((args.length : Int) == 1) = b0
  generalize (num == 0) = b1
  cases b0 <;> cases b1 <;> simp
 ·refine (insShapeTwo d num args.length cap ad name w _ _ rfl rfl ).mono fun e w' h => ⟨h.1.trans ?_, h.2⟩
  simp only [pShape, psh_two]
  generalize ((args.length : Int) == 2) = b0
  generalize (num == 0) = b1
  cases b0 <;> cases b1 <;> simp
 ·refine (insShapeCall d num args.length cap ad name w _ rfl ).mono fun e w' h => ⟨h.1.trans ?_, h.2⟩
  simp only [pShape, psh_call]
  generalize (num == 0) = b0
  cases b0 <;> simp
 ·refine (insShapeTick d num args.length cap ad name w _ _ _ _ rfl rfl rfl rfl ).mono fun e w' h => ⟨h.1.trans ?_, h.2⟩
  simp only [pShape, psh_tick, emp_is]
  generalize ((args.length : Int) == 0) = b0
  generalize (name == []) = b1
  generalize (num == 0) = b2
  generalize (d == 0) = b3
  cases b0 <;> cases b1 <;> cases b2 <;> cases b3 <;> simp
 ·refine (insShapePrint d num args.length cap ad name w _ _ _ _ rfl rfl rfl rfl ).mono fun e w' h => ⟨h.1.trans ?_, h.2⟩
  simp only [pShape, psh_print, emp_is]
  generalize ((args.length : Int) == 1) = b0
  generalize (name == []) = b1
  generalize (num == 0) = b2
  generalize (d == 0) = b3
  cases b0 <;> cases b1 <;> cases b2 <;> cases b3 <;> simp
end Go.Proofs.YtmckajgacfjnhaaGreatDoor
namespace Go.Proofs.YtmckajgacfjnhaaGreatDoor
open Go.RowKit
theorem pk_other {ones twos : List (List UInt8)} {x : Pi} (h : (psh x.kind).kind = []) : pKind ones twos x = false := by simp [pKind, h]
theorem psh_none {k : List UInt8} (h1 : k ≠ gParam) (h2 : k ≠ gConst) (h3 : k ≠ gOne) (h4 : k ≠ gTwo) (h5 : k ≠ gCall) (h6 : k ≠ gTick) (h7 : k ≠ gPrint) : (psh k).kind = [] := by
 show (pshIn pshL k).kind = []
 unfold pshL pshIn pshIn pshIn pshIn pshIn pshIn pshIn pshIn
 rw [if_neg (Ne.symm h1), if_neg (Ne.symm h2), if_neg (Ne.symm h3), if_neg (Ne.symm h4), if_neg (Ne.symm h5), if_neg (Ne.symm h6), if_neg (Ne.symm h7)]
set_option maxRecDepth 100000 in
set_option maxHeartbeats 4000000 in
theorem insKind_any (x : Pi) (ad : Option Addr) (n cap : Nat) (w : World) :
  Calls Tryz.prog 29 #[.agg #[.string ⟨x.kind.toArray⟩, .int .i64 x.d, .slice ad n cap, .int .i64 x.num, .string ⟨x.name.toArray⟩]] w fun e w' => e = .returned (.bool (pKind onesE twosE x)) ∧ Below w.heap.size w w' := by
 obtain ⟨k, d, args, num, name⟩ := x
 obtain ⟨W0, hW0⟩ : ∃ W0, W0 = w.alloc (.cells #[.string ⟨k.toArray⟩, .int .i64 d, .slice ad n cap, .int .i64 num, .string ⟨name.toArray⟩] 61) := ⟨_, rfl⟩
 have HB0 := hidX (show Below w.heap.size w W0 from by rw [hW0]; (repeat (first | exact Below.refl _ _ | assumption | refine Below.drew ?_ | refine bT ?_ _ | refine bS ?_ _ | refine bA ?_ _)))
 by_cases e3 : k = gOne
 ·subst e3
  have HP := hidX (show pKind onesE twosE ⟨gOne, d, args, num, name⟩ = decide (name ∈ onesE) from by unfold pKind pOp; rw [if_pos rfl]; rfl)
  rw [HP.out]
  have H1 := hidX (rIsOne_any name W0)
  unfold gOne at *
  go_enter Tryz.func29, Tryz.ntmps29
  go_wp2_with fail
  rw [← hW0]
  clear hW0
  refine H1.out.mono ?_
  rintro e w' ⟨rfl, hh⟩
  replace hh := hh.symm
  subst hh
  go_wp2
  go_ret
  exact ⟨rfl, HB0.out⟩
 ·by_cases e4 : k = gTwo
  ·subst e4
   have HP := hidX (show pKind onesE twosE ⟨gTwo, d, args, num, name⟩ = decide (name ∈ twosE) from by unfold pKind pOp; rw [if_neg (show ¬ gTwo = gOne by decide), if_pos rfl]; rfl)
   rw [HP.out]
   have H1 := hidX (rIsTwo_any name W0)
   clear e3
   unfold gTwo at *
   go_enter Tryz.func29, Tryz.ntmps29
   go_wp2_with fail
   rw [← hW0]
   clear hW0
   refine H1.out.mono ?_
   rintro e w' ⟨rfl, hh⟩
   have HB1 := hidX (bl_trans HB0.out HB0.out.size hh)
   clear hh
   go_wp2
   go_ret
   exact ⟨rfl, HB1.out⟩
  ·have HO := hidX (show pOp onesE twosE k name = true from by unfold pOp; rw [if_neg e3, if_neg e4])
   have t3 : (k == [111, 110, 101]) = false := ne_lit e3
   have t4 : (k == [116, 119, 111]) = false := ne_lit e4
   by_cases h1 : k = gParam
   ·subst h1
    have HP := hidX (show pKind onesE twosE ⟨gParam, d, args, num, name⟩ = true from by unfold pKind; rw [HO.out]; rfl)
    clear e3 e4 t3 t4
    unfold gParam at *
    rw [HP.out]
    clear hW0 HB0 HP HO
    go_enter Tryz.func29, Tryz.ntmps29
    go_wp2
    go_ret
    exact ⟨rfl, by (repeat (first | exact Below.refl _ _ | assumption | refine Below.drew ?_ | refine bT ?_ _ | refine bS ?_ _ | refine bA ?_ _))⟩
   by_cases h2 : k = gConst
   ·subst h2
    have HP := hidX (show pKind onesE twosE ⟨gConst, d, args, num, name⟩ = true from by unfold pKind; rw [HO.out]; rfl)
    clear e3 e4 t3 t4 h1
    unfold gConst at *
    rw [HP.out]
    clear hW0 HB0 HP HO
    go_enter Tryz.func29, Tryz.ntmps29
    go_wp2
    go_ret
    exact ⟨rfl, by (repeat (first | exact Below.refl _ _ | assumption | refine Below.drew ?_ | refine bT ?_ _ | refine bS ?_ _ | refine bA ?_ _))⟩
   by_cases h5 : k = gCall
   ·subst h5
    have HP := hidX (show pKind onesE twosE ⟨gCall, d, args, num, name⟩ = true from by unfold pKind; rw [HO.out]; rfl)
    clear e3 e4 t3 t4 h1 h2
    unfold gCall at *
    rw [HP.out]
    clear hW0 HB0 HP HO
    go_enter Tryz.func29, Tryz.ntmps29
    go_wp2
    go_ret
    exact ⟨rfl, by (repeat (first | exact Below.refl _ _ | assumption | refine Below.drew ?_ | refine bT ?_ _ | refine bS ?_ _ | refine bA ?_ _))⟩
   by_cases h6 : k = gTick
   ·subst h6
    have HP := hidX (show pKind onesE twosE ⟨gTick, d, args, num, name⟩ = true from by unfold pKind; rw [HO.out]; rfl)
    clear e3 e4 t3 t4 h1 h2 h5
    unfold gTick at *
    rw [HP.out]
    clear hW0 HB0 HP HO
    go_enter Tryz.func29, Tryz.ntmps29
    go_wp2
    go_ret
    exact ⟨rfl, by (repeat (first | exact Below.refl _ _ | assumption | refine Below.drew ?_ | refine bT ?_ _ | refine bS ?_ _ | refine bA ?_ _))⟩
   by_cases h7 : k = gPrint
   ·subst h7
    have HP := hidX (show pKind onesE twosE ⟨gPrint, d, args, num, name⟩ = true from by unfold pKind; rw [HO.out]; rfl)
    clear e3 e4 t3 t4 h1 h2 h5 h6
    unfold gPrint at *
    rw [HP.out]
    clear hW0 HB0 HP HO
    go_enter Tryz.func29, Tryz.ntmps29
    go_wp2
    go_ret
    exact ⟨rfl, by (repeat (first | exact Below.refl _ _ | assumption | refine Below.drew ?_ | refine bT ?_ _ | refine bS ?_ _ | refine bA ?_ _))⟩
   have HP := hidX (pk_other (ones := onesE) (twos := twosE) (x := ⟨k, d, args, num, name⟩) (psh_none h1 h2 e3 e4 h5 h6 h7))
   have t1 : (k == [112, 97, 114, 97, 109]) = false := ne_lit h1
   have t2 : (k == [99, 111, 110, 115, 116]) = false := ne_lit h2
   have t5 : (k == [99, 97, 108, 108]) = false := ne_lit h5
   have t6 : (k == [116, 105, 99, 107]) = false := ne_lit h6
   have t7 : (k == [112, 114, 105, 110, 116]) = false := ne_lit h7
   clear h1 h2 h5 h6 h7 e3 e4
   rw [HP.out]
   clear hW0 HB0 HP HO
   go_enter Tryz.func29, Tryz.ntmps29
   go_wp2
   go_ret
   exact ⟨rfl, by (repeat (first | exact Below.refl _ _ | assumption | refine Below.drew ?_ | refine bT ?_ _ | refine bS ?_ _ | refine bA ?_ _))⟩
set_option maxRecDepth 100000 in
set_option maxHeartbeats 4000000 in
theorem makesValue_any (k : List UInt8) (w : World) : Calls Tryz.prog 18 #[.string ⟨k.toArray⟩] w fun e w' => e = .returned (.bool (pMakes k)) ∧ w' = w := by
 obtain ⟨b1, f1⟩ : ∃ b, (k == [116, 105, 99, 107]) = b := ⟨_, rfl⟩
 obtain ⟨b2, f2⟩ : ∃ b, (k == [112, 114, 105, 110, 116]) = b := ⟨_, rfl⟩
 have HP := hidX (show pMakes k = (!b1 && !b2) from by unfold pMakes gTick gPrint; rw [bne, bne, f1, f2])
 rw [HP.out]
 cases b1 <;> cases b2
 all_goals
  go_enter Tryz.func18, Tryz.ntmps18
  go_wp2
  go_ret
  exact ⟨rfl, rfl⟩
end Go.Proofs.YtmckajgacfjnhaaGreatDoor
