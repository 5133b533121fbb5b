/- Our own: texts joined: AlCk1, AlCk2. -/
import Derived.Test.YtimccbilkjjakaaDoorZAlTab
import Derived.Test.YtimccbilkjjakaaDoorZTold
import Derived.Test.YtimccbilkjjakaaDoorZBase
import Derived.Stop.Asserts
namespace Go.Proofs.YtimccbilkjjakaaDoor
open Go.RowKit
def errA (a : Nat → Addr) (c : Nat) : Value := if c = 0 then .nilIface else sentV (a (c - 1))
theorem eq_sent {a : Nat → Addr} {w : World} (hS : Sents w a) {c : Nat} (hc : c ≤ 10) {d : Nat} (hd0 : d ≠ 0) (hd : d ≤ 10) : (binOp .eql 38 (errA a c) (sentV (a (d - 1)))).run Tryd.prog w = .ok (.bool (decide (c = d))) w := by
 obtain ⟨i, hi, hcmp⟩ := Option.map_eq_some_iff.1 c_comp
 obtain ⟨j, hj, hjs⟩ := Option.map_eq_some_iff.1 c_size
 unfold errA
 by_cases h0 : c = 0
 ·rw [if_pos h0, decide_eq_false (by omega)]
  exact run_eql_iface_nil_left _ _ _ Tryd.underlying38
 ·rw [if_neg h0]
  by_cases h1 : c = d
  ·subst h1
   rw [decide_eq_true rfl]
   exact run_eql_iface_ptr_same (P := Tryd.prog) w _ Tryd.underlying38 Tryd.underlying147 hi hcmp hj
  ·rw [decide_eq_false h1]
   obtain ⟨c1, t1, r1⟩ := hS.row (c - 1) (by omega)
   obtain ⟨c2, t2, r2⟩ := hS.row (d - 1) (by omega)
   exact run_eql_iface_ptr_other (P := Tryd.prog) w Tryd.underlying38 Tryd.underlying147 hi hcmp hj (by rw [hjs]; decide) (hS.other _ _ (by omega) (by omega) (by omega)) r1 r2
theorem isRegister_any (r : Int) (w : World) : Calls Tryd.prog 53 #[.int .i64 r] w fun e w' => e = .returned (.bool (inR 8 r)) ∧ w' = w := by
 by_cases h0 : 0 ≤ r
 ·by_cases h1 : r < 8
  ·rw [show inR 8 r = true by simp [inR, h0, h1]]
   go_enter Tryd.func53, Tryd.ntmps53
   go_wp2
   go_ret
   exact ⟨rfl, rfl⟩
  ·rw [show inR 8 r = false by simp [inR]; omega]
   go_enter Tryd.func53, Tryd.ntmps53
   go_wp2
   go_ret
   exact ⟨rfl, rfl⟩
 ·rw [show inR 8 r = false by simp [inR]; omega]
  have h0' : r < 0 := by omega
  go_enter Tryd.func53, Tryd.ntmps53
  go_wp2
  go_ret
  exact ⟨rfl, rfl⟩
set_option maxRecDepth 100000 in
set_option maxHeartbeats 4000000 in
theorem sooner_any {a : Nat → Addr} {w : World} (hS : Sents w a) {c1 c2 : Nat} (h1 : Ec c1) (h2 : Ec c2) : Calls Tryd.prog 35 #[errA a c1, errA a c2] w fun e w' => e = .returned (errA a (soonC c1 c2)) ∧ Below w.heap.size w w' := by
 obtain ⟨W1, hW1⟩ : ∃ W1, W1 = w.alloc (.cells #[sentV (a 3), sentV (a 1), sentV (a 2)] 38) := ⟨_, rfl⟩
 have hb1 : Below w.heap.size w W1 := by rw [hW1]; (repeat (first | exact Below.refl _ _ | assumption | refine Below.drew ?_ | refine bT ?_ _ | refine bS ?_ _ | refine bA ?_ _))
 have hS1 := hS.below hb1
 have g3 : w.cell? ⟨5, 0, none⟩ = some (sentV (a 3)) := hS.glob 3 (by omega)
 have g1 : w.cell? ⟨3, 0, none⟩ = some (sentV (a 1)) := hS.glob 1 (by omega)
 have g2 : w.cell? ⟨1, 0, none⟩ = some (sentV (a 2)) := hS.glob 2 (by omega)
 have l1 : c1 ≤ 10 := by rcases h1 with h | h | h | h <;> omega
 have l2 : c2 ≤ 10 := by rcases h2 with h | h | h | h <;> omega
 have p1 := eq_sent hS1 l1 (d := 4) (by omega) (by omega)
 have p2 := eq_sent hS1 l1 (d := 2) (by omega) (by omega)
 have p3 := eq_sent hS1 l1 (d := 3) (by omega) (by omega)
 have q1 := eq_sent hS1 l2 (d := 4) (by omega) (by omega)
 have q2 := eq_sent hS1 l2 (d := 2) (by omega) (by omega)
 have q3 := eq_sent hS1 l2 (d := 3) (by omega) (by omega)
 have HB := hidX hb1
 simp only [show (4 : Nat) - 1 = 3 from rfl, show (2 : Nat) - 1 = 1 from rfl, show (3 : Nat) - 1 = 2 from rfl] at p1 p2 p3 q1 q2 q3
 clear hS hS1 hb1 l1 l2
 rw [hW1] at p1 p2 p3 q1 q2 q3
 have e0 : errA a 0 = .nilIface := rfl
 have e2 : errA a 2 = sentV (a 1) := rfl
 have e3 : errA a 3 = sentV (a 2) := rfl
 have e4 : errA a 4 = sentV (a 3) := rfl
 rcases h1 with rfl | rfl | rfl | rfl <;> rcases h2 with rfl | rfl | rfl | rfl
 all_goals
  simp only [soonC, e0, e2, e3, e4, Nat.reduceEqDiff, decide_true, decide_false, or_true, or_self, if_true, if_false, or_false] at p1 p2 p3 q1 q2 q3 ⊢
  clear e0 e2 e3 e4
  go_enter Tryd.func35, Tryd.ntmps35
  go_wp2
  refine wp_loop_rounds 4 ?_
  rw [rounds_succ]
  go_wp2
  first
   | (go_ret; exact ⟨rfl, hW1 ▸ HB.out⟩)
   | (rw [rounds_succ]; go_wp2; go_ret; exact ⟨rfl, hW1 ▸ HB.out⟩)
   | (rw [rounds_succ]; go_wp2; rw [rounds_succ]; go_wp2; go_ret; exact ⟨rfl, hW1 ▸ HB.out⟩)
   | (rw [rounds_succ]; go_wp2; rw [rounds_succ]; go_wp2; rw [rounds_succ]; go_wp2; go_ret; exact ⟨rfl, hW1 ▸ HB.out⟩)
end Go.Proofs.YtimccbilkjjakaaDoor
namespace Go.Proofs.YtimccbilkjjakaaDoor
open Go.RowKit
abbrev lcV (nm : List UInt8) (P S : Int) (bv : Value) : Array Value := #[.string ⟨nm.toArray⟩, .int .i64 P, .int .i64 S, bv]
set_option maxRecDepth 100000 in
set_option maxHeartbeats 2000000 in
theorem bounds_param (nm : List UInt8) (P S : Int) (bv : Value) (hbv : ∃ a n c, bv = .slice a n c) (d a b num : Int) (name : List UInt8) (w : World) :
  Calls Tryd.prog 54 #[.agg (lcV nm P S bv), .agg #[.string ⟨gParam.toArray⟩, .int .i64 d, .int .i64 a, .int .i64 b, .int .i64 num, .string ⟨name.toArray⟩]] w fun e w' => e = .returned (.bool (inR P num)) ∧ Below w.heap.size w w' := by
 obtain ⟨ba, bn, bc, rfl⟩ := hbv
 unfold gParam
 by_cases h0 : 0 ≤ num
 ·by_cases h1 : num < P
  ·rw [show inR P num = true by simp [inR, h0, h1]]
   go_enter Tryd.func54, Tryd.ntmps54
   go_wp2
   go_ret
   exact ⟨rfl, by (repeat (first | exact Below.refl _ _ | assumption | refine Below.drew ?_ | refine bT ?_ _ | refine bS ?_ _ | refine bA ?_ _))⟩
  ·rw [show inR P num = false by simp [inR]; omega]
   have h1' : P ≤ num := by omega
   go_enter Tryd.func54, Tryd.ntmps54
   go_wp2
   go_ret
   exact ⟨rfl, by (repeat (first | exact Below.refl _ _ | assumption | refine Below.drew ?_ | refine bT ?_ _ | refine bS ?_ _ | refine bA ?_ _))⟩
 ·rw [show inR P num = false by simp [inR]; omega]
  have h0' : num < 0 := by omega
  go_enter Tryd.func54, Tryd.ntmps54
  go_wp2
  go_ret
  exact ⟨rfl, by (repeat (first | exact Below.refl _ _ | assumption | refine Below.drew ?_ | refine bT ?_ _ | refine bS ?_ _ | refine bA ?_ _))⟩
set_option maxRecDepth 100000 in
set_option maxHeartbeats 2000000 in
theorem bounds_load (nm : List UInt8) (P S : Int) (bv : Value) (hbv : ∃ a n c, bv = .slice a n c) (d a b num : Int) (name : List UInt8) (w : World) :
  Calls Tryd.prog 54 #[.agg (lcV nm P S bv), .agg #[.string ⟨lLoad.toArray⟩, .int .i64 d, .int .i64 a, .int .i64 b, .int .i64 num, .string ⟨name.toArray⟩]] w fun e w' => e = .returned (.bool (inR S num)) ∧ Below w.heap.size w w' := by
 obtain ⟨ba, bn, bc, rfl⟩ := hbv
 unfold lLoad
 by_cases h0 : 0 ≤ num
 ·by_cases h1 : num < S
  ·rw [show inR S num = true by simp [inR, h0, h1]]
   go_enter Tryd.func54, Tryd.ntmps54
   go_wp2
   go_ret
   exact ⟨rfl, by (repeat (first | exact Below.refl _ _ | assumption | refine Below.drew ?_ | refine bT ?_ _ | refine bS ?_ _ | refine bA ?_ _))⟩
  ·rw [show inR S num = false by simp [inR]; omega]
   have h1' : S ≤ num := by omega
   go_enter Tryd.func54, Tryd.ntmps54
   go_wp2
   go_ret
   exact ⟨rfl, by (repeat (first | exact Below.refl _ _ | assumption | refine Below.drew ?_ | refine bT ?_ _ | refine bS ?_ _ | refine bA ?_ _))⟩
 ·rw [show inR S num = false by simp [inR]; omega]
  have h0' : num < 0 := by omega
  go_enter Tryd.func54, Tryd.ntmps54
  go_wp2
  go_ret
  exact ⟨rfl, by (repeat (first | exact Below.refl _ _ | assumption | refine Below.drew ?_ | refine bT ?_ _ | refine bS ?_ _ | refine bA ?_ _))⟩
set_option maxRecDepth 100000 in
set_option maxHeartbeats 2000000 in
theorem bounds_store (nm : List UInt8) (P S : Int) (bv : Value) (hbv : ∃ a n c, bv = .slice a n c) (d a b num : Int) (name : List UInt8) (w : World) :
  Calls Tryd.prog 54 #[.agg (lcV nm P S bv), .agg #[.string ⟨lStore.toArray⟩, .int .i64 d, .int .i64 a, .int .i64 b, .int .i64 num, .string ⟨name.toArray⟩]] w fun e w' => e = .returned (.bool (inR S num)) ∧ Below w.heap.size w w' := by
 obtain ⟨ba, bn, bc, rfl⟩ := hbv
 unfold lStore
 by_cases h0 : 0 ≤ num
 ·by_cases h1 : num < S
  ·rw [show inR S num = true by simp [inR, h0, h1]]
   go_enter Tryd.func54, Tryd.ntmps54
   go_wp2
   go_ret
   exact ⟨rfl, by (repeat (first | exact Below.refl _ _ | assumption | refine Below.drew ?_ | refine bT ?_ _ | refine bS ?_ _ | refine bA ?_ _))⟩
  ·rw [show inR S num = false by simp [inR]; omega]
   have h1' : S ≤ num := by omega
   go_enter Tryd.func54, Tryd.ntmps54
   go_wp2
   go_ret
   exact ⟨rfl, by (repeat (first | exact Below.refl _ _ | assumption | refine Below.drew ?_ | refine bT ?_ _ | refine bS ?_ _ | refine bA ?_ _))⟩
 ·rw [show inR S num = false by simp [inR]; omega]
  have h0' : num < 0 := by omega
  go_enter Tryd.func54, Tryd.ntmps54
  go_wp2
  go_ret
  exact ⟨rfl, by (repeat (first | exact Below.refl _ _ | assumption | refine Below.drew ?_ | refine bT ?_ _ | refine bS ?_ _ | refine bA ?_ _))⟩
set_option maxRecDepth 100000 in
set_option maxHeartbeats 2000000 in
theorem bounds_arg (nm : List UInt8) (P S : Int) (bv : Value) (hbv : ∃ a n c, bv = .slice a n c) (d a b num : Int) (name : List UInt8) (w : World) :
  Calls Tryd.prog 54 #[.agg (lcV nm P S bv), .agg #[.string ⟨lArg.toArray⟩, .int .i64 d, .int .i64 a, .int .i64 b, .int .i64 num, .string ⟨name.toArray⟩]] w fun e w' => e = .returned (.bool (inR 4 num)) ∧ Below w.heap.size w w' := by
 obtain ⟨ba, bn, bc, rfl⟩ := hbv
 unfold lArg
 by_cases h0 : 0 ≤ num
 ·by_cases h1 : num < 4
  ·rw [show inR 4 num = true by simp [inR, h0, h1]]
   go_enter Tryd.func54, Tryd.ntmps54
   go_wp2
   go_ret
   exact ⟨rfl, by (repeat (first | exact Below.refl _ _ | assumption | refine Below.drew ?_ | refine bT ?_ _ | refine bS ?_ _ | refine bA ?_ _))⟩
  ·rw [show inR 4 num = false by simp [inR]; omega]
   have h1' : 4 ≤ num := by omega
   go_enter Tryd.func54, Tryd.ntmps54
   go_wp2
   go_ret
   exact ⟨rfl, by (repeat (first | exact Below.refl _ _ | assumption | refine Below.drew ?_ | refine bT ?_ _ | refine bS ?_ _ | refine bA ?_ _))⟩
 ·rw [show inR 4 num = false by simp [inR]; omega]
  have h0' : num < 0 := by omega
  go_enter Tryd.func54, Tryd.ntmps54
  go_wp2
  go_ret
  exact ⟨rfl, by (repeat (first | exact Below.refl _ _ | assumption | refine Below.drew ?_ | refine bT ?_ _ | refine bS ?_ _ | refine bA ?_ _))⟩
set_option maxRecDepth 100000 in
set_option maxHeartbeats 2000000 in
theorem bounds_call (nm : List UInt8) (P S : Int) (bv : Value) (hbv : ∃ a n c, bv = .slice a n c) (d a b num : Int) (name : List UInt8) (w : World) :
  Calls Tryd.prog 54 #[.agg (lcV nm P S bv), .agg #[.string ⟨gCall.toArray⟩, .int .i64 d, .int .i64 a, .int .i64 b, .int .i64 num, .string ⟨name.toArray⟩]] w fun e w' => e = .returned (.bool (inR 5 num)) ∧ Below w.heap.size w w' := by
 obtain ⟨ba, bn, bc, rfl⟩ := hbv
 unfold gCall
 by_cases h0 : 0 ≤ num
 ·by_cases h1 : num < 5
  ·rw [show inR 5 num = true by simp [inR, h0, h1]]
   go_enter Tryd.func54, Tryd.ntmps54
   go_wp2
   go_ret
   exact ⟨rfl, by (repeat (first | exact Below.refl _ _ | assumption | refine Below.drew ?_ | refine bT ?_ _ | refine bS ?_ _ | refine bA ?_ _))⟩
  ·rw [show inR 5 num = false by simp [inR]; omega]
   have h1' : 5 ≤ num := by omega
   go_enter Tryd.func54, Tryd.ntmps54
   go_wp2
   go_ret
   exact ⟨rfl, by (repeat (first | exact Below.refl _ _ | assumption | refine Below.drew ?_ | refine bT ?_ _ | refine bS ?_ _ | refine bA ?_ _))⟩
 ·rw [show inR 5 num = false by simp [inR]; omega]
  have h0' : num < 0 := by omega
  go_enter Tryd.func54, Tryd.ntmps54
  go_wp2
  go_ret
  exact ⟨rfl, by (repeat (first | exact Below.refl _ _ | assumption | refine Below.drew ?_ | refine bT ?_ _ | refine bS ?_ _ | refine bA ?_ _))⟩
set_option maxRecDepth 100000 in
set_option maxHeartbeats 2000000 in
theorem bounds_any (nm : List UInt8) (P S : Int) (bv : Value) (hbv : ∃ a n c, bv = .slice a n c) (x : Li) (w : World) :
  Calls Tryd.prog 54 #[.agg (lcV nm P S bv), .agg (liV x).toArray] w fun e w' => e = .returned (.bool (lNum P S x)) ∧ Below w.heap.size w w' := by
 obtain ⟨k, d, a, b, num, name⟩ := x
 show Calls _ _ #[_, .agg #[.string ⟨k.toArray⟩, .int .i64 d, .int .i64 a, .int .i64 b, .int .i64 num, .string ⟨name.toArray⟩]] w fun e w' => e = .returned (.bool (if k = gParam then inR P num else if k = lLoad then inR S num else if k = lStore then inR S num else if k = lArg then inR 4 num else if k = gCall then inR 5 num else true)) ∧ Below w.heap.size w w'
 by_cases h0 : k = gParam
 ·subst h0
  simpa only [if_true] using bounds_param nm P S bv hbv d a b num name w
 by_cases h1 : k = lLoad
 ·subst h1
  simpa only [if_true, if_neg (show ¬ lLoad = gParam by decide)] using bounds_load nm P S bv hbv d a b num name w
 by_cases h2 : k = lStore
 ·subst h2
  simpa only [if_true, if_neg (show ¬ lStore = gParam by decide), if_neg (show ¬ lStore = lLoad by decide)] using bounds_store nm P S bv hbv d a b num name w
 by_cases h3 : k = lArg
 ·subst h3
  simpa only [if_true, if_neg (show ¬ lArg = gParam by decide), if_neg (show ¬ lArg = lLoad by decide), if_neg (show ¬ lArg = lStore by decide)] using bounds_arg nm P S bv hbv d a b num name w
 by_cases h4 : k = gCall
 ·subst h4
  simpa only [if_true, if_neg (show ¬ gCall = gParam by decide), if_neg (show ¬ gCall = lLoad by decide), if_neg (show ¬ gCall = lStore by decide), if_neg (show ¬ gCall = lArg by decide)] using bounds_call nm P S bv hbv d a b num name w
 rw [if_neg h0, if_neg h1, if_neg h2, if_neg h3, if_neg h4]
 obtain ⟨ba, bn, bc, rfl⟩ := hbv
 have t0 : (k == [112, 97, 114, 97, 109]) = false := ne_lit h0
 have t1 : (k == [108, 111, 97, 100]) = false := ne_lit h1
 have t2 : (k == [115, 116, 111, 114, 101]) = false := ne_lit h2
 have t3 : (k == [97, 114, 103]) = false := ne_lit h3
 have t4 : (k == [99, 97, 108, 108]) = false := ne_lit h4
 clear h0 h1 h2 h3 h4
 go_enter Tryd.func54, Tryd.ntmps54
 go_wp2
 go_ret
 exact ⟨rfl, by (repeat (first | exact Below.refl _ _ | assumption | refine Below.drew ?_ | refine bT ?_ _ | refine bS ?_ _ | refine bA ?_ _))⟩
end Go.Proofs.YtimccbilkjjakaaDoor
