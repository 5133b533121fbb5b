/- Our own: texts joined: ValBad, ValZero, GrOps. -/
import Derived.Test.YtimccbilkjjakaaDoorZMathVal
import Derived.Test.YtimccbilkjjakaaDoorZErrAll
import Derived.Test.YtimccbilkjjakaaDoorZBase
import Derived.Test.YtimccbilkjjakaaDoorZGrRep
namespace Go.Proofs.YtimccbilkjjakaaDoor
open Go.RowKit
set_option maxHeartbeats 1000000 in
theorem do_bad (s : Nat → Addr) (t : ByteArray) (ht : t ∉ opsTwo) (a b : Int) (w : World) (hS : Sents w s) : Calls Tryd.prog 62 #[.string t, .int .i64 a, .int .i64 b] w fun e w' => e = .returned (.tuple #[.int .i64 0, sentV (s 3)]) ∧ ∃ m, w' = w.drewN m := by
 have hv := hS.glob 3 (by omega)
 simp only [gErr, List.getD_cons_zero, List.getD_cons_succ] at hv
 simp only [opsTwo, List.mem_cons, List.not_mem_nil, or_false, not_or] at ht
 obtain ⟨h1, h2, h3, h4, h5, h6, h7, h8, h9, h10, h11, h12, h13, h14⟩ := ht
 replace h1 := lit_ne h1
 replace h2 := lit_ne h2
 replace h3 := lit_ne h3
 replace h4 := lit_ne h4
 replace h5 := lit_ne h5
 replace h6 := lit_ne h6
 replace h7 := lit_ne h7
 replace h8 := lit_ne h8
 replace h9 := lit_ne h9
 replace h10 := lit_ne h10
 replace h11 := lit_ne h11
 replace h12 := lit_ne h12
 replace h13 := lit_ne h13
 replace h14 := lit_ne h14
 go_enter Tryd.func62, Tryd.ntmps62
 go_wp2
 go_quiet (fail)
 go_wp2
 go_ret2
 exact ⟨rfl, nq, rfl⟩
theorem one_bad (s : Nat → Addr) (t : ByteArray) (h1 : t ≠ ⟨#[45]⟩) (h2 : t ≠ ⟨#[33]⟩) (a : Int) (w : World) (hS : Sents w s) : Calls Tryd.prog 61 #[.string t, .int .i64 a] w fun e w' => e = .returned (.tuple #[.int .i64 0, sentV (s 3)]) ∧ ∃ m, w' = w.drewN m := by
 have hv := hS.glob 3 (by omega)
 simp only [gErr, List.getD_cons_zero, List.getD_cons_succ] at hv
 replace h1 := lit_ne h1
 replace h2 := lit_ne h2
 go_enter Tryd.func61, Tryd.ntmps61
 go_wp2
 go_quiet (fail)
 go_wp2
 go_ret2
 exact ⟨rfl, nq, rfl⟩
end Go.Proofs.YtimccbilkjjakaaDoor
namespace Go.Proofs.YtimccbilkjjakaaDoor
open Go.RowKit
theorem do_zero (s : Nat → Addr) (m : List UInt8) (w : World) (hS : Sents w s) : Calls Tryd.prog 62 #[.string ⟨m.toArray⟩, .int .i64 0, .int .i64 0] w fun e w' => ∃ z, e = .returned (.tuple #[.int .i64 z, if m ∈ twosE then .nilIface else sentV (s 3)]) ∧ ∃ n, w' = w.drewN n := by
 by_cases hm : m ∈ twosE
 ·rw [if_pos hm]
  refine (do_any ⟨m.toArray⟩ ?_ 0 0 w).mono ?_
  ·simp only [twosE, List.mem_cons, List.not_mem_nil, or_false] at hm
   rcases hm with rfl | rfl | rfl | rfl | rfl | rfl | rfl | rfl | rfl | rfl | rfl | rfl | rfl | rfl <;> simp [opsTwo]
  ·rintro e w' ⟨rfl, rfl⟩
   exact ⟨_, rfl, 0, rfl⟩
 ·rw [if_neg hm]
  refine (do_bad s ⟨m.toArray⟩ ?_ 0 0 w hS).mono ?_
  ·intro h
   apply hm
   simp only [opsTwo, List.mem_cons, List.not_mem_nil, or_false, ByteArray.mk.injEq] at h
   simp only [twosE, List.mem_cons, List.not_mem_nil, or_false]
   rcases h with h | h | h | h | h | h | h | h | h | h | h | h | h | h <;> simp [← Array.toList_inj] at h <;> simp [h]
  ·rintro e w' ⟨rfl, n, rfl⟩
   exact ⟨_, rfl, n, rfl⟩
theorem one_zero (s : Nat → Addr) (m : List UInt8) (w : World) (hS : Sents w s) : Calls Tryd.prog 61 #[.string ⟨m.toArray⟩, .int .i64 0] w fun e w' => ∃ z, e = .returned (.tuple #[.int .i64 z, if m ∈ onesE then .nilIface else sentV (s 3)]) ∧ ∃ n, w' = w.drewN n := by
 by_cases h1 : m = [45]
 ·subst h1
  refine (one_neg 0 w).mono ?_
  rintro e w' ⟨rfl, rfl⟩
  exact ⟨_, rfl, 0, rfl⟩
 ·by_cases h2 : m = [33]
  ·subst h2
   refine (one_not 0 w).mono ?_
   rintro e w' ⟨rfl, rfl⟩
   exact ⟨_, rfl, 0, rfl⟩
  ·refine (one_bad s ⟨m.toArray⟩ ?_ ?_ 0 w hS).mono ?_
   ·intro h; apply h1; simpa [← Array.toList_inj] using h
   ·intro h; apply h2; simpa [← Array.toList_inj] using h
   ·rintro e w' ⟨rfl, n, rfl⟩
    exact ⟨0, by rw [if_neg (by simp [onesE, h1, h2])], n, rfl⟩
end Go.Proofs.YtimccbilkjjakaaDoor
namespace Go.Proofs.YtimccbilkjjakaaDoor
open Go.RowKit
def sumV (k m : List UInt8) (vs : List Int) : Int := if k = gOne then oneV m (vs.getD 0 0) else twoV m (vs.getD 0 0) (vs.getD 1 0)
set_option maxRecDepth 100000 in
set_option maxHeartbeats 2000000 in
theorem reckonF_any (k m : List UInt8) (vs : List Int) {A : Nat → Prop} {X : World} {v : Value} (hr : XRow A X v vs.length (intsG vs)) (hk : (k = gOne ∧ vs.length = 1 ∧ m ∈ onesE) ∨ (k = gTwo ∧ vs.length = 2 ∧ m ∈ twosE)) :
  Calls Tryd.prog 55 #[.string ⟨k.toArray⟩, .string ⟨m.toArray⟩, v] X fun e w' => e = .returned (.tuple #[.int .i64 (sumV k m vs), .nilIface]) ∧ ∃ n, w' = X.drewN n := by
 obtain ⟨ad, cap, rfl⟩ := hr.is
 rcases hk with ⟨rfl, hl, hm⟩ | ⟨rfl, hl, hm⟩
 ·obtain ⟨g, off, e, _, w8⟩ := hr.int (k := 0) (by omega)
  subst e
  have w8' : X.cell? ⟨g, off, none⟩ = some (.int .i64 (vs.getD 0 0)) := by rw [Nat.add_zero] at w8; rw [w8]; simp [show 0 < vs.length by omega]
  have hl' : (vs.length : Int) = 1 := by omega
  have hsv : sumV gOne m vs = oneV m (vs.getD 0 0) := if_pos rfl
  rw [hsv]
  generalize vs.getD 0 0 = x0 at *
  have t0 : (gOne == [111, 110, 101]) = true := by decide
  have HL := hidX (one_val m hm x0 X)
  clear hr w8 hsv hm hl
  go_enter Tryd.func55, Tryd.ntmps55
  go_wp2_with fail
  refine HL.out.mono ?_
  rintro e w' ⟨rfl, hw⟩
  replace hw := hw.symm
  subst hw
  go_wp2
  go_ret2
  exact ⟨rfl, 0, rfl⟩
 ·obtain ⟨g, off, e, _, w8⟩ := hr.int (k := 0) (by omega)
  subst e
  obtain ⟨g9, off9, e9, _, w9⟩ := hr.int (k := 1) (by omega)
  injection e9 with e9
  injection e9 with e9 e10
  subst e9 e10
  have w8' : X.cell? ⟨g, off, none⟩ = some (.int .i64 (vs.getD 0 0)) := by rw [Nat.add_zero] at w8; rw [w8]; simp [show 0 < vs.length by omega]
  have w9' : X.cell? ⟨g, off + 1, none⟩ = some (.int .i64 (vs.getD 1 0)) := by rw [w9]; simp [show 1 < vs.length by omega]
  have hl' : (vs.length : Int) = 2 := by omega
  have hsv : sumV gTwo m vs = twoV m (vs.getD 0 0) (vs.getD 1 0) := if_neg (by decide)
  rw [hsv]
  generalize vs.getD 0 0 = x0 at *
  generalize vs.getD 1 0 = x1 at *
  have t0 : (gTwo == [111, 110, 101]) = false := by decide
  have t1 : (gTwo == [116, 119, 111]) = true := by decide
  have HL := hidX (fun Y => two_val m hm x0 x1 Y)
  clear hr w8 w9 hsv hm hl
  go_enter Tryd.func55, Tryd.ntmps55
  go_wp2_with fail
  go_quiet ((go_at_call 62; exact Calls.quiet_of_same (HL.out _)))
  go_wp2
  go_ret2
  exact ⟨rfl, _, rfl⟩
set_option maxRecDepth 100000 in
set_option maxHeartbeats 2000000 in
theorem hasOp_any (a : Nat → Addr) (n : Nd) (w : World) (hS : Sents w a) : Calls Tryd.prog 52 #[.string ⟨n.kind.toArray⟩, .string ⟨n.name.toArray⟩] w fun e w' => e = .returned (.bool (opB onesE twosE n)) ∧ Below w.heap.size w w' := by
 obtain ⟨nk, ni, nn, nm⟩ := n
 have H1 := hidX (one_zero a nm _ hS)
 have H2 := hidX (do_zero a nm _ hS)
 clear hS
 by_cases e1 : nk = gOne
 ·subst e1
  have hop : opB onesE twosE ⟨gOne, ni, nn, nm⟩ = decide (nm ∈ onesE) := by unfold opB; rw [if_pos rfl]
  have t1 : (gOne == [111, 110, 101]) = true := by decide
  by_cases hm : nm ∈ onesE
  ·rw [hop, decide_eq_true hm]
   simp only [if_pos hm] at H1
   clear hop H2 hm
   go_enter Tryd.func52, Tryd.ntmps52
   go_wp2_with fail
   refine H1.out.mono ?_
   rintro e w' ⟨z, rfl, n, hh⟩
   replace hh := hh.symm
   subst hh
   go_wp2
   go_ret
   exact ⟨rfl, drewN_below' _ _ _⟩
  ·rw [hop, decide_eq_false hm]
   simp only [if_neg hm] at H1
   clear hop H2 hm
   go_enter Tryd.func52, Tryd.ntmps52
   go_wp2_with fail
   refine H1.out.mono ?_
   rintro e w' ⟨z, rfl, n, hh⟩
   replace hh := hh.symm
   subst hh
   go_wp2
   go_ret
   exact ⟨rfl, drewN_below' _ _ _⟩
 ·have t1 : (nk == [111, 110, 101]) = false := ne_lit e1
  by_cases e2 : nk = gTwo
  ·subst e2
   have hop : opB onesE twosE ⟨gTwo, ni, nn, nm⟩ = decide (nm ∈ twosE) := by unfold opB; rw [if_neg e1, if_pos rfl]
   have t2 : (gTwo == [116, 119, 111]) = true := by decide
   by_cases hm : nm ∈ twosE
   ·rw [hop, decide_eq_true hm]
    simp only [if_pos hm] at H2
    clear hop H1 e1 hm
    go_enter Tryd.func52, Tryd.ntmps52
    go_wp2_with fail
    refine H2.out.mono ?_
    rintro e w' ⟨z, rfl, n, hh⟩
    replace hh := hh.symm
    subst hh
    go_wp2
    go_ret
    exact ⟨rfl, drewN_below' _ _ _⟩
   ·rw [hop, decide_eq_false hm]
    simp only [if_neg hm] at H2
    clear hop H1 e1 hm
    go_enter Tryd.func52, Tryd.ntmps52
    go_wp2_with fail
    refine H2.out.mono ?_
    rintro e w' ⟨z, rfl, n, hh⟩
    replace hh := hh.symm
    subst hh
    go_wp2
    go_ret
    exact ⟨rfl, drewN_below' _ _ _⟩
  ·have hop : opB onesE twosE ⟨nk, ni, nn, nm⟩ = true := by unfold opB; rw [if_neg e1, if_neg e2]
   rw [hop]
   have t2 : (nk == [116, 119, 111]) = false := ne_lit e2
   clear hop H1 H2 e1 e2
   go_enter Tryd.func52, Tryd.ntmps52
   go_wp2
   go_ret
   exact ⟨rfl, Below.refl _ _⟩
end Go.Proofs.YtimccbilkjjakaaDoor
