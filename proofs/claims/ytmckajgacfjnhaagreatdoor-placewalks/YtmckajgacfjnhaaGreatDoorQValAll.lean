/- Our own: texts joined: ValBad, ValZero. -/
import Derived.Test.YtmckajgacfjnhaaGreatDoorQMathVal
import Derived.Test.YtmckajgacfjnhaaGreatDoorQErrAll
import Derived.Test.YtmckajgacfjnhaaGreatDoorQBase
namespace Go.Proofs.YtmckajgacfjnhaaGreatDoor
open Go.RowKit
set_option maxHeartbeats 1000000 in
theorem do_bad (s : Nat → Addr) (t : ByteArray) (ht : t ∉ opsTwo) (a b : Int) (w : World) (hS : Sents w s) : Calls Tryz.prog 82 #[.string t, .int .i64 a, .int .i64 b] w fun e w' => e = .returned (.tuple #[.int .i64 0, sentV (s 3)]) ∧ ∃ m, w' = w.drewN m := by
 have hv := hS.glob 3 (by omega)
 simp only [gErr, List.getD_cons_zero, List.getD_cons_succ] at hv
 simp only [opsTwo, List.mem_cons, List.not_mem_nil, or_false, not_or] at ht
 obtain ⟨h1, h2, h3, h4, h5, h6, h7, h8, h9, h10, h11, h12, h13, h14⟩ := ht
 replace h1 := lit_ne h1
 replace h2 := lit_ne h2
 replace h3 := lit_ne h3
 replace h4 := lit_ne h4
 replace h5 := lit_ne h5
 replace h6 := lit_ne h6
 replace h7 := lit_ne h7
 replace h8 := lit_ne h8
 replace h9 := lit_ne h9
 replace h10 := lit_ne h10
 replace h11 := lit_ne h11
 replace h12 := lit_ne h12
 replace h13 := lit_ne h13
 replace h14 := lit_ne h14
 go_enter Tryz.func82, Tryz.ntmps82
 go_wp2
 go_quiet (fail)
 go_wp2
 go_ret2
 exact ⟨rfl, nq, rfl⟩
theorem one_bad (s : Nat → Addr) (t : ByteArray) (h1 : t ≠ ⟨#[45]⟩) (h2 : t ≠ ⟨#[33]⟩) (a : Int) (w : World) (hS : Sents w s) : Calls Tryz.prog 81 #[.string t, .int .i64 a] w fun e w' => e = .returned (.tuple #[.int .i64 0, sentV (s 3)]) ∧ ∃ m, w' = w.drewN m := by
 have hv := hS.glob 3 (by omega)
 simp only [gErr, List.getD_cons_zero, List.getD_cons_succ] at hv
 replace h1 := lit_ne h1
 replace h2 := lit_ne h2
 go_enter Tryz.func81, Tryz.ntmps81
 go_wp2
 go_quiet (fail)
 go_wp2
 go_ret2
 exact ⟨rfl, nq, rfl⟩
end Go.Proofs.YtmckajgacfjnhaaGreatDoor
namespace Go.Proofs.YtmckajgacfjnhaaGreatDoor
open Go.RowKit
theorem do_zero (s : Nat → Addr) (m : List UInt8) (w : World) (hS : Sents w s) : Calls Tryz.prog 82 #[.string ⟨m.toArray⟩, .int .i64 0, .int .i64 0] w fun e w' => ∃ z, e = .returned (.tuple #[.int .i64 z, if m ∈ twosE then .nilIface else sentV (s 3)]) ∧ ∃ n, w' = w.drewN n := by
 by_cases hm : m ∈ twosE
 ·rw [if_pos hm]
  refine (do_any ⟨m.toArray⟩ ?_ 0 0 w).mono ?_
  ·simp only [twosE, List.mem_cons, List.not_mem_nil, or_false] at hm
   rcases hm with rfl | rfl | rfl | rfl | rfl | rfl | rfl | rfl | rfl | rfl | rfl | rfl | rfl | rfl <;> simp [opsTwo]
  ·rintro e w' ⟨rfl, rfl⟩
   exact ⟨_, rfl, 0, rfl⟩
 ·rw [if_neg hm]
  refine (do_bad s ⟨m.toArray⟩ ?_ 0 0 w hS).mono ?_
  ·intro h
   apply hm
   simp only [opsTwo, List.mem_cons, List.not_mem_nil, or_false, ByteArray.mk.injEq] at h
   simp only [twosE, List.mem_cons, List.not_mem_nil, or_false]
   rcases h with h | h | h | h | h | h | h | h | h | h | h | h | h | h <;> simp [← Array.toList_inj] at h <;> simp [h]
  ·rintro e w' ⟨rfl, n, rfl⟩
   exact ⟨_, rfl, n, rfl⟩
theorem one_zero (s : Nat → Addr) (m : List UInt8) (w : World) (hS : Sents w s) : Calls Tryz.prog 81 #[.string ⟨m.toArray⟩, .int .i64 0] w fun e w' => ∃ z, e = .returned (.tuple #[.int .i64 z, if m ∈ onesE then .nilIface else sentV (s 3)]) ∧ ∃ n, w' = w.drewN n := by
 by_cases h1 : m = [45]
 ·subst h1
  refine (one_neg 0 w).mono ?_
  rintro e w' ⟨rfl, rfl⟩
  exact ⟨_, rfl, 0, rfl⟩
 ·by_cases h2 : m = [33]
  ·subst h2
   refine (one_not 0 w).mono ?_
   rintro e w' ⟨rfl, rfl⟩
   exact ⟨_, rfl, 0, rfl⟩
  ·refine (one_bad s ⟨m.toArray⟩ ?_ ?_ 0 w hS).mono ?_
   ·intro h; apply h1; simpa [← Array.toList_inj] using h
   ·intro h; apply h2; simpa [← Array.toList_inj] using h
   ·rintro e w' ⟨rfl, n, rfl⟩
    exact ⟨0, by rw [if_neg (by simp [onesE, h1, h2])], n, rfl⟩
end Go.Proofs.YtmckajgacfjnhaaGreatDoor
