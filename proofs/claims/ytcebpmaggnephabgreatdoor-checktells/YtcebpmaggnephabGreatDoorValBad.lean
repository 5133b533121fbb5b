/-
  Our own: package val at texts that are no ops.
-/
import Derived.Test.YtcebpmaggnephabGreatDoorVal
import Derived.Test.YtcebpmaggnephabGreatDoorCode
namespace Go.Proofs.YtcebpmaggnephabGreatDoor
open Go.RowKit

set_option maxHeartbeats 1000000 in
/-- val.Do at a text that is no op. -/
theorem do_bad (s : Nat → Addr) (t : ByteArray) (ht : t ∉ opsTwo) (a b : Int) (w : World) (hS : Sents w s) : Calls Tryz.prog 125 #[.string t, .int .i64 a, .int .i64 b] w fun e w' => e = .returned (.tuple #[.int .i64 0, sentV (s 3)]) ∧ ∃ m, w' = w.drewN m := by
  have hv := hS.glob 3 (by omega)
  simp only [gErr, List.getD_cons_zero, List.getD_cons_succ] at hv
  simp only [opsTwo, List.mem_cons, List.not_mem_nil, or_false, not_or] at ht
  obtain ⟨h1, h2, h3, h4, h5, h6, h7, h8, h9, h10, h11, h12, h13, h14⟩ := ht
  replace h1 := lit_ne h1
  replace h2 := lit_ne h2
  replace h3 := lit_ne h3
  replace h4 := lit_ne h4
  replace h5 := lit_ne h5
  replace h6 := lit_ne h6
  replace h7 := lit_ne h7
  replace h8 := lit_ne h8
  replace h9 := lit_ne h9
  replace h10 := lit_ne h10
  replace h11 := lit_ne h11
  replace h12 := lit_ne h12
  replace h13 := lit_ne h13
  replace h14 := lit_ne h14
  go_enter Tryz.func125, Tryz.ntmps125
  go_wp2
  go_quiet (fail)
  go_wp2
  go_ret2
  exact ⟨rfl, nq, rfl⟩
/-- val.One at a text that is no op of one number. -/
theorem one_bad (s : Nat → Addr) (t : ByteArray) (h1 : t ≠ ⟨#[45]⟩) (h2 : t ≠ ⟨#[33]⟩) (a : Int) (w : World) (hS : Sents w s) : Calls Tryz.prog 124 #[.string t, .int .i64 a] w fun e w' => e = .returned (.tuple #[.int .i64 0, sentV (s 3)]) ∧ ∃ m, w' = w.drewN m := by
  have hv := hS.glob 3 (by omega)
  simp only [gErr, List.getD_cons_zero, List.getD_cons_succ] at hv
  replace h1 := lit_ne h1
  replace h2 := lit_ne h2
  go_enter Tryz.func124, Tryz.ntmps124
  go_wp2
  go_quiet (fail)
  go_wp2
  go_ret2
  exact ⟨rfl, nq, rfl⟩
end Go.Proofs.YtcebpmaggnephabGreatDoor
