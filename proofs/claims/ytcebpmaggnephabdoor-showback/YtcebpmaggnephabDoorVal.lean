/-
  Our own: what package val's functions do, one contract each, walked from the program's own text.
-/
import Derived.Test.YtcebpmaggnephabDoorProg
import Derived.Test.YtcebpmaggnephabDoorMath
import Derived.WalkKit
import Derived.BigQuiet
import Derived.Deep.QuietTactic
namespace Go.Proofs.YtcebpmaggnephabDoor
open Go.RowKit

/-- The ops of two numbers, as bytes, in the document's order. -/
def opsTwo : List ByteArray := [⟨#[43]⟩, ⟨#[45]⟩, ⟨#[42]⟩, ⟨#[47]⟩, ⟨#[37]⟩, ⟨#[38]⟩, ⟨#[124]⟩, ⟨#[94]⟩, ⟨#[60, 60]⟩, ⟨#[62, 62]⟩, ⟨#[60]⟩, ⟨#[60, 61]⟩, ⟨#[61, 61]⟩, ⟨#[33, 61]⟩]

/-- What an op of two numbers comes to (0 where it is none). -/
def vOp (s : ByteArray) (a b : Int) : Int :=
  if s = ⟨#[43]⟩ then wrap64 (a + b)
  else if s = ⟨#[45]⟩ then wrap64 (a - b)
  else if s = ⟨#[42]⟩ then wrap64 (a * b)
  else if s = ⟨#[47]⟩ then vQuo a b
  else if s = ⟨#[37]⟩ then vRem a b
  else if s = ⟨#[38]⟩ then bits .and .i64 a b
  else if s = ⟨#[124]⟩ then bits .or .i64 a b
  else if s = ⟨#[94]⟩ then bits .xor .i64 a b
  else if s = ⟨#[60, 60]⟩ then vShl a b
  else if s = ⟨#[62, 62]⟩ then vShr a b
  else if s = ⟨#[60]⟩ then vBit (a < b)
  else if s = ⟨#[60, 61]⟩ then vBit (a ≤ b)
  else if s = ⟨#[61, 61]⟩ then vBit (a = b)
  else if s = ⟨#[33, 61]⟩ then vBit (a ≠ b)
  else 0

theorem vOp_add (a b : Int) : vOp ⟨#[43]⟩ a b = wrap64 (a + b) := rfl
theorem vOp_sub (a b : Int) : vOp ⟨#[45]⟩ a b = wrap64 (a - b) := rfl
theorem vOp_mul (a b : Int) : vOp ⟨#[42]⟩ a b = wrap64 (a * b) := rfl
theorem vOp_quo (a b : Int) : vOp ⟨#[47]⟩ a b = vQuo a b := rfl
theorem vOp_rem (a b : Int) : vOp ⟨#[37]⟩ a b = vRem a b := rfl
theorem vOp_and (a b : Int) : vOp ⟨#[38]⟩ a b = bits .and .i64 a b := rfl
theorem vOp_or (a b : Int) : vOp ⟨#[124]⟩ a b = bits .or .i64 a b := rfl
theorem vOp_xor (a b : Int) : vOp ⟨#[94]⟩ a b = bits .xor .i64 a b := rfl
theorem vOp_shl (a b : Int) : vOp ⟨#[60, 60]⟩ a b = vShl a b := rfl
theorem vOp_shr (a b : Int) : vOp ⟨#[62, 62]⟩ a b = vShr a b := rfl
theorem vOp_lt (a b : Int) : vOp ⟨#[60]⟩ a b = vBit (a < b) := rfl
theorem vOp_le (a b : Int) : vOp ⟨#[60, 61]⟩ a b = vBit (a ≤ b) := rfl
theorem vOp_eq (a b : Int) : vOp ⟨#[61, 61]⟩ a b = vBit (a = b) := rfl
theorem vOp_ne (a b : Int) : vOp ⟨#[33, 61]⟩ a b = vBit (a ≠ b) := rfl

theorem ret_tuple {a b : Int} (v : Value) (h : a = b) : Ending.returned (.tuple #[.int .i64 a, v]) = .returned (.tuple #[.int .i64 b, v]) := by rw [h]
theorem ret_intV {a b : Int} (h : a = b) : Ending.returned (.int .i64 a) = .returned (.int .i64 b) := by rw [h]

/-! ### val.Do at each op -/
theorem do_add (a b : Int) (w : World) : Calls Tryd.prog 74 #[.string ⟨#[43]⟩, .int .i64 a, .int .i64 b] w fun e w' => e = .returned (.tuple #[.int .i64 (wrap64 (a + b)), .nilIface]) ∧ w' = w := by
  go_enter Tryd.func74, Tryd.ntmps74
  go_wp2
  go_ret2
  exact ⟨rfl, rfl⟩
theorem do_sub (a b : Int) (w : World) : Calls Tryd.prog 74 #[.string ⟨#[45]⟩, .int .i64 a, .int .i64 b] w fun e w' => e = .returned (.tuple #[.int .i64 (wrap64 (a - b)), .nilIface]) ∧ w' = w := by
  go_enter Tryd.func74, Tryd.ntmps74
  go_wp2
  go_ret2
  exact ⟨rfl, rfl⟩
theorem do_mul (a b : Int) (w : World) : Calls Tryd.prog 74 #[.string ⟨#[42]⟩, .int .i64 a, .int .i64 b] w fun e w' => e = .returned (.tuple #[.int .i64 (wrap64 (a * b)), .nilIface]) ∧ w' = w := by
  go_enter Tryd.func74, Tryd.ntmps74
  go_wp2
  go_ret2
  exact ⟨rfl, rfl⟩
theorem do_quo (a b : Int) (w : World) : Calls Tryd.prog 74 #[.string ⟨#[47]⟩, .int .i64 a, .int .i64 b] w fun e w' => e = .returned (.tuple #[.int .i64 (vQuo a b), .nilIface]) ∧ w' = w := by
  by_cases hb : b = 0
  · have hb' : (b == 0) = true := by simpa using hb
    have e : vQuo a b = 0 := by simp [vQuo, hb]
    rw [e]; clear e hb
    go_enter Tryd.func74, Tryd.ntmps74
    go_wp2
    go_ret2
    exact ⟨rfl, rfl⟩
  · have e : vQuo a b = wrap64 (a.tdiv b) := by simp [vQuo, hb]
    rw [e]; clear e
    have hb' : (b == 0) = false := by simpa using hb
    go_enter Tryd.func74, Tryd.ntmps74
    go_wp2
    go_ret2
    exact ⟨rfl, rfl⟩
theorem do_rem (a b : Int) (w : World) : Calls Tryd.prog 74 #[.string ⟨#[37]⟩, .int .i64 a, .int .i64 b] w fun e w' => e = .returned (.tuple #[.int .i64 (vRem a b), .nilIface]) ∧ w' = w := by
  by_cases hb : b = 0
  · have hb' : (b == 0) = true := by simpa using hb
    have e : vRem a b = a := by simp [vRem, hb]
    rw [e]; clear e hb
    go_enter Tryd.func74, Tryd.ntmps74
    go_wp2
    go_ret2
    exact ⟨rfl, rfl⟩
  · have e : vRem a b = a.tmod b := by simp [vRem, hb]
    rw [e]; clear e
    have hb' : (b == 0) = false := by simpa using hb
    go_enter Tryd.func74, Tryd.ntmps74
    go_wp2
    go_ret2
    exact ⟨rfl, rfl⟩
theorem do_and (a b : Int) (w : World) : Calls Tryd.prog 74 #[.string ⟨#[38]⟩, .int .i64 a, .int .i64 b] w fun e w' => e = .returned (.tuple #[.int .i64 (bits .and .i64 a b), .nilIface]) ∧ w' = w := by
  go_enter Tryd.func74, Tryd.ntmps74
  go_wp2
  go_ret2
  exact ⟨rfl, rfl⟩
theorem do_or (a b : Int) (w : World) : Calls Tryd.prog 74 #[.string ⟨#[124]⟩, .int .i64 a, .int .i64 b] w fun e w' => e = .returned (.tuple #[.int .i64 (bits .or .i64 a b), .nilIface]) ∧ w' = w := by
  go_enter Tryd.func74, Tryd.ntmps74
  go_wp2
  go_ret2
  exact ⟨rfl, rfl⟩
theorem do_xor (a b : Int) (w : World) : Calls Tryd.prog 74 #[.string ⟨#[94]⟩, .int .i64 a, .int .i64 b] w fun e w' => e = .returned (.tuple #[.int .i64 (bits .xor .i64 a b), .nilIface]) ∧ w' = w := by
  go_enter Tryd.func74, Tryd.ntmps74
  go_wp2
  go_ret2
  exact ⟨rfl, rfl⟩
theorem do_shl (a b : Int) (w : World) : Calls Tryd.prog 74 #[.string ⟨#[60, 60]⟩, .int .i64 a, .int .i64 b] w fun e w' => e = .returned (.tuple #[.int .i64 (vShl a b), .nilIface]) ∧ w' = w := by
  have hb := low_six b
  have h0 : 0 ≤ b % 64 := Int.emod_nonneg _ (by decide)
  have h1 : b % 64 < 64 := Int.emod_lt_of_pos _ (by decide)
  have e : vShl a b = wrap64 (a * 2 ^ (b % 64).toNat) := rfl
  rw [e]; clear e
  generalize b % 64 = c at *
  go_enter Tryd.func74, Tryd.ntmps74
  go_wp2
  go_ret2
  exact ⟨rfl, rfl⟩
theorem do_shr (a b : Int) (w : World) : Calls Tryd.prog 74 #[.string ⟨#[62, 62]⟩, .int .i64 a, .int .i64 b] w fun e w' => e = .returned (.tuple #[.int .i64 (vShr a b), .nilIface]) ∧ w' = w := by
  have hb := low_six b
  have h0 : 0 ≤ b % 64 := Int.emod_nonneg _ (by decide)
  have h1 : b % 64 < 64 := Int.emod_lt_of_pos _ (by decide)
  have e : vShr a b = a / 2 ^ (b % 64).toNat := rfl
  rw [e]; clear e
  generalize b % 64 = c at *
  go_enter Tryd.func74, Tryd.ntmps74
  go_wp2
  go_ret2
  exact ⟨rfl, rfl⟩
theorem do_lt (a b : Int) (w : World) : Calls Tryd.prog 74 #[.string ⟨#[60]⟩, .int .i64 a, .int .i64 b] w fun e w' => e = .returned (.tuple #[.int .i64 (vBit (a < b)), .nilIface]) ∧ w' = w := by
  by_cases h : a < b
  · have e : vBit (a < b) = 1 := by simp [vBit, h]
    rw [e]; clear e
    go_enter Tryd.func74, Tryd.ntmps74
    go_wp2
    go_ret2
    exact ⟨rfl, rfl⟩
  · have e : vBit (a < b) = 0 := by simp [vBit, h]
    rw [e]; clear e
    go_enter Tryd.func74, Tryd.ntmps74
    go_wp2
    go_ret2
    exact ⟨rfl, rfl⟩
theorem do_le (a b : Int) (w : World) : Calls Tryd.prog 74 #[.string ⟨#[60, 61]⟩, .int .i64 a, .int .i64 b] w fun e w' => e = .returned (.tuple #[.int .i64 (vBit (a ≤ b)), .nilIface]) ∧ w' = w := by
  by_cases h : a ≤ b
  · have e : vBit (a ≤ b) = 1 := by simp [vBit, h]
    rw [e]; clear e
    go_enter Tryd.func74, Tryd.ntmps74
    go_wp2
    go_ret2
    exact ⟨rfl, rfl⟩
  · have e : vBit (a ≤ b) = 0 := by simp [vBit, h]
    rw [e]; clear e
    go_enter Tryd.func74, Tryd.ntmps74
    go_wp2
    go_ret2
    exact ⟨rfl, rfl⟩
theorem do_eq (a b : Int) (w : World) : Calls Tryd.prog 74 #[.string ⟨#[61, 61]⟩, .int .i64 a, .int .i64 b] w fun e w' => e = .returned (.tuple #[.int .i64 (vBit (a = b)), .nilIface]) ∧ w' = w := by
  by_cases h : a = b
  · have e : vBit (a = b) = 1 := by simp [vBit, h]
    rw [e]; clear e
    have h' : (a == b) = true := by simpa using h
    clear h
    go_enter Tryd.func74, Tryd.ntmps74
    go_wp2
    go_ret2
    exact ⟨rfl, rfl⟩
  · have e : vBit (a = b) = 0 := by simp [vBit, h]
    rw [e]; clear e
    have h' : (a == b) = false := by simpa using h
    clear h
    go_enter Tryd.func74, Tryd.ntmps74
    go_wp2
    go_ret2
    exact ⟨rfl, rfl⟩
theorem do_ne (a b : Int) (w : World) : Calls Tryd.prog 74 #[.string ⟨#[33, 61]⟩, .int .i64 a, .int .i64 b] w fun e w' => e = .returned (.tuple #[.int .i64 (vBit (a ≠ b)), .nilIface]) ∧ w' = w := by
  by_cases h : a = b
  · have e : vBit (a ≠ b) = 0 := by simp [vBit, h]
    rw [e]; clear e
    have h' : (a != b) = false := by simpa using h
    clear h
    go_enter Tryd.func74, Tryd.ntmps74
    go_wp2
    go_ret2
    exact ⟨rfl, rfl⟩
  · have e : vBit (a ≠ b) = 1 := by simp [vBit, h]
    rw [e]; clear e
    have h' : (a != b) = true := by simpa using h
    clear h
    go_enter Tryd.func74, Tryd.ntmps74
    go_wp2
    go_ret2
    exact ⟨rfl, rfl⟩

/-- val.Do at a known op. -/
theorem do_any (s : ByteArray) (hs : s ∈ opsTwo) (a b : Int) (w : World) : Calls Tryd.prog 74 #[.string s, .int .i64 a, .int .i64 b] w fun e w' => e = .returned (.tuple #[.int .i64 (vOp s a b), .nilIface]) ∧ w' = w := by
  simp only [opsTwo, List.mem_cons, List.not_mem_nil, or_false] at hs
  rcases hs with rfl | rfl | rfl | rfl | rfl | rfl | rfl | rfl | rfl | rfl | rfl | rfl | rfl | rfl
  · exact do_add a b w
  · exact do_sub a b w
  · exact do_mul a b w
  · exact do_quo a b w
  · exact do_rem a b w
  · exact do_and a b w
  · exact do_or a b w
  · exact do_xor a b w
  · exact do_shl a b w
  · exact do_shr a b w
  · exact do_lt a b w
  · exact do_le a b w
  · exact do_eq a b w
  · exact do_ne a b w

/-- val.One at '-' and at '!'. -/
theorem one_neg (a : Int) (w : World) : Calls Tryd.prog 73 #[.string ⟨#[45]⟩, .int .i64 a] w fun e w' => e = .returned (.tuple #[.int .i64 (wrap64 (-a)), .nilIface]) ∧ w' = w := by
  go_enter Tryd.func73, Tryd.ntmps73
  go_wp2
  go_ret2
  exact ⟨rfl, rfl⟩
theorem one_not (a : Int) (w : World) : Calls Tryd.prog 73 #[.string ⟨#[33]⟩, .int .i64 a] w fun e w' => e = .returned (.tuple #[.int .i64 (vBit (a = 0)), .nilIface]) ∧ w' = w := by
  by_cases h : a = 0
  · have e : vBit (a = 0) = 1 := by simp [vBit, h]
    rw [e]; clear e
    have h' : (a == 0) = true := by simpa using h
    clear h
    go_enter Tryd.func73, Tryd.ntmps73
    go_wp2
    go_ret2
    exact ⟨rfl, rfl⟩
  · have e : vBit (a = 0) = 0 := by simp [vBit, h]
    rw [e]; clear e
    have h' : (a == 0) = false := by simpa using h
    clear h
    go_enter Tryd.func73, Tryd.ntmps73
    go_wp2
    go_ret2
    exact ⟨rfl, rfl⟩

end Go.Proofs.YtcebpmaggnephabDoor
