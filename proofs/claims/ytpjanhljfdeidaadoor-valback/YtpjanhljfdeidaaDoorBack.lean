/-
  Our own: the walk of ValBack: for any three ints it answers true.
-/
import Derived.Test.YtpjanhljfdeidaaDoorSwap
namespace Go.Proofs.YtpjanhljfdeidaaDoor
open Go.RowKit

theorem b_quo : (⟨#[47]⟩ : ByteArray) ∈ opsTwo := by simp [opsTwo]
theorem b_rem : (⟨#[37]⟩ : ByteArray) ∈ opsTwo := by simp [opsTwo]
theorem b_mul : (⟨#[42]⟩ : ByteArray) ∈ opsTwo := by simp [opsTwo]
theorem b_add : (⟨#[43]⟩ : ByteArray) ∈ opsTwo := by simp [opsTwo]
theorem b_sub : (⟨#[45]⟩ : ByteArray) ∈ opsTwo := by simp [opsTwo]
theorem b_lt : (⟨#[60]⟩ : ByteArray) ∈ opsTwo := by simp [opsTwo]
theorem b_le : (⟨#[60, 61]⟩ : ByteArray) ∈ opsTwo := by simp [opsTwo]
theorem b_eq : (⟨#[61, 61]⟩ : ByteArray) ∈ opsTwo := by simp [opsTwo]
theorem b_shl : (⟨#[60, 60]⟩ : ByteArray) ∈ opsTwo := by simp [opsTwo]

theorem back_quo (a b : Int) (ha : In64 a) : vOp ⟨#[43]⟩ (vOp ⟨#[42]⟩ (vOp ⟨#[47]⟩ a b) b) (vOp ⟨#[37]⟩ a b) = a := by
  rw [vOp_add, vOp_mul, vOp_quo, vOp_rem, quo_rem a b ha]
theorem back_sub (a b : Int) (ha : In64 a) : vOp ⟨#[45]⟩ (vOp ⟨#[43]⟩ a b) b = a := by
  rw [vOp_sub, vOp_add, wrap64_sub_l]
  have : a + b - b = a := by omega
  rw [this, wrap64_of ha]
theorem back_shl (a n : Int) : vOp ⟨#[60, 60]⟩ a (wrap64 (n + 64)) = vOp ⟨#[60, 60]⟩ a n := by
  rw [vOp_shl, vOp_shl, vShl, vShl]
  have : wrap64 (n + 64) % 64 = n % 64 := by unfold wrap64; omega
  rw [this]

set_option maxRecDepth 100000 in
set_option maxHeartbeats 4000000 in
theorem back_any (a b n : Int) (ha : In64 a) (w : World) :
    Calls Tryd.prog 5 #[.int .i64 a, .int .i64 b, .int .i64 n] w fun e w' => e = .returned (.bool true) ∧ Grown w w' := by
  have l1 := back_quo a b ha
  have l2 := back_sub a b ha
  have l3 := back_shl a n
  clear ha
  go_enter Tryd.func5, Tryd.ntmps5
  go_wp2_with (first | (go_at_call 11; refine (done_any _).mono ?_; rintro e w' ⟨rfl, hh⟩; replace hh := hh.symm; subst hh) | (go_at_call 12; refine (do_any _ (by first | exact b_quo | exact b_rem | exact b_mul | exact b_add | exact b_sub) _ _ _).mono ?_; rintro e w' ⟨rfl, hh⟩; replace hh := hh.symm; subst hh) | (go_at_call 19; refine (ops_any _).mono ?_; rintro e w' ⟨rfl, hh⟩; replace hh := hh.symm; subst hh))
  go_loop [21] (fun i => ∃ k : Nat, k ≤ 14 ∧ i = .int .i64 k) (fun i => 14 - (intOf i).toNat)
  case atStart => exact ⟨0, by omega, rfl⟩
  case round =>
    obtain ⟨k, hk, rfl⟩ := hrel
    by_cases hlt : k < 14
    · have hc := ops_cell w k hlt
      have ht := ops_two k hlt
      have hsw := swap_same _ ht
      generalize opsTwo.getD k ByteArray.empty = s at hc ht hsw
      have hlt' : (k : Int) < 14 := by omega
      generalize hW : opsW w = W at hc
      by_cases hv : vSwaps s = true
      · have hsw' := hsw hv a b
        clear hsw
        go_wp2_with (first | (go_at_call 12; refine (do_any _ ht _ _ _).mono ?_; rintro e w' ⟨rfl, hh⟩; replace hh := hh.symm; subst hh) | (go_at_call 21; refine (swaps_any _ _).mono ?_; rintro e w' ⟨rfl, hh⟩; replace hh := hh.symm; subst hh))
        go_round
        case rel => exact ⟨k + 1, by omega, by go_num⟩
        case measure => simp [intOf]; omega
      · have hv' : vSwaps s = false := by simpa using hv
        clear hsw hv
        go_wp2_with (first | (go_at_call 12; refine (do_any _ ht _ _ _).mono ?_; rintro e w' ⟨rfl, hh⟩; replace hh := hh.symm; subst hh) | (go_at_call 21; refine (swaps_any _ _).mono ?_; rintro e w' ⟨rfl, hh⟩; replace hh := hh.symm; subst hh))
        go_round
        case rel => exact ⟨k + 1, by omega, by go_num⟩
        case measure => simp [intOf]; omega
    · have hk5 : k = 14 := by omega
      subst hk5
      obtain ⟨x, y, z, m, e1, e2, e3, e4, hx⟩ : ∃ x y z m : Int, vOp ⟨#[60]⟩ a b = x ∧ vOp ⟨#[60]⟩ b a = y ∧ vOp ⟨#[61, 61]⟩ a b = z ∧ vOp ⟨#[60, 61]⟩ a b = m ∧ ((x = 1 ∧ y = 0 ∧ z = 0 ∧ m = 1) ∨ (x = 0 ∧ y = 1 ∧ z = 0 ∧ m = 0) ∨ (x = 0 ∧ y = 0 ∧ z = 1 ∧ m = 1)) := by
        refine ⟨_, _, _, _, rfl, rfl, rfl, rfl, ?_⟩
        simp only [vOp_lt, vOp_eq, vOp_le]
        rcases Int.lt_trichotomy a b with h | h | h
        · left; unfold vBit; simp [h, show ¬ b < a by omega, show ¬ a = b by omega, show a ≤ b by omega]
        · right; right; unfold vBit; simp [h]
        · right; left; unfold vBit; simp [h, show ¬ a < b by omega, show ¬ a = b by omega, show ¬ a ≤ b by omega]
      rcases hx with ⟨rfl, rfl, rfl, rfl⟩ | ⟨rfl, rfl, rfl, rfl⟩ | ⟨rfl, rfl, rfl, rfl⟩
      all_goals
        go_wp2_with (go_at_call 12; refine (do_any _ (by first | exact b_lt | exact b_eq | exact b_le | exact b_shl) _ _ _).mono ?_; rintro e w' ⟨rfl, hh⟩; replace hh := hh.symm; subst hh)
        go_ret
        exact ⟨rfl, ((Grown.refl w).alloc _ _ : Grown w (opsW w))⟩
end Go.Proofs.YtpjanhljfdeidaaDoor
