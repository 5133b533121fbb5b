/-
  Our own: the walk of ValLaws: for any three ints it answers true.
-/
import Derived.Test.YtpjanhljfdeidaaDoorVal
namespace Go.Proofs.YtpjanhljfdeidaaDoor
open Go.RowKit

/-- law1.op at a known op. -/
theorem op_any (s : ByteArray) (hs : s ∈ opsTwo) (a b : Int) (w : World) : Calls Tryd.prog 23 #[.string s, .int .i64 a, .int .i64 b] w fun e w' => e = .returned (.int .i64 (vOp s a b)) ∧ w' = w := by
  go_enter Tryd.func23, Tryd.ntmps23
  go_wp2_with (go_at_call 12; refine (do_any _ hs _ _ _).mono ?_; rintro e w' ⟨rfl, rfl⟩)
  go_ret
  exact ⟨rfl, rfl⟩

/-- The five ops of sums and products of three. -/
def opsFive : List ByteArray := [⟨#[43]⟩, ⟨#[42]⟩, ⟨#[38]⟩, ⟨#[124]⟩, ⟨#[94]⟩]
theorem five_two (k : Nat) (hk : k < 5) : opsFive.getD k ByteArray.empty ∈ opsTwo := by
  match k, hk with
  | 0, _ => simp [opsFive, opsTwo]
  | 1, _ => simp [opsFive, opsTwo]
  | 2, _ => simp [opsFive, opsTwo]
  | 3, _ => simp [opsFive, opsTwo]
  | 4, _ => simp [opsFive, opsTwo]
theorem five_assoc (k : Nat) (hk : k < 5) (a b c : Int) : vOp (opsFive.getD k ByteArray.empty) (vOp (opsFive.getD k ByteArray.empty) a b) c = vOp (opsFive.getD k ByteArray.empty) a (vOp (opsFive.getD k ByteArray.empty) b c) := by
  match k, hk with
  | 0, _ => show wrap64 (wrap64 (a + b) + c) = wrap64 (a + wrap64 (b + c)); rw [wrap64_add_l, wrap64_add_r, Int.add_assoc]
  | 1, _ => show wrap64 (wrap64 (a * b) * c) = wrap64 (a * wrap64 (b * c)); rw [wrap64_mul_l, wrap64_mul_r, Int.mul_assoc]
  | 2, _ => exact and_assoc64 a b c
  | 3, _ => exact or_assoc64 a b c
  | 4, _ => exact xor_assoc64 a b c

/-- The world behind the list of five texts. -/
abbrev fiveW (w : World) : World := w.alloc (.cells #[.string ⟨#[43]⟩, .string ⟨#[42]⟩, .string ⟨#[38]⟩, .string ⟨#[124]⟩, .string ⟨#[94]⟩] 9)
theorem five_cell (w : World) (k : Nat) (hk : k < 5) : (fiveW w).cell? ⟨w.heap.size, k, none⟩ = some (.string (opsFive.getD k ByteArray.empty)) := by
  match k, hk with
  | 0, _ => simp [opsFive]
  | 1, _ => simp [opsFive]
  | 2, _ => simp [opsFive]
  | 3, _ => simp [opsFive]
  | 4, _ => simp [opsFive]
theorem t_add : (⟨#[43]⟩ : ByteArray) ∈ opsTwo := by simp [opsTwo]
theorem t_mul : (⟨#[42]⟩ : ByteArray) ∈ opsTwo := by simp [opsTwo]
theorem t_and : (⟨#[38]⟩ : ByteArray) ∈ opsTwo := by simp [opsTwo]
theorem t_or : (⟨#[124]⟩ : ByteArray) ∈ opsTwo := by simp [opsTwo]
theorem t_xor : (⟨#[94]⟩ : ByteArray) ∈ opsTwo := by simp [opsTwo]
theorem t_shl : (⟨#[60, 60]⟩ : ByteArray) ∈ opsTwo := by simp [opsTwo]

theorem law_dist (a b c : Int) : (vOp ⟨#[42]⟩ a (vOp ⟨#[43]⟩ b c) != vOp ⟨#[43]⟩ (vOp ⟨#[42]⟩ a b) (vOp ⟨#[42]⟩ a c)) = false := by
  simp only [vOp_add, vOp_mul, wrap64_mul_r, wrap64_add_l, wrap64_add_r, Int.mul_add]
  simp
theorem law_morgan (a b : Int) : (vOp ⟨#[94]⟩ (vOp ⟨#[38]⟩ a b) (-1) == vOp ⟨#[124]⟩ (vOp ⟨#[94]⟩ a (-1)) (vOp ⟨#[94]⟩ b (-1))) = true := by
  simp only [vOp_xor, vOp_and, vOp_or, de_morgan64]
  simp
theorem law_double (a : Int) : (vOp ⟨#[60, 60]⟩ a 1 == vOp ⟨#[43]⟩ a a) = true := by
  simp only [vOp_shl, vOp_add, vShl]
  have : a * 2 ^ ((1 : Int) % 64).toNat = a + a := by show a * 2 ^ 1 = a + a; omega
  rw [this]; simp
theorem law_neg (a : Int) : (vOp ⟨#[43]⟩ (wrap64 (-a)) a == 0) = true := by
  simp only [vOp_add, wrap64_add_l]
  have : -a + a = 0 := by omega
  rw [this, wrap64_of (by unfold In64; omega)]; rfl
theorem law_back (a b : Int) (ha : In64 a) : (vOp ⟨#[94]⟩ (vOp ⟨#[94]⟩ a b) b == a) = true := by
  simp only [vOp_xor, xor_back64 a b ha]
  simp

set_option maxHeartbeats 1000000 in
theorem laws_any (a b c : Int) (ha : In64 a) (w : World) :
    Calls Tryd.prog 6 #[.int .i64 a, .int .i64 b, .int .i64 c] w fun e w' => e = .returned (.bool true) ∧ Grown w w' := by
  have l1 := law_dist a b c
  have l2 := law_morgan a b
  have l3 := law_double a
  have l4 := law_neg a
  have l5 := law_back a b ha
  clear ha
  go_enter Tryd.func6, Tryd.ntmps6
  go_wp2_with (go_at_call 11; refine (done_any _).mono ?_; rintro e w' ⟨rfl, hh⟩; replace hh := hh.symm; subst hh)
  go_loopw [9] (fun i wr => ∃ k n : Nat, k ≤ 5 ∧ i = .int .i64 k ∧ wr = (fiveW w).drewN n) (fun i _ => 5 - (intOf i).toNat)
  case atStart => exact ⟨0, 0, by omega, rfl, rfl⟩
  case round =>
    obtain ⟨k, n, hk, rfl, rfl⟩ := hrel
    by_cases hlt : k < 5
    · have hc : ((fiveW w).drewN n).cell? ⟨w.heap.size, k, none⟩ = some (.string (opsFive.getD k ByteArray.empty)) := five_cell w k hlt
      have ht := five_two k hlt
      have has : (vOp (opsFive.getD k ByteArray.empty) (vOp (opsFive.getD k ByteArray.empty) a b) c != vOp (opsFive.getD k ByteArray.empty) a (vOp (opsFive.getD k ByteArray.empty) b c)) = false := by
        rw [five_assoc k hlt]; simp
      generalize opsFive.getD k ByteArray.empty = s at hc ht has
      generalize hW : (fiveW w).drewN n = W at hc
      have hlt' : (k : Int) < 5 := by omega
      go_wp2
      go_quiet ((go_at_call 23; exact Calls.quiet_of_same (op_any _ ht _ _ _)))
      go_wp2
      go_roundw
      case rel => exact ⟨k + 1, n + nq, by omega, by go_num, by rw [← hW, World.drewN_drewN]⟩
      case measure => simp [intOf]; omega
    · have hk5 : k = 5 := by omega
      subst hk5
      go_wp2_with (first | (go_at_call 23; refine (op_any _ (by first | exact t_add | exact t_mul | exact t_and | exact t_or | exact t_xor | exact t_shl) _ _ _).mono ?_; rintro e w' ⟨rfl, hh⟩; replace hh := hh.symm; subst hh) | (go_at_call 15; refine (one_neg _ _).mono ?_; rintro e w' ⟨rfl, hh⟩; replace hh := hh.symm; subst hh))
      go_ret
      exact ⟨rfl, ((Grown.refl w).alloc _ _ : Grown w (fiveW w))⟩
end Go.Proofs.YtpjanhljfdeidaaDoor
