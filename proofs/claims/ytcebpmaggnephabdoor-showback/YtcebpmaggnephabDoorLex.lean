/-
  Our own: what the small functions of package lex do, one contract each.
-/
import Derived.Test.YtcebpmaggnephabDoorIn
import Derived.Test.YtcebpmaggnephabDoorLexMath
namespace Go.Proofs.YtcebpmaggnephabDoor
open Go.RowKit

theorem ret_bool {a b : Bool} (h : a = b) : Ending.returned (.bool a) = .returned (.bool b) := by rw [h]
theorem ret_int {k : IntKind} {a b : Int} (h : a = b) : Ending.returned (.int k a) = .returned (.int k b) := by rw [h]
theorem letter_any (b : UInt8) (w : World) : Calls Tryd.prog 28 #[.int .u8 b.toNat] w fun e w' => e = .returned (.bool (isL b)) ∧ w' = w := by
  go_enter Tryd.func28, Tryd.ntmps28
  go_wp2
  all_goals (go_ret; exact ⟨ret_bool (by rw [Bool.eq_iff_iff]; simp [isL]; omega), rfl⟩)
theorem digit_any (b : UInt8) (w : World) : Calls Tryd.prog 30 #[.int .u8 b.toNat] w fun e w' => e = .returned (.bool (isD b)) ∧ w' = w := by
  go_enter Tryd.func30, Tryd.ntmps30
  go_wp2
  all_goals (go_ret; exact ⟨ret_bool (by rw [Bool.eq_iff_iff]; simp [isD]; omega), rfl⟩)
theorem blank_any (b : UInt8) (w : World) : Calls Tryd.prog 17 #[.int .u8 b.toNat] w fun e w' => e = .returned (.bool (isB b)) ∧ w' = w := by
  go_enter Tryd.func17, Tryd.ntmps17
  go_wp2
  all_goals (go_ret; exact ⟨ret_bool (by rw [Bool.eq_iff_iff]; simp [isB]; omega), rfl⟩)
theorem alnum_any (b : UInt8) (w : World) : Calls Tryd.prog 47 #[.int .u8 b.toNat] w fun e w' => e = .returned (.bool (isLD b)) ∧ w' = w := by
  by_cases hL : isL b = true
  · go_enter Tryd.func47, Tryd.ntmps47
    go_wp2_with (first | (go_at_call 28; refine (letter_any _ _).mono ?_; rintro e w' ⟨rfl, rfl⟩) | (go_at_call 30; refine (digit_any _ _).mono ?_; rintro e w' ⟨rfl, rfl⟩))
    go_ret
    exact ⟨ret_bool (by simp [isLD, hL]), rfl⟩
  · have hL : isL b = false := by simpa using hL
    go_enter Tryd.func47, Tryd.ntmps47
    go_wp2_with (first | (go_at_call 28; refine (letter_any _ _).mono ?_; rintro e w' ⟨rfl, rfl⟩) | (go_at_call 30; refine (digit_any _ _).mono ?_; rintro e w' ⟨rfl, rfl⟩))
    go_ret
    exact ⟨ret_bool (by simp [isLD, hL]), rfl⟩
theorem data_len (s : ByteArray) : s.data.toList.length = s.size := rfl

theorem span_blank (s : ByteArray) (hs : s.size ≤ 5000) (w : World) : Calls Tryd.prog 16 #[.string s, .func (.func 17) #[] #[]] w fun e w' => e = .returned (.int .i64 (spanN isB s.data.toList)) ∧ w' = w := by
  go_enter Tryd.func16, Tryd.ntmps16
  go_wp2
  go_loop [8] (fun i => ∃ k : Nat, k ≤ s.size ∧ i = .int .i64 k ∧ Hid (∀ j (h : j < s.data.toList.length), j < k → isB s.data.toList[j] = true)) (fun i => s.size - (intOf i).toNat)
  case atStart => exact ⟨0, Nat.zero_le _, rfl, fun j _ h => absurd h (by omega)⟩
  case round =>
    obtain ⟨k, hk, rfl, HK⟩ := hrel
    by_cases hlt : k < s.size
    · by_cases hp : isB s[k] = true
      · have HP : Hid (isB s[k] = true) := hp
        go_wp2_with (go_at_call 17; refine (blank_any _ _).mono ?_; rintro e w' ⟨rfl, rfl⟩)
        go_round
        case rel =>
          refine ⟨k + 1, by omega, by go_num, fun j hj h => ?_⟩
          by_cases hjk : j < k
          · exact HK.out j hj hjk
          · have : j = k := by omega
            subst this
            exact HP.out
        case measure => simp [intOf]; omega
      · have hp : isB s[k] = false := by simpa using hp
        have HP : Hid (isB s[k] = false) := hp
        go_wp2_with (go_at_call 17; refine (blank_any _ _).mono ?_; rintro e w' ⟨rfl, rfl⟩)
        go_ret
        exact ⟨ret_int (by rw [spanN_eq isB s.data.toList k (by rw [data_len]; omega) HK.out (fun _ => HP.out)]), rfl⟩
    · go_wp2
      go_ret
      exact ⟨ret_int (by rw [spanN_eq isB s.data.toList s.size (by rw [data_len]; omega) (fun j hj h => HK.out j hj (by omega)) (fun h => absurd h (by rw [data_len]; omega))]), rfl⟩

theorem span_digit (s : ByteArray) (hs : s.size ≤ 5000) (w : World) : Calls Tryd.prog 16 #[.string s, .func (.func 30) #[] #[]] w fun e w' => e = .returned (.int .i64 (spanN isD s.data.toList)) ∧ w' = w := by
  go_enter Tryd.func16, Tryd.ntmps16
  go_wp2
  go_loop [8] (fun i => ∃ k : Nat, k ≤ s.size ∧ i = .int .i64 k ∧ Hid (∀ j (h : j < s.data.toList.length), j < k → isD s.data.toList[j] = true)) (fun i => s.size - (intOf i).toNat)
  case atStart => exact ⟨0, Nat.zero_le _, rfl, fun j _ h => absurd h (by omega)⟩
  case round =>
    obtain ⟨k, hk, rfl, HK⟩ := hrel
    by_cases hlt : k < s.size
    · by_cases hp : isD s[k] = true
      · have HP : Hid (isD s[k] = true) := hp
        go_wp2_with (go_at_call 30; refine (digit_any _ _).mono ?_; rintro e w' ⟨rfl, rfl⟩)
        go_round
        case rel =>
          refine ⟨k + 1, by omega, by go_num, fun j hj h => ?_⟩
          by_cases hjk : j < k
          · exact HK.out j hj hjk
          · have : j = k := by omega
            subst this
            exact HP.out
        case measure => simp [intOf]; omega
      · have hp : isD s[k] = false := by simpa using hp
        have HP : Hid (isD s[k] = false) := hp
        go_wp2_with (go_at_call 30; refine (digit_any _ _).mono ?_; rintro e w' ⟨rfl, rfl⟩)
        go_ret
        exact ⟨ret_int (by rw [spanN_eq isD s.data.toList k (by rw [data_len]; omega) HK.out (fun _ => HP.out)]), rfl⟩
    · go_wp2
      go_ret
      exact ⟨ret_int (by rw [spanN_eq isD s.data.toList s.size (by rw [data_len]; omega) (fun j hj h => HK.out j hj (by omega)) (fun h => absurd h (by rw [data_len]; omega))]), rfl⟩

theorem span_alnum (s : ByteArray) (hs : s.size ≤ 5000) (w : World) : Calls Tryd.prog 16 #[.string s, .func (.func 47) #[] #[]] w fun e w' => e = .returned (.int .i64 (spanN isLD s.data.toList)) ∧ w' = w := by
  go_enter Tryd.func16, Tryd.ntmps16
  go_wp2
  go_loop [8] (fun i => ∃ k : Nat, k ≤ s.size ∧ i = .int .i64 k ∧ Hid (∀ j (h : j < s.data.toList.length), j < k → isLD s.data.toList[j] = true)) (fun i => s.size - (intOf i).toNat)
  case atStart => exact ⟨0, Nat.zero_le _, rfl, fun j _ h => absurd h (by omega)⟩
  case round =>
    obtain ⟨k, hk, rfl, HK⟩ := hrel
    by_cases hlt : k < s.size
    · by_cases hp : isLD s[k] = true
      · have HP : Hid (isLD s[k] = true) := hp
        go_wp2_with (go_at_call 47; refine (alnum_any _ _).mono ?_; rintro e w' ⟨rfl, rfl⟩)
        go_round
        case rel =>
          refine ⟨k + 1, by omega, by go_num, fun j hj h => ?_⟩
          by_cases hjk : j < k
          · exact HK.out j hj hjk
          · have : j = k := by omega
            subst this
            exact HP.out
        case measure => simp [intOf]; omega
      · have hp : isLD s[k] = false := by simpa using hp
        have HP : Hid (isLD s[k] = false) := hp
        go_wp2_with (go_at_call 47; refine (alnum_any _ _).mono ?_; rintro e w' ⟨rfl, rfl⟩)
        go_ret
        exact ⟨ret_int (by rw [spanN_eq isLD s.data.toList k (by rw [data_len]; omega) HK.out (fun _ => HP.out)]), rfl⟩
    · go_wp2
      go_ret
      exact ⟨ret_int (by rw [spanN_eq isLD s.data.toList s.size (by rw [data_len]; omega) (fun j hj h => HK.out j hj (by omega)) (fun h => absurd h (by rw [data_len]; omega))]), rfl⟩
end Go.Proofs.YtcebpmaggnephabDoor
