/- Our own: texts joined: RRef, Fit64, GvOne. -/
import Derived.Test.YtimccbilkjjakaaDoorZMathVal
import Derived.Test.YtimccbilkjjakaaDoorZBase
namespace Go.Proofs.YtimccbilkjjakaaDoor
open Go.RowKit
theorem tmod_cases (n m : Int) (hm : 0 < m) : (0 ≤ n.tmod m ∧ n.tmod m = n % m) ∨ (n.tmod m < 0 ∧ n.tmod m + m = n % m ∧ -m < n.tmod m) := by
 rcases Int.le_total 0 n with h | h
 ·left
  rw [Int.tmod_eq_emod_of_nonneg h]
  exact ⟨Int.emod_nonneg _ (by omega), rfl⟩
 ·have e : n.tmod m = -((-n) % m) := by
   have h1 : (-n).tmod m = (-n) % m := Int.tmod_eq_emod_of_nonneg (by omega)
   rw [← h1, Int.neg_tmod]; omega
  by_cases h0 : (-n) % m = 0
  ·left
   have hd : m ∣ n := by
    have : m ∣ -n := Int.dvd_of_emod_eq_zero h0
    simpa using this
   rw [e, h0, Int.emod_eq_zero_of_dvd hd]
   simp
  ·right
   have h1 : 0 ≤ (-n) % m := Int.emod_nonneg _ (by omega)
   have h2 : (-n) % m < m := Int.emod_lt_of_pos _ hm
   have h3 := Int.emod_add_mul_ediv (-n) m
   refine ⟨by omega, ?_, by omega⟩
   have h4 : n = (m - (-n) % m) + m * (-((-n) / m) - 1) := by
    have : m * (-((-n) / m) - 1) = -(m * ((-n) / m)) - m := by rw [Int.mul_sub, Int.mul_neg, Int.mul_one]
    omega
   have h5 : n % m = m - (-n) % m := by
    conv => lhs; rw [h4]
    rw [Int.add_mul_emod_self_left]
    exact Int.emod_eq_of_lt (by omega) (by omega)
   omega
theorem tmod_bd (n m : Int) (hm : 0 < m) : -m < n.tmod m ∧ n.tmod m < m := by
 have h1 : 0 ≤ n % m := Int.emod_nonneg _ (by omega)
 have h2 : n % m < m := Int.emod_lt_of_pos _ hm
 rcases tmod_cases n m hm with h | h <;> omega
theorem half_of (v r : Int) (h : r = v % 2) : (v - r).tdiv 2 = v / 2 := by
 have e : v - r = 2 * (v / 2) := by omega
 rw [e, Int.mul_tdiv_cancel_left _ (by decide)]
theorem pow_succ_div (a : Int) (k : Nat) : a / 2 ^ k / 2 = a / 2 ^ (k + 1) := by
 rw [Int.pow_succ, Int.ediv_ediv_of_nonneg (Int.pow_nonneg (by decide))]
theorem div_in64 (a : Int) (k : Nat) (ha : In64 a) : In64 (a / 2 ^ k) := by
 induction k with
 | zero => simpa using ha
 | succ k ih =>
  rw [← pow_succ_div]
  unfold In64 at *
  omega
theorem tdiv_neg_one (a : Int) : a.tdiv (-1) = 0 - a := by rw [Int.tdiv_neg, Int.tdiv_one]; omega
theorem tmod_neg_one (a : Int) : a.tmod (-1) = 0 := by rw [Int.tmod_neg, Int.tmod_one]
theorem r_bit (p : Bool) (w : World) : Calls Tryd.prog 38 #[.bool p] w fun e w' => e = .returned (.int .i64 (if p then 1 else 0)) ∧ w' = w := by
 cases p
 all_goals
  go_enter Tryd.func38, Tryd.ntmps38
  go_wp2
  go_ret
  exact ⟨rfl, rfl⟩
theorem r_lowSix (n : Int) (w : World) : Calls Tryd.prog 40 #[.int .i64 n] w fun e w' => e = .returned (.int .i64 (n % 64)) ∧ w' = w := by
 have hc := tmod_cases n 64 (by decide)
 have hb := tmod_bd n 64 (by decide)
 generalize n % 64 = m at hc
 rcases hc with ⟨h1, h2⟩ | ⟨h1, h2, _⟩
 ·subst h2
  have h1' : ¬ n.tmod 64 < 0 := by omega
  go_enter Tryd.func40, Tryd.ntmps40
  go_wp2
  go_ret
  exact ⟨rfl, rfl⟩
 ·subst h2
  go_enter Tryd.func40, Tryd.ntmps40
  go_wp2
  go_ret
  exact ⟨rfl, rfl⟩
theorem r_powerOf (n : Nat) (hn : n ≤ 100) (w : World) : Calls Tryd.prog 39 #[.int .i64 (n : Int)] w fun e w' => e = .returned (.int .i64 (wrap64 (2 ^ n))) ∧ w' = w := by
 go_enter Tryd.func39, Tryd.ntmps39
 go_wp2
 go_loop [3, 4] (fun p i => ∃ q : Nat, q ≤ n ∧ p = .int .i64 (wrap64 (2 ^ q)) ∧ i = .int .i64 q) (fun _ i => n - (intOf i).toNat)
 case atStart => exact ⟨0, by omega, by rw [wrap64_of (by unfold In64; decide)]; rfl, rfl⟩
 case round =>
  obtain ⟨q, hq, rfl, rfl⟩ := hrel
  have HE : Hid (wrap64 (wrap64 (2 ^ q) + wrap64 (2 ^ q)) = wrap64 (2 ^ (q + 1))) := by
   unfold Hid
   rw [wrap64_add_l, wrap64_add_r, Int.pow_succ]
   have : (2 : Int) ^ q + 2 ^ q = 2 ^ q * 2 := by omega
   rw [this]
  generalize hp : wrap64 (2 ^ q) = p at *
  by_cases hlt : q < n
  ·go_wp2
   go_round
   case rel => exact ⟨q + 1, by omega, by rw [HE.out], by go_num⟩
   case measure => simp [intOf]; omega
  ·have hqn : q = n := by omega
   subst hqn
   go_wp2
   go_ret
   exact ⟨rfl, rfl⟩
theorem r_add (a b : Int) (w : World) : Calls Tryd.prog 23 #[.string ⟨#[43]⟩, .int .i64 a, .int .i64 b] w fun e w' => e = .returned (.int .i64 (vOp ⟨#[43]⟩ a b)) ∧ w' = w := by
 rw [vOp_add]
 go_enter Tryd.func23, Tryd.ntmps23
 go_wp2
 go_ret
 exact ⟨rfl, rfl⟩
theorem r_sub (a b : Int) (w : World) : Calls Tryd.prog 23 #[.string ⟨#[45]⟩, .int .i64 a, .int .i64 b] w fun e w' => e = .returned (.int .i64 (vOp ⟨#[45]⟩ a b)) ∧ w' = w := by
 rw [vOp_sub]
 go_enter Tryd.func23, Tryd.ntmps23
 go_wp2
 go_ret
 exact ⟨rfl, rfl⟩
theorem r_mul (a b : Int) (w : World) : Calls Tryd.prog 23 #[.string ⟨#[42]⟩, .int .i64 a, .int .i64 b] w fun e w' => e = .returned (.int .i64 (vOp ⟨#[42]⟩ a b)) ∧ w' = w := by
 rw [vOp_mul]
 go_enter Tryd.func23, Tryd.ntmps23
 go_wp2
 go_ret
 exact ⟨rfl, rfl⟩
theorem r_quo (a b : Int) (w : World) : Calls Tryd.prog 23 #[.string ⟨#[47]⟩, .int .i64 a, .int .i64 b] w fun e w' => e = .returned (.int .i64 (vOp ⟨#[47]⟩ a b)) ∧ w' = w := by
 rw [vOp_quo]
 by_cases hb : b = 0
 ·have e : vQuo a b = 0 := by simp [vQuo, hb]
  rw [e]; clear e
  have hb' : (b == 0) = true := by simpa using hb
  clear hb
  go_enter Tryd.func23, Tryd.ntmps23
  go_wp2
  go_ret
  exact ⟨rfl, rfl⟩
 ·have hb' : (b == 0) = false := by simpa using hb
  by_cases hm : b = -1
  ·have e : vQuo a b = wrap64 (0 - a) := by rw [vQuo, if_neg hb, hm, tdiv_neg_one]
   rw [e]; clear e
   have hm' : (b == -1) = true := by simpa using hm
   clear hm hb
   go_enter Tryd.func23, Tryd.ntmps23
   go_wp2
   go_ret
   exact ⟨ret_intV (by simp), rfl⟩
  ·have e : vQuo a b = wrap64 (a.tdiv b) := by simp [vQuo, hb]
   rw [e]; clear e
   have hm' : (b == -1) = false := by simpa using hm
   go_enter Tryd.func23, Tryd.ntmps23
   go_wp2
   go_ret
   exact ⟨rfl, rfl⟩
theorem r_rem (a b : Int) (w : World) : Calls Tryd.prog 23 #[.string ⟨#[37]⟩, .int .i64 a, .int .i64 b] w fun e w' => e = .returned (.int .i64 (vOp ⟨#[37]⟩ a b)) ∧ w' = w := by
 rw [vOp_rem]
 by_cases hb : b = 0
 ·have e : vRem a b = a := by simp [vRem, hb]
  rw [e]; clear e
  have hb' : (b == 0) = true := by simpa using hb
  clear hb
  go_enter Tryd.func23, Tryd.ntmps23
  go_wp2
  go_ret
  exact ⟨rfl, rfl⟩
 ·have hb' : (b == 0) = false := by simpa using hb
  by_cases hm : b = -1
  ·have e : vRem a b = 0 := by rw [vRem, if_neg hb, hm, tmod_neg_one]
   rw [e]; clear e
   have hm' : (b == -1) = true := by simpa using hm
   clear hm hb
   go_enter Tryd.func23, Tryd.ntmps23
   go_wp2
   go_ret
   exact ⟨rfl, rfl⟩
  ·have e : vRem a b = a.tmod b := by simp [vRem, hb]
   rw [e]; clear e
   have hm' : (b == -1) = false := by simpa using hm
   go_enter Tryd.func23, Tryd.ntmps23
   go_wp2
   go_ret
   exact ⟨rfl, rfl⟩
theorem r_and (a b : Int) (w : World) : Calls Tryd.prog 23 #[.string ⟨#[38]⟩, .int .i64 a, .int .i64 b] w fun e w' => e = .returned (.int .i64 (vOp ⟨#[38]⟩ a b)) ∧ w' = w := by
 rw [vOp_and]
 go_enter Tryd.func23, Tryd.ntmps23
 go_wp2
 go_ret
 exact ⟨rfl, rfl⟩
theorem r_or (a b : Int) (w : World) : Calls Tryd.prog 23 #[.string ⟨#[124]⟩, .int .i64 a, .int .i64 b] w fun e w' => e = .returned (.int .i64 (vOp ⟨#[124]⟩ a b)) ∧ w' = w := by
 rw [vOp_or]
 go_enter Tryd.func23, Tryd.ntmps23
 go_wp2
 go_ret
 exact ⟨rfl, rfl⟩
theorem r_xor (a b : Int) (w : World) : Calls Tryd.prog 23 #[.string ⟨#[94]⟩, .int .i64 a, .int .i64 b] w fun e w' => e = .returned (.int .i64 (vOp ⟨#[94]⟩ a b)) ∧ w' = w := by
 rw [vOp_xor]
 go_enter Tryd.func23, Tryd.ntmps23
 go_wp2
 go_ret
 exact ⟨rfl, rfl⟩
theorem r_shl (a b : Int) (w : World) : Calls Tryd.prog 23 #[.string ⟨#[60, 60]⟩, .int .i64 a, .int .i64 b] w fun e w' => e = .returned (.int .i64 (vOp ⟨#[60, 60]⟩ a b)) ∧ w' = w := by
 have h0 : 0 ≤ b % 64 := Int.emod_nonneg _ (by decide)
 have h1 : b % 64 < 64 := Int.emod_lt_of_pos _ (by decide)
 obtain ⟨n, hn⟩ := Int.eq_ofNat_of_zero_le h0
 have HE : Hid (wrap64 (a * wrap64 (2 ^ n)) = vOp ⟨#[60, 60]⟩ a b) := by
  unfold Hid
  rw [vOp_shl, vShl, wrap64_mul_r, hn]; rfl
 have hl := r_lowSix b
 rw [hn] at hl
 have HL : Hid (∀ w : World, Calls Tryd.prog 40 #[.int .i64 b] w fun e w' => e = .returned (.int .i64 (n : Int)) ∧ w' = w) := hl
 have hn' : n ≤ 100 := by omega
 clear hl hn h0 h1
 go_enter Tryd.func23, Tryd.ntmps23
 go_wp2_with (first | (go_at_call 40; refine (HL.out _).mono ?_; rintro e w' ⟨rfl, hh⟩; replace hh := hh.symm; subst hh) | (go_at_call 39; refine (r_powerOf n hn' _).mono ?_; rintro e w' ⟨rfl, hh⟩; replace hh := hh.symm; subst hh))
 go_ret
 exact ⟨ret_intV HE.out, rfl⟩
set_option maxHeartbeats 1000000 in
theorem r_shr (a b : Int) (ha : In64 a) (w : World) : Calls Tryd.prog 23 #[.string ⟨#[62, 62]⟩, .int .i64 a, .int .i64 b] w fun e w' => e = .returned (.int .i64 (vOp ⟨#[62, 62]⟩ a b)) ∧ w' = w := by
 have h0 : 0 ≤ b % 64 := Int.emod_nonneg _ (by decide)
 have h1 : b % 64 < 64 := Int.emod_lt_of_pos _ (by decide)
 obtain ⟨n, hn⟩ := Int.eq_ofNat_of_zero_le h0
 have HE : Hid (a / 2 ^ n = vOp ⟨#[62, 62]⟩ a b) := by
  unfold Hid
  rw [vOp_shr, vShr, hn]; rfl
 have hl := r_lowSix b
 rw [hn] at hl
 have HL : Hid (∀ w : World, Calls Tryd.prog 40 #[.int .i64 b] w fun e w' => e = .returned (.int .i64 (n : Int)) ∧ w' = w) := hl
 have hn' : n ≤ 100 := by omega
 have HA : Hid (In64 a) := ha
 clear hl hn h0 h1 ha
 go_enter Tryd.func23, Tryd.ntmps23
 go_wp2_with (go_at_call 40; refine (HL.out _).mono ?_; rintro e w' ⟨rfl, hh⟩; replace hh := hh.symm; subst hh)
 go_loop [8, 9] (fun v i => ∃ q : Nat, q ≤ n ∧ v = .int .i64 (a / 2 ^ q) ∧ i = .int .i64 q) (fun _ i => n - (intOf i).toNat)
 case atStart => exact ⟨0, by omega, by simp, rfl⟩
 case round =>
  obtain ⟨q, hq, rfl, rfl⟩ := hrel
  have hv := div_in64 a q HA.out
  have HP : Hid (a / 2 ^ q / 2 = a / 2 ^ (q + 1)) := pow_succ_div a q
  by_cases hlt : q < n
  ·generalize hV : a / 2 ^ q = v at *
   unfold In64 at hv
   obtain ⟨hv1, hv2⟩ := hv
   have hb := tmod_bd v 2 (by decide)
   rcases tmod_cases v 2 (by decide) with ⟨c1, c2⟩ | ⟨c1, c2, _⟩
   ·have HH : Hid (wrap64 ((wrap64 (v - v.tmod 2)).tdiv 2) = v / 2) := by
     unfold Hid
     rw [wrap64_of (n := v - v.tmod 2) (by unfold In64; omega), half_of v _ c2, wrap64_of (by unfold In64; omega)]
    have c1' : ¬ v.tmod 2 < 0 := by omega
    clear c2
    go_wp2
    exact ⟨⟨q + 1, by omega, by rw [HH.out, HP.out], by go_num⟩, by simp [intOf]; omega⟩
   ·have HH : Hid (wrap64 ((wrap64 (v - (v.tmod 2 + 2))).tdiv 2) = v / 2) := by
     unfold Hid
     rw [wrap64_of (n := v - (v.tmod 2 + 2)) (by unfold In64; omega), half_of v _ c2, wrap64_of (by unfold In64; omega)]
    clear c2
    go_wp2
    exact ⟨⟨q + 1, by omega, by rw [HH.out, HP.out], by go_num⟩, by simp [intOf]; omega⟩
  ·have hqn : q = n := by omega
   subst hqn
   go_wp2
   go_ret
   exact ⟨ret_intV HE.out, rfl⟩
theorem r_lt (a b : Int) (w : World) : Calls Tryd.prog 23 #[.string ⟨#[60]⟩, .int .i64 a, .int .i64 b] w fun e w' => e = .returned (.int .i64 (vOp ⟨#[60]⟩ a b)) ∧ w' = w := by
 rw [vOp_lt]
 by_cases h : a < b
 ·have e : vBit (a < b) = 1 := by simp [vBit, h]
  rw [e]; clear e
  go_enter Tryd.func23, Tryd.ntmps23
  go_wp2
  go_ret
  exact ⟨rfl, rfl⟩
 ·have e : vBit (a < b) = 0 := by simp [vBit, h]
  rw [e]; clear e
  go_enter Tryd.func23, Tryd.ntmps23
  go_wp2
  go_ret
  exact ⟨rfl, rfl⟩
theorem r_le (a b : Int) (w : World) : Calls Tryd.prog 23 #[.string ⟨#[60, 61]⟩, .int .i64 a, .int .i64 b] w fun e w' => e = .returned (.int .i64 (vOp ⟨#[60, 61]⟩ a b)) ∧ w' = w := by
 rw [vOp_le]
 by_cases h : a ≤ b
 ·have e : vBit (a ≤ b) = 1 := by simp [vBit, h]
  rw [e]; clear e
  go_enter Tryd.func23, Tryd.ntmps23
  go_wp2
  go_ret
  exact ⟨rfl, rfl⟩
 ·have e : vBit (a ≤ b) = 0 := by simp [vBit, h]
  rw [e]; clear e
  go_enter Tryd.func23, Tryd.ntmps23
  go_wp2
  go_ret
  exact ⟨rfl, rfl⟩
theorem r_eq (a b : Int) (w : World) : Calls Tryd.prog 23 #[.string ⟨#[61, 61]⟩, .int .i64 a, .int .i64 b] w fun e w' => e = .returned (.int .i64 (vOp ⟨#[61, 61]⟩ a b)) ∧ w' = w := by
 rw [vOp_eq]
 by_cases h : a = b
 ·have e : vBit (a = b) = 1 := by simp [vBit, h]
  rw [e]; clear e
  have h' : (a == b) = true := by simpa using h
  clear h
  go_enter Tryd.func23, Tryd.ntmps23
  go_wp2
  go_ret
  exact ⟨rfl, rfl⟩
 ·have e : vBit (a = b) = 0 := by simp [vBit, h]
  rw [e]; clear e
  have h' : (a == b) = false := by simpa using h
  clear h
  go_enter Tryd.func23, Tryd.ntmps23
  go_wp2
  go_ret
  exact ⟨rfl, rfl⟩
theorem r_ne (a b : Int) (w : World) : Calls Tryd.prog 23 #[.string ⟨#[33, 61]⟩, .int .i64 a, .int .i64 b] w fun e w' => e = .returned (.int .i64 (vOp ⟨#[33, 61]⟩ a b)) ∧ w' = w := by
 rw [vOp_ne]
 by_cases h : a ≠ b
 ·have e : vBit (a ≠ b) = 1 := by simp [vBit, h]
  rw [e]; clear e
  have h' : (a != b) = true := by simpa using h
  clear h
  go_enter Tryd.func23, Tryd.ntmps23
  go_wp2
  go_ret
  exact ⟨rfl, rfl⟩
 ·have e : vBit (a ≠ b) = 0 := by simp [vBit, h]
  rw [e]; clear e
  have h' : (a != b) = false := by simpa using h
  clear h
  go_enter Tryd.func23, Tryd.ntmps23
  go_wp2
  go_ret
  exact ⟨rfl, rfl⟩
theorem r_any (s : ByteArray) (hs : s ∈ opsTwo) (a b : Int) (ha : In64 a) (w : World) : Calls Tryd.prog 23 #[.string s, .int .i64 a, .int .i64 b] w fun e w' => e = .returned (.int .i64 (vOp s a b)) ∧ w' = w := by
 simp only [opsTwo, List.mem_cons, List.not_mem_nil, or_false] at hs
 rcases hs with rfl | rfl | rfl | rfl | rfl | rfl | rfl | rfl | rfl | rfl | rfl | rfl | rfl | rfl
 ·exact r_add a b w
 ·exact r_sub a b w
 ·exact r_mul a b w
 ·exact r_quo a b w
 ·exact r_rem a b w
 ·exact r_and a b w
 ·exact r_or a b w
 ·exact r_xor a b w
 ·exact r_shl a b w
 ·exact r_shr a b ha w
 ·exact r_lt a b w
 ·exact r_le a b w
 ·exact r_eq a b w
 ·exact r_ne a b w
end Go.Proofs.YtimccbilkjjakaaDoor
namespace Go.Proofs.YtimccbilkjjakaaDoor
open Go.RowKit
theorem zero64 : In64 0 := by unfold In64; omega
theorem bit64 (p : Prop) [Decidable p] : In64 (vBit p) := by rcases vBit_ex p with h | h <;> rw [h] <;> unfold In64 <;> omega
theorem pow_succ_divR (a : Int) (k : Nat) : a / 2 ^ k / 2 = a / 2 ^ (k + 1) := by
 rw [Int.pow_succ, Int.ediv_ediv_of_nonneg (Int.pow_nonneg (by decide))]
theorem div_in64R (a : Int) (k : Nat) (ha : In64 a) : In64 (a / 2 ^ k) := by
 induction k with
 | zero => simpa using ha
 | succ k ih =>
  rw [← pow_succ_divR]
  unfold In64 at *
  omega
theorem ite64 {p : Prop} [Decidable p] {a b : Int} (ha : In64 a) (hb : In64 b) : In64 (if p then a else b) := by split <;> assumption
theorem vOp_fit (m : List UInt8) (a b : Int) (ha : In64 a) : In64 (vOp ⟨m.toArray⟩ a b) := by
 unfold vOp
 exact (ite64 (wrap64_in64 _) (ite64 (wrap64_in64 _) (ite64 (wrap64_in64 _) (ite64 (by unfold vQuo; exact ite64 zero64 (wrap64_in64 _)) (ite64 (by unfold vRem; exact ite64 ha (tmod_in64 ha)) (ite64 (bits_in64 _ _ _) (ite64 (bits_in64 _ _ _) (ite64 (bits_in64 _ _ _) (ite64 (wrap64_in64 _) (ite64 (div_in64R a _ ha) (ite64 (bit64 _) (ite64 (bit64 _) (ite64 (bit64 _) (ite64 (bit64 _) zero64))))))))))))))
end Go.Proofs.YtimccbilkjjakaaDoor
namespace Go.Proofs.YtimccbilkjjakaaDoor
open Go.RowKit
set_option maxRecDepth 100000 in
set_option maxHeartbeats 2000000 in
theorem rone_val (m : List UInt8) (hm : m ∈ onesE) (a : Int) (w : World) : Calls Tryd.prog 22 #[.string ⟨m.toArray⟩, .int .i64 a] w fun e w' => e = .returned (.int .i64 (oneV m a)) ∧ w' = w := by
 unfold onesE at hm
 simp only [List.mem_cons, List.not_mem_nil, or_false] at hm
 rcases hm with rfl | rfl
 ·show Calls _ _ _ _ fun e w' => e = .returned (.int .i64 (wrap64 (-a))) ∧ w' = w
  go_enter Tryd.func22, Tryd.ntmps22
  go_wp2
  go_ret
  exact ⟨ret_intV (by go_num), rfl⟩
 ·show Calls _ _ _ _ fun e w' => e = .returned (.int .i64 (vBit (a = 0))) ∧ w' = w
  go_enter Tryd.func22, Tryd.ntmps22
  go_wp2_with fail
  refine (r_bit _ _).mono ?_
  rintro e w' ⟨rfl, rfl⟩
  go_wp2
  all_goals (
   go_ret
   exact ⟨by first | rfl | simp [vBit, *], rfl⟩)
set_option maxRecDepth 100000 in
set_option maxHeartbeats 2000000 in
theorem rtwo_val (m : List UInt8) (hm : m ∈ twosE) (a b : Int) (ha : In64 a) (w : World) : Calls Tryd.prog 23 #[.string ⟨m.toArray⟩, .int .i64 a, .int .i64 b] w fun e w' => e = .returned (.int .i64 (twoV m a b)) ∧ w' = w := by
 refine r_any ⟨m.toArray⟩ ?_ a b ha w
 unfold twosE at hm
 simp only [List.mem_cons, List.not_mem_nil, or_false] at hm
 rcases hm with rfl | rfl | rfl | rfl | rfl | rfl | rfl | rfl | rfl | rfl | rfl | rfl | rfl | rfl <;> simp [opsTwo]
theorem oneV_fit (m : List UInt8) (a : Int) : In64 (oneV m a) := by
 unfold oneV
 split
 ·exact wrap64_in64 _
 ·exact bit64 _
end Go.Proofs.YtimccbilkjjakaaDoor
