/- Our own: texts joined: Math, Val, OpVals. -/
import Derived.WalkKit
import Derived.Laws.Bits64
import Derived.Laws.Bits64b
import Derived.Test.YtimccbilkjjakaaDoorProg
import Derived.BigQuiet
import Derived.Deep.QuietTactic
import Derived.Test.YtimccbilkjjakaaDoorZBase
namespace Go.Proofs.YtimccbilkjjakaaDoor
open Go.RowKit
def In64 (n : Int) : Prop := -9223372036854775808 ≤ n ∧ n ≤ 9223372036854775807
theorem wrap64_of {n : Int} (h : In64 n) : wrap64 n = n := by unfold In64 at h; unfold wrap64; omega
theorem wrap64_in64 (n : Int) : In64 (wrap64 n) := by unfold In64 wrap64; omega
theorem wrap64_ex (n : Int) : ∃ k : Int, wrap64 n = n + k * 18446744073709551616 := by
 refine ⟨-((n + 9223372036854775808) / 18446744073709551616), ?_⟩
 unfold wrap64; omega
theorem wrap64_congr {x y : Int} (k : Int) (h : x = y + k * 18446744073709551616) : wrap64 x = wrap64 y := by
 subst h; unfold wrap64; omega
theorem i64_wrap (n : Int) : IntKind.i64.wrap n = wrap64 n := by unfold wrap64; exact IntKind.wrap_i64 n
theorem wrap64_add_l (a b : Int) : wrap64 (wrap64 a + b) = wrap64 (a + b) := by
 obtain ⟨k, hk⟩ := wrap64_ex a
 exact wrap64_congr k (by rw [hk]; omega)
theorem wrap64_add_r (a b : Int) : wrap64 (a + wrap64 b) = wrap64 (a + b) := by
 obtain ⟨k, hk⟩ := wrap64_ex b
 exact wrap64_congr k (by rw [hk]; omega)
theorem wrap64_mul_r (a b : Int) : wrap64 (a * wrap64 b) = wrap64 (a * b) := by
 obtain ⟨k, hk⟩ := wrap64_ex b
 exact wrap64_congr (a * k) (by rw [hk]; grind)
def vQuo (a b : Int) : Int := if b = 0 then 0 else wrap64 (a.tdiv b)
def vRem (a b : Int) : Int := if b = 0 then a else a.tmod b
def vShl (a b : Int) : Int := wrap64 (a * 2 ^ (b % 64).toNat)
def vShr (a b : Int) : Int := a / 2 ^ (b % 64).toNat
def vBit (p : Prop) [Decidable p] : Int := if p then 1 else 0
theorem vBit_ex (p : Prop) [Decidable p] : vBit p = 0 ∨ vBit p = 1 := by unfold vBit; split <;> simp
theorem emod_le_self {a b : Int} (h : 0 ≤ a) : a % b ≤ a := by
 by_cases hb : b = 0
 ·simp [hb]
 ·rcases Int.lt_or_lt_of_ne hb with h1 | h1
  ·have e : a % b = a % (-b) := (Int.emod_neg a b).symm
   rw [e]
   have h2 := Int.mul_ediv_add_emod a (-b)
   have h3 : 0 ≤ a / (-b) := Int.ediv_nonneg h (by omega)
   have h4 : 0 ≤ (-b) * (a / (-b)) := Int.mul_nonneg (by omega) h3
   omega
  ·have h2 := Int.mul_ediv_add_emod a b
   have h3 : 0 ≤ a / b := Int.ediv_nonneg h (by omega)
   have h4 : 0 ≤ b * (a / b) := Int.mul_nonneg (by omega) h3
   omega
theorem tmod_in64 {a b : Int} (ha : In64 a) : In64 (a.tmod b) := by
 unfold In64 at *
 rcases Int.le_total 0 a with h | h
 ·have := Int.tmod_nonneg b h
  have h2 : a.tmod b ≤ a := by
   rw [Int.tmod_eq_emod_of_nonneg h]
   exact emod_le_self h
  omega
 ·have e : a.tmod b = -((-a).tmod b) := by rw [Int.neg_tmod]; omega
  have h' : 0 ≤ -a := by omega
  have h1 := Int.tmod_nonneg b h'
  have h2 : (-a).tmod b ≤ -a := by rw [Int.tmod_eq_emod_of_nonneg h']; exact emod_le_self h'
  omega
theorem bits_in64 (op : BinOp) (x y : Int) : In64 (bits op .i64 x y) := by
 unfold bits
 simp only [i64_wrap]
 exact wrap64_in64 _
theorem low_six (b : Int) : bits BinOp.and IntKind.u64 (IntKind.u64.wrap b) 63 = b % 64 := by
 rw [IntKind.wrap_u64]
 have h0 : 0 ≤ b % 18446744073709551616 := Int.emod_nonneg _ (by decide)
 have h1 : b % 18446744073709551616 < 18446744073709551616 := Int.emod_lt_of_pos _ (by decide)
 obtain ⟨n, hn⟩ := Int.eq_ofNat_of_zero_le h0
 rw [hn]
 have := bits_and_u64_nat n 63 (by omega) (by decide)
 have e : ((63 : Nat) : Int) = 63 := rfl
 rw [e] at this
 rw [this]
 have e2 : n &&& 63 = n % 64 := Nat.and_two_pow_sub_one_eq_mod n 6
 rw [e2]
 omega
end Go.Proofs.YtimccbilkjjakaaDoor
namespace Go.Proofs.YtimccbilkjjakaaDoor
open Go.RowKit
def opsTwo : List ByteArray := [⟨#[43]⟩, ⟨#[45]⟩, ⟨#[42]⟩, ⟨#[47]⟩, ⟨#[37]⟩, ⟨#[38]⟩, ⟨#[124]⟩, ⟨#[94]⟩, ⟨#[60, 60]⟩, ⟨#[62, 62]⟩, ⟨#[60]⟩, ⟨#[60, 61]⟩, ⟨#[61, 61]⟩, ⟨#[33, 61]⟩]
def vOp (s : ByteArray) (a b : Int) : Int :=
 if s = ⟨#[43]⟩ then wrap64 (a + b)
 else if s = ⟨#[45]⟩ then wrap64 (a - b)
 else if s = ⟨#[42]⟩ then wrap64 (a * b)
 else if s = ⟨#[47]⟩ then vQuo a b
 else if s = ⟨#[37]⟩ then vRem a b
 else if s = ⟨#[38]⟩ then bits .and .i64 a b
 else if s = ⟨#[124]⟩ then bits .or .i64 a b
 else if s = ⟨#[94]⟩ then bits .xor .i64 a b
 else if s = ⟨#[60, 60]⟩ then vShl a b
 else if s = ⟨#[62, 62]⟩ then vShr a b
 else if s = ⟨#[60]⟩ then vBit (a < b)
 else if s = ⟨#[60, 61]⟩ then vBit (a ≤ b)
 else if s = ⟨#[61, 61]⟩ then vBit (a = b)
 else if s = ⟨#[33, 61]⟩ then vBit (a ≠ b)
 else 0
theorem vOp_add (a b : Int) : vOp ⟨#[43]⟩ a b = wrap64 (a + b) := rfl
theorem vOp_sub (a b : Int) : vOp ⟨#[45]⟩ a b = wrap64 (a - b) := rfl
theorem vOp_mul (a b : Int) : vOp ⟨#[42]⟩ a b = wrap64 (a * b) := rfl
theorem vOp_quo (a b : Int) : vOp ⟨#[47]⟩ a b = vQuo a b := rfl
theorem vOp_rem (a b : Int) : vOp ⟨#[37]⟩ a b = vRem a b := rfl
theorem vOp_and (a b : Int) : vOp ⟨#[38]⟩ a b = bits .and .i64 a b := rfl
theorem vOp_or (a b : Int) : vOp ⟨#[124]⟩ a b = bits .or .i64 a b := rfl
theorem vOp_xor (a b : Int) : vOp ⟨#[94]⟩ a b = bits .xor .i64 a b := rfl
theorem vOp_shl (a b : Int) : vOp ⟨#[60, 60]⟩ a b = vShl a b := rfl
theorem vOp_shr (a b : Int) : vOp ⟨#[62, 62]⟩ a b = vShr a b := rfl
theorem vOp_lt (a b : Int) : vOp ⟨#[60]⟩ a b = vBit (a < b) := rfl
theorem vOp_le (a b : Int) : vOp ⟨#[60, 61]⟩ a b = vBit (a ≤ b) := rfl
theorem vOp_eq (a b : Int) : vOp ⟨#[61, 61]⟩ a b = vBit (a = b) := rfl
theorem vOp_ne (a b : Int) : vOp ⟨#[33, 61]⟩ a b = vBit (a ≠ b) := rfl
theorem ret_intV {a b : Int} (h : a = b) : Ending.returned (.int .i64 a) = .returned (.int .i64 b) := by rw [h]
theorem do_add (a b : Int) (w : World) : Calls Tryd.prog 62 #[.string ⟨#[43]⟩, .int .i64 a, .int .i64 b] w fun e w' => e = .returned (.tuple #[.int .i64 (wrap64 (a + b)), .nilIface]) ∧ w' = w := by
 go_enter Tryd.func62, Tryd.ntmps62
 go_wp2
 go_ret2
 exact ⟨rfl, rfl⟩
theorem do_sub (a b : Int) (w : World) : Calls Tryd.prog 62 #[.string ⟨#[45]⟩, .int .i64 a, .int .i64 b] w fun e w' => e = .returned (.tuple #[.int .i64 (wrap64 (a - b)), .nilIface]) ∧ w' = w := by
 go_enter Tryd.func62, Tryd.ntmps62
 go_wp2
 go_ret2
 exact ⟨rfl, rfl⟩
theorem do_mul (a b : Int) (w : World) : Calls Tryd.prog 62 #[.string ⟨#[42]⟩, .int .i64 a, .int .i64 b] w fun e w' => e = .returned (.tuple #[.int .i64 (wrap64 (a * b)), .nilIface]) ∧ w' = w := by
 go_enter Tryd.func62, Tryd.ntmps62
 go_wp2
 go_ret2
 exact ⟨rfl, rfl⟩
theorem do_quo (a b : Int) (w : World) : Calls Tryd.prog 62 #[.string ⟨#[47]⟩, .int .i64 a, .int .i64 b] w fun e w' => e = .returned (.tuple #[.int .i64 (vQuo a b), .nilIface]) ∧ w' = w := by
 by_cases hb : b = 0
 ·have hb' : (b == 0) = true := by simpa using hb
  have e : vQuo a b = 0 := by simp [vQuo, hb]
  rw [e]; clear e hb
  go_enter Tryd.func62, Tryd.ntmps62
  go_wp2
  go_ret2
  exact ⟨rfl, rfl⟩
 ·have e : vQuo a b = wrap64 (a.tdiv b) := by simp [vQuo, hb]
  rw [e]; clear e
  have hb' : (b == 0) = false := by simpa using hb
  go_enter Tryd.func62, Tryd.ntmps62
  go_wp2
  go_ret2
  exact ⟨rfl, rfl⟩
theorem do_rem (a b : Int) (w : World) : Calls Tryd.prog 62 #[.string ⟨#[37]⟩, .int .i64 a, .int .i64 b] w fun e w' => e = .returned (.tuple #[.int .i64 (vRem a b), .nilIface]) ∧ w' = w := by
 by_cases hb : b = 0
 ·have hb' : (b == 0) = true := by simpa using hb
  have e : vRem a b = a := by simp [vRem, hb]
  rw [e]; clear e hb
  go_enter Tryd.func62, Tryd.ntmps62
  go_wp2
  go_ret2
  exact ⟨rfl, rfl⟩
 ·have e : vRem a b = a.tmod b := by simp [vRem, hb]
  rw [e]; clear e
  have hb' : (b == 0) = false := by simpa using hb
  go_enter Tryd.func62, Tryd.ntmps62
  go_wp2
  go_ret2
  exact ⟨rfl, rfl⟩
theorem do_and (a b : Int) (w : World) : Calls Tryd.prog 62 #[.string ⟨#[38]⟩, .int .i64 a, .int .i64 b] w fun e w' => e = .returned (.tuple #[.int .i64 (bits .and .i64 a b), .nilIface]) ∧ w' = w := by
 go_enter Tryd.func62, Tryd.ntmps62
 go_wp2
 go_ret2
 exact ⟨rfl, rfl⟩
theorem do_or (a b : Int) (w : World) : Calls Tryd.prog 62 #[.string ⟨#[124]⟩, .int .i64 a, .int .i64 b] w fun e w' => e = .returned (.tuple #[.int .i64 (bits .or .i64 a b), .nilIface]) ∧ w' = w := by
 go_enter Tryd.func62, Tryd.ntmps62
 go_wp2
 go_ret2
 exact ⟨rfl, rfl⟩
theorem do_xor (a b : Int) (w : World) : Calls Tryd.prog 62 #[.string ⟨#[94]⟩, .int .i64 a, .int .i64 b] w fun e w' => e = .returned (.tuple #[.int .i64 (bits .xor .i64 a b), .nilIface]) ∧ w' = w := by
 go_enter Tryd.func62, Tryd.ntmps62
 go_wp2
 go_ret2
 exact ⟨rfl, rfl⟩
theorem do_shl (a b : Int) (w : World) : Calls Tryd.prog 62 #[.string ⟨#[60, 60]⟩, .int .i64 a, .int .i64 b] w fun e w' => e = .returned (.tuple #[.int .i64 (vShl a b), .nilIface]) ∧ w' = w := by
 have hb := low_six b
 have h0 : 0 ≤ b % 64 := Int.emod_nonneg _ (by decide)
 have h1 : b % 64 < 64 := Int.emod_lt_of_pos _ (by decide)
 have e : vShl a b = wrap64 (a * 2 ^ (b % 64).toNat) := rfl
 rw [e]; clear e
 generalize b % 64 = c at *
 go_enter Tryd.func62, Tryd.ntmps62
 go_wp2
 go_ret2
 exact ⟨rfl, rfl⟩
theorem do_shr (a b : Int) (w : World) : Calls Tryd.prog 62 #[.string ⟨#[62, 62]⟩, .int .i64 a, .int .i64 b] w fun e w' => e = .returned (.tuple #[.int .i64 (vShr a b), .nilIface]) ∧ w' = w := by
 have hb := low_six b
 have h0 : 0 ≤ b % 64 := Int.emod_nonneg _ (by decide)
 have h1 : b % 64 < 64 := Int.emod_lt_of_pos _ (by decide)
 have e : vShr a b = a / 2 ^ (b % 64).toNat := rfl
 rw [e]; clear e
 generalize b % 64 = c at *
 go_enter Tryd.func62, Tryd.ntmps62
 go_wp2
 go_ret2
 exact ⟨rfl, rfl⟩
theorem do_lt (a b : Int) (w : World) : Calls Tryd.prog 62 #[.string ⟨#[60]⟩, .int .i64 a, .int .i64 b] w fun e w' => e = .returned (.tuple #[.int .i64 (vBit (a < b)), .nilIface]) ∧ w' = w := by
 by_cases h : a < b
 ·have e : vBit (a < b) = 1 := by simp [vBit, h]
  rw [e]; clear e
  go_enter Tryd.func62, Tryd.ntmps62
  go_wp2
  go_ret2
  exact ⟨rfl, rfl⟩
 ·have e : vBit (a < b) = 0 := by simp [vBit, h]
  rw [e]; clear e
  go_enter Tryd.func62, Tryd.ntmps62
  go_wp2
  go_ret2
  exact ⟨rfl, rfl⟩
theorem do_le (a b : Int) (w : World) : Calls Tryd.prog 62 #[.string ⟨#[60, 61]⟩, .int .i64 a, .int .i64 b] w fun e w' => e = .returned (.tuple #[.int .i64 (vBit (a ≤ b)), .nilIface]) ∧ w' = w := by
 by_cases h : a ≤ b
 ·have e : vBit (a ≤ b) = 1 := by simp [vBit, h]
  rw [e]; clear e
  go_enter Tryd.func62, Tryd.ntmps62
  go_wp2
  go_ret2
  exact ⟨rfl, rfl⟩
 ·have e : vBit (a ≤ b) = 0 := by simp [vBit, h]
  rw [e]; clear e
  go_enter Tryd.func62, Tryd.ntmps62
  go_wp2
  go_ret2
  exact ⟨rfl, rfl⟩
theorem do_eq (a b : Int) (w : World) : Calls Tryd.prog 62 #[.string ⟨#[61, 61]⟩, .int .i64 a, .int .i64 b] w fun e w' => e = .returned (.tuple #[.int .i64 (vBit (a = b)), .nilIface]) ∧ w' = w := by
 by_cases h : a = b
 ·have e : vBit (a = b) = 1 := by simp [vBit, h]
  rw [e]; clear e
  have h' : (a == b) = true := by simpa using h
  clear h
  go_enter Tryd.func62, Tryd.ntmps62
  go_wp2
  go_ret2
  exact ⟨rfl, rfl⟩
 ·have e : vBit (a = b) = 0 := by simp [vBit, h]
  rw [e]; clear e
  have h' : (a == b) = false := by simpa using h
  clear h
  go_enter Tryd.func62, Tryd.ntmps62
  go_wp2
  go_ret2
  exact ⟨rfl, rfl⟩
theorem do_ne (a b : Int) (w : World) : Calls Tryd.prog 62 #[.string ⟨#[33, 61]⟩, .int .i64 a, .int .i64 b] w fun e w' => e = .returned (.tuple #[.int .i64 (vBit (a ≠ b)), .nilIface]) ∧ w' = w := by
 by_cases h : a = b
 ·have e : vBit (a ≠ b) = 0 := by simp [vBit, h]
  rw [e]; clear e
  have h' : (a != b) = false := by simpa using h
  clear h
  go_enter Tryd.func62, Tryd.ntmps62
  go_wp2
  go_ret2
  exact ⟨rfl, rfl⟩
 ·have e : vBit (a ≠ b) = 1 := by simp [vBit, h]
  rw [e]; clear e
  have h' : (a != b) = true := by simpa using h
  clear h
  go_enter Tryd.func62, Tryd.ntmps62
  go_wp2
  go_ret2
  exact ⟨rfl, rfl⟩
theorem do_any (s : ByteArray) (hs : s ∈ opsTwo) (a b : Int) (w : World) : Calls Tryd.prog 62 #[.string s, .int .i64 a, .int .i64 b] w fun e w' => e = .returned (.tuple #[.int .i64 (vOp s a b), .nilIface]) ∧ w' = w := by
 simp only [opsTwo, List.mem_cons, List.not_mem_nil, or_false] at hs
 rcases hs with rfl | rfl | rfl | rfl | rfl | rfl | rfl | rfl | rfl | rfl | rfl | rfl | rfl | rfl
 ·exact do_add a b w
 ·exact do_sub a b w
 ·exact do_mul a b w
 ·exact do_quo a b w
 ·exact do_rem a b w
 ·exact do_and a b w
 ·exact do_or a b w
 ·exact do_xor a b w
 ·exact do_shl a b w
 ·exact do_shr a b w
 ·exact do_lt a b w
 ·exact do_le a b w
 ·exact do_eq a b w
 ·exact do_ne a b w
theorem one_neg (a : Int) (w : World) : Calls Tryd.prog 61 #[.string ⟨#[45]⟩, .int .i64 a] w fun e w' => e = .returned (.tuple #[.int .i64 (wrap64 (-a)), .nilIface]) ∧ w' = w := by
 go_enter Tryd.func61, Tryd.ntmps61
 go_wp2
 go_ret2
 exact ⟨rfl, rfl⟩
theorem one_not (a : Int) (w : World) : Calls Tryd.prog 61 #[.string ⟨#[33]⟩, .int .i64 a] w fun e w' => e = .returned (.tuple #[.int .i64 (vBit (a = 0)), .nilIface]) ∧ w' = w := by
 by_cases h : a = 0
 ·have e : vBit (a = 0) = 1 := by simp [vBit, h]
  rw [e]; clear e
  have h' : (a == 0) = true := by simpa using h
  clear h
  go_enter Tryd.func61, Tryd.ntmps61
  go_wp2
  go_ret2
  exact ⟨rfl, rfl⟩
 ·have e : vBit (a = 0) = 0 := by simp [vBit, h]
  rw [e]; clear e
  have h' : (a == 0) = false := by simpa using h
  clear h
  go_enter Tryd.func61, Tryd.ntmps61
  go_wp2
  go_ret2
  exact ⟨rfl, rfl⟩
end Go.Proofs.YtimccbilkjjakaaDoor
namespace Go.Proofs.YtimccbilkjjakaaDoor
open Go.RowKit
def oneV (m : List UInt8) (a : Int) : Int := if m = [45] then wrap64 (-a) else vBit (a = 0)
def twoV (m : List UInt8) (a b : Int) : Int := vOp ⟨m.toArray⟩ a b
theorem one_val (m : List UInt8) (hm : m ∈ onesE) (a : Int) (w : World) : Calls Tryd.prog 61 #[.string ⟨m.toArray⟩, .int .i64 a] w fun e w' => e = .returned (.tuple #[.int .i64 (oneV m a), .nilIface]) ∧ w' = w := by
 have : m = [45] ∨ m = [33] := by simpa [onesE] using hm
 rcases this with rfl | rfl
 ·exact one_neg a w
 ·exact one_not a w
theorem two_val (m : List UInt8) (hm : m ∈ twosE) (a b : Int) (w : World) : Calls Tryd.prog 62 #[.string ⟨m.toArray⟩, .int .i64 a, .int .i64 b] w fun e w' => e = .returned (.tuple #[.int .i64 (twoV m a b), .nilIface]) ∧ w' = w := by
 refine do_any ⟨m.toArray⟩ ?_ a b w
 simp only [twosE, List.mem_cons, List.not_mem_nil, or_false] at hm
 rcases hm with rfl | rfl | rfl | rfl | rfl | rfl | rfl | rfl | rfl | rfl | rfl | rfl | rfl | rfl <;> simp [opsTwo]
end Go.Proofs.YtimccbilkjjakaaDoor
