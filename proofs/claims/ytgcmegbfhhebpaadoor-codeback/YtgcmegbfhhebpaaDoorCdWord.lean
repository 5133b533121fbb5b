/-
  Our own: package code: words as mathematics.
-/
import Derived.Test.YtgcmegbfhhebpaaDoorCdTab
import Derived.Laws.Bits64
namespace Go.Proofs.YtgcmegbfhhebpaaDoor
open Go.RowKit

theorem bits_or_u64 (a b : Nat) (ha : a < 18446744073709551616) (hb : b < 18446744073709551616) :
    bits .or .u64 (a : Int) (b : Int) = ((a ||| b : Nat) : Int) := by
  have hx : a ||| b < 2 ^ 64 := Nat.or_lt_two_pow (by omega) (by omega)
  have h1 : (BitVec.ofInt 64 (a : Int)).toNat = a := by
    rw [BitVec.ofInt_natCast, BitVec.toNat_ofNat]; exact Nat.mod_eq_of_lt (by omega)
  have h2 : (BitVec.ofInt 64 (b : Int)).toNat = b := by
    rw [BitVec.ofInt_natCast, BitVec.toNat_ofNat]; exact Nat.mod_eq_of_lt (by omega)
  show IntKind.u64.wrap ((BitVec.ofInt 64 (a : Int) ||| BitVec.ofInt 64 (b : Int)).toNat : Int) = _
  rw [BitVec.toNat_or, h1, h2, IntKind.wrap_u64]
  omega
theorem or_sum (A y k : Nat) (hy : y < 2 ^ k) (h : A * 2 ^ k + y < 18446744073709551616) : bits .or .u64 ((A * 2 ^ k : Nat) : Int) (y : Int) = ((A * 2 ^ k + y : Nat) : Int) := by
  rw [bits_or_u64 _ _ (by omega) (by omega), Nat.mul_comm, Nat.two_pow_add_eq_or_of_lt hy]
/-- The word, as the program puts it together. -/
def encX (num : Nat) (i : Ci) : Int :=
  bits BinOp.or IntKind.u64
    (bits BinOp.or IntKind.u64
      (bits BinOp.or IntKind.u64
        (bits BinOp.or IntKind.u64 (IntKind.u64.wrap (IntKind.u64.wrap num * 72057594037927936))
          (IntKind.u64.wrap (IntKind.u64.wrap i.d * 281474976710656)))
        (IntKind.u64.wrap (IntKind.u64.wrap i.a * 1099511627776)))
      (IntKind.u64.wrap (IntKind.u64.wrap i.b * 4294967296)))
    (i.imm % 4294967296)
def wordC (num : Nat) (i : Ci) : Int := num * 72057594037927936 + i.d * 281474976710656 + i.a * 1099511627776 + i.b * 4294967296 + i.imm % 4294967296
/-- What is well is small. -/
theorem chk_ok {o : Co} {i : Ci} (h : coChk o i = 0) : o.kind ≠ [] ∧ 0 ≤ i.d ∧ i.d ≤ 7 ∧ 0 ≤ i.a ∧ i.a ≤ 7 ∧ 0 ≤ i.b ∧ i.b ≤ 7 ∧ -2147483648 ≤ i.imm ∧ i.imm < 2147483648 := by
  unfold coChk at h
  split at h
  · cases h
  · rename_i hk
    split at h
    · cases h
    · rename_i h1
      split at h
      · cases h
      · rename_i h2
        obtain ⟨ok, sg, od, oa, ob, om, oi⟩ := o
        obtain ⟨ip, id, ia, ib, ii⟩ := i
        refine ⟨hk, ?_⟩
        simp only [bey, ndl, in32, Bool.or_eq_true, Bool.and_eq_true, Bool.not_eq_true', decide_eq_true_eq, Bool.and_eq_false_iff, decide_eq_false_iff_not, not_or, not_and] at h1 h2
        cases od <;> cases oa <;> cases ob <;> cases om <;> simp at h1 h2 ⊢ <;> omega
theorem coIn_le {k : List UInt8} : ∀ {l : List Co} {n : Nat}, (coIn l n k).1 ≤ n + l.length
  | [], n => Nat.zero_le _
  | s :: r, n => by
    rw [coIn]
    split
    · simp only [List.length_cons]; omega
    · have := coIn_le (k := k) (l := r) (n := n + 1)
      simp only [List.length_cons]; omega
theorem coNamed_le (k : List UInt8) : (coNamed k).1 ≤ 29 := by
  have := coIn_le (k := k) (l := coL) (n := 0)
  rw [coL_len] at this
  unfold coNamed; omega
theorem encX_is {num : Nat} {i : Ci} (hn : num ≤ 29) (h : 0 ≤ i.d ∧ i.d ≤ 7 ∧ 0 ≤ i.a ∧ i.a ≤ 7 ∧ 0 ≤ i.b ∧ i.b ≤ 7) : encX num i = wordC num i := by
  obtain ⟨ip, id, ia, ib, ii⟩ := i
  obtain ⟨h1, h2, h3, h4, h5, h6⟩ := h
  simp only at h1 h2 h3 h4 h5 h6
  obtain ⟨d, rfl⟩ := Int.eq_ofNat_of_zero_le h1
  obtain ⟨a, rfl⟩ := Int.eq_ofNat_of_zero_le h3
  obtain ⟨b, rfl⟩ := Int.eq_ofNat_of_zero_le h5
  obtain ⟨m, hm⟩ := Int.eq_ofNat_of_zero_le (Int.emod_nonneg ii (by decide : (4294967296 : Int) ≠ 0))
  have hm2 : ii % 4294967296 < 4294967296 := Int.emod_lt_of_pos _ (by decide)
  unfold encX wordC
  simp only [hm, IntKind.wrap_u64]
  rw [hm] at hm2
  have e0 : ((num : Int) % 18446744073709551616 * 72057594037927936) % 18446744073709551616 = ((num * 2 ^ 8 * 2 ^ 48 : Nat) : Int) := by omega
  have e1 : ((d : Int) % 18446744073709551616 * 281474976710656) % 18446744073709551616 = ((d * 281474976710656 : Nat) : Int) := by omega
  have e2 : ((a : Int) % 18446744073709551616 * 1099511627776) % 18446744073709551616 = ((a * 1099511627776 : Nat) : Int) := by omega
  have e3 : ((b : Int) % 18446744073709551616 * 4294967296) % 18446744073709551616 = ((b * 4294967296 : Nat) : Int) := by omega
  rw [e0, e1, e2, e3, show num * 2 ^ 8 * 2 ^ 48 = num * 2 ^ 56 from by omega, or_sum num (d * 281474976710656) 56 (by omega) (by omega),
    show num * 2 ^ 56 + d * 281474976710656 = (num * 256 + d) * 2 ^ 48 from by omega, or_sum _ (a * 1099511627776) 48 (by omega) (by omega),
    show (num * 256 + d) * 2 ^ 48 + a * 1099511627776 = (num * 65536 + d * 256 + a) * 2 ^ 40 from by omega, or_sum _ (b * 4294967296) 40 (by omega) (by omega),
    show (num * 65536 + d * 256 + a) * 2 ^ 40 + b * 4294967296 = (num * 16777216 + d * 65536 + a * 256 + b) * 2 ^ 32 from by omega, or_sum _ m 32 (by omega) (by omega)]
  omega
end Go.Proofs.YtgcmegbfhhebpaaDoor
