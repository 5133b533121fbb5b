/-
  Our own: package code: words and texts tell instructions apart: plain mathematics.
-/
import Derived.Test.YtgcmegbfhhebpaaDoorCdText
import Derived.Test.YtgcmegbfhhebpaaDoorCdEnc
import Derived.Test.YtgcmegbfhhebpaaDoorCdDec
namespace Go.Proofs.YtgcmegbfhhebpaaDoor
open Go.RowKit

theorem coIn_ex {k : List UInt8} : ∀ {l : List Co} {n : Nat}, coIn l n k = (0, coN) ∨ ∃ (q : Nat) (h : q < l.length), coIn l n k = (n + q + 1, l[q]) ∧ l[q].kind = k
  | [], _ => Or.inl rfl
  | s :: r, n => by
    rw [coIn]
    by_cases h : s.kind = k
    · rw [if_pos h]
      exact Or.inr ⟨0, by simp, rfl, h⟩
    · rw [if_neg h]
      rcases coIn_ex (k := k) (l := r) (n := n + 1) with h1 | ⟨q, hq, h1, h2⟩
      · exact Or.inl h1
      · exact Or.inr ⟨q + 1, by simpa using hq, by rw [h1, show n + 1 + q + 1 = n + (q + 1) + 1 from by omega]; rfl, h2⟩
theorem coL_back : ∀ q : Fin 29, coNamed (coL[q.val]'q.isLt).kind = (q.val + 1, coL[q.val]'q.isLt) := by decide
theorem named_ex {k : List UInt8} (h : (coNamed k).2.kind ≠ []) : ∃ (q : Nat) (hq : q < coL.length), coNamed k = (q + 1, coL[q]) ∧ coL[q].kind = k := by
  rcases coIn_ex (k := k) (l := coL) (n := 0) with h1 | ⟨q, hq, h1, h2⟩
  · exfalso; apply h; unfold coNamed; rw [h1]; rfl
  · exact ⟨q, hq, by unfold coNamed; rw [h1, Nat.zero_add], h2⟩
/-- Is an instruction well? -/
def wellC (i : Ci) : Prop := coChk (coNamed i.op).2 i = 0
theorem enc_nat {i : Ci} (h : wellC i) : ∃ v : Nat, encR i = v ∧ v < 18446744073709551616 ∧ decR v = i ∧ coChk (coNum (v / 72057594037927936)) (decC v) = 0 := by
  have h' : coChk (coNamed i.op).2 i = 0 := h
  obtain ⟨hk, h1, h2, h3, h4, h5, h6, h7, h8⟩ := chk_ok h'
  obtain ⟨q, hq, e1, e2⟩ := named_ex hk
  have he : encR i = wordC (q + 1) i := by unfold encR; rw [if_pos h', e1]
  rw [e1] at h'
  have hq29 : q < 29 := by rw [coL_len] at hq; exact hq
  obtain ⟨ip, id, ia, ib, ii⟩ := i
  simp only at h1 h2 h3 h4 h5 h6 h7 h8 e2
  unfold wordC at he
  simp only at he
  refine ⟨(encR ⟨ip, id, ia, ib, ii⟩).toNat, ?_⟩
  generalize encR ⟨ip, id, ia, ib, ii⟩ = E at he
  have m1 := Int.emod_nonneg ii (by decide : (4294967296 : Int) ≠ 0)
  have m2 : ii % 4294967296 < 4294967296 := Int.emod_lt_of_pos _ (by decide)
  obtain ⟨v, rfl⟩ := Int.eq_ofNat_of_zero_le (by omega : 0 ≤ E)
  rw [Int.toNat_natCast]
  have hn : v / 72057594037927936 = q + 1 := by omega
  have hd : decC v = ⟨ip, id, ia, ib, ii⟩ := by
    unfold decC
    rw [hn, coNum_at q hq, e2]
    congr 1
    · omega
    · omega
    · omega
    · unfold wrap32; omega
  have hc : coChk (coNum (v / 72057594037927936)) (decC v) = 0 := by rw [hd, hn, coNum_at q hq]; exact h'
  refine ⟨rfl, by omega, ?_, hc⟩
  unfold decR
  rw [if_pos hc, hd]
theorem split_word (v : Nat) : ((v / 72057594037927936 : Nat) : Int) * 72057594037927936 + ((v / 281474976710656 % 256 : Nat) : Int) * 281474976710656 + ((v / 1099511627776 % 256 : Nat) : Int) * 1099511627776 + ((v / 4294967296 % 256 : Nat) : Int) * 4294967296 + (v : Int) % 4294967296 = v := by
  have h1 : v / 72057594037927936 = v / 281474976710656 / 256 := by rw [Nat.div_div_eq_div_mul]
  have h2 : v / 281474976710656 = v / 1099511627776 / 256 := by rw [Nat.div_div_eq_div_mul]
  have h3 : v / 1099511627776 = v / 4294967296 / 256 := by rw [Nat.div_div_eq_div_mul]
  omega
theorem dec_nat {v : Nat} (h : coChk (coNum (v / 72057594037927936)) (decC v) = 0) : wellC (decR v) ∧ encR (decR v) = v := by
  have hk := (chk_ok h).1
  have hD : decR v = decC v := by unfold decR; rw [if_pos h]
  have hn0 : ¬ v / 72057594037927936 < 1 := by
    intro h0; apply hk; unfold coNum; rw [if_pos h0]; rfl
  have hn1 : v / 72057594037927936 - 1 < coL.length := by
    rcases Nat.lt_or_ge (v / 72057594037927936 - 1) coL.length with h1 | h1
    · exact h1
    · exfalso; apply hk; unfold coNum; rw [if_neg hn0, List.getElem?_eq_none h1]; rfl
  obtain ⟨q, hq⟩ : ∃ q, v / 72057594037927936 = q + 1 := ⟨v / 72057594037927936 - 1, by omega⟩
  rw [hq, Nat.add_sub_cancel] at hn1
  have ho : (decC v).op = coL[q].kind := by unfold decC; rw [hq, coNum_at q hn1]
  have hb := coL_back ⟨q, hn1⟩
  have hb' : coNamed (decC v).op = (q + 1, coL[q]) := by rw [ho]; exact hb
  have hw : coChk (coNamed (decC v).op).2 (decC v) = 0 := by rw [hb']; rw [hq, coNum_at q hn1] at h; exact h
  rw [hD]
  refine ⟨hw, ?_⟩
  unfold encR
  rw [if_pos hw, hb']
  clear hb' hw ho hb h hk hD
  have e1 : (wrap32 (v : Int)) % 4294967296 = (v : Int) % 4294967296 := by unfold wrap32; omega
  show ((q + 1 : Nat) : Int) * 72057594037927936 + ((v / 281474976710656 % 256 : Nat) : Int) * 281474976710656 + ((v / 1099511627776 % 256 : Nat) : Int) * 1099511627776 + ((v / 4294967296 % 256 : Nat) : Int) * 4294967296 + wrap32 (v : Int) % 4294967296 = v
  rw [e1, ← hq]
  clear e1 hq
  exact split_word v
end Go.Proofs.YtgcmegbfhhebpaaDoor
