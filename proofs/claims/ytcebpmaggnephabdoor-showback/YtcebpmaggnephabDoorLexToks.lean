/-
  Our own: which token a text starts with: names, numbers, signs.
-/
import Derived.Test.YtcebpmaggnephabDoorLex
import Derived.Lib.Bytealg
import Derived.Lib.Strings
import Derived.Lib.Walk
namespace Go.Proofs.YtcebpmaggnephabDoor
open Go.RowKit

set_option maxRecDepth 100000 in
theorem lite_byte (s : ByteArray) (c : Int) (w : World) :
    Calls Tryd.prog 67 #[.string s, .int .u8 c] w fun e w' => e = .returned (.int .i64 (Lib.indexByte s.data.toList c.toNat.toUInt8)) ∧ w' = w := by
  go_enter Tryd.func67, Tryd.ntmps67
  go_wp2
  rw [run_callFunc_extern Tryd.func78 (by kernel_rfl) (by kernel_rfl) (by kernel_rfl) (e := Extern.BytealgIndexByte.indexByte) (by kernel_rfl), Lib.run_indexByteString]
  simp only [Result.andThen]
  rw [Oper.upon_value]
  go_wp2
  go_ret
  exact ⟨rfl, rfl⟩
theorem index_byte (s : ByteArray) (c : Int) (w : World) :
    Calls Tryd.prog 48 #[.string s, .int .u8 c] w fun e w' => e = .returned (.int .i64 (Lib.indexByte s.data.toList c.toNat.toUInt8)) ∧ w' = w := by
  go_enter Tryd.func48, Tryd.ntmps48
  go_wp2_with (go_at_call 67; refine (lite_byte _ _ _).mono ?_; rintro e w' ⟨rfl, rfl⟩)
  go_ret
  exact ⟨rfl, rfl⟩
theorem index_mem (c : UInt8) : ∀ l : List UInt8, 0 ≤ Lib.indexByte l c ↔ c ∈ l
  | [] => by simp [Lib.indexByte]
  | b :: l => by
    have ih := index_mem c l
    have hg := Lib.indexByte_ge l c
    unfold Lib.indexByte
    by_cases h : b = c
    · simp [h]
    · have h' : (b == c) = false := by simpa using h
      simp only [h', Bool.false_eq_true, if_false, List.mem_cons]
      by_cases hm : c ∈ l
      · have := ih.2 hm
        have hne : (Lib.indexByte l c == -1) = false := by simp; omega
        simp only [hne, Bool.false_eq_true, if_false]
        exact ⟨fun _ => Or.inr hm, fun _ => by omega⟩
      · have hlt : Lib.indexByte l c = -1 := by have : ¬ 0 ≤ Lib.indexByte l c := fun x => hm (ih.1 x); omega
        simp [hlt, hm, Ne.symm h]
theorem ext_toList (s : ByteArray) (a b : Nat) (_h : b ≤ s.size) : (s.extract a b).toList = (s.data.toList.drop a).take (b - a) := by
  rw [ByteArray.toList_eq]
  simp [ByteArray.data_extract, Array.toList_extract, List.extract_eq_take_drop]
theorem data_cons (s : ByteArray) (h0 : 1 ≤ s.size) : s.data.toList = s[0] :: s.data.toList.drop 1 := by
  have h : 0 < s.data.toList.length := by rw [data_len]; omega
  have := List.drop_eq_getElem_cons h
  rw [List.drop_zero] at this
  exact this
theorem sign_more (s : ByteArray) (h1 : 1 < s.size) (h2 : (s.extract 0 2).toList ∈ twosL) : signOf s.data.toList = 2 := by
  rw [ext_toList s 0 2 (by omega)] at h2
  have hl := data_len s
  match s.data.toList, h2, hl with
  | a :: b :: r, h2, _ => simp only [List.drop_zero, Nat.sub_zero, List.take_succ_cons, List.take_zero] at h2; simp [signOf, h2]
  | [a], _, hl => simp at hl; omega
  | [], _, hl => simp at hl; omega
theorem signL_less (l : List UInt8) (c : UInt8) (hc : l.head? = some c) (h2 : l.take 2 ∉ twosL) : signOf l = if c ∈ onesL then 1 else 0 := by
  match l, hc with
  | [a], hc =>
    simp only [List.head?_cons, Option.some.injEq] at hc
    subst hc
    simp [signOf]
  | a :: b :: r, hc =>
    simp only [List.head?_cons, Option.some.injEq] at hc
    subst hc
    simp only [List.take_succ_cons, List.take_zero] at h2
    simp [signOf, h2]
theorem head_at (s : ByteArray) (h0 : 1 ≤ s.size) : s.data.toList.head? = some s[0] := by
  rw [data_cons s h0]; rfl
theorem two_len (l : List UInt8) (h : l ∈ twosL) : l.length = 2 := by
  simp only [twosL, List.mem_cons, List.not_mem_nil, or_false] at h
  rcases h with rfl | rfl | rfl | rfl | rfl <;> rfl
theorem sign_less (s : ByteArray) (h0 : 1 ≤ s.size) (h2 : 1 < s.size → (s.extract 0 2).toList ∉ twosL) : signOf s.data.toList = if s[0] ∈ onesL then 1 else 0 := by
  refine signL_less _ _ (head_at s h0) ?_
  by_cases h1 : 1 < s.size
  · have h2 := h2 h1
    rwa [ext_toList s 0 2 (by omega), List.drop_zero] at h2
  · intro h
    have := two_len _ h
    rw [List.length_take, data_len] at this
    omega
theorem sign_any (s : ByteArray) (h0 : 1 ≤ s.size) (hs : s.size ≤ 5000) (w : World) :
    Calls Tryd.prog 32 #[.string s] w fun e w' => e = .returned (.int .i64 (signOf s.data.toList)) ∧ w' = w := by
  by_cases h1 : 1 < s.size
  · by_cases h2 : (s.extract 0 2).toList ∈ twosL
    · have e := sign_more s h1 h2
      rw [e]
      clear e
      simp only [twosL, List.mem_cons, List.not_mem_nil, or_false] at h2
      rcases h2 with h2 | h2 | h2 | h2 | h2
      all_goals
        go_enter Tryd.func32, Tryd.ntmps32
        go_wp2
        go_ret
        exact ⟨rfl, rfl⟩
    · have e := sign_less s h0 (fun _ => h2)
      simp only [twosL, List.mem_cons, List.not_mem_nil, or_false, not_or] at h2
      obtain ⟨a1, a2, a3, a4, a5⟩ := h2
      have b1 : ((s.extract 0 2).toList == [60, 60]) = false := by simpa using a1
      have b2 : ((s.extract 0 2).toList == [62, 62]) = false := by simpa using a2
      have b3 : ((s.extract 0 2).toList == [60, 61]) = false := by simpa using a3
      have b4 : ((s.extract 0 2).toList == [61, 61]) = false := by simpa using a4
      have b5 : ((s.extract 0 2).toList == [33, 61]) = false := by simpa using a5
      clear a1 a2 a3 a4 a5
      have hi := index_mem s[0] onesL
      by_cases ho : s[0] ∈ onesL
      · rw [if_pos ho] at e
        rw [e]
        have hj := hi.2 ho
        unfold onesL at hj
        clear e ho hi
        go_enter Tryd.func32, Tryd.ntmps32
        go_wp2_with (go_at_call 48; refine (index_byte _ _ _).mono ?_; rintro e w' ⟨rfl, rfl⟩)
        go_ret
        exact ⟨rfl, rfl⟩
      · rw [if_neg ho] at e
        rw [e]
        have hj : ¬ 0 ≤ Lib.indexByte onesL s[0] := fun x => ho (hi.1 x)
        unfold onesL at hj
        clear e ho hi
        go_enter Tryd.func32, Tryd.ntmps32
        go_wp2_with (go_at_call 48; refine (index_byte _ _ _).mono ?_; rintro e w' ⟨rfl, rfl⟩)
        go_ret
        exact ⟨rfl, rfl⟩
  · have e := sign_less s h0 (fun h => absurd h h1)
    have hi := index_mem s[0] onesL
    by_cases ho : s[0] ∈ onesL
    · rw [if_pos ho] at e
      rw [e]
      have hj := hi.2 ho
      unfold onesL at hj
      clear e ho hi
      go_enter Tryd.func32, Tryd.ntmps32
      go_wp2_with (go_at_call 48; refine (index_byte _ _ _).mono ?_; rintro e w' ⟨rfl, rfl⟩)
      go_ret
      exact ⟨rfl, rfl⟩
    · rw [if_neg ho] at e
      rw [e]
      have hj : ¬ 0 ≤ Lib.indexByte onesL s[0] := fun x => ho (hi.1 x)
      unfold onesL at hj
      clear e ho hi
      go_enter Tryd.func32, Tryd.ntmps32
      go_wp2_with (go_at_call 48; refine (index_byte _ _ _).mono ?_; rintro e w' ⟨rfl, rfl⟩)
      go_ret
      exact ⟨rfl, rfl⟩

/-- Is the text's start, as long as a name goes, a word of the language? -/
theorem name_word (s : ByteArray) (n : Nat) (hn : n ≤ s.size) : (s.extract 0 n).toList = s.data.toList.take n := by
  rw [ext_toList s 0 n hn, List.drop_zero, Nat.sub_zero]
theorem name_any (s : ByteArray) (hs : s.size ≤ 5000) (w : World) :
    Calls Tryd.prog 29 #[.string s] w fun e w' => e = .returned (.tuple #[.string ⟨(nameOf s.data.toList).1.toArray⟩, .int .i64 (nameOf s.data.toList).2]) ∧ w' = w := by
  have hsp := spanN_le isLD s.data.toList
  rw [data_len] at hsp
  have hw := name_word s _ hsp
  obtain ⟨n, hn⟩ : ∃ n, n = spanN isLD s.data.toList := ⟨_, rfl⟩
  have hsa : ∀ w, Calls Tryd.prog 16 #[.string s, .func (.func 47) #[] #[]] w fun e w' => e = .returned (.int .i64 n) ∧ w' = w := by rw [hn]; exact span_alnum s hs
  unfold nameOf
  rw [← hn] at hsp hw ⊢
  clear hn
  by_cases h8 : 8 < n
  · rw [if_pos h8]
    clear hw
    go_enter Tryd.func29, Tryd.ntmps29
    go_wp2_with (go_at_call 16; refine (hsa _).mono ?_; rintro e w' ⟨rfl, rfl⟩)
    go_ret2
    exact ⟨rfl, rfl⟩
  · rw [if_neg h8, ← hw]
    clear hw
    by_cases hm : (s.extract 0 n).toList ∈ wordsL
    · have hc : wordsL.contains (s.extract 0 n).toList = true := by simpa using hm
      rw [hc]
      clear hc
      simp only [wordsL, List.mem_cons, List.not_mem_nil, or_false] at hm
      rcases hm with hm | hm | hm | hm | hm | hm | hm
      all_goals
        go_enter Tryd.func29, Tryd.ntmps29
        go_wp2_with (go_at_call 16; refine (hsa _).mono ?_; rintro e w' ⟨rfl, rfl⟩)
        go_ret2
        exact ⟨rfl, rfl⟩
    · have hc : wordsL.contains (s.extract 0 n).toList = false := by simpa using hm
      rw [hc]
      clear hc
      simp only [wordsL, List.mem_cons, List.not_mem_nil, or_false, not_or] at hm
      obtain ⟨a1, a2, a3, a4, a5, a6, a7⟩ := hm
      have b1 : ((s.extract 0 n).toList == [102, 110]) = false := by simpa using a1
      have b2 : ((s.extract 0 n).toList == [118, 97, 114]) = false := by simpa using a2
      have b3 : ((s.extract 0 n).toList == [105, 102]) = false := by simpa using a3
      have b4 : ((s.extract 0 n).toList == [101, 108, 115, 101]) = false := by simpa using a4
      have b5 : ((s.extract 0 n).toList == [119, 104, 105, 108, 101]) = false := by simpa using a5
      have b6 : ((s.extract 0 n).toList == [114, 101, 116, 117, 114, 110]) = false := by simpa using a6
      have b7 : ((s.extract 0 n).toList == [112, 114, 105, 110, 116]) = false := by simpa using a7
      clear a1 a2 a3 a4 a5 a6 a7
      go_enter Tryd.func29, Tryd.ntmps29
      go_wp2_with (go_at_call 16; refine (hsa _).mono ?_; rintro e w' ⟨rfl, rfl⟩)
      go_ret2
      exact ⟨rfl, rfl⟩

theorem follows_iff (l : List UInt8) (n : Nat) : follows (l.drop n) = true ↔ ∃ h : n < l.length, isL l[n] = true := by
  by_cases h : n < l.length
  · rw [List.drop_eq_getElem_cons h]
    exact ⟨fun x => ⟨h, x⟩, fun ⟨_, x⟩ => x⟩
  · rw [List.drop_of_length_le (by omega)]
    simp [follows, h]
/-- What makes a number none. -/
def NumBad (s : ByteArray) (n : Nat) (h0 : 1 ≤ s.size) : Prop := (s[0].toNat = 48 ∧ 1 < n) ∨ (∃ h : n < s.size, isL s[n] = true) ∨ 18 < n
theorem num_eq (s : ByteArray) (n : Nat) (h0 : 1 ≤ s.size) (hn : n = spanN isD s.data.toList) : (NumBad s n h0 → numOf s.data.toList = 0) ∧ (¬ NumBad s n h0 → numOf s.data.toList = n) := by
  have e : ((s.data.toList.head? = some 48 ∧ 1 < n) ∨ follows (s.data.toList.drop n) = true ∨ 18 < n) ↔ NumBad s n h0 := by
    unfold NumBad
    rw [follows_iff, head_at s h0]
    have e1 : (some s[0] = some (48 : UInt8)) ↔ s[0].toNat = 48 := by
      rw [Option.some.injEq]
      constructor
      · intro h; rw [h]; rfl
      · intro h; exact UInt8.toNat_inj.1 (by rw [h]; rfl)
    rw [e1]
    rfl
  unfold numOf
  rw [← hn]
  constructor
  · intro h; rw [if_pos (e.2 h)]
  · intro h; rw [if_neg (fun x => h (e.1 x))]
theorem number_any (s : ByteArray) (h0 : 1 ≤ s.size) (hs : s.size ≤ 5000) (w : World) :
    Calls Tryd.prog 31 #[.string s] w fun e w' => e = .returned (.int .i64 (numOf s.data.toList)) ∧ w' = w := by
  have hsp := spanN_le isD s.data.toList
  rw [data_len] at hsp
  obtain ⟨n, hn⟩ : ∃ n, n = spanN isD s.data.toList := ⟨_, rfl⟩
  have hsa : ∀ w, Calls Tryd.prog 16 #[.string s, .func (.func 30) #[] #[]] w fun e w' => e = .returned (.int .i64 n) ∧ w' = w := by rw [hn]; exact span_digit s hs
  obtain ⟨hbad, hgood⟩ := num_eq s n h0 hn
  rw [← hn] at hsp
  clear hn
  unfold NumBad at hbad hgood
  obtain ⟨v, hv⟩ : ∃ v, v = numOf s.data.toList := ⟨_, rfl⟩
  rw [← hv] at hbad hgood ⊢
  clear hv
  by_cases hC : n < s.size
  · by_cases hD : isL s[n] = true
    · have := hbad (Or.inr (Or.inl ⟨hC, hD⟩))
      subst this
      clear hbad hgood
      by_cases hA : (s[0].toNat : Int) = 48 <;> by_cases hB : 1 < n
      all_goals
        go_enter Tryd.func31, Tryd.ntmps31
        go_wp2_with (first | (go_at_call 16; refine (hsa _).mono ?_; rintro e w' ⟨rfl, rfl⟩) | (go_at_call 28; refine (letter_any _ _).mono ?_; rintro e w' ⟨rfl, rfl⟩))
        all_goals (go_ret; exact ⟨rfl, rfl⟩)
    · have hD' : isL s[n] = false := by simpa using hD
      have HH : Hid ((∃ h : n < s.size, isL s[n] = true) → False) := fun ⟨_, h⟩ => hD h
      have HB : Hid ((s[0].toNat = 48 ∧ 1 < n) ∨ (∃ h : n < s.size, isL s[n] = true) ∨ 18 < n → v = 0) := hbad
      have HG : Hid (¬ ((s[0].toNat = 48 ∧ 1 < n) ∨ (∃ h : n < s.size, isL s[n] = true) ∨ 18 < n) → v = n) := hgood
      clear hbad hgood hD
      by_cases hA : (s[0].toNat : Int) = 48 <;> by_cases hB : 1 < n <;> by_cases hE : 18 < n
      all_goals
        go_enter Tryd.func31, Tryd.ntmps31
        go_wp2_with (first | (go_at_call 16; refine (hsa _).mono ?_; rintro e w' ⟨rfl, rfl⟩) | (go_at_call 28; refine (letter_any _ _).mono ?_; rintro e w' ⟨rfl, rfl⟩))
        all_goals (go_ret; exact ⟨ret_int (by first | (rw [HB.out (by omega)]; rfl) | (rw [HG.out (by rintro (h | h | h) <;> first | omega | exact HH.out h)])), rfl⟩)
  · have HH : Hid ((∃ h : n < s.size, isL s[n] = true) → False) := fun ⟨h, _⟩ => hC h
    have HB : Hid ((s[0].toNat = 48 ∧ 1 < n) ∨ (∃ h : n < s.size, isL s[n] = true) ∨ 18 < n → v = 0) := hbad
    have HG : Hid (¬ ((s[0].toNat = 48 ∧ 1 < n) ∨ (∃ h : n < s.size, isL s[n] = true) ∨ 18 < n) → v = n) := hgood
    clear hbad hgood
    by_cases hA : (s[0].toNat : Int) = 48 <;> by_cases hB : 1 < n <;> by_cases hE : 18 < n
    all_goals
      go_enter Tryd.func31, Tryd.ntmps31
      go_wp2_with (first | (go_at_call 16; refine (hsa _).mono ?_; rintro e w' ⟨rfl, rfl⟩) | (go_at_call 28; refine (letter_any _ _).mono ?_; rintro e w' ⟨rfl, rfl⟩))
      all_goals (go_ret; exact ⟨ret_int (by first | (rw [HB.out (by omega)]; rfl) | (rw [HG.out (by rintro (h | h | h) <;> first | omega | exact HH.out h)])), rfl⟩)
theorem firstOf_head (l : List UInt8) (c : UInt8) (h : l.head? = some c) : firstOf l = if isL c then nameOf l else if isD c then (kNum, numOf l) else (kSign, signOf l) := by
  match l, h with
  | d :: r, h =>
    simp only [List.head?_cons, Option.some.injEq] at h
    subst h
    rfl
theorem first_any (s : ByteArray) (h0 : 1 ≤ s.size) (hs : s.size ≤ 5000) (w : World) :
    Calls Tryd.prog 18 #[.string s] w fun e w' => e = .returned (.tuple #[.string ⟨(firstOf s.data.toList).1.toArray⟩, .int .i64 (firstOf s.data.toList).2]) ∧ w' = w := by
  have e : firstOf s.data.toList = if isL s[0] then nameOf s.data.toList else if isD s[0] then (kNum, numOf s.data.toList) else (kSign, signOf s.data.toList) := by
    exact firstOf_head _ _ (head_at s h0)
  rw [e]
  clear e
  by_cases hL : isL s[0] = true
  · rw [if_pos hL]
    go_enter Tryd.func18, Tryd.ntmps18
    go_wp2_with (first | (go_at_call 28; refine (letter_any _ _).mono ?_; rintro e w' ⟨rfl, rfl⟩) | (go_at_call 29; refine (name_any _ hs _).mono ?_; rintro e w' ⟨rfl, rfl⟩))
    go_ret2
    exact ⟨rfl, rfl⟩
  · have hL : isL s[0] = false := by simpa using hL
    by_cases hD : isD s[0] = true
    · rw [if_neg (by simp [hL]), if_pos hD]
      go_enter Tryd.func18, Tryd.ntmps18
      go_wp2_with (first | (go_at_call 28; refine (letter_any _ _).mono ?_; rintro e w' ⟨rfl, rfl⟩) | (go_at_call 30; refine (digit_any _ _).mono ?_; rintro e w' ⟨rfl, rfl⟩) | (go_at_call 31; refine (number_any _ h0 hs _).mono ?_; rintro e w' ⟨rfl, rfl⟩))
      go_ret2
      exact ⟨rfl, rfl⟩
    · have hD : isD s[0] = false := by simpa using hD
      rw [if_neg (by simp [hL]), if_neg (by simp [hD])]
      go_enter Tryd.func18, Tryd.ntmps18
      go_wp2_with (first | (go_at_call 28; refine (letter_any _ _).mono ?_; rintro e w' ⟨rfl, rfl⟩) | (go_at_call 30; refine (digit_any _ _).mono ?_; rintro e w' ⟨rfl, rfl⟩) | (go_at_call 32; refine (sign_any _ h0 hs _).mono ?_; rintro e w' ⟨rfl, rfl⟩))
      go_ret2
      exact ⟨rfl, rfl⟩
end Go.Proofs.YtcebpmaggnephabDoor
