/-
  Our own: texts joined: LexToks, LexRead, LexView.
-/
import Derived.Test.YtcebpmaggnephacDoorLex
import Derived.Lib.Bytealg
import Derived.Lib.Strings
import Derived.Lib.Walk
import Derived.Deep.Draws

/-
  Our own: which token a text starts with: names, numbers, signs.
-/
namespace Go.Proofs.YtcebpmaggnephacDoor
open Go.RowKit

set_option maxRecDepth 100000 in
theorem lite_byte (s : ByteArray) (c : Int) (w : World) :
    Calls Tryd.prog 86 #[.string s, .int .u8 c] w fun e w' => e = .returned (.int .i64 (Lib.indexByte s.data.toList c.toNat.toUInt8)) ∧ w' = w := by
  go_enter Tryd.func86, Tryd.ntmps86
  go_wp2
  rw [run_callFunc_extern Tryd.func87 (by kernel_rfl) (by kernel_rfl) (by kernel_rfl) (e := Extern.BytealgIndexByte.indexByte) (by kernel_rfl), Lib.run_indexByteString]
  simp only [Result.andThen]
  rw [Oper.upon_value]
  go_wp2
  go_ret
  exact ⟨rfl, rfl⟩
theorem index_byte (s : ByteArray) (c : Int) (w : World) :
    Calls Tryd.prog 81 #[.string s, .int .u8 c] w fun e w' => e = .returned (.int .i64 (Lib.indexByte s.data.toList c.toNat.toUInt8)) ∧ w' = w := by
  go_enter Tryd.func81, Tryd.ntmps81
  go_wp2_with (go_at_call 86; refine (lite_byte _ _ _).mono ?_; rintro e w' ⟨rfl, rfl⟩)
  go_ret
  exact ⟨rfl, rfl⟩
theorem index_mem (c : UInt8) : ∀ l : List UInt8, 0 ≤ Lib.indexByte l c ↔ c ∈ l
  | [] => by simp [Lib.indexByte]
  | b :: l => by
    have ih := index_mem c l
    have hg := Lib.indexByte_ge l c
    unfold Lib.indexByte
    by_cases h : b = c
    · simp [h]
    · have h' : (b == c) = false := by simpa using h
      simp only [h', Bool.false_eq_true, if_false, List.mem_cons]
      by_cases hm : c ∈ l
      · have := ih.2 hm
        have hne : (Lib.indexByte l c == -1) = false := by simp; omega
        simp only [hne, Bool.false_eq_true, if_false]
        exact ⟨fun _ => Or.inr hm, fun _ => by omega⟩
      · have hlt : Lib.indexByte l c = -1 := by have : ¬ 0 ≤ Lib.indexByte l c := fun x => hm (ih.1 x); omega
        simp [hlt, hm, Ne.symm h]
theorem ext_toList (s : ByteArray) (a b : Nat) (_h : b ≤ s.size) : (s.extract a b).toList = (s.data.toList.drop a).take (b - a) := by
  rw [ByteArray.toList_eq]
  simp [ByteArray.data_extract, Array.toList_extract, List.extract_eq_take_drop]
theorem data_cons (s : ByteArray) (h0 : 1 ≤ s.size) : s.data.toList = s[0] :: s.data.toList.drop 1 := by
  have h : 0 < s.data.toList.length := by rw [data_len]; omega
  have := List.drop_eq_getElem_cons h
  rw [List.drop_zero] at this
  exact this
theorem sign_more (s : ByteArray) (h1 : 1 < s.size) (h2 : (s.extract 0 2).toList ∈ twosL) : signOf s.data.toList = 2 := by
  rw [ext_toList s 0 2 (by omega)] at h2
  have hl := data_len s
  match s.data.toList, h2, hl with
  | a :: b :: r, h2, _ => simp only [List.drop_zero, Nat.sub_zero, List.take_succ_cons, List.take_zero] at h2; simp [signOf, h2]
  | [a], _, hl => simp at hl; omega
  | [], _, hl => simp at hl; omega
theorem signL_less (l : List UInt8) (c : UInt8) (hc : l.head? = some c) (h2 : l.take 2 ∉ twosL) : signOf l = if c ∈ onesL then 1 else 0 := by
  match l, hc with
  | [a], hc =>
    simp only [List.head?_cons, Option.some.injEq] at hc
    subst hc
    simp [signOf]
  | a :: b :: r, hc =>
    simp only [List.head?_cons, Option.some.injEq] at hc
    subst hc
    simp only [List.take_succ_cons, List.take_zero] at h2
    simp [signOf, h2]
theorem head_at (s : ByteArray) (h0 : 1 ≤ s.size) : s.data.toList.head? = some s[0] := by
  rw [data_cons s h0]; rfl
theorem two_len (l : List UInt8) (h : l ∈ twosL) : l.length = 2 := by
  simp only [twosL, List.mem_cons, List.not_mem_nil, or_false] at h
  rcases h with rfl | rfl | rfl | rfl | rfl <;> rfl
theorem sign_less (s : ByteArray) (h0 : 1 ≤ s.size) (h2 : 1 < s.size → (s.extract 0 2).toList ∉ twosL) : signOf s.data.toList = if s[0] ∈ onesL then 1 else 0 := by
  refine signL_less _ _ (head_at s h0) ?_
  by_cases h1 : 1 < s.size
  · have h2 := h2 h1
    rwa [ext_toList s 0 2 (by omega), List.drop_zero] at h2
  · intro h
    have := two_len _ h
    rw [List.length_take, data_len] at this
    omega
theorem sign_any (s : ByteArray) (h0 : 1 ≤ s.size) (hs : s.size ≤ 5000) (w : World) :
    Calls Tryd.prog 75 #[.string s] w fun e w' => e = .returned (.int .i64 (signOf s.data.toList)) ∧ w' = w := by
  by_cases h1 : 1 < s.size
  · by_cases h2 : (s.extract 0 2).toList ∈ twosL
    · have e := sign_more s h1 h2
      rw [e]
      clear e
      simp only [twosL, List.mem_cons, List.not_mem_nil, or_false] at h2
      rcases h2 with h2 | h2 | h2 | h2 | h2
      all_goals
        go_enter Tryd.func75, Tryd.ntmps75
        go_wp2
        go_ret
        exact ⟨rfl, rfl⟩
    · have e := sign_less s h0 (fun _ => h2)
      simp only [twosL, List.mem_cons, List.not_mem_nil, or_false, not_or] at h2
      obtain ⟨a1, a2, a3, a4, a5⟩ := h2
      have b1 : ((s.extract 0 2).toList == [60, 60]) = false := by simpa using a1
      have b2 : ((s.extract 0 2).toList == [62, 62]) = false := by simpa using a2
      have b3 : ((s.extract 0 2).toList == [60, 61]) = false := by simpa using a3
      have b4 : ((s.extract 0 2).toList == [61, 61]) = false := by simpa using a4
      have b5 : ((s.extract 0 2).toList == [33, 61]) = false := by simpa using a5
      clear a1 a2 a3 a4 a5
      have hi := index_mem s[0] onesL
      by_cases ho : s[0] ∈ onesL
      · rw [if_pos ho] at e
        rw [e]
        have hj := hi.2 ho
        unfold onesL at hj
        clear e ho hi
        go_enter Tryd.func75, Tryd.ntmps75
        go_wp2_with (go_at_call 81; refine (index_byte _ _ _).mono ?_; rintro e w' ⟨rfl, rfl⟩)
        go_ret
        exact ⟨rfl, rfl⟩
      · rw [if_neg ho] at e
        rw [e]
        have hj : ¬ 0 ≤ Lib.indexByte onesL s[0] := fun x => ho (hi.1 x)
        unfold onesL at hj
        clear e ho hi
        go_enter Tryd.func75, Tryd.ntmps75
        go_wp2_with (go_at_call 81; refine (index_byte _ _ _).mono ?_; rintro e w' ⟨rfl, rfl⟩)
        go_ret
        exact ⟨rfl, rfl⟩
  · have e := sign_less s h0 (fun h => absurd h h1)
    have hi := index_mem s[0] onesL
    by_cases ho : s[0] ∈ onesL
    · rw [if_pos ho] at e
      rw [e]
      have hj := hi.2 ho
      unfold onesL at hj
      clear e ho hi
      go_enter Tryd.func75, Tryd.ntmps75
      go_wp2_with (go_at_call 81; refine (index_byte _ _ _).mono ?_; rintro e w' ⟨rfl, rfl⟩)
      go_ret
      exact ⟨rfl, rfl⟩
    · rw [if_neg ho] at e
      rw [e]
      have hj : ¬ 0 ≤ Lib.indexByte onesL s[0] := fun x => ho (hi.1 x)
      unfold onesL at hj
      clear e ho hi
      go_enter Tryd.func75, Tryd.ntmps75
      go_wp2_with (go_at_call 81; refine (index_byte _ _ _).mono ?_; rintro e w' ⟨rfl, rfl⟩)
      go_ret
      exact ⟨rfl, rfl⟩

/-- Is the text's start, as long as a name goes, a word of the language? -/
theorem name_word (s : ByteArray) (n : Nat) (hn : n ≤ s.size) : (s.extract 0 n).toList = s.data.toList.take n := by
  rw [ext_toList s 0 n hn, List.drop_zero, Nat.sub_zero]
theorem name_any (s : ByteArray) (hs : s.size ≤ 5000) (w : World) :
    Calls Tryd.prog 72 #[.string s] w fun e w' => e = .returned (.tuple #[.string ⟨(nameOf s.data.toList).1.toArray⟩, .int .i64 (nameOf s.data.toList).2]) ∧ w' = w := by
  have hsp := spanN_le isLD s.data.toList
  rw [data_len] at hsp
  have hw := name_word s _ hsp
  obtain ⟨n, hn⟩ : ∃ n, n = spanN isLD s.data.toList := ⟨_, rfl⟩
  have hsa : ∀ w, Calls Tryd.prog 60 #[.string s, .func (.func 80) #[] #[]] w fun e w' => e = .returned (.int .i64 n) ∧ w' = w := by rw [hn]; exact span_alnum s hs
  unfold nameOf
  rw [← hn] at hsp hw ⊢
  clear hn
  by_cases h8 : 8 < n
  · rw [if_pos h8]
    clear hw
    go_enter Tryd.func72, Tryd.ntmps72
    go_wp2_with (go_at_call 60; refine (hsa _).mono ?_; rintro e w' ⟨rfl, rfl⟩)
    go_ret2
    exact ⟨rfl, rfl⟩
  · rw [if_neg h8, ← hw]
    clear hw
    by_cases hm : (s.extract 0 n).toList ∈ wordsL
    · have hc : wordsL.contains (s.extract 0 n).toList = true := by simpa using hm
      rw [hc]
      clear hc
      simp only [wordsL, List.mem_cons, List.not_mem_nil, or_false] at hm
      rcases hm with hm | hm | hm | hm | hm | hm | hm
      all_goals
        go_enter Tryd.func72, Tryd.ntmps72
        go_wp2_with (go_at_call 60; refine (hsa _).mono ?_; rintro e w' ⟨rfl, rfl⟩)
        go_ret2
        exact ⟨rfl, rfl⟩
    · have hc : wordsL.contains (s.extract 0 n).toList = false := by simpa using hm
      rw [hc]
      clear hc
      simp only [wordsL, List.mem_cons, List.not_mem_nil, or_false, not_or] at hm
      obtain ⟨a1, a2, a3, a4, a5, a6, a7⟩ := hm
      have b1 : ((s.extract 0 n).toList == [102, 110]) = false := by simpa using a1
      have b2 : ((s.extract 0 n).toList == [118, 97, 114]) = false := by simpa using a2
      have b3 : ((s.extract 0 n).toList == [105, 102]) = false := by simpa using a3
      have b4 : ((s.extract 0 n).toList == [101, 108, 115, 101]) = false := by simpa using a4
      have b5 : ((s.extract 0 n).toList == [119, 104, 105, 108, 101]) = false := by simpa using a5
      have b6 : ((s.extract 0 n).toList == [114, 101, 116, 117, 114, 110]) = false := by simpa using a6
      have b7 : ((s.extract 0 n).toList == [112, 114, 105, 110, 116]) = false := by simpa using a7
      clear a1 a2 a3 a4 a5 a6 a7
      go_enter Tryd.func72, Tryd.ntmps72
      go_wp2_with (go_at_call 60; refine (hsa _).mono ?_; rintro e w' ⟨rfl, rfl⟩)
      go_ret2
      exact ⟨rfl, rfl⟩

theorem follows_iff (l : List UInt8) (n : Nat) : follows (l.drop n) = true ↔ ∃ h : n < l.length, isL l[n] = true := by
  by_cases h : n < l.length
  · rw [List.drop_eq_getElem_cons h]
    exact ⟨fun x => ⟨h, x⟩, fun ⟨_, x⟩ => x⟩
  · rw [List.drop_of_length_le (by omega)]
    simp [follows, h]
/-- What makes a number none. -/
def NumBad (s : ByteArray) (n : Nat) (h0 : 1 ≤ s.size) : Prop := (s[0].toNat = 48 ∧ 1 < n) ∨ (∃ h : n < s.size, isL s[n] = true) ∨ 18 < n
theorem num_eq (s : ByteArray) (n : Nat) (h0 : 1 ≤ s.size) (hn : n = spanN isD s.data.toList) : (NumBad s n h0 → numOf s.data.toList = 0) ∧ (¬ NumBad s n h0 → numOf s.data.toList = n) := by
  have e : ((s.data.toList.head? = some 48 ∧ 1 < n) ∨ follows (s.data.toList.drop n) = true ∨ 18 < n) ↔ NumBad s n h0 := by
    unfold NumBad
    rw [follows_iff, head_at s h0]
    have e1 : (some s[0] = some (48 : UInt8)) ↔ s[0].toNat = 48 := by
      rw [Option.some.injEq]
      constructor
      · intro h; rw [h]; rfl
      · intro h; exact UInt8.toNat_inj.1 (by rw [h]; rfl)
    rw [e1]
    rfl
  unfold numOf
  rw [← hn]
  constructor
  · intro h; rw [if_pos (e.2 h)]
  · intro h; rw [if_neg (fun x => h (e.1 x))]
theorem number_any (s : ByteArray) (h0 : 1 ≤ s.size) (hs : s.size ≤ 5000) (w : World) :
    Calls Tryd.prog 74 #[.string s] w fun e w' => e = .returned (.int .i64 (numOf s.data.toList)) ∧ w' = w := by
  have hsp := spanN_le isD s.data.toList
  rw [data_len] at hsp
  obtain ⟨n, hn⟩ : ∃ n, n = spanN isD s.data.toList := ⟨_, rfl⟩
  have hsa : ∀ w, Calls Tryd.prog 60 #[.string s, .func (.func 73) #[] #[]] w fun e w' => e = .returned (.int .i64 n) ∧ w' = w := by rw [hn]; exact span_digit s hs
  obtain ⟨hbad, hgood⟩ := num_eq s n h0 hn
  rw [← hn] at hsp
  clear hn
  unfold NumBad at hbad hgood
  obtain ⟨v, hv⟩ : ∃ v, v = numOf s.data.toList := ⟨_, rfl⟩
  rw [← hv] at hbad hgood ⊢
  clear hv
  by_cases hC : n < s.size
  · by_cases hD : isL s[n] = true
    · have := hbad (Or.inr (Or.inl ⟨hC, hD⟩))
      subst this
      clear hbad hgood
      by_cases hA : (s[0].toNat : Int) = 48 <;> by_cases hB : 1 < n
      all_goals
        go_enter Tryd.func74, Tryd.ntmps74
        go_wp2_with (first | (go_at_call 60; refine (hsa _).mono ?_; rintro e w' ⟨rfl, rfl⟩) | (go_at_call 71; refine (letter_any _ _).mono ?_; rintro e w' ⟨rfl, rfl⟩))
        all_goals (go_ret; exact ⟨rfl, rfl⟩)
    · have hD' : isL s[n] = false := by simpa using hD
      have HH : Hid ((∃ h : n < s.size, isL s[n] = true) → False) := fun ⟨_, h⟩ => hD h
      have HB : Hid ((s[0].toNat = 48 ∧ 1 < n) ∨ (∃ h : n < s.size, isL s[n] = true) ∨ 18 < n → v = 0) := hbad
      have HG : Hid (¬ ((s[0].toNat = 48 ∧ 1 < n) ∨ (∃ h : n < s.size, isL s[n] = true) ∨ 18 < n) → v = n) := hgood
      clear hbad hgood hD
      by_cases hA : (s[0].toNat : Int) = 48 <;> by_cases hB : 1 < n <;> by_cases hE : 18 < n
      all_goals
        go_enter Tryd.func74, Tryd.ntmps74
        go_wp2_with (first | (go_at_call 60; refine (hsa _).mono ?_; rintro e w' ⟨rfl, rfl⟩) | (go_at_call 71; refine (letter_any _ _).mono ?_; rintro e w' ⟨rfl, rfl⟩))
        all_goals (go_ret; exact ⟨ret_int (by first | (rw [HB.out (by omega)]; rfl) | (rw [HG.out (by rintro (h | h | h) <;> first | omega | exact HH.out h)])), rfl⟩)
  · have HH : Hid ((∃ h : n < s.size, isL s[n] = true) → False) := fun ⟨h, _⟩ => hC h
    have HB : Hid ((s[0].toNat = 48 ∧ 1 < n) ∨ (∃ h : n < s.size, isL s[n] = true) ∨ 18 < n → v = 0) := hbad
    have HG : Hid (¬ ((s[0].toNat = 48 ∧ 1 < n) ∨ (∃ h : n < s.size, isL s[n] = true) ∨ 18 < n) → v = n) := hgood
    clear hbad hgood
    by_cases hA : (s[0].toNat : Int) = 48 <;> by_cases hB : 1 < n <;> by_cases hE : 18 < n
    all_goals
      go_enter Tryd.func74, Tryd.ntmps74
      go_wp2_with (first | (go_at_call 60; refine (hsa _).mono ?_; rintro e w' ⟨rfl, rfl⟩) | (go_at_call 71; refine (letter_any _ _).mono ?_; rintro e w' ⟨rfl, rfl⟩))
      all_goals (go_ret; exact ⟨ret_int (by first | (rw [HB.out (by omega)]; rfl) | (rw [HG.out (by rintro (h | h | h) <;> first | omega | exact HH.out h)])), rfl⟩)
theorem firstOf_head (l : List UInt8) (c : UInt8) (h : l.head? = some c) : firstOf l = if isL c then nameOf l else if isD c then (kNum, numOf l) else (kSign, signOf l) := by
  match l, h with
  | d :: r, h =>
    simp only [List.head?_cons, Option.some.injEq] at h
    subst h
    rfl
theorem first_any (s : ByteArray) (h0 : 1 ≤ s.size) (hs : s.size ≤ 5000) (w : World) :
    Calls Tryd.prog 62 #[.string s] w fun e w' => e = .returned (.tuple #[.string ⟨(firstOf s.data.toList).1.toArray⟩, .int .i64 (firstOf s.data.toList).2]) ∧ w' = w := by
  have e : firstOf s.data.toList = if isL s[0] then nameOf s.data.toList else if isD s[0] then (kNum, numOf s.data.toList) else (kSign, signOf s.data.toList) := by
    exact firstOf_head _ _ (head_at s h0)
  rw [e]
  clear e
  by_cases hL : isL s[0] = true
  · rw [if_pos hL]
    go_enter Tryd.func62, Tryd.ntmps62
    go_wp2_with (first | (go_at_call 71; refine (letter_any _ _).mono ?_; rintro e w' ⟨rfl, rfl⟩) | (go_at_call 72; refine (name_any _ hs _).mono ?_; rintro e w' ⟨rfl, rfl⟩))
    go_ret2
    exact ⟨rfl, rfl⟩
  · have hL : isL s[0] = false := by simpa using hL
    by_cases hD : isD s[0] = true
    · rw [if_neg (by simp [hL]), if_pos hD]
      go_enter Tryd.func62, Tryd.ntmps62
      go_wp2_with (first | (go_at_call 71; refine (letter_any _ _).mono ?_; rintro e w' ⟨rfl, rfl⟩) | (go_at_call 73; refine (digit_any _ _).mono ?_; rintro e w' ⟨rfl, rfl⟩) | (go_at_call 74; refine (number_any _ h0 hs _).mono ?_; rintro e w' ⟨rfl, rfl⟩))
      go_ret2
      exact ⟨rfl, rfl⟩
    · have hD : isD s[0] = false := by simpa using hD
      rw [if_neg (by simp [hL]), if_neg (by simp [hD])]
      go_enter Tryd.func62, Tryd.ntmps62
      go_wp2_with (first | (go_at_call 71; refine (letter_any _ _).mono ?_; rintro e w' ⟨rfl, rfl⟩) | (go_at_call 73; refine (digit_any _ _).mono ?_; rintro e w' ⟨rfl, rfl⟩) | (go_at_call 75; refine (sign_any _ h0 hs _).mono ?_; rintro e w' ⟨rfl, rfl⟩))
      go_ret2
      exact ⟨rfl, rfl⟩
end Go.Proofs.YtcebpmaggnephacDoor

/-
  Our own: lex.Read: which tokens, which error.
-/
namespace Go.Proofs.YtcebpmaggnephacDoor
open Go.RowKit

/-- A token's cells. -/
def tokC (t : Tok) : List Value := [.string ⟨t.kind.toArray⟩, .string ⟨t.text.toArray⟩, .int .i64 t.pos]
/-- The cells of tokens. -/
def toksC (ts : List Tok) : List Value := ts.flatMap tokC
/-- The three errors that package lex tells: where their variables say that they lie. -/
structure LexG (w : World) (a : Nat → Addr) : Prop where
  text : w.cell? ⟨6, 0, none⟩ = some (sentV (a 0))
  bound : w.cell? ⟨3, 0, none⟩ = some (sentV (a 1))
  full : w.cell? ⟨0, 0, none⟩ = some (sentV (a 7))
theorem LexG.below {w w' : World} {a : Nat → Addr} (h : LexG w a) (hb : Below w.heap.size w w') : LexG w' a :=
  ⟨by rw [hb.cell (cell_lt h.text)]; exact h.text, by rw [hb.cell (cell_lt h.bound)]; exact h.bound, by rw [hb.cell (cell_lt h.full)]; exact h.full⟩
theorem tok_info : (Tryd.prog.info? 108).map (fun i => (i.zero, i.size, i.bytes)) = some (some (.agg #[.string ⟨#[]⟩, .string ⟨#[]⟩, .int .i64 0]), 3, 40) := by kernel_rfl
theorem toksC_len (ts : List Tok) : (toksC ts).length = ts.length * 3 := by
  induction ts with
  | nil => rfl
  | cons t r ih => simp only [toksC, List.flatMap_cons, List.length_append, List.length_cons] at ih ⊢; rw [ih]; simp [tokC]; omega
theorem toksC_snoc (ts : List Tok) (t : Tok) : toksC (ts ++ [t]) = toksC ts ++ tokC t := by
  simp [toksC, List.flatMap_append]
theorem ext_data (s : ByteArray) (a b : Nat) (_h : b ≤ s.size) : (s.extract a b).data.toList = (s.data.toList.drop a).take (b - a) := by
  simp [ByteArray.data_extract, Array.toList_extract, List.extract_eq_take_drop]
theorem ext_drop (s : ByteArray) (a : Nat) : (s.extract a s.size).data.toList = s.data.toList.drop a := by
  rw [ext_data s a s.size (Nat.le_refl _), List.take_of_length_le]
  rw [List.length_drop, data_len]; exact Nat.le_refl _
theorem ext_eq (s : ByteArray) (a n : Nat) (h : a + n ≤ s.size) : s.extract a (a + n) = ⟨((s.data.toList.drop a).take n).toArray⟩ := by
  apply bytes_eq
  rw [ext_toList s a (a + n) h, Nat.add_sub_cancel_left, byteArray_toList]
theorem ext_size (s : ByteArray) (a : Nat) (h : a ≤ s.size) : (s.extract a s.size).size = s.size - a := by
  rw [ByteArray.size_extract]; omega
theorem new_cells (w : World) (cs : Array Value) (t : TypeId) (j : Nat) (u : Value) (h : cs.toList[j]? = some u) : (w.alloc (.cells cs t)).cell? ((⟨w.heap.size, 0, none⟩ : Addr).add j) = some u := by
  have e : (⟨w.heap.size, 0, none⟩ : Addr).add j = ⟨w.heap.size, j, none⟩ := by
    unfold Addr.add; split
    · next h => rw [h]
    · simp
  rw [e, World.cell?_alloc_at cs t _ j rfl, ← h]
  simp
theorem tok_one (k tx : List UInt8) (p : Nat) : ∀ u ∈ ([.string ⟨k.toArray⟩, .string ⟨tx.toArray⟩, .int .i64 p] : List Value), u.oneCell' = true := by
  intro u hu
  simp only [List.mem_cons, List.not_mem_nil, or_false] at hu
  rcases hu with rfl | rfl | rfl <;> rfl
theorem read_row {w : World} {B : Nat} {v : Value} {ts : List Tok} {k tx : List UInt8} {p : Nat} (h : w.ownsRow B 108 3 v (ts.length + 1) (toksC ts ++ [.string ⟨k.toArray⟩, .string ⟨tx.toArray⟩, .int .i64 p])) :
    w.ownsRow B 108 3 v (ts ++ [(⟨k, tx, p⟩ : Tok)]).length (toksC (ts ++ [⟨k, tx, p⟩])) := by
  rw [toksC_snoc, List.length_append]
  exact h
theorem read_past {s : ByteArray} {p n m : Nat} (hm : m = spanN isB (s.data.toList.drop (p + n))) : Hid (∀ h : p + n + m < s.size, isB s[p + n + m] = false) := by
  intro h
  have hl : spanN isB (s.data.toList.drop (p + n)) < (s.data.toList.drop (p + n)).length := by rw [List.length_drop, data_len, ← hm]; omega
  have := spanN_out isB _ hl
  rw [List.getElem_drop] at this
  simp only [← hm] at this
  exact this
theorem read_scan {s : ByteArray} {p n m : Nat} {k tx : List UInt8} {ts : List Tok} {c : UInt8} (hC : s.data.toList.drop p = c :: s.data.toList.drop (p + 1)) (hB : isB c = false) (hF : firstOf (s.data.toList.drop p) = (k, n)) (hn : ¬ n = 0)
    (hT : tx = (s.data.toList.drop p).take n) (hm : m = spanN isB (s.data.toList.drop (p + n))) (hS : ∀ us e, Scan p (s.data.toList.drop p) us e → Scan 0 s.data.toList (ts ++ us) e) :
    Hid (∀ us e, Scan (p + n + m) (s.data.toList.drop (p + n + m)) us e → Scan 0 s.data.toList (ts ++ [⟨k, tx, p⟩] ++ us) e) := by
  intro us e h
  have h1 : Scan (p + n) (s.data.toList.drop (p + n)) us e := by
    apply Scan.blanks
    rw [← hm, List.drop_drop]
    exact h
  have h2 := Scan.tokAt (k := k) hC hB hF hn (by rw [List.drop_drop]; exact h1)
  rw [← hT] at h2
  have := hS _ _ h2
  rwa [List.append_assoc]
theorem drewN_below' (B : Nat) (w : World) (m : Nat) : Below B w (w.drewN m) := ⟨rfl, rfl, rfl, Nat.le_refl _, fun _ _ => rfl⟩
/-- What Read leaves. -/
def ReadsTo (a : Nat → Addr) (s : ByteArray) (w : World) (e : Ending) (w' : World) : Prop :=
  ∃ ts er, Scan 0 s.data.toList ts er ∧ Below w.heap.size w w' ∧
    ((er = none ∧ ts.length ≤ 1000 ∧ ∃ v, e = .returned (.tuple #[v, .nilIface]) ∧ w'.ownsRow w.heap.size 108 3 v ts.length (toksC ts)) ∨
     (∃ p b : Nat, er = some p ∧ e = .returned (.tuple #[.slice none 0 0, .iface 70 (.pointer (some ⟨b, 0, none⟩))]) ∧ w.heap.size ≤ b ∧ w'.heap[b]? = some (.cells #[.int .i64 p, sentV (a 0)] 72 (0, 0))) ∨
     (er = none ∧ 1000 < ts.length ∧ e = .returned (.tuple #[.slice none 0 0, sentV (a 7)])))
theorem read_long (a : Nat → Addr) (s : ByteArray) (hs : 4000 < s.size) (hm : s.size ≤ 9223372036854775807) (w : World) (hG : LexG w a) :
    Calls Tryd.prog 50 #[.string s] w fun e w' => e = .returned (.tuple #[.slice none 0 0, sentV (a 1)]) ∧ ∃ m, w' = w.drewN m := by
  have hb := hG.bound
  go_enter Tryd.func50, Tryd.ntmps50
  go_wp2
  go_quiet (fail)
  go_wp2
  go_ret2
  exact ⟨rfl, _, rfl⟩
set_option maxRecDepth 100000 in
set_option maxHeartbeats 2000000 in
theorem read_any (a : Nat → Addr) (s : ByteArray) (hs : s.size ≤ 4000) (w : World) (hG : LexG w a) :
    Calls Tryd.prog 50 #[.string s] w (ReadsTo a s w) := by
  obtain ⟨i0, hi, hz0, hz1, hz2⟩ := info_parts tok_info
  have hsp : spanN isB s.data.toList ≤ s.size := spanN_le isB s.data.toList
  have hs5 : s.size ≤ 5000 := by omega
  go_enter Tryd.func50, Tryd.ntmps50
  go_wp2_with (go_at_call 60; refine (span_blank _ hs5 _).mono ?_; rintro e w' ⟨rfl, hh⟩; replace hh := hh.symm; subst hh)
  go_loopw [4, 5] (fun v t wr => ∃ (p : Nat) (ts : List Tok), p ≤ s.size ∧ t = .int .i64 p ∧ wr.ownsRow w.heap.size 108 3 v ts.length (toksC ts) ∧ Below w.heap.size w wr ∧ ts.length ≤ p ∧ Hid (∀ h : p < s.size, isB s[p] = false) ∧ Hid (∀ us e, Scan p (s.data.toList.drop p) us e → Scan 0 s.data.toList (ts ++ us) e))
    (fun _ t _ => s.size - (intOf t).toNat)
  case atStart =>
    refine ⟨_, [], hsp, rfl, World.ownsRow_nil _ _ _ _, Below.refl _ _, by simp, fun h => ?_, fun us e h => ?_⟩
    · exact spanN_out isB s.data.toList h
    · exact Scan.blanks (by simpa using h)
  case round =>
    obtain ⟨p, ts, hp, rfl, hown, hbel, hlen, HB, HS⟩ := hrel
    by_cases hlt : p < s.size
    · obtain ⟨k, n, hF⟩ : ∃ k n, firstOf (s.data.toList.drop p) = (k, n) := ⟨_, _, rfl⟩
      have hle : n ≤ s.size - p := by have := firstOf_le (s.data.toList.drop p); rw [hF, List.length_drop, data_len] at this; exact this
      have hf : ∀ w, Calls Tryd.prog 62 #[.string (s.extract p s.size)] w fun e w' => e = .returned (.tuple #[.string ⟨k.toArray⟩, .int .i64 n]) ∧ w' = w := by
        have hz := ext_size s p hp
        have := first_any (s.extract p s.size) (by omega) (by omega)
        rw [ext_drop, hF] at this
        exact this
      have hcons : s.data.toList.drop p = s[p] :: s.data.toList.drop (p + 1) := List.drop_eq_getElem_cons (by rw [data_len]; exact hlt)
      have HC : Hid (s.data.toList.drop p = s[p] :: s.data.toList.drop (p + 1)) := hcons
      have HF : Hid (firstOf (s.data.toList.drop p) = (k, n)) := hF
      have hTX : wr.cell? ⟨6, 0, none⟩ = some (sentV (a 0)) := (hbel.cell (cell_lt hG.text)).trans hG.text
      clear hcons hF
      by_cases hn : n = 0
      · subst hn
        go_wp2_with (go_at_call 62; refine (hf _).mono ?_; rintro e w' ⟨rfl, hh⟩; replace hh := hh.symm; subst hh)
        go_region
        go_wp2
        go_ret2
        refine ⟨ts ++ [], some p, HS.out _ _ (Scan.badAt HC.out (HB.out hlt) (by rw [HF.out])), (hbel.alloc hbel.size _).drew, Or.inr (Or.inl ⟨p, wr.heap.size, rfl, rfl, hbel.size, ?_⟩)⟩
        exact heap_alloc_new _ _
      · obtain ⟨m, hm⟩ : ∃ m, m = spanN isB (s.data.toList.drop (p + n)) := ⟨_, rfl⟩
        have hml : m ≤ s.size - (p + n) := by have := spanN_le isB (s.data.toList.drop (p + n)); rw [← hm, List.length_drop, data_len] at this; exact this
        have hg : ∀ w, Calls Tryd.prog 60 #[.string (s.extract (p + n) s.size), .func (.func 61) #[] #[]] w fun e w' => e = .returned (.int .i64 m) ∧ w' = w := by
          have hz := ext_size s (p + n) (by omega)
          have := span_blank (s.extract (p + n) s.size) (by omega)
          rw [ext_drop, ← hm] at this
          exact this
        have HM : Hid (m = spanN isB (s.data.toList.drop (p + n))) := hm
        clear hm
        obtain ⟨tx, htx⟩ : ∃ tx, tx = (s.data.toList.drop p).take n := ⟨_, rfl⟩
        have hsl : ∀ w, (Instr.slice 9 (.string s) (some (.int .i64 p)) (some (.int .i64 ((p : Int) + (n : Int)))) none).run Tryd.prog w = .ok (.string ⟨tx.toArray⟩) w := fun w => by
          rw [run_slice_string (P := Tryd.prog) w 9 s .i64 .i64 p ((p : Int) + (n : Int)) Tryd.underlying9 (by omega) (by omega) (by omega), htx, ← ext_eq s p n (by omega)]
          rfl
        have HT : Hid (tx = (s.data.toList.drop p).take n) := htx
        clear htx
        have hbs := hbel.size
        go_wp2_with (first | (go_at_call 62; refine (hf _).mono ?_; rintro e w' ⟨rfl, hh⟩; replace hh := hh.symm; subst hh) | (go_at_call 60; refine (hg _).mono ?_; rintro e w' ⟨rfl, hh⟩; replace hh := hh.symm; subst hh) | (at_builtin; refine wpList_append_own _ rfl _ _ 104 rfl w.heap.size 108 i0 _ 3 40 Tryd.underlying104 hi hz0 hz1 hz2 rfl (by decide) _ _ _ rfl (hown.alloc _) ⟨wr.heap.size, 0, none⟩ 1 1 [.string ⟨k.toArray⟩, .string ⟨tx.toArray⟩, .int .i64 p] rfl rfl (new_cells wr #[.string ⟨k.toArray⟩, .string ⟨tx.toArray⟩, .int .i64 p] 108) (tok_one k tx p) (by unfold maxLen; omega) (by omega) (by simp; omega) ?_; intro v' w1 hown' hgrow _))
        have ho2 := read_row hown'
        have hb2 : Below w.heap.size w w1 := (hbel.alloc hbs _).grown hgrow (by simp; omega) (fun k hk => (hown.lt k hk).1)
        clear hown' hgrow hsl hf hg
        go_roundw
        case rel => exact ⟨p + n + m, ts ++ [⟨k, tx, p⟩], by omega, by go_num, ho2, hb2, by simp; omega, read_past HM.out, read_scan HC.out (HB.out hlt) HF.out hn HT.out HM.out HS.out⟩
        case measure => simp [intOf]; omega
    · have hpe : p = s.size := by omega
      subst hpe
      have hsc : Scan 0 s.data.toList ts none := by
        have := HS.out [] none (by rw [List.drop_of_length_le (by rw [data_len]; exact Nat.le_refl _)]; exact .nil _)
        rwa [List.append_nil] at this
      have hFL : wr.cell? ⟨0, 0, none⟩ = some (sentV (a 7)) := (hbel.cell (cell_lt hG.full)).trans hG.full
      have HX : Hid (Scan 0 s.data.toList ts none) := hsc
      clear hsc
      by_cases h1 : 1000 < ts.length
      · rcases id hown with ⟨_, ⟨rfl, h0⟩ | ⟨g, cap, cur, rfl, _⟩⟩
        · omega
        · go_wp2
          go_quiet (fail)
          go_wp2
          go_ret2
          exact ⟨ts, none, HX.out, hbel.trans (drewN_below' _ _ _), Or.inr (Or.inr ⟨rfl, h1, rfl⟩)⟩
      · have HO : Hid (wr.ownsRow w.heap.size 108 3 u4 ts.length (toksC ts)) := hown
        rcases id hown with ⟨_, ⟨hv, h0⟩ | ⟨g, cap, cur, hv, _⟩⟩
        · subst hv
          rw [h0] at h1
          clear hown
          go_wp2
          go_ret2
          exact ⟨ts, none, HX.out, hbel, Or.inl ⟨rfl, by omega, _, rfl, HO.out⟩⟩
        · subst hv
          clear hown
          go_wp2
          go_ret2
          exact ⟨ts, none, HX.out, hbel, Or.inl ⟨rfl, by omega, _, rfl, HO.out⟩⟩
end Go.Proofs.YtcebpmaggnephacDoor

/-
  Our own: a slice of tokens, as a walk reads it; the law's own small text.
-/
namespace Go.Proofs.YtcebpmaggnephacDoor
open Go.RowKit

/-- A slice of tokens, as a walk reads it. -/
structure TokView (w : World) (v : Value) (g : Nat) (ts : List Tok) : Prop where
  c0 : ∀ i (h : i < ts.length), w.cell? ⟨g, i * 3, none⟩ = some (.string ⟨ts[i].kind.toArray⟩)
  c1 : ∀ i (h : i < ts.length), w.cell? ⟨g, i * 3 + 1, none⟩ = some (.string ⟨ts[i].text.toArray⟩)
  c2 : ∀ i (h : i < ts.length), w.cell? ⟨g, i * 3 + 2, none⟩ = some (.int .i64 ts[i].pos)
theorem toksC_get (ts : List Tok) : ∀ i (h : i < ts.length), (toksC ts)[i * 3]? = some (.string ⟨ts[i].kind.toArray⟩) ∧ (toksC ts)[i * 3 + 1]? = some (.string ⟨ts[i].text.toArray⟩) ∧ (toksC ts)[i * 3 + 2]? = some (.int .i64 ts[i].pos) := by
  induction ts with
  | nil => intro i h; simp at h
  | cons t r ih =>
    intro i h
    have e : toksC (t :: r) = tokC t ++ toksC r := rfl
    have hl : (tokC t).length = 3 := rfl
    rw [e]
    match i, h with
    | 0, _ => exact ⟨rfl, rfl, rfl⟩
    | i + 1, h =>
      have := ih i (by simpa using h)
      rw [List.getElem?_append_right (by omega), List.getElem?_append_right (by omega), List.getElem?_append_right (by omega), hl]
      simp only [List.getElem_cons_succ]
      rw [show (i + 1) * 3 - 3 = i * 3 from by omega, show (i + 1) * 3 + 1 - 3 = i * 3 + 1 from by omega, show (i + 1) * 3 + 2 - 3 = i * 3 + 2 from by omega]
      exact this
theorem tokView {w : World} {B : Nat} {t : TypeId} {v : Value} {ts : List Tok} (h : w.ownsRow B t 3 v ts.length (toksC ts)) (hn : ts ≠ []) : ∃ g cap, v = .slice (some ⟨g, 0, none⟩) ts.length cap ∧ TokView w v g ts := by
  rcases id h with ⟨_, ⟨_, h0⟩ | ⟨g, cap, cur, rfl, _⟩⟩
  · exact absurd (List.length_eq_zero_iff.1 h0) hn
  · refine ⟨g, cap, rfl, ⟨fun i hi => ?_, fun i hi => ?_, fun i hi => ?_⟩⟩
    · rw [h.cellAt _ (by omega)]; exact (toksC_get ts i hi).1
    · rw [h.cellAt _ (by omega)]; exact (toksC_get ts i hi).2.1
    · rw [h.cellAt _ (by omega)]; exact (toksC_get ts i hi).2.2
theorem tokEmpty {w : World} {B : Nat} {t : TypeId} {v : Value} {n : Nat} {xs : List Value} (h : w.ownsRow B t 3 v n xs) : ∃ a cap, v = .slice a n cap := by
  rcases id h with ⟨_, ⟨rfl, rfl⟩ | ⟨g, cap, cur, rfl, _⟩⟩
  · exact ⟨_, _, rfl⟩
  · exact ⟨_, _, rfl⟩
theorem owns_below {w w' : World} {B n size : Nat} {t : TypeId} {v : Value} {xs : List Value} (h : w.ownsRow B t size v n xs) (hb : Below w.heap.size w w') : w'.ownsRow B t size v n xs := by
  rcases h with ⟨h1, h2 | ⟨g, cap, cur, h3, h4, h5, h6⟩⟩
  · exact ⟨h1, Or.inl h2⟩
  · exact ⟨h1, Or.inr ⟨g, cap, cur, h3, h4, (hb.block g (heap_lt h5)).trans h5, h6⟩⟩
theorem bl_trans {B : Nat} {a b c : World} (h1 : Below B a b) (hB : B ≤ b.heap.size) (h2 : Below b.heap.size b c) : Below B a c := h1.trans (h2.mono hB)
theorem tokAny {w : World} {B : Nat} {t : TypeId} {v : Value} {ts : List Tok} (h : w.ownsRow B t 3 v ts.length (toksC ts)) : ∃ ad cap, v = .slice ad ts.length cap ∧ (ts ≠ [] → ∃ g, ad = some ⟨g, 0, none⟩ ∧ TokView w v g ts) := by
  by_cases h0 : ts = []
  · obtain ⟨a, c, rfl⟩ := tokEmpty h
    exact ⟨a, c, rfl, fun x => absurd h0 x⟩
  · obtain ⟨g, c, rfl, hv⟩ := tokView h h0
    exact ⟨_, c, rfl, fun _ => ⟨g, rfl, hv⟩⟩
theorem TokView.below {w w' : World} {v : Value} {g : Nat} {ts : List Tok} (h : TokView w v g ts) (hb : Below w.heap.size w w') : TokView w' v g ts :=
  ⟨fun i hi => (hb.cell (p := ⟨g, i * 3, none⟩) (cell_lt (h.c0 i hi))).trans (h.c0 i hi), fun i hi => (hb.cell (p := ⟨g, i * 3 + 1, none⟩) (cell_lt (h.c1 i hi))).trans (h.c1 i hi), fun i hi => (hb.cell (p := ⟨g, i * 3 + 2, none⟩) (cell_lt (h.c2 i hi))).trans (h.c2 i hi)⟩
/-- Some words, whatever is read next. -/
abbrev someS : ByteArray := ⟨#[105, 102, 32, 120, 49, 60, 61, 50, 48]⟩
def someT : List Tok := [⟨kWord, [105, 102], 0⟩, ⟨kName, [120, 49], 3⟩, ⟨kSign, [60, 61], 5⟩, ⟨kNum, [50, 48], 7⟩]
theorem some_scan : Scan 0 someS.data.toList someT none := by
  show Scan 0 [105, 102, 32, 120, 49, 60, 61, 50, 48] _ none
  refine Scan.tokAt (k := kWord) (n := 2) rfl rfl rfl (by decide) ?_
  refine Scan.blank rfl ?_
  refine Scan.tokAt (k := kName) (n := 2) rfl rfl rfl (by decide) ?_
  refine Scan.tokAt (k := kSign) (n := 2) rfl rfl rfl (by decide) ?_
  refine Scan.tokAt (k := kNum) (n := 2) rfl rfl rfl (by decide) ?_
  exact .nil _
end Go.Proofs.YtcebpmaggnephacDoor
