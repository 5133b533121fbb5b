/-
  Our own: plain mathematics of words of a text: which token a list of bytes starts with, how a text is read, written and read again. Nothing of the program stands here.
-/
import Derived.WalkKit
namespace Go.Proofs.YtcebpmaggnephabDoor
open Go.RowKit

def isL (b : UInt8) : Bool := decide (97 ≤ b.toNat ∧ b.toNat ≤ 122)
def isD (b : UInt8) : Bool := decide (48 ≤ b.toNat ∧ b.toNat ≤ 57)
def isB (b : UInt8) : Bool := decide (b.toNat = 32 ∨ b.toNat = 9 ∨ b.toNat = 10)
def isLD (b : UInt8) : Bool := isL b || isD b
/-- How many bytes a list starts with that are so. -/
def spanN (p : UInt8 → Bool) (l : List UInt8) : Nat := (l.takeWhile p).length
def kWord : List UInt8 := [119, 111, 114, 100]
def kName : List UInt8 := [110, 97, 109, 101]
def kNum : List UInt8 := [110, 117, 109, 98, 101, 114]
def kSign : List UInt8 := [115, 105, 103, 110]
def wordsL : List (List UInt8) := [[102, 110], [118, 97, 114], [105, 102], [101, 108, 115, 101], [119, 104, 105, 108, 101], [114, 101, 116, 117, 114, 110], [112, 114, 105, 110, 116]]
def twosL : List (List UInt8) := [[60, 60], [62, 62], [60, 61], [61, 61], [33, 61]]
def onesL : List UInt8 := [43, 45, 42, 47, 37, 38, 124, 94, 60, 33, 61, 40, 41, 123, 125, 44, 59]
def nameOf (l : List UInt8) : List UInt8 × Nat :=
  if 8 < spanN isLD l then ([], 0) else if wordsL.contains (l.take (spanN isLD l)) then (kWord, spanN isLD l) else (kName, spanN isLD l)
def follows : List UInt8 → Bool
  | [] => false
  | c :: _ => isL c
def numOf (l : List UInt8) : Nat :=
  if (l.head? = some 48 ∧ 1 < spanN isD l) ∨ follows (l.drop (spanN isD l)) = true ∨ 18 < spanN isD l then 0 else spanN isD l
def signOf : List UInt8 → Nat
  | [] => 0
  | [a] => if onesL.contains a then 1 else 0
  | a :: b :: _ => if twosL.contains [a, b] then 2 else if onesL.contains a then 1 else 0
/-- The first token's kind and size; size 0: none. -/
def firstOf : List UInt8 → List UInt8 × Nat
  | [] => (kSign, 0)
  | c :: r => if isL c then nameOf (c :: r) else if isD c then (kNum, numOf (c :: r)) else (kSign, signOf (c :: r))

theorem spanN_nil (p : UInt8 → Bool) : spanN p [] = 0 := rfl
theorem spanN_cons (p : UInt8 → Bool) (c : UInt8) (l : List UInt8) : spanN p (c :: l) = if p c then spanN p l + 1 else 0 := by
  unfold spanN; rw [List.takeWhile_cons]; by_cases h : p c <;> simp [h]
theorem spanN_le (p : UInt8 → Bool) : ∀ l, spanN p l ≤ l.length
  | [] => Nat.le_refl _
  | c :: l => by rw [spanN_cons]; have := spanN_le p l; by_cases h : p c <;> simp [h]; omega
theorem spanN_stop (p : UInt8 → Bool) {c : UInt8} (h : p c = false) (t : List UInt8) : ∀ l, spanN p (l ++ c :: t) = spanN p l
  | [] => by simp [spanN_cons, h, spanN_nil]
  | d :: l => by rw [List.cons_append, spanN_cons, spanN_cons, spanN_stop p h t l]
theorem spanN_take (p : UInt8 → Bool) : ∀ l, spanN p (l.take (spanN p l)) = spanN p l
  | [] => rfl
  | d :: l => by
    rw [spanN_cons]
    by_cases h : p d
    · simp only [h, if_true, List.take_succ_cons]; rw [spanN_cons]; simp [h, spanN_take p l]
    · simp [h, spanN_nil]
theorem spanN_at (p : UInt8 → Bool) : ∀ (l : List UInt8) (i : Nat) (h : i < l.length), i < spanN p l → p l[i] = true
  | [], i, h, _ => by simp at h
  | c :: l, i, h, hi => by
    rw [spanN_cons] at hi
    by_cases hc : p c
    · match i, h, hi with
      | 0, _, _ => simpa using hc
      | i + 1, h, hi => simp [hc] at hi; simpa using spanN_at p l i (by simpa using h) hi
    · simp [hc] at hi
theorem spanN_out (p : UInt8 → Bool) : ∀ (l : List UInt8) (h : spanN p l < l.length), p l[spanN p l] = false
  | [], h => by simp at h
  | c :: l, h => by
    by_cases hc : p c
    · have e : spanN p (c :: l) = spanN p l + 1 := by rw [spanN_cons]; simp [hc]
      have h' : spanN p l < l.length := by rw [e] at h; simpa using h
      have := spanN_out p l h'
      simp only [e, List.getElem_cons_succ]; exact this
    · have e : spanN p (c :: l) = 0 := by rw [spanN_cons]; simp [hc]
      simp only [e, List.getElem_cons_zero]; simpa using hc
/-- A count that stops at the first byte that is not so is the span. -/
theorem spanN_eq (p : UInt8 → Bool) (l : List UInt8) (n : Nat) (hn : n ≤ l.length) (h1 : ∀ i (h : i < l.length), i < n → p l[i] = true) (h2 : ∀ h : n < l.length, p l[n] = false) : spanN p l = n := by
  rcases Nat.lt_trichotomy (spanN p l) n with h | h | h
  · have hl : spanN p l < l.length := by omega
    have a := spanN_out p l hl
    rw [h1 _ hl h] at a
    cases a
  · exact h
  · have hl := spanN_le p l
    have a := spanN_at p l n (by omega) h
    rw [h2 (by omega)] at a
    cases a

/-- What stands between: a blank or a line end. -/
def Sep (c : UInt8) : Prop := c = 10 ∨ c = 32
theorem sep_ld {c : UInt8} (h : Sep c) : isLD c = false ∧ isD c = false ∧ isL c = false ∧ isB c = true := by
  rcases h with rfl | rfl <;> decide
theorem sep_two {c : UInt8} (h : Sep c) (a : UInt8) : twosL.contains [a, c] = false := by
  rcases h with rfl | rfl <;> simp [twosL]
theorem numOf_le (l : List UInt8) : numOf l ≤ l.length := by
  unfold numOf; have := spanN_le isD l; split <;> omega
theorem signOf_le (l : List UInt8) : signOf l ≤ l.length := by
  match l with
  | [] => simp [signOf]
  | [a] => simp only [signOf]; split <;> simp
  | a :: b :: r => simp only [signOf]; split <;> (try split) <;> simp
theorem nameOf_le (l : List UInt8) : (nameOf l).2 ≤ l.length := by
  unfold nameOf; have := spanN_le isLD l; split <;> (try split) <;> simp <;> omega
theorem firstOf_le (l : List UInt8) : (firstOf l).2 ≤ l.length := by
  match l with
  | [] => simp [firstOf]
  | c :: r =>
    simp only [firstOf]
    split
    · exact nameOf_le _
    · split
      · exact numOf_le _
      · exact signOf_le _
theorem follows_sep {c : UInt8} (h : Sep c) (l t : List UInt8) : follows (l ++ c :: t) = follows l := by
  match l with
  | [] => simp [follows, (sep_ld h).2.2.1]
  | d :: r => rfl
theorem firstOf_append {c : UInt8} (h : Sep c) (l t : List UInt8) (hl : l ≠ []) : firstOf (l ++ c :: t) = firstOf l := by
  match l, hl with
  | d :: r, _ =>
    simp only [List.cons_append, firstOf]
    have e1 : nameOf (d :: (r ++ c :: t)) = nameOf (d :: r) := by
      have e := spanN_stop isLD (sep_ld h).1 t (d :: r)
      rw [List.cons_append] at e
      unfold nameOf
      rw [e]
      have hle := spanN_le isLD (d :: r)
      have : (d :: (r ++ c :: t)).take (spanN isLD (d :: r)) = (d :: r).take (spanN isLD (d :: r)) := by
        rw [← List.cons_append, List.take_append_of_le_length hle]
      rw [this]
    have e2 : numOf (d :: (r ++ c :: t)) = numOf (d :: r) := by
      have e := spanN_stop isD (sep_ld h).2.1 t (d :: r)
      rw [List.cons_append] at e
      unfold numOf
      rw [e]
      have hle := spanN_le isD (d :: r)
      have : (d :: (r ++ c :: t)).drop (spanN isD (d :: r)) = (d :: r).drop (spanN isD (d :: r)) ++ c :: t := by
        rw [← List.cons_append, List.drop_append_of_le_length hle]
      rw [this, follows_sep h]
      rfl
    have e3 : signOf (d :: (r ++ c :: t)) = signOf (d :: r) := by
      match r with
      | [] => simp only [List.nil_append, signOf, sep_two h]; simp
      | b :: r => rfl
    rw [e1, e2, e3]
theorem nameOf_take (l : List UInt8) (hn : (nameOf l).2 ≠ 0) : nameOf (l.take (nameOf l).2) = nameOf l := by
  have e := spanN_take isLD l
  by_cases h8 : 8 < spanN isLD l
  · exact absurd (by unfold nameOf; simp [h8]) hn
  · have h2 : (nameOf l).2 = spanN isLD l := by unfold nameOf; simp only [h8, if_false]; split <;> rfl
    rw [h2]
    unfold nameOf
    rw [e]
    simp only [h8, if_false, List.take_take, Nat.min_self]
theorem numOf_take (l : List UInt8) (hn : numOf l ≠ 0) : numOf (l.take (numOf l)) = numOf l := by
  have e := spanN_take isD l
  have hx : ¬ ((l.head? = some 48 ∧ 1 < spanN isD l) ∨ follows (l.drop (spanN isD l)) = true ∨ 18 < spanN isD l) := by
    intro h; apply hn; unfold numOf; rw [if_pos h]
  have h2 : numOf l = spanN isD l := by unfold numOf; rw [if_neg hx]
  rw [h2]
  have hle := spanN_le isD l
  unfold numOf
  rw [e]
  have hd : (l.take (spanN isD l)).drop (spanN isD l) = [] := by simp
  rw [hd]
  rw [if_neg]
  rintro (⟨h1, h3⟩ | h1 | h1)
  · apply hx; left; refine ⟨?_, h3⟩
    rw [List.head?_take, if_neg (by omega)] at h1
    exact h1
  · simp [follows] at h1
  · exact hx (Or.inr (Or.inr h1))
theorem signOf_take (l : List UInt8) (hn : signOf l ≠ 0) : signOf (l.take (signOf l)) = signOf l := by
  match l with
  | [] => rfl
  | [a] =>
    by_cases h : a ∈ onesL
    · simp [signOf, h]
    · exact absurd (by simp [signOf, h]) hn
  | a :: b :: r =>
    by_cases h : [a, b] ∈ twosL
    · simp [signOf, h]
    · by_cases h1 : a ∈ onesL
      · simp [signOf, h, h1]
      · exact absurd (by simp [signOf, h, h1]) hn
theorem firstOf_take (l : List UInt8) (hn : (firstOf l).2 ≠ 0) : firstOf (l.take (firstOf l).2) = firstOf l := by
  match l with
  | [] => rfl
  | c :: r =>
    have e : ∀ n, n ≠ 0 → ∃ r', (c :: r).take n = c :: r' := fun n hn => by
      match n, hn with
      | n + 1, _ => exact ⟨r.take n, rfl⟩
    obtain ⟨r', hr⟩ := e _ hn
    rw [hr]
    by_cases hL : isL c
    · have h1 : firstOf (c :: r) = nameOf (c :: r) := by simp [firstOf, hL]
      have h2 : firstOf (c :: r') = nameOf (c :: r') := by simp [firstOf, hL]
      rw [h1] at hr hn
      rw [h1, h2, ← hr, nameOf_take _ hn]
    · by_cases hD : isD c
      · have h1 : ∀ x, firstOf (c :: x) = (kNum, numOf (c :: x)) := fun x => by simp [firstOf, hL, hD]
        rw [h1] at hr hn
        rw [h1, h1, ← hr, numOf_take _ hn]
      · have h1 : ∀ x, firstOf (c :: x) = (kSign, signOf (c :: x)) := fun x => by simp [firstOf, hL, hD]
        rw [h1] at hr hn
        rw [h1, h1, ← hr, signOf_take _ hn]

/-- A token: kind, text, its first byte's place. -/
structure Tok where
  kind : List UInt8
  text : List UInt8
  pos : Nat
/-- How a text is read from a place on: its tokens, and the place of the first byte of what is none. -/
inductive Scan : Nat → List UInt8 → List Tok → Option Nat → Prop where
  | nil (p : Nat) : Scan p [] [] none
  | blank {p : Nat} {c : UInt8} {r : List UInt8} {ts : List Tok} {e : Option Nat} : isB c = true → Scan (p + 1) r ts e → Scan p (c :: r) ts e
  | bad {p : Nat} {c : UInt8} {r : List UInt8} : isB c = false → (firstOf (c :: r)).2 = 0 → Scan p (c :: r) [] (some p)
  | tok {p : Nat} {c : UInt8} {r : List UInt8} {ts : List Tok} {e : Option Nat} : isB c = false → (firstOf (c :: r)).2 ≠ 0 → Scan (p + (firstOf (c :: r)).2) ((c :: r).drop (firstOf (c :: r)).2) ts e →
      Scan p (c :: r) (⟨(firstOf (c :: r)).1, (c :: r).take (firstOf (c :: r)).2, p⟩ :: ts) e
theorem Scan.det {p : Nat} {l : List UInt8} {ts : List Tok} {e : Option Nat} (h : Scan p l ts e) : ∀ {ts' e'}, Scan p l ts' e' → ts = ts' ∧ e = e' := by
  induction h with
  | nil => intro ts' e' h'; cases h'; exact ⟨rfl, rfl⟩
  | blank hb _ ih =>
    intro ts' e' h'
    cases h' with
    | blank _ h2 => exact ih h2
    | bad h2 => rw [hb] at h2; cases h2
    | tok h2 => rw [hb] at h2; cases h2
  | bad hb h0 =>
    intro ts' e' h'
    cases h' with
    | blank h2 => rw [hb] at h2; cases h2
    | bad => exact ⟨rfl, rfl⟩
    | tok _ h2 => exact absurd h0 h2
  | tok hb h0 _ ih =>
    intro ts' e' h'
    cases h' with
    | blank h2 => rw [hb] at h2; cases h2
    | bad _ h2 => exact absurd h2 h0
    | tok _ _ h3 => obtain ⟨rfl, rfl⟩ := ih h3; exact ⟨rfl, rfl⟩
theorem Scan.blanks {e : Option Nat} {ts : List Tok} : ∀ {l : List UInt8} {p : Nat}, Scan (p + spanN isB l) (l.drop (spanN isB l)) ts e → Scan p l ts e
  | [], p, h => by simpa [spanN_nil] using h
  | c :: r, p, h => by
    rw [spanN_cons] at h
    by_cases hc : isB c
    · simp only [hc, if_true, List.drop_succ_cons] at h
      refine .blank hc (Scan.blanks (l := r) ?_)
      rw [show p + 1 + spanN isB r = p + (spanN isB r + 1) from by omega]
      exact h
    · simpa [hc] using h
theorem Scan.tokAt {p n : Nat} {c : UInt8} {l r k : List UInt8} {ts : List Tok} {e : Option Nat} (hl : l = c :: r) (hb : isB c = false) (hk : firstOf l = (k, n)) (hn : n ≠ 0) (h : Scan (p + n) (l.drop n) ts e) : Scan p l (⟨k, l.take n, p⟩ :: ts) e := by
  subst hl
  have e1 : k = (firstOf (c :: r)).1 := by rw [hk]
  have e2 : n = (firstOf (c :: r)).2 := by rw [hk]
  rw [e2] at hn h
  rw [e1, e2]
  exact Scan.tok hb hn h
theorem Scan.badAt {p : Nat} {c : UInt8} {l r : List UInt8} (hl : l = c :: r) (hb : isB c = false) (hn : (firstOf l).2 = 0) : Scan p l [] (some p) := by
  subst hl
  exact Scan.bad hb hn
theorem Scan.more {p : Nat} {s : List UInt8} {a : List Tok} {e1 : Option Nat} (h : Scan p s a e1) : ∀ {c : UInt8} {t : List UInt8} {b : List Tok} {e : Option Nat}, Sep c → e1 = none → Scan (p + s.length + 1) t b e → Scan p (s ++ c :: t) (a ++ b) e := by
  induction h with
  | nil p => intro c t b e hs _ ht; exact .blank (sep_ld hs).2.2.2 (by simpa using ht)
  | @blank p c r ts e hb _ ih =>
    intro c' t b e' hs he ht
    refine .blank hb (ih hs he ?_)
    rw [show p + 1 + r.length + 1 = p + (c :: r).length + 1 from by simp; omega]
    exact ht
  | bad => intro c t b e hs he; cases he
  | @tok p c r ts e hb h0 _ ih =>
    intro c' t b e' hs he ht
    have hf := firstOf_append hs (c :: r) t (by simp)
    have hle := firstOf_le (c :: r)
    have ht' : Scan (p + (firstOf (c :: r)).2 + ((c :: r).drop (firstOf (c :: r)).2).length + 1) t b e' := by
      rw [List.length_drop, show p + (firstOf (c :: r)).2 + ((c :: r).length - (firstOf (c :: r)).2) + 1 = p + (c :: r).length + 1 from by omega]
      exact ht
    have hx := ih hs he ht'
    rw [← List.drop_append_of_le_length hle] at hx
    have hy := Scan.tokAt (k := (firstOf (c :: r)).1) (n := (firstOf (c :: r)).2) (l := c :: r ++ c' :: t) (c := c) (r := r ++ c' :: t) rfl hb hf h0 hx
    rw [List.take_append_of_le_length hle] at hy
    exact hy
theorem Scan.worse {p : Nat} {s : List UInt8} {a : List Tok} {e1 : Option Nat} (h : Scan p s a e1) : ∀ {c : UInt8} {t : List UInt8}, Sep c → e1 ≠ none → Scan p (s ++ c :: t) a e1 := by
  induction h with
  | nil p => intro c t _ h; exact absurd rfl h
  | blank hb _ ih => intro c' t hs he; exact .blank hb (ih hs he)
  | @bad p c r hb h0 =>
    intro c' t hs _
    have := firstOf_append hs (c :: r) t (by simp)
    rw [List.cons_append] at this ⊢
    exact .bad hb (by rw [this]; exact h0)
  | @tok p c r ts e hb h0 _ ih =>
    intro c' t hs he
    have hf := firstOf_append hs (c :: r) t (by simp)
    have hle := firstOf_le (c :: r)
    have hx := ih (t := t) hs he
    rw [← List.drop_append_of_le_length hle] at hx
    have hy := Scan.tokAt (k := (firstOf (c :: r)).1) (n := (firstOf (c :: r)).2) (l := c :: r ++ c' :: t) (c := c) (r := r ++ c' :: t) rfl hb hf h0 hx
    rw [List.take_append_of_le_length hle] at hy
    exact hy
def Tok.up (k : Nat) (t : Tok) : Tok := ⟨t.kind, t.text, t.pos + k⟩
theorem Scan.up {p : Nat} {l : List UInt8} {ts : List Tok} {e : Option Nat} (h : Scan p l ts e) (k : Nat) : Scan (p + k) l (ts.map (Tok.up k)) (e.map (· + k)) := by
  induction h with
  | nil p => exact .nil _
  | blank hb _ ih => refine .blank hb ?_; rw [Nat.add_right_comm]; exact ih
  | bad hb h0 => exact .bad hb h0
  | tok hb h0 _ ih => refine .tok hb h0 ?_; rw [Nat.add_right_comm]; exact ih
/-- The tokens stand in the text, in order, from a place on. -/
def Fits (full : List UInt8) : Nat → List Tok → Prop
  | _, [] => True
  | p, t :: r => p ≤ t.pos ∧ t.text ≠ [] ∧ t.pos + t.text.length ≤ full.length ∧ (full.drop t.pos).take t.text.length = t.text ∧ Fits full (t.pos + t.text.length) r
theorem Fits.low {full : List UInt8} {p q : Nat} (h : q ≤ p) : ∀ {ts : List Tok}, Fits full p ts → Fits full q ts
  | [], _ => trivial
  | _ :: _, ⟨a, b⟩ => ⟨by omega, b⟩
theorem Scan.fits {p : Nat} {l : List UInt8} {ts : List Tok} {e : Option Nat} (h : Scan p l ts e) {full : List UInt8} (hl : full.drop p = l) : Fits full p ts := by
  induction h with
  | nil p => trivial
  | @blank p c r ts e hb _ ih =>
    refine (ih ?_).low (Nat.le_succ _)
    rw [← List.drop_drop, hl]; rfl
  | bad => trivial
  | @tok p c r ts e hb h0 _ ih =>
    have hle := firstOf_le (c :: r)
    have hlen : (full.drop p).length = (c :: r).length := by rw [hl]
    rw [List.length_drop] at hlen
    have ht : ((c :: r).take (firstOf (c :: r)).2).length = (firstOf (c :: r)).2 := by rw [List.length_take]; omega
    refine ⟨Nat.le_refl _, ?_, ?_, ?_, ?_⟩
    · intro h
      have h' : (c :: r).take (firstOf (c :: r)).2 = [] := h
      rw [h'] at ht; simp at ht; omega
    · show p + _ ≤ _
      rw [ht]; omega
    · show (full.drop p).take _ = _
      rw [hl, ht]
    · show Fits full (p + _) ts
      rw [ht]
      apply ih
      rw [← List.drop_drop, hl]
/-- Where the token i would end at the earliest. -/
def endAt : Nat → List Tok → Nat → Nat
  | p, _, 0 => p
  | p, [], _ => p
  | _, t :: r, i + 1 => endAt (t.pos + t.text.length) r i
theorem Fits.get {full : List UInt8} : ∀ {ts : List Tok} {p : Nat}, Fits full p ts → ∀ i (h : i < ts.length), endAt p ts i ≤ ts[i].pos ∧ ts[i].text ≠ [] ∧ ts[i].pos + ts[i].text.length ≤ full.length ∧ (full.drop ts[i].pos).take ts[i].text.length = ts[i].text ∧ endAt p ts (i + 1) = ts[i].pos + ts[i].text.length
  | [], _, _, i, h => by simp at h
  | t :: r, p, ⟨a, b, c, d, e⟩, 0, _ => ⟨a, b, c, d, by simp [endAt]⟩
  | t :: r, p, ⟨a, b, c, d, e⟩, i + 1, h => by
    have := Fits.get e i (by simpa using h)
    simpa [endAt] using this
/-- Tokens that are read alike wherever they stand apart. -/
def Tok.Good (t : Tok) : Prop := t.text ≠ [] ∧ firstOf t.text = (t.kind, t.text.length) ∧ ∀ c r, t.text = c :: r → isB c = false
theorem Scan.good {p : Nat} {l : List UInt8} {ts : List Tok} {e : Option Nat} (h : Scan p l ts e) : ∀ t ∈ ts, t.Good := by
  induction h with
  | nil p => intro t h; cases h
  | blank hb _ ih => exact ih
  | bad => intro t h; cases h
  | @tok p c r ts e hb h0 _ ih =>
    intro t ht
    rcases List.mem_cons.1 ht with rfl | ht
    · have hle := firstOf_le (c :: r)
      have hlen : ((c :: r).take (firstOf (c :: r)).2).length = (firstOf (c :: r)).2 := by rw [List.length_take]; omega
      refine ⟨?_, ?_, ?_⟩
      · intro h
        have h' : (c :: r).take (firstOf (c :: r)).2 = [] := h
        rw [h'] at hlen; simp at hlen; omega
      · show firstOf ((c :: r).take _) = (_, ((c :: r).take _).length)
        rw [hlen, firstOf_take _ h0]
      · intro c' r' h
        have h' : (c :: r).take (firstOf (c :: r)).2 = c' :: r' := h
        match hm : (firstOf (c :: r)).2, h0 with
        | n + 1, _ =>
          rw [hm, List.take_succ_cons] at h'
          cases h'
          exact hb
    · exact ih t ht
/-- Texts with a blank between. -/
def joined : List Tok → List UInt8
  | [] => []
  | [t] => t.text
  | t :: u :: r => t.text ++ 32 :: joined (u :: r)
theorem scan_one {t : Tok} (h : t.Good) (p : Nat) : Scan p t.text [⟨t.kind, t.text, p⟩] none := by
  obtain ⟨h1, h2, h3⟩ := h
  match ht : t.text, h1 with
  | c :: r, _ =>
    have hb := h3 c r ht
    rw [ht] at h2
    have h0 : (firstOf (c :: r)).2 ≠ 0 := by rw [h2]; simp
    have := Scan.tok (p := p) (ts := []) (e := none) hb h0 (by rw [h2]; simp only [List.drop_length]; exact .nil _)
    rw [h2] at this
    simpa using this
theorem scan_joined : ∀ (ts : List Tok) (p : Nat), (∀ t ∈ ts, t.Good) → ∃ us, Scan p (joined ts) us none ∧ us.map (fun t => (t.kind, t.text)) = ts.map (fun t => (t.kind, t.text))
  | [], p, _ => ⟨[], .nil _, rfl⟩
  | [t], p, h => ⟨_, scan_one (h t (by simp)) p, rfl⟩
  | t :: u :: r, p, h => by
    obtain ⟨us, h1, h2⟩ := scan_joined (u :: r) (p + t.text.length + 1) (fun x hx => h x (by simp at hx ⊢; right; exact hx))
    refine ⟨_, (scan_one (h t (by simp)) p).more (Or.inr rfl) rfl h1, ?_⟩
    simp only [List.singleton_append, List.map_cons] at h2 ⊢
    rw [h2]
theorem Scan.count {p : Nat} {l : List UInt8} {ts : List Tok} {e : Option Nat} (h : Scan p l ts e) : (ts.map fun t => t.text.length).sum ≤ l.length ∧ ∀ t ∈ ts, 1 ≤ t.text.length := by
  induction h with
  | nil p => exact ⟨by simp, by simp⟩
  | blank hb _ ih => exact ⟨by have := ih.1; simp; omega, ih.2⟩
  | bad => exact ⟨by simp, by simp⟩
  | @tok p c r ts e hb h0 _ ih =>
    have hle := firstOf_le (c :: r)
    have ht : ((c :: r).take (firstOf (c :: r)).2).length = (firstOf (c :: r)).2 := by rw [List.length_take]; omega
    have h1 := ih.1
    rw [List.length_drop] at h1
    refine ⟨?_, ?_⟩
    · rw [List.map_cons, List.sum_cons]
      show ((c :: r).take _).length + _ ≤ _
      rw [ht]; omega
    · intro t hm
      rcases List.mem_cons.1 hm with rfl | hm
      · show 1 ≤ ((c :: r).take _).length
        rw [ht]; omega
      · exact ih.2 t hm
theorem joined_le : ∀ (ts : List Tok), (joined ts).length ≤ (ts.map fun t => t.text.length).sum + ts.length
  | [] => by simp [joined]
  | [t] => by simp [joined]
  | t :: u :: r => by
    have := joined_le (u :: r)
    simp only [joined, List.length_append, List.length_cons, List.map_cons, List.sum_cons] at this ⊢
    omega
theorem len_le_sum : ∀ (ts : List Tok), (∀ t ∈ ts, 1 ≤ t.text.length) → ts.length ≤ (ts.map fun t => t.text.length).sum
  | [], _ => by simp
  | t :: r, h => by
    have := len_le_sum r (fun x hx => h x (by simp [hx]))
    have := h t (by simp)
    simp only [List.length_cons, List.map_cons, List.sum_cons]; omega
theorem Scan.few {p : Nat} {l : List UInt8} {ts : List Tok} {e : Option Nat} (h : Scan p l ts e) : ts.length ≤ l.length ∧ (joined ts).length ≤ 2 * l.length := by
  have a := h.count
  have b := len_le_sum ts a.2
  have c := joined_le ts
  have d := a.1
  constructor <;> omega
theorem Scan.bad_le {p : Nat} {l : List UInt8} {ts : List Tok} {e : Option Nat} (h : Scan p l ts e) : ∀ q, e = some q → p ≤ q ∧ q < p + l.length := by
  induction h with
  | nil p => intro q h; cases h
  | blank hb _ ih => intro q h; have := ih q h; simp; omega
  | bad => intro q h; cases h; simp
  | @tok p c r ts e hb h0 _ ih =>
    intro q h
    have hle := firstOf_le (c :: r)
    have := ih q h
    rw [List.length_drop] at this
    omega
end Go.Proofs.YtcebpmaggnephabDoor
