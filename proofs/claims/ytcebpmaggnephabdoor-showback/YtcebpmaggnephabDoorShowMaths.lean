/-
  Our own: texts joined: ShowMath, ShowExpr, ShowMade, ShowStmt, ShowProg, ShowText, ShowItem, ShowLine.
-/
import Derived.Test.YtcebpmaggnephabDoorTreeMath
import Derived.Test.YtcebpmaggnephabDoorTreeSub

/-
  Our own: plain mathematics of programs as text: the tokens of an expression's tree, and that they make the tree again. Nothing of the program stands here.
-/
namespace Go.Proofs.YtcebpmaggnephabDoor
open Go.RowKit

/-- A token without its place. -/
abbrev TK := List UInt8 × List UInt8
/-- The digits of a number. -/
def digsF : Nat → Nat → List UInt8
  | 0, _ => []
  | f + 1, n => if n < 10 then [UInt8.ofNat (48 + n)] else digsF f (n / 10) ++ [UInt8.ofNat (48 + n % 10)]
def digs (n : Nat) : List UInt8 := digsF 20 n
def isTwoE : Ex → Bool
  | .mk k _ _ _ => decide (k = kTwo)
/-- How much an expression binds. -/
def lvE : Ex → Nat
  | .mk k _ m _ => if k = kTwo then signLevel m else 9
/-- Would it be read otherwise without parentheses? -/
def needsP (e : Ex) (l : Nat) : Bool := decide (lvE e < l)
def parT (b : Bool) (x : List TK) : List TK := if b then (kSign, [40]) :: (x ++ [(kSign, [41])]) else x
def parD (b : Bool) (d : Nat) : Nat := if b then d + 1 else d
def commas : List (List TK) → List TK
  | [] => []
  | [x] => x
  | x :: y :: r => x ++ (kSign, [44]) :: commas (y :: r)
def combT (k : List UInt8) (n : Int) (m : List UInt8) (ks : List Ex) (L : List (List TK)) : List TK :=
  if k = kNumE then [(kNum, digs n.toNat)]
  else if k = kName then [(kName, m)]
  else if k = kCall then (kName, m) :: (kSign, [40]) :: (commas L ++ [(kSign, [41])])
  else if k = kOne then (kSign, m) :: parT (needsP (ks.getD 0 exZ) 9) (L.getD 0 [])
  else parT (needsP (ks.getD 0 exZ) (signLevel m)) (L.getD 0 []) ++ (kSign, m) :: parT (needsP (ks.getD 1 exZ) (signLevel m + 1)) (L.getD 1 [])
mutual
def showE : Ex → List TK
  | .mk k n m ks => combT k n m ks (showL ks)
def showL : List Ex → List (List TK)
  | [] => []
  | e :: r => showE e :: showL r
end
def maxL : List Nat → Nat
  | [] => 0
  | x :: r => max x (maxL r)
def combD (k m : List UInt8) (ks : List Ex) (L : List Nat) : Nat :=
  if k = kNumE then 0
  else if k = kName then 0
  else if k = kCall then 1 + maxL L
  else if k = kOne then 1 + parD (needsP (ks.getD 0 exZ) 9) (L.getD 0 0)
  else max (parD (needsP (ks.getD 0 exZ) (signLevel m)) (L.getD 0 0)) (parD (needsP (ks.getD 1 exZ) (signLevel m + 1)) (L.getD 1 0))
mutual
/-- How deep an expression's text is. -/
def depE : Ex → Nat
  | .mk k _ m ks => combD k m ks (depL ks)
def depL : List Ex → List Nat
  | [] => []
  | e :: r => depE e :: depL r
end
/-- Is a text a name's? -/
def nameG (m : List UInt8) : Prop := m ≠ [] ∧ firstOf m = (kName, m.length)
mutual
/-- Trees as a parser makes them. -/
def PE : Ex → Prop
  | .mk k n m ks => ((k = kNumE ∧ (∃ v : Nat, n = v ∧ v < 1000000000000000000) ∧ m = [] ∧ ks = []) ∨ (k = kName ∧ n = 0 ∧ nameG m ∧ ks = []) ∨ (k = kCall ∧ n = 0 ∧ nameG m) ∨ (k = kOne ∧ n = 0 ∧ (m = [45] ∨ m = [33]) ∧ ∃ a, ks = [a]) ∨ (k = kTwo ∧ n = 0 ∧ 1 ≤ signLevel m ∧ ∃ a b, ks = [a, b])) ∧ PEs ks
def PEs : List Ex → Prop
  | [] => True
  | e :: r => PE e ∧ PEs r
end
theorem signLevel_le (m : List UInt8) : signLevel m ≤ 8 := by
  unfold signLevel
  repeat' split
  all_goals omega
theorem levelT_leS (t : Tok) : levelT t ≤ 8 := by
  unfold levelT
  split
  · exact signLevel_le _
  · omega
/-- Tokens stand there. -/
def AtT (T : List Tok) : Nat → List TK → Prop
  | _, [] => True
  | i, t :: r => ((tk T i).kind = t.1 ∧ (tk T i).text = t.2) ∧ AtT T (i + 1) r
theorem AtT.append {T : List Tok} : ∀ {a b : List TK} {i : Nat}, AtT T i (a ++ b) → AtT T i a ∧ AtT T (i + a.length) b
  | [], b, i, h => ⟨trivial, by simpa using h⟩
  | t :: r, b, i, h => by
    obtain ⟨h1, h2⟩ := h
    obtain ⟨h3, h4⟩ := AtT.append h2
    exact ⟨⟨h1, h3⟩, by rw [List.length_cons, show i + (r.length + 1) = i + 1 + r.length by omega]; exact h4⟩
theorem AtT.get {T : List Tok} {i : Nat} {k x : List UInt8} {r : List TK} (h : AtT T i ((k, x) :: r)) : isT T k x i ∧ AtT T (i + 1) r := ⟨h.1, h.2⟩
theorem kinds_ne : kNumE ≠ kName ∧ kNumE ≠ kCall ∧ kNumE ≠ kOne ∧ kNumE ≠ kTwo ∧ kName ≠ kCall ∧ kName ≠ kOne ∧ kName ≠ kTwo ∧ kCall ≠ kOne ∧ kCall ≠ kTwo ∧ kOne ≠ kTwo := by decide
theorem showE_num (v : Nat) : showE (.mk kNumE v [] []) = [(kNum, digs v)] := by simp [showE, combT]
theorem showE_name (m : List UInt8) : showE (.mk kName 0 m []) = [(kName, m)] := by simp [showE, combT, kName, kNumE]
theorem showE_call (m : List UInt8) (ks : List Ex) : showE (.mk kCall 0 m ks) = (kName, m) :: (kSign, [40]) :: (commas (showL ks) ++ [(kSign, [41])]) := by simp [showE, combT, kName, kNumE, kCall]
theorem showE_one (m : List UInt8) (a : Ex) : showE (.mk kOne 0 m [a]) = (kSign, m) :: parT (needsP a 9) (showE a) := by simp [showE, showL, combT, kName, kNumE, kCall, kOne]
theorem showE_two (m : List UInt8) (a b : Ex) : showE (.mk kTwo 0 m [a, b]) = parT (needsP a (signLevel m)) (showE a) ++ (kSign, m) :: parT (needsP b (signLevel m + 1)) (showE b) := by simp [showE, showL, combT, kName, kNumE, kCall, kOne, kTwo]
theorem depE_num (v : Nat) : depE (.mk kNumE v [] []) = 0 := by simp [depE, combD]
theorem depE_name (m : List UInt8) : depE (.mk kName 0 m []) = 0 := by simp [depE, combD, kName, kNumE]
theorem depE_call (m : List UInt8) (ks : List Ex) : depE (.mk kCall 0 m ks) = 1 + maxL (depL ks) := by simp [depE, combD, kName, kNumE, kCall]
theorem depE_one (m : List UInt8) (a : Ex) : depE (.mk kOne 0 m [a]) = 1 + parD (needsP a 9) (depE a) := by simp [depE, depL, combD, kName, kNumE, kCall, kOne]
theorem depE_two (m : List UInt8) (a b : Ex) : depE (.mk kTwo 0 m [a, b]) = max (parD (needsP a (signLevel m)) (depE a)) (parD (needsP b (signLevel m + 1)) (depE b)) := by simp [depE, depL, combD, kName, kNumE, kCall, kOne, kTwo]
theorem lv_two (m : List UInt8) (n : Int) (ks : List Ex) : lvE (.mk kTwo n m ks) = signLevel m := by simp [lvE]
theorem lv_not {k : List UInt8} (h : k ≠ kTwo) (n : Int) (m : List UInt8) (ks : List Ex) : lvE (.mk k n m ks) = 9 := by simp [lvE, h]
theorem parT_len (b : Bool) (x : List TK) : (parT b x).length = parD b (parD b x.length) := by
  cases b <;> simp [parT, parD]
/-- A tree that a parser makes, one way of five. -/
theorem PE.cases {e : Ex} (h : PE e) : (∃ v : Nat, v < 1000000000000000000 ∧ e = .mk kNumE v [] []) ∨ (∃ m, nameG m ∧ e = .mk kName 0 m []) ∨ (∃ m ks, nameG m ∧ PEs ks ∧ e = .mk kCall 0 m ks) ∨ (∃ m a, (m = [45] ∨ m = [33]) ∧ PE a ∧ e = .mk kOne 0 m [a]) ∨ ∃ m a b, 1 ≤ signLevel m ∧ PE a ∧ PE b ∧ e = .mk kTwo 0 m [a, b] := by
  obtain ⟨k, n, m, ks⟩ := e
  obtain ⟨h1 | h1 | h1 | h1 | h1, h2⟩ := h
  · obtain ⟨rfl, ⟨v, rfl, hv⟩, rfl, rfl⟩ := h1
    exact Or.inl ⟨v, hv, rfl⟩
  · obtain ⟨rfl, rfl, hg, rfl⟩ := h1
    exact Or.inr (Or.inl ⟨m, hg, rfl⟩)
  · obtain ⟨rfl, rfl, hg⟩ := h1
    exact Or.inr (Or.inr (Or.inl ⟨m, ks, hg, h2, rfl⟩))
  · obtain ⟨rfl, rfl, hm, a, rfl⟩ := h1
    exact Or.inr (Or.inr (Or.inr (Or.inl ⟨m, a, hm, h2.1, rfl⟩)))
  · obtain ⟨rfl, rfl, hm, a, b, rfl⟩ := h1
    exact Or.inr (Or.inr (Or.inr (Or.inr ⟨m, a, b, hm, h2.1, h2.2.1, rfl⟩)))
end Go.Proofs.YtcebpmaggnephabDoor

/-
  Our own: plain mathematics of programs as text: the tokens of an expression's tree make the tree again.
-/
namespace Go.Proofs.YtcebpmaggnephabDoor
open Go.RowKit

theorem digit_val (n : Nat) (h : n < 10) : (UInt8.ofNat (48 + n)).toNat - 48 = n := by
  rw [UInt8.toNat_ofNat']; omega
theorem numV_snocS (l : List UInt8) (c : UInt8) : numV (l ++ [c]) = 10 * numV l + (c.toNat - 48) := by simp [numV]
theorem numV_digsF : ∀ (f n : Nat), n < 10 ^ f → numV (digsF f n) = n
  | 0, n, h => by have : n = 0 := by omega
                  subst this; rfl
  | f + 1, n, h => by
    rw [digsF]
    split
    · next h1 => simp only [numV, List.foldl_cons, List.foldl_nil]; rw [digit_val n h1]; omega
    · rw [numV_snocS, numV_digsF f (n / 10) (by rw [Nat.pow_succ] at h; omega), digit_val (n % 10) (by omega)]; omega
theorem numV_digs (n : Nat) (h : n < 1000000000000000000) : numV (digs n) = n := numV_digsF 20 n (by omega)
/-- A token with which an expression may begin. -/
def HeadOk (t : TK) : Prop := t.1 = kNum ∨ t.1 = kName ∨ (t.1 = kSign ∧ (t.2 = [40] ∨ t.2 = [45] ∨ t.2 = [33]))
theorem par_head {b : Bool} {x : List TK} (h : ∃ t r, x = t :: r ∧ HeadOk t) : ∃ t r, parT b x = t :: r ∧ HeadOk t := by
  cases b with
  | false => exact h
  | true => exact ⟨_, _, rfl, Or.inr (Or.inr ⟨rfl, Or.inl rfl⟩)⟩
mutual
def szE : Ex → Nat
  | .mk _ _ _ ks => 1 + szL ks
def szL : List Ex → Nat
  | [] => 0
  | e :: r => szE e + szL r
end
theorem szL_mem {l : List Ex} {e : Ex} (h : e ∈ l) : szE e ≤ szL l := by
  induction l with
  | nil => cases h
  | cons x r ih =>
    rw [szL]
    rcases List.mem_cons.1 h with rfl | h
    · omega
    · have := ih h; omega
theorem PEs.mem : ∀ {l : List Ex}, PEs l → ∀ e ∈ l, PE e
  | [], _, _, h => absurd h (by simp)
  | _ :: _, ⟨h1, h2⟩, x, hx => by
    rcases List.mem_cons.1 hx with rfl | hx
    · exact h1
    · exact h2.mem x hx
theorem show_head : ∀ (z : Nat) (e : Ex), szE e ≤ z → PE e → ∃ t r, showE e = t :: r ∧ HeadOk t
  | 0, .mk _ _ _ _, h, _ => absurd h (by rw [szE]; omega)
  | z + 1, e, hz, h => by
    rcases h.cases with ⟨v, _, rfl⟩ | ⟨m, _, rfl⟩ | ⟨m, ks, _, _, rfl⟩ | ⟨m, a, hm, ha, rfl⟩ | ⟨m, a, b, hm, ha, hb, rfl⟩
    · rw [showE_num]; exact ⟨_, _, rfl, Or.inl rfl⟩
    · rw [showE_name]; exact ⟨_, _, rfl, Or.inr (Or.inl rfl)⟩
    · rw [showE_call]; exact ⟨_, _, rfl, Or.inr (Or.inl rfl)⟩
    · rw [showE_one]
      refine ⟨_, _, rfl, Or.inr (Or.inr ⟨rfl, ?_⟩)⟩
      rcases hm with rfl | rfl
      · exact Or.inr (Or.inl rfl)
      · exact Or.inr (Or.inr rfl)
    · rw [showE_two]
      rw [szE, szL, szL] at hz
      obtain ⟨t, r, e1, e2⟩ := par_head (b := needsP a (signLevel m)) (show_head z a (by omega) ha)
      rw [e1]
      exact ⟨t, _, rfl, e2⟩
theorem head_not_close {T : List Tok} {i : Nat} {x : List TK} (h : AtT T i x) (hx : ∃ t r, x = t :: r ∧ HeadOk t) : ¬ isT T kSign [41] i := by
  obtain ⟨t, r, rfl, ht⟩ := hx
  rintro ⟨h1, h2⟩
  have h3 := h.1.1
  have h4 := h.1.2
  rw [h1] at h3
  rw [h2] at h4
  rcases ht with ht | ht | ⟨_, ht | ht | ht⟩
  · rw [ht] at h3; exact absurd h3 (by decide)
  · rw [ht] at h3; exact absurd h3 (by decide)
  · rw [ht] at h4; exact absurd h4 (by decide)
  · rw [ht] at h4; exact absurd h4 (by decide)
  · rw [ht] at h4; exact absurd h4 (by decide)
theorem lv_ge {e : Ex} (h : PE e) : 1 ≤ lvE e ∧ lvE e ≤ 9 := by
  rcases h.cases with ⟨v, _, rfl⟩ | ⟨m, _, rfl⟩ | ⟨m, ks, _, _, rfl⟩ | ⟨m, a, hm, ha, rfl⟩ | ⟨m, a, b, hm, ha, hb, rfl⟩
  · rw [lv_not (by decide)]; omega
  · rw [lv_not (by decide)]; omega
  · rw [lv_not (by decide)]; omega
  · rw [lv_not (by decide)]; omega
  · rw [lv_two]; have := signLevel_le m; omega
theorem loop_stop {T : List Tok} {n d l : Nat} {e : Ex} {j : Nat} (hn : 0 < n) (h : levelT (tk T j) < l) : loopT T n d l e j = .ok e j := by
  obtain ⟨n, rfl⟩ : ∃ n', n = n' + 1 := ⟨n - 1, by omega⟩
  rw [loopT, if_pos h]
theorem level_sign {T : List Tok} {x : List UInt8} {j : Nat} (h : isT T kSign x j) : levelT (tk T j) = signLevel x := by
  unfold levelT; rw [if_pos h.1, h.2]
def NextOk (T : List Tok) (j : Nat) : Prop := ¬ isT T kSign [40] j
theorem next_sign {T : List Tok} {x : List UInt8} {j : Nat} (h : isT T kSign x j) (hx : x ≠ [40]) : NextOk T j := fun h' => hx (h.2.symm.trans h'.2)
/-- A tree that stands in parentheses, or is no op of two. -/
def SBack (T : List Tok) (e : Ex) : Prop := ∀ n d i, AtT T i (parT (needsP e 9) (showE e)) → NextOk T (i + (parT (needsP e 9) (showE e)).length) → d + parD (needsP e 9) (depE e) ≤ 12 → 4 * (parT (needsP e 9) (showE e)).length + 3 ≤ n → singleT T n d i = .ok e (i + (parT (needsP e 9) (showE e)).length)
/-- A tree that binds enough. -/
def XBack (T : List Tok) (e : Ex) : Prop := ∀ n d l i, 1 ≤ l → l ≤ lvE e → AtT T i (showE e) → NextOk T (i + (showE e).length) → levelT (tk T (i + (showE e).length)) ≤ lvE e → d + depE e ≤ 12 → 4 * (showE e).length + 4 ≤ n → ∃ n', exprT T n d l i = loopT T n' d l e (i + (showE e).length) ∧ n ≤ n' + 4 * (showE e).length
/-- Where ops of two of at least a level are read. -/
theorem kid_back {T : List Tok} {e : Ex} (hp : PE e) (hS : SBack T e) (hX : XBack T e) (n d l i : Nat) (h1 : 1 ≤ l) (h9 : l ≤ 9) (hA : AtT T i (parT (needsP e l) (showE e))) (hN : NextOk T (i + (parT (needsP e l) (showE e)).length)) (hL : needsP e l = false → levelT (tk T (i + (parT (needsP e l) (showE e)).length)) ≤ lvE e) (hD : d + parD (needsP e l) (depE e) ≤ 12) (hn : 4 * (parT (needsP e l) (showE e)).length + 4 ≤ n) (l' : Nat) (hl' : 1 ≤ l') (hle : l' ≤ l) :
    ∃ n', exprT T n d l' i = loopT T n' d l' e (i + (parT (needsP e l) (showE e)).length) ∧ n ≤ n' + 4 * (parT (needsP e l) (showE e)).length := by
  have hlv := lv_ge hp
  by_cases hb : needsP e l = true
  · have h9' : needsP e 9 = true := by
      unfold needsP at hb ⊢
      have := of_decide_eq_true hb
      exact decide_eq_true (by omega)
    have hS' := hS
    unfold SBack at hS'
    rw [h9'] at hS'
    rw [hb] at hA hN hD hn ⊢
    obtain ⟨n, rfl⟩ : ∃ k, n = k + 1 := ⟨n - 1, by omega⟩
    refine ⟨n, ?_, ?_⟩
    · rw [exprT, hS' n d i hA hN hD (by omega), Rs.bind_ok]
    · have : 1 ≤ (parT true (showE e)).length := by simp [parT]
      omega
  · have hb' : needsP e l = false := by simpa using hb
    have hge : l ≤ lvE e := by
      unfold needsP at hb'
      have := of_decide_eq_false hb'
      omega
    have hL' := hL hb'
    rw [hb'] at hA hN hD hn hL' ⊢
    exact hX n d l' i hl' (by omega) hA hN hL' hD hn
theorem showL_len (ks : List Ex) : (showL ks).length = ks.length := by
  induction ks with
  | nil => rfl
  | cons e r ih => rw [showL, List.length_cons, List.length_cons, ih]
/-- Arguments. -/
theorem more_back {T : List Tok} : ∀ (ks : List Ex), ks ≠ [] → (∀ e ∈ ks, PE e ∧ XBack T e) → ∀ (n d : Nat) (es : List Ex) (i : Nat), AtT T i (commas (showL ks) ++ [(kSign, [41])]) → d + maxL (depL ks) ≤ 12 → 4 * (commas (showL ks)).length + 5 ≤ n → moreT T n d es i = .ok (es ++ ks) (i + (commas (showL ks)).length + 1)
  | [], h, _, _, _, _, _, _, _, _ => absurd rfl h
  | [e], _, hk, n, d, es, i, hA, hD, hn => by
    obtain ⟨hp, hX⟩ := hk e (by simp)
    simp only [showL, commas] at hA hn ⊢
    obtain ⟨h1, h2⟩ := hA.append
    have hc : isT T kSign [41] (i + (showE e).length) := h2.get.1
    obtain ⟨n, rfl⟩ : ∃ k, n = k + 1 := ⟨n - 1, by omega⟩
    have hlv := lv_ge hp
    have hlc : levelT (tk T (i + (showE e).length)) = 0 := by rw [level_sign hc]; decide
    simp only [depL, maxL] at hD
    obtain ⟨n', e1, e2⟩ := hX n d 1 i (by omega) (by omega) h1 (next_sign hc (by decide)) (by omega) (by omega) (by omega)
    rw [moreT, e1, loop_stop (by omega) (by omega), Rs.bind_ok, if_neg (fun h => by have := hc.2.symm.trans h.2; exact absurd this (by decide))]
    unfold needT
    rw [if_pos hc]
    rfl
  | e :: f :: r, _, hk, n, d, es, i, hA, hD, hn => by
    obtain ⟨hp, hX⟩ := hk e (by simp)
    rw [showL, showL, commas] at hA hn ⊢
    rw [List.append_assoc] at hA
    obtain ⟨h1, h2⟩ := hA.append
    rw [List.cons_append] at h2
    obtain ⟨hc, h3⟩ := h2.get
    obtain ⟨n, rfl⟩ : ∃ k, n = k + 1 := ⟨n - 1, by omega⟩
    have hlv := lv_ge hp
    have hlc : levelT (tk T (i + (showE e).length)) = 0 := by rw [level_sign hc]; decide
    rw [depL, maxL] at hD
    rw [List.length_append, List.length_cons] at hn ⊢
    obtain ⟨n', e1, e2⟩ := hX n d 1 i (by omega) (by omega) h1 (next_sign hc (by decide)) (by omega) (by omega) (by omega)
    rw [moreT, e1, loop_stop (by omega) (by omega), Rs.bind_ok, if_pos hc]
    have h3' : AtT T (i + (showE e).length + 1) (commas (showL (f :: r)) ++ [(kSign, [41])]) := h3
    rw [more_back (f :: r) (by simp) (fun x hx => hk x (List.mem_cons_of_mem _ hx)) n d (es ++ [e]) _ h3' (by omega) (by rw [showL]; omega)]
    rw [List.append_assoc]
    congr 1
    rw [showL]
    omega
theorem maxL_nil : maxL [] = 0 := rfl
theorem back_expr (T : List Tok) : ∀ (z : Nat) (e : Ex), szE e ≤ z → PE e → SBack T e ∧ XBack T e
  | 0, .mk _ _ _ _, h, _ => absurd h (by rw [szE]; omega)
  | z + 1, e, hz, hp => by
    -- what is no op of two
    have single : lvE e = 9 → (∀ n d i, AtT T i (showE e) → NextOk T (i + (showE e).length) → d + depE e ≤ 12 → 4 * (showE e).length + 3 ≤ n → singleT T n d i = .ok e (i + (showE e).length)) → SBack T e ∧ XBack T e := fun hlv hs => by
      have hb : needsP e 9 = false := by unfold needsP; rw [hlv]; decide
      have hlen : 1 ≤ (showE e).length := by
        obtain ⟨t, r, e1, _⟩ := show_head _ e (Nat.le_refl _) hp
        rw [e1]; simp
      refine ⟨fun n d i hA hN hD hn => ?_, fun n d l i h1 hl hA hN hL hD hn => ?_⟩
      · rw [hb] at hA hN hD hn ⊢
        exact hs n d i hA hN hD hn
      · obtain ⟨n, rfl⟩ : ∃ k, n = k + 1 := ⟨n - 1, by omega⟩
        refine ⟨n, ?_, by omega⟩
        rw [exprT, hs n d i hA hN hD (by omega), Rs.bind_ok]
    rcases hp.cases with ⟨v, hv, rfl⟩ | ⟨m, hm, rfl⟩ | ⟨m, ks, hm, hks, rfl⟩ | ⟨m, a, hm, ha, rfl⟩ | ⟨m, a, b, hm, ha, hb, rfl⟩
    · refine single (lv_not (by decide) _ _ _) fun n d i hA hN hD hn => ?_
      rw [showE_num] at hA hn ⊢
      obtain ⟨n, rfl⟩ : ∃ k, n = k + 1 := ⟨n - 1, by omega⟩
      have h1 := hA.get.1
      rw [singleT, if_pos h1.1, h1.2, numV_digs v hv]
      rfl
    · refine single (lv_not (by decide) _ _ _) fun n d i hA hN hD hn => ?_
      rw [showE_name] at hA hN hn ⊢
      obtain ⟨n, rfl⟩ : ∃ k, n = k + 1 := ⟨n - 1, by omega⟩
      have h1 := hA.get.1
      rw [singleT, if_neg (by rw [h1.1]; decide), if_pos h1.1, if_neg (show ¬ isT T kSign [40] (i + 1) from hN), h1.2]
      rfl
    · refine single (lv_not (by decide) _ _ _) fun n d i hA hN hD hn => ?_
      rw [showE_call] at hA hn ⊢
      rw [depE_call] at hD
      obtain ⟨n, rfl⟩ : ∃ k, n = k + 1 := ⟨n - 1, by omega⟩
      obtain ⟨h1, h2⟩ := hA.get
      obtain ⟨h3, h4⟩ := h2.get
      simp only [List.length_cons, List.length_append, List.length_nil] at hn ⊢
      rw [szE] at hz
      have hk : ∀ e ∈ ks, PE e ∧ XBack T e := fun e he => ⟨hks.mem e he, (back_expr T z e (by have := szL_mem he; omega) (hks.mem e he)).2⟩
      rw [singleT, if_neg (by rw [h1.1]; decide), if_pos h1.1, if_pos h3, if_neg (by omega), h1.2]
      obtain ⟨n, rfl⟩ : ∃ k, n = k + 1 := ⟨n - 1, by omega⟩
      cases ks with
      | nil =>
        have h5 : isT T kSign [41] (i + 1 + 1) := h4.get.1
        rw [argsT, if_pos (show isT T kSign [41] (i + 2) from h5), Rs.bind_ok]
        simp [showL, commas]
      | cons e r =>
        have hhead : ∃ t r', commas (showL (e :: r)) = t :: r' ∧ HeadOk t := by
          obtain ⟨t, r', e1, e2⟩ := show_head _ e (Nat.le_refl _) (hks.mem e (by simp))
          cases r with
          | nil => exact ⟨t, r', by simp only [showL, commas]; exact e1, e2⟩
          | cons f r =>
            refine ⟨t, r' ++ (kSign, [44]) :: commas (showL (f :: r)), ?_, e2⟩
            rw [showL, showL, commas, e1]
            rfl
        have h4' : AtT T (i + 2) (commas (showL (e :: r)) ++ [(kSign, [41])]) := h4
        rw [argsT, if_neg (head_not_close h4'.append.1 hhead), more_back (e :: r) (by simp) hk n (d + 1) [] (i + 2) h4' (by omega) (by omega), Rs.bind_ok, List.nil_append]
        congr 1
        omega
    · refine single (lv_not (by decide) _ _ _) fun n d i hA hN hD hn => ?_
      rw [showE_one] at hA hN hn ⊢
      rw [depE_one] at hD
      obtain ⟨n, rfl⟩ : ∃ k, n = k + 1 := ⟨n - 1, by omega⟩
      obtain ⟨h1, h2⟩ := hA.get
      simp only [List.length_cons] at hN hn ⊢
      rw [szE, szL, szL] at hz
      have hS := (back_expr T z a (by omega) ha).1
      have hor : isT T kSign [45] i ∨ isT T kSign [33] i := by
        rcases hm with rfl | rfl
        · exact Or.inl h1
        · exact Or.inr h1
      rw [singleT, if_neg (by rw [h1.1]; decide), if_neg (by rw [h1.1]; decide), if_pos hor, if_neg (by omega), hS n (d + 1) (i + 1) h2 (by rw [show i + 1 + (parT (needsP a 9) (showE a)).length = i + ((parT (needsP a 9) (showE a)).length + 1) by omega]; exact hN) (by omega) (by omega), Rs.bind_ok, h1.2]
      congr 1
      omega
    · have hm8 := signLevel_le m
      rw [szE, szL, szL, szL] at hz
      obtain ⟨hSa, hXa⟩ := back_expr T z a (by omega) ha
      obtain ⟨hSb, hXb⟩ := back_expr T z b (by omega) hb
      have hX : XBack T (.mk kTwo 0 m [a, b]) := by
        intro n d l i h1 hl hA hN hL hD hn
        rw [lv_two] at hl hL
        rw [depE_two] at hD
        rw [showE_two] at hA hN hL hn ⊢
        obtain ⟨hAa, hA2⟩ := hA.append
        obtain ⟨hop, hAb⟩ := hA2.get
        have hlop : levelT (tk T (i + (parT (needsP a (signLevel m)) (showE a)).length)) = signLevel m := level_sign hop
        simp only [List.length_append, List.length_cons] at hN hL hn ⊢
        have hne : m ≠ [40] := fun e => by rw [e] at hm; exact absurd hm (by decide)
        obtain ⟨n1, e1, e2⟩ := kid_back ha hSa hXa n d (signLevel m) i (by omega) (by omega) hAa (next_sign hop hne) (fun hf => by
          rw [hlop]
          unfold needsP at hf
          have := of_decide_eq_false hf
          omega) (by omega) (by omega) l h1 hl
        rw [e1]
        obtain ⟨n1, rfl⟩ : ∃ k, n1 = k + 1 := ⟨n1 - 1, by omega⟩
        rw [loopT, if_neg (by rw [hlop]; omega), hlop]
        have hend : i + (parT (needsP a (signLevel m)) (showE a)).length + 1 + (parT (needsP b (signLevel m + 1)) (showE b)).length = i + ((parT (needsP a (signLevel m)) (showE a)).length + ((parT (needsP b (signLevel m + 1)) (showE b)).length + 1)) := by omega
        obtain ⟨n2, e3, e4⟩ := kid_back hb hSb hXb n1 d (signLevel m + 1) (i + (parT (needsP a (signLevel m)) (showE a)).length + 1) (by omega) (by omega) hAb (by rw [hend]; exact hN) (fun hf => by
          rw [hend]
          unfold needsP at hf
          have := of_decide_eq_false hf
          omega) (by omega) (by omega) (signLevel m + 1) (by omega) (by omega)
        rw [e3, loop_stop (by omega) (by rw [hend]; omega), Rs.bind_ok, hop.2, hend]
        exact ⟨n1, rfl, by omega⟩
      refine ⟨fun n d i hA hN hD hn => ?_, hX⟩
      have hb9 : needsP (.mk kTwo 0 m [a, b]) 9 = true := by unfold needsP; rw [lv_two]; exact decide_eq_true (by omega)
      rw [hb9] at hA hN hD hn ⊢
      have hlen : (parT true (showE (.mk kTwo 0 m [a, b]))).length = (showE (.mk kTwo 0 m [a, b])).length + 2 := by simp [parT]
      rw [hlen] at hN hn ⊢
      obtain ⟨h1, h2⟩ := AtT.get (show AtT T i ((kSign, [40]) :: (showE (.mk kTwo 0 m [a, b]) ++ [(kSign, [41])])) from hA)
      obtain ⟨h3, h4⟩ := h2.append
      have hc : isT T kSign [41] (i + 1 + (showE (.mk kTwo 0 m [a, b])).length) := h4.get.1
      have hlc : levelT (tk T (i + 1 + (showE (.mk kTwo 0 m [a, b])).length)) = 0 := by rw [level_sign hc]; decide
      obtain ⟨n, rfl⟩ : ∃ k, n = k + 1 := ⟨n - 1, by omega⟩
      have hD' : d + 1 + depE (.mk kTwo 0 m [a, b]) ≤ 12 := by unfold parD at hD; simp at hD; omega
      obtain ⟨n1, e1, e2⟩ := hX n (d + 1) 1 (i + 1) (by omega) (by rw [lv_two]; omega) h3 (next_sign hc (by decide)) (by omega) hD' (by omega)
      rw [singleT, if_neg (by rw [h1.1]; decide), if_neg (by rw [h1.1]; decide), if_neg (by rintro (h | h) <;> exact absurd (h1.2.symm.trans h.2) (by decide)), if_pos h1, if_neg (by omega), e1, loop_stop (by omega) (by omega), Rs.bind_ok]
      unfold needT
      rw [if_pos hc, Rs.bind_ok]
      congr 1
      omega
end Go.Proofs.YtcebpmaggnephabDoor

/-
  Our own: plain mathematics of programs as text: a tree that was parsed is as a parser makes them; its text has no more tokens, and is no deeper.
-/
namespace Go.Proofs.YtcebpmaggnephabDoor
open Go.RowKit

theorem numV_ltS : ∀ (l : List UInt8), (∀ c ∈ l, isD c = true) → ∀ a, l.foldl (fun n c => 10 * n + (c.toNat - 48)) a < (a + 1) * 10 ^ l.length
  | [], _, a => by simp
  | c :: r, h, a => by
    rw [List.foldl_cons, List.length_cons, Nat.pow_succ]
    have hc : c.toNat - 48 ≤ 9 := by
      have := h c (by simp)
      unfold isD at this
      have := of_decide_eq_true this
      omega
    have ih := numV_ltS r (fun x hx => h x (List.mem_cons_of_mem _ hx)) (10 * a + (c.toNat - 48))
    have : (10 * a + (c.toNat - 48) + 1) * 10 ^ r.length ≤ (10 * (a + 1)) * 10 ^ r.length := Nat.mul_le_mul_right _ (by omega)
    calc _ < _ := ih
      _ ≤ _ := this
      _ = (a + 1) * (10 ^ r.length * 10) := by rw [Nat.mul_comm 10 (a + 1), Nat.mul_assoc, Nat.mul_comm 10]
theorem num_good {t : Tok} (h : t.Good) (hk : t.kind = kNum) : numV t.text < 1000000000000000000 := by
  obtain ⟨h1, h2, _⟩ := h
  cases ht : t.text with
  | nil => exact absurd ht h1
  | cons c r =>
    rw [ht, hk] at h2
    have h2' : (if isL c = true then nameOf (c :: r) else if isD c = true then (kNum, numOf (c :: r)) else (kSign, signOf (c :: r))) = (kNum, (c :: r).length) := h2
    by_cases hL : isL c = true
    · rw [if_pos hL] at h2'
      unfold nameOf at h2'
      by_cases g1 : 8 < spanN isLD (c :: r)
      · rw [if_pos g1] at h2'
        exact absurd (Prod.mk.inj h2').1 (by decide)
      · rw [if_neg g1] at h2'
        by_cases g2 : wordsL.contains (List.take (spanN isLD (c :: r)) (c :: r)) = true
        · rw [if_pos g2] at h2'
          exact absurd (Prod.mk.inj h2').1 (by decide)
        · rw [if_neg g2] at h2'
          exact absurd (Prod.mk.inj h2').1 (by decide)
    · rw [if_neg hL] at h2'
      by_cases hD : isD c = true
      · rw [if_pos hD] at h2'
        have h3 := (Prod.mk.inj h2').2
        unfold numOf at h3
        by_cases hn : ((c :: r).head? = some 48 ∧ 1 < spanN isD (c :: r)) ∨ follows ((c :: r).drop (spanN isD (c :: r))) = true ∨ 18 < spanN isD (c :: r)
        · rw [if_pos hn] at h3
          exact absurd h3 (by simp)
        · rw [if_neg hn] at h3
          have h18 : ¬ 18 < spanN isD (c :: r) := fun h => hn (Or.inr (Or.inr h))
          have hd : ∀ x ∈ c :: r, isD x = true := by
            intro x hx
            obtain ⟨i, hi, rfl⟩ := List.mem_iff_getElem.1 hx
            exact spanN_at isD (c :: r) i hi (by omega)
          have hl : (c :: r).length ≤ 18 := by omega
          have := numV_ltS (c :: r) hd 0
          have h10 : 10 ^ (c :: r).length ≤ 10 ^ 18 := Nat.pow_le_pow_right (by omega) hl
          unfold numV
          omega
      · rw [if_neg hD] at h2'
        exact absurd (Prod.mk.inj h2').1 (by decide)
theorem name_good {t : Tok} (h : t.Good) (hk : t.kind = kName) : nameG t.text := ⟨h.1, by rw [← hk]; exact h.2.1⟩
/-- A tree that was made of the tokens from i to j, in d blocks and parentheses, where ops of at least a level are read. -/
def Made (d i j l : Nat) (e : Ex) : Prop := PE e ∧ i ≤ j ∧ ((d + 1 + depE e ≤ 12 ∧ (showE e).length + 2 ≤ j - i) ∨ (l ≤ lvE e ∧ d + depE e ≤ 12 ∧ (showE e).length ≤ j - i))
theorem Made.kid {d i j l : Nat} {e : Ex} (h : Made d i j l e) (L : Nat) (hL : (l ≤ lvE e → L ≤ lvE e) ∨ (d + 1 + depE e ≤ 12 ∧ (showE e).length + 2 ≤ j - i)) : d + parD (needsP e L) (depE e) ≤ 12 ∧ (parT (needsP e L) (showE e)).length ≤ j - i := by
  have key : (d + 1 + depE e ≤ 12 ∧ (showE e).length + 2 ≤ j - i) → d + parD (needsP e L) (depE e) ≤ 12 ∧ (parT (needsP e L) (showE e)).length ≤ j - i := fun ⟨h1, h2⟩ => by
    rw [parT_len]
    cases needsP e L <;> simp only [parD] <;> constructor <;> simp <;> omega
  rcases hL with hL | hL
  · rcases h.2.2 with h1 | ⟨h1, h2, h3⟩
    · exact key h1
    · have hb : needsP e L = false := by unfold needsP; exact decide_eq_false (by have := hL h1; omega)
      rw [hb]
      exact ⟨by simpa [parD] using h2, by simpa [parT] using h3⟩
  · exact key hL
theorem maxL_le {l : List Nat} {b : Nat} (h : ∀ x ∈ l, x ≤ b) : maxL l ≤ b := by
  induction l with
  | nil => exact Nat.zero_le _
  | cons x r ih => rw [maxL]; have := h x (by simp); have := ih (fun y hy => h y (List.mem_cons_of_mem _ hy)); omega
/-- Arguments that were made of the tokens from i on, up to the closing parenthesis, ahead of j. -/
def MadeL (d i j : Nat) (ks : List Ex) : Prop := PEs ks ∧ i < j ∧ d + maxL (depL ks) ≤ 12 ∧ (commas (showL ks)).length + 1 ≤ j - i
theorem level_two {T : List Tok} {i l : Nat} (h : ¬ levelT (tk T i) < l) (hl : 1 ≤ l) : signLevel (tk T i).text = levelT (tk T i) := by
  unfold levelT at h ⊢
  split
  · rfl
  · next hk => rw [if_neg hk] at h; omega
theorem tk_good {T : List Tok} (HT : ∀ t ∈ T, t.Good) {i : Nat} (h : (tk T i).kind ≠ []) : (tk T i).Good := by
  have hi := tk_kind h
  have : tk T i = T[i] := by simp [tk, List.getD_eq_getElem?_getD, List.getElem?_eq_getElem hi]
  rw [this]
  exact HT _ (List.getElem_mem hi)
theorem made_expr {T : List Tok} (HT : ∀ t ∈ T, t.Good) : ∀ n : Nat,
    (∀ d l i e j, d ≤ 12 → 1 ≤ l → l ≤ 9 → exprT T n d l i = .ok e j → Made d i j l e ∧ levelT (tk T j) < l) ∧
    (∀ d l e0 i0 i e j, d ≤ 12 → 1 ≤ l → l ≤ 9 → Made d i0 i l e0 → ((d + 1 + depE e0 ≤ 12 ∧ (showE e0).length + 2 ≤ i - i0) ∨ levelT (tk T i) ≤ lvE e0) → loopT T n d l e0 i = .ok e j → Made d i0 j l e ∧ levelT (tk T j) < l) ∧
    (∀ d i e j, d ≤ 12 → singleT T n d i = .ok e j → Made d i j 9 e) ∧
    (∀ d i ks j, d ≤ 12 → argsT T n d i = .ok ks j → MadeL d i j ks) ∧
    (∀ d es i ks j, d ≤ 12 → moreT T n d es i = .ok ks j → ∃ k, ks = es ++ k ∧ k ≠ [] ∧ MadeL d i j k) := by
  intro n
  induction n with
  | zero =>
    refine ⟨?_, ?_, ?_, ?_, ?_⟩
    · intro d l i e j _ _ _ h; rw [exprT] at h; cases h
    · intro d l e0 i0 i e j _ _ _ _ _ h; rw [loopT] at h; cases h
    · intro d i e j _ h; rw [singleT] at h; cases h
    · intro d i ks j _ h; rw [argsT] at h; cases h
    · intro d es i ks j _ h; rw [moreT] at h; cases h
  | succ n ih =>
    obtain ⟨h1, h2, h3, h4, h5⟩ := ih
    refine ⟨?_, ?_, ?_, ?_, ?_⟩
    · intro d l i e j hd hl hl9 h
      rw [exprT] at h
      obtain ⟨e0, j0, hs, hp⟩ := Rs.bind_eq_ok h
      have hm := h3 d i e0 j0 hd hs
      refine h2 d l e0 i j0 e j hd hl hl9 ⟨hm.1, hm.2.1, ?_⟩ ?_ hp
      · rcases hm.2.2 with g | ⟨g1, g2⟩
        · exact Or.inl g
        · exact Or.inr ⟨by omega, g2⟩
      · rcases hm.2.2 with g | ⟨g1, g2⟩
        · exact Or.inl g
        · exact Or.inr (by have := levelT_leS (tk T j0); omega)
    · intro d l e0 i0 i e j hd hl hl9 hm hlv h
      rw [loopT] at h
      by_cases hlt : levelT (tk T i) < l
      · rw [if_pos hlt] at h
        cases h
        exact ⟨hm, hlt⟩
      · rw [if_neg hlt] at h
        obtain ⟨r, j1, hr, hp⟩ := Rs.bind_eq_ok h
        have hL8 := levelT_leS (tk T i)
        obtain ⟨hmr, hnr⟩ := h1 d (levelT (tk T i) + 1) (i + 1) r j1 hd (by omega) (by omega) hr
        have hsl := level_two hlt hl
        generalize hLv : levelT (tk T i) = L at *
        obtain ⟨k1, k2⟩ := hm.kid L (hlv.elim Or.inr (fun g => Or.inl (fun _ => g)))
        obtain ⟨k3, k4⟩ := hmr.kid (L + 1) (Or.inl id)
        have hm1 := hm.2.1
        have hm2 := hmr.2.1
        have hlvn : lvE (.mk kTwo 0 (tk T i).text [e0, r]) = L := by rw [lv_two, hsl]
        have hmk : Made d i0 j1 l (.mk kTwo 0 (tk T i).text [e0, r]) := by
          refine ⟨⟨Or.inr (Or.inr (Or.inr (Or.inr ⟨rfl, rfl, by rw [hsl]; omega, e0, r, rfl⟩))), hm.1, hmr.1, trivial⟩, by omega, Or.inr ⟨by rw [hlvn]; omega, ?_, ?_⟩⟩
          · rw [depE_two, hsl]; omega
          · rw [showE_two, hsl, List.length_append, List.length_cons]; omega
        exact h2 d l _ i0 j1 e j hd hl hl9 hmk (Or.inr (by rw [hlvn]; omega)) hp
    · intro d i e j hd h
      rw [singleT] at h
      by_cases g1 : (tk T i).kind = kNum
      · rw [if_pos g1] at h
        cases h
        have hg := tk_good HT (i := i) (by rw [g1]; decide)
        refine ⟨⟨Or.inl ⟨rfl, ⟨_, rfl, num_good hg g1⟩, rfl, rfl⟩, trivial⟩, by omega, Or.inr ⟨by rw [lv_not (by decide)]; omega, by rw [depE_num]; omega, by rw [showE_num]; simp⟩⟩
      · rw [if_neg g1] at h
        by_cases g2 : (tk T i).kind = kName
        · rw [if_pos g2] at h
          have hg := name_good (tk_good HT (i := i) (by rw [g2]; decide)) g2
          by_cases g3 : isT T kSign [40] (i + 1)
          · rw [if_pos g3] at h
            by_cases g4 : d = 12
            · rw [if_pos g4] at h; cases h
            · rw [if_neg g4] at h
              obtain ⟨ks, j1, hk, hp⟩ := Rs.bind_eq_ok h
              cases hp
              obtain ⟨m1, m2, m3, m4⟩ := h4 (d + 1) (i + 2) ks j (by omega) hk
              refine ⟨⟨Or.inr (Or.inr (Or.inl ⟨rfl, rfl, hg⟩)), m1⟩, by omega, Or.inr ⟨by rw [lv_not (by decide)]; omega, by rw [depE_call]; omega, ?_⟩⟩
              rw [showE_call]
              simp only [List.length_cons, List.length_append, List.length_nil]
              omega
          · rw [if_neg g3] at h
            cases h
            refine ⟨⟨Or.inr (Or.inl ⟨rfl, rfl, hg, rfl⟩), trivial⟩, by omega, Or.inr ⟨by rw [lv_not (by decide)]; omega, by rw [depE_name]; omega, by rw [showE_name]; simp⟩⟩
        · rw [if_neg g2] at h
          by_cases g3 : isT T kSign [45] i ∨ isT T kSign [33] i
          · rw [if_pos g3] at h
            by_cases g4 : d = 12
            · rw [if_pos g4] at h; cases h
            · rw [if_neg g4] at h
              obtain ⟨a, j1, hk, hp⟩ := Rs.bind_eq_ok h
              cases hp
              have hm := h3 (d + 1) (i + 1) a j (by omega) hk
              obtain ⟨k1, k2⟩ := hm.kid 9 (Or.inl id)
              have hm1 := hm.2.1
              refine ⟨⟨Or.inr (Or.inr (Or.inr (Or.inl ⟨rfl, rfl, g3.elim (fun g => Or.inl g.2) (fun g => Or.inr g.2), a, rfl⟩))), hm.1, trivial⟩, by omega, Or.inr ⟨by rw [lv_not (by decide)]; omega, by rw [depE_one]; omega, ?_⟩⟩
              rw [showE_one, List.length_cons]
              omega
          · rw [if_neg g3] at h
            by_cases g4 : isT T kSign [40] i
            · rw [if_pos g4] at h
              by_cases g5 : d = 12
              · rw [if_pos g5] at h; cases h
              · rw [if_neg g5] at h
                obtain ⟨a, j1, hk, hp⟩ := Rs.bind_eq_ok h
                obtain ⟨u, j2, hn, hp⟩ := Rs.bind_eq_ok hp
                cases hp
                obtain ⟨_, rfl⟩ := need_ok hn
                have hm := (h1 (d + 1) 1 (i + 1) e j1 (by omega) (by omega) (by omega) hk).1
                have hm1 := hm.2.1
                refine ⟨hm.1, by omega, Or.inl ?_⟩
                rcases hm.2.2 with ⟨k1, k2⟩ | ⟨_, k1, k2⟩
                · exact ⟨by omega, by omega⟩
                · exact ⟨by omega, by omega⟩
            · rw [if_neg g4] at h; cases h
    · intro d i ks j hd h
      rw [argsT] at h
      by_cases g : isT T kSign [41] i
      · rw [if_pos g] at h
        cases h
        exact ⟨trivial, by omega, by simp [depL, maxL]; omega, by simp [showL, commas]⟩
      · rw [if_neg g] at h
        obtain ⟨k, rfl, _, hm⟩ := h5 d [] i ks j hd h
        exact hm
    · intro d es i ks j hd h
      rw [moreT] at h
      obtain ⟨e, j1, he, hp⟩ := Rs.bind_eq_ok h
      have hm := (h1 d 1 i e j1 hd (by omega) (by omega) he).1
      have hm1 := hm.2.1
      have hde : d + depE e ≤ 12 ∧ (showE e).length ≤ j1 - i := by
        rcases hm.2.2 with ⟨k1, k2⟩ | ⟨_, k1, k2⟩
        · exact ⟨by omega, by omega⟩
        · exact ⟨k1, k2⟩
      by_cases g : isT T kSign [44] j1
      · rw [if_pos g] at hp
        obtain ⟨k, rfl, hk0, m1, m2, m3, m4⟩ := h5 d (es ++ [e]) (j1 + 1) ks j hd hp
        refine ⟨e :: k, by simp, by simp, ⟨hm.1, m1⟩, by omega, by rw [depL, maxL]; omega, ?_⟩
        cases k with
        | nil => exact absurd rfl hk0
        | cons f r =>
          rw [showL, showL, commas, List.length_append, List.length_cons]
          rw [showL] at m4
          omega
      · rw [if_neg g] at hp
        obtain ⟨u, j2, hn, hp⟩ := Rs.bind_eq_ok hp
        cases hp
        obtain ⟨_, rfl⟩ := need_ok hn
        refine ⟨[e], rfl, by simp, ⟨hm.1, trivial⟩, by omega, by simp only [depL, maxL]; omega, ?_⟩
        simp only [showL, commas]
        omega
end Go.Proofs.YtcebpmaggnephabDoor

/-
  Our own: plain mathematics of programs as text: the tokens of statements' and functions' trees make them again; they are no more than those that were read.
-/
namespace Go.Proofs.YtcebpmaggnephabDoor
open Go.RowKit

def blkT (x : List TK) : List TK := (kSign, [123]) :: (x ++ [(kSign, [125])])
def combS (k m : List UInt8) (e : Ex) (o : List Sm) (x y : List TK) : List TK :=
  if k = kVar then (kWord, kVar) :: (kName, m) :: (kSign, [61]) :: (showE e ++ [(kSign, [59])])
  else if k = kSet then (kName, m) :: (kSign, [61]) :: (showE e ++ [(kSign, [59])])
  else if k = kIf then (kWord, kIf) :: (showE e ++ (blkT x ++ if o.isEmpty then [] else (kWord, kElse) :: blkT y))
  else if k = kWhile then (kWord, kWhile) :: (showE e ++ blkT x)
  else (kWord, k) :: (showE e ++ [(kSign, [59])])
mutual
def showS : Sm → List TK
  | .mk k m e t o => combS k m e o (showSs t) (showSs o)
def showSs : List Sm → List TK
  | [] => []
  | s :: r => showS s ++ showSs r
end
mutual
def depS : Sm → Nat
  | .mk k _ e t o => if k = kIf then max (depE e) (max (1 + depSs t) (if o.isEmpty then 0 else 1 + depSs o)) else if k = kWhile then max (depE e) (1 + depSs t) else depE e
def depSs : List Sm → Nat
  | [] => 0
  | s :: r => max (depS s) (depSs r)
end
mutual
def PS : Sm → Prop
  | .mk k m e t o => PE e ∧ PSs t ∧ PSs o ∧ ((k = kVar ∧ nameG m ∧ t = [] ∧ o = []) ∨ (k = kSet ∧ nameG m ∧ t = [] ∧ o = []) ∨ (k = kIf ∧ m = []) ∨ (k = kWhile ∧ m = [] ∧ o = []) ∨ (k = kReturn ∧ m = [] ∧ t = [] ∧ o = []) ∨ (k = kPrint ∧ m = [] ∧ t = [] ∧ o = []))
def PSs : List Sm → Prop
  | [] => True
  | s :: r => PS s ∧ PSs r
end
theorem showSs_append (a b : List Sm) : showSs (a ++ b) = showSs a ++ showSs b := by
  induction a with
  | nil => rfl
  | cons s r ih => rw [List.cons_append, showSs, showSs, ih, List.append_assoc]
theorem depSs_append (a b : List Sm) : depSs (a ++ b) = max (depSs a) (depSs b) := by
  induction a with
  | nil => simp [depSs]
  | cons s r ih => rw [List.cons_append, depSs, depSs, ih]; omega
theorem PSs.append {a b : List Sm} (h : PSs a) (k : PSs b) : PSs (a ++ b) := by
  induction a with
  | nil => exact k
  | cons s r ih => exact ⟨h.1, ih h.2⟩
/-- What was made of statements' tokens. -/
theorem made_block {T : List Tok} (HT : ∀ t ∈ T, t.Good) : ∀ n : Nat,
    (∀ d i t j, d ≤ 12 → blockT T n d i = .ok t j → PSs t ∧ d + 1 + depSs t ≤ 12 ∧ i ≤ j ∧ (showSs t).length + 2 ≤ j - i) ∧
    (∀ d ss i ks j, d ≤ 12 → stmtsT T n d ss i = .ok ks j → ∃ k, ks = ss ++ k ∧ PSs k ∧ d + depSs k ≤ 12 ∧ i ≤ j ∧ (showSs k).length + 1 ≤ j - i) ∧
    (∀ d i s j, d ≤ 12 → stmtT T n d i = .ok s j → PS s ∧ d + depS s ≤ 12 ∧ i ≤ j ∧ (showS s).length ≤ j - i) := by
  intro n
  induction n with
  | zero =>
    refine ⟨?_, ?_, ?_⟩
    · intro d i t j _ h; rw [blockT] at h; cases h
    · intro d ss i ks j _ h; rw [stmtsT] at h; cases h
    · intro d i s j _ h; rw [stmtT] at h; cases h
  | succ n ih =>
    obtain ⟨h1, h2, h3⟩ := ih
    have hx : ∀ d i e j, d ≤ 12 → exprT T n d 1 i = .ok e j → PE e ∧ d + depE e ≤ 12 ∧ i ≤ j ∧ (showE e).length ≤ j - i := fun d i e j hd h => by
      have hm := ((made_expr HT n).1 d 1 i e j hd (by omega) (by omega) h).1
      refine ⟨hm.1, ?_, hm.2.1, ?_⟩
      · rcases hm.2.2 with ⟨k1, _⟩ | ⟨_, k1, _⟩ <;> omega
      · rcases hm.2.2 with ⟨_, k1⟩ | ⟨_, _, k1⟩ <;> omega
    have hone : ∀ (k : List UInt8) d i s j, k ≠ kVar → k ≠ kSet → k ≠ kIf → k ≠ kWhile → (k = kReturn ∨ k = kPrint) → d ≤ 12 → ((exprT T n d 1 (i + 1)).bind fun e j => (needT T kSign [59] j).bind fun _ j => Rs.ok (Sm.mk k [] e [] []) j) = .ok s j → PS s ∧ d + depS s ≤ 12 ∧ i ≤ j ∧ (showS s).length ≤ j - i := fun k d i s j n1 n2 n3 n4 hk hd h => by
      obtain ⟨e, j1, he, hp⟩ := Rs.bind_eq_ok h
      obtain ⟨u, j2, hn, hp⟩ := Rs.bind_eq_ok hp
      cases hp
      obtain ⟨_, rfl⟩ := need_ok hn
      obtain ⟨a1, a2, a3, a4⟩ := hx d (i + 1) e j1 hd he
      refine ⟨⟨a1, trivial, trivial, ?_⟩, ?_, by omega, ?_⟩
      · rcases hk with rfl | rfl
        · exact Or.inr (Or.inr (Or.inr (Or.inr (Or.inl ⟨rfl, rfl, rfl, rfl⟩))))
        · exact Or.inr (Or.inr (Or.inr (Or.inr (Or.inr ⟨rfl, rfl, rfl, rfl⟩))))
      · rw [depS, if_neg n3, if_neg n4]; exact a2
      · rw [showS, combS, if_neg n1, if_neg n2, if_neg n3, if_neg n4]
        simp only [List.length_cons, List.length_append, List.length_nil]
        omega
    refine ⟨?_, ?_, ?_⟩
    · intro d i t j hd h
      rw [blockT] at h
      by_cases g : isT T kSign [123] i
      · rw [if_pos g] at h
        by_cases g2 : d = 12
        · rw [if_pos g2] at h; cases h
        · rw [if_neg g2] at h
          obtain ⟨k, rfl, k1, k2, k3, k4⟩ := h2 (d + 1) [] (i + 1) t j (by omega) h
          exact ⟨k1, by omega, by omega, by omega⟩
      · rw [if_neg g] at h; cases h
    · intro d ss i ks j hd h
      rw [stmtsT] at h
      by_cases g : isT T kSign [125] i
      · rw [if_pos g] at h
        cases h
        exact ⟨[], by simp, trivial, by rw [depSs]; omega, by omega, by simp [showSs]⟩
      · rw [if_neg g] at h
        obtain ⟨s, j1, hs, hp⟩ := Rs.bind_eq_ok h
        obtain ⟨a1, a2, a3, a4⟩ := h3 d i s j1 hd hs
        obtain ⟨k, rfl, k1, k2, k3, k4⟩ := h2 d (ss ++ [s]) j1 ks j hd hp
        exact ⟨s :: k, by simp, ⟨a1, k1⟩, by rw [depSs]; omega, by omega, by rw [showSs, List.length_append]; omega⟩
    · intro d i s j hd h
      rw [stmtT] at h
      by_cases g1 : (tk T i).kind = kName
      · rw [if_pos g1] at h
        have hg := name_good (tk_good HT (i := i) (by rw [g1]; decide)) g1
        obtain ⟨u, j0, hn0, h⟩ := Rs.bind_eq_ok h
        obtain ⟨_, rfl⟩ := need_ok hn0
        obtain ⟨e, j1, he, hp⟩ := Rs.bind_eq_ok h
        obtain ⟨u, j2, hn, hp⟩ := Rs.bind_eq_ok hp
        cases hp
        obtain ⟨_, rfl⟩ := need_ok hn
        obtain ⟨a1, a2, a3, a4⟩ := hx d _ e j1 hd he
        refine ⟨⟨a1, trivial, trivial, Or.inr (Or.inl ⟨rfl, hg, rfl, rfl⟩)⟩, ?_, by omega, ?_⟩
        · rw [depS, if_neg (by decide), if_neg (by decide)]; exact a2
        · rw [showS, combS, if_neg (by decide), if_pos rfl]
          simp only [List.length_cons, List.length_append, List.length_nil]
          omega
      · rw [if_neg g1] at h
        by_cases g2 : isT T kWord kVar i
        · rw [if_pos g2] at h
          obtain ⟨x, jx, hnx, h⟩ := Rs.bind_eq_ok h
          obtain ⟨q1, q2, rfl⟩ := name_ok hnx
          have hg := name_good (tk_good HT (i := i + 1) (by rw [q1]; decide)) q1
          obtain ⟨u, j0, hn0, h⟩ := Rs.bind_eq_ok h
          obtain ⟨_, rfl⟩ := need_ok hn0
          obtain ⟨e, j1, he, hp⟩ := Rs.bind_eq_ok h
          obtain ⟨u, j2, hn, hp⟩ := Rs.bind_eq_ok hp
          cases hp
          obtain ⟨_, rfl⟩ := need_ok hn
          obtain ⟨a1, a2, a3, a4⟩ := hx d _ e j1 hd he
          refine ⟨⟨a1, trivial, trivial, Or.inl ⟨rfl, by rw [q2]; exact hg, rfl, rfl⟩⟩, ?_, by omega, ?_⟩
          · rw [depS, if_neg (by decide), if_neg (by decide)]; exact a2
          · rw [showS, combS, if_pos rfl]
            simp only [List.length_cons, List.length_append, List.length_nil]
            omega
        · rw [if_neg g2] at h
          by_cases g3 : isT T kWord kIf i
          · rw [if_pos g3] at h
            obtain ⟨e, j1, he, h⟩ := Rs.bind_eq_ok h
            obtain ⟨t, j2, ht, h⟩ := Rs.bind_eq_ok h
            obtain ⟨a1, a2, a3, a4⟩ := hx d _ e j1 hd he
            obtain ⟨b1, b2, b3, b4⟩ := h1 d j1 t j2 hd ht
            by_cases g4 : isT T kWord kElse j2
            · rw [if_pos g4] at h
              obtain ⟨o, j3, ho, h⟩ := Rs.bind_eq_ok h
              cases h
              obtain ⟨c1, c2, c3, c4⟩ := h1 d (j2 + 1) o j hd ho
              refine ⟨⟨a1, b1, c1, Or.inr (Or.inr (Or.inl ⟨rfl, rfl⟩))⟩, ?_, by omega, ?_⟩
              · rw [depS, if_pos rfl]
                split <;> omega
              · rw [showS, combS, if_neg (by decide), if_neg (by decide), if_pos rfl]
                simp only [List.length_cons, List.length_append, blkT, List.length_nil]
                split <;> simp only [List.length_cons, List.length_append, List.length_nil] <;> omega
            · rw [if_neg g4] at h
              cases h
              refine ⟨⟨a1, b1, trivial, Or.inr (Or.inr (Or.inl ⟨rfl, rfl⟩))⟩, ?_, by omega, ?_⟩
              · rw [depS, if_pos rfl]; simp only [List.isEmpty_nil, if_true]; omega
              · rw [showS, combS, if_neg (by decide), if_neg (by decide), if_pos rfl]
                simp only [List.length_cons, List.length_append, blkT, List.length_nil, List.isEmpty_nil, if_true]
                omega
          · rw [if_neg g3] at h
            by_cases g4 : isT T kWord kWhile i
            · rw [if_pos g4] at h
              obtain ⟨e, j1, he, h⟩ := Rs.bind_eq_ok h
              obtain ⟨t, j2, ht, h⟩ := Rs.bind_eq_ok h
              cases h
              obtain ⟨a1, a2, a3, a4⟩ := hx d _ e j1 hd he
              obtain ⟨b1, b2, b3, b4⟩ := h1 d j1 t j hd ht
              refine ⟨⟨a1, b1, trivial, Or.inr (Or.inr (Or.inr (Or.inl ⟨rfl, rfl, rfl⟩)))⟩, ?_, by omega, ?_⟩
              · rw [depS, if_neg (by decide), if_pos rfl]; omega
              · rw [showS, combS, if_neg (by decide), if_neg (by decide), if_neg (by decide), if_pos rfl]
                simp only [List.length_cons, List.length_append, blkT, List.length_nil]
                omega
            · rw [if_neg g4] at h
              by_cases g5 : isT T kWord kReturn i
              · rw [if_pos g5] at h
                exact hone kReturn d i s j (by decide) (by decide) (by decide) (by decide) (Or.inl rfl) hd h
              · rw [if_neg g5] at h
                by_cases g6 : isT T kWord kPrint i
                · rw [if_pos g6] at h
                  exact hone kPrint d i s j (by decide) (by decide) (by decide) (by decide) (Or.inr rfl) hd h
                · rw [if_neg g6] at h; cases h
/-- The token behind is no else. -/
def NoElse (T : List Tok) (j : Nat) : Prop := ¬ isT T kWord kElse j
theorem noElse_sign {T : List Tok} {x : List UInt8} {j : Nat} (h : isT T kSign x j) : NoElse T j := fun h' => by
  have := h.1.symm.trans h'.1
  exact absurd this (by decide)
/-- A token with which a statement begins. -/
def StmtHead (t : TK) : Prop := t.1 = kName ∨ (t.1 = kWord ∧ t.2 ≠ kElse)
theorem stmt_head : ∀ (s : Sm), PS s → ∃ t r, showS s = t :: r ∧ StmtHead t
  | .mk k m e t o, h => by
    obtain ⟨_, _, _, h⟩ := h
    rw [showS]
    rcases h with ⟨rfl, _⟩ | ⟨rfl, _⟩ | ⟨rfl, _⟩ | ⟨rfl, _⟩ | ⟨rfl, _⟩ | ⟨rfl, _⟩
    · exact ⟨_, _, by rw [combS, if_pos rfl], Or.inr ⟨rfl, by decide⟩⟩
    · exact ⟨_, _, by rw [combS, if_neg (by decide), if_pos rfl], Or.inl rfl⟩
    · exact ⟨_, _, by rw [combS, if_neg (by decide), if_neg (by decide), if_pos rfl], Or.inr ⟨rfl, by decide⟩⟩
    · exact ⟨_, _, by rw [combS, if_neg (by decide), if_neg (by decide), if_neg (by decide), if_pos rfl], Or.inr ⟨rfl, by decide⟩⟩
    · exact ⟨_, _, by rw [combS, if_neg (by decide), if_neg (by decide), if_neg (by decide), if_neg (by decide)], Or.inr ⟨rfl, by decide⟩⟩
    · exact ⟨_, _, by rw [combS, if_neg (by decide), if_neg (by decide), if_neg (by decide), if_neg (by decide)], Or.inr ⟨rfl, by decide⟩⟩
theorem expr_back {T : List Tok} {e : Ex} (hp : PE e) {n d i : Nat} (hA : AtT T i (showE e)) {x : List UInt8} (hx : isT T kSign x (i + (showE e).length)) (hx0 : signLevel x = 0) (hx4 : x ≠ [40]) (hD : d + depE e ≤ 12) (hn : 4 * (showE e).length + 5 ≤ n) : exprT T n d 1 i = .ok e (i + (showE e).length) := by
  have hlv := lv_ge hp
  have hl := level_sign hx
  obtain ⟨n', e1, e2⟩ := (back_expr T _ e (Nat.le_refl _) hp).2 n d 1 i (by omega) (by omega) hA (next_sign hx hx4) (by omega) hD (by omega)
  rw [e1, loop_stop (by omega) (by omega)]
theorem need_back {T : List Tok} {k x : List UInt8} {i : Nat} (h : isT T k x i) : needT T k x i = .ok () (i + 1) := by unfold needT; rw [if_pos h]
/-- What a statement's tokens make. -/
def SmBack (T : List Tok) (s : Sm) : Prop := ∀ n d i, AtT T i (showS s) → NoElse T (i + (showS s).length) → d + depS s ≤ 12 → 4 * (showS s).length + 6 ≤ n → stmtT T n d i = .ok s (i + (showS s).length)
theorem stmts_back {T : List Tok} : ∀ (l : List Sm), PSs l → (∀ s ∈ l, SmBack T s) → ∀ n d ss i, AtT T i (showSs l ++ [(kSign, [125])]) → d + depSs l ≤ 12 → 4 * (showSs l).length + 7 ≤ n → stmtsT T n d ss i = .ok (ss ++ l) (i + (showSs l).length + 1)
  | [], _, _, n, d, ss, i, hA, _, hn => by
    obtain ⟨n, rfl⟩ : ∃ k, n = k + 1 := ⟨n - 1, by omega⟩
    have h1 : isT T kSign [125] i := (AtT.get (show AtT T i [(kSign, [125])] from hA)).1
    rw [stmtsT, if_pos h1, List.append_nil]
    rfl
  | s :: r, hp, hb, n, d, ss, i, hA, hD, hn => by
    rw [showSs, List.append_assoc] at hA
    obtain ⟨hA1, hA2⟩ := hA.append
    rw [depSs] at hD
    rw [showSs, List.length_append] at hn ⊢
    obtain ⟨n, rfl⟩ : ∃ k, n = k + 1 := ⟨n - 1, by omega⟩
    obtain ⟨t, q, e1, e2⟩ := stmt_head s hp.1
    have hlen : 1 ≤ (showS s).length := by rw [e1]; simp
    have hnb : ¬ isT T kSign [125] i := by
      rw [e1] at hA1
      rintro ⟨g1, _⟩
      have g2 := hA1.1.1
      rw [g1] at g2
      rcases e2 with e2 | ⟨e2, _⟩
      · rw [e2] at g2; exact absurd g2 (by decide)
      · rw [e2] at g2; exact absurd g2 (by decide)
    have hne : NoElse T (i + (showS s).length) := by
      cases r with
      | nil => exact noElse_sign (AtT.get (show AtT T _ [(kSign, [125])] from hA2)).1
      | cons s' r' =>
        obtain ⟨t', q', f1, f2⟩ := stmt_head s' hp.2.1
        rw [showSs, f1] at hA2
        intro g
        have g1 := hA2.1.1
        have g2 := hA2.1.2
        rw [g.1] at g1
        rw [g.2] at g2
        rcases f2 with f2 | ⟨_, f2⟩
        · rw [f2] at g1; exact absurd g1 (by decide)
        · exact f2 g2.symm
    rw [stmtsT, if_neg hnb, hb s (by simp) n d i hA1 hne (by omega) (by omega), Rs.bind_ok, stmts_back r hp.2 (fun x hx => hb x (List.mem_cons_of_mem _ hx)) n d (ss ++ [s]) _ hA2 (by omega) (by omega), List.append_assoc]
    congr 1
    omega
theorem block_back {T : List Tok} {l : List Sm} (hp : PSs l) (hb : ∀ s ∈ l, SmBack T s) {n d i : Nat} (hA : AtT T i (blkT (showSs l))) (hD : d + 1 + depSs l ≤ 12) (hn : 4 * (blkT (showSs l)).length ≤ n) : blockT T n d i = .ok l (i + (blkT (showSs l)).length) := by
  have hlen : (blkT (showSs l)).length = (showSs l).length + 2 := by simp [blkT]
  rw [hlen] at hn ⊢
  obtain ⟨h1, h2⟩ := AtT.get (show AtT T i ((kSign, [123]) :: (showSs l ++ [(kSign, [125])])) from hA)
  obtain ⟨n, rfl⟩ : ∃ k, n = k + 1 := ⟨n - 1, by omega⟩
  rw [blockT, if_pos h1, if_neg (by omega), stmts_back l hp hb n (d + 1) [] (i + 1) h2 (by omega) (by omega), List.nil_append]
  congr 1
  omega
mutual
theorem stmt_back (T : List Tok) : ∀ (s : Sm), PS s → SmBack T s
  | .mk k m e t o, hp => by
    obtain ⟨he, ht, ho, hk⟩ := hp
    have hbt := list_back T t ht
    have hbo := list_back T o ho
    intro n d i hA hN hD hn
    obtain ⟨n, rfl⟩ : ∃ k, n = k + 1 := ⟨n - 1, by omega⟩
    rcases hk with ⟨rfl, hm, rfl, rfl⟩ | ⟨rfl, hm, rfl, rfl⟩ | ⟨rfl, rfl⟩ | ⟨rfl, rfl, rfl⟩ | ⟨rfl, rfl, rfl, rfl⟩ | ⟨rfl, rfl, rfl, rfl⟩
    · have hsh : showS (.mk kVar m e [] []) = (kWord, kVar) :: (kName, m) :: (kSign, [61]) :: (showE e ++ [(kSign, [59])]) := by rw [showS, combS, if_pos rfl]
      rw [hsh] at hA hn ⊢
      rw [depS, if_neg (by decide), if_neg (by decide)] at hD
      simp only [List.length_cons, List.length_append, List.length_nil] at hn ⊢
      obtain ⟨a1, hA⟩ := hA.get
      obtain ⟨a2, hA⟩ := hA.get
      obtain ⟨a3, hA⟩ := hA.get
      obtain ⟨a4, hA⟩ := hA.append
      have a5 := (AtT.get (show AtT T _ [(kSign, [59])] from hA)).1
      have hname : nameT T (i + 1) = .ok m (i + 1 + 1) := by unfold nameT; rw [if_pos a2.1, a2.2]
      rw [stmtT, if_neg (by rw [a1.1]; decide), if_pos a1, hname, Rs.bind_ok, need_back a3, Rs.bind_ok, expr_back he a4 a5 (by decide) (by decide) hD (by omega), Rs.bind_ok, need_back a5, Rs.bind_ok]
      congr 1
      omega
    · have hsh : showS (.mk kSet m e [] []) = (kName, m) :: (kSign, [61]) :: (showE e ++ [(kSign, [59])]) := by rw [showS, combS, if_neg (by decide), if_pos rfl]
      rw [hsh] at hA hn ⊢
      rw [depS, if_neg (by decide), if_neg (by decide)] at hD
      simp only [List.length_cons, List.length_append, List.length_nil] at hn ⊢
      obtain ⟨a2, hA⟩ := hA.get
      obtain ⟨a3, hA⟩ := hA.get
      obtain ⟨a4, hA⟩ := hA.append
      have a5 := (AtT.get (show AtT T _ [(kSign, [59])] from hA)).1
      rw [stmtT, if_pos a2.1, need_back a3, Rs.bind_ok, expr_back he a4 a5 (by decide) (by decide) hD (by omega), Rs.bind_ok, need_back a5, Rs.bind_ok, a2.2]
      congr 1
      omega
    · have hsh : showS (.mk kIf [] e t o) = (kWord, kIf) :: (showE e ++ (blkT (showSs t) ++ if o.isEmpty then [] else (kWord, kElse) :: blkT (showSs o))) := by rw [showS, combS, if_neg (by decide), if_neg (by decide), if_pos rfl]
      rw [hsh] at hA hN hn ⊢
      rw [depS, if_pos rfl] at hD
      obtain ⟨a1, hA⟩ := hA.get
      obtain ⟨a4, hA⟩ := hA.append
      obtain ⟨a5, hA⟩ := hA.append
      have a6 := (AtT.get (show AtT T _ ((kSign, [123]) :: _) from a5)).1
      simp only [List.length_cons, List.length_append] at hN hn ⊢
      have hbl : blockT T n d (i + 1 + (showE e).length) = .ok t (i + 1 + (showE e).length + (blkT (showSs t)).length) := block_back ht hbt a5 (by omega) (by omega)
      rw [stmtT, if_neg (by rw [a1.1]; decide), if_neg (fun h => absurd (a1.2.symm.trans h.2) (by decide)), if_pos a1, expr_back he a4 a6 (by decide) (by decide) (by omega) (by omega), Rs.bind_ok, hbl, Rs.bind_ok]
      cases o with
      | nil =>
        simp only [List.isEmpty_nil, if_true, List.length_nil] at hN ⊢
        rw [if_neg (by rw [show i + 1 + (showE e).length + (blkT (showSs t)).length = i + ((showE e).length + ((blkT (showSs t)).length + 0) + 1) by omega]; exact hN)]
        congr 1
        omega
      | cons s r =>
        simp only [List.isEmpty_cons, Bool.false_eq_true, if_false] at hA hN hD hn ⊢
        obtain ⟨a7, a8⟩ := hA.get
        rw [List.length_cons] at hn ⊢
        rw [if_pos a7, block_back ho hbo a8 (by omega) (by omega), Rs.bind_ok]
        congr 1
        omega
    · have hsh : showS (.mk kWhile [] e t []) = (kWord, kWhile) :: (showE e ++ blkT (showSs t)) := by rw [showS, combS, if_neg (by decide), if_neg (by decide), if_neg (by decide), if_pos rfl]
      rw [hsh] at hA hN hn ⊢
      rw [depS, if_neg (by decide), if_pos rfl] at hD
      obtain ⟨a1, hA⟩ := hA.get
      obtain ⟨a4, a5⟩ := hA.append
      have a6 := (AtT.get (show AtT T _ ((kSign, [123]) :: _) from a5)).1
      simp only [List.length_cons, List.length_append] at hn ⊢
      rw [stmtT, if_neg (by rw [a1.1]; decide), if_neg (fun h => absurd (a1.2.symm.trans h.2) (by decide)), if_neg (fun h => absurd (a1.2.symm.trans h.2) (by decide)), if_pos a1, expr_back he a4 a6 (by decide) (by decide) (by omega) (by omega), Rs.bind_ok, block_back ht hbt a5 (by omega) (by omega), Rs.bind_ok]
      congr 1
      omega
    · have hsh : showS (.mk kReturn [] e [] []) = (kWord, kReturn) :: (showE e ++ [(kSign, [59])]) := by rw [showS, combS, if_neg (by decide), if_neg (by decide), if_neg (by decide), if_neg (by decide)]
      rw [hsh] at hA hn ⊢
      rw [depS, if_neg (by decide), if_neg (by decide)] at hD
      simp only [List.length_cons, List.length_append, List.length_nil] at hn ⊢
      obtain ⟨a1, hA⟩ := hA.get
      obtain ⟨a4, hA⟩ := hA.append
      have a5 := (AtT.get (show AtT T _ [(kSign, [59])] from hA)).1
      rw [stmtT, if_neg (by rw [a1.1]; decide), if_neg (fun h => absurd (a1.2.symm.trans h.2) (by decide)), if_neg (fun h => absurd (a1.2.symm.trans h.2) (by decide)), if_neg (fun h => absurd (a1.2.symm.trans h.2) (by decide)), if_pos a1, expr_back he a4 a5 (by decide) (by decide) hD (by omega), Rs.bind_ok, need_back a5, Rs.bind_ok]
      congr 1
      omega
    · have hsh : showS (.mk kPrint [] e [] []) = (kWord, kPrint) :: (showE e ++ [(kSign, [59])]) := by rw [showS, combS, if_neg (by decide), if_neg (by decide), if_neg (by decide), if_neg (by decide)]
      rw [hsh] at hA hn ⊢
      rw [depS, if_neg (by decide), if_neg (by decide)] at hD
      simp only [List.length_cons, List.length_append, List.length_nil] at hn ⊢
      obtain ⟨a1, hA⟩ := hA.get
      obtain ⟨a4, hA⟩ := hA.append
      have a5 := (AtT.get (show AtT T _ [(kSign, [59])] from hA)).1
      rw [stmtT, if_neg (by rw [a1.1]; decide), if_neg (fun h => absurd (a1.2.symm.trans h.2) (by decide)), if_neg (fun h => absurd (a1.2.symm.trans h.2) (by decide)), if_neg (fun h => absurd (a1.2.symm.trans h.2) (by decide)), if_neg (fun h => absurd (a1.2.symm.trans h.2) (by decide)), if_pos a1, expr_back he a4 a5 (by decide) (by decide) hD (by omega), Rs.bind_ok, need_back a5, Rs.bind_ok]
      congr 1
      omega
theorem list_back (T : List Tok) : ∀ (l : List Sm), PSs l → ∀ s ∈ l, SmBack T s
  | [], _, _, h => absurd h (by simp)
  | x :: r, hp, s, h => by
    rcases List.mem_cons.1 h with h | h
    · rw [h]; exact stmt_back T x hp.1
    · exact list_back T r hp.2 s h
end
end Go.Proofs.YtcebpmaggnephabDoor

/-
  Our own: plain mathematics of programs as text: the tokens of a program that was parsed make it again, and are no more than those that were read.
-/
namespace Go.Proofs.YtcebpmaggnephabDoor
open Go.RowKit

def parsT (l : List (List UInt8)) : List TK := commas (l.map fun p => [(kName, p)])
def showF (f : Fu) : List TK := (kWord, kFn) :: (kName, f.name) :: (kSign, [40]) :: (parsT f.params ++ (kSign, [41]) :: blkT (showSs f.body))
def showP : List Fu → List TK
  | [] => []
  | f :: r => showF f ++ showP r
/-- Functions as a parser makes them. -/
def PF (f : Fu) : Prop := nameG f.name ∧ (∀ p ∈ f.params, nameG p) ∧ PSs f.body ∧ 1 + depSs f.body ≤ 12
theorem parsT_cons (x y : List UInt8) (r : List (List UInt8)) : parsT (x :: y :: r) = (kName, x) :: (kSign, [44]) :: parsT (y :: r) := by simp [parsT, commas]
theorem parsT_one (x : List UInt8) : parsT [x] = [(kName, x)] := by simp [parsT, commas]
theorem made_names {T : List Tok} (HT : ∀ t ∈ T, t.Good) : ∀ (n : Nat) xs i ps j, namesT T n xs i = .ok ps j → ∃ k, ps = xs ++ k ∧ k ≠ [] ∧ (∀ p ∈ k, nameG p) ∧ i ≤ j ∧ (parsT k).length + 1 ≤ j - i
  | 0, _, _, _, _, h => by rw [namesT] at h; cases h
  | n + 1, xs, i, ps, j, h => by
    rw [namesT] at h
    obtain ⟨x, j1, hx, h⟩ := Rs.bind_eq_ok h
    obtain ⟨q1, q2, rfl⟩ := name_ok hx
    have hg : nameG x := by rw [q2]; exact name_good (tk_good HT (i := i) (by rw [q1]; decide)) q1
    by_cases g : isT T kSign [44] (i + 1)
    · rw [if_pos g] at h
      obtain ⟨k, rfl, k1, k2, k3, k4⟩ := made_names HT n (xs ++ [x]) _ ps j h
      cases k with
      | nil => exact absurd rfl k1
      | cons y r =>
        refine ⟨x :: y :: r, by simp, by simp, fun p hp => ?_, by omega, ?_⟩
        · rcases List.mem_cons.1 hp with rfl | hp
          · exact hg
          · exact k2 p hp
        · rw [parsT_cons, List.length_cons, List.length_cons]; omega
    · rw [if_neg g] at h
      obtain ⟨u, j2, hn, hp⟩ := Rs.bind_eq_ok h
      cases hp
      obtain ⟨_, rfl⟩ := need_ok hn
      exact ⟨[x], rfl, by simp, by simpa using hg, by omega, by rw [parsT_one]; simp; omega⟩
theorem made_params {T : List Tok} (HT : ∀ t ∈ T, t.Good) {n i j : Nat} {ps : List (List UInt8)} (h : paramsT T n i = .ok ps j) : (∀ p ∈ ps, nameG p) ∧ i ≤ j ∧ (parsT ps).length + 1 ≤ j - i := by
  unfold paramsT at h
  by_cases g : isT T kSign [41] i
  · rw [if_pos g] at h
    cases h
    exact ⟨by simp, by omega, by simp [parsT, commas]⟩
  · rw [if_neg g] at h
    obtain ⟨k, rfl, _, k2, k3, k4⟩ := made_names HT n [] i ps j h
    exact ⟨k2, k3, k4⟩
theorem made_fun {T : List Tok} (HT : ∀ t ∈ T, t.Good) {n i j : Nat} {f : Fu} (h : funT T n i = .ok f j) : PF f ∧ i ≤ j ∧ (showF f).length ≤ j - i := by
  obtain ⟨i5, a1, a2, a3, a4, a5, a6⟩ := fun_parts h
  obtain ⟨b1, b2, b3⟩ := made_params HT a5
  obtain ⟨c1, c2, c3, c4⟩ := (made_block HT n).1 0 i5 f.body j (by omega) a6
  have hg : nameG f.name := by rw [← a3]; exact name_good (tk_good HT (i := i + 1) (by rw [a2]; decide)) a2
  refine ⟨⟨hg, b1, c1, by omega⟩, by omega, ?_⟩
  unfold showF blkT
  simp only [List.length_cons, List.length_append, List.length_nil]
  omega
theorem made_funs {T : List Tok} (HT : ∀ t ∈ T, t.Good) : ∀ (n : Nat) fs i P j, funsT T n fs i = .ok P j → ∃ Q, P = fs ++ Q ∧ (∀ f ∈ Q, PF f) ∧ i ≤ j ∧ (showP Q).length ≤ j - i
  | 0, _, _, _, _, h => by rw [funsT] at h; cases h
  | n + 1, fs, i, P, j, h => by
    rw [funsT] at h
    by_cases g : i < T.length
    · rw [if_pos g] at h
      obtain ⟨f, j1, hf, h⟩ := Rs.bind_eq_ok h
      obtain ⟨a1, a2, a3⟩ := made_fun HT hf
      obtain ⟨Q, rfl, k1, k2, k3⟩ := made_funs HT n (fs ++ [f]) j1 P j h
      refine ⟨f :: Q, by simp, fun x hx => ?_, by omega, by rw [showP, List.length_append]; omega⟩
      rcases List.mem_cons.1 hx with rfl | hx
      · exact a1
      · exact k1 x hx
    · rw [if_neg g] at h
      cases h
      exact ⟨[], by simp, by simp, by omega, by simp [showP]⟩
theorem names_back {T : List Tok} : ∀ (k : List (List UInt8)), k ≠ [] → ∀ n xs i, AtT T i (parsT k ++ [(kSign, [41])]) → (parsT k).length + 1 ≤ n → namesT T n xs i = .ok (xs ++ k) (i + (parsT k).length + 1)
  | [], h, _, _, _, _, _ => absurd rfl h
  | [x], _, n, xs, i, hA, hn => by
    rw [parsT_one] at hA hn ⊢
    obtain ⟨n, rfl⟩ : ∃ k, n = k + 1 := ⟨n - 1, by omega⟩
    obtain ⟨a1, a2⟩ := AtT.get (show AtT T i ((kName, x) :: [(kSign, [41])]) from hA)
    have a3 := a2.get.1
    have hx : nameT T i = .ok x (i + 1) := by unfold nameT; rw [if_pos a1.1, a1.2]
    rw [namesT, hx, Rs.bind_ok, if_neg (fun h => absurd (a3.2.symm.trans h.2) (by decide)), need_back a3, Rs.bind_ok]
    rfl
  | x :: y :: r, _, n, xs, i, hA, hn => by
    rw [parsT_cons] at hA hn ⊢
    simp only [List.length_cons] at hn ⊢
    obtain ⟨n, rfl⟩ : ∃ k, n = k + 1 := ⟨n - 1, by omega⟩
    obtain ⟨a1, a2⟩ := AtT.get (show AtT T i ((kName, x) :: ((kSign, [44]) :: (parsT (y :: r) ++ [(kSign, [41])]))) from hA)
    obtain ⟨a3, a4⟩ := a2.get
    have hx : nameT T i = .ok x (i + 1) := by unfold nameT; rw [if_pos a1.1, a1.2]
    rw [namesT, hx, Rs.bind_ok, if_pos a3, names_back (y :: r) (by simp) n (xs ++ [x]) (i + 1 + 1) a4 (by omega), List.append_assoc]
    congr 1
    omega
theorem params_back {T : List Tok} {k : List (List UInt8)} {n i : Nat} (hA : AtT T i (parsT k ++ [(kSign, [41])])) (hn : (parsT k).length + 1 ≤ n) : paramsT T n i = .ok k (i + (parsT k).length + 1) := by
  unfold paramsT
  cases k with
  | nil =>
    have a1 := (AtT.get (show AtT T i [(kSign, [41])] from hA)).1
    rw [if_pos a1]
    rfl
  | cons x r =>
    have hnc : ¬ isT T kSign [41] i := by
      have h1 : (tk T i).kind = kName := by
        cases r with
        | nil => rw [parsT_one] at hA; exact (AtT.get (show AtT T i ((kName, x) :: _) from hA)).1.1
        | cons y r => rw [parsT_cons] at hA; exact (AtT.get (show AtT T i ((kName, x) :: _) from hA)).1.1
      rintro ⟨g, _⟩
      rw [h1] at g
      exact absurd g (by decide)
    rw [if_neg hnc, names_back (x :: r) (by simp) n [] i hA hn, List.nil_append]
theorem fun_back {T : List Tok} {f : Fu} (hp : PF f) {n i : Nat} (hA : AtT T i (showF f)) (hn : 4 * (showF f).length ≤ n) : funT T n i = .ok f (i + (showF f).length) := by
  obtain ⟨h1, h2, h3, h4⟩ := hp
  have hlen : (showF f).length = (parsT f.params).length + (blkT (showSs f.body)).length + 4 := by unfold showF; simp only [List.length_cons, List.length_append]; omega
  unfold showF at hA
  rw [hlen] at hn ⊢
  obtain ⟨a1, hA⟩ := hA.get
  obtain ⟨a2, hA⟩ := hA.get
  obtain ⟨a3, hA⟩ := hA.get
  rw [show parsT f.params ++ (kSign, [41]) :: blkT (showSs f.body) = (parsT f.params ++ [(kSign, [41])]) ++ blkT (showSs f.body) by simp] at hA
  obtain ⟨a4, a5⟩ := hA.append
  rw [List.length_append, List.length_cons, List.length_nil] at a5
  have hname : nameT T (i + 1) = .ok f.name (i + 1 + 1) := by unfold nameT; rw [if_pos a2.1, a2.2]
  unfold funT
  rw [need_back a1, Rs.bind_ok, hname, Rs.bind_ok, need_back a3, Rs.bind_ok, params_back a4 (by omega), Rs.bind_ok, show i + 1 + 1 + 1 + (parsT f.params).length + 1 = i + 1 + 1 + 1 + ((parsT f.params).length + (0 + 1)) by omega, block_back h3 (list_back T _ h3) a5 (by omega) (by omega), Rs.bind_ok]
  congr 1
  omega
theorem funs_back {T : List Tok} : ∀ (Q : List Fu), (∀ f ∈ Q, PF f) → ∀ n fs i, AtT T i (showP Q) → T.length = i + (showP Q).length → 4 * (showP Q).length + 1 ≤ n → funsT T n fs i = .ok (fs ++ Q) T.length
  | [], _, n, fs, i, hA, hl, hn => by
    obtain ⟨n, rfl⟩ : ∃ k, n = k + 1 := ⟨n - 1, by omega⟩
    rw [showP, List.length_nil] at hl
    rw [funsT, if_neg (by omega), List.append_nil, hl]
    rfl
  | f :: r, hp, n, fs, i, hA, hl, hn => by
    obtain ⟨n, rfl⟩ : ∃ k, n = k + 1 := ⟨n - 1, by omega⟩
    rw [showP] at hA
    rw [showP, List.length_append] at hl hn
    obtain ⟨a1, a2⟩ := hA.append
    have hlen : 5 ≤ (showF f).length := by unfold showF blkT; simp only [List.length_cons, List.length_append]; omega
    rw [funsT, if_pos (by omega), fun_back (hp f (by simp)) a1 (by omega), Rs.bind_ok, funs_back r (fun x hx => hp x (List.mem_cons_of_mem _ hx)) n (fs ++ [f]) _ a2 (by omega) (by omega), List.append_assoc]
    rfl
theorem at_self : ∀ (U V : List Tok), AtT (V ++ U) V.length (U.map fun t => (t.kind, t.text))
  | [], _ => trivial
  | t :: r, V => by
    refine ⟨?_, ?_⟩
    · have : tk (V ++ t :: r) V.length = t := by simp [tk, List.getD_eq_getElem?_getD]
      rw [this]
      exact ⟨rfl, rfl⟩
    · have := at_self r (V ++ [t])
      rw [List.append_assoc, List.length_append] at this
      exact this
/-- Of a program that was parsed the tokens of its text make it again; they are no more. -/
theorem show_parse {T U : List Tok} (HT : ∀ t ∈ T, t.Good) (hT : T.length ≤ 1000) {P : List Fu} {j : Nat} (h : parseT T = .ok P j) (hU : U.map (fun t => (t.kind, t.text)) = showP P) : (∀ f ∈ P, PF f) ∧ U.length ≤ T.length ∧ parseT U = .ok P U.length := by
  have hto := parse_to T hT
  rw [h] at hto
  obtain ⟨Q, hq, k1, k2, k3⟩ := made_funs HT 4020 [] 0 P j h
  rw [List.nil_append] at hq
  subst hq
  have hlen : U.length = (showP P).length := by rw [← hU, List.length_map]
  have hj := hto.2
  refine ⟨k1, by omega, ?_⟩
  have hA := at_self U []
  rw [hU] at hA
  have := funs_back (T := U) P k1 4020 [] 0 hA (by omega) (by omega)
  rwa [List.nil_append] at this
end Go.Proofs.YtcebpmaggnephabDoor

/-
  Our own: plain mathematics of programs as text: tokens and blanks, one behind the other, are read as those tokens.
-/
namespace Go.Proofs.YtcebpmaggnephabDoor
open Go.RowKit

/-- A token, or a blank byte. -/
inductive It where
  | tok (t : TK)
  | bl (c : UInt8)
def It.bytes : It → List UInt8
  | .tok t => t.2
  | .bl c => [c]
def bytesI : List It → List UInt8
  | [] => []
  | x :: r => x.bytes ++ bytesI r
def toksI : List It → List TK
  | [] => []
  | .tok t :: r => t :: toksI r
  | .bl _ :: r => toksI r
theorem bytesI_append (a b : List It) : bytesI (a ++ b) = bytesI a ++ bytesI b := by
  induction a with
  | nil => rfl
  | cons x r ih => rw [List.cons_append, bytesI, bytesI, ih, List.append_assoc]
theorem toksI_append (a b : List It) : toksI (a ++ b) = toksI a ++ toksI b := by
  induction a with
  | nil => rfl
  | cons x r ih => cases x <;> simp [toksI, ih]
/-- May this byte stand right behind the token? -/
def safeB (k x : List UInt8) (c : UInt8) : Prop := if k = kSign then ∀ a, x = [a] → twosL.contains [a, c] = false else isLD c = false
def GoodT (t : TK) : Prop := t.2 ≠ [] ∧ firstOf t.2 = (t.1, t.2.length) ∧ ∀ c r, t.2 = c :: r → isB c = false
theorem isLD_parts {c : UInt8} (h : isLD c = false) : isL c = false ∧ isD c = false := by
  unfold isLD at h
  simpa using h
theorem firstOf_safe {k x : List UInt8} (hx : x ≠ []) (hg : firstOf x = (k, x.length)) {c : UInt8} (hs : safeB k x c) (t : List UInt8) : firstOf (x ++ c :: t) = (k, x.length) := by
  cases x with
  | nil => exact absurd rfl hx
  | cons d r =>
    have key : ∀ y, firstOf (d :: y) = if isL d = true then nameOf (d :: y) else if isD d = true then (kNum, numOf (d :: y)) else (kSign, signOf (d :: y)) := fun y => rfl
    rw [List.cons_append, key]
    rw [key] at hg
    by_cases hL : isL d = true
    · rw [if_pos hL] at hg ⊢
      have hkn : k ≠ kSign := by
        rintro rfl
        unfold nameOf at hg
        by_cases g1 : 8 < spanN isLD (d :: r)
        · rw [if_pos g1] at hg; exact absurd (Prod.mk.inj hg).1 (by decide)
        · rw [if_neg g1] at hg
          by_cases g2 : wordsL.contains (List.take (spanN isLD (d :: r)) (d :: r)) = true
          · rw [if_pos g2] at hg; exact absurd (Prod.mk.inj hg).1 (by decide)
          · rw [if_neg g2] at hg; exact absurd (Prod.mk.inj hg).1 (by decide)
      unfold safeB at hs
      rw [if_neg hkn] at hs
      rw [← hg]
      have e := spanN_stop isLD hs t (d :: r)
      rw [List.cons_append] at e
      unfold nameOf
      rw [e]
      have hle := spanN_le isLD (d :: r)
      rw [show (d :: (r ++ c :: t)).take (spanN isLD (d :: r)) = (d :: r).take (spanN isLD (d :: r)) by rw [← List.cons_append, List.take_append_of_le_length hle]]
    · rw [if_neg hL] at hg ⊢
      by_cases hD : isD d = true
      · rw [if_pos hD] at hg ⊢
        have hk : kNum = k := (Prod.mk.inj hg).1
        subst hk
        unfold safeB at hs
        rw [if_neg (by decide)] at hs
        obtain ⟨s1, s2⟩ := isLD_parts hs
        rw [← hg]
        have e := spanN_stop isD s2 t (d :: r)
        rw [List.cons_append] at e
        unfold numOf
        rw [e]
        have hle := spanN_le isD (d :: r)
        have hdr : (d :: (r ++ c :: t)).drop (spanN isD (d :: r)) = (d :: r).drop (spanN isD (d :: r)) ++ c :: t := by rw [← List.cons_append, List.drop_append_of_le_length hle]
        have hfo : follows ((d :: r).drop (spanN isD (d :: r)) ++ c :: t) = follows ((d :: r).drop (spanN isD (d :: r))) := by
          cases (d :: r).drop (spanN isD (d :: r)) with
          | nil => simp [follows, s1]
          | cons q s => rfl
        rw [hdr, hfo]
        rfl
      · rw [if_neg hD] at hg ⊢
        have hk : kSign = k := (Prod.mk.inj hg).1
        subst hk
        unfold safeB at hs
        rw [if_pos rfl] at hs
        rw [← hg]
        cases r with
        | nil =>
          have := hs d rfl
          simp only [List.nil_append, signOf, this]
          simp
        | cons b r => rfl
def headI (l : List It) (z : Option UInt8) : Option UInt8 := (bytesI l).head?.or z
/-- Tokens that are read as they stand, with a byte behind all of them. -/
def OkI : List It → Option UInt8 → Prop
  | [], _ => True
  | .bl c :: r, z => isB c = true ∧ OkI r z
  | .tok t :: r, z => GoodT t ∧ (∀ c, headI r z = some c → safeB t.1 t.2 c) ∧ OkI r z
theorem headI_append (a b : List It) (z : Option UInt8) : headI (a ++ b) z = headI a (headI b z) := by
  unfold headI
  rw [bytesI_append, List.head?_append, Option.or_assoc]
theorem OkI.append {b : List It} {z : Option UInt8} (hb : OkI b z) : ∀ {a : List It}, OkI a (headI b z) → OkI (a ++ b) z
  | [], _ => hb
  | .bl c :: r, h => ⟨h.1, OkI.append hb h.2⟩
  | .tok t :: r, h => ⟨h.1, fun c hc => h.2.1 c (by rw [← headI_append]; exact hc), OkI.append hb h.2.2⟩
theorem scan_items : ∀ (l : List It), OkI l none → ∀ p, ∃ U, Scan p (bytesI l) U none ∧ U.map (fun t => (t.kind, t.text)) = toksI l
  | [], _, p => ⟨[], .nil p, rfl⟩
  | .bl c :: r, h, p => by
    obtain ⟨U, h1, h2⟩ := scan_items r h.2 (p + 1)
    exact ⟨U, .blank h.1 h1, h2⟩
  | .tok t :: r, h, p => by
    obtain ⟨⟨g1, g2, g3⟩, hs, h'⟩ := h
    obtain ⟨U, h1, h2⟩ := scan_items r h' (p + t.2.length)
    have hfi : firstOf (t.2 ++ bytesI r) = (t.1, t.2.length) := by
      cases hb : bytesI r with
      | nil => rw [List.append_nil]; exact g2
      | cons c s => exact firstOf_safe g1 g2 (hs c (by unfold headI; rw [hb]; rfl)) s
    obtain ⟨c, q, hc⟩ : ∃ c q, t.2 = c :: q := by
      cases ht : t.2 with
      | nil => exact absurd ht g1
      | cons c q => exact ⟨c, q, rfl⟩
    refine ⟨⟨t.1, t.2, p⟩ :: U, ?_, ?_⟩
    · have := Scan.tokAt (p := p) (n := t.2.length) (c := c) (l := t.2 ++ bytesI r) (r := q ++ bytesI r) (k := t.1) (ts := U) (e := none) (by rw [hc]; rfl) (g3 c q hc) hfi (by rw [hc]; simp) (by rw [List.drop_left]; exact h1)
      rw [List.take_left] at this
      exact this
    · rw [List.map_cons, toksI, h2]
/-! Good tokens. -/
theorem good_sign {x : List UInt8} (h : x ∈ [[40], [41], [44], [59], [61], [123], [125], [43], [45], [42], [47], [37], [38], [124], [94], [60], [33], [60, 60], [62, 62], [60, 61], [61, 61], [33, 61]]) : GoodT (kSign, x) := by
  simp only [List.mem_cons, List.not_mem_nil, or_false] at h
  rcases h with rfl | rfl | rfl | rfl | rfl | rfl | rfl | rfl | rfl | rfl | rfl | rfl | rfl | rfl | rfl | rfl | rfl | rfl | rfl | rfl | rfl | rfl
  all_goals exact ⟨by decide, by decide, fun c r hc => by injection hc with hc _; subst hc; decide⟩
theorem good_word {x : List UInt8} (h : x ∈ [kFn, kVar, kIf, kElse, kWhile, kReturn, kPrint]) : GoodT (kWord, x) := by
  simp only [List.mem_cons, List.not_mem_nil, or_false] at h
  rcases h with rfl | rfl | rfl | rfl | rfl | rfl | rfl
  all_goals exact ⟨by decide, by decide, fun c r hc => by injection hc with hc _; subst hc; decide⟩
theorem level_mem {m : List UInt8} (h : 1 ≤ signLevel m) : m ∈ [[43], [45], [42], [47], [37], [38], [124], [94], [60], [60, 60], [62, 62], [60, 61], [61, 61], [33, 61]] := by
  unfold signLevel at h
  simp only [List.mem_cons, List.not_mem_nil, or_false]
  repeat' split at h
  all_goals first
    | omega
    | (next hm => rcases hm with hm | hm | hm <;> simp [hm])
    | (next hm => rcases hm with hm | hm <;> simp [hm])
    | (next hm => simp [hm])
theorem nameG_head {m : List UInt8} (h : nameG m) : ∃ c r, m = c :: r ∧ isL c = true := by
  obtain ⟨h1, h2⟩ := h
  cases m with
  | nil => exact absurd rfl h1
  | cons c r =>
    refine ⟨c, r, rfl, ?_⟩
    have h3 : (if isL c = true then nameOf (c :: r) else if isD c = true then (kNum, numOf (c :: r)) else (kSign, signOf (c :: r))) = (kName, (c :: r).length) := h2
    by_cases hL : isL c = true
    · exact hL
    · rw [if_neg hL] at h3
      by_cases hD : isD c = true
      · rw [if_pos hD] at h3; exact absurd (Prod.mk.inj h3).1 (by decide)
      · rw [if_neg hD] at h3; exact absurd (Prod.mk.inj h3).1 (by decide)
theorem notB_of {c : UInt8} (h : isL c = true ∨ isD c = true) : isB c = false := by
  unfold isL isD at h
  unfold isB
  apply decide_eq_false
  rcases h with h | h <;> have := of_decide_eq_true h <;> omega
theorem good_name {m : List UInt8} (h : nameG m) : GoodT (kName, m) := by
  refine ⟨h.1, h.2, fun c r hc => ?_⟩
  obtain ⟨c', r', e, hl⟩ := nameG_head h
  rw [show m = c :: r from hc] at e
  injection e with e _
  subst e
  exact notB_of (Or.inl hl)
theorem digit_D (n : Nat) (h : n < 10) : isD (UInt8.ofNat (48 + n)) = true := by
  unfold isD
  apply decide_eq_true
  rw [UInt8.toNat_ofNat']; omega
theorem digsF_all : ∀ (f n : Nat), ∀ c ∈ digsF f n, isD c = true
  | 0, _, _, h => absurd h (by simp [digsF])
  | f + 1, n, c, h => by
    rw [digsF] at h
    split at h
    · next h1 => rw [List.mem_singleton.1 h]; exact digit_D n h1
    · rcases List.mem_append.1 h with h | h
      · exact digsF_all f _ c h
      · rw [List.mem_singleton.1 h]; exact digit_D _ (by omega)
theorem digsF_len : ∀ (f n : Nat), n < 10 ^ f → 0 < f → 1 ≤ (digsF f n).length ∧ (digsF f n).length ≤ f
  | 0, _, _, h => absurd h (by omega)
  | f + 1, n, h, _ => by
    rw [digsF]
    split
    · simp
    · next h1 =>
      rw [List.length_append]
      have hf : 0 < f := by
        rcases Nat.eq_zero_or_pos f with h0 | h0
        · subst h0; simp at h; omega
        · exact h0
      have := digsF_len f (n / 10) (by rw [Nat.pow_succ] at h; omega) hf
      simp; omega
theorem digsF_more : ∀ (f n : Nat), n < 10 ^ f → 0 < f → digsF (f + 1) n = digsF f n
  | 0, _, _, h => absurd h (by omega)
  | f + 1, n, h, _ => by
    by_cases h1 : n < 10
    · have e1 : digsF (f + 1 + 1) n = [UInt8.ofNat (48 + n)] := if_pos h1
      have e2 : digsF (f + 1) n = [UInt8.ofNat (48 + n)] := if_pos h1
      rw [e1, e2]
    · have hf : 0 < f := by
        rcases Nat.eq_zero_or_pos f with h0 | h0
        · subst h0; simp at h; omega
        · exact h0
      have e1 : digsF (f + 1 + 1) n = digsF (f + 1) (n / 10) ++ [UInt8.ofNat (48 + n % 10)] := if_neg h1
      have e2 : digsF (f + 1) n = digsF f (n / 10) ++ [UInt8.ofNat (48 + n % 10)] := if_neg h1
      rw [e1, e2, digsF_more f (n / 10) (by rw [Nat.pow_succ] at h; omega) hf]
theorem digsF_head : ∀ (f n : Nat), n < 10 ^ f → 0 < f → (digsF f n).head? = some 48 → (digsF f n).length = 1
  | 0, _, _, h, _ => absurd h (by omega)
  | f + 1, n, h, _, hh => by
    rw [digsF] at hh ⊢
    split at hh
    · next h1 => rw [if_pos h1]; rfl
    · next h1 =>
      exfalso
      have hf : 0 < f := by
        rcases Nat.eq_zero_or_pos f with h0 | h0
        · subst h0; simp at h; omega
        · exact h0
      have hlt : n / 10 < 10 ^ f := by rw [Nat.pow_succ] at h; omega
      have hlen := digsF_len f (n / 10) hlt hf
      rw [List.head?_append] at hh
      cases hd : digsF f (n / 10) with
      | nil => rw [hd] at hlen; simp at hlen
      | cons c r =>
        rw [hd] at hh
        have hc : c = 48 := by simpa using hh
        have h1' := digsF_head f (n / 10) hlt hf (by rw [hd, hc]; rfl)
        rw [hd] at h1'
        have hr : r = [] := by simpa using h1'
        have hv := numV_digsF f (n / 10) hlt
        rw [hd, hc, hr] at hv
        have : numV [48] = 0 := by decide
        omega
theorem good_numS (v : Nat) (h : v < 1000000000000000000) : GoodT (kNum, digs v) := by
  have h20 : digs v = digsF 18 v := by
    unfold digs
    rw [digsF_more 19 v (by omega) (by omega), digsF_more 18 v (by omega) (by omega)]
  have hlen := digsF_len 18 v (by omega) (by omega)
  have hall := digsF_all 18 v
  have hhead := digsF_head 18 v (by omega) (by omega)
  have hspan : spanN isD (digsF 18 v) = (digsF 18 v).length := spanN_eq isD _ _ (Nat.le_refl _) (fun i hi _ => hall _ (List.getElem_mem hi)) (fun h => absurd h (Nat.lt_irrefl _))
  rw [h20]
  show digsF 18 v ≠ [] ∧ firstOf (digsF 18 v) = (kNum, (digsF 18 v).length) ∧ ∀ c r, digsF 18 v = c :: r → isB c = false
  generalize digsF 18 v = l at hlen hall hhead hspan
  cases l with
  | nil => simp at hlen
  | cons c r =>
    have hc := hall c (by simp)
    have hL : ¬ isL c = true := by
      unfold isD at hc
      unfold isL
      have := of_decide_eq_true hc
      intro h'
      have := of_decide_eq_true h'
      omega
    refine ⟨by simp, ?_, fun c' r' e => ?_⟩
    · show (if isL c = true then nameOf (c :: r) else if isD c = true then (kNum, numOf (c :: r)) else (kSign, signOf (c :: r))) = _
      rw [if_neg hL, if_pos hc]
      unfold numOf
      rw [hspan, if_neg]
      rintro (⟨q1, q2⟩ | q | q)
      · have := hhead q1; omega
      · rw [List.drop_length] at q; exact absurd q (by simp [follows])
      · omega
    · injection e with e _
      subst e
      exact notB_of (Or.inr hc)
end Go.Proofs.YtcebpmaggnephabDoor

/-
  Our own: plain mathematics of programs as text: what is written of a program, tokens and blanks, is read as its tokens.
-/
namespace Go.Proofs.YtcebpmaggnephabDoor
open Go.RowKit

abbrev sg (x : List UInt8) : It := .tok (kSign, x)
abbrev wd (x : List UInt8) : It := .tok (kWord, x)
abbrev nm (x : List UInt8) : It := .tok (kName, x)
abbrev sp : It := .bl 32
def parI (b : Bool) (x : List It) : List It := if b then sg [40] :: (x ++ [sg [41]]) else x
def commasI : List (List It) → List It
  | [] => []
  | [x] => x
  | x :: y :: r => x ++ sg [44] :: sp :: commasI (y :: r)
def combI (k : List UInt8) (n : Int) (m : List UInt8) (ks : List Ex) (L : List (List It)) : List It :=
  if k = kNumE then [.tok (kNum, digs n.toNat)]
  else if k = kName then [nm m]
  else if k = kCall then nm m :: sg [40] :: (commasI L ++ [sg [41]])
  else if k = kOne then sg m :: parI (needsP (ks.getD 0 exZ) 9) (L.getD 0 [])
  else parI (needsP (ks.getD 0 exZ) (signLevel m)) (L.getD 0 []) ++ sp :: sg m :: sp :: parI (needsP (ks.getD 1 exZ) (signLevel m + 1)) (L.getD 1 [])
mutual
def itE : Ex → List It
  | .mk k n m ks => combI k n m ks (itL ks)
def itL : List Ex → List (List It)
  | [] => []
  | e :: r => itE e :: itL r
end
theorem itE_num (v : Nat) : itE (.mk kNumE v [] []) = [.tok (kNum, digs v)] := by simp [itE, combI]
theorem itE_name (m : List UInt8) : itE (.mk kName 0 m []) = [nm m] := by simp [itE, combI, kName, kNumE]
theorem itE_call (m : List UInt8) (ks : List Ex) : itE (.mk kCall 0 m ks) = nm m :: sg [40] :: (commasI (itL ks) ++ [sg [41]]) := by simp [itE, combI, kName, kNumE, kCall]
theorem itE_one (m : List UInt8) (a : Ex) : itE (.mk kOne 0 m [a]) = sg m :: parI (needsP a 9) (itE a) := by simp [itE, itL, combI, kName, kNumE, kCall, kOne]
theorem itE_two (m : List UInt8) (a b : Ex) : itE (.mk kTwo 0 m [a, b]) = parI (needsP a (signLevel m)) (itE a) ++ sp :: sg m :: sp :: parI (needsP b (signLevel m + 1)) (itE b) := by simp [itE, itL, combI, kName, kNumE, kCall, kOne, kTwo]
/-! The tokens. -/
theorem toks_par (b : Bool) (x : List It) : toksI (parI b x) = parT b (toksI x) := by
  cases b
  · rfl
  · show toksI (sg [40] :: (x ++ [sg [41]])) = _
    rw [toksI, toksI_append]; rfl
theorem toks_commas : ∀ (L : List (List It)), toksI (commasI L) = commas (L.map toksI)
  | [] => rfl
  | [x] => rfl
  | x :: y :: r => by
    rw [commasI, toksI_append, toksI, toksI, toks_commas (y :: r)]
    rfl
theorem toks_comb (k : List UInt8) (n : Int) (m : List UInt8) (ks : List Ex) (L : List (List It)) : toksI (combI k n m ks L) = combT k n m ks (L.map toksI) := by
  have hg : ∀ i, (L.map toksI).getD i [] = toksI (L.getD i []) := fun i => by
    rw [List.getD_eq_getElem?_getD, List.getD_eq_getElem?_getD, List.getElem?_map]
    cases L[i]? <;> rfl
  unfold combI combT
  repeat' split
  all_goals simp only [toksI, toksI_append, toks_par, toks_commas, hg]
mutual
theorem toks_expr : ∀ (e : Ex), toksI (itE e) = showE e
  | .mk k n m ks => by rw [itE, showE, toks_comb, toks_list ks]
theorem toks_list : ∀ (l : List Ex), (itL l).map toksI = showL l
  | [] => rfl
  | e :: r => by rw [itL, showL, List.map_cons, toks_expr e, toks_list r]
end
/-! Each is read as it stands. -/
def SafeC (c : UInt8) : Prop := isLD c = false ∧ c ≠ 60 ∧ c ≠ 61 ∧ c ≠ 62
def NoTwo (c : UInt8) : Prop := c ≠ 60 ∧ c ≠ 61 ∧ c ≠ 62
theorem two_of {c : UInt8} (h : NoTwo c) (a : UInt8) : twosL.contains [a, c] = false := by
  obtain ⟨h1, h2, h3⟩ := h
  simp [twosL, h1, h2, h3]
theorem safe_any {c : UInt8} (h : SafeC c) (k x : List UInt8) : safeB k x c := by
  unfold safeB
  split
  · exact fun a _ => two_of h.2 a
  · exact h.1
theorem safe_sign {c : UInt8} (h : NoTwo c) (x : List UInt8) : safeB kSign x c := by
  unfold safeB
  rw [if_pos rfl]
  exact fun a _ => two_of h a
def SafeZ (z : Option UInt8) : Prop := ∀ c, z = some c → SafeC c
theorem safeZ_some {c : UInt8} (h : SafeC c) : SafeZ (some c) := fun d hd => by injection hd with hd; subst hd; exact h
theorem okTok {t : TK} {r : List It} {z : Option UInt8} (hg : GoodT t) (hs : SafeZ (headI r z)) (h : OkI r z) : OkI (.tok t :: r) z := ⟨hg, fun c hc => safe_any (hs c hc) _ _, h⟩
theorem okSp {r : List It} {z : Option UInt8} (h : OkI r z) : OkI (sp :: r) z := ⟨by decide, h⟩
theorem head_tok (t : TK) (r : List It) (z : Option UInt8) {c : UInt8} {q : List UInt8} (h : t.2 = c :: q) : headI (.tok t :: r) z = some c := by
  unfold headI
  rw [bytesI, It.bytes, h]; rfl
theorem head_bl (c : UInt8) (r : List It) (z : Option UInt8) : headI (.bl c :: r) z = some c := rfl
theorem head_nil (z : Option UInt8) : headI [] z = z := by unfold headI; rfl
/-- The first byte of an expression's text. -/
def HeadE (l : List It) : Prop := ∃ c, NoTwo c ∧ ∀ z, headI l z = some c
theorem HeadE.par {x : List It} (h : HeadE x) (b : Bool) : HeadE (parI b x) := by
  cases b
  · exact h
  · exact ⟨40, by unfold NoTwo; decide, fun z => head_tok _ _ _ rfl⟩
theorem HeadE.app {x : List It} (h : HeadE x) (y : List It) : HeadE (x ++ y) := by
  obtain ⟨c, hc, hz⟩ := h
  exact ⟨c, hc, fun z => by rw [headI_append]; exact hz _⟩
theorem headE_tok {t : TK} {r : List It} {c : UInt8} {q : List UInt8} (h : t.2 = c :: q) (hc : NoTwo c) : HeadE (.tok t :: r) := ⟨c, hc, fun _ => head_tok _ _ _ h⟩
theorem noTwo_ld {c : UInt8} (h : isL c = true ∨ isD c = true) : NoTwo c := by
  unfold isL isD at h
  refine ⟨?_, ?_, ?_⟩ <;> (rintro rfl; revert h; decide)
theorem digs_head (v : Nat) : ∃ c q, digs v = c :: q ∧ isD c = true := by
  have h : digs v ≠ [] := by
    unfold digs
    rw [digsF]
    split <;> simp
  cases hd : digs v with
  | nil => exact absurd hd h
  | cons c q => exact ⟨c, q, rfl, digsF_all 20 v c (by show c ∈ digs v; rw [hd]; simp)⟩
def OkE (e : Ex) : Prop := HeadE (itE e) ∧ ∀ z, SafeZ z → OkI (itE e) z
theorem okPar {x : List It} (b : Bool) (h : ∀ z, SafeZ z → OkI x z) (hh : HeadE x) {z : Option UInt8} (hz : SafeZ z) : OkI (parI b x) z := by
  cases b
  · exact h z hz
  · obtain ⟨c, hc, hx⟩ := hh
    refine ⟨good_sign (by simp), fun d hd => ?_, OkI.append (b := [sg [41]]) (okTok (good_sign (by simp)) (by rw [head_nil]; exact hz) trivial) (h _ ?_)⟩
    · rw [headI_append, hx] at hd
      injection hd with hd
      subst hd
      exact safe_sign hc _
    · rw [head_tok (kSign, [41]) [] z rfl]
      exact safeZ_some (by unfold SafeC; decide)
theorem okCommas : ∀ (l : List Ex), (∀ e ∈ l, OkE e) → ∀ z, SafeZ z → OkI (commasI (itL l)) z
  | [], _, _, _ => trivial
  | [e], h, z, hz => (h e (by simp)).2 z hz
  | e :: f :: r, h, z, hz => by
    show OkI (itE e ++ sg [44] :: sp :: commasI (itL (f :: r))) z
    refine OkI.append (okTok (good_sign (by simp)) (by rw [head_bl]; exact safeZ_some (by unfold SafeC; decide)) (okSp (okCommas (f :: r) (fun x hx => h x (List.mem_cons_of_mem _ hx)) z hz))) ((h e (by simp)).2 _ ?_)
    rw [head_tok (kSign, [44]) _ z rfl]
    exact safeZ_some (by unfold SafeC; decide)
theorem head_commas (l : List Ex) (h : ∀ e ∈ l, OkE e) {c : UInt8} (hc : NoTwo c) : ∃ d, NoTwo d ∧ headI (commasI (itL l)) (some c) = some d := by
  match l, h with
  | [], _ => exact ⟨c, hc, rfl⟩
  | [e], h =>
    obtain ⟨⟨d, hd, hz⟩, _⟩ := h e (by simp)
    exact ⟨d, hd, hz _⟩
  | e :: f :: r, h =>
    obtain ⟨⟨d, hd, hz⟩, _⟩ := h e (by simp)
    exact ⟨d, hd, by show headI (itE e ++ _) _ = _; rw [headI_append]; exact hz _⟩
theorem ok_expr1 {k : List UInt8} {n : Int} {m : List UInt8} {ks : List Ex} (hp : PE (.mk k n m ks)) (hl : ∀ e ∈ ks, OkE e) : OkE (.mk k n m ks) := by
  rcases hp.cases with ⟨v, hv, he⟩ | ⟨m', hm, he⟩ | ⟨m', ks', hm, _, he⟩ | ⟨m', a, hm, _, he⟩ | ⟨m', a, b, hm, _, _, he⟩
  all_goals
    injection he with e1 e2 e3 e4
    subst e1; subst e2; subst e3; subst e4
  · rw [OkE, itE_num]
    obtain ⟨c, q, hd, hc⟩ := digs_head v
    exact ⟨headE_tok hd (noTwo_ld (Or.inr hc)), fun z hz => okTok (good_numS v hv) (by rw [head_nil]; exact hz) trivial⟩
  · rw [OkE, itE_name]
    obtain ⟨c, q, hd, hc⟩ := nameG_head hm
    exact ⟨headE_tok hd (noTwo_ld (Or.inl hc)), fun z hz => okTok (good_name hm) (by rw [head_nil]; exact hz) trivial⟩
  · rw [OkE, itE_call]
    obtain ⟨c, q, hd, hc⟩ := nameG_head hm
    refine ⟨headE_tok hd (noTwo_ld (Or.inl hc)), fun z hz => okTok (good_name hm) (by rw [head_tok (kSign, [40]) _ z rfl]; exact safeZ_some (by unfold SafeC; decide)) ⟨good_sign (by simp), fun c hc => ?_, OkI.append (b := [sg [41]]) (okTok (good_sign (by simp)) (by rw [head_nil]; exact hz) trivial) (okCommas _ hl _ ?_)⟩⟩
    · rw [headI_append, head_tok (kSign, [41]) _ z rfl] at hc
      obtain ⟨d, hd, hh⟩ := head_commas ks hl (c := 41) (by unfold NoTwo; decide)
      rw [hh] at hc
      injection hc with hc
      subst hc
      exact safe_sign hd _
    · rw [head_tok (kSign, [41]) _ z rfl]
      exact safeZ_some (by unfold SafeC; decide)
  · rw [OkE, itE_one]
    obtain ⟨ha1, ha2⟩ := hl a (by simp)
    have hm2 : ∃ c, m = [c] ∧ NoTwo c := by
      rcases hm with rfl | rfl
      · exact ⟨45, rfl, by unfold NoTwo; decide⟩
      · exact ⟨33, rfl, by unfold NoTwo; decide⟩
    obtain ⟨c, rfl, hc⟩ := hm2
    refine ⟨headE_tok rfl hc, fun z hz => ⟨good_sign (by rcases hm with hm | hm <;> (rw [hm]; simp)), fun d hd => ?_, okPar _ ha2 ha1 hz⟩⟩
    obtain ⟨x, hx, hh⟩ := ha1.par (needsP a 9)
    rw [hh] at hd
    injection hd with hd
    subst hd
    exact safe_sign hx _
  · rw [OkE, itE_two]
    obtain ⟨ha1, ha2⟩ := hl a (by simp)
    obtain ⟨hb1, hb2⟩ := hl b (by simp)
    refine ⟨(ha1.par _).app _, fun z hz => OkI.append (okSp (okTok (good_sign ?_) (by rw [head_bl]; exact safeZ_some (by unfold SafeC; decide)) (okSp (okPar _ hb2 hb1 hz)))) (okPar _ ha2 ha1 (by rw [head_bl]; exact safeZ_some (by unfold SafeC; decide)))⟩
    have := level_mem hm
    simp only [List.mem_cons, List.not_mem_nil, or_false] at this ⊢
    rcases this with h | h | h | h | h | h | h | h | h | h | h | h | h | h <;> simp [h]
mutual
theorem ok_expr : ∀ (e : Ex), PE e → OkE e
  | .mk _ _ _ ks, hp => ok_expr1 hp (ok_list ks hp.2)
theorem ok_list : ∀ (l : List Ex), PEs l → ∀ e ∈ l, OkE e
  | [], _, _, h => absurd h (by simp)
  | x :: r, hp, s, h => by
    rcases List.mem_cons.1 h with h | h
    · rw [h]; exact ok_expr x hp.1
    · exact ok_list r hp.2 s h
end
end Go.Proofs.YtcebpmaggnephabDoor

/-
  Our own: plain mathematics of programs as text: the lines of statements and functions; what is written of a parsed program is read as its tokens.
-/
namespace Go.Proofs.YtcebpmaggnephabDoor
open Go.RowKit

def tabsI (d : Nat) : List It := List.replicate d (.bl 9)
def lineI (d : Nat) (x : List It) : List It := tabsI d ++ (x ++ [.bl 10])
def combIS (d : Nat) (k m : List UInt8) (e : Ex) (o : List Sm) (x y : List It) : List It :=
  if k = kVar then lineI d (wd kVar :: sp :: nm m :: sp :: sg [61] :: sp :: (itE e ++ [sg [59]]))
  else if k = kSet then lineI d (nm m :: sp :: sg [61] :: sp :: (itE e ++ [sg [59]]))
  else if k = kIf then lineI d (wd kIf :: sp :: (itE e ++ [sp, sg [123]])) ++ (x ++ ((if o.isEmpty then [] else lineI d [sg [125], sp, wd kElse, sp, sg [123]] ++ y) ++ lineI d [sg [125]]))
  else if k = kWhile then lineI d (wd kWhile :: sp :: (itE e ++ [sp, sg [123]])) ++ (x ++ lineI d [sg [125]])
  else lineI d (wd k :: sp :: (itE e ++ [sg [59]]))
mutual
def itS (d : Nat) : Sm → List It
  | .mk k m e t o => combIS d k m e o (itSs (d + 1) t) (itSs (d + 1) o)
def itSs (d : Nat) : List Sm → List It
  | [] => []
  | s :: r => itS d s ++ itSs d r
end
def itF (f : Fu) : List It := lineI 0 (wd kFn :: sp :: nm f.name :: sg [40] :: (commasI (f.params.map fun p => [nm p]) ++ [sg [41], sp, sg [123]])) ++ (itSs 1 f.body ++ lineI 0 [sg [125]])
def itP : List Fu → List It
  | [] => []
  | f :: r => itF f ++ itP r
/-! The tokens. -/
theorem toks_tabs : ∀ d, toksI (tabsI d) = []
  | 0 => rfl
  | d + 1 => by
    show toksI (.bl 9 :: tabsI d) = []
    rw [toksI, toks_tabs d]
theorem toks_line (d : Nat) (x : List It) : toksI (lineI d x) = toksI x := by
  rw [lineI, toksI_append, toksI_append, toks_tabs]
  simp [toksI]
theorem toks_combS (d : Nat) (k m : List UInt8) (e : Ex) (o : List Sm) (x y : List It) : toksI (combIS d k m e o x y) = combS k m e o (toksI x) (toksI y) := by
  unfold combIS combS
  repeat' split
  all_goals simp [toksI, toksI_append, toks_line, toks_expr, blkT]
mutual
theorem toks_stmt (d : Nat) : ∀ (s : Sm), toksI (itS d s) = showS s
  | .mk k m e t o => by rw [itS, showS, toks_combS, toks_stmts (d + 1) t, toks_stmts (d + 1) o]
theorem toks_stmts (d : Nat) : ∀ (l : List Sm), toksI (itSs d l) = showSs l
  | [] => by rw [itSs, showSs, toksI]
  | s :: r => by rw [itSs, showSs, toksI_append, toks_stmt d s, toks_stmts d r]
end
theorem toks_fun (f : Fu) : toksI (itF f) = showF f := by
  have h : (f.params.map fun p => [nm p]).map toksI = f.params.map fun p => [(kName, p)] := by
    rw [List.map_map]; rfl
  unfold itF showF
  simp [toksI, toksI_append, toks_line, toks_stmts, blkT, toks_commas, parsT, h]
theorem toks_prog : ∀ (P : List Fu), toksI (itP P) = showP P
  | [] => rfl
  | f :: r => by rw [itP, showP, toksI_append, toks_fun f, toks_prog r]
/-! Each is read as it stands. -/
def OkA (x : List It) : Prop := ∀ z, OkI x z
theorem OkA.app {x y : List It} (h : OkA x) (k : OkA y) : OkA (x ++ y) := fun z => OkI.append (k z) (h _)
theorem ok_tabs : ∀ d, OkA (tabsI d)
  | 0, _ => trivial
  | d + 1, z => ⟨by decide, ok_tabs d z⟩
theorem ok_line (d : Nat) {x : List It} (h : OkI x (some 10)) : OkA (lineI d x) := (ok_tabs d).app fun z => OkI.append (b := [.bl 10]) ⟨by decide, trivial⟩ h
theorem okSg {x : List UInt8} {r : List It} {z : Option UInt8} {c : UInt8} (hx : x ∈ [[40], [41], [44], [59], [61], [123], [125]]) (hs : headI r z = some c) (hc : SafeC c) (h : OkI r z) : OkI (sg x :: r) z := by
  refine okTok (good_sign ?_) (by rw [hs]; exact safeZ_some hc) h
  simp only [List.mem_cons, List.not_mem_nil, or_false] at hx ⊢
  rcases hx with rfl | rfl | rfl | rfl | rfl | rfl | rfl <;> simp
theorem safe10 : SafeC 10 := by unfold SafeC; decide
theorem safe32 : SafeC 32 := by unfold SafeC; decide
theorem safe59 : SafeC 59 := by unfold SafeC; decide
theorem safe40 : SafeC 40 := by unfold SafeC; decide
theorem safe41 : SafeC 41 := by unfold SafeC; decide
theorem okWd {x : List UInt8} {r : List It} {z : Option UInt8} (hx : x ∈ [kFn, kVar, kIf, kElse, kWhile, kReturn, kPrint]) (h : OkI r z) : OkI (wd x :: sp :: r) z := okTok (good_word hx) (safeZ_some safe32) (okSp h)
theorem okNm {x : List UInt8} {r : List It} {z : Option UInt8} (hx : nameG x) (h : OkI r z) : OkI (nm x :: sp :: r) z := okTok (good_name hx) (safeZ_some safe32) (okSp h)
/-- '= E;' and a line's end. -/
theorem ok_give {e : Ex} (he : PE e) : OkI (itE e ++ [sg [59]]) (some 10) :=
  OkI.append (b := [sg [59]]) (okSg (c := 10) (by simp) rfl safe10 trivial) ((ok_expr e he).2 _ (by rw [head_tok (kSign, [59]) _ _ rfl]; exact safeZ_some safe59))
theorem ok_open {e : Ex} (he : PE e) : OkI (itE e ++ [sp, sg [123]]) (some 10) :=
  OkI.append (b := [sp, sg [123]]) (okSp (okSg (c := 10) (by simp) rfl safe10 trivial)) ((ok_expr e he).2 _ (by rw [head_bl]; exact safeZ_some safe32))
theorem ok_close (d : Nat) : OkA (lineI d [sg [125]]) := ok_line d (okSg (c := 10) (by simp) rfl safe10 trivial)
mutual
theorem ok_stmt (d : Nat) : ∀ (s : Sm), PS s → OkA (itS d s)
  | .mk k m e t o, hp => by
    obtain ⟨he, ht, ho, hk⟩ := hp
    have hbt := ok_stmts (d + 1) t ht
    have hbo := ok_stmts (d + 1) o ho
    rw [itS]
    generalize itSs (d + 1) t = x at hbt ⊢
    generalize itSs (d + 1) o = y at hbo ⊢
    rcases hk with ⟨rfl, hm, rfl, rfl⟩ | ⟨rfl, hm, rfl, rfl⟩ | ⟨rfl, rfl⟩ | ⟨rfl, rfl, rfl⟩ | ⟨rfl, rfl, rfl, rfl⟩ | ⟨rfl, rfl, rfl, rfl⟩
    · rw [combIS, if_pos rfl]
      exact ok_line d (okWd (by simp) (okNm hm (okSg (c := 32) (by simp) rfl safe32 (okSp (ok_give he)))))
    · rw [combIS, if_neg (by decide), if_pos rfl]
      exact ok_line d (okNm hm (okSg (c := 32) (by simp) rfl safe32 (okSp (ok_give he))))
    · rw [combIS, if_neg (by decide), if_neg (by decide), if_pos rfl]
      refine (ok_line d (okWd (by simp) (ok_open he))).app (hbt.app (OkA.app ?_ (ok_close d)))
      split
      · exact fun _ => trivial
      · exact (ok_line d (x := [sg [125], sp, wd kElse, sp, sg [123]]) (okSg (c := 32) (by simp) rfl safe32 (okSp (okWd (by simp) (okSg (r := []) (c := 10) (by simp) rfl safe10 trivial))))).app hbo
    · rw [combIS, if_neg (by decide), if_neg (by decide), if_neg (by decide), if_pos rfl]
      exact (ok_line d (okWd (by simp) (ok_open he))).app (hbt.app (ok_close d))
    · rw [combIS, if_neg (by decide), if_neg (by decide), if_neg (by decide), if_neg (by decide)]
      exact ok_line d (okWd (by simp) (ok_give he))
    · rw [combIS, if_neg (by decide), if_neg (by decide), if_neg (by decide), if_neg (by decide)]
      exact ok_line d (okWd (by simp) (ok_give he))
theorem ok_stmts (d : Nat) : ∀ (l : List Sm), PSs l → OkA (itSs d l)
  | [], _ => by rw [itSs]; exact fun _ => trivial
  | s :: r, hp => by rw [itSs]; exact (ok_stmt d s hp.1).app (ok_stmts d r hp.2)
end
theorem ok_pars : ∀ (l : List (List UInt8)), (∀ p ∈ l, nameG p) → ∀ z, SafeZ z → OkI (commasI (l.map fun p => [nm p])) z
  | [], _, _, _ => trivial
  | [p], h, z, hz => okTok (good_name (h p (by simp))) (by rw [head_nil]; exact hz) trivial
  | p :: q :: r, h, z, hz => by
    show OkI ([nm p] ++ sg [44] :: sp :: commasI ((q :: r).map fun p => [nm p])) z
    exact okTok (good_name (h p (by simp))) (show SafeZ (headI (sg [44] :: _) z) by rw [head_tok (kSign, [44]) _ z rfl]; exact safeZ_some (by unfold SafeC; decide)) (okSg (c := 32) (by simp) rfl safe32 (okSp (ok_pars (q :: r) (fun x hx => h x (List.mem_cons_of_mem _ hx)) z hz)))
theorem head_pars (l : List (List UInt8)) (h : ∀ p ∈ l, nameG p) {c : UInt8} (hc : NoTwo c) : ∃ d, NoTwo d ∧ headI (commasI (l.map fun p => [nm p])) (some c) = some d := by
  match l, h with
  | [], _ => exact ⟨c, hc, rfl⟩
  | [p], h =>
    obtain ⟨d, q, hd, hl⟩ := nameG_head (h p (by simp))
    exact ⟨d, noTwo_ld (Or.inl hl), head_tok _ _ _ hd⟩
  | p :: q :: r, h =>
    obtain ⟨d, t, hd, hl⟩ := nameG_head (h p (by simp))
    exact ⟨d, noTwo_ld (Or.inl hl), head_tok _ _ _ hd⟩
theorem ok_fun {f : Fu} (hf : PF f) : OkA (itF f) := by
  obtain ⟨h1, h2, h3, _⟩ := hf
  unfold itF
  have hin : OkI (sg [40] :: (commasI (f.params.map fun p => [nm p]) ++ [sg [41], sp, sg [123]])) (some 10) := by
    refine ⟨good_sign (by simp), fun c hc => ?_, OkI.append (b := [sg [41], sp, sg [123]]) (okSg (c := 32) (by simp) rfl safe32 (okSp (okSg (r := []) (c := 10) (by simp) rfl safe10 trivial))) (ok_pars _ h2 _ ?_)⟩
    · rw [headI_append, head_tok (kSign, [41]) _ _ rfl] at hc
      obtain ⟨d, hd, hh⟩ := head_pars f.params h2 (c := 41) (by unfold NoTwo; decide)
      rw [hh] at hc
      injection hc with hc
      subst hc
      exact safe_sign hd _
    · rw [head_tok (kSign, [41]) _ _ rfl]
      exact safeZ_some safe41
  exact (ok_line 0 (okWd (by simp) (okTok (good_name h1) (by rw [head_tok (kSign, [40]) _ _ rfl]; exact safeZ_some safe40) hin))).app ((ok_stmts 1 _ h3).app (ok_close 0))
theorem ok_prog : ∀ (P : List Fu), (∀ f ∈ P, PF f) → OkA (itP P)
  | [], _ => fun _ => trivial
  | f :: r, h => (ok_fun (h f (by simp))).app (ok_prog r fun g hg => h g (List.mem_cons_of_mem _ hg))
/-- What is written of a program. -/
def textP (P : List Fu) : List UInt8 := bytesI (itP P)
/-- The text of a parsed program is read as tokens that are parsed as it. -/
theorem text_back {T : List Tok} (HT : ∀ t ∈ T, t.Good) (hT : T.length ≤ 1000) {P : List Fu} {j : Nat} (h : parseT T = .ok P j) : ∃ U, Scan 0 (textP P) U none ∧ U.length ≤ T.length ∧ parseT U = .ok P U.length ∧ U.map (fun t => (t.kind, t.text)) = showP P := by
  have hp : ∀ f ∈ P, PF f := by
    obtain ⟨Q, hq, k1, _, _⟩ := made_funs HT 4020 [] 0 P j h
    rw [List.nil_append] at hq
    subst hq
    exact k1
  obtain ⟨U, h1, h2⟩ := scan_items (itP P) (ok_prog P hp none) 0
  rw [toks_prog] at h2
  obtain ⟨_, h3, h4⟩ := show_parse HT hT h h2
  exact ⟨U, h1, h3, h4, h2⟩
end Go.Proofs.YtcebpmaggnephabDoor
