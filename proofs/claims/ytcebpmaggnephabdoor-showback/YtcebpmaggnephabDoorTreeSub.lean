/-
  Our own: plain mathematics of trees: what a part of the tokens makes, and where braces stand. Nothing of the program stands here.
-/
import Derived.Test.YtcebpmaggnephabDoorTreeCut
namespace Go.Proofs.YtcebpmaggnephabDoor
open Go.RowKit

theorem Rs.bind_eq_ok {α β : Type} {x : Rs α} {f : α → Nat → Rs β} {b : β} {j : Nat} (h : x.bind f = .ok b j) : ∃ a i, x = .ok a i ∧ f a i = .ok b j := by
  cases x with
  | out => cases h
  | bad c k => cases h
  | ok a i => exact ⟨a, i, rfl, h⟩
/-- Tokens from m up to e. -/
def sub (T : List Tok) (m e : Nat) : List Tok := (T.take e).drop m
theorem tk_sub {T : List Tok} {m e i : Nat} (hm : m ≤ i) (h : i < e) : tk (sub T m e) (i - m) = tk T i := by
  have : m + (i - m) = i := by omega
  simp [sub, tk, List.getD_eq_getElem?_getD, this, h]
theorem tk_sub_end {T : List Tok} {m e : Nat} (hm : m ≤ e) : tk (sub T m e) (e - m) = ⟨[], [], 0⟩ := by
  have : m + (e - m) = e := by omega
  simp [sub, tk, List.getD_eq_getElem?_getD, List.getElem?_take, this]
theorem isT_sub {T : List Tok} {m e i : Nat} {k x : List UInt8} (hm : m ≤ i) (h : i < e) : isT (sub T m e) k x (i - m) ↔ isT T k x i := by
  unfold isT; rw [tk_sub hm h]
theorem isT_sub_end {T : List Tok} {m e : Nat} {k x : List UInt8} (hk : k ≠ []) (hm : m ≤ e) : ¬ isT (sub T m e) k x (e - m) := by
  unfold isT; rw [tk_sub_end hm]; exact fun e => hk e.1.symm
theorem need_ok {T : List Tok} {k x : List UInt8} {i j : Nat} {u : Unit} (h : needT T k x i = .ok u j) : isT T k x i ∧ j = i + 1 := by
  unfold needT at h
  split at h
  · next hi => cases h; exact ⟨hi, rfl⟩
  · cases h
theorem name_ok {T : List Tok} {i j : Nat} {y : List UInt8} (h : nameT T i = .ok y j) : (tk T i).kind = kName ∧ y = (tk T i).text ∧ j = i + 1 := by
  unfold nameT at h
  split at h
  · next hi => cases h; exact ⟨hi, rfl, rfl⟩
  · cases h
theorem need_sub {T : List Tok} {m e i j : Nat} {k x : List UInt8} {u : Unit} (hm : m ≤ i) (hj : j ≤ e) (h : needT T k x i = .ok u j) : needT (sub T m e) k x (i - m) = .ok u (j - m) := by
  obtain ⟨h1, rfl⟩ := need_ok h
  unfold needT
  rw [if_pos ((isT_sub hm (by omega)).2 h1), show i - m + 1 = i + 1 - m by omega]
theorem name_sub {T : List Tok} {m e i j : Nat} {y : List UInt8} (hm : m ≤ i) (hj : j ≤ e) (h : nameT T i = .ok y j) : nameT (sub T m e) (i - m) = .ok y (j - m) := by
  obtain ⟨h1, rfl, rfl⟩ := name_ok h
  unfold nameT
  rw [tk_sub hm (by omega), if_pos h1, show i - m + 1 = i + 1 - m by omega]
theorem expr_sub (T : List Tok) (m e : Nat) : ∀ n : Nat,
    (∀ n' d l i a j, n ≤ n' → m ≤ i → j ≤ e → 0 < l → exprT T n d l i = .ok a j → exprT (sub T m e) n' d l (i - m) = .ok a (j - m)) ∧
    (∀ n' d l x i a j, n ≤ n' → m ≤ i → j ≤ e → 0 < l → loopT T n d l x i = .ok a j → loopT (sub T m e) n' d l x (i - m) = .ok a (j - m)) ∧
    (∀ n' d i a j, n ≤ n' → m ≤ i → j ≤ e → singleT T n d i = .ok a j → singleT (sub T m e) n' d (i - m) = .ok a (j - m)) ∧
    (∀ n' d i a j, n ≤ n' → m ≤ i → j ≤ e → argsT T n d i = .ok a j → argsT (sub T m e) n' d (i - m) = .ok a (j - m)) ∧
    (∀ n' d es i a j, n ≤ n' → m ≤ i → j ≤ e → moreT T n d es i = .ok a j → moreT (sub T m e) n' d es (i - m) = .ok a (j - m)) := by
  intro n
  induction n with
  | zero => exact ⟨fun _ _ _ _ _ _ _ _ _ _ h => (by rw [exprT] at h; cases h), fun _ _ _ _ _ _ _ _ _ _ _ h => (by rw [loopT] at h; cases h), fun _ _ _ _ _ _ _ _ h => (by rw [singleT] at h; cases h), fun _ _ _ _ _ _ _ _ h => (by rw [argsT] at h; cases h), fun _ _ _ _ _ _ _ _ _ h => (by rw [moreT] at h; cases h)⟩
  | succ n ih =>
    obtain ⟨h1, h2, h3, h4, h5⟩ := ih
    obtain ⟨q1, q2, q3, q4, q5⟩ := expr_past T n
    refine ⟨fun n' d l i a j hn hm hj hl h => ?_, fun n' d l x i a j hn hm hj hl h => ?_, fun n' d i a j hn hm hj h => ?_, fun n' d i a j hn hm hj h => ?_, fun n' d es i a j hn hm hj h => ?_⟩ <;>
      obtain ⟨k, rfl⟩ : ∃ k, n' = k + 1 := ⟨n' - 1, by omega⟩
    · rw [exprT] at h ⊢
      obtain ⟨x, i2, hx, h⟩ := Rs.bind_eq_ok h
      have p1 := q3 d i x i2 hx
      have p2 := q2 d l x i2 a j h
      rw [h3 k d i x i2 (by omega) hm (by omega) hx, Rs.bind_ok]
      exact h2 k d l x i2 a j (by omega) (by omega) hj hl h
    · rw [loopT] at h ⊢
      by_cases hi : levelT (tk T i) < l
      · rw [if_pos hi] at h
        cases h
        rcases Nat.lt_or_ge i e with hie | hie
        · rw [tk_sub hm hie, if_pos hi]
        · obtain rfl : i = e := by omega
          rw [tk_sub_end hm, if_pos (by simpa [levelT, kSign] using hl)]
      · rw [if_neg hi] at h
        obtain ⟨r, i2, hx, h⟩ := Rs.bind_eq_ok h
        have p1 := q1 d _ (i + 1) r i2 hx
        have p2 := q2 d l _ i2 a j h
        rw [tk_sub hm (by omega), if_neg hi, show i - m + 1 = i + 1 - m by omega, h1 k d _ (i + 1) r i2 (by omega) (by omega) (by omega) (by omega) hx, Rs.bind_ok]
        exact h2 k d l _ i2 a j (by omega) (by omega) hj hl h
    · have p0 := (expr_past T (n + 1)).2.2.1 d i a j h
      rw [singleT] at h ⊢
      rw [tk_sub hm (by omega)]
      have z : ∀ x, isT (sub T m e) kSign x (i - m) ↔ isT T kSign x i := fun x => isT_sub hm (by omega)
      by_cases c1 : (tk T i).kind = kNum
      · rw [if_pos c1] at h ⊢; cases h; rw [show i - m + 1 = i + 1 - m by omega]
      rw [if_neg c1] at h ⊢
      by_cases c2 : (tk T i).kind = kName
      · rw [if_pos c2] at h ⊢
        rw [show i - m + 1 = i + 1 - m by omega, show i - m + 2 = i + 2 - m by omega]
        by_cases c3 : isT T kSign [40] (i + 1)
        · rw [if_pos c3] at h
          by_cases c4 : d = 12
          · rw [if_pos c4] at h; cases h
          rw [if_neg c4] at h ⊢
          obtain ⟨r, i2, hx, h⟩ := Rs.bind_eq_ok h
          cases h
          have p1 := q4 (d + 1) (i + 2) r j hx
          rw [if_pos ((isT_sub (by omega) (by omega)).2 c3), h4 k _ _ r j (by omega) (by omega) hj hx, Rs.bind_ok]
        · rw [if_neg c3] at h
          cases h
          rcases Nat.lt_or_ge (i + 1) e with hie | hie
          · rw [if_neg (mt (isT_sub (by omega) hie).1 c3)]
          · obtain rfl : i + 1 = e := by omega
            rw [if_neg (isT_sub_end sign_ne (by omega))]
      rw [if_neg c2] at h ⊢
      rw [show i - m + 1 = i + 1 - m by omega]
      by_cases c3 : isT T kSign [45] i ∨ isT T kSign [33] i
      · rw [if_pos c3] at h
        rw [if_pos (c3.imp (z _).2 (z _).2)]
        by_cases c4 : d = 12
        · rw [if_pos c4] at h; cases h
        rw [if_neg c4] at h ⊢
        obtain ⟨r, i2, hx, h⟩ := Rs.bind_eq_ok h
        cases h
        rw [h3 k _ _ r j (by omega) (by omega) hj hx, Rs.bind_ok]
      rw [if_neg c3] at h
      rw [if_neg (fun h' => c3 (h'.imp (z _).1 (z _).1))]
      by_cases c5 : isT T kSign [40] i
      · rw [if_pos c5] at h
        rw [if_pos ((z _).2 c5)]
        by_cases c4 : d = 12
        · rw [if_pos c4] at h; cases h
        rw [if_neg c4] at h ⊢
        obtain ⟨r, i2, hx, h⟩ := Rs.bind_eq_ok h
        obtain ⟨u, i3, hy, h⟩ := Rs.bind_eq_ok h
        cases h
        have p1 := q1 _ _ _ _ i2 hx
        have p2 := need_past _ _ _ _ u _ hy
        rw [h1 k _ _ _ _ i2 (by omega) (by omega) (by omega) (by omega) hx, Rs.bind_ok, need_sub (by omega) hj hy, Rs.bind_ok]
      · rw [if_neg c5] at h; cases h
    · have p0 := (expr_past T (n + 1)).2.2.2.1 d i a j h
      rw [argsT] at h ⊢
      by_cases c1 : isT T kSign [41] i
      · rw [if_pos c1] at h; cases h; rw [if_pos ((isT_sub hm (by omega)).2 c1), show i - m + 1 = i + 1 - m by omega]
      · rw [if_neg c1] at h
        rw [if_neg (mt (isT_sub hm (by omega)).1 c1)]
        exact h5 k d [] i a j (by omega) hm hj h
    · rw [moreT] at h ⊢
      obtain ⟨x, i2, hx, h⟩ := Rs.bind_eq_ok h
      have p1 := q1 d 1 i x i2 hx
      by_cases c1 : isT T kSign [44] i2
      · rw [if_pos c1] at h
        have p2 := q5 d _ (i2 + 1) a j h
        rw [h1 k d 1 i x i2 (by omega) hm (by omega) (by omega) hx, Rs.bind_ok, if_pos ((isT_sub (by omega) (by omega)).2 c1), show i2 - m + 1 = i2 + 1 - m by omega]
        exact h5 k d _ (i2 + 1) a j (by omega) (by omega) hj h
      · rw [if_neg c1] at h
        obtain ⟨u, i3, hy, h⟩ := Rs.bind_eq_ok h
        cases h
        have p2 := need_past _ _ _ _ u _ hy
        rw [h1 k d 1 i x i2 (by omega) hm (by omega) (by omega) hx, Rs.bind_ok, if_neg (mt (isT_sub (by omega) (by omega)).1 c1), need_sub (by omega) hj hy, Rs.bind_ok]
theorem block_sub (T : List Tok) (m e : Nat) : ∀ n : Nat,
    (∀ n' d i a j, n ≤ n' → m ≤ i → j ≤ e → blockT T n d i = .ok a j → blockT (sub T m e) n' d (i - m) = .ok a (j - m)) ∧
    (∀ n' d ss i a j, n ≤ n' → m ≤ i → j ≤ e → stmtsT T n d ss i = .ok a j → stmtsT (sub T m e) n' d ss (i - m) = .ok a (j - m)) ∧
    (∀ n' d i a j, n ≤ n' → m ≤ i → j ≤ e → stmtT T n d i = .ok a j → stmtT (sub T m e) n' d (i - m) = .ok a (j - m)) := by
  intro n
  induction n with
  | zero => exact ⟨fun _ _ _ _ _ _ _ _ h => (by rw [blockT] at h; cases h), fun _ _ _ _ _ _ _ _ _ h => (by rw [stmtsT] at h; cases h), fun _ _ _ _ _ _ _ _ h => (by rw [stmtT] at h; cases h)⟩
  | succ n ih =>
    obtain ⟨h1, h2, h3⟩ := ih
    obtain ⟨q1, q2, q3⟩ := block_past T n
    have qe := (expr_past T n).1
    have he := (expr_sub T m e n).1
    refine ⟨fun n' d i a j hn hm hj h => ?_, fun n' d ss i a j hn hm hj h => ?_, fun n' d i a j hn hm hj h => ?_⟩ <;>
      obtain ⟨k, rfl⟩ : ∃ k, n' = k + 1 := ⟨n' - 1, by omega⟩
    · have p0 := (block_past T (n + 1)).1 d i a j h
      rw [blockT] at h ⊢
      by_cases c1 : isT T kSign [123] i
      · rw [if_pos c1] at h
        rw [if_pos ((isT_sub hm (by omega)).2 c1)]
        by_cases c4 : d = 12
        · rw [if_pos c4] at h; cases h
        rw [if_neg c4] at h ⊢
        rw [show i - m + 1 = i + 1 - m by omega]
        exact h2 k _ _ (i + 1) a j (by omega) (by omega) hj h
      · rw [if_neg c1] at h; cases h
    · have p0 := (block_past T (n + 1)).2.1 d ss i a j h
      rw [stmtsT] at h ⊢
      by_cases c1 : isT T kSign [125] i
      · rw [if_pos c1] at h; cases h; rw [if_pos ((isT_sub hm (by omega)).2 c1), show i - m + 1 = i + 1 - m by omega]
      · rw [if_neg c1] at h
        rw [if_neg (mt (isT_sub hm (by omega)).1 c1)]
        obtain ⟨x, i2, hx, h⟩ := Rs.bind_eq_ok h
        have p1 := q3 d i x i2 hx
        have p2 := q2 d _ i2 a j h
        rw [h3 k d i x i2 (by omega) hm (by omega) hx, Rs.bind_ok]
        exact h2 k d _ i2 a j (by omega) (by omega) hj h
    · have p0 := (block_past T (n + 1)).2.2 d i a j h
      have hes : ∀ (f : Ex → Sm) i2, i + 1 ≤ i2 → (Rs.bind (exprT T n d 1 i2) fun x j => (needT T kSign [59] j).bind fun _ j => .ok (f x) j) = .ok a j →
          (Rs.bind (exprT (sub T m e) k d 1 (i2 - m)) fun x j => (needT (sub T m e) kSign [59] j).bind fun _ j => .ok (f x) j) = .ok a (j - m) := fun f i2 hi2 h => by
        obtain ⟨r, i3, hx, h⟩ := Rs.bind_eq_ok h
        obtain ⟨u, i4, hy, h⟩ := Rs.bind_eq_ok h
        cases h
        have p1 := qe _ _ _ r i3 hx
        have p2 := need_past _ _ _ _ u _ hy
        rw [he k _ _ _ r i3 (by omega) (by omega) (by omega) (by omega) hx, Rs.bind_ok, need_sub (by omega) hj hy, Rs.bind_ok]
      rw [stmtT] at h ⊢
      have z : ∀ x, isT (sub T m e) kWord x (i - m) ↔ isT T kWord x i := fun x => isT_sub hm (by omega)
      rw [tk_sub hm (by omega), show i - m + 1 = i + 1 - m by omega]
      by_cases c1 : (tk T i).kind = kName
      · rw [if_pos c1] at h ⊢
        obtain ⟨u, i2, hy, h⟩ := Rs.bind_eq_ok h
        have p2 := need_past _ _ _ _ u _ hy
        have p3 : i2 ≤ j := by obtain ⟨r, i3, hx, h⟩ := Rs.bind_eq_ok h; obtain ⟨u, i4, hy, h⟩ := Rs.bind_eq_ok h; cases h; have := qe _ _ _ r i3 hx; have := need_past _ _ _ _ u _ hy; omega
        rw [need_sub (by omega) (by omega) hy, Rs.bind_ok]
        exact hes _ i2 (by omega) h
      rw [if_neg c1] at h ⊢
      by_cases c2 : isT T kWord kVar i
      · rw [if_pos c2] at h
        rw [if_pos ((z _).2 c2)]
        obtain ⟨y, i1, hz, h⟩ := Rs.bind_eq_ok h
        obtain ⟨u, i2, hy, h⟩ := Rs.bind_eq_ok h
        have p1 := name_past _ _ y _ hz
        have p2 := need_past _ _ _ _ u _ hy
        have p3 : i2 ≤ j := by obtain ⟨r, i3, hx, h⟩ := Rs.bind_eq_ok h; obtain ⟨u, i4, hy, h⟩ := Rs.bind_eq_ok h; cases h; have := qe _ _ _ r i3 hx; have := need_past _ _ _ _ u _ hy; omega
        rw [name_sub (by omega) (by omega) hz, Rs.bind_ok, need_sub (by omega) (by omega) hy, Rs.bind_ok]
        exact hes _ i2 (by omega) h
      rw [if_neg c2] at h
      rw [if_neg (mt (z _).1 c2)]
      by_cases c3 : isT T kWord kIf i
      · rw [if_pos c3] at h
        rw [if_pos ((z _).2 c3)]
        obtain ⟨r, i2, hx, h⟩ := Rs.bind_eq_ok h
        obtain ⟨t, i3, hb, h⟩ := Rs.bind_eq_ok h
        have p1 := qe _ _ _ r i2 hx
        have p2 := q1 _ _ t i3 hb
        by_cases c4 : isT T kWord kElse i3
        · rw [if_pos c4] at h
          obtain ⟨o, i4, hb2, h⟩ := Rs.bind_eq_ok h
          cases h
          have p3 := q1 _ _ o _ hb2
          rw [he k _ _ _ r i2 (by omega) (by omega) (by omega) (by omega) hx, Rs.bind_ok, h1 k _ _ t i3 (by omega) (by omega) (by omega) hb, Rs.bind_ok, if_pos ((isT_sub (by omega) (by omega)).2 c4), show i3 - m + 1 = i3 + 1 - m by omega, h1 k _ _ o _ (by omega) (by omega) hj hb2, Rs.bind_ok]
        · rw [if_neg c4] at h
          cases h
          rw [he k _ _ _ r i2 (by omega) (by omega) (by omega) (by omega) hx, Rs.bind_ok, h1 k _ _ t _ (by omega) (by omega) (by omega) hb, Rs.bind_ok]
          rcases Nat.lt_or_ge j e with hie | hie
          · rw [if_neg (mt (isT_sub (by omega) hie).1 c4)]
          · obtain rfl : j = e := by omega
            rw [if_neg (isT_sub_end word_ne (by omega))]
      rw [if_neg c3] at h
      rw [if_neg (mt (z _).1 c3)]
      by_cases c5 : isT T kWord kWhile i
      · rw [if_pos c5] at h
        rw [if_pos ((z _).2 c5)]
        obtain ⟨r, i2, hx, h⟩ := Rs.bind_eq_ok h
        obtain ⟨t, i3, hb, h⟩ := Rs.bind_eq_ok h
        cases h
        have p1 := qe _ _ _ r i2 hx
        have p2 := q1 _ _ t _ hb
        rw [he k _ _ _ r i2 (by omega) (by omega) (by omega) (by omega) hx, Rs.bind_ok, h1 k _ _ t _ (by omega) (by omega) hj hb, Rs.bind_ok]
      rw [if_neg c5] at h
      rw [if_neg (mt (z _).1 c5)]
      by_cases c6 : isT T kWord kReturn i
      · rw [if_pos c6] at h
        rw [if_pos ((z _).2 c6)]
        exact hes _ (i + 1) (by omega) h
      rw [if_neg c6] at h
      rw [if_neg (mt (z _).1 c6)]
      by_cases c7 : isT T kWord kPrint i
      · rw [if_pos c7] at h
        rw [if_pos ((z _).2 c7)]
        exact hes _ (i + 1) (by omega) h
      rw [if_neg c7] at h
      cases h
theorem names_past (T : List Tok) : ∀ (n : Nat) xs i, (namesT T n xs i).past (i + 1)
  | 0, _, _ => by rw [namesT]; exact out_past _
  | n + 1, xs, i => by
    rw [namesT]
    refine (name_past T i).bind fun x j hj => ?_
    split
    · exact (names_past T n _ _).mono (by omega)
    · exact ((need_past _ _ _ _).mono (by omega)).bind fun _ j hj => ok_past _ _ _ hj
theorem names_sub (T : List Tok) (m e : Nat) : ∀ (n : Nat) n' xs i a j, n ≤ n' → m ≤ i → j ≤ e → namesT T n xs i = .ok a j → namesT (sub T m e) n' xs (i - m) = .ok a (j - m)
  | 0, _, _, _, _, _, _, _, _, h => by rw [namesT] at h; cases h
  | n + 1, n', xs, i, a, j, hn, hm, hj, h => by
    obtain ⟨k, rfl⟩ : ∃ k, n' = k + 1 := ⟨n' - 1, by omega⟩
    rw [namesT] at h ⊢
    obtain ⟨x, i2, hx, h⟩ := Rs.bind_eq_ok h
    have p1 := name_past T i x i2 hx
    by_cases c1 : isT T kSign [44] i2
    · rw [if_pos c1] at h
      have p2 := names_past T n _ (i2 + 1) a j h
      rw [name_sub hm (by omega) hx, Rs.bind_ok, if_pos ((isT_sub (by omega) (by omega)).2 c1), show i2 - m + 1 = i2 + 1 - m by omega]
      exact names_sub T m e n k _ (i2 + 1) a j (by omega) (by omega) hj h
    · rw [if_neg c1] at h
      obtain ⟨u, i3, hy, h⟩ := Rs.bind_eq_ok h
      cases h
      have p2 := need_past _ _ _ _ u _ hy
      rw [name_sub hm (by omega) hx, Rs.bind_ok, if_neg (mt (isT_sub (by omega) (by omega)).1 c1), need_sub (by omega) hj hy, Rs.bind_ok]
theorem params_past (T : List Tok) (n i : Nat) : (paramsT T n i).past (i + 1) := by
  unfold paramsT
  split
  · exact ok_past _ _ _ (Nat.le_refl _)
  · exact names_past T n [] i
theorem params_sub (T : List Tok) (m e n n' i : Nat) (a : List (List UInt8)) (j : Nat) (hn : n ≤ n') (hm : m ≤ i) (hj : j ≤ e) (h : paramsT T n i = .ok a j) : paramsT (sub T m e) n' (i - m) = .ok a (j - m) := by
  have p0 := params_past T n i a j h
  unfold paramsT at h ⊢
  by_cases c1 : isT T kSign [41] i
  · rw [if_pos c1] at h; cases h; rw [if_pos ((isT_sub hm (by omega)).2 c1), show i - m + 1 = i + 1 - m by omega]
  · rw [if_neg c1] at h
    rw [if_neg (mt (isT_sub hm (by omega)).1 c1)]
    exact names_sub T m e n n' [] i a j hn hm hj h
/-- The parts of a function that is read. -/
theorem fun_parts {T : List Tok} {n i j : Nat} {f : Fu} (h : funT T n i = .ok f j) : ∃ i5, isT T kWord kFn i ∧ (tk T (i + 1)).kind = kName ∧ (tk T (i + 1)).text = f.name ∧ isT T kSign [40] (i + 2) ∧ paramsT T n (i + 3) = .ok f.params i5 ∧ blockT T n 0 i5 = .ok f.body j := by
  unfold funT at h
  obtain ⟨u1, i1, h1, g1⟩ := Rs.bind_eq_ok h
  obtain ⟨x, i2, h2, g2⟩ := Rs.bind_eq_ok g1
  obtain ⟨u3, i3, h3, g3⟩ := Rs.bind_eq_ok g2
  obtain ⟨ps, i4, h4, g4⟩ := Rs.bind_eq_ok g3
  obtain ⟨b, i5, h5, g5⟩ := Rs.bind_eq_ok g4
  obtain ⟨c1, e1⟩ := need_ok h1
  obtain ⟨c2, e2, e3⟩ := name_ok h2
  obtain ⟨c3, e4⟩ := need_ok h3
  have e : (⟨x, ps, b⟩ : Fu) = f ∧ i5 = j := by simpa using g5
  obtain ⟨e5, e6⟩ := e
  clear g1 g2 g3 g4 g5 h h1 h2 h3
  subst e5 e6 e4 e3 e1
  exact ⟨i4, c1, c2, e2.symm, c3, h4, h5⟩
theorem fun_past {T : List Tok} {n i j : Nat} {f : Fu} (h : funT T n i = .ok f j) : i + 5 ≤ j := by
  obtain ⟨i5, _, _, _, _, h4, h5⟩ := fun_parts h
  have := params_past T n _ _ _ h4
  have := (block_past T n).1 _ _ _ _ h5
  omega
theorem fun_sub (T : List Tok) (m e n n' i : Nat) (f : Fu) (j : Nat) (hn : n ≤ n') (hm : m ≤ i) (hj : j ≤ e) (h : funT T n i = .ok f j) : funT (sub T m e) n' (i - m) = .ok f (j - m) := by
  obtain ⟨i5, c1, c2, c3, c4, h4, h5⟩ := fun_parts h
  have p1 := params_past T n _ _ _ h4
  have p2 := (block_past T n).1 _ _ _ _ h5
  unfold funT needT nameT
  rw [if_pos ((isT_sub hm (by omega)).2 c1), Rs.bind_ok, show i - m + 1 = i + 1 - m by omega, tk_sub (by omega) (by omega), if_pos c2, Rs.bind_ok, show i + 1 - m + 1 = i + 2 - m by omega, if_pos ((isT_sub (by omega) (by omega)).2 c4), Rs.bind_ok, show i + 2 - m + 1 = i + 3 - m by omega,
    params_sub T m e n n' _ _ _ hn (by omega) (by omega) h4, Rs.bind_ok, (block_sub T m e n).1 n' _ _ _ _ hn (by omega) hj h5, Rs.bind_ok, c3]
/-- Functions one behind the other. -/
inductive Chain (T : List Tok) : Nat → Nat → List Fu → Nat → Prop where
  | nil (n i : Nat) : Chain T n i [] i
  | cons {n i k j : Nat} {f : Fu} {fs : List Fu} : funT T n i = .ok f k → Chain T n k fs j → Chain T (n + 1) i (f :: fs) j
theorem Chain.le {T : List Tok} {n i j : Nat} {fs : List Fu} (h : Chain T n i fs j) : i + 5 * fs.length ≤ j := by
  induction h with
  | nil n i => simp
  | cons hf _ ih => have := fun_past hf; simp only [List.length_cons]; omega
theorem Chain.sub {T : List Tok} {n i j : Nat} {fs : List Fu} (h : Chain T n i fs j) (m e : Nat) : ∀ n', n ≤ n' → m ≤ i → j ≤ e → Chain (sub T m e) n' (i - m) fs (j - m) := by
  induction h with
  | nil n i => intro n' _ _ _; exact .nil _ _
  | @cons n i k j f fs hf hc ih =>
    intro n' hn hm hj
    have p := fun_past hf
    have := hc.le
    obtain ⟨k', rfl⟩ : ∃ k', n' = k' + 1 := ⟨n' - 1, by omega⟩
    exact .cons (fun_sub T m e n k' i f k (by omega) hm (by omega) hf) (ih k' (by omega) (by omega) hj)
theorem funs_chain {T : List Tok} : ∀ (n : Nat) fs i P j, funsT T n fs i = .ok P j → ∃ Q, P = fs ++ Q ∧ Chain T n i Q j ∧ T.length ≤ j
  | 0, _, _, _, _, h => by rw [funsT] at h; cases h
  | n + 1, fs, i, P, j, h => by
    rw [funsT] at h
    by_cases c : i < T.length
    · rw [if_pos c] at h
      obtain ⟨f, k, hf, h⟩ := Rs.bind_eq_ok h
      obtain ⟨Q, rfl, hc, hl⟩ := funs_chain n _ k P j h
      exact ⟨f :: Q, by simp, .cons hf hc, hl⟩
    · rw [if_neg c] at h
      cases h
      exact ⟨[], by simp, .nil _ _, by omega⟩
theorem chain_funs {T : List Tok} {n i j : Nat} {Q : List Fu} (h : Chain T n i Q j) : j = T.length → ∀ fs n', n ≤ n' → 0 < n' → funsT T n' fs i = .ok (fs ++ Q) j := by
  induction h with
  | nil n i =>
    rintro rfl fs n' hn h0
    obtain ⟨k, rfl⟩ : ∃ k, n' = k + 1 := ⟨n' - 1, by omega⟩
    rw [funsT, if_neg (by omega)]; simp
  | @cons n i k j f fs hf hc ih =>
    rintro rfl gs n' hn h0
    have p := fun_past hf
    have := hc.le
    obtain ⟨k', rfl⟩ : ∃ k', n' = k' + 1 := ⟨n' - 1, by omega⟩
    have hf' := fun_sub T 0 T.length n k' i f k (by omega) (by omega) (by omega) hf
    rw [show sub T 0 T.length = T by simp [Go.Proofs.YtcebpmaggnephabDoor.sub], Nat.sub_zero, Nat.sub_zero] at hf'
    rw [funsT, if_pos (by omega), hf', Rs.bind_ok]
    cases hc with
    | nil =>
      obtain ⟨k2, rfl⟩ : ∃ k2, k' = k2 + 1 := by
        cases k' with
        | zero => rw [funT] at hf'; exact absurd hf' (by
            intro hf'
            obtain ⟨_, _, _, _, _, h4, h5⟩ := fun_parts (show funT T 0 i = _ from by rw [funT]; exact hf')
            rw [blockT] at h5; cases h5)
        | succ k2 => exact ⟨k2, rfl⟩
      rw [ih rfl _ _ (by omega) (by omega)]
      simp
    | cons hf2 hc2 =>
      rw [ih rfl _ _ (by omega) (by omega)]
      simp
end Go.Proofs.YtcebpmaggnephabDoor
