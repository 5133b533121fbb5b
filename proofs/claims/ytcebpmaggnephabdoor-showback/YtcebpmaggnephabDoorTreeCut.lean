/-
  Our own: plain mathematics of trees: tokens that are cut in two. Nothing of the program stands here.
-/
import Derived.Test.YtcebpmaggnephabDoorTreeMath
namespace Go.Proofs.YtcebpmaggnephabDoor
open Go.RowKit

theorem tk_take {T : List Tok} {m i : Nat} (h : i < m) : tk (T.take m) i = tk T i := by
  simp [tk, List.getD_eq_getElem?_getD, h]
theorem tk_past {T : List Tok} {m i : Nat} (h : m ≤ i) : tk (T.take m) i = ⟨[], [], 0⟩ := by
  simp [tk, List.getD_eq_getElem?_getD, List.getElem?_take, Nat.not_lt.2 h]
theorem isT_take {T : List Tok} {m i : Nat} {k x : List UInt8} (h : i < m) : isT (T.take m) k x i = isT T k x i := by
  unfold isT; rw [tk_take h]
theorem isT_past {T : List Tok} {m i : Nat} {k x : List UInt8} (hk : k ≠ []) (h : m ≤ i) : ¬ isT (T.take m) k x i := by
  unfold isT; rw [tk_past h]; exact fun e => hk e.1.symm
/-- What stays of an answer where the tokens end at m. -/
def Cut {α : Type} (m : Nat) (x x' : Rs α) : Prop := ∀ a j, x = .ok a j → (j ≤ m → x' = .ok a j) ∧ (m < j → (∃ c k, x' = .bad c k) ∨ ∃ a', x' = .ok a' m)
/-- The same of what can't end ahead of its end. -/
def CutS {α : Type} (m : Nat) (x x' : Rs α) : Prop := ∀ a j, x = .ok a j → (j ≤ m → x' = .ok a j) ∧ (m < j → ∃ c k, x' = .bad c k)
theorem CutS.cut {α : Type} {m : Nat} {x x' : Rs α} (h : CutS m x x') : Cut m x x' := fun a j e => ⟨(h a j e).1, fun hj => Or.inl ((h a j e).2 hj)⟩
/-- At the end. -/
def Rs.fin {α : Type} (m : Nat) (x : Rs α) : Prop := (∃ c k, x = .bad c k) ∨ ∃ a, x = .ok a m
theorem Rs.to.fin {α : Type} {m : Nat} {x : Rs α} (h : x.to m m) : x.fin m := by
  cases x with
  | out => exact h.elim
  | bad c k => exact Or.inl ⟨c, k, rfl⟩
  | ok a j => have := h.1; have := h.2; obtain rfl : j = m := by omega
              exact Or.inr ⟨a, rfl⟩
/-- Answers behind a place. -/
def Rs.past {α : Type} (i : Nat) (x : Rs α) : Prop := ∀ a j, x = .ok a j → i ≤ j
theorem Rs.to.past {α : Type} {a b : Nat} {x : Rs α} (h : x.to a b) : x.past a := fun y j e => by rw [e] at h; exact h.1
theorem Rs.past.bind {α β : Type} {i : Nat} {x : Rs α} {f : α → Nat → Rs β} (h : x.past i) (hf : ∀ a j, i ≤ j → (f a j).past i) : (x.bind f).past i := by
  cases x with
  | out => intro _ _ e; cases e
  | bad c k => intro _ _ e; cases e
  | ok a j => exact hf a j (h a j rfl)
theorem Rs.past.mono {α : Type} {i k : Nat} {x : Rs α} (h : x.past i) (hk : k ≤ i) : x.past k := fun a j e => Nat.le_trans hk (h a j e)
theorem Rs.fin.bind {α β : Type} {m : Nat} {x : Rs α} {f : α → Nat → Rs β} (h : x.fin m) (hf : ∀ a, (f a m).fin m) : (x.bind f).fin m := by
  rcases h with ⟨c, k, rfl⟩ | ⟨a, rfl⟩
  · exact Or.inl ⟨c, k, rfl⟩
  · exact hf a
theorem Cut.bind {α β : Type} {m : Nat} {x x' : Rs α} {f f' : α → Nat → Rs β} (h : Cut m x x') (hf : ∀ a i, x = .ok a i → i ≤ m → Cut m (f a i) (f' a i)) (hp : ∀ a i, (f a i).past i) (he : ∀ a, (f' a m).fin m) : Cut m (x.bind f) (x'.bind f') := by
  intro b j e
  cases x with
  | out => cases e
  | bad c k => cases e
  | ok a i =>
    have h' := h a i rfl
    rcases Nat.lt_or_ge m i with hi | hi
    · have := hp a i b j e
      refine ⟨fun hj => by omega, fun _ => ?_⟩
      rcases h'.2 hi with ⟨c, k, rfl⟩ | ⟨a', rfl⟩
      · exact Or.inl ⟨c, k, rfl⟩
      · exact he a'
    · rw [h'.1 hi]
      exact hf a i rfl hi b j e
theorem Cut.bindS {α β : Type} {m : Nat} {x x' : Rs α} {f f' : α → Nat → Rs β} (h : Cut m x x') (hf : ∀ a i, x = .ok a i → i ≤ m → CutS m (f a i) (f' a i)) (hp : ∀ a i, (f a i).past i) (he : ∀ a, ∃ c k, f' a m = .bad c k) : CutS m (x.bind f) (x'.bind f') := by
  intro b j e
  cases x with
  | out => cases e
  | bad c k => cases e
  | ok a i =>
    have h' := h a i rfl
    rcases Nat.lt_or_ge m i with hi | hi
    · have := hp a i b j e
      refine ⟨fun hj => by omega, fun _ => ?_⟩
      rcases h'.2 hi with ⟨c, k, rfl⟩ | ⟨a', rfl⟩
      · exact ⟨c, k, rfl⟩
      · exact he a'
    · rw [h'.1 hi]
      exact hf a i rfl hi b j e
theorem cut_same {α : Type} {m : Nat} (a : α) (j : Nat) (h : j ≤ m) : CutS m (.ok a j) (.ok a j) := fun _ _ e => by cases e; exact ⟨fun _ => rfl, fun h' => by omega⟩
theorem cut_bad {α : Type} {m c k : Nat} {x : Rs α} : CutS m (.bad c k) x := fun _ _ e => by cases e
theorem cut_out {α : Type} {m : Nat} {x : Rs α} : CutS m .out x := fun _ _ e => by cases e
/-- Begun at the end. -/
theorem cut_end {α : Type} {m : Nat} {x x' : Rs α} (h : x.past (m + 1)) (he : x'.fin m) : Cut m x x' := fun a j e => ⟨fun hj => by have := h a j e; omega, fun _ => he⟩
theorem cut_endS {α : Type} {m c k : Nat} {x : Rs α} (h : x.past (m + 1)) : CutS m x (.bad c k) := fun a j e => ⟨fun hj => by have := h a j e; omega, fun _ => ⟨c, k, rfl⟩⟩
theorem need_past (T : List Tok) (k x : List UInt8) (i : Nat) : (needT T k x i).past (i + 1) := by
  unfold needT; split
  · intro _ _ e; cases e; omega
  · intro _ _ e; cases e
theorem name_past (T : List Tok) (i : Nat) : (nameT T i).past (i + 1) := by
  unfold nameT; split
  · intro _ _ e; cases e; omega
  · intro _ _ e; cases e
theorem ok_past {α : Type} (a : α) (i j : Nat) (h : i ≤ j) : (Rs.ok a j).past i := fun _ _ e => by cases e; exact h
theorem bad_past {α : Type} (i c k : Nat) : (Rs.bad c k : Rs α).past i := fun _ _ e => by cases e
theorem out_past {α : Type} (i : Nat) : (Rs.out : Rs α).past i := fun _ _ e => by cases e
theorem need_end (T : List Tok) (m : Nat) (k x : List UInt8) (hk : k ≠ []) : needT (T.take m) k x m = .bad 1 m := by
  unfold needT; rw [if_neg (isT_past hk (Nat.le_refl _))]
theorem name_end (T : List Tok) (m : Nat) : nameT (T.take m) m = .bad 1 m := by
  unfold nameT; rw [tk_past (Nat.le_refl _), if_neg (by simp [kName])]
theorem need_cut (T : List Tok) (m : Nat) (k x : List UInt8) (i : Nat) (hk : k ≠ []) (hi : i ≤ m) : CutS m (needT T k x i) (needT (T.take m) k x i) := by
  rcases Nat.lt_or_ge i m with h | h
  · unfold needT; simp only [isT_take h]
    split
    · exact cut_same _ _ (by omega)
    · exact cut_bad
  · obtain rfl : i = m := by omega
    rw [need_end T _ _ _ hk]
    exact cut_endS (need_past _ _ _ _)
theorem name_cut (T : List Tok) (m i : Nat) (hi : i ≤ m) : CutS m (nameT T i) (nameT (T.take m) i) := by
  rcases Nat.lt_or_ge i m with h | h
  · unfold nameT; simp only [tk_take h]
    split
    · exact cut_same _ _ (by omega)
    · exact cut_bad
  · obtain rfl : i = m := by omega
    rw [name_end T _]
    exact cut_endS (name_past _ _)
/-- Places only grow, whatever the bound. -/
theorem expr_past (T : List Tok) : ∀ n : Nat, (∀ d l i, (exprT T n d l i).past (i + 1)) ∧ (∀ d l e i, (loopT T n d l e i).past i) ∧ (∀ d i, (singleT T n d i).past (i + 1)) ∧ (∀ d i, (argsT T n d i).past (i + 1)) ∧ (∀ d es i, (moreT T n d es i).past (i + 1)) := by
  intro n
  induction n with
  | zero => exact ⟨fun _ _ i => by rw [exprT]; exact out_past _, fun _ _ _ i => by rw [loopT]; exact out_past _, fun _ i => by rw [singleT]; exact out_past _, fun _ i => by rw [argsT]; exact out_past _, fun _ _ i => by rw [moreT]; exact out_past _⟩
  | succ n ih =>
    obtain ⟨h1, h2, h3, h4, h5⟩ := ih
    refine ⟨fun d l i => ?_, fun d l e i => ?_, fun d i => ?_, fun d i => ?_, fun d es i => ?_⟩
    · rw [exprT]; exact (h3 d i).bind fun e j hj => (h2 d l e j).mono hj
    · rw [loopT]
      split
      · exact ok_past _ _ _ (Nat.le_refl _)
      · exact ((h1 d _ (i + 1)).mono (by omega)).bind fun r j hj => (h2 d l _ j).mono hj
    · rw [singleT]
      split
      · exact ok_past _ _ _ (Nat.le_refl _)
      · split
        · split
          · split
            · exact bad_past _ _ _
            · exact ((h4 _ _).mono (by omega)).bind fun _ j hj => ok_past _ _ _ hj
          · exact ok_past _ _ _ (Nat.le_refl _)
        · split
          · split
            · exact bad_past _ _ _
            · exact ((h3 _ _).mono (by omega)).bind fun _ j hj => ok_past _ _ _ hj
          · split
            · split
              · exact bad_past _ _ _
              · exact ((h1 _ _ _).mono (by omega)).bind fun _ j hj => ((need_past _ _ _ _).mono (by omega)).bind fun _ j hj => ok_past _ _ _ hj
            · exact bad_past _ _ _
    · rw [argsT]
      split
      · exact ok_past _ _ _ (Nat.le_refl _)
      · exact h5 _ _ _
    · rw [moreT]
      refine (h1 _ _ _).bind fun e j hj => ?_
      split
      · exact (h5 _ _ _).mono (by omega)
      · exact ((need_past _ _ _ _).mono (by omega)).bind fun _ j hj => ok_past _ _ _ hj
theorem block_past (T : List Tok) : ∀ n : Nat, (∀ d i, (blockT T n d i).past (i + 1)) ∧ (∀ d ss i, (stmtsT T n d ss i).past (i + 1)) ∧ (∀ d i, (stmtT T n d i).past (i + 1)) := by
  intro n
  induction n with
  | zero => exact ⟨fun _ i => by rw [blockT]; exact out_past _, fun _ _ i => by rw [stmtsT]; exact out_past _, fun _ i => by rw [stmtT]; exact out_past _⟩
  | succ n ih =>
    obtain ⟨h1, h2, h3⟩ := ih
    have he := (expr_past T n).1
    refine ⟨fun d i => ?_, fun d ss i => ?_, fun d i => ?_⟩
    · rw [blockT]
      split
      · split
        · exact bad_past _ _ _
        · exact (h2 _ _ _).mono (by omega)
      · exact bad_past _ _ _
    · rw [stmtsT]
      split
      · exact ok_past _ _ _ (Nat.le_refl _)
      · exact (h3 _ _).bind fun s j hj => (h2 _ _ _).mono (by omega)
    · have hes : ∀ (f : Ex → Sm) j, i + 1 ≤ j → (Rs.bind (exprT T n d 1 j) fun e j => (needT T kSign [59] j).bind fun _ j => .ok (f e) j).past (i + 1) := fun f j hj =>
        ((he _ _ _).mono (by omega)).bind fun _ j hj => ((need_past _ _ _ _).mono (by omega)).bind fun _ j hj => ok_past _ _ _ hj
      rw [stmtT]
      split
      · exact ((need_past _ _ _ _).mono (by omega)).bind fun _ j hj => hes _ _ hj
      · split
        · exact ((name_past _ _).mono (by omega)).bind fun _ j hj => ((need_past _ _ _ _).mono (by omega)).bind fun _ j hj => hes _ _ hj
        · split
          · refine ((he _ _ _).mono (by omega)).bind fun e j hj => ((h1 _ _).mono (by omega)).bind fun t j hj => ?_
            split
            · exact ((h1 _ _).mono (by omega)).bind fun _ j hj => ok_past _ _ _ hj
            · exact ok_past _ _ _ hj
          · split
            · exact ((he _ _ _).mono (by omega)).bind fun e j hj => ((h1 _ _).mono (by omega)).bind fun t j hj => ok_past _ _ _ hj
            · split
              · exact hes _ _ (Nat.le_refl _)
              · split
                · exact hes _ _ (Nat.le_refl _)
                · exact bad_past _ _ _
end Go.Proofs.YtcebpmaggnephabDoor
