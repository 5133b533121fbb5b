/-
  Our own: plain mathematics of trees: where braces stand, and where functions end. Nothing of the program stands here.
-/
import Derived.Test.YtdleiajkihijhabDoorTreeSub
namespace Go.Proofs.YtdleiajkihijhabDoor
open Go.RowKit

/-- No brace. -/
def NB (t : Tok) : Prop := t.text ≠ [123] ∧ t.text ≠ [125]
def Flat (T : List Tok) (i j : Nat) : Prop := ∀ k, i ≤ k → k < j → NB (tk T k)
theorem nb_kind {T : List Tok} (HT : ∀ t ∈ T, t.Good) {k : Nat} (h : (tk T k).kind ≠ kSign) : NB (tk T k) := by
  rcases Nat.lt_or_ge k T.length with hk | hk
  · have e : tk T k = T[k] := by simp [tk, List.getD_eq_getElem?_getD, hk]
    rw [e] at h ⊢
    obtain ⟨_, h1, _⟩ := HT T[k] (List.getElem_mem _)
    refine ⟨fun hx => h ?_, fun hx => h ?_⟩
    · rw [hx] at h1; exact (Prod.mk.inj h1).1.symm
    · rw [hx] at h1; exact (Prod.mk.inj h1).1.symm
  · have e : tk T k = ⟨[], [], 0⟩ := by simp [tk, List.getD_eq_getElem?_getD, List.getElem?_eq_none hk]
    rw [e]; exact ⟨by simp, by simp⟩
theorem nb_isT {T : List Tok} {k : Nat} {y x : List UInt8} (h : isT T y x k) (h1 : x ≠ [123]) (h2 : x ≠ [125]) : NB (tk T k) := by
  unfold NB; rw [h.2]; exact ⟨h1, h2⟩
theorem nb_level {T : List Tok} {k l : Nat} (h : ¬ levelT (tk T k) < l) (hl : 0 < l) : NB (tk T k) := by
  refine ⟨fun e => h ?_, fun e => h ?_⟩ <;>
    · unfold levelT; rw [e]; split
      · exact hl
      · exact hl
theorem Flat.one {T : List Tok} {i : Nat} (h : NB (tk T i)) : Flat T i (i + 1) := fun k h1 h2 => (show k = i by omega) ▸ h
theorem Flat.trans {T : List Tok} {i k j : Nat} (h : Flat T i k) (h' : Flat T k j) : Flat T i j := fun x h1 h2 => by
  rcases Nat.lt_or_ge x k with hx | hx
  · exact h x h1 hx
  · exact h' x hx h2
theorem Flat.nil {T : List Tok} {i : Nat} : Flat T i i := fun k h1 h2 => by omega
theorem need_flat {T : List Tok} {k x : List UInt8} {i j : Nat} {u : Unit} (h : needT T k x i = .ok u j) (h1 : x ≠ [123]) (h2 : x ≠ [125]) : Flat T i j := by
  obtain ⟨c, rfl⟩ := need_ok h
  exact .one (nb_isT c h1 h2)
theorem name_flat {T : List Tok} (HT : ∀ t ∈ T, t.Good) {i j : Nat} {y : List UInt8} (h : nameT T i = .ok y j) : Flat T i j := by
  obtain ⟨c, _, rfl⟩ := name_ok h
  exact .one (nb_kind HT (by rw [c]; decide))
theorem expr_flat {T : List Tok} (HT : ∀ t ∈ T, t.Good) : ∀ n : Nat,
    (∀ d l i a j, 0 < l → exprT T n d l i = .ok a j → Flat T i j) ∧
    (∀ d l x i a j, 0 < l → loopT T n d l x i = .ok a j → Flat T i j) ∧
    (∀ d i a j, singleT T n d i = .ok a j → Flat T i j) ∧
    (∀ d i a j, argsT T n d i = .ok a j → Flat T i j) ∧
    (∀ d es i a j, moreT T n d es i = .ok a j → Flat T i j) := by
  intro n
  induction n with
  | zero => exact ⟨fun _ _ _ _ _ _ h => (by rw [exprT] at h; cases h), fun _ _ _ _ _ _ _ h => (by rw [loopT] at h; cases h), fun _ _ _ _ h => (by rw [singleT] at h; cases h), fun _ _ _ _ h => (by rw [argsT] at h; cases h), fun _ _ _ _ _ h => (by rw [moreT] at h; cases h)⟩
  | succ n ih =>
    obtain ⟨h1, h2, h3, h4, h5⟩ := ih
    refine ⟨fun d l i a j hl h => ?_, fun d l x i a j hl h => ?_, fun d i a j h => ?_, fun d i a j h => ?_, fun d es i a j h => ?_⟩
    · rw [exprT] at h
      obtain ⟨x, i2, hx, h⟩ := Rs.bind_eq_ok h
      exact (h3 _ _ _ _ hx).trans (h2 _ _ _ _ _ _ hl h)
    · rw [loopT] at h
      by_cases hi : levelT (tk T i) < l
      · rw [if_pos hi] at h
        cases h
        exact .nil
      · rw [if_neg hi] at h
        obtain ⟨r, i2, hx, h⟩ := Rs.bind_eq_ok h
        exact ((Flat.one (nb_level hi hl)).trans (h1 _ _ _ _ _ (by omega) hx)).trans (h2 _ _ _ _ _ _ hl h)
    · rw [singleT] at h
      by_cases c1 : (tk T i).kind = kNum
      · rw [if_pos c1] at h; cases h; exact .one (nb_kind HT (by rw [c1]; decide))
      rw [if_neg c1] at h
      by_cases c2 : (tk T i).kind = kName
      · have f1 := Flat.one (nb_kind HT (k := i) (by rw [c2]; decide))
        rw [if_pos c2] at h
        by_cases c3 : isT T kSign [40] (i + 1)
        · rw [if_pos c3] at h
          by_cases c4 : d = 12
          · rw [if_pos c4] at h; cases h
          rw [if_neg c4] at h
          obtain ⟨r, i2, hx, h⟩ := Rs.bind_eq_ok h
          cases h
          exact (f1.trans (Flat.one (nb_isT c3 (by simp) (by simp)))).trans (h4 _ _ _ _ hx)
        · rw [if_neg c3] at h
          cases h
          exact f1
      rw [if_neg c2] at h
      by_cases c3 : isT T kSign [45] i ∨ isT T kSign [33] i
      · rw [if_pos c3] at h
        by_cases c4 : d = 12
        · rw [if_pos c4] at h; cases h
        rw [if_neg c4] at h
        obtain ⟨r, i2, hx, h⟩ := Rs.bind_eq_ok h
        cases h
        refine Flat.trans (Flat.one ?_) (h3 _ _ _ _ hx)
        rcases c3 with c | c <;> exact nb_isT c (by simp) (by simp)
      rw [if_neg c3] at h
      by_cases c5 : isT T kSign [40] i
      · rw [if_pos c5] at h
        by_cases c4 : d = 12
        · rw [if_pos c4] at h; cases h
        rw [if_neg c4] at h
        obtain ⟨r, i2, hx, h⟩ := Rs.bind_eq_ok h
        obtain ⟨u, i3, hy, h⟩ := Rs.bind_eq_ok h
        cases h
        exact ((Flat.one (nb_isT c5 (by simp) (by simp))).trans (h1 _ _ _ _ _ (by omega) hx)).trans (need_flat hy (by simp) (by simp))
      · rw [if_neg c5] at h; cases h
    · rw [argsT] at h
      by_cases c1 : isT T kSign [41] i
      · rw [if_pos c1] at h; cases h; exact .one (nb_isT c1 (by simp) (by simp))
      · rw [if_neg c1] at h
        exact h5 _ _ _ _ _ h
    · rw [moreT] at h
      obtain ⟨x, i2, hx, h⟩ := Rs.bind_eq_ok h
      by_cases c1 : isT T kSign [44] i2
      · rw [if_pos c1] at h
        exact ((h1 _ _ _ _ _ (by omega) hx).trans (.one (nb_isT c1 (by simp) (by simp)))).trans (h5 _ _ _ _ _ h)
      · rw [if_neg c1] at h
        obtain ⟨u, i3, hy, h⟩ := Rs.bind_eq_ok h
        cases h
        exact (h1 _ _ _ _ _ (by omega) hx).trans (need_flat hy (by simp) (by simp))
/-- How many braces are open behind k tokens. -/
def dep (T : List Tok) : Nat → Int
  | 0 => 0
  | k + 1 => (dep T k + if (tk T k).text = [123] then 1 else 0) - if (tk T k).text = [125] then 1 else 0
theorem dep_flat {T : List Tok} {i : Nat} : ∀ (r : Nat), Flat T i (i + r) → dep T (i + r) = dep T i
  | 0, _ => rfl
  | r + 1, h => by
    have h1 := dep_flat r (fun k h1 h2 => h k h1 (by omega))
    have h2 := h (i + r) (by omega) (by omega)
    show dep T (i + r + 1) = _
    rw [dep, if_neg h2.1, if_neg h2.2, h1]; omega
theorem Flat.dep {T : List Tok} {i j : Nat} (h : Flat T i j) {k : Nat} (h1 : i ≤ k) (h2 : k ≤ j) : dep T k = dep T i := by
  have := dep_flat (T := T) (i := i) (k - i) (fun x hx hy => h x hx (by omega))
  rwa [show i + (k - i) = k by omega] at this
theorem dep_open {T : List Tok} {i : Nat} (h : isT T kSign [123] i) : dep T (i + 1) = dep T i + 1 := by
  rw [dep, if_pos h.2, if_neg (by rw [h.2]; simp)]; omega
theorem dep_close {T : List Tok} {i : Nat} (h : isT T kSign [125] i) : dep T (i + 1) = dep T i - 1 := by
  rw [dep, if_pos h.2, if_neg (by rw [h.2]; simp)]; omega
/-- Never below, and even at the end. -/
structure Even (T : List Tok) (i j : Nat) : Prop where
  up : ∀ k, i ≤ k → k ≤ j → dep T i ≤ dep T k
  even : dep T j = dep T i
theorem Flat.evn {T : List Tok} {i j : Nat} (h : Flat T i j) (hij : i ≤ j) : Even T i j := ⟨fun k h1 h2 => by rw [h.dep h1 h2]; omega, h.dep hij (Nat.le_refl _)⟩
theorem Even.trans {T : List Tok} {i k j : Nat} (h : Even T i k) (h' : Even T k j) : Even T i j :=
  ⟨fun x h1 h2 => by
    rcases Nat.lt_or_ge x k with hx | hx
    · exact h.up x h1 (by omega)
    · have := h'.up x hx h2
      have := h.even
      omega, h'.even.trans h.even⟩
/-- A block: open all along, even at its end, which is a brace. -/
structure Blk (T : List Tok) (i j : Nat) : Prop where
  lt : i < j
  up : ∀ k, i < k → k < j → dep T i + 1 ≤ dep T k
  even : dep T j = dep T i
  last : (tk T (j - 1)).text = [125]
theorem Blk.evn {T : List Tok} {i j : Nat} (h : Blk T i j) : Even T i j := ⟨fun k h1 h2 => by
  rcases Nat.lt_or_ge i k with hk | hk
  · rcases Nat.lt_or_ge k j with hj | hj
    · have := h.up k hk hj; omega
    · obtain rfl : k = j := by omega
      rw [h.even]; omega
  · obtain rfl : k = i := by omega
    omega, h.even⟩
theorem block_brace {T : List Tok} (HT : ∀ t ∈ T, t.Good) : ∀ n : Nat,
    (∀ d i a j, blockT T n d i = .ok a j → Blk T i j) ∧
    (∀ d ss i a j, stmtsT T n d ss i = .ok a j → i < j ∧ (∀ k, i ≤ k → k < j → dep T i ≤ dep T k) ∧ dep T j = dep T i - 1 ∧ (tk T (j - 1)).text = [125]) ∧
    (∀ d i a j, stmtT T n d i = .ok a j → Even T i j) := by
  intro n
  induction n with
  | zero => exact ⟨fun _ _ _ _ h => (by rw [blockT] at h; cases h), fun _ _ _ _ _ h => (by rw [stmtsT] at h; cases h), fun _ _ _ _ h => (by rw [stmtT] at h; cases h)⟩
  | succ n ih =>
    obtain ⟨h1, h2, h3⟩ := ih
    obtain ⟨q1, q2, q3⟩ := block_past T n
    have qe := (expr_past T n).1
    have he : ∀ d i a j, exprT T n d 1 i = .ok a j → Even T i j := fun d i a j h => ((expr_flat HT n).1 _ _ _ _ _ (by omega) h).evn (by have := qe _ _ _ _ _ h; omega)
    have hn : ∀ k x i u j, x ≠ [123] → x ≠ [125] → needT T k x i = .ok u j → Even T i j := fun k x i u j hx hy h => (need_flat h hx hy).evn (by have := need_past _ _ _ _ _ _ h; omega)
    refine ⟨fun d i a j h => ?_, fun d ss i a j h => ?_, fun d i a j h => ?_⟩
    · rw [blockT] at h
      by_cases c1 : isT T kSign [123] i
      · rw [if_pos c1] at h
        by_cases c4 : d = 12
        · rw [if_pos c4] at h; cases h
        rw [if_neg c4] at h
        obtain ⟨p1, p2, p3, p4⟩ := h2 _ _ _ _ _ h
        have := dep_open c1
        exact ⟨by omega, fun k hk hj => by have := p2 k (by omega) hj; omega, by omega, p4⟩
      · rw [if_neg c1] at h; cases h
    · rw [stmtsT] at h
      by_cases c1 : isT T kSign [125] i
      · rw [if_pos c1] at h
        cases h
        have := dep_close c1
        exact ⟨by omega, fun k hk hj => by obtain rfl : k = i := by omega
                                           omega, by omega, c1.2⟩
      · rw [if_neg c1] at h
        obtain ⟨x, i2, hx, h⟩ := Rs.bind_eq_ok h
        have p1 := q3 d i x i2 hx
        obtain ⟨o1, o2⟩ := h3 _ _ _ _ hx
        obtain ⟨p1, p2, p3, p4⟩ := h2 _ _ _ _ _ h
        refine ⟨by omega, fun k hk hj => ?_, by omega, p4⟩
        rcases Nat.lt_or_ge k i2 with hx | hx
        · exact o1 k hk (by omega)
        · have := p2 k hx hj; omega
    · have hw : ∀ x, x ≠ [123] → x ≠ [125] → isT T kWord x i → Even T i (i + 1) := fun x hx hy h => (Flat.one (nb_isT h hx hy)).evn (by omega)
      have hes : ∀ (f : Ex → Sm) i2, (Rs.bind (exprT T n d 1 i2) fun x j => (needT T kSign [59] j).bind fun _ j => .ok (f x) j) = .ok a j → Even T i2 j := fun f i2 h => by
        obtain ⟨r, i3, hx, h⟩ := Rs.bind_eq_ok h
        obtain ⟨u, i4, hy, h⟩ := Rs.bind_eq_ok h
        cases h
        exact (he _ _ _ _ hx).trans (hn _ _ _ _ _ (by simp) (by simp) hy)
      rw [stmtT] at h
      by_cases c1 : (tk T i).kind = kName
      · rw [if_pos c1] at h
        obtain ⟨u, i2, hy, h⟩ := Rs.bind_eq_ok h
        exact (((Flat.one (nb_kind HT (k := i) (by rw [c1]; decide))).evn (by omega)).trans (hn _ _ _ _ _ (by simp) (by simp) hy)).trans (hes _ _ h)
      rw [if_neg c1] at h
      by_cases c2 : isT T kWord kVar i
      · rw [if_pos c2] at h
        obtain ⟨y, i1, hz, h⟩ := Rs.bind_eq_ok h
        obtain ⟨u, i2, hy, h⟩ := Rs.bind_eq_ok h
        exact (((hw _ (by decide) (by decide) c2).trans ((name_flat HT hz).evn (by have := name_past _ _ _ _ hz; omega))).trans (hn _ _ _ _ _ (by simp) (by simp) hy)).trans (hes _ _ h)
      rw [if_neg c2] at h
      by_cases c3 : isT T kWord kIf i
      · rw [if_pos c3] at h
        obtain ⟨r, i2, hx, h⟩ := Rs.bind_eq_ok h
        obtain ⟨t, i3, hb, h⟩ := Rs.bind_eq_ok h
        have f := ((hw _ (by decide) (by decide) c3).trans (he _ _ _ _ hx)).trans (h1 _ _ _ _ hb).evn
        by_cases c4 : isT T kWord kElse i3
        · rw [if_pos c4] at h
          obtain ⟨o, i4, hb2, h⟩ := Rs.bind_eq_ok h
          cases h
          exact (f.trans ((Flat.one (nb_isT c4 (by decide) (by decide))).evn (by omega))).trans (h1 _ _ _ _ hb2).evn
        · rw [if_neg c4] at h
          cases h
          exact f
      rw [if_neg c3] at h
      by_cases c5 : isT T kWord kWhile i
      · rw [if_pos c5] at h
        obtain ⟨r, i2, hx, h⟩ := Rs.bind_eq_ok h
        obtain ⟨t, i3, hb, h⟩ := Rs.bind_eq_ok h
        cases h
        exact ((hw _ (by decide) (by decide) c5).trans (he _ _ _ _ hx)).trans (h1 _ _ _ _ hb).evn
      rw [if_neg c5] at h
      by_cases c6 : isT T kWord kReturn i
      · rw [if_pos c6] at h
        exact (hw _ (by decide) (by decide) c6).trans (hes _ _ h)
      rw [if_neg c6] at h
      by_cases c7 : isT T kWord kPrint i
      · rw [if_pos c7] at h
        exact (hw _ (by decide) (by decide) c7).trans (hes _ _ h)
      rw [if_neg c7] at h
      cases h
theorem names_flat {T : List Tok} (HT : ∀ t ∈ T, t.Good) : ∀ (n : Nat) xs i a j, namesT T n xs i = .ok a j → Flat T i j
  | 0, _, _, _, _, h => by rw [namesT] at h; cases h
  | n + 1, xs, i, a, j, h => by
    rw [namesT] at h
    obtain ⟨x, i2, hx, h⟩ := Rs.bind_eq_ok h
    have f := name_flat HT hx
    by_cases c1 : isT T kSign [44] i2
    · rw [if_pos c1] at h
      exact (f.trans (.one (nb_isT c1 (by simp) (by simp)))).trans (names_flat HT n _ _ _ _ h)
    · rw [if_neg c1] at h
      obtain ⟨u, i3, hy, h⟩ := Rs.bind_eq_ok h
      cases h
      exact f.trans (need_flat hy (by simp) (by simp))
theorem params_flat {T : List Tok} (HT : ∀ t ∈ T, t.Good) {n i j : Nat} {a : List (List UInt8)} (h : paramsT T n i = .ok a j) : Flat T i j := by
  unfold paramsT at h
  by_cases c1 : isT T kSign [41] i
  · rw [if_pos c1] at h; cases h; exact .one (nb_isT c1 (by simp) (by simp))
  · rw [if_neg c1] at h; exact names_flat HT _ _ _ _ _ h
/-- Behind k tokens the braces are even, and the last token closes them; or there is none. -/
def Whole (T : List Tok) (k : Nat) : Prop := k = 0 ∨ (dep T k = 0 ∧ (tk T (k - 1)).text = [125])
/-- A function: where it is whole. -/
theorem fun_whole {T : List Tok} (HT : ∀ t ∈ T, t.Good) {n i j : Nat} {f : Fu} (h : funT T n i = .ok f j) (h0 : dep T i = 0) : dep T j = 0 ∧ (tk T (j - 1)).text = [125] ∧ ∀ k, i < k → k < j → ¬ Whole T k := by
  obtain ⟨i5, c1, c2, _, c4, h4, h5⟩ := fun_parts h
  have p1 := params_past T n _ _ _ h4
  have f1 : Flat T i i5 := (((Flat.one (nb_isT c1 (by decide) (by decide))).trans (Flat.one (nb_kind HT (by rw [c2]; decide)))).trans (Flat.one (nb_isT c4 (by simp) (by simp)))).trans (params_flat HT h4)
  have b := (block_brace HT n).1 _ _ _ _ h5
  have e1 := f1.dep (by omega : i ≤ i5) (Nat.le_refl _)
  refine ⟨by rw [b.even]; omega, b.last, fun k hk hj hw => ?_⟩
  rcases hw with hw | ⟨hw, hl⟩
  · omega
  · rcases Nat.lt_or_ge i5 k with hx | hx
    · have := b.up k hx hj; omega
    · exact (f1 (k - 1) (by omega) (by omega)).2 hl
theorem chain_whole {T : List Tok} (HT : ∀ t ∈ T, t.Good) {n i j : Nat} {fs : List Fu} (h : Chain T n i fs j) (h0 : Whole T i) (hi : dep T i = 0) : Whole T j := by
  induction h with
  | nil n i => exact h0
  | @cons n i k j f fs hf hc ih =>
    obtain ⟨a, b, _⟩ := fun_whole HT hf hi
    exact ih (Or.inr ⟨a, b⟩) a
/-- Cut where it is whole. -/
theorem chain_cut {T : List Tok} (HT : ∀ t ∈ T, t.Good) {n i j : Nat} {fs : List Fu} (h : Chain T n i fs j) (h0 : dep T i = 0) : ∀ m, i ≤ m → m ≤ j → (m = i ∨ Whole T m) → ∃ f1 f2 n2, fs = f1 ++ f2 ∧ n2 ≤ n ∧ Chain T n i f1 m ∧ Chain T n2 m f2 j := by
  induction h with
  | nil n i => intro m h1 h2 _; obtain rfl : m = i := by omega
               exact ⟨[], [], n, rfl, Nat.le_refl _, .nil _ _, .nil _ _⟩
  | @cons n i k j f fs hf hc ih =>
    intro m h1 h2 hw
    obtain ⟨a, b, hno⟩ := fun_whole HT hf h0
    rcases Nat.lt_or_ge m k with hm | hm
    · have hmi : m = i := by
        rcases hw with rfl | hw
        · rfl
        · rcases Nat.lt_or_ge i m with hx | hx
          · exact absurd hw (hno m hx hm)
          · omega
      subst hmi
      exact ⟨[], f :: fs, n + 1, rfl, Nat.le_refl _, .nil _ _, .cons hf hc⟩
    · have hw' : m = k ∨ Whole T m := by
        rcases hw with rfl | hw
        · have := fun_past hf; omega
        · exact Or.inr hw
      obtain ⟨f1, f2, n2, rfl, hn, c1, c2⟩ := ih a m hm h2 hw'
      exact ⟨f :: f1, f2, n2, rfl, by omega, .cons hf c1, c2⟩
theorem sub_take (T : List Tok) (m : Nat) : sub T 0 m = T.take m := rfl
theorem sub_drop (T : List Tok) (m : Nat) : sub T m T.length = T.drop m := by simp [sub]
theorem dep_take (T : List Tok) (m : Nat) : ∀ k, k ≤ m → dep (T.take m) k = dep T k
  | 0, _ => rfl
  | k + 1, h => by rw [dep, dep, dep_take T m k (by omega), tk_take (by omega)]
/-- Tokens that make a program, cut in two: whole just where they make two. -/
theorem parse_cut {T : List Tok} (HT : ∀ t ∈ T, t.Good) {P : List Fu} {j : Nat} (hf : T.length ≤ 1000) (h : parseT T = .ok P j) (m : Nat) (hm : m ≤ T.length) :
    (Whole T m → ∃ P1 P2, P = P1 ++ P2 ∧ parseT (T.take m) = .ok P1 m ∧ parseT (T.drop m) = .ok P2 (T.length - m)) ∧ (∀ Q k, parseT (T.take m) = .ok Q k → Whole T m) := by
  refine ⟨fun hw => ?_, fun Q k hq => ?_⟩
  · obtain ⟨Q, rfl, hc, hl⟩ := funs_chain _ _ _ _ _ h
    obtain ⟨f1, f2, n2, rfl, hn, c1, c2⟩ := chain_cut HT hc rfl m (Nat.zero_le _) (by omega) (Or.inr hw)
    have hj : j = T.length := by
      have h2 := parse_to T hf
      rw [h] at h2
      have := h2.2
      omega
    refine ⟨f1, f2, by simp, ?_, ?_⟩
    · have c := c1.sub 0 m 4020 (Nat.le_refl _) (Nat.le_refl _) (Nat.le_refl _)
      rw [sub_take] at c
      have := chain_funs c (by simp; omega) [] 4020 (Nat.le_refl _) (by omega)
      simpa [parseT] using this
    · have c := c2.sub m T.length 4020 (by omega) (Nat.le_refl _) (by omega)
      rw [sub_drop] at c
      have := chain_funs c (by simp; omega) [] 4020 (Nat.le_refl _) (by omega)
      simpa [parseT, hj] using this
  · obtain ⟨Q', e, hc, hl⟩ := funs_chain _ _ _ _ _ hq
    have HT' : ∀ t ∈ T.take m, t.Good := fun t ht => HT t (List.mem_of_mem_take ht)
    have hw := chain_whole HT' hc (Or.inl rfl) rfl
    have hk : k = m := by
      have h2 := parse_to (T.take m) (by simp; omega)
      rw [hq] at h2
      have := h2.2
      simp at this hl
      omega
    subst hk
    rcases hw with hw | ⟨h1, h2⟩
    · exact Or.inl hw
    · rcases Nat.eq_zero_or_pos k with h0 | h0
      · exact Or.inl h0
      · rw [dep_take T k k (Nat.le_refl _)] at h1
        rw [tk_take (by omega)] at h2
        exact Or.inr ⟨h1, h2⟩
end Go.Proofs.YtdleiajkihijhabDoor
