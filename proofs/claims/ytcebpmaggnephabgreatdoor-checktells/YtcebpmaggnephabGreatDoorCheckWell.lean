/-
  Our own: plain mathematics of what is well: variables and calls of what is well, one function more, one less.
-/
import Derived.Test.YtcebpmaggnephabGreatDoorCheckMath
namespace Go.Proofs.YtcebpmaggnephabGreatDoor
open Go.RowKit

mutual
def varsM : Sm → List (List UInt8)
  | .mk k m _ t o => (if k = kVar then [m] else []) ++ (varsS t ++ varsS o)
/-- What the vars of statements name. -/
def varsS : List Sm → List (List UInt8)
  | [] => []
  | s :: r => varsM s ++ varsS r
end
def varsF (f : Fu) : List (List UInt8) := f.params ++ varsS f.body
mutual
/-- Whom an expression calls. -/
def callsE : Ex → List (List UInt8)
  | .mk k _ m ks => callsEs ks ++ (if k = kCall then [m] else [])
def callsEs : List Ex → List (List UInt8)
  | [] => []
  | e :: r => callsE e ++ callsEs r
end
mutual
def callsM : Sm → List (List UInt8)
  | .mk _ _ e t o => callsE e ++ (callsS t ++ callsS o)
/-- Whom statements call. -/
def callsS : List Sm → List (List UInt8)
  | [] => []
  | s :: r => callsM s ++ callsS r
end
/-- Each once, at its first place. -/
def onceL (acc : List (List UInt8)) : List (List UInt8) → List (List UInt8)
  | [] => acc
  | x :: r => onceL (if x ∈ acc then acc else acc ++ [x]) r
def callsF (f : Fu) : List (List UInt8) := onceL [] (callsS f.body)

theorem andC_zero {c d : Nat} (h : andC c d = 0) : c = 0 ∧ d = 0 := by
  unfold andC at h; split at h
  · next e => exact ⟨e, h⟩
  · next e => exact absurd h e
theorem mem_onceL (x : List UInt8) : ∀ (l acc : List (List UInt8)), x ∈ onceL acc l ↔ x ∈ acc ∨ x ∈ l
  | [], acc => by simp [onceL]
  | y :: r, acc => by
    rw [onceL, mem_onceL x r]
    by_cases h : y ∈ acc
    · rw [if_pos h]; constructor
      · rintro (h1 | h1)
        · exact Or.inl h1
        · exact Or.inr (List.mem_cons_of_mem _ h1)
      · rintro (h1 | h1)
        · exact Or.inl h1
        · rcases List.mem_cons.1 h1 with rfl | h2
          · exact Or.inl h
          · exact Or.inr h2
    · rw [if_neg h]; simp [or_assoc]
theorem nodup_onceL : ∀ (l acc : List (List UInt8)), acc.Nodup → (onceL acc l).Nodup
  | [], _, h => h
  | y :: r, acc, h => by
    rw [onceL]
    apply nodup_onceL r
    by_cases hy : y ∈ acc
    · rw [if_pos hy]; exact h
    · rw [if_neg hy]
      rw [List.nodup_append]
      refine ⟨h, by simp, ?_⟩
      rintro a ha b hb rfl
      simp only [List.mem_singleton] at hb
      exact hy (hb ▸ ha)
theorem callsF_nodup (f : Fu) : (callsF f).Nodup := nodup_onceL _ _ List.nodup_nil
theorem mem_callsF (f : Fu) (x : List UInt8) : x ∈ callsF f ↔ x ∈ callsS f.body := by
  unfold callsF; rw [mem_onceL]; simp

theorem declC_ok {all a : List (List UInt8)} {m : List UInt8} (h : declC all m = .ok a) : a = all ++ [m] ∧ m ∉ all ∧ all.length ≠ 12 := by
  unfold declC at h
  split at h
  · cases h
  · next h1 =>
    split at h
    · cases h
    · next h2 => cases h; exact ⟨rfl, h1, h2⟩
/-- All of all are unlike, and not too many. -/
def Fit12 (all : List (List UInt8)) : Prop := all.Nodup ∧ all.length ≤ 12
theorem Fit12.decl {all a : List (List UInt8)} {m : List UInt8} (hf : Fit12 all) (h : declC all m = .ok a) : Fit12 a := by
  obtain ⟨rfl, h1, h2⟩ := declC_ok h
  refine ⟨?_, ?_⟩
  · rw [List.nodup_append]
    refine ⟨hf.1, by simp, ?_⟩
    rintro x hx b hb rfl
    simp only [List.mem_singleton] at hb
    exact h1 (hb ▸ hx)
  · have := hf.2; simp; omega
theorem bind_ok {x : Cs} {f : List (List UInt8) → Cs} {b : List (List UInt8)} (h : x.bind f = .ok b) : ∃ a, x = .ok a ∧ f a = .ok b := by
  cases x with
  | bad c => cases h
  | ok a => exact ⟨a, rfl, h⟩
theorem shapeS_var {k m : List UInt8} {t o : Nat} (h : shapeS k m t o = true) (hk : k = kVar ∨ k = kSet) : t = 0 ∧ o = 0 := by
  unfold shapeS at h
  rw [if_pos hk] at h
  simp only [decide_eq_true_eq] at h
  exact h.2
/-- A statement that is well, parted. -/
theorem stmtC_ok {F : List Fu} {all vis b : List (List UInt8)} {k m : List UInt8} {e : Ex} {t o : List Sm} (h : stmtC F all vis (.mk k m e t o) = .ok b) :
    shapeS k m t.length o.length = true ∧ exprC F vis e = 0 ∧ ((k = kVar ∧ declC all m = .ok b ∧ t = [] ∧ o = []) ∨ (k ≠ kVar ∧ k = kSet ∧ m ∈ vis ∧ b = all ∧ t = [] ∧ o = []) ∨ (k ≠ kVar ∧ k ≠ kSet ∧ ∃ a, blockC F all vis t = .ok a ∧ blockC F a vis o = .ok b)) := by
  rw [stmtC] at h
  by_cases h1 : shapeS k m t.length o.length = false
  · rw [if_pos h1] at h; cases h
  · rw [if_neg h1] at h
    have h1' : shapeS k m t.length o.length = true := by simpa using h1
    by_cases h2 : exprC F vis e ≠ 0
    · rw [if_pos h2] at h; cases h
    · rw [if_neg h2] at h
      have h2' : exprC F vis e = 0 := by omega
      refine ⟨h1', h2', ?_⟩
      by_cases h3 : k = kVar
      · rw [if_pos h3] at h
        have := shapeS_var h1' (Or.inl h3)
        exact Or.inl ⟨h3, h, List.length_eq_zero_iff.1 this.1, List.length_eq_zero_iff.1 this.2⟩
      · rw [if_neg h3] at h
        by_cases h4 : k = kSet
        · rw [if_pos h4] at h
          have := shapeS_var h1' (Or.inr h4)
          split at h
          · next h5 => cases h; exact Or.inr (Or.inl ⟨h3, h4, h5, rfl, List.length_eq_zero_iff.1 this.1, List.length_eq_zero_iff.1 this.2⟩)
          · cases h
        · rw [if_neg h4] at h
          obtain ⟨a, h5, h6⟩ := bind_ok h
          exact Or.inr (Or.inr ⟨h3, h4, a, h5, h6⟩)
/-- What is visible behind a statement. -/
def visC (vis : List (List UInt8)) : Sm → List (List UInt8)
  | .mk k m _ _ _ => if k = kVar then vis ++ [m] else vis
theorem blockC_cons (F : List Fu) (all vis : List (List UInt8)) (s : Sm) (r : List Sm) : blockC F all vis (s :: r) = (stmtC F all vis s).bind fun all => blockC F all (visC vis s) r := by
  cases s; rw [blockC]; rfl
mutual
theorem stmt_vars (F : List Fu) : ∀ (s : Sm) (all vis b : List (List UInt8)), stmtC F all vis s = .ok b → b = all ++ varsM s ∧ (Fit12 all → Fit12 b)
  | .mk k m e t o, all, vis, b, h => by
    obtain ⟨h1, h2, h3⟩ := stmtC_ok h
    rcases h3 with ⟨hk, hd, ht, ho⟩ | ⟨hv, hk, hm, hb, ht, ho⟩ | ⟨hv, hk, a, ha, hb⟩
    · refine ⟨?_, fun hf => hf.decl hd⟩
      rw [varsM, if_pos hk, ht, ho, varsS, (declC_ok hd).1]; simp
    · refine ⟨?_, fun hf => hb ▸ hf⟩
      rw [varsM, if_neg hv, ht, ho, varsS, hb]; simp
    · obtain ⟨e1, f1⟩ := block_vars F t all vis a ha
      obtain ⟨e2, f2⟩ := block_vars F o a vis b hb
      refine ⟨?_, fun hf => f2 (f1 hf)⟩
      rw [varsM, if_neg hv, e2, e1]; simp
theorem block_vars (F : List Fu) : ∀ (l : List Sm) (all vis b : List (List UInt8)), blockC F all vis l = .ok b → b = all ++ varsS l ∧ (Fit12 all → Fit12 b)
  | [], all, vis, b, h => by
    rw [blockC] at h; cases h
    exact ⟨by simp [varsS], id⟩
  | s :: r, all, vis, b, h => by
    rw [blockC_cons] at h
    obtain ⟨a, h1, h2⟩ := bind_ok h
    obtain ⟨e1, f1⟩ := stmt_vars F s all vis a h1
    obtain ⟨e2, f2⟩ := block_vars F r a _ b h2
    exact ⟨by rw [e2, e1, varsS]; simp, fun hf => f2 (f1 hf)⟩
end
theorem pars_vars : ∀ (l all b : List (List UInt8)), parsC all l = .ok b → b = all ++ l ∧ (Fit12 all → Fit12 b)
  | [], all, b, h => by rw [parsC] at h; cases h; exact ⟨by simp, id⟩
  | p :: r, all, b, h => by
    rw [parsC] at h
    obtain ⟨a, h1, h2⟩ := bind_ok h
    obtain ⟨e2, f2⟩ := pars_vars r a b h2
    exact ⟨by rw [e2, (declC_ok h1).1]; simp, fun hf => f2 (hf.decl h1)⟩
/-- A function that is well, parted. -/
theorem funC_ok {F : List Fu} {tw : Bool} {f : Fu} (h : funC F tw f = 0) : nameB f.name = true ∧ (∀ p ∈ f.params, nameB p = true) ∧ tw = false ∧ f.params.length ≤ 4 ∧ ∃ a b, parsC [] f.params = .ok a ∧ blockC F a a f.body = .ok b := by
  unfold funC at h
  split at h
  · cases h
  · next h1 =>
    split at h
    · cases h
    · next h2 =>
      split at h
      · cases h
      · next h3 =>
        refine ⟨?_, ?_, by simpa using h2, by omega, ?_⟩
        · cases hb : nameB f.name with
          | true => rfl
          | false => exact absurd (Or.inl hb) h1
        · intro p hp
          cases hb : nameB p with
          | true => rfl
          | false => exact absurd (Or.inr ⟨p, hp, hb⟩) h1
        · split at h
          · next c hc =>
            subst h
            cases hp : parsC [] f.params with
            | bad c =>
              rw [hp] at hc; simp only [Cs.bind_bad] at hc; cases hc
              exfalso
              revert hp
              have : ∀ (l all : List (List UInt8)), parsC all l ≠ .bad 0 := by
                intro l
                induction l with
                | nil => intro all h; rw [parsC] at h; cases h
                | cons p r ih =>
                  intro all h
                  rw [parsC] at h
                  cases hd : declC all p with
                  | bad c =>
                    rw [hd] at h; simp only [Cs.bind_bad] at h; cases h
                    unfold declC at hd
                    split at hd
                    · cases hd
                    · split at hd <;> cases hd
                  | ok a => rw [hd] at h; exact ih a h
              exact this _ _
            | ok a =>
              exfalso
              rw [hp] at hc
              simp only [Cs.bind_ok] at hc
              exact blockC_ne0 F _ _ _ hc
          · next b hb =>
            obtain ⟨a, h4, h5⟩ := bind_ok hb
            exact ⟨a, b, h4, h5⟩
where
  stmtC_ne0 (F : List Fu) : ∀ (s : Sm) (all vis : List (List UInt8)), stmtC F all vis s ≠ .bad 0
    | .mk k m e t o, all, vis, h => by
      rw [stmtC] at h
      split at h
      · cases h
      · split at h
        · next h2 => injection h with h; exact h2 h
        · split at h
          · unfold declC at h
            split at h
            · cases h
            · split at h <;> cases h
          · split at h
            · split at h <;> cases h
            · cases hb : blockC F all vis t with
              | bad c =>
                rw [hb] at h; simp only [Cs.bind_bad] at h; cases h
                exact blockC_ne0 F t _ _ hb
              | ok a => rw [hb] at h; exact blockC_ne0 F o _ _ h
  blockC_ne0 (F : List Fu) : ∀ (l : List Sm) (all vis : List (List UInt8)), blockC F all vis l ≠ .bad 0
    | [], all, vis, h => by rw [blockC] at h; cases h
    | s :: r, all, vis, h => by
      rw [blockC_cons] at h
      cases hb : stmtC F all vis s with
      | bad c =>
        rw [hb] at h; simp only [Cs.bind_bad] at h; cases h
        exact stmtC_ne0 F s _ _ hb
      | ok a => rw [hb] at h; exact blockC_ne0 F r _ _ h
theorem fun_vars {F : List Fu} {tw : Bool} {f : Fu} (h : funC F tw f = 0) : Fit12 (varsF f) := by
  obtain ⟨_, _, _, _, a, b, h1, h2⟩ := funC_ok h
  obtain ⟨e1, f1⟩ := pars_vars _ _ _ h1
  obtain ⟨e2, f2⟩ := block_vars F _ _ _ _ h2
  have := f2 (f1 ⟨List.nodup_nil, by simp⟩)
  rw [e2, e1] at this
  simpa [varsF] using this
theorem funsC_all {F : List Fu} : ∀ (l ahead : List Fu), funsC F ahead l = none → ∀ i (hi : i < l.length), funC F ((ahead ++ l.take i).any fun g => g.name == l[i].name) l[i] = 0
  | [], _, _, i, hi => by simp at hi
  | f :: r, ahead, h, i, hi => by
    rw [funsC] at h
    split at h
    · cases h
    · next h1 =>
      cases i with
      | zero => simp only [List.take_zero, List.append_nil, List.getElem_cons_zero]; omega
      | succ i =>
        have := funsC_all r (ahead ++ [f]) h i (by simpa using hi)
        simpa [List.take_succ_cons] using this
theorem funsC_none {F : List Fu} : ∀ (l ahead : List Fu), (∀ i (hi : i < l.length), funC F ((ahead ++ l.take i).any fun g => g.name == l[i].name) l[i] = 0) → funsC F ahead l = none
  | [], _, _ => rfl
  | f :: r, ahead, h => by
    have h0 := h 0 (by simp)
    simp only [List.take_zero, List.append_nil, List.getElem_cons_zero] at h0
    rw [funsC, if_neg (by omega)]
    refine funsC_none r _ fun i hi => ?_
    have := h (i + 1) (by simpa using hi)
    simpa [List.take_succ_cons] using this
/-- Whom is called is there. -/
theorem callC_there {F : List Fu} {m : List UInt8} {n : Nat} (h : callC F m n = 0) : ∃ f ∈ F, f.name = m := by
  unfold callC at h
  split at h
  · cases h
  · next f hf => exact ⟨f, List.mem_of_find?_eq_some hf, by simpa using List.find?_some hf⟩
mutual
theorem expr_calls {F : List Fu} {vis : List (List UInt8)} : ∀ e : Ex, exprC F vis e = 0 → ∀ m ∈ callsE e, ∃ n, callC F m n = 0
  | .mk k n m ks, h, x, hx => by
    rw [exprC] at h
    split at h
    · cases h
    · obtain ⟨h1, h2⟩ := andC_zero h
      rw [callsE] at hx
      rcases List.mem_append.1 hx with hx | hx
      · exact exprs_calls ks h1 x hx
      · split at hx
        · next hk =>
          have : x = m := by simpa using hx
          subst this
          rw [if_neg (by rw [hk]; decide), if_pos hk] at h2
          exact ⟨_, h2⟩
        · cases hx
theorem exprs_calls {F : List Fu} {vis : List (List UInt8)} : ∀ l : List Ex, exprsC F vis l = 0 → ∀ m ∈ callsEs l, ∃ n, callC F m n = 0
  | [], _, x, hx => by rw [callsEs] at hx; cases hx
  | e :: r, h, x, hx => by
    rw [exprsC] at h
    obtain ⟨h1, h2⟩ := andC_zero h
    rw [callsEs] at hx
    rcases List.mem_append.1 hx with hx | hx
    · exact expr_calls e h1 x hx
    · exact exprs_calls r h2 x hx
end
mutual
theorem stmt_calls {F : List Fu} : ∀ (s : Sm) (all vis b : List (List UInt8)), stmtC F all vis s = .ok b → ∀ m ∈ callsM s, ∃ n, callC F m n = 0
  | .mk k m e t o, all, vis, b, h, x, hx => by
    obtain ⟨h1, h2, h3⟩ := stmtC_ok h
    rw [callsM] at hx
    rcases List.mem_append.1 hx with hx | hx
    · exact expr_calls e h2 x hx
    · rcases h3 with ⟨hk, hd, ht, ho⟩ | ⟨hv, hk, hm, hb, ht, ho⟩ | ⟨hv, hk, a, ha, hb⟩
      · rw [ht, ho, callsS] at hx; cases hx
      · rw [ht, ho, callsS] at hx; cases hx
      · rcases List.mem_append.1 hx with hx | hx
        · exact block_calls t _ _ _ ha x hx
        · exact block_calls o _ _ _ hb x hx
theorem block_calls {F : List Fu} : ∀ (l : List Sm) (all vis b : List (List UInt8)), blockC F all vis l = .ok b → ∀ m ∈ callsS l, ∃ n, callC F m n = 0
  | [], _, _, _, _, x, hx => by rw [callsS] at hx; cases hx
  | s :: r, all, vis, b, h, x, hx => by
    rw [blockC_cons] at h
    obtain ⟨a, h1, h2⟩ := bind_ok h
    rw [callsS] at hx
    rcases List.mem_append.1 hx with hx | hx
    · exact stmt_calls s _ _ _ h1 x hx
    · exact block_calls r _ _ _ h2 x hx
end
/-- Of what is well variables are unlike, and not too many; whom it calls is there. -/
theorem well_vars {F : List Fu} (h : funsC F [] F = none) (i : Nat) (hi : i < F.length) : Fit12 (varsF F[i]) ∧ ∀ m ∈ callsF F[i], ∃ f ∈ F, f.name = m := by
  have h1 := funsC_all F [] h i hi
  refine ⟨fun_vars h1, fun m hm => ?_⟩
  obtain ⟨_, _, _, _, a, b, h2, h3⟩ := funC_ok h1
  obtain ⟨n, hn⟩ := block_calls _ _ _ _ h3 m ((mem_callsF _ _).1 hm)
  exact callC_there hn
mutual
theorem expr_mono {F G : List Fu} {vis : List (List UInt8)} : ∀ e : Ex, (∀ m ∈ callsE e, ∀ n, callC F m n = 0 → callC G m n = 0) → exprC F vis e = 0 → exprC G vis e = 0
  | .mk k n m ks, hc, h => by
    rw [exprC] at h ⊢
    split at h
    · cases h
    · next h0 =>
      rw [if_neg h0]
      obtain ⟨h1, h2⟩ := andC_zero h
      rw [callsE] at hc
      rw [exprs_mono ks (fun x hx => hc x (List.mem_append_left _ hx)) h1, andC, if_pos rfl]
      by_cases hk : k = kName
      · rw [if_pos hk] at h2 ⊢; exact h2
      · rw [if_neg hk] at h2 ⊢
        by_cases hl : k = kCall
        · rw [if_pos hl] at h2 ⊢; exact hc m (List.mem_append_right _ (by rw [if_pos hl]; simp)) _ h2
        · rw [if_neg hl]
theorem exprs_mono {F G : List Fu} {vis : List (List UInt8)} : ∀ l : List Ex, (∀ m ∈ callsEs l, ∀ n, callC F m n = 0 → callC G m n = 0) → exprsC F vis l = 0 → exprsC G vis l = 0
  | [], _, _ => rfl
  | e :: r, hc, h => by
    rw [exprsC] at h ⊢
    obtain ⟨h1, h2⟩ := andC_zero h
    rw [callsEs] at hc
    rw [expr_mono e (fun x hx => hc x (List.mem_append_left _ hx)) h1, exprs_mono r (fun x hx => hc x (List.mem_append_right _ hx)) h2]; rfl
end
mutual
theorem stmt_mono {F G : List Fu} : ∀ (s : Sm) (all vis b : List (List UInt8)), (∀ m ∈ callsM s, ∀ n, callC F m n = 0 → callC G m n = 0) → stmtC F all vis s = .ok b → stmtC G all vis s = .ok b
  | .mk k m e t o, all, vis, b, hc, h => by
    obtain ⟨h1, h2, h3⟩ := stmtC_ok h
    rw [callsM] at hc
    rw [stmtC, if_neg (by rw [h1]; simp), if_neg (by rw [expr_mono e (fun x hx => hc x (List.mem_append_left _ hx)) h2]; simp)]
    rcases h3 with ⟨hk, hd, ht, ho⟩ | ⟨hv, hk, hm, hb, ht, ho⟩ | ⟨hv, hk, a, ha, hb⟩
    · rw [if_pos hk]; exact hd
    · rw [if_neg hv, if_pos hk, if_pos hm, hb]
    · rw [if_neg hv, if_neg hk, block_mono t _ _ _ (fun x hx => hc x (List.mem_append_right _ (List.mem_append_left _ hx))) ha, Cs.bind_ok]
      exact block_mono o _ _ _ (fun x hx => hc x (List.mem_append_right _ (List.mem_append_right _ hx))) hb
theorem block_mono {F G : List Fu} : ∀ (l : List Sm) (all vis b : List (List UInt8)), (∀ m ∈ callsS l, ∀ n, callC F m n = 0 → callC G m n = 0) → blockC F all vis l = .ok b → blockC G all vis l = .ok b
  | [], _, _, _, _, h => by rw [blockC] at h ⊢; exact h
  | s :: r, all, vis, b, hc, h => by
    rw [blockC_cons] at h ⊢
    rw [callsS] at hc
    obtain ⟨a, h1, h2⟩ := bind_ok h
    rw [stmt_mono s _ _ _ (fun x hx => hc x (List.mem_append_left _ hx)) h1, Cs.bind_ok]
    exact block_mono r _ _ _ (fun x hx => hc x (List.mem_append_right _ hx)) h2
end
theorem fun_mono {F G : List Fu} {tw : Bool} {f : Fu} (hc : ∀ m ∈ callsS f.body, ∀ n, callC F m n = 0 → callC G m n = 0) (h : funC F tw f = 0) : funC G tw f = 0 := by
  obtain ⟨h1, h2, h3, h4, a, b, h5, h6⟩ := funC_ok h
  unfold funC
  rw [if_neg, if_neg (by rw [h3]; simp), if_neg (by omega), h5, Cs.bind_ok, block_mono _ _ _ _ hc h6]
  rintro (h7 | ⟨p, hp, h7⟩)
  · rw [h1] at h7; cases h7
  · rw [h2 p hp] at h7; cases h7
/-- What is well stays well with one more function of a new name. -/
theorem well_more {F : List Fu} (h : funsC F [] F = none) {m : List UInt8} (hm : nameB m = true) (hn : ∀ f ∈ F, f.name ≠ m) : funsC (F ++ [⟨m, [], []⟩]) [] (F ++ [⟨m, [], []⟩]) = none := by
  apply funsC_none
  intro i hi
  simp only [List.nil_append]
  by_cases hl : i < F.length
  · rw [List.getElem_append_left hl, List.take_append_of_le_length (by omega)]
    have h1 := funsC_all F [] h i hl
    rw [List.nil_append] at h1
    refine fun_mono (fun x _ n hx => ?_) h1
    unfold callC at hx ⊢
    rw [List.find?_append]
    split at hx
    · cases hx
    · next g hg => rw [hg]; exact hx
  · have : i = F.length := by simp at hi; omega
    subst this
    rw [List.getElem_append_right (Nat.le_refl _)]
    simp only [Nat.sub_self, List.getElem_cons_zero]
    unfold funC
    rw [if_neg (by simp [hm]), if_neg, if_neg (by simp)]
    · simp [parsC, blockC]
    · simp only [List.any_eq_true, not_exists, not_and]
      intro f hf
      rw [List.take_append_of_le_length (Nat.le_refl _), List.take_length] at hf
      simpa using hn f hf
/-- .. and without its last one, if nobody calls it. -/
theorem well_less {F : List Fu} {g : Fu} (h : funsC (F ++ [g]) [] (F ++ [g]) = none) (hn : ∀ i (hi : i < F.length), g.name ∉ callsF F[i]) : funsC F [] F = none := by
  apply funsC_none
  intro i hi
  have h1 := funsC_all _ [] h i (by simp; omega)
  simp only [List.nil_append] at h1 ⊢
  rw [List.getElem_append_left hi, List.take_append_of_le_length (by omega)] at h1
  refine fun_mono (fun x hx n hc => ?_) h1
  have hne : g.name ≠ x := fun e => hn i hi ((mem_callsF _ _).2 (e ▸ hx))
  unfold callC at hc ⊢
  rw [List.find?_append] at hc
  have hg : [g].find? (fun f => f.name == x) = none := by simp [hne]
  rw [hg] at hc
  simpa using hc
end Go.Proofs.YtcebpmaggnephabGreatDoor
