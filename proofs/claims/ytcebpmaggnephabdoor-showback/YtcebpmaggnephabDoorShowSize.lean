/-
  Our own: plain mathematics of programs as text: how long a text is.
-/
import Derived.Test.YtcebpmaggnephabDoorShowPr
namespace Go.Proofs.YtcebpmaggnephabDoor
open Go.RowKit

theorem name_short {m : List UInt8} (h : nameG m) : m.length ≤ 8 := by
  obtain ⟨c, r, e, hl⟩ := nameG_head h
  have h2 := h.2
  rw [e] at h2 ⊢
  have h3 : (if isL c = true then nameOf (c :: r) else if isD c = true then (kNum, numOf (c :: r)) else (kSign, signOf (c :: r))) = (kName, (c :: r).length) := h2
  rw [if_pos hl] at h3
  unfold nameOf at h3
  by_cases g : 8 < spanN isLD (c :: r)
  · rw [if_pos g] at h3; exact absurd (Prod.mk.inj h3).1 (by decide)
  · rw [if_neg g] at h3
    by_cases g2 : wordsL.contains ((c :: r).take (spanN isLD (c :: r))) = true
    · rw [if_pos g2] at h3; exact absurd (Prod.mk.inj h3).1 (by decide)
    · rw [if_neg g2] at h3
      have := (Prod.mk.inj h3).2
      omega
theorem op_short {m : List UInt8} (h : 1 ≤ signLevel m) : m.length ≤ 2 := by
  have := level_mem h
  simp only [List.mem_cons, List.not_mem_nil, or_false] at this
  rcases this with h | h | h | h | h | h | h | h | h | h | h | h | h | h <;> simp [h]
def ShortE (e : Ex) : Prop := (textE e).length ≤ 22 * (showE e).length
theorem textK_short {e : Ex} (h : ShortE e) (L : Nat) : (textK e L).length ≤ 22 * (parT (needsP e L) (showE e)).length := by
  unfold ShortE at h
  rw [parT_len]
  cases hn : needsP e L
  · rw [textK_no hn]; simpa [parD] using h
  · rw [textK_yes hn]; simp [parD]; omega
theorem textA_short : ∀ (l : List Ex), (∀ e ∈ l, ShortE e) → (textA l).length ≤ 22 * (commas (showL l)).length
  | [], _ => by simp [textA, itL, commasI, bytesI]
  | [e], h => by
    have := h e (by simp)
    unfold ShortE textE at this
    simpa [textA, itL, commasI, showL, commas] using this
  | e :: f :: r, h => by
    have h1 := textA_short (f :: r) (fun x hx => h x (List.mem_cons_of_mem _ hx))
    have h2 := h e (by simp)
    unfold ShortE at h2
    have e1 : textA (e :: f :: r) = textE e ++ (44 :: 32 :: textA (f :: r)) := by simp [textA, textE, itL, commasI, bytesI, It.bytes, bytesI_append]
    have e2 : commas (showL (e :: f :: r)) = showE e ++ (kSign, [44]) :: commas (showL (f :: r)) := by simp [showL, commas]
    rw [e1, e2]
    simp only [List.length_append, List.length_cons]
    omega
theorem short_expr1 {k : List UInt8} {n : Int} {m : List UInt8} {ks : List Ex} (hp : PE (.mk k n m ks)) (hl : ∀ e ∈ ks, ShortE e) : ShortE (.mk k n m ks) := by
  rcases hp.cases with ⟨v, hv, he⟩ | ⟨m', hm, he⟩ | ⟨m', ks', hm, _, he⟩ | ⟨m', a, hm, _, he⟩ | ⟨m', a, b, hm, _, _, he⟩
  all_goals
    injection he with e1 e2 e3 e4
    subst e1; subst e2; subst e3; subst e4
    unfold ShortE
  · rw [textE_num, showE_num]; have := digs_len v; simp; omega
  · rw [textE_name, showE_name]; have := name_short hm; simp; omega
  · rw [textE_call, showE_call]
    have h1 := name_short hm
    have h2 := textA_short ks hl
    simp only [List.length_append, List.length_cons, List.length_nil]
    omega
  · rw [textE_one, showE_one]
    have h1 : m.length = 1 := by rcases hm with h | h <;> simp [h]
    have h2 := textK_short (hl a (by simp)) 9
    simp only [List.length_append, List.length_cons]
    omega
  · rw [textE_two, showE_two]
    have h1 := op_short hm
    have h2 := textK_short (hl a (by simp)) (signLevel m)
    have h3 := textK_short (hl b (by simp)) (signLevel m + 1)
    simp only [List.length_append, List.length_cons, List.length_nil]
    omega
mutual
theorem short_expr : ∀ (e : Ex), PE e → ShortE e
  | .mk _ _ _ ks, hp => short_expr1 hp (short_list ks hp.2)
theorem short_list : ∀ (l : List Ex), PEs l → ∀ e ∈ l, ShortE e
  | [], _, _, h => absurd h (by simp)
  | x :: r, hp, s, h => by
    rcases List.mem_cons.1 h with h | h
    · rw [h]; exact short_expr x hp.1
    · exact short_list r hp.2 s h
end
mutual
theorem short_stmt : ∀ (s : Sm) (d : Nat), PS s → d + depS s ≤ 13 → (textS d s).length ≤ 50 * (showS s).length
  | .mk k m e t o, d, hp, hd => by
    obtain ⟨he, ht, ho, hk⟩ := hp
    have hE := short_expr e he
    unfold ShortE at hE
    have hT := short_stmts t (d + 1) ht
    have hO := short_stmts o (d + 1) ho
    rcases hk with ⟨rfl, hm, rfl, rfl⟩ | ⟨rfl, hm, rfl, rfl⟩ | ⟨rfl, rfl⟩ | ⟨rfl, rfl, rfl⟩ | ⟨rfl, rfl, rfl, rfl⟩ | ⟨rfl, rfl, rfl, rfl⟩
    · have hn := name_short hm
      rw [textS_var, showS, combS, if_pos rfl]
      simp only [lineT, List.length_append, List.length_cons, List.length_nil, List.length_replicate]
      omega
    · have hn := name_short hm
      rw [textS_set, showS, combS, if_neg (by decide), if_pos rfl]
      simp only [lineT, List.length_append, List.length_cons, List.length_nil, List.length_replicate]
      omega
    · rw [depS, if_pos rfl] at hd
      have hs : showS (.mk kIf [] e t o) = (kWord, kIf) :: (showE e ++ (blkT (showSs t) ++ if o.isEmpty then [] else (kWord, kElse) :: blkT (showSs o))) := by rw [showS, combS, if_neg (by decide), if_neg (by decide), if_pos rfl]
      rw [textS_if, hs]
      have h1 := hT (by omega)
      by_cases hoe : o.isEmpty = true
      · rw [if_pos hoe, if_pos hoe]
        simp only [lineT, blkT, kIf, List.length_append, List.length_cons, List.length_nil, List.length_replicate]
        omega
      · rw [if_neg hoe] at hd
        have h2 := hO (by omega)
        rw [if_neg hoe, if_neg hoe]
        simp only [lineT, blkT, kIf, List.length_append, List.length_cons, List.length_nil, List.length_replicate]
        omega
    · rw [depS, if_neg (by decide), if_pos rfl] at hd
      have h1 := hT (by omega)
      rw [textS_while, showS, combS, if_neg (by decide), if_neg (by decide), if_neg (by decide), if_pos rfl]
      simp only [lineT, blkT, kWhile, List.length_append, List.length_cons, List.length_nil, List.length_replicate]
      omega
    · rw [textS_give d kReturn e (Or.inl rfl), showS, combS, if_neg (by decide), if_neg (by decide), if_neg (by decide), if_neg (by decide)]
      simp only [lineT, kReturn, List.length_append, List.length_cons, List.length_nil, List.length_replicate]
      omega
    · rw [textS_give d kPrint e (Or.inr rfl), showS, combS, if_neg (by decide), if_neg (by decide), if_neg (by decide), if_neg (by decide)]
      simp only [lineT, kPrint, List.length_append, List.length_cons, List.length_nil, List.length_replicate]
      omega
theorem short_stmts : ∀ (l : List Sm) (d : Nat), PSs l → d + depSs l ≤ 13 → (textSs d l).length ≤ 50 * (showSs l).length
  | [], d, _, _ => by simp [textSs, itSs, bytesI]
  | s :: r, d, hp, hd => by
    rw [depSs] at hd
    have h1 := short_stmt s d hp.1 (by omega)
    have h2 := short_stmts r d hp.2 (by omega)
    have h3 : textSs d (s :: r) = textS d s ++ textSs d r := by unfold textSs textS; rw [itSs, bytesI_append]
    rw [h3, showSs, List.length_append, List.length_append]
    omega
end
theorem textPs_short : ∀ (l : List (List UInt8)), (∀ p ∈ l, nameG p) → (textPs l).length ≤ 22 * (parsT l).length
  | [], _ => by simp [textPs, commasI, bytesI]
  | [p], h => by
    have := name_short (h p (by simp))
    rw [parsT_one]
    simp [textPs, commasI, bytesI, It.bytes]; omega
  | p :: q :: r, h => by
    have h1 := textPs_short (q :: r) (fun x hx => h x (List.mem_cons_of_mem _ hx))
    have h2 := name_short (h p (by simp))
    have h3 : textPs (p :: q :: r) = p ++ (44 :: 32 :: textPs (q :: r)) := by simp [textPs, commasI, bytesI, It.bytes]
    rw [h3, parsT_cons]
    simp only [List.length_append, List.length_cons] at *
    omega
end Go.Proofs.YtcebpmaggnephabDoor
