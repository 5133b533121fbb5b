/-
  Our own: what a program of the document holds is never many; the errors of the document's parser are two.
-/
import Derived.Test.YtdleiajkihijhabGreatDoorTreeCut
namespace Go.Proofs.YtdleiajkihijhabGreatDoor
open Go.RowKit

mutual
def SmE : Ex → Prop
  | .mk _ _ _ ks => ks.length ≤ 5000 ∧ SmEs ks
def SmEs : List Ex → Prop
  | [] => True
  | e :: r => SmE e ∧ SmEs r
end
mutual
def SmS : Sm → Prop
  | .mk _ _ e t o => SmE e ∧ t.length ≤ 5000 ∧ SmSs t ∧ o.length ≤ 5000 ∧ SmSs o
def SmSs : List Sm → Prop
  | [] => True
  | e :: r => SmS e ∧ SmSs r
end
def SmL (l : List Sm) : Prop := l.length ≤ 5000 ∧ SmSs l
def SmF (f : Fu) : Prop := f.params.length ≤ 5000 ∧ SmL f.body
theorem SmEs.snoc : ∀ {l : List Ex} {e : Ex}, SmEs l → SmE e → SmEs (l ++ [e])
  | [], _, _, h => ⟨h, trivial⟩
  | _ :: _, _, ⟨h1, h2⟩, h => ⟨h1, SmEs.snoc h2 h⟩
theorem SmSs.snoc : ∀ {l : List Sm} {e : Sm}, SmSs l → SmS e → SmSs (l ++ [e])
  | [], _, _, h => ⟨h, trivial⟩
  | _ :: _, _, ⟨h1, h2⟩, h => ⟨h1, SmSs.snoc h2 h⟩
def Rs.all {α : Type} (x : Rs α) (P : α → Prop) : Prop := ∀ a j, x = .ok a j → P a
theorem Rs.all.bind {α β : Type} {x : Rs α} {f : α → Nat → Rs β} {P : α → Prop} {Q : β → Prop} (h : x.all P) (hf : ∀ a j, P a → (f a j).all Q) : (x.bind f).all Q := by
  cases x with
  | out => intro a j e; cases e
  | bad c k => intro a j e; cases e
  | ok a j => exact hf a j (h a j rfl)
theorem all_any {α : Type} (x : Rs α) : x.all fun _ => True := fun _ _ _ => trivial
theorem ok_all {α : Type} {P : α → Prop} {a : α} {j : Nat} (h : P a) : (Rs.ok a j).all P := fun _ _ e => by cases e; exact h
theorem bad_all {α : Type} {P : α → Prop} {c k : Nat} : (Rs.bad c k : Rs α).all P := fun _ _ e => by cases e
theorem out_all {α : Type} {P : α → Prop} : (Rs.out : Rs α).all P := fun _ _ e => by cases e
theorem expr_small (T : List Tok) : ∀ n : Nat, n ≤ 5000 → (∀ d l i, (exprT T n d l i).all SmE) ∧ (∀ d l e i, SmE e → (loopT T n d l e i).all SmE) ∧ (∀ d i, (singleT T n d i).all SmE) ∧ (∀ d i, (argsT T n d i).all fun l => l.length ≤ 5000 ∧ SmEs l) ∧ (∀ d es i, es.length + n ≤ 5000 → SmEs es → (moreT T n d es i).all fun l => l.length ≤ 5000 ∧ SmEs l) := by
  intro n
  induction n with
  | zero => intro _; exact ⟨fun _ _ i => by rw [exprT]; exact out_all, fun _ _ _ i _ => by rw [loopT]; exact out_all, fun _ i => by rw [singleT]; exact out_all, fun _ i => by rw [argsT]; exact out_all, fun _ _ i _ _ => by rw [moreT]; exact out_all⟩
  | succ n ih =>
    intro hn
    obtain ⟨h1, h2, h3, h4, h5⟩ := ih (by omega)
    refine ⟨fun d l i => ?_, fun d l e i he => ?_, fun d i => ?_, fun d i => ?_, fun d es i hl hes => ?_⟩
    · rw [exprT]; exact (h3 d i).bind fun e j hj => h2 d l e j hj
    · rw [loopT]
      split
      · exact ok_all he
      · exact (h1 d _ (i + 1)).bind fun r j hr => h2 d l _ j ⟨by simp, he, hr, trivial⟩
    · rw [singleT]
      split
      · exact ok_all ⟨by simp, trivial⟩
      · split
        · split
          · split
            · exact bad_all
            · exact (h4 _ _).bind fun ks j hk => ok_all hk
          · exact ok_all ⟨by simp, trivial⟩
        · split
          · split
            · exact bad_all
            · exact (h3 _ _).bind fun e j he => ok_all ⟨by simp, he, trivial⟩
          · split
            · split
              · exact bad_all
              · exact (h1 _ _ _).bind fun e j he => (all_any _).bind fun _ j _ => ok_all he
            · exact bad_all
    · rw [argsT]
      split
      · exact ok_all ⟨by simp, trivial⟩
      · exact h5 _ _ _ (by simp; omega) trivial
    · rw [moreT]
      refine (h1 _ _ _).bind fun e j he => ?_
      split
      · exact h5 _ _ _ (by simp; omega) (hes.snoc he)
      · exact (all_any _).bind fun _ j _ => ok_all ⟨by simp; omega, hes.snoc he⟩
theorem sml_nil : ([] : List Sm).length ≤ 5000 ∧ SmSs [] := ⟨by simp, trivial⟩
theorem block_small (T : List Tok) : ∀ n : Nat, n ≤ 5000 → (∀ d i, (blockT T n d i).all SmL) ∧ (∀ d ss i, ss.length + n ≤ 5000 → SmSs ss → (stmtsT T n d ss i).all SmL) ∧ (∀ d i, (stmtT T n d i).all SmS) := by
  intro n
  induction n with
  | zero => intro _; exact ⟨fun _ i => by rw [blockT]; exact out_all, fun _ _ i _ _ => by rw [stmtsT]; exact out_all, fun _ i => by rw [stmtT]; exact out_all⟩
  | succ n ih =>
    intro hn
    obtain ⟨h1, h2, h3⟩ := ih (by omega)
    have he := (expr_small T n (by omega)).1
    refine ⟨fun d i => ?_, fun d ss i hl hs => ?_, fun d i => ?_⟩
    · rw [blockT]
      split
      · split
        · exact bad_all
        · exact h2 _ _ _ (by simp; omega) trivial
      · exact bad_all
    · rw [stmtsT]
      split
      · exact ok_all ⟨by omega, hs⟩
      · exact (h3 _ _).bind fun s j hj => h2 _ _ _ (by simp; omega) (hs.snoc hj)
    · have hes : ∀ (k x : List UInt8) j, (Rs.bind (exprT T n d 1 j) fun e j => (needT T kSign [59] j).bind fun _ j => .ok (Sm.mk k x e [] []) j).all SmS := fun k x j =>
        (he _ _ _).bind fun e j h => (all_any _).bind fun _ j _ => ok_all ⟨h, sml_nil.1, sml_nil.2, sml_nil⟩
      rw [stmtT]
      split
      · exact (all_any _).bind fun _ j _ => hes _ _ _
      · split
        · exact (all_any _).bind fun _ j _ => (all_any _).bind fun _ j _ => hes _ _ _
        · split
          · refine (he _ _ _).bind fun e j h => (h1 _ _).bind fun t j ht => ?_
            split
            · exact (h1 _ _).bind fun o j ho => ok_all ⟨h, ht.1, ht.2, ho.1, ho.2⟩
            · exact ok_all ⟨h, ht.1, ht.2, sml_nil⟩
          · split
            · exact (he _ _ _).bind fun e j h => (h1 _ _).bind fun t j ht => ok_all ⟨h, ht.1, ht.2, sml_nil⟩
            · split
              · exact hes _ _ _
              · split
                · exact hes _ _ _
                · exact bad_all
theorem names_small (T : List Tok) : ∀ n xs i, xs.length + n ≤ 5000 → (namesT T n xs i).all fun l => l.length ≤ 5000
  | 0, _, _, _ => by rw [namesT]; exact out_all
  | n + 1, xs, i, h => by
    rw [namesT]
    refine (all_any _).bind fun x j _ => ?_
    split
    · exact names_small T n _ _ (by simp; omega)
    · exact (all_any _).bind fun _ j _ => ok_all (by simp; omega)
theorem fun_small (T : List Tok) (n i : Nat) (hn : n ≤ 5000) : (funT T n i).all SmF := by
  unfold funT
  refine (all_any _).bind fun _ j _ => (all_any _).bind fun x j _ => (all_any _).bind fun _ j _ => ?_
  have hp : (paramsT T n j).all fun l => l.length ≤ 5000 := by
    unfold paramsT
    split
    · exact ok_all (by simp)
    · exact names_small T n _ _ (by simp; omega)
  exact hp.bind fun ps j h => ((block_small T n hn).1 _ _).bind fun b j hb => ok_all ⟨h, hb⟩
theorem funs_small (T : List Tok) : ∀ n fs i, fs.length + n ≤ 5000 → (∀ f ∈ fs, SmF f) → (funsT T n fs i).all fun l => l.length ≤ 5000 ∧ ∀ f ∈ l, SmF f
  | 0, _, _, _, _ => by rw [funsT]; exact out_all
  | n + 1, fs, i, h, hf => by
    rw [funsT]
    split
    · exact (fun_small T n i (by omega)).bind fun f j hj => funs_small T n _ _ (by simp; omega) (fun g hg => by rcases List.mem_append.1 hg with hg | hg; exact hf g hg; rw [List.mem_singleton.1 hg]; exact hj)
    · exact ok_all ⟨by omega, hf⟩
theorem parse_small {T : List Tok} {P : List Fu} {j : Nat} (h : parseT T = .ok P j) : P.length ≤ 5000 ∧ ∀ f ∈ P, SmF f :=
  funs_small T 4020 [] 0 (by simp) (by simp) P j h


def Rs.low {α : Type} (x : Rs α) : Prop := ∀ c k, x = .bad c k → c ≤ 10
theorem Rs.low.bind {α β : Type} {x : Rs α} {f : α → Nat → Rs β} (h : x.low) (hf : ∀ a j, (f a j).low) : (x.bind f).low := by
  cases x with
  | out => intro a j e; cases e
  | bad c k => intro a j e; cases e; exact h c k rfl
  | ok a j => exact hf a j
theorem ok_low {α : Type} {a : α} {j : Nat} : (Rs.ok a j).low := fun _ _ e => by cases e
theorem out_low {α : Type} : (Rs.out : Rs α).low := fun _ _ e => by cases e
theorem bad_low {α : Type} {c k : Nat} (h : c ≤ 10) : (Rs.bad c k : Rs α).low := fun _ _ e => by cases e; exact h
theorem need_low (T : List Tok) (k x : List UInt8) (i : Nat) : (needT T k x i).low := by
  unfold needT; split
  · exact ok_low
  · exact bad_low (by decide)
theorem name_low (T : List Tok) (i : Nat) : (nameT T i).low := by
  unfold nameT; split
  · exact ok_low
  · exact bad_low (by decide)
theorem expr_low (T : List Tok) : ∀ n : Nat, (∀ d l i, (exprT T n d l i).low) ∧ (∀ d l e i, (loopT T n d l e i).low) ∧ (∀ d i, (singleT T n d i).low) ∧ (∀ d i, (argsT T n d i).low) ∧ (∀ d es i, (moreT T n d es i).low) := by
  intro n
  induction n with
  | zero => exact ⟨fun _ _ i => by rw [exprT]; exact out_low, fun _ _ _ i => by rw [loopT]; exact out_low, fun _ i => by rw [singleT]; exact out_low, fun _ i => by rw [argsT]; exact out_low, fun _ _ i => by rw [moreT]; exact out_low⟩
  | succ n ih =>
    obtain ⟨h1, h2, h3, h4, h5⟩ := ih
    refine ⟨fun d l i => ?_, fun d l e i => ?_, fun d i => ?_, fun d i => ?_, fun d es i => ?_⟩
    · rw [exprT]; exact (h3 d i).bind fun e j => h2 d l e j
    · rw [loopT]
      split
      · exact ok_low
      · exact (h1 d _ (i + 1)).bind fun r j => h2 d l _ j
    · rw [singleT]
      split
      · exact ok_low
      · split
        · split
          · split
            · exact bad_low (by decide)
            · exact (h4 _ _).bind fun ks j => ok_low
          · exact ok_low
        · split
          · split
            · exact bad_low (by decide)
            · exact (h3 _ _).bind fun e j => ok_low
          · split
            · split
              · exact bad_low (by decide)
              · exact (h1 _ _ _).bind fun e j => (need_low _ _ _ _).bind fun _ j => ok_low
            · exact bad_low (by decide)
    · rw [argsT]
      split
      · exact ok_low
      · exact h5 _ _ _
    · rw [moreT]
      refine (h1 _ _ _).bind fun e j => ?_
      split
      · exact h5 _ _ _
      · exact (need_low _ _ _ _).bind fun _ j => ok_low
theorem block_low (T : List Tok) : ∀ n : Nat, (∀ d i, (blockT T n d i).low) ∧ (∀ d ss i, (stmtsT T n d ss i).low) ∧ (∀ d i, (stmtT T n d i).low) := by
  intro n
  induction n with
  | zero => exact ⟨fun _ i => by rw [blockT]; exact out_low, fun _ _ i => by rw [stmtsT]; exact out_low, fun _ i => by rw [stmtT]; exact out_low⟩
  | succ n ih =>
    obtain ⟨h1, h2, h3⟩ := ih
    have he := (expr_low T n).1
    refine ⟨fun d i => ?_, fun d ss i => ?_, fun d i => ?_⟩
    · rw [blockT]
      split
      · split
        · exact bad_low (by decide)
        · exact h2 _ _ _
      · exact bad_low (by decide)
    · rw [stmtsT]
      split
      · exact ok_low
      · exact (h3 _ _).bind fun s j => h2 _ _ _
    · have hes : ∀ (k x : List UInt8) j, (Rs.bind (exprT T n d 1 j) fun e j => (needT T kSign [59] j).bind fun _ j => .ok (Sm.mk k x e [] []) j).low := fun k x j =>
        (he _ _ _).bind fun e j => (need_low _ _ _ _).bind fun _ j => ok_low
      rw [stmtT]
      split
      · exact (need_low _ _ _ _).bind fun _ j => hes _ _ _
      · split
        · exact (name_low _ _).bind fun _ j => (need_low _ _ _ _).bind fun _ j => hes _ _ _
        · split
          · refine (he _ _ _).bind fun e j => (h1 _ _).bind fun t j => ?_
            split
            · exact (h1 _ _).bind fun o j => ok_low
            · exact ok_low
          · split
            · exact (he _ _ _).bind fun e j => (h1 _ _).bind fun t j => ok_low
            · split
              · exact hes _ _ _
              · split
                · exact hes _ _ _
                · exact bad_low (by decide)
theorem names_low (T : List Tok) : ∀ n xs i, (namesT T n xs i).low
  | 0, _, _ => by rw [namesT]; exact out_low
  | n + 1, xs, i => by
    rw [namesT]
    refine (name_low _ _).bind fun x j => ?_
    split
    · exact names_low T n _ _
    · exact (need_low _ _ _ _).bind fun _ j => ok_low
theorem fun_low (T : List Tok) (n i : Nat) : (funT T n i).low := by
  unfold funT
  refine (need_low _ _ _ _).bind fun _ j => (name_low _ _).bind fun x j => (need_low _ _ _ _).bind fun _ j => ?_
  have hp : (paramsT T n j).low := by
    unfold paramsT
    split
    · exact ok_low
    · exact names_low T n _ _
  exact hp.bind fun ps j => ((block_low T n).1 _ _).bind fun b j => ok_low
theorem funs_low (T : List Tok) : ∀ n fs i, (funsT T n fs i).low
  | 0, _, _ => by rw [funsT]; exact out_low
  | n + 1, fs, i => by
    rw [funsT]
    split
    · exact (fun_low T n i).bind fun f j => funs_low T n _ _
    · exact ok_low
theorem parse_low {T : List Tok} {c k : Nat} (h : parseT T = .bad c k) : c ≤ 10 := funs_low T 4020 [] 0 c k h
end Go.Proofs.YtdleiajkihijhabGreatDoor
