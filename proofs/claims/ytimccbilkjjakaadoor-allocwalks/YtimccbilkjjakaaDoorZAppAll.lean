/- Our own: texts joined: AppInts, Apps. -/
import Derived.Test.YtimccbilkjjakaaDoorZGrRep
import Derived.Test.YtimccbilkjjakaaDoorZBase
import Derived.OwnWalk
import Derived.Deep.AppendLies
namespace Go.Proofs.YtimccbilkjjakaaDoor
open Go.RowKit
theorem intsG_one (l : List Int) : ∀ u ∈ intsG l, u.oneCell' = true := by
 intro u hu
 obtain ⟨x, _, rfl⟩ := List.mem_map.1 hu
 rfl
theorem xrow_intsG {A : Nat → Prop} {w : World} {a : Addr} {c : Nat} {l : List Int} (h : XRow A w (.slice (some a) l.length c) l.length (intsG l)) : ∀ j u, (intsG l)[j]? = some u → w.cell? (a.add j) = some u := by
 intro j u hu
 have hj : j < l.length := by
  rcases Nat.lt_or_ge j (intsG l).length with h' | h'
  ·simpa [intsG] using h'
  ·rw [List.getElem?_eq_none h'] at hu; cases hu
 obtain ⟨g, off, e, _, _, hc⟩ := h.get (by omega)
 injection e with e
 subst e
 rw [← hc j u hu]
 congr 1
 unfold Addr.add
 split
 ·next h0 => rw [h0, Nat.add_zero]
 ·rfl
theorem run_append_intsG (w : World) (ty : TypeId) (sv : Value) (l : List Int) (hl : l.length ≤ 5000) (h : XRow (InH w) w sv l.length (intsG l)) :
  ∃ v' w', (Builtin.append_ #[25, 25] ty #[.slice none 0 0, sv]).run Tryd.prog w = .ok v' w' ∧ w'.ownsRow w.heap.size 3 1 v' l.length (intsG l) ∧ Below w.heap.size w w' := by
 obtain ⟨i0, hi, hz0, hz1, hz2⟩ := info_parts int_info
 obtain ⟨ad, cap, rfl⟩ := h.is
 cases ad with
 | some a =>
  obtain ⟨v', w', hrun, hown, hg, _, _⟩ := run_append_own_at (P := Tryd.prog) w w.heap.size 25 ty 3 i0 _ 1 8 Tryd.underlying25 hi hz0 hz1 hz2 rfl (by decide) (.slice none 0 0) 0 [] (World.ownsRow_nil _ _ _ _) a l.length cap (intsG l) (by rw [intsG_len, Nat.mul_one]) (xrow_intsG h) (intsG_one l) (by unfold maxLen; omega) (by omega) (Nat.le_refl _)
  refine ⟨v', w', hrun, by simpa using hown, ⟨hg.os, hg.tape, hg.output, hg.size, fun i hi => hg.block i hi (fun e => by simp [Value.ownBlock] at e)⟩⟩
 | none =>
  have h0 : l = [] := by
   rcases Nat.eq_zero_or_pos l.length with h' | h'
   ·exact List.length_eq_zero_iff.1 h'
   ·obtain ⟨g, off, e, _⟩ := h.get (by omega); cases e
  subst h0
  refine ⟨.slice none 0 0, w, ?_, World.ownsRow_nil _ _ _ _, Below.refl _ _⟩
  simp [Builtin.append_, run_underlying Tryd.underlying25, sizeOf, typeInfo, hi, Builtin.lenOf, Builtin.firstCells]
theorem wpList_append_intsG {ops : Array Oper} {rest : List Oper} {o : Oper} {a : Act} {w : World} {Q : Exit → Act → World → Prop} (hgd : o.guard = none) (s x : Operand)
  (ho : o.op = .call { callee := .builtin .append, args := #[s, x], argTypes := #[25, 25] }) (hs : a.eval s = .slice none 0 0) (sv : Value) (hx : a.eval x = sv) (l : List Int) (hl : l.length ≤ 5000) (h : XRow (InH w) w sv l.length (intsG l))
  (hk : ∀ v' w', w'.ownsRow w.heap.size 3 1 v' l.length (intsG l) → Below w.heap.size w w' → wpList Tryd.prog ops Q rest (a.put o.dst v') w') :
  wpList Tryd.prog ops Q (o :: rest) a w := by
 refine wpList_plain hgd fun K hK => ?_
 obtain ⟨v', w', hr, h1, h2⟩ := run_append_intsG w o.type sv l hl h
 unfold Oper.wp execOp
 simp only [ho, resolve, invoke, builtin, Sem.run_bind, Sem.run_pure, Result.andThen_ok, List.map_toArray, List.map_cons, List.map_nil, hs, hx, hr]
 exact hK _ _ (hk _ _ h1 h2)
theorem step_append_intsG {ops : Array Oper} {o : Oper} {a : Act} {w : World} {K : Act → World → Prop} {Q : Exit → Act → World → Prop} {E : Prop} (hgd : o.guard = none) (s x : Operand)
  (ho : o.op = .call { callee := .builtin .append, args := #[s, x], argTypes := #[25, 25] }) (hs : a.eval s = .slice none 0 0) (sv : Value) (hx : a.eval x = sv) (l : List Int) (hl : l.length ≤ 5000) (h : XRow (InH w) w sv l.length (intsG l))
  (hk : ∀ ad cap w', w'.ownsRow w.heap.size 3 1 (.slice ad l.length cap) l.length (intsG l) → Below w.heap.size w w' → K (a.put o.dst (.slice ad l.length cap)) w') :
  if Region.wanted o (yielded ops a.tmps) = true then Oper.wp Tryd.prog o a w K Q else E := by
 have hw : Region.wanted o (yielded ops a.tmps) = true := by simp [Region.wanted, hgd]
 rw [if_pos hw]
 obtain ⟨v', w', hr, h1, h2⟩ := run_append_intsG w o.type sv l hl h
 obtain ⟨ad, cap, rfl⟩ := own_is h1
 unfold Oper.wp execOp
 simp only [ho, resolve, invoke, builtin, Sem.run_bind, Sem.run_pure, Result.andThen_ok, List.map_toArray, List.map_cons, List.map_nil, hs, hx, hr]
 exact hk _ _ _ h1 h2
end Go.Proofs.YtimccbilkjjakaaDoor
namespace Go.Proofs.YtimccbilkjjakaaDoor
open Go.RowKit
abbrev KA (B : Nat) (w : World) (v : Value) (b : Nat) : Prop := B ≤ b ∧ b < w.heap.size ∧ v.ownBlock ≠ some b
abbrev Nw (w w' : World) (b : Nat) : Prop := w.heap.size ≤ b ∧ b < w'.heap.size
theorem app_keep {α : Type} {Rep : (Nat → Prop) → World → α → List Value → Prop} {Reps : (Nat → Prop) → World → List α → List Value → Prop}
  (imp : ∀ {A C : Nat → Prop} {w w' : World}, (∀ b, A b → C b) → KeepA A w w' → ∀ l xs, Reps A w l xs → Reps C w' l xs) (impR : ∀ {A C : Nat → Prop} {w w' : World}, (∀ b, A b → C b) → KeepA A w w' → ∀ l xs, Rep A w l xs → Rep C w' l xs)
  (snoc : ∀ {A : Nat → Prop} {w : World} {l : List α} {xs : List Value} {e : α} {cs : List Value}, Reps A w l xs → Rep A w e cs → Reps A w (l ++ [e]) (xs ++ cs))
  {B n size : Nat} {t : TypeId} {w w1 w2 w3 : World} {v v' : Value} {l : List α} {xs cs : List Value} {x : α}
  (ho : w.ownsRow B t size v n xs) (hk : Reps (KA B w v) w l xs) (h1 : Below w.heap.size w w1) (hx : Rep (Nw w w1) w1 x cs) (h2 : Below w1.heap.size w1 w2) (hB : B ≤ w.heap.size) (hg : w2.grownBy w3 v.ownBlock) (hl : v'.ownBlock = v.ownBlock ∨ v'.ownBlock = some w2.heap.size) :
  Reps (KA B w3 v') w3 (l ++ [x]) (xs ++ cs) := by
 have z1 := h1.size
 have z2 := h2.size
 have z3 := hg.size
 have hown : ∀ b, v.ownBlock = some b → b < w.heap.size := fun b hb => (ho.lt b hb).2
 refine snoc (imp (fun b hb => ?_) (fun b hb => ?_) _ _ hk) (impR (fun b hb => ?_) (fun b hb => ?_) _ _ hx)
 ·refine ⟨hb.1, by have := hb.2.1; omega, ?_⟩
  rcases hl with e | e
  ·rw [e]; exact hb.2.2
  ·rw [e]; intro e'; injection e' with e'; have := hb.2.1; omega
 ·have hbl := hb.2.1
  rw [hg.block b (by omega) (fun e => hb.2.2 e.symm), h2.block b (by omega), h1.block b hbl]
 ·have hb1 := hb.1
  refine ⟨by omega, by have := hb.2; omega, ?_⟩
  rcases hl with e | e
  ·rw [e]; intro e'; have := hown b e'; omega
  ·rw [e]; intro e'; injection e' with e'; have := hb.2; omega
 ·have hb1 := hb.1
  have hb2 := hb.2
  rw [hg.block b (by omega) (fun e => by have := hown b e.symm; omega), h2.block b hb2]
end Go.Proofs.YtimccbilkjjakaaDoor
