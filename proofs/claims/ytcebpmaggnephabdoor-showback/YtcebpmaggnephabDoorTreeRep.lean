/-
  Our own: how a tree lies in memory.
-/
import Derived.Test.YtcebpmaggnephabDoorTreeMath
import Derived.Test.YtcebpmaggnephabDoorLexView
namespace Go.Proofs.YtcebpmaggnephabDoor
open Go.RowKit

/-- All but block p is as it was; blocks may be new. -/
structure But (p : Nat) (w w' : World) : Prop where
  os : w'.os = w.os
  tape : w'.tape = w.tape
  output : w'.output = w.output
  size : w.heap.size ≤ w'.heap.size
  block : ∀ k, k < w.heap.size → k ≠ p → w'.heap[k]? = w.heap[k]?
theorem But.refl (p : Nat) (w : World) : But p w w := ⟨rfl, rfl, rfl, Nat.le_refl _, fun _ _ _ => rfl⟩
theorem But.trans {p : Nat} {a b c : World} (h : But p a b) (k : But p b c) : But p a c :=
  ⟨k.os.trans h.os, k.tape.trans h.tape, k.output.trans h.output, Nat.le_trans h.size k.size, fun i hi hp => (k.block i (Nat.lt_of_lt_of_le hi h.size) hp).trans (h.block i hi hp)⟩
theorem But.of {p : Nat} {w w' : World} (h : Below w.heap.size w w') : But p w w' := ⟨h.os, h.tape, h.output, h.size, fun k hk _ => h.block k hk⟩
theorem But.below {p : Nat} {w w' : World} (h : But p w w') (hp : p ≤ w.heap.size) : Below p w w' := ⟨h.os, h.tape, h.output, h.size, fun k hk => h.block k (by omega) (by omega)⟩
theorem But.alloc {p : Nat} {a w : World} (h : But p a w) (o : Obj) : But p a (w.alloc o) := h.trans (But.of ((Below.refl _ _).alloc (Nat.le_refl _) o))
theorem But.set {p : Nat} {a w : World} (h : But p a w) (i : Nat) (u : Value) : But p a (w.setCell ⟨p, i, none⟩ u) :=
  h.trans ⟨rfl, rfl, rfl, by simp [World.setCell], fun k _ hp => Below.heap_setCell _ _ _ _ hp⟩
/-- A store into a block that is new. -/
theorem But.setNew {p : Nat} {a w : World} (h : But p a w) (b i : Nat) (hb : a.heap.size ≤ b) (u : Value) : But p a (w.setCell ⟨b, i, none⟩ u) :=
  ⟨h.os, h.tape, h.output, by simpa [World.setCell] using h.size, fun k hk hp => (Below.heap_setCell _ _ _ _ (by show k ≠ b; omega)).trans (h.block k hk hp)⟩
theorem But.drew {p : Nat} {a w : World} (h : But p a w) : But p a w.drew := ⟨h.os, h.tape, h.output, h.size, h.block⟩
theorem But.drewN {p : Nat} {a w : World} (h : But p a w) (m : Nat) : But p a (w.drewN m) := ⟨h.os, h.tape, h.output, h.size, h.block⟩

/-- What lies in the blocks that A names is as it was. -/
def KeepA (A : Nat → Prop) (w w' : World) : Prop := ∀ b, A b → w'.heap[b]? = w.heap[b]?
/-- A slice's value that reads as these cells: in a block that A names, if there are any; its capacity bears them. -/
def Row (A : Nat → Prop) (w : World) (v : Value) (n : Nat) (xs : List Value) : Prop :=
  ∃ ad cap, v = .slice ad n cap ∧ (n ≠ 0 → ∃ g, ad = some ⟨g, 0, none⟩ ∧ (A g ∧ n ≤ cap) ∧ ∀ j u, xs[j]? = some u → w.cell? ⟨g, j, none⟩ = some u)
mutual
/-- The cells of an expression's tree. -/
def RepE (A : Nat → Prop) (w : World) : Ex → List Value → Prop
  | .mk k n m ks, cs => ∃ v xs, cs = [.string ⟨k.toArray⟩, .int .i64 n, .string ⟨m.toArray⟩, v] ∧ Row A w v ks.length xs ∧ RepEs A w ks xs
def RepEs (A : Nat → Prop) (w : World) : List Ex → List Value → Prop
  | [], xs => xs = []
  | e :: r, xs => ∃ cs ys, xs = cs ++ ys ∧ RepE A w e cs ∧ RepEs A w r ys
end
mutual
/-- The cells of a statement's tree. -/
def RepS (A : Nat → Prop) (w : World) : Sm → List Value → Prop
  | .mk k n e t o, cs => ∃ es tv ts ov os, cs = .string ⟨k.toArray⟩ :: .string ⟨n.toArray⟩ :: (es ++ [tv, ov]) ∧ RepE A w e es ∧ Row A w tv t.length ts ∧ RepSs A w t ts ∧ Row A w ov o.length os ∧ RepSs A w o os
def RepSs (A : Nat → Prop) (w : World) : List Sm → List Value → Prop
  | [], xs => xs = []
  | e :: r, xs => ∃ cs ys, xs = cs ++ ys ∧ RepS A w e cs ∧ RepSs A w r ys
end
def textsC (l : List (List UInt8)) : List Value := l.map fun x => .string ⟨x.toArray⟩
/-- The cells of a function's tree. -/
def RepF (A : Nat → Prop) (w : World) (f : Fu) (cs : List Value) : Prop :=
  ∃ pv bv bs, cs = [.string ⟨f.name.toArray⟩, pv, bv] ∧ Row A w pv f.params.length (textsC f.params) ∧ Row A w bv f.body.length bs ∧ RepSs A w f.body bs
def RepFs (A : Nat → Prop) (w : World) : List Fu → List Value → Prop
  | [], xs => xs = []
  | e :: r, xs => ∃ cs ys, xs = cs ++ ys ∧ RepF A w e cs ∧ RepFs A w r ys

theorem Row.imp {A B : Nat → Prop} {w w' : World} {v : Value} {n : Nat} {xs : List Value} (h : Row A w v n xs) (hA : ∀ b, A b → B b) (hk : KeepA A w w') : Row B w' v n xs := by
  obtain ⟨ad, cap, rfl, hx⟩ := h
  refine ⟨ad, cap, rfl, fun hn => ?_⟩
  obtain ⟨g, rfl, hg, hc⟩ := hx hn
  exact ⟨g, rfl, ⟨hA g hg.1, hg.2⟩, fun j u hu => (World.cell?_of_block (w := w) (a := ⟨g, j, none⟩) (hk g hg.1)).trans (hc j u hu)⟩
mutual
theorem RepE.imp {A B : Nat → Prop} {w w' : World} (hA : ∀ b, A b → B b) (hk : KeepA A w w') : ∀ (e : Ex) (cs : List Value), RepE A w e cs → RepE B w' e cs
  | .mk k n m ks, cs, h => by
    obtain ⟨v, xs, rfl, hr, hs⟩ := h
    exact ⟨v, xs, rfl, hr.imp hA hk, RepEs.imp hA hk ks xs hs⟩
theorem RepEs.imp {A B : Nat → Prop} {w w' : World} (hA : ∀ b, A b → B b) (hk : KeepA A w w') : ∀ (es : List Ex) (xs : List Value), RepEs A w es xs → RepEs B w' es xs
  | [], xs, h => h
  | e :: r, xs, h => by
    obtain ⟨cs, ys, rfl, he, hr⟩ := h
    exact ⟨cs, ys, rfl, RepE.imp hA hk e cs he, RepEs.imp hA hk r ys hr⟩
end
mutual
theorem RepS.imp {A B : Nat → Prop} {w w' : World} (hA : ∀ b, A b → B b) (hk : KeepA A w w') : ∀ (e : Sm) (cs : List Value), RepS A w e cs → RepS B w' e cs
  | .mk k n e t o, cs, h => by
    obtain ⟨es, tv, ts, ov, os, rfl, he, ht, hts, ho, hos⟩ := h
    exact ⟨es, tv, ts, ov, os, rfl, RepE.imp hA hk e es he, ht.imp hA hk, RepSs.imp hA hk t ts hts, ho.imp hA hk, RepSs.imp hA hk o os hos⟩
theorem RepSs.imp {A B : Nat → Prop} {w w' : World} (hA : ∀ b, A b → B b) (hk : KeepA A w w') : ∀ (es : List Sm) (xs : List Value), RepSs A w es xs → RepSs B w' es xs
  | [], xs, h => h
  | e :: r, xs, h => by
    obtain ⟨cs, ys, rfl, he, hr⟩ := h
    exact ⟨cs, ys, rfl, RepS.imp hA hk e cs he, RepSs.imp hA hk r ys hr⟩
end
theorem RepF.imp {A B : Nat → Prop} {w w' : World} (hA : ∀ b, A b → B b) (hk : KeepA A w w') (f : Fu) (cs : List Value) (h : RepF A w f cs) : RepF B w' f cs := by
  obtain ⟨pv, bv, bs, rfl, hp, hb, hs⟩ := h
  exact ⟨pv, bv, bs, rfl, hp.imp hA hk, hb.imp hA hk, RepSs.imp hA hk _ _ hs⟩
theorem RepFs.imp {A B : Nat → Prop} {w w' : World} (hA : ∀ b, A b → B b) (hk : KeepA A w w') : ∀ (es : List Fu) (xs : List Value), RepFs A w es xs → RepFs B w' es xs
  | [], xs, h => h
  | e :: r, xs, h => by
    obtain ⟨cs, ys, rfl, he, hr⟩ := h
    exact ⟨cs, ys, rfl, RepF.imp hA hk e cs he, RepFs.imp hA hk r ys hr⟩
theorem RepEs.snoc {A : Nat → Prop} {w : World} : ∀ {es : List Ex} {xs : List Value} {e : Ex} {cs : List Value}, RepEs A w es xs → RepE A w e cs → RepEs A w (es ++ [e]) (xs ++ cs)
  | [], xs, e, cs, h, he => ⟨cs, [], by have : xs = [] := h; rw [this]; simp, he, rfl⟩
  | x :: r, xs, e, cs, h, he => by
    obtain ⟨c, ys, rfl, hx, hr⟩ := h
    exact ⟨c, ys ++ cs, by rw [List.append_assoc], hx, RepEs.snoc hr he⟩
theorem RepSs.snoc {A : Nat → Prop} {w : World} : ∀ {es : List Sm} {xs : List Value} {e : Sm} {cs : List Value}, RepSs A w es xs → RepS A w e cs → RepSs A w (es ++ [e]) (xs ++ cs)
  | [], xs, e, cs, h, he => ⟨cs, [], by have : xs = [] := h; rw [this]; simp, he, rfl⟩
  | x :: r, xs, e, cs, h, he => by
    obtain ⟨c, ys, rfl, hx, hr⟩ := h
    exact ⟨c, ys ++ cs, by rw [List.append_assoc], hx, RepSs.snoc hr he⟩
theorem RepFs.snoc {A : Nat → Prop} {w : World} : ∀ {es : List Fu} {xs : List Value} {e : Fu} {cs : List Value}, RepFs A w es xs → RepF A w e cs → RepFs A w (es ++ [e]) (xs ++ cs)
  | [], xs, e, cs, h, he => ⟨cs, [], by have : xs = [] := h; rw [this]; simp, he, rfl⟩
  | x :: r, xs, e, cs, h, he => by
    obtain ⟨c, ys, rfl, hx, hr⟩ := h
    exact ⟨c, ys ++ cs, by rw [List.append_assoc], hx, RepFs.snoc hr he⟩
theorem RepE.len {A : Nat → Prop} {w : World} {e : Ex} {cs : List Value} (h : RepE A w e cs) : cs.length = 4 := by
  cases e; obtain ⟨v, xs, rfl, _⟩ := h; rfl
theorem RepS.len {A : Nat → Prop} {w : World} {e : Sm} {cs : List Value} (h : RepS A w e cs) : cs.length = 8 := by
  cases e; obtain ⟨es, tv, ts, ov, os, rfl, he, _⟩ := h; simp [he.len]
theorem RepF.len {A : Nat → Prop} {w : World} {e : Fu} {cs : List Value} (h : RepF A w e cs) : cs.length = 3 := by
  obtain ⟨v, _, xs, rfl, _⟩ := h; rfl
theorem RepEs.len {A : Nat → Prop} {w : World} : ∀ {es : List Ex} {xs : List Value}, RepEs A w es xs → xs.length = es.length * 4
  | [], xs, h => by have : xs = [] := h; rw [this]; rfl
  | e :: r, xs, h => by obtain ⟨cs, ys, rfl, he, hr⟩ := h; simp [he.len, RepEs.len hr]; omega
theorem RepSs.len {A : Nat → Prop} {w : World} : ∀ {es : List Sm} {xs : List Value}, RepSs A w es xs → xs.length = es.length * 8
  | [], xs, h => by have : xs = [] := h; rw [this]; rfl
  | e :: r, xs, h => by obtain ⟨cs, ys, rfl, he, hr⟩ := h; simp [he.len, RepSs.len hr]; omega
theorem RepFs.len {A : Nat → Prop} {w : World} : ∀ {es : List Fu} {xs : List Value}, RepFs A w es xs → xs.length = es.length * 3
  | [], xs, h => by have : xs = [] := h; rw [this]; rfl
  | e :: r, xs, h => by obtain ⟨cs, ys, rfl, he, hr⟩ := h; simp [he.len, RepFs.len hr]; omega
theorem row_nil (A : Nat → Prop) (w : World) : Row A w (.slice none 0 0) 0 [] := ⟨_, _, rfl, fun h => absurd rfl h⟩

/-- New blocks. -/
def NewB (n : Nat) (b : Nat) : Prop := n ≤ b

theorem cell_of_blk {w : World} {b : Nat} {cs : Array Value} {t : TypeId} (h : w.heap[b]? = some (.cells cs t (0, 0))) (i : Nat) : w.cell? ⟨b, i, none⟩ = cs[i]? := by simp [World.cell?, h]
theorem free_of_blk {w : World} {b : Nat} {cs : Array Value} {t : TypeId} (h : w.heap[b]? = some (.cells cs t (0, 0))) (i : Nat) : w.frozen? ⟨b, i, none⟩ = false := by simp [World.frozen?, h]
theorem blk_setCell {w : World} {b : Nat} {cs : Array Value} {t : TypeId} (h : w.heap[b]? = some (.cells cs t (0, 0))) (i : Nat) (u : Value) : (w.setCell ⟨b, i, none⟩ u).heap[b]? = some (.cells (cs.setIfInBounds i u) t (0, 0)) := by
  have hlt := heap_lt h
  have h' : w.heap[b] = .cells cs t (0, 0) := by simpa [Array.getElem?_eq_getElem hlt] using h
  show (w.heap.modify b _)[b]? = _
  rw [Array.getElem?_eq_getElem (by simpa using hlt), Array.getElem_modify_self, h']
  rfl
end Go.Proofs.YtcebpmaggnephabDoor
