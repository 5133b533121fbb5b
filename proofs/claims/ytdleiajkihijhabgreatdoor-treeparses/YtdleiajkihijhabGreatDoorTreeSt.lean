/-
  Our own: how a tree, and the parser of package tree, lie in memory.
-/
import Derived.Test.YtdleiajkihijhabGreatDoorTreeMath
import Derived.Test.YtdleiajkihijhabGreatDoorLexView
namespace Go.Proofs.YtdleiajkihijhabGreatDoor
open Go.RowKit

/-- All but block p is as it was; blocks may be new. -/
structure But (p : Nat) (w w' : World) : Prop where
  os : w'.os = w.os
  tape : w'.tape = w.tape
  output : w'.output = w.output
  size : w.heap.size ≤ w'.heap.size
  block : ∀ k, k < w.heap.size → k ≠ p → w'.heap[k]? = w.heap[k]?
theorem But.refl (p : Nat) (w : World) : But p w w := ⟨rfl, rfl, rfl, Nat.le_refl _, fun _ _ _ => rfl⟩
theorem But.trans {p : Nat} {a b c : World} (h : But p a b) (k : But p b c) : But p a c :=
  ⟨k.os.trans h.os, k.tape.trans h.tape, k.output.trans h.output, Nat.le_trans h.size k.size, fun i hi hp => (k.block i (Nat.lt_of_lt_of_le hi h.size) hp).trans (h.block i hi hp)⟩
theorem But.of {p : Nat} {w w' : World} (h : Below w.heap.size w w') : But p w w' := ⟨h.os, h.tape, h.output, h.size, fun k hk _ => h.block k hk⟩
theorem But.below {p : Nat} {w w' : World} (h : But p w w') (hp : p ≤ w.heap.size) : Below p w w' := ⟨h.os, h.tape, h.output, h.size, fun k hk => h.block k (by omega) (by omega)⟩
theorem But.alloc {p : Nat} {a w : World} (h : But p a w) (o : Obj) : But p a (w.alloc o) := h.trans (But.of ((Below.refl _ _).alloc (Nat.le_refl _) o))
theorem But.set {p : Nat} {a w : World} (h : But p a w) (i : Nat) (u : Value) : But p a (w.setCell ⟨p, i, none⟩ u) :=
  h.trans ⟨rfl, rfl, rfl, by simp [World.setCell], fun k _ hp => Below.heap_setCell _ _ _ _ hp⟩
/-- A store into a block that is new. -/
theorem But.setNew {p : Nat} {a w : World} (h : But p a w) (b i : Nat) (hb : a.heap.size ≤ b) (u : Value) : But p a (w.setCell ⟨b, i, none⟩ u) :=
  ⟨h.os, h.tape, h.output, by simpa [World.setCell] using h.size, fun k hk hp => (Below.heap_setCell _ _ _ _ (by show k ≠ b; omega)).trans (h.block k hk hp)⟩
theorem But.drew {p : Nat} {a w : World} (h : But p a w) : But p a w.drew := ⟨h.os, h.tape, h.output, h.size, h.block⟩
theorem But.drewN {p : Nat} {a w : World} (h : But p a w) (m : Nat) : But p a (w.drewN m) := ⟨h.os, h.tape, h.output, h.size, h.block⟩

/-- What lies in the blocks that A names is as it was. -/
def KeepA (A : Nat → Prop) (w w' : World) : Prop := ∀ b, A b → w'.heap[b]? = w.heap[b]?
/-- A slice's value that reads as these cells: in a block that A names, if there are any. -/
def Row (A : Nat → Prop) (w : World) (v : Value) (n : Nat) (xs : List Value) : Prop :=
  ∃ ad cap, v = .slice ad n cap ∧ (n ≠ 0 → ∃ g, ad = some ⟨g, 0, none⟩ ∧ A g ∧ ∀ j u, xs[j]? = some u → w.cell? ⟨g, j, none⟩ = some u)
mutual
/-- The cells of an expression's tree. -/
def RepE (A : Nat → Prop) (w : World) : Ex → List Value → Prop
  | .mk k n m ks, cs => ∃ v xs, cs = [.string ⟨k.toArray⟩, .int .i64 n, .string ⟨m.toArray⟩, v] ∧ Row A w v ks.length xs ∧ RepEs A w ks xs
def RepEs (A : Nat → Prop) (w : World) : List Ex → List Value → Prop
  | [], xs => xs = []
  | e :: r, xs => ∃ cs ys, xs = cs ++ ys ∧ RepE A w e cs ∧ RepEs A w r ys
end
mutual
/-- The cells of a statement's tree. -/
def RepS (A : Nat → Prop) (w : World) : Sm → List Value → Prop
  | .mk k n e t o, cs => ∃ es tv ts ov os, cs = .string ⟨k.toArray⟩ :: .string ⟨n.toArray⟩ :: (es ++ [tv, ov]) ∧ RepE A w e es ∧ Row A w tv t.length ts ∧ RepSs A w t ts ∧ Row A w ov o.length os ∧ RepSs A w o os
def RepSs (A : Nat → Prop) (w : World) : List Sm → List Value → Prop
  | [], xs => xs = []
  | e :: r, xs => ∃ cs ys, xs = cs ++ ys ∧ RepS A w e cs ∧ RepSs A w r ys
end
def textsC (l : List (List UInt8)) : List Value := l.map fun x => .string ⟨x.toArray⟩
/-- The cells of a function's tree. -/
def RepF (A : Nat → Prop) (w : World) (f : Fu) (cs : List Value) : Prop :=
  ∃ pv bv bs, cs = [.string ⟨f.name.toArray⟩, pv, bv] ∧ Row A w pv f.params.length (textsC f.params) ∧ Row A w bv f.body.length bs ∧ RepSs A w f.body bs
def RepFs (A : Nat → Prop) (w : World) : List Fu → List Value → Prop
  | [], xs => xs = []
  | e :: r, xs => ∃ cs ys, xs = cs ++ ys ∧ RepF A w e cs ∧ RepFs A w r ys

theorem Row.imp {A B : Nat → Prop} {w w' : World} {v : Value} {n : Nat} {xs : List Value} (h : Row A w v n xs) (hA : ∀ b, A b → B b) (hk : KeepA A w w') : Row B w' v n xs := by
  obtain ⟨ad, cap, rfl, hx⟩ := h
  refine ⟨ad, cap, rfl, fun hn => ?_⟩
  obtain ⟨g, rfl, hg, hc⟩ := hx hn
  exact ⟨g, rfl, hA g hg, fun j u hu => (World.cell?_of_block (w := w) (a := ⟨g, j, none⟩) (hk g hg)).trans (hc j u hu)⟩
mutual
theorem RepE.imp {A B : Nat → Prop} {w w' : World} (hA : ∀ b, A b → B b) (hk : KeepA A w w') : ∀ (e : Ex) (cs : List Value), RepE A w e cs → RepE B w' e cs
  | .mk k n m ks, cs, h => by
    obtain ⟨v, xs, rfl, hr, hs⟩ := h
    exact ⟨v, xs, rfl, hr.imp hA hk, RepEs.imp hA hk ks xs hs⟩
theorem RepEs.imp {A B : Nat → Prop} {w w' : World} (hA : ∀ b, A b → B b) (hk : KeepA A w w') : ∀ (es : List Ex) (xs : List Value), RepEs A w es xs → RepEs B w' es xs
  | [], xs, h => h
  | e :: r, xs, h => by
    obtain ⟨cs, ys, rfl, he, hr⟩ := h
    exact ⟨cs, ys, rfl, RepE.imp hA hk e cs he, RepEs.imp hA hk r ys hr⟩
end
mutual
theorem RepS.imp {A B : Nat → Prop} {w w' : World} (hA : ∀ b, A b → B b) (hk : KeepA A w w') : ∀ (e : Sm) (cs : List Value), RepS A w e cs → RepS B w' e cs
  | .mk k n e t o, cs, h => by
    obtain ⟨es, tv, ts, ov, os, rfl, he, ht, hts, ho, hos⟩ := h
    exact ⟨es, tv, ts, ov, os, rfl, RepE.imp hA hk e es he, ht.imp hA hk, RepSs.imp hA hk t ts hts, ho.imp hA hk, RepSs.imp hA hk o os hos⟩
theorem RepSs.imp {A B : Nat → Prop} {w w' : World} (hA : ∀ b, A b → B b) (hk : KeepA A w w') : ∀ (es : List Sm) (xs : List Value), RepSs A w es xs → RepSs B w' es xs
  | [], xs, h => h
  | e :: r, xs, h => by
    obtain ⟨cs, ys, rfl, he, hr⟩ := h
    exact ⟨cs, ys, rfl, RepS.imp hA hk e cs he, RepSs.imp hA hk r ys hr⟩
end
theorem RepF.imp {A B : Nat → Prop} {w w' : World} (hA : ∀ b, A b → B b) (hk : KeepA A w w') (f : Fu) (cs : List Value) (h : RepF A w f cs) : RepF B w' f cs := by
  obtain ⟨pv, bv, bs, rfl, hp, hb, hs⟩ := h
  exact ⟨pv, bv, bs, rfl, hp.imp hA hk, hb.imp hA hk, RepSs.imp hA hk _ _ hs⟩
theorem RepFs.imp {A B : Nat → Prop} {w w' : World} (hA : ∀ b, A b → B b) (hk : KeepA A w w') : ∀ (es : List Fu) (xs : List Value), RepFs A w es xs → RepFs B w' es xs
  | [], xs, h => h
  | e :: r, xs, h => by
    obtain ⟨cs, ys, rfl, he, hr⟩ := h
    exact ⟨cs, ys, rfl, RepF.imp hA hk e cs he, RepFs.imp hA hk r ys hr⟩
theorem RepEs.snoc {A : Nat → Prop} {w : World} : ∀ {es : List Ex} {xs : List Value} {e : Ex} {cs : List Value}, RepEs A w es xs → RepE A w e cs → RepEs A w (es ++ [e]) (xs ++ cs)
  | [], xs, e, cs, h, he => ⟨cs, [], by have : xs = [] := h; rw [this]; simp, he, rfl⟩
  | x :: r, xs, e, cs, h, he => by
    obtain ⟨c, ys, rfl, hx, hr⟩ := h
    exact ⟨c, ys ++ cs, by rw [List.append_assoc], hx, RepEs.snoc hr he⟩
theorem RepSs.snoc {A : Nat → Prop} {w : World} : ∀ {es : List Sm} {xs : List Value} {e : Sm} {cs : List Value}, RepSs A w es xs → RepS A w e cs → RepSs A w (es ++ [e]) (xs ++ cs)
  | [], xs, e, cs, h, he => ⟨cs, [], by have : xs = [] := h; rw [this]; simp, he, rfl⟩
  | x :: r, xs, e, cs, h, he => by
    obtain ⟨c, ys, rfl, hx, hr⟩ := h
    exact ⟨c, ys ++ cs, by rw [List.append_assoc], hx, RepSs.snoc hr he⟩
theorem RepFs.snoc {A : Nat → Prop} {w : World} : ∀ {es : List Fu} {xs : List Value} {e : Fu} {cs : List Value}, RepFs A w es xs → RepF A w e cs → RepFs A w (es ++ [e]) (xs ++ cs)
  | [], xs, e, cs, h, he => ⟨cs, [], by have : xs = [] := h; rw [this]; simp, he, rfl⟩
  | x :: r, xs, e, cs, h, he => by
    obtain ⟨c, ys, rfl, hx, hr⟩ := h
    exact ⟨c, ys ++ cs, by rw [List.append_assoc], hx, RepFs.snoc hr he⟩
theorem RepE.len {A : Nat → Prop} {w : World} {e : Ex} {cs : List Value} (h : RepE A w e cs) : cs.length = 4 := by
  cases e; obtain ⟨v, xs, rfl, _⟩ := h; rfl
theorem RepS.len {A : Nat → Prop} {w : World} {e : Sm} {cs : List Value} (h : RepS A w e cs) : cs.length = 8 := by
  cases e; obtain ⟨es, tv, ts, ov, os, rfl, he, _⟩ := h; simp [he.len]
theorem RepF.len {A : Nat → Prop} {w : World} {e : Fu} {cs : List Value} (h : RepF A w e cs) : cs.length = 3 := by
  obtain ⟨v, _, xs, rfl, _⟩ := h; rfl
theorem RepEs.len {A : Nat → Prop} {w : World} : ∀ {es : List Ex} {xs : List Value}, RepEs A w es xs → xs.length = es.length * 4
  | [], xs, h => by have : xs = [] := h; rw [this]; rfl
  | e :: r, xs, h => by obtain ⟨cs, ys, rfl, he, hr⟩ := h; simp [he.len, RepEs.len hr]; omega
theorem RepSs.len {A : Nat → Prop} {w : World} : ∀ {es : List Sm} {xs : List Value}, RepSs A w es xs → xs.length = es.length * 8
  | [], xs, h => by have : xs = [] := h; rw [this]; rfl
  | e :: r, xs, h => by obtain ⟨cs, ys, rfl, he, hr⟩ := h; simp [he.len, RepSs.len hr]; omega
theorem RepFs.len {A : Nat → Prop} {w : World} : ∀ {es : List Fu} {xs : List Value}, RepFs A w es xs → xs.length = es.length * 3
  | [], xs, h => by have : xs = [] := h; rw [this]; rfl
  | e :: r, xs, h => by obtain ⟨cs, ys, rfl, he, hr⟩ := h; simp [he.len, RepFs.len hr]; omega
theorem row_nil (A : Nat → Prop) (w : World) : Row A w (.slice none 0 0) 0 [] := ⟨_, _, rfl, fun h => absurd rfl h⟩

/-- New blocks. -/
def NewB (n : Nat) (b : Nat) : Prop := n ≤ b

theorem cell_of_blk {w : World} {b : Nat} {cs : Array Value} {t : TypeId} (h : w.heap[b]? = some (.cells cs t (0, 0))) (i : Nat) : w.cell? ⟨b, i, none⟩ = cs[i]? := by simp [World.cell?, h]
theorem free_of_blk {w : World} {b : Nat} {cs : Array Value} {t : TypeId} (h : w.heap[b]? = some (.cells cs t (0, 0))) (i : Nat) : w.frozen? ⟨b, i, none⟩ = false := by simp [World.frozen?, h]
theorem blk_setCell {w : World} {b : Nat} {cs : Array Value} {t : TypeId} (h : w.heap[b]? = some (.cells cs t (0, 0))) (i : Nat) (u : Value) : (w.setCell ⟨b, i, none⟩ u).heap[b]? = some (.cells (cs.setIfInBounds i u) t (0, 0)) := by
  have hlt := heap_lt h
  have h' : w.heap[b] = .cells cs t (0, 0) := by simpa [Array.getElem?_eq_getElem hlt] using h
  show (w.heap.modify b _)[b]? = _
  rw [Array.getElem?_eq_getElem (by simpa using hlt), Array.getElem_modify_self, h']
  rfl

/-- A slice of tokens: its cells, from some cell of its block on. -/
structure ToksAt (w : World) (g off : Nat) (T : List Tok) : Prop where
  c0 : ∀ i (h : i < T.length), w.cell? ⟨g, off + i * 3, none⟩ = some (.string ⟨T[i].kind.toArray⟩)
  c1 : ∀ i (h : i < T.length), w.cell? ⟨g, off + i * 3 + 1, none⟩ = some (.string ⟨T[i].text.toArray⟩)
  c2 : ∀ i (h : i < T.length), w.cell? ⟨g, off + i * 3 + 2, none⟩ = some (.int .i64 T[i].pos)
theorem ToksAt.of {w w' : World} {g off : Nat} {T : List Tok} (h : ToksAt w g off T) (hk : w'.heap[g]? = w.heap[g]?) : ToksAt w' g off T :=
  ⟨fun i hi => (World.cell?_of_block (w := w) (a := ⟨g, _, none⟩) hk).trans (h.c0 i hi), fun i hi => (World.cell?_of_block (w := w) (a := ⟨g, _, none⟩) hk).trans (h.c1 i hi), fun i hi => (World.cell?_of_block (w := w) (a := ⟨g, _, none⟩) hk).trans (h.c2 i hi)⟩
/-- The value of a slice of tokens. -/
def ToksV (w : World) (tv : Value) (T : List Tok) (p : Nat) : Prop := ∃ ad cap, tv = .slice ad T.length cap ∧ (T ≠ [] → ∃ g off, ad = some ⟨g, off, none⟩ ∧ g < p ∧ ToksAt w g off T)
/-- The two errors that package tree tells. -/
structure TreeG (w : World) (a : Nat → Addr) (p : Nat) : Prop where
  text : w.cell? ⟨1, 0, none⟩ = some (sentV (a 0))
  deep : w.cell? ⟨9, 0, none⟩ = some (sentV (a 9))
  nt : 1 < p
  nd : 9 < p
/-- The error that a parser holds. -/
def ErrAt (a : Nat → Addr) (p : Nat) (w : World) (i : Nat) (ev : Value) : Rs Unit → Prop
  | .out => False
  | .ok _ j => i = j ∧ ev = .nilIface
  | .bad c k => ∃ b, ev = .iface 79 (.pointer (some ⟨b, 0, none⟩)) ∧ p < b ∧ w.heap[b]? = some (.cells #[.int .i64 k, sentV (a (c - 1))] 81 (0, 0))
/-- The parser in block p, at depth d, in a state: it stands at a token, or it has told an error. -/
structure PAt (T : List Tok) (a : Nat → Addr) (p d : Nat) (s : Rs Unit) (w : World) : Prop where
  few : T.length ≤ 1000
  deep : d ≤ 12
  g : TreeG w a p
  blk : ∃ tv i ev, w.heap[p]? = some (.cells #[tv, .int .i64 (i : Nat), .int .i64 d, ev] 60 (0, 0)) ∧ i ≤ T.length ∧ ToksV w tv T p ∧ ErrAt a p w i ev s
/-- The token that comes next. -/
def nxt (T : List Tok) (s : Rs Unit) : Tok := match s with | .ok _ i => tk T i | _ => ⟨[], [], 0⟩
def tokA (t : Tok) : Value := .agg #[.string ⟨t.kind.toArray⟩, .string ⟨t.text.toArray⟩, .int .i64 t.pos]
theorem heap_keep {w w' : World} {p : Nat} (h : But p w w') {b : Nat} {o : Obj} (hb : w.heap[b]? = some o) (hp : b ≠ p) : w'.heap[b]? = some o := (h.block b (heap_lt hb) hp).trans hb
theorem cell_keep {w w' : World} {p : Nat} (h : But p w w') {b i : Nat} {v : Value} (hb : w.cell? ⟨b, i, none⟩ = some v) (hp : b ≠ p) : w'.cell? ⟨b, i, none⟩ = some v :=
  (World.cell?_of_block (w := w) (a := ⟨b, i, none⟩) (h.block b (cell_lt hb) hp)).trans hb
theorem TreeG.keep {w w' : World} {a : Nat → Addr} {p : Nat} (h : TreeG w a p) (hb : But p w w') : TreeG w' a p := ⟨cell_keep hb h.text (Nat.ne_of_lt h.nt), cell_keep hb h.deep (Nat.ne_of_lt h.nd), h.nt, h.nd⟩
theorem ToksV.keep {w w' : World} {tv : Value} {T : List Tok} {p : Nat} (h : ToksV w tv T p) (hb : But p w w') (hp : p < w.heap.size) : ToksV w' tv T p := by
  obtain ⟨ad, cap, rfl, hx⟩ := h
  refine ⟨ad, cap, rfl, fun hn => ?_⟩
  obtain ⟨g, off, rfl, hg, ht⟩ := hx hn
  exact ⟨g, off, rfl, hg, ht.of (hb.block g (by omega) (by omega))⟩
theorem ErrAt.keep {a : Nat → Addr} {p : Nat} {w w' : World} {i : Nat} {ev : Value} {s : Rs Unit} (h : ErrAt a p w i ev s) (hb : But p w w') : ErrAt a p w' i ev s := by
  cases s with
  | out => exact h
  | ok _ j => exact h
  | bad c k =>
    obtain ⟨b, rfl, hp, hx⟩ := h
    exact ⟨b, rfl, hp, heap_keep hb hx (by omega)⟩
theorem PAt.keep {T : List Tok} {a : Nat → Addr} {p d : Nat} {s : Rs Unit} {w w' : World} (h : PAt T a p d s w) (hb : Below w.heap.size w w') : PAt T a p d s w' := by
  obtain ⟨hf, hd, hg, tv, i, ev, hx, hi, ht, he⟩ := h
  exact ⟨hf, hd, hg.keep (But.of hb), tv, i, ev, (hb.block p (heap_lt hx)).trans hx, hi, ht.keep (But.of hb) (heap_lt hx), he.keep (But.of hb)⟩
theorem PAt.lt {T : List Tok} {a : Nat → Addr} {p d : Nat} {s : Rs Unit} {w : World} (h : PAt T a p d s w) : p < w.heap.size := by
  obtain ⟨_, _, _, tv, i, ev, hx, _⟩ := h
  exact heap_lt hx
/-- A block of cells that is no Fault. -/
def Far (w : World) (r : Nat) : Prop := ∃ cs t, w.heap[r]? = some (.cells cs t (0, 0)) ∧ t ≠ 81
theorem Far.set {w : World} {r : Nat} (h : Far w r) (i : Nat) (u : Value) : Far (w.setCell ⟨r, i, none⟩ u) r := by
  obtain ⟨cs, t, hx, ht⟩ := h
  exact ⟨_, t, blk_setCell hx i u, ht⟩
theorem heap_far {w : World} {r k i : Nat} {u : Value} (h : k ≠ r) : (w.setCell ⟨r, i, none⟩ u).heap[k]? = w.heap[k]? := Below.heap_setCell _ _ _ _ h
/-- A store beyond the parser, into no Fault. -/
theorem PAt.setCell {T : List Tok} {a : Nat → Addr} {p d : Nat} {s : Rs Unit} {w : World} (h : PAt T a p d s w) {r : Nat} (hr : p < r) (hf : Far w r) (i : Nat) (u : Value) : PAt T a p d s (w.setCell ⟨r, i, none⟩ u) := by
  obtain ⟨h1, h2, ⟨g1, g2, g3, g4⟩, tv, j, ev, hx, hi, ht, he⟩ := h
  have hc : ∀ {b n : Nat} {v : Value}, b < r → w.cell? ⟨b, n, none⟩ = some v → (w.setCell ⟨r, i, none⟩ u).cell? ⟨b, n, none⟩ = some v := fun {b n v} hb hv => (World.cell?_of_block (w := w) (a := ⟨b, n, none⟩) (heap_far (by show b ≠ r; omega))).trans hv
  refine ⟨h1, h2, ⟨hc (by omega) g1, hc (by omega) g2, g3, g4⟩, tv, j, ev, (heap_far (by omega)).trans hx, hi, ?_, ?_⟩
  · obtain ⟨ad, cap, rfl, hy⟩ := ht
    refine ⟨ad, cap, rfl, fun hn => ?_⟩
    obtain ⟨g, off, rfl, hg, ht⟩ := hy hn
    exact ⟨g, off, rfl, hg, ht.of (heap_far (by omega))⟩
  · cases s with
    | out => exact he
    | ok _ _ => exact he
    | bad c k =>
      obtain ⟨b, rfl, hp, hy⟩ := he
      refine ⟨b, rfl, hp, (heap_far ?_).trans hy⟩
      rintro rfl
      obtain ⟨cs, t, hz, ht⟩ := hf
      rw [hz] at hy
      injection hy with hy
      injection hy with _ hy
      exact ht hy
/-- Four cells stored. -/
theorem set4_blk {w : World} {r : Nat} {x0 x1 x2 x3 : Value} {t : TypeId} (h : w.heap[r]? = some (.cells #[x0, x1, x2, x3] t (0, 0))) (u0 u1 u2 u3 : Value) :
    ((((w.setCell ⟨r, 0, none⟩ u0).setCell ⟨r, 1, none⟩ u1).setCell ⟨r, 2, none⟩ u2).setCell ⟨r, 3, none⟩ u3).heap[r]? = some (.cells #[u0, u1, u2, u3] t (0, 0)) := by
  have := blk_setCell (blk_setCell (blk_setCell (blk_setCell h 0 u0) 1 u1) 2 u2) 3 u3
  simpa using this
end Go.Proofs.YtdleiajkihijhabGreatDoor
