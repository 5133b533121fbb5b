/-
  Our own: how a tree lies in memory, from whatever cell of a block on.
-/
import Derived.Test.YtcebpmaggnephabGreatDoorTreeRep
namespace Go.Proofs.YtcebpmaggnephabGreatDoor
open Go.RowKit

theorem hidX {p : Prop} (h : p) : Hid p := h
/-- A slice's value that reads as these cells: in a block that A names, from some cell on, if there are any. -/
def XRow (A : Nat → Prop) (w : World) (v : Value) (n : Nat) (xs : List Value) : Prop :=
  ∃ ad cap, v = .slice ad n cap ∧ (n ≠ 0 → ∃ g off, ad = some ⟨g, off, none⟩ ∧ A g ∧ ∀ j u, xs[j]? = some u → w.cell? ⟨g, off + j, none⟩ = some u)
mutual
def XE (A : Nat → Prop) (w : World) : Ex → List Value → Prop
  | .mk k n m ks, cs => ∃ v xs, cs = [.string ⟨k.toArray⟩, .int .i64 n, .string ⟨m.toArray⟩, v] ∧ XRow A w v ks.length xs ∧ XEs A w ks xs
def XEs (A : Nat → Prop) (w : World) : List Ex → List Value → Prop
  | [], xs => xs = []
  | e :: r, xs => ∃ cs ys, xs = cs ++ ys ∧ XE A w e cs ∧ XEs A w r ys
end
mutual
def XS (A : Nat → Prop) (w : World) : Sm → List Value → Prop
  | .mk k n e t o, cs => ∃ es tv ts ov os, cs = .string ⟨k.toArray⟩ :: .string ⟨n.toArray⟩ :: (es ++ [tv, ov]) ∧ XE A w e es ∧ XRow A w tv t.length ts ∧ XSs A w t ts ∧ XRow A w ov o.length os ∧ XSs A w o os
def XSs (A : Nat → Prop) (w : World) : List Sm → List Value → Prop
  | [], xs => xs = []
  | e :: r, xs => ∃ cs ys, xs = cs ++ ys ∧ XS A w e cs ∧ XSs A w r ys
end
def XF (A : Nat → Prop) (w : World) (f : Fu) (cs : List Value) : Prop :=
  ∃ pv bv bs, cs = [.string ⟨f.name.toArray⟩, pv, bv] ∧ XRow A w pv f.params.length (textsC f.params) ∧ XRow A w bv f.body.length bs ∧ XSs A w f.body bs
def XFs (A : Nat → Prop) (w : World) : List Fu → List Value → Prop
  | [], xs => xs = []
  | e :: r, xs => ∃ cs ys, xs = cs ++ ys ∧ XF A w e cs ∧ XFs A w r ys
/-- Expressions, statements, functions of a slice's value. -/
def XLE (A : Nat → Prop) (w : World) (v : Value) (l : List Ex) : Prop := ∃ xs, XRow A w v l.length xs ∧ XEs A w l xs
def XLS (A : Nat → Prop) (w : World) (v : Value) (l : List Sm) : Prop := ∃ xs, XRow A w v l.length xs ∧ XSs A w l xs
def XLF (A : Nat → Prop) (w : World) (v : Value) (l : List Fu) : Prop := ∃ xs, XRow A w v l.length xs ∧ XFs A w l xs

theorem XRow.imp {A B : Nat → Prop} {w w' : World} {v : Value} {n : Nat} {xs : List Value} (h : XRow A w v n xs) (hA : ∀ b, A b → B b) (hk : KeepA A w w') : XRow B w' v n xs := by
  obtain ⟨ad, cap, rfl, hx⟩ := h
  refine ⟨ad, cap, rfl, fun hn => ?_⟩
  obtain ⟨g, off, rfl, hg, hc⟩ := hx hn
  exact ⟨g, off, rfl, hA g hg, fun j u hu => (World.cell?_of_block (w := w) (a := ⟨g, _, none⟩) (hk g hg)).trans (hc j u hu)⟩
mutual
theorem XE.imp {A B : Nat → Prop} {w w' : World} (hA : ∀ b, A b → B b) (hk : KeepA A w w') : ∀ (e : Ex) (cs : List Value), XE A w e cs → XE B w' e cs
  | .mk k n m ks, cs, h => by
    obtain ⟨v, xs, rfl, hr, hs⟩ := h
    exact ⟨v, xs, rfl, hr.imp hA hk, XEs.imp hA hk ks xs hs⟩
theorem XEs.imp {A B : Nat → Prop} {w w' : World} (hA : ∀ b, A b → B b) (hk : KeepA A w w') : ∀ (es : List Ex) (xs : List Value), XEs A w es xs → XEs B w' es xs
  | [], xs, h => h
  | e :: r, xs, h => by
    obtain ⟨cs, ys, rfl, he, hr⟩ := h
    exact ⟨cs, ys, rfl, XE.imp hA hk e cs he, XEs.imp hA hk r ys hr⟩
end
mutual
theorem XS.imp {A B : Nat → Prop} {w w' : World} (hA : ∀ b, A b → B b) (hk : KeepA A w w') : ∀ (e : Sm) (cs : List Value), XS A w e cs → XS B w' e cs
  | .mk k n e t o, cs, h => by
    obtain ⟨es, tv, ts, ov, os, rfl, he, ht, hts, ho, hos⟩ := h
    exact ⟨es, tv, ts, ov, os, rfl, XE.imp hA hk e es he, ht.imp hA hk, XSs.imp hA hk t ts hts, ho.imp hA hk, XSs.imp hA hk o os hos⟩
theorem XSs.imp {A B : Nat → Prop} {w w' : World} (hA : ∀ b, A b → B b) (hk : KeepA A w w') : ∀ (es : List Sm) (xs : List Value), XSs A w es xs → XSs B w' es xs
  | [], xs, h => h
  | e :: r, xs, h => by
    obtain ⟨cs, ys, rfl, he, hr⟩ := h
    exact ⟨cs, ys, rfl, XS.imp hA hk e cs he, XSs.imp hA hk r ys hr⟩
end
theorem XF.imp {A B : Nat → Prop} {w w' : World} (hA : ∀ b, A b → B b) (hk : KeepA A w w') (f : Fu) (cs : List Value) (h : XF A w f cs) : XF B w' f cs := by
  obtain ⟨pv, bv, bs, rfl, hp, hb, hs⟩ := h
  exact ⟨pv, bv, bs, rfl, hp.imp hA hk, hb.imp hA hk, XSs.imp hA hk _ _ hs⟩
theorem XFs.imp {A B : Nat → Prop} {w w' : World} (hA : ∀ b, A b → B b) (hk : KeepA A w w') : ∀ (es : List Fu) (xs : List Value), XFs A w es xs → XFs B w' es xs
  | [], xs, h => h
  | e :: r, xs, h => by
    obtain ⟨cs, ys, rfl, he, hr⟩ := h
    exact ⟨cs, ys, rfl, XF.imp hA hk e cs he, XFs.imp hA hk r ys hr⟩
theorem XLE.imp {A B : Nat → Prop} {w w' : World} {v : Value} {l : List Ex} (h : XLE A w v l) (hA : ∀ b, A b → B b) (hk : KeepA A w w') : XLE B w' v l := by
  obtain ⟨xs, h1, h2⟩ := h; exact ⟨xs, h1.imp hA hk, XEs.imp hA hk _ _ h2⟩
theorem XLS.imp {A B : Nat → Prop} {w w' : World} {v : Value} {l : List Sm} (h : XLS A w v l) (hA : ∀ b, A b → B b) (hk : KeepA A w w') : XLS B w' v l := by
  obtain ⟨xs, h1, h2⟩ := h; exact ⟨xs, h1.imp hA hk, XSs.imp hA hk _ _ h2⟩
theorem XLF.imp {A B : Nat → Prop} {w w' : World} {v : Value} {l : List Fu} (h : XLF A w v l) (hA : ∀ b, A b → B b) (hk : KeepA A w w') : XLF B w' v l := by
  obtain ⟨xs, h1, h2⟩ := h; exact ⟨xs, h1.imp hA hk, XFs.imp hA hk _ _ h2⟩
theorem XEs.snoc {A : Nat → Prop} {w : World} : ∀ {es : List Ex} {xs : List Value} {e : Ex} {cs : List Value}, XEs A w es xs → XE A w e cs → XEs A w (es ++ [e]) (xs ++ cs)
  | [], xs, e, cs, h, he => ⟨cs, [], by have : xs = [] := h; rw [this]; simp, he, rfl⟩
  | x :: r, xs, e, cs, h, he => by
    obtain ⟨c, ys, rfl, hx, hr⟩ := h
    exact ⟨c, ys ++ cs, by rw [List.append_assoc], hx, XEs.snoc hr he⟩
theorem XSs.snoc {A : Nat → Prop} {w : World} : ∀ {es : List Sm} {xs : List Value} {e : Sm} {cs : List Value}, XSs A w es xs → XS A w e cs → XSs A w (es ++ [e]) (xs ++ cs)
  | [], xs, e, cs, h, he => ⟨cs, [], by have : xs = [] := h; rw [this]; simp, he, rfl⟩
  | x :: r, xs, e, cs, h, he => by
    obtain ⟨c, ys, rfl, hx, hr⟩ := h
    exact ⟨c, ys ++ cs, by rw [List.append_assoc], hx, XSs.snoc hr he⟩
theorem XFs.snoc {A : Nat → Prop} {w : World} : ∀ {es : List Fu} {xs : List Value} {e : Fu} {cs : List Value}, XFs A w es xs → XF A w e cs → XFs A w (es ++ [e]) (xs ++ cs)
  | [], xs, e, cs, h, he => ⟨cs, [], by have : xs = [] := h; rw [this]; simp, he, rfl⟩
  | x :: r, xs, e, cs, h, he => by
    obtain ⟨c, ys, rfl, hx, hr⟩ := h
    exact ⟨c, ys ++ cs, by rw [List.append_assoc], hx, XFs.snoc hr he⟩
theorem XE.len {A : Nat → Prop} {w : World} {e : Ex} {cs : List Value} (h : XE A w e cs) : cs.length = 4 := by
  cases e; obtain ⟨v, xs, rfl, _⟩ := h; rfl
theorem XS.len {A : Nat → Prop} {w : World} {e : Sm} {cs : List Value} (h : XS A w e cs) : cs.length = 8 := by
  cases e; obtain ⟨es, tv, ts, ov, os, rfl, he, _⟩ := h; simp [he.len]
theorem XF.len {A : Nat → Prop} {w : World} {e : Fu} {cs : List Value} (h : XF A w e cs) : cs.length = 3 := by
  obtain ⟨v, _, xs, rfl, _⟩ := h; rfl
theorem XEs.len {A : Nat → Prop} {w : World} : ∀ {es : List Ex} {xs : List Value}, XEs A w es xs → xs.length = es.length * 4
  | [], xs, h => by have : xs = [] := h; rw [this]; rfl
  | e :: r, xs, h => by obtain ⟨cs, ys, rfl, he, hr⟩ := h; simp [he.len, XEs.len hr]; omega
theorem XSs.len {A : Nat → Prop} {w : World} : ∀ {es : List Sm} {xs : List Value}, XSs A w es xs → xs.length = es.length * 8
  | [], xs, h => by have : xs = [] := h; rw [this]; rfl
  | e :: r, xs, h => by obtain ⟨cs, ys, rfl, he, hr⟩ := h; simp [he.len, XSs.len hr]; omega
theorem XFs.len {A : Nat → Prop} {w : World} : ∀ {es : List Fu} {xs : List Value}, XFs A w es xs → xs.length = es.length * 3
  | [], xs, h => by have : xs = [] := h; rw [this]; rfl
  | e :: r, xs, h => by obtain ⟨cs, ys, rfl, he, hr⟩ := h; simp [he.len, XFs.len hr]; omega
theorem XEs.at {A : Nat → Prop} {w : World} : ∀ {ks : List Ex} {xs : List Value} {i : Nat} (_ : XEs A w ks xs) (hi : i < ks.length), ∃ cs, XE A w ks[i] cs ∧ ∀ j, j < 4 → xs[i * 4 + j]? = cs[j]?
  | [], _, _, _, hi => absurd hi (by simp)
  | e :: r, _, 0, ⟨cs, ys, rfl, he, _⟩, _ => ⟨cs, he, fun j hj => by rw [Nat.zero_mul, Nat.zero_add, List.getElem?_append_left (by rw [he.len]; exact hj)]⟩
  | e :: r, _, i + 1, ⟨cs, ys, rfl, he, hr⟩, hi => by
    obtain ⟨c2, h1, h2⟩ := XEs.at (i := i) hr (by simpa using hi)
    refine ⟨c2, h1, fun j hj => ?_⟩
    rw [List.getElem?_append_right (by rw [he.len]; omega), he.len, show (i + 1) * 4 + j - 4 = i * 4 + j by omega]
    exact h2 j hj
theorem XSs.at {A : Nat → Prop} {w : World} : ∀ {ks : List Sm} {xs : List Value} {i : Nat} (_ : XSs A w ks xs) (hi : i < ks.length), ∃ cs, XS A w ks[i] cs ∧ ∀ j, j < 8 → xs[i * 8 + j]? = cs[j]?
  | [], _, _, _, hi => absurd hi (by simp)
  | e :: r, _, 0, ⟨cs, ys, rfl, he, _⟩, _ => ⟨cs, he, fun j hj => by rw [Nat.zero_mul, Nat.zero_add, List.getElem?_append_left (by rw [he.len]; exact hj)]⟩
  | e :: r, _, i + 1, ⟨cs, ys, rfl, he, hr⟩, hi => by
    obtain ⟨c2, h1, h2⟩ := XSs.at (i := i) hr (by simpa using hi)
    refine ⟨c2, h1, fun j hj => ?_⟩
    rw [List.getElem?_append_right (by rw [he.len]; omega), he.len, show (i + 1) * 8 + j - 8 = i * 8 + j by omega]
    exact h2 j hj
theorem XFs.at {A : Nat → Prop} {w : World} : ∀ {ks : List Fu} {xs : List Value} {i : Nat} (_ : XFs A w ks xs) (hi : i < ks.length), ∃ cs, XF A w ks[i] cs ∧ ∀ j, j < 3 → xs[i * 3 + j]? = cs[j]?
  | [], _, _, _, hi => absurd hi (by simp)
  | e :: r, _, 0, ⟨cs, ys, rfl, he, _⟩, _ => ⟨cs, he, fun j hj => by rw [Nat.zero_mul, Nat.zero_add, List.getElem?_append_left (by rw [he.len]; exact hj)]⟩
  | e :: r, _, i + 1, ⟨cs, ys, rfl, he, hr⟩, hi => by
    obtain ⟨c2, h1, h2⟩ := XFs.at (i := i) hr (by simpa using hi)
    refine ⟨c2, h1, fun j hj => ?_⟩
    rw [List.getElem?_append_right (by rw [he.len]; omega), he.len, show (i + 1) * 3 + j - 3 = i * 3 + j by omega]
    exact h2 j hj
theorem XRow.is {A : Nat → Prop} {w : World} {v : Value} {n : Nat} {xs : List Value} (h : XRow A w v n xs) : ∃ ad c, v = .slice ad n c := by
  obtain ⟨ad, c, e, _⟩ := h
  exact ⟨ad, c, e⟩
theorem XRow.get {A : Nat → Prop} {w : World} {ad : Option Addr} {l c n : Nat} {xs : List Value} (h : XRow A w (.slice ad l c) n xs) (hn : n ≠ 0) : ∃ g off, ad = some ⟨g, off, none⟩ ∧ l = n ∧ A g ∧ ∀ j u, xs[j]? = some u → w.cell? ⟨g, off + j, none⟩ = some u := by
  obtain ⟨ad', c', e, hx⟩ := h
  injection e with e1 e2 e3
  subst e1 e2
  obtain ⟨g, off, h1, h2, h3⟩ := hx hn
  exact ⟨g, off, h1, rfl, h2, h3⟩
theorem XRow.len {A : Nat → Prop} {w : World} {ad : Option Addr} {l c n : Nat} {xs : List Value} (h : XRow A w (.slice ad l c) n xs) : l = n := by
  obtain ⟨_, _, e, _⟩ := h; injection e
theorem xrow_nil (A : Nat → Prop) (w : World) : XRow A w (.slice none 0 0) 0 [] := ⟨_, _, rfl, fun h => absurd rfl h⟩
theorem xls_nil (A : Nat → Prop) (w : World) : XLS A w (.slice none 0 0) [] := ⟨[], xrow_nil A w, rfl⟩
/-- The cells of one element of a row. -/
theorem XRow.el {A : Nat → Prop} {w : World} {ad : Option Addr} {l c n i : Nat} {xs cs : List Value} (s : Nat) (h : XRow A w (.slice ad l c) n xs) (hi : i < n) (hx : ∀ j, j < s → xs[i * s + j]? = cs[j]?) :
    ∃ g off, ad = some ⟨g, off, none⟩ ∧ A g ∧ ∀ j u, j < s → cs[j]? = some u → w.cell? ⟨g, off + (i * s + j), none⟩ = some u := by
  obtain ⟨g, off, h1, _, h2, h3⟩ := h.get (by omega)
  exact ⟨g, off, h1, h2, fun j u hj hu => h3 _ _ ((hx j hj).trans hu)⟩
/-- What was owned is a row. -/
theorem xrow_own {w : World} {B n size : Nat} {t : TypeId} {v : Value} {xs : List Value} (h : w.ownsRow B t size v n xs) : XRow (fun b => B ≤ b ∧ b < w.heap.size) w v n xs := by
  rcases id h with ⟨hl, ⟨rfl, rfl⟩ | ⟨g, cap, cur, rfl, hB, hg, _⟩⟩
  · exact ⟨_, _, rfl, fun h => absurd rfl h⟩
  · refine ⟨_, _, rfl, fun hn => ⟨g, 0, rfl, ⟨hB, heap_lt hg⟩, fun j u hu => ?_⟩⟩
    have hj : j < xs.length := by
      rcases Nat.lt_or_ge j xs.length with hj | hj
      · exact hj
      · rw [List.getElem?_eq_none hj] at hu; cases hu
    rw [Nat.zero_add, h.cellAt j (by omega)]; exact hu
/-- The blocks of a world. -/
abbrev InH (w : World) (b : Nat) : Prop := b < w.heap.size
theorem inH_up {w w' : World} (h : Below w.heap.size w w') : ∀ b, InH w b → InH w' b := fun _ hb => Nat.lt_of_lt_of_le hb h.size
theorem keepH {w w' : World} (h : Below w.heap.size w w') : KeepA (InH w) w w' := fun b hb => h.block b hb
end Go.Proofs.YtcebpmaggnephabGreatDoor
