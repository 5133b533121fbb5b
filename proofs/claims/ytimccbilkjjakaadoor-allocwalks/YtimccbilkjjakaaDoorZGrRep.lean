/- Our own: texts joined: GrRep. -/
import Derived.Test.YtimccbilkjjakaaDoorZBase
import Derived.Test.YtimccbilkjjakaaDoorZGMath
namespace Go.Proofs.YtimccbilkjjakaaDoor
open Go.RowKit
def intsG (l : List Int) : List Value := l.map fun x => .int .i64 x
theorem intsG_len (l : List Int) : (intsG l).length = l.length := by simp [intsG]
theorem intsG_at {l : List Int} {i : Nat} (h : i < l.length) : (intsG l)[i]? = some (.int .i64 l[i]) := by simp [intsG, h]
theorem intsG_snoc (l : List Int) (x : Int) : intsG (l ++ [x]) = intsG l ++ [.int .i64 x] := by simp [intsG]
def XN (c : Bool) (A : Nat → Prop) (w : World) (n : Nd) (cs : List Value) : Prop :=
 ∃ ad cap, cs = [.string ⟨n.kind.toArray⟩, .slice ad n.ins.length cap, .int .i64 n.num, .string ⟨n.name.toArray⟩] ∧ (c = true → n.ins.length ≤ cap) ∧ XRow A w (.slice ad n.ins.length cap) n.ins.length (intsG n.ins)
def XNs (c : Bool) (A : Nat → Prop) (w : World) : List Nd → List Value → Prop
 | [], xs => xs = []
 | n :: r, xs => ∃ cs ys, xs = cs ++ ys ∧ XN c A w n cs ∧ XNs c A w r ys
def XG (c : Bool) (A : Nat → Prop) (w : World) (v : Value) (L : List Nd) : Prop := ∃ xs, XRow A w v L.length xs ∧ XNs c A w L xs
theorem XN.imp {c : Bool} {A B : Nat → Prop} {w w' : World} (hA : ∀ b, A b → B b) (hk : KeepA A w w') {n : Nd} {cs : List Value} (h : XN c A w n cs) : XN c B w' n cs := by
 obtain ⟨ad, cap, h1, h2, h3⟩ := h
 exact ⟨ad, cap, h1, h2, h3.imp hA hk⟩
theorem XNs.imp {c : Bool} {A B : Nat → Prop} {w w' : World} (hA : ∀ b, A b → B b) (hk : KeepA A w w') : ∀ (l : List Nd) (xs : List Value), XNs c A w l xs → XNs c B w' l xs
 | [], xs, h => h
 | n :: r, xs, h => by
  obtain ⟨cs, ys, rfl, he, hr⟩ := h
  exact ⟨cs, ys, rfl, he.imp hA hk, XNs.imp hA hk r ys hr⟩
theorem XG.imp {c : Bool} {A B : Nat → Prop} {w w' : World} {v : Value} {L : List Nd} (h : XG c A w v L) (hA : ∀ b, A b → B b) (hk : KeepA A w w') : XG c B w' v L := by
 obtain ⟨xs, h1, h2⟩ := h; exact ⟨xs, h1.imp hA hk, XNs.imp hA hk _ _ h2⟩
theorem XN.len {c : Bool} {A : Nat → Prop} {w : World} {n : Nd} {cs : List Value} (h : XN c A w n cs) : cs.length = 4 := by
 obtain ⟨_, _, rfl, _⟩ := h; rfl
theorem XNs.len {c : Bool} {A : Nat → Prop} {w : World} : ∀ {l : List Nd} {xs : List Value}, XNs c A w l xs → xs.length = l.length * 4
 | [], xs, h => by have : xs = [] := h; rw [this]; rfl
 | e :: r, xs, h => by obtain ⟨cs, ys, rfl, he, hr⟩ := h; simp [he.len, XNs.len hr]; omega
theorem XNs.snoc {c : Bool} {A : Nat → Prop} {w : World} : ∀ {l : List Nd} {xs : List Value} {e : Nd} {cs : List Value}, XNs c A w l xs → XN c A w e cs → XNs c A w (l ++ [e]) (xs ++ cs)
 | [], xs, e, cs, h, he => ⟨cs, [], by have : xs = [] := h; rw [this]; simp, he, rfl⟩
 | x :: r, xs, e, cs, h, he => by
  obtain ⟨c1, ys, rfl, hx, hr⟩ := h
  exact ⟨c1, ys ++ cs, by rw [List.append_assoc], hx, XNs.snoc hr he⟩
theorem XNs.at {c : Bool} {A : Nat → Prop} {w : World} : ∀ {l : List Nd} {xs : List Value} {i : Nat} (_ : XNs c A w l xs) (hi : i < l.length), ∃ cs, XN c A w l[i] cs ∧ ∀ j, j < 4 → xs[i * 4 + j]? = cs[j]?
 | [], _, _, _, hi => absurd hi (by simp)
 | e :: r, _, 0, ⟨cs, ys, rfl, he, _⟩, _ => ⟨cs, he, fun j hj => by rw [Nat.zero_mul, Nat.zero_add, List.getElem?_append_left (by rw [he.len]; exact hj)]⟩
 | e :: r, _, i + 1, ⟨cs, ys, rfl, he, hr⟩, hi => by
  obtain ⟨c2, h1, h2⟩ := XNs.at (i := i) hr (by simpa using hi)
  refine ⟨c2, h1, fun j hj => ?_⟩
  rw [List.getElem?_append_right (by rw [he.len]; omega), he.len, show (i + 1) * 4 + j - 4 = i * 4 + j by omega]
  exact h2 j hj
theorem XG.is {c : Bool} {A : Nat → Prop} {w : World} {v : Value} {L : List Nd} (h : XG c A w v L) : ∃ ad cap, v = .slice ad L.length cap := by
 obtain ⟨xs, h1, _⟩ := h; exact h1.is
theorem XG.node {c : Bool} {A : Nat → Prop} {w : World} {ad : Option Addr} {l cap : Nat} {L : List Nd} (h : XG c A w (.slice ad l cap) L) {i : Nat} (hi : i < L.length) :
  ∃ g off ad1 cap1, ad = some ⟨g, off, none⟩ ∧ A g ∧ (c = true → L[i].ins.length ≤ cap1) ∧ XRow A w (.slice ad1 L[i].ins.length cap1) L[i].ins.length (intsG L[i].ins) ∧
   w.cell? ⟨g, off + i * 4, none⟩ = some (.string ⟨L[i].kind.toArray⟩) ∧ w.cell? ⟨g, off + i * 4 + 1, none⟩ = some (.slice ad1 L[i].ins.length cap1) ∧ w.cell? ⟨g, off + i * 4 + 2, none⟩ = some (.int .i64 L[i].num) ∧ w.cell? ⟨g, off + i * 4 + 3, none⟩ = some (.string ⟨L[i].name.toArray⟩) := by
 obtain ⟨xs, h1, h2⟩ := h
 obtain ⟨cs, e1, e2⟩ := h2.at hi
 obtain ⟨g, off, e3, hg, e4⟩ := h1.el 4 hi e2
 obtain ⟨ad1, cap1, rfl, q1, q2⟩ := e1
 refine ⟨g, off, ad1, cap1, e3, hg, q1, q2, e4 0 _ (by decide) rfl, ?_, ?_, ?_⟩
 ·have := e4 1 _ (by decide) rfl
  rwa [← Nat.add_assoc] at this
 ·have := e4 2 _ (by decide) rfl
  rwa [← Nat.add_assoc] at this
 ·have := e4 3 _ (by decide) rfl
  rwa [← Nat.add_assoc] at this
theorem XRow.int {A : Nat → Prop} {w : World} {ad : Option Addr} {n cap : Nat} {l : List Int} (h : XRow A w (.slice ad n cap) l.length (intsG l)) {k : Nat} (hk : k < l.length) : ∃ g off, ad = some ⟨g, off, none⟩ ∧ A g ∧ w.cell? ⟨g, off + k, none⟩ = some (.int .i64 l[k]) := by
 obtain ⟨g, off, h1, _, h2, h3⟩ := h.get (by omega)
 exact ⟨g, off, h1, h2, h3 k _ (intsG_at hk)⟩
end Go.Proofs.YtimccbilkjjakaaDoor
