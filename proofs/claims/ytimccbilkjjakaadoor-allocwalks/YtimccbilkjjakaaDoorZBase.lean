/- Our own: texts joined: In, Drew, Mem, IntRow, Words, Three, Pieces. -/
import Derived.Test.YtimccbilkjjakaaDoorProg
import Derived.WalkKit
import Derived.BigQuiet
import Derived.Deep.QuietTactic
import Derived.Deep.Draws
import Derived.Maps.AppendAt
namespace Go.Proofs.YtimccbilkjjakaaDoor
open Go.RowKit
theorem byteArray_toList (a : Array UInt8) : (⟨a⟩ : ByteArray).toList = a.toList := by
 rw [ByteArray.toList_eq]
theorem first_at (f : Nat → ByteArray) (s : ByteArray) : ∀ n : Nat, ∃ k, k ≤ n ∧ (∀ i, i < k → f i ≠ s) ∧ (k < n → f k = s)
 | 0 => ⟨0, Nat.le_refl _, fun i h => absurd h (by omega), fun h => absurd h (by omega)⟩
 | n + 1 => by
  obtain ⟨k, h1, h2, h3⟩ := first_at f s n
  by_cases hk : k < n
  ·exact ⟨k, by omega, h2, fun _ => h3 hk⟩
  ·have hkn : k = n := by omega
   subst hkn
   by_cases e : f k = s
   ·exact ⟨k, by omega, h2, fun _ => e⟩
   ·refine ⟨k + 1, Nat.le_refl _, fun i hi => ?_, fun h => absurd h (by omega)⟩
    by_cases hik : i < k
    ·exact h2 i hik
    ·have : i = k := by omega
     rw [this]; exact e
theorem bytes_ne (s t : ByteArray) (h : s ≠ t) : (s.toList == t.toList) = false := by
 have : s.toList ≠ t.toList := fun e => h (by
  cases s; cases t
  rw [byteArray_toList, byteArray_toList] at e
  congr 1
  exact Array.toList_inj.1 e)
 simpa using this
def inB (l : List ByteArray) (s : ByteArray) : Bool := l.any fun x => x.toList == s.toList
theorem bytes_eq {s t : ByteArray} (h : s.toList = t.toList) : s = t := by
 cases s; cases t
 rw [byteArray_toList, byteArray_toList] at h
 congr 1
 exact Array.toList_inj.1 h
theorem inB_iff (l : List ByteArray) (s : ByteArray) : inB l s = true ↔ s ∈ l := by
 unfold inB
 rw [List.any_eq_true]
 constructor
 ·rintro ⟨x, hx, e⟩
  have := bytes_eq (beq_iff_eq.1 e)
  exact this ▸ hx
 ·intro h
  exact ⟨s, h, by simp⟩
theorem lit_ne {s : ByteArray} {l : List UInt8} (h : s ≠ ⟨l.toArray⟩) : (s.toList == l) = false := by
 have := bytes_ne s ⟨l.toArray⟩ h
 rwa [byteArray_toList l.toArray] at this
abbrev sentV (a : Addr) : Value := .iface 147 (.pointer (some a))
theorem cell_lt {w : World} {a : Addr} {v : Value} (h : w.cell? a = some v) : a.block < w.heap.size := by
 rcases Nat.lt_or_ge a.block w.heap.size with h' | h'
 ·exact h'
 ·simp [World.cell?, Array.getElem?_eq_none h'] at h
theorem heap_lt {w : World} {b : Nat} {o : Obj} (h : w.heap[b]? = some o) : b < w.heap.size := by
 rcases Nat.lt_or_ge b w.heap.size with h' | h'
 ·exact h'
 ·simp [Array.getElem?_eq_none h'] at h
end Go.Proofs.YtimccbilkjjakaaDoor
namespace Go.Proofs.YtimccbilkjjakaaDoor
open Go.RowKit
theorem drewN_below' (B : Nat) (w : World) (m : Nat) : Below B w (w.drewN m) := ⟨rfl, rfl, rfl, Nat.le_refl _, fun _ _ => rfl⟩
theorem bT {B : Nat} {a w : World} (h : Below B a w) (m : Nat) : Below B a (w.drewN m) := h.trans (drewN_below' _ _ _)
theorem bS {B : Nat} {a w : World} (h : Below B a w) {p : Addr} (u : Value) (hp : B ≤ p.block := by first | (simp; done) | (simp; omega)) : Below B a (w.setCell p u) := h.setCell hp u
theorem bA {B : Nat} {a w : World} (h : Below B a w) (o : Obj) (hB : B ≤ w.heap.size := by first | (simp; done) | (simp; omega)) : Below B a (w.alloc o) := h.alloc hB o
end Go.Proofs.YtimccbilkjjakaaDoor
namespace Go.Proofs.YtimccbilkjjakaaDoor
open Go.RowKit
theorem owns_below {w w' : World} {B n size : Nat} {t : TypeId} {v : Value} {xs : List Value} (h : w.ownsRow B t size v n xs) (hb : Below w.heap.size w w') : w'.ownsRow B t size v n xs := by
 rcases h with ⟨h1, h2 | ⟨g, cap, cur, h3, h4, h5, h6⟩⟩
 ·exact ⟨h1, Or.inl h2⟩
 ·exact ⟨h1, Or.inr ⟨g, cap, cur, h3, h4, (hb.block g (heap_lt h5)).trans h5, h6⟩⟩
theorem bl_trans {B : Nat} {a b c : World} (h1 : Below B a b) (hB : B ≤ b.heap.size) (h2 : Below b.heap.size b c) : Below B a c := h1.trans (h2.mono hB)
theorem box_blk (w : World) (cs : Array Value) (t : TypeId) : Below w.heap.size w (w.alloc (.cells cs t)) := by (repeat (first | exact Below.refl _ _ | assumption | refine Below.drew ?_ | refine bT ?_ _ | refine bS ?_ _ | refine bA ?_ _))
structure But (p : Nat) (w w' : World) : Prop where
 os : w'.os = w.os
 tape : w'.tape = w.tape
 output : w'.output = w.output
 size : w.heap.size ≤ w'.heap.size
 block : ∀ k, k < w.heap.size → k ≠ p → w'.heap[k]? = w.heap[k]?
theorem But.refl (p : Nat) (w : World) : But p w w := ⟨rfl, rfl, rfl, Nat.le_refl _, fun _ _ _ => rfl⟩
theorem But.trans {p : Nat} {a b c : World} (h : But p a b) (k : But p b c) : But p a c :=
 ⟨k.os.trans h.os, k.tape.trans h.tape, k.output.trans h.output, Nat.le_trans h.size k.size, fun i hi hp => (k.block i (Nat.lt_of_lt_of_le hi h.size) hp).trans (h.block i hi hp)⟩
theorem But.of {p : Nat} {w w' : World} (h : Below w.heap.size w w') : But p w w' := ⟨h.os, h.tape, h.output, h.size, fun k hk _ => h.block k hk⟩
theorem But.below {p : Nat} {w w' : World} (h : But p w w') (hp : p ≤ w.heap.size) : Below p w w' := ⟨h.os, h.tape, h.output, h.size, fun k hk => h.block k (by omega) (by omega)⟩
theorem But.alloc {p : Nat} {a w : World} (h : But p a w) (o : Obj) : But p a (w.alloc o) := h.trans (But.of ((Below.refl _ _).alloc (Nat.le_refl _) o))
theorem But.set {p : Nat} {a w : World} (h : But p a w) (i : Nat) (u : Value) : But p a (w.setCell ⟨p, i, none⟩ u) :=
 h.trans ⟨rfl, rfl, rfl, by simp [World.setCell], fun k _ hp => Below.heap_setCell _ _ _ _ hp⟩
theorem But.setNew {p : Nat} {a w : World} (h : But p a w) (b i : Nat) (hb : a.heap.size ≤ b) (u : Value) : But p a (w.setCell ⟨b, i, none⟩ u) :=
 ⟨h.os, h.tape, h.output, by simpa [World.setCell] using h.size, fun k hk hp => (Below.heap_setCell _ _ _ _ (by show k ≠ b; omega)).trans (h.block k hk hp)⟩
theorem But.drew {p : Nat} {a w : World} (h : But p a w) : But p a w.drew := ⟨h.os, h.tape, h.output, h.size, h.block⟩
theorem But.drewN {p : Nat} {a w : World} (h : But p a w) (m : Nat) : But p a (w.drewN m) := ⟨h.os, h.tape, h.output, h.size, h.block⟩
def KeepA (A : Nat → Prop) (w w' : World) : Prop := ∀ b, A b → w'.heap[b]? = w.heap[b]?
def Row (A : Nat → Prop) (w : World) (v : Value) (n : Nat) (xs : List Value) : Prop :=
 ∃ ad cap, v = .slice ad n cap ∧ (n ≠ 0 → ∃ g, ad = some ⟨g, 0, none⟩ ∧ (A g ∧ n ≤ cap) ∧ ∀ j u, xs[j]? = some u → w.cell? ⟨g, j, none⟩ = some u)
theorem Row.imp {A B : Nat → Prop} {w w' : World} {v : Value} {n : Nat} {xs : List Value} (h : Row A w v n xs) (hA : ∀ b, A b → B b) (hk : KeepA A w w') : Row B w' v n xs := by
 obtain ⟨ad, cap, rfl, hx⟩ := h
 refine ⟨ad, cap, rfl, fun hn => ?_⟩
 obtain ⟨g, rfl, hg, hc⟩ := hx hn
 exact ⟨g, rfl, ⟨hA g hg.1, hg.2⟩, fun j u hu => (World.cell?_of_block (w := w) (a := ⟨g, j, none⟩) (hk g hg.1)).trans (hc j u hu)⟩
theorem cell_of_blk {w : World} {b : Nat} {cs : Array Value} {t : TypeId} (h : w.heap[b]? = some (.cells cs t (0, 0))) (i : Nat) : w.cell? ⟨b, i, none⟩ = cs[i]? := by simp [World.cell?, h]
theorem free_of_blk {w : World} {b : Nat} {cs : Array Value} {t : TypeId} (h : w.heap[b]? = some (.cells cs t (0, 0))) (i : Nat) : w.frozen? ⟨b, i, none⟩ = false := by simp [World.frozen?, h]
theorem blk_setCell {w : World} {b : Nat} {cs : Array Value} {t : TypeId} (h : w.heap[b]? = some (.cells cs t (0, 0))) (i : Nat) (u : Value) : (w.setCell ⟨b, i, none⟩ u).heap[b]? = some (.cells (cs.setIfInBounds i u) t (0, 0)) := by
 have hlt := heap_lt h
 have h' : w.heap[b] = .cells cs t (0, 0) := by simpa [Array.getElem?_eq_getElem hlt] using h
 show (w.heap.modify b _)[b]? = _
 rw [Array.getElem?_eq_getElem (by simpa using hlt), Array.getElem_modify_self, h']
 rfl
theorem hidX {p : Prop} (h : p) : Hid p := h
def XRow (A : Nat → Prop) (w : World) (v : Value) (n : Nat) (xs : List Value) : Prop :=
 ∃ ad cap, v = .slice ad n cap ∧ (n ≠ 0 → ∃ g off, ad = some ⟨g, off, none⟩ ∧ A g ∧ ∀ j u, xs[j]? = some u → w.cell? ⟨g, off + j, none⟩ = some u)
theorem XRow.imp {A B : Nat → Prop} {w w' : World} {v : Value} {n : Nat} {xs : List Value} (h : XRow A w v n xs) (hA : ∀ b, A b → B b) (hk : KeepA A w w') : XRow B w' v n xs := by
 obtain ⟨ad, cap, rfl, hx⟩ := h
 refine ⟨ad, cap, rfl, fun hn => ?_⟩
 obtain ⟨g, off, rfl, hg, hc⟩ := hx hn
 exact ⟨g, off, rfl, hA g hg, fun j u hu => (World.cell?_of_block (w := w) (a := ⟨g, _, none⟩) (hk g hg)).trans (hc j u hu)⟩
theorem XRow.is {A : Nat → Prop} {w : World} {v : Value} {n : Nat} {xs : List Value} (h : XRow A w v n xs) : ∃ ad c, v = .slice ad n c := by
 obtain ⟨ad, c, e, _⟩ := h
 exact ⟨ad, c, e⟩
theorem XRow.get {A : Nat → Prop} {w : World} {ad : Option Addr} {l c n : Nat} {xs : List Value} (h : XRow A w (.slice ad l c) n xs) (hn : n ≠ 0) : ∃ g off, ad = some ⟨g, off, none⟩ ∧ l = n ∧ A g ∧ ∀ j u, xs[j]? = some u → w.cell? ⟨g, off + j, none⟩ = some u := by
 obtain ⟨ad', c', e, hx⟩ := h
 injection e with e1 e2 e3
 subst e1 e2
 obtain ⟨g, off, h1, h2, h3⟩ := hx hn
 exact ⟨g, off, h1, rfl, h2, h3⟩
theorem XRow.len {A : Nat → Prop} {w : World} {ad : Option Addr} {l c n : Nat} {xs : List Value} (h : XRow A w (.slice ad l c) n xs) : l = n := by
 obtain ⟨_, _, e, _⟩ := h; injection e
theorem xrow_nil (A : Nat → Prop) (w : World) : XRow A w (.slice none 0 0) 0 [] := ⟨_, _, rfl, fun h => absurd rfl h⟩
theorem XRow.el {A : Nat → Prop} {w : World} {ad : Option Addr} {l c n i : Nat} {xs cs : List Value} (s : Nat) (h : XRow A w (.slice ad l c) n xs) (hi : i < n) (hx : ∀ j, j < s → xs[i * s + j]? = cs[j]?) :
  ∃ g off, ad = some ⟨g, off, none⟩ ∧ A g ∧ ∀ j u, j < s → cs[j]? = some u → w.cell? ⟨g, off + (i * s + j), none⟩ = some u := by
 obtain ⟨g, off, h1, _, h2, h3⟩ := h.get (by omega)
 exact ⟨g, off, h1, h2, fun j u hj hu => h3 _ _ ((hx j hj).trans hu)⟩
theorem xrow_own {w : World} {B n size : Nat} {t : TypeId} {v : Value} {xs : List Value} (h : w.ownsRow B t size v n xs) : XRow (fun b => B ≤ b ∧ b < w.heap.size) w v n xs := by
 rcases id h with ⟨hl, ⟨rfl, rfl⟩ | ⟨g, cap, cur, rfl, hB, hg, _⟩⟩
 ·exact ⟨_, _, rfl, fun h => absurd rfl h⟩
 ·refine ⟨_, _, rfl, fun hn => ⟨g, 0, rfl, ⟨hB, heap_lt hg⟩, fun j u hu => ?_⟩⟩
  have hj : j < xs.length := by
   rcases Nat.lt_or_ge j xs.length with hj | hj
   ·exact hj
   ·rw [List.getElem?_eq_none hj] at hu; cases hu
  rw [Nat.zero_add, h.cellAt j (by omega)]; exact hu
abbrev InH (w : World) (b : Nat) : Prop := b < w.heap.size
theorem inH_up {w w' : World} (h : Below w.heap.size w w') : ∀ b, InH w b → InH w' b := fun _ hb => Nat.lt_of_lt_of_le hb h.size
theorem keepH {w w' : World} (h : Below w.heap.size w w') : KeepA (InH w) w w' := fun b hb => h.block b hb
def RowB (w : World) (o o' : Option Nat) : Prop := o' = o ∨ ∃ b, o' = some b ∧ w.heap.size ≤ b
theorem RowB.refl (w : World) (o : Option Nat) : RowB w o o := Or.inl rfl
theorem RowB.trans {a b : World} {o o' o'' : Option Nat} (h : RowB a o o') (k : RowB b o' o'') (hz : a.heap.size ≤ b.heap.size) : RowB a o o'' := by
 rcases k with rfl | ⟨g, rfl, hg⟩
 ·exact h
 ·exact Or.inr ⟨g, rfl, by omega⟩
theorem RowB.mono {a b : World} {o o' : Option Nat} (h : RowB b o o') (hz : a.heap.size ≤ b.heap.size) : RowB a o o' := by
 rcases h with h | ⟨g, h, hg⟩
 ·exact Or.inl h
 ·exact Or.inr ⟨g, h, by omega⟩
theorem own_same {B n size : Nat} {t : TypeId} {w w' : World} {v : Value} {xs : List Value} (h : w.ownsRow B t size v n xs) (hb : ∀ b, v.ownBlock = some b → w'.heap[b]? = w.heap[b]?) : w'.ownsRow B t size v n xs := by
 rcases h with ⟨h1, h2 | ⟨g, cap, cur, h3, h4, h5, h6⟩⟩
 ·exact ⟨h1, Or.inl h2⟩
 ·exact ⟨h1, Or.inr ⟨g, cap, cur, h3, h4, (hb g (by rw [h3]; rfl)).trans h5, h6⟩⟩
end Go.Proofs.YtimccbilkjjakaaDoor
namespace Go.Proofs.YtimccbilkjjakaaDoor
open Go.RowKit
theorem int_info : (Tryd.prog.info? 3).map (fun i => (i.zero, i.size, i.bytes)) = some (some (.int .i64 0), 1, 8) := by kernel_rfl
theorem int_one (v : Int) : ∀ u ∈ ([.int .i64 v] : List Value), u.oneCell' = true := by
 intro u hu
 simp only [List.mem_cons, List.not_mem_nil, or_false] at hu
 rcases hu with rfl; rfl
theorem own_is {w : World} {B size : Nat} {t : TypeId} {v : Value} {n : Nat} {xs : List Value} (h : w.ownsRow B t size v n xs) : ∃ a cap, v = .slice a n cap := by
 rcases id h with ⟨_, ⟨rfl, rfl⟩ | ⟨g, cap, cur, rfl, _⟩⟩
 ·exact ⟨_, _, rfl⟩
 ·exact ⟨_, _, rfl⟩
end Go.Proofs.YtimccbilkjjakaaDoor
namespace Go.Proofs.YtimccbilkjjakaaDoor
open Go.RowKit
theorem ret_bool {a b : Bool} (h : a = b) : Ending.returned (.bool a) = .returned (.bool b) := by rw [h]
def twosE : List (List UInt8) := [[43], [45], [42], [47], [37], [38], [124], [94], [60, 60], [62, 62], [60], [60, 61], [61, 61], [33, 61]]
def onesE : List (List UInt8) := [[45], [33]]
theorem ne_lit {k : List UInt8} {l : List UInt8} (h : ¬ k = l) : (k == l) = false := by simpa using h
theorem nil_lit {m : List UInt8} (h : ¬ m = []) : m.isEmpty = false := by cases m with | nil => exact absurd rfl h | cons => rfl
end Go.Proofs.YtimccbilkjjakaaDoor
namespace Go.Proofs.YtimccbilkjjakaaDoor
open Go.RowKit
theorem threeG (w : World) (x y z : Obj) : (((w.alloc x).alloc y).alloc z).heap[w.heap.size]? = some x ∧ (((w.alloc x).alloc y).alloc z).heap[w.heap.size + 1]? = some y ∧ (((w.alloc x).alloc y).alloc z).heap[w.heap.size + 2]? = some z := by
 refine ⟨?_, ?_, ?_⟩
 ·rw [Below.heap_alloc _ _ _ (by simp; omega), Below.heap_alloc _ _ _ (by simp), heap_alloc_new]
 ·rw [Below.heap_alloc _ _ _ (by simp)]
  have := heap_alloc_new (w.alloc x) y
  rwa [show (w.alloc x).heap.size = w.heap.size + 1 by simp] at this
 ·have := heap_alloc_new ((w.alloc x).alloc y) z
  rwa [show ((w.alloc x).alloc y).heap.size = w.heap.size + 2 by simp] at this
end Go.Proofs.YtimccbilkjjakaaDoor
namespace Go.Proofs.YtimccbilkjjakaaDoor
open Go.RowKit
def blockOf (k : Nat) : Code → Option Code
 | .block m c => if m = k then some c else blockOf k c
 | .seq a b => match blockOf k a with
  | some c => some c
  | none => blockOf k b
 | .loop c => blockOf k c
 | .scope c => blockOf k c
 | .cond _ a b => match blockOf k a with
  | some c => some c
  | none => blockOf k b
 | _ => none
def regionOf (k : Nat) : Code → Option Code
 | .region m a b => if m = k then some (.region m a b) else none
 | .seq a b => match regionOf k a with
  | some c => some c
  | none => regionOf k b
 | .block _ c => regionOf k c
 | .loop c => regionOf k c
 | .scope c => regionOf k c
 | .cond _ a b => match regionOf k a with
  | some c => some c
  | none => regionOf k b
 | _ => none
def heads (k : Nat) : Code → Bool
 | .region m _ _ => m = k
 | .seq a _ => heads k a
 | _ => false
def fromOf (k : Nat) : Code → Option Code
 | .seq a b => if heads k a then some (.seq a b) else match fromOf k a with
  | some c => some c
  | none => fromOf k b
 | .block _ c => fromOf k c
 | .loop c => fromOf k c
 | .scope c => fromOf k c
 | .cond _ a b => match fromOf k a with
  | some c => some c
  | none => fromOf k b
 | _ => none
end Go.Proofs.YtimccbilkjjakaaDoor
