/-
  Our own: what the document's own model knows of a function while it reads it: a block with two lists that grow.
-/
import Derived.Test.YtcebpmaggnephacGreatDoorRefLite
import Derived.Test.YtcebpmaggnephacGreatDoorNewB
namespace Go.Proofs.YtcebpmaggnephacGreatDoor
open Go.RowKit Go.Maps

/-- What the model knows: the functions, all variables, the visible ones. -/
structure Know (w : World) (B p : Nat) (fv av vv : Value) (F : List Fu) (all vis : List (List UInt8)) : Prop where
  hp : B ≤ p
  blk : w.heap[p]? = some (.cells #[fv, .bool true, av, vv] 136 (0, 0))
  fs : XLF (fun b => b < B) w fv F
  al : w.ownsRow B 9 1 av all.length (textsC all)
  vi : w.ownsRow B 9 1 vv vis.length (textsC vis)
  n1 : av.ownBlock ≠ some p
  n2 : vv.ownBlock ≠ some p
  n3 : ∀ b, av.ownBlock = some b → vv.ownBlock ≠ some b
/-- All is as it was but for the block p and two rows. -/
structure KFr (p : Nat) (oa ov : Option Nat) (w w' : World) : Prop where
  os : w'.os = w.os
  tape : w'.tape = w.tape
  output : w'.output = w.output
  size : w.heap.size ≤ w'.heap.size
  block : ∀ b, b < w.heap.size → b ≠ p → oa ≠ some b → ov ≠ some b → w'.heap[b]? = w.heap[b]?
theorem KFr.refl (p : Nat) (oa ov : Option Nat) (w : World) : KFr p oa ov w w := ⟨rfl, rfl, rfl, Nat.le_refl _, fun _ _ _ _ _ => rfl⟩
theorem KFr.trans {p : Nat} {oa ov oa' ov' : Option Nat} {a b c : World} (h : KFr p oa ov a b) (k : KFr p oa' ov' b c) (h1 : RowB a oa oa') (h2 : RowB a ov ov') : KFr p oa ov a c :=
  ⟨k.os.trans h.os, k.tape.trans h.tape, k.output.trans h.output, Nat.le_trans h.size k.size, fun i hi hp ha hv =>
    (k.block i (Nat.lt_of_lt_of_le hi h.size) hp (h1.ne hi ha) (h2.ne hi hv)).trans (h.block i hi hp ha hv)⟩
theorem KFr.of {p : Nat} {oa ov : Option Nat} {w w' : World} (h : Below w.heap.size w w') : KFr p oa ov w w' := ⟨h.os, h.tape, h.output, h.size, fun i hi _ _ _ => h.block i hi⟩
theorem Know.plt {w : World} {B p : Nat} {fv av vv : Value} {F : List Fu} {all vis : List (List UInt8)} (h : Know w B p fv av vv F all vis) : p < w.heap.size := heap_lt h.blk
theorem Know.below {w w' : World} {B p : Nat} {fv av vv : Value} {F : List Fu} {all vis : List (List UInt8)} (h : Know w B p fv av vv F all vis) (hb : Below w.heap.size w w') : Know w' B p fv av vv F all vis :=
  ⟨h.hp, (hb.block p h.plt).trans h.blk, h.fs.imp (fun _ h => h) (fun b hB => hb.block b (by have := h.plt; have := h.hp; omega)), owns_below h.al hb, owns_below h.vi hb, h.n1, h.n2, h.n3⟩
theorem KFr.low {w w' : World} {B p : Nat} {fv av vv : Value} {F : List Fu} {all vis : List (List UInt8)} (h : KFr p av.ownBlock vv.ownBlock w w') (k : Know w B p fv av vv F all vis) : Below B w w' :=
  ⟨h.os, h.tape, h.output, h.size, fun b hb => h.block b (by have := k.plt; have := k.hp; omega) (by have := k.hp; omega) (fun e => by have := (k.al.lt b e).1; omega) (fun e => by have := (k.vi.lt b e).1; omega)⟩
theorem own_take {B n c : Nat} {t : TypeId} {w : World} {ad : Option Addr} {l : List (List UInt8)} (h : w.ownsRow B t 1 (.slice ad n c) l.length (textsC l)) {m : Nat} (hm : m ≤ l.length) : w.ownsRow B t 1 (.slice ad m c) (l.take m).length (textsC (l.take m)) := by
  have e : (l.take m).length = m := by rw [List.length_take]; omega
  rw [e]
  rcases h with ⟨h1, ⟨h2, h3⟩ | ⟨g, cap, cur, h3, h4, h5, h6, h7, h8, h9⟩⟩
  · injection h2 with e1 e2 e3
    have hm0 : m = 0 := by omega
    subst e1 e2 e3 hm0
    exact ⟨by simp [textsC], Or.inl ⟨rfl, rfl⟩⟩
  · injection h3 with e1 e2 e3
    subst e1 e2 e3
    refine ⟨by rw [textsC_len, e], Or.inr ⟨g, c, cur, rfl, h4, h5, by omega, h7, h8, ?_⟩⟩
    have h10 : (cur.toList.take (l.length * 1)).take (m * 1) = (textsC l).take (m * 1) := by rw [h9]
    rw [List.take_take, Nat.min_eq_left (by omega)] at h10
    rw [h10, textsC, textsC, List.map_take, Nat.mul_one]
/-- All variables are one more. -/
theorem Know.pushAll {X w3 : World} {B p : Nat} {fv av vv v' : Value} {F : List Fu} {all all' vis : List (List UInt8)} (h : Know X B p fv av vv F all vis) (hown : w3.ownsRow B 9 1 v' all'.length (textsC all')) (hg : X.grownBy w3 av.ownBlock) (hl : v'.ownBlock = av.ownBlock ∨ v'.ownBlock = some X.heap.size) :
    Know (w3.setCell ⟨p, 2, none⟩ v') B p fv v' vv F all' vis ∧ KFr p av.ownBlock vv.ownBlock X (w3.setCell ⟨p, 2, none⟩ v') ∧ RowB X av.ownBlock v'.ownBlock := by
  have hpl := h.plt
  have hpB := h.hp
  have hz := hg.size
  have hb3 : w3.heap[p]? = some (.cells #[fv, .bool true, av, vv] 136 (0, 0)) := (hg.block p hpl (fun e => h.n1 e.symm)).trans h.blk
  have hs := blk_setCell hb3 2 v'
  have hoth : ∀ b, b ≠ p → (w3.setCell ⟨p, 2, none⟩ v').heap[b]? = w3.heap[b]? := fun b hb => Below.heap_setCell _ _ _ _ (show b ≠ p from hb)
  have hnew : RowB X av.ownBlock v'.ownBlock := hl.elim Or.inl (fun e => Or.inr ⟨_, e, Nat.le_refl _⟩)
  have hn1 : v'.ownBlock ≠ some p := hnew.ne hpl h.n1
  refine ⟨⟨hpB, by simpa using hs, h.fs.imp (fun _ h => h) (fun b hb => ?_), own_same hown (fun b e => hoth b (fun e' => hn1 (e' ▸ e))), own_same h.vi (fun b e => ?_), hn1, h.n2, fun b e e' => ?_⟩, ⟨hg.os, hg.tape, hg.output, by simp only [World.setCell, Array.size_modify]; exact hz, fun b hb hbp ha hv => ?_⟩, hnew⟩
  · rw [hoth b (by omega), hg.block b (by omega) (fun e => by have := (h.al.lt b e.symm).1; omega)]
  · have hbl := (h.vi.lt b e).2
    rw [hoth b (fun e' => h.n2 (e' ▸ e)), hg.block b hbl (fun e' => h.n3 b e'.symm e)]
  · have hbl := (h.vi.lt b e').2
    rcases hl with h1 | h1
    · rw [h1] at e; exact h.n3 b e e'
    · rw [h1] at e; injection e with e; omega
  · rw [hoth b hbp, hg.block b hb (fun e => ha e.symm)]
/-- The visible ones are other ones. -/
theorem Know.pushVis {X w3 : World} {B p : Nat} {fv av vv v' : Value} {F : List Fu} {all vis vis' : List (List UInt8)} (h : Know X B p fv av vv F all vis) (hown : w3.ownsRow B 9 1 v' vis'.length (textsC vis')) (hg : X.grownBy w3 vv.ownBlock) (hl : v'.ownBlock = vv.ownBlock ∨ v'.ownBlock = some X.heap.size) :
    Know (w3.setCell ⟨p, 3, none⟩ v') B p fv av v' F all vis' ∧ KFr p av.ownBlock vv.ownBlock X (w3.setCell ⟨p, 3, none⟩ v') ∧ RowB X vv.ownBlock v'.ownBlock := by
  have hpl := h.plt
  have hpB := h.hp
  have hz := hg.size
  have hb3 : w3.heap[p]? = some (.cells #[fv, .bool true, av, vv] 136 (0, 0)) := (hg.block p hpl (fun e => h.n2 e.symm)).trans h.blk
  have hs := blk_setCell hb3 3 v'
  have hoth : ∀ b, b ≠ p → (w3.setCell ⟨p, 3, none⟩ v').heap[b]? = w3.heap[b]? := fun b hb => Below.heap_setCell _ _ _ _ (show b ≠ p from hb)
  have hnew : RowB X vv.ownBlock v'.ownBlock := hl.elim Or.inl (fun e => Or.inr ⟨_, e, Nat.le_refl _⟩)
  have hn1 : v'.ownBlock ≠ some p := hnew.ne hpl h.n2
  refine ⟨⟨hpB, by simpa using hs, h.fs.imp (fun _ h => h) (fun b hb => ?_), own_same h.al (fun b e => ?_), own_same hown (fun b e => hoth b (fun e' => hn1 (e' ▸ e))), h.n1, hn1, fun b e e' => ?_⟩, ⟨hg.os, hg.tape, hg.output, by simp only [World.setCell, Array.size_modify]; exact hz, fun b hb hbp ha hv => ?_⟩, hnew⟩
  · rw [hoth b (by omega), hg.block b (by omega) (fun e => by have := (h.vi.lt b e.symm).1; omega)]
  · have hbl := (h.al.lt b e).2
    rw [hoth b (fun e' => h.n1 (e' ▸ e)), hg.block b hbl (fun e' => h.n3 b e e'.symm)]
  · have hbl := (h.al.lt b e).2
    rcases hl with h1 | h1
    · rw [h1] at e'; exact h.n3 b e e'
    · rw [h1] at e'; injection e' with e'; omega
  · rw [hoth b hbp, hg.block b hb (fun e => hv e.symm)]
/-- The visible ones are fewer. -/
theorem Know.cut {X : World} {B p n c : Nat} {fv av : Value} {ad : Option Addr} {F : List Fu} {all vis : List (List UInt8)} (h : Know X B p fv av (.slice ad n c) F all vis) {m : Nat} (hm : m ≤ vis.length) :
    Know (X.setCell ⟨p, 3, none⟩ (.slice ad m c)) B p fv av (.slice ad m c) F all (vis.take m) ∧ KFr p av.ownBlock (Value.slice ad n c).ownBlock X (X.setCell ⟨p, 3, none⟩ (.slice ad m c)) ∧ RowB X (Value.slice ad n c).ownBlock (Value.slice ad m c).ownBlock := by
  have e : (Value.slice ad m c).ownBlock = (Value.slice ad n c).ownBlock := by
    cases ad <;> rfl
  exact h.pushVis (own_take h.vi hm) ⟨rfl, rfl, rfl, Nat.le_refl _, fun _ _ _ => rfl⟩ (Or.inl e)
end Go.Proofs.YtcebpmaggnephacGreatDoor
