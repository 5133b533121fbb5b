/-
  Our own: package run: the machine and a frame of it, as they lie in memory.
-/
import Derived.Test.YtcebpmaggnephacDoorCheckProg
import Derived.Test.YtcebpmaggnephacDoorCheckAs3
import Derived.Test.YtcebpmaggnephacDoorVal
import Derived.Test.YtcebpmaggnephacDoorRunMath
import Derived.Test.YtcebpmaggnephacDoorNewB
namespace Go.Proofs.YtcebpmaggnephacDoor
open Go.RowKit Go.Maps

def intsC (l : List Int) : List Value := l.map fun v => .int .i64 v
theorem intsC_len (l : List Int) : (intsC l).length = l.length * 1 := by simp [intsC]
theorem intsC_snoc (l : List Int) (v : Int) : intsC (l ++ [v]) = intsC l ++ [.int .i64 v] := by simp [intsC]
def howS : Stop → List UInt8
  | .tired => [116, 105, 114, 101, 100]
  | .deep => [100, 101, 101, 112]
  | .loud => [108, 111, 117, 100]
theorem FirstAt.lt {w : World} {nb : Nat} {F : List Fu} (h : FirstAt w nb F) : nb < w.heap.size := by
  obtain ⟨D, ⟨es, clock, h1, _⟩, _⟩ := h
  exact heap_lt h1
/-- A map's block is no row's, and no block of cells. -/
theorem map_not_row {w : World} {B n b size : Nat} {t : TypeId} {v : Value} {xs : List Value} {es : Array MapEntry} {clock : Nat} (hm : w.heap[b]? = some (.map es clock)) (h : w.ownsRow B t size v n xs) : v.ownBlock ≠ some b := by
  intro e
  rcases h with ⟨_, ⟨h2, _⟩ | ⟨g, cap, cur, h3, _, h5, _⟩⟩
  · rw [h2] at e; cases e
  · rw [h3] at e
    have : g = b := by simpa [Value.ownBlock] using e
    subst this
    rw [hm] at h5; cases h5
/-- The machine. -/
structure Mach (w : World) (B mb nb : Nat) (fv ov : Value) (F : List Fu) (how : List UInt8) (s : Ms) (most d : Nat) : Prop where
  hp : B ≤ mb
  hn : B ≤ nb
  ne : mb ≠ nb
  blk : w.heap[mb]? = some (.cells #[.string ⟨how.toArray⟩, .int .i64 0, ov, .int .i64 (s.ticks : Int), fv, .map (some nb), .int .i64 (most : Int), .int .i64 (d : Int)] 80 (0, 0))
  fs : XLF (fun b => b < B) w fv F
  own : w.ownsRow B 3 1 ov s.out.length (intsC s.out)
  n1 : ov.ownBlock ≠ some mb
  n2 : ov.ownBlock ≠ some nb
  nums : FirstAt w nb F
  tl : s.ticks ≤ most
  ml : most ≤ 5000
  ol : s.out.length ≤ 1000
  dl : d ≤ 40
/-- All is as it was but for some blocks. -/
structure Fr (S : Nat → Prop) (w w' : World) : Prop where
  os : w'.os = w.os
  tape : w'.tape = w.tape
  output : w'.output = w.output
  size : w.heap.size ≤ w'.heap.size
  block : ∀ b, b < w.heap.size → ¬ S b → w'.heap[b]? = w.heap[b]?
/-- The blocks that an expression may turn: the machine's, and the row of what was printed. -/
def Sx (mb : Nat) (o : Option Nat) (b : Nat) : Prop := b = mb ∨ o = some b
/-- .. a statement: besides the frame's, and its variables'. -/
def Ss (mb fb vb : Nat) (o : Option Nat) (b : Nat) : Prop := b = mb ∨ b = fb ∨ b = vb ∨ o = some b
theorem Fr.refl (S : Nat → Prop) (w : World) : Fr S w w := ⟨rfl, rfl, rfl, Nat.le_refl _, fun _ _ _ => rfl⟩
theorem Fr.of {S : Nat → Prop} {w w' : World} (h : Below w.heap.size w w') : Fr S w w' := ⟨h.os, h.tape, h.output, h.size, fun i hi _ => h.block i hi⟩
theorem Fr.trans {S T : Nat → Prop} {a b c : World} (h : Fr S a b) (k : Fr T b c) (hT : ∀ i, i < a.heap.size → T i → S i) : Fr S a c :=
  ⟨k.os.trans h.os, k.tape.trans h.tape, k.output.trans h.output, Nat.le_trans h.size k.size, fun i hi hs =>
    (k.block i (Nat.lt_of_lt_of_le hi h.size) (fun ht => hs (hT i hi ht))).trans (h.block i hi hs)⟩
theorem Fr.mono {S T : Nat → Prop} {a b : World} (h : Fr S a b) (hT : ∀ i, S i → T i) : Fr T a b := ⟨h.os, h.tape, h.output, h.size, fun i hi hs => h.block i hi (fun x => hs (hT i x))⟩
theorem Sx.next {w : World} {mb : Nat} {o o' : Option Nat} (h : RowB w o o') {i : Nat} (hi : i < w.heap.size) (hs : Sx mb o' i) : Sx mb o i := by
  rcases hs with hs | hs
  · exact Or.inl hs
  · rcases h with rfl | ⟨g, rfl, hg⟩
    · exact Or.inr hs
    · injection hs with hs; omega
theorem Ss.next {w : World} {mb fb vb : Nat} {o o' : Option Nat} (h : RowB w o o') {i : Nat} (hi : i < w.heap.size) (hs : Ss mb fb vb o' i) : Ss mb fb vb o i := by
  rcases hs with hs | hs | hs | hs
  · exact Or.inl hs
  · exact Or.inr (Or.inl hs)
  · exact Or.inr (Or.inr (Or.inl hs))
  · rcases h with rfl | ⟨g, rfl, hg⟩
    · exact Or.inr (Or.inr (Or.inr hs))
    · injection hs with hs; omega
theorem Sx.toSs {mb fb vb : Nat} {o : Option Nat} {i : Nat} (h : Sx mb o i) : Ss mb fb vb o i := h.elim Or.inl (fun h => Or.inr (Or.inr (Or.inr h)))
section
variable {w w' : World} {B mb nb fb vb : Nat} {fv ov : Value} {F : List Fu} {how : List UInt8} {s : Ms} {most d : Nat}
theorem Mach.mlt (h : Mach w B mb nb fv ov F how s most d) : mb < w.heap.size := heap_lt h.blk
theorem Mach.below (h : Mach w B mb nb fv ov F how s most d) (hb : Below w.heap.size w w') : Mach w' B mb nb fv ov F how s most d :=
  ⟨h.hp, h.hn, h.ne, (hb.block mb h.mlt).trans h.blk, h.fs.imp (fun _ h => h) (fun b hB => hb.block b (by have := h.mlt; have := h.hp; omega)), owns_below h.own hb, h.n1, h.n2, h.nums.keep (hb.block nb h.nums.lt), h.tl, h.ml, h.ol, h.dl⟩
/-- What lies ahead of B stays. -/
theorem Fr.lowX (h : Fr (Sx mb ov.ownBlock) w w') (k : Mach w B mb nb fv ov F how s most d) : Below B w w' :=
  ⟨h.os, h.tape, h.output, h.size, fun b hb => h.block b (by have := k.mlt; have := k.hp; omega) (by
    rintro (e | e)
    · have := k.hp; omega
    · have := (k.own.lt b e).1; omega)⟩
theorem Fr.lowS (h : Fr (Ss mb fb vb ov.ownBlock) w w') (k : Mach w B mb nb fv ov F how s most d) (hf : B ≤ fb) (hv : B ≤ vb) : Below B w w' :=
  ⟨h.os, h.tape, h.output, h.size, fun b hb => h.block b (by have := k.mlt; have := k.hp; omega) (by
    rintro (e | e | e | e)
    · have := k.hp; omega
    · omega
    · omega
    · have := (k.own.lt b e).1; omega)⟩
end
/-- The machine's block is written. -/
theorem Mach.put {w : World} {B mb nb : Nat} {fv ov : Value} {F : List Fu} {how how' : List UInt8} {s s' : Ms} {most d d' : Nat} (h : Mach w B mb nb fv ov F how s most d) {j : Nat} {u : Value} (hs : s'.out = s.out) (ht : s'.ticks ≤ most) (hd : d' ≤ 40)
    (hb : (#[.string ⟨how.toArray⟩, .int .i64 0, ov, .int .i64 (s.ticks : Int), fv, .map (some nb), .int .i64 (most : Int), .int .i64 (d : Int)] : Array Value).setIfInBounds j u = #[.string ⟨how'.toArray⟩, .int .i64 0, ov, .int .i64 (s'.ticks : Int), fv, .map (some nb), .int .i64 (most : Int), .int .i64 (d' : Int)]) :
    Mach (w.setCell ⟨mb, j, none⟩ u) B mb nb fv ov F how' s' most d' ∧ Fr (Sx mb ov.ownBlock) w (w.setCell ⟨mb, j, none⟩ u) := by
  have hset := blk_setCell h.blk j u
  rw [hb] at hset
  have hoth : ∀ b, b ≠ mb → (w.setCell ⟨mb, j, none⟩ u).heap[b]? = w.heap[b]? := fun b hb => Below.heap_setCell _ _ _ _ (show b ≠ mb from hb)
  refine ⟨⟨h.hp, h.hn, h.ne, hset, h.fs.imp (fun _ h => h) (fun b hB => hoth b (by have := h.hp; omega)), ?_, h.n1, h.n2, h.nums.keep (hoth nb (fun e => h.ne e.symm)), ht, h.ml, by rw [hs]; exact h.ol, hd⟩, ⟨rfl, rfl, rfl, by simp only [World.setCell, Array.size_modify]; exact Nat.le_refl _, fun b _ hS => hoth b (fun e => hS (Or.inl e))⟩⟩
  rw [hs]
  exact own_same h.own (fun b e => hoth b (fun e' => h.n1 (e' ▸ e)))
/-- One number more is printed. -/
theorem Mach.push {X w3 : World} {B mb nb : Nat} {fv ov v' : Value} {F : List Fu} {s s' : Ms} {most d : Nat} (h : Mach X B mb nb fv ov F [] s most d) (ht : s'.ticks = s.ticks) (hol : s'.out.length ≤ 1000) (hown : w3.ownsRow B 3 1 v' s'.out.length (intsC s'.out)) (hg : X.grownBy w3 ov.ownBlock) (hl : v'.ownBlock = ov.ownBlock ∨ v'.ownBlock = some X.heap.size) :
    Mach (w3.setCell ⟨mb, 2, none⟩ v') B mb nb fv v' F [] s' most d ∧ Fr (Sx mb ov.ownBlock) X (w3.setCell ⟨mb, 2, none⟩ v') ∧ RowB X ov.ownBlock v'.ownBlock := by
  have hpl := h.mlt
  have hnl := h.nums.lt
  have hpB := h.hp
  have hz := hg.size
  have hb3 : w3.heap[mb]? = _ := (hg.block mb hpl (fun e => h.n1 e.symm)).trans h.blk
  have hset := blk_setCell hb3 2 v'
  have hoth : ∀ b, b ≠ mb → (w3.setCell ⟨mb, 2, none⟩ v').heap[b]? = w3.heap[b]? := fun b hb => Below.heap_setCell _ _ _ _ (show b ≠ mb from hb)
  have hnew : RowB X ov.ownBlock v'.ownBlock := hl.elim Or.inl (fun e => Or.inr ⟨_, e, Nat.le_refl _⟩)
  have hn1 : v'.ownBlock ≠ some mb := hnew.ne hpl h.n1
  have hn2 : v'.ownBlock ≠ some nb := hnew.ne hnl h.n2
  refine ⟨⟨hpB, h.hn, h.ne, by rw [ht]; simpa using hset, h.fs.imp (fun _ h => h) (fun b hb => ?_), own_same hown (fun b e => hoth b (fun e' => hn1 (e' ▸ e))), hn1, hn2, h.nums.keep ?_, by rw [ht]; exact h.tl, h.ml, hol, h.dl⟩, ⟨hg.os, hg.tape, hg.output, by simp only [World.setCell, Array.size_modify]; exact hz, fun b hb hS => ?_⟩, hnew⟩
  · rw [hoth b (by omega), hg.block b (by omega) (fun e => by have := (h.own.lt b e.symm).1; omega)]
  · rw [hoth nb (fun e => h.ne e.symm), hg.block nb hnl (fun e => h.n2 e.symm)]
  · rw [hoth b (fun e => hS (Or.inl e)), hg.block b hb (fun e => hS (Or.inr e.symm))]
end Go.Proofs.YtcebpmaggnephacDoor
