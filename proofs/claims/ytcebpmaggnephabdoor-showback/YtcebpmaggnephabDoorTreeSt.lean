/-
  Our own: how the parser of package tree lies in memory.
-/
import Derived.Test.YtcebpmaggnephabDoorTreeRep
namespace Go.Proofs.YtcebpmaggnephabDoor
open Go.RowKit

/-- A slice of tokens: its cells, from some cell of its block on. -/
structure ToksAt (w : World) (g off : Nat) (T : List Tok) : Prop where
  c0 : ∀ i (h : i < T.length), w.cell? ⟨g, off + i * 3, none⟩ = some (.string ⟨T[i].kind.toArray⟩)
  c1 : ∀ i (h : i < T.length), w.cell? ⟨g, off + i * 3 + 1, none⟩ = some (.string ⟨T[i].text.toArray⟩)
  c2 : ∀ i (h : i < T.length), w.cell? ⟨g, off + i * 3 + 2, none⟩ = some (.int .i64 T[i].pos)
theorem ToksAt.of {w w' : World} {g off : Nat} {T : List Tok} (h : ToksAt w g off T) (hk : w'.heap[g]? = w.heap[g]?) : ToksAt w' g off T :=
  ⟨fun i hi => (World.cell?_of_block (w := w) (a := ⟨g, _, none⟩) hk).trans (h.c0 i hi), fun i hi => (World.cell?_of_block (w := w) (a := ⟨g, _, none⟩) hk).trans (h.c1 i hi), fun i hi => (World.cell?_of_block (w := w) (a := ⟨g, _, none⟩) hk).trans (h.c2 i hi)⟩
/-- The value of a slice of tokens. -/
def ToksV (w : World) (tv : Value) (T : List Tok) (p : Nat) : Prop := ∃ ad cap, tv = .slice ad T.length cap ∧ (T ≠ [] → ∃ g off, ad = some ⟨g, off, none⟩ ∧ g < p ∧ ToksAt w g off T)
/-- The two errors that package tree tells. -/
structure TreeG (w : World) (a : Nat → Addr) (p : Nat) : Prop where
  text : w.cell? ⟨1, 0, none⟩ = some (sentV (a 0))
  deep : w.cell? ⟨3, 0, none⟩ = some (sentV (a 9))
  nt : 1 < p
  nd : 3 < p
/-- The error that a parser holds. -/
def ErrAt (a : Nat → Addr) (p : Nat) (w : World) (i : Nat) (ev : Value) : Rs Unit → Prop
  | .out => False
  | .ok _ j => i = j ∧ ev = .nilIface
  | .bad c k => ∃ b, ev = .iface 46 (.pointer (some ⟨b, 0, none⟩)) ∧ p < b ∧ w.heap[b]? = some (.cells #[.int .i64 k, sentV (a (c - 1))] 48 (0, 0))
/-- The parser in block p, at depth d, in a state: it stands at a token, or it has told an error. -/
structure PAt (T : List Tok) (a : Nat → Addr) (p d : Nat) (s : Rs Unit) (w : World) : Prop where
  few : T.length ≤ 1000
  deep : d ≤ 12
  g : TreeG w a p
  blk : ∃ tv i ev, w.heap[p]? = some (.cells #[tv, .int .i64 (i : Nat), .int .i64 d, ev] 60 (0, 0)) ∧ i ≤ T.length ∧ ToksV w tv T p ∧ ErrAt a p w i ev s
/-- The token that comes next. -/
def nxt (T : List Tok) (s : Rs Unit) : Tok := match s with | .ok _ i => tk T i | _ => ⟨[], [], 0⟩
def tokA (t : Tok) : Value := .agg #[.string ⟨t.kind.toArray⟩, .string ⟨t.text.toArray⟩, .int .i64 t.pos]
theorem heap_keep {w w' : World} {p : Nat} (h : But p w w') {b : Nat} {o : Obj} (hb : w.heap[b]? = some o) (hp : b ≠ p) : w'.heap[b]? = some o := (h.block b (heap_lt hb) hp).trans hb
theorem cell_keep {w w' : World} {p : Nat} (h : But p w w') {b i : Nat} {v : Value} (hb : w.cell? ⟨b, i, none⟩ = some v) (hp : b ≠ p) : w'.cell? ⟨b, i, none⟩ = some v :=
  (World.cell?_of_block (w := w) (a := ⟨b, i, none⟩) (h.block b (cell_lt hb) hp)).trans hb
theorem TreeG.keep {w w' : World} {a : Nat → Addr} {p : Nat} (h : TreeG w a p) (hb : But p w w') : TreeG w' a p := ⟨cell_keep hb h.text (Nat.ne_of_lt h.nt), cell_keep hb h.deep (Nat.ne_of_lt h.nd), h.nt, h.nd⟩
theorem ToksV.keep {w w' : World} {tv : Value} {T : List Tok} {p : Nat} (h : ToksV w tv T p) (hb : But p w w') (hp : p < w.heap.size) : ToksV w' tv T p := by
  obtain ⟨ad, cap, rfl, hx⟩ := h
  refine ⟨ad, cap, rfl, fun hn => ?_⟩
  obtain ⟨g, off, rfl, hg, ht⟩ := hx hn
  exact ⟨g, off, rfl, hg, ht.of (hb.block g (by omega) (by omega))⟩
theorem ErrAt.keep {a : Nat → Addr} {p : Nat} {w w' : World} {i : Nat} {ev : Value} {s : Rs Unit} (h : ErrAt a p w i ev s) (hb : But p w w') : ErrAt a p w' i ev s := by
  cases s with
  | out => exact h
  | ok _ j => exact h
  | bad c k =>
    obtain ⟨b, rfl, hp, hx⟩ := h
    exact ⟨b, rfl, hp, heap_keep hb hx (by omega)⟩
theorem PAt.keep {T : List Tok} {a : Nat → Addr} {p d : Nat} {s : Rs Unit} {w w' : World} (h : PAt T a p d s w) (hb : Below w.heap.size w w') : PAt T a p d s w' := by
  obtain ⟨hf, hd, hg, tv, i, ev, hx, hi, ht, he⟩ := h
  exact ⟨hf, hd, hg.keep (But.of hb), tv, i, ev, (hb.block p (heap_lt hx)).trans hx, hi, ht.keep (But.of hb) (heap_lt hx), he.keep (But.of hb)⟩
theorem PAt.lt {T : List Tok} {a : Nat → Addr} {p d : Nat} {s : Rs Unit} {w : World} (h : PAt T a p d s w) : p < w.heap.size := by
  obtain ⟨_, _, _, tv, i, ev, hx, _⟩ := h
  exact heap_lt hx
/-- A block of cells that is no Fault. -/
def Far (w : World) (r : Nat) : Prop := ∃ cs t, w.heap[r]? = some (.cells cs t (0, 0)) ∧ t ≠ 48
theorem Far.set {w : World} {r : Nat} (h : Far w r) (i : Nat) (u : Value) : Far (w.setCell ⟨r, i, none⟩ u) r := by
  obtain ⟨cs, t, hx, ht⟩ := h
  exact ⟨_, t, blk_setCell hx i u, ht⟩
theorem heap_far {w : World} {r k i : Nat} {u : Value} (h : k ≠ r) : (w.setCell ⟨r, i, none⟩ u).heap[k]? = w.heap[k]? := Below.heap_setCell _ _ _ _ h
/-- A store beyond the parser, into no Fault. -/
theorem PAt.setCell {T : List Tok} {a : Nat → Addr} {p d : Nat} {s : Rs Unit} {w : World} (h : PAt T a p d s w) {r : Nat} (hr : p < r) (hf : Far w r) (i : Nat) (u : Value) : PAt T a p d s (w.setCell ⟨r, i, none⟩ u) := by
  obtain ⟨h1, h2, ⟨g1, g2, g3, g4⟩, tv, j, ev, hx, hi, ht, he⟩ := h
  have hc : ∀ {b n : Nat} {v : Value}, b < r → w.cell? ⟨b, n, none⟩ = some v → (w.setCell ⟨r, i, none⟩ u).cell? ⟨b, n, none⟩ = some v := fun {b n v} hb hv => (World.cell?_of_block (w := w) (a := ⟨b, n, none⟩) (heap_far (by show b ≠ r; omega))).trans hv
  refine ⟨h1, h2, ⟨hc (by omega) g1, hc (by omega) g2, g3, g4⟩, tv, j, ev, (heap_far (by omega)).trans hx, hi, ?_, ?_⟩
  · obtain ⟨ad, cap, rfl, hy⟩ := ht
    refine ⟨ad, cap, rfl, fun hn => ?_⟩
    obtain ⟨g, off, rfl, hg, ht⟩ := hy hn
    exact ⟨g, off, rfl, hg, ht.of (heap_far (by omega))⟩
  · cases s with
    | out => exact he
    | ok _ _ => exact he
    | bad c k =>
      obtain ⟨b, rfl, hp, hy⟩ := he
      refine ⟨b, rfl, hp, (heap_far ?_).trans hy⟩
      rintro rfl
      obtain ⟨cs, t, hz, ht⟩ := hf
      rw [hz] at hy
      injection hy with hy
      injection hy with _ hy
      exact ht hy
/-- Four cells stored. -/
theorem set4_blk {w : World} {r : Nat} {x0 x1 x2 x3 : Value} {t : TypeId} (h : w.heap[r]? = some (.cells #[x0, x1, x2, x3] t (0, 0))) (u0 u1 u2 u3 : Value) :
    ((((w.setCell ⟨r, 0, none⟩ u0).setCell ⟨r, 1, none⟩ u1).setCell ⟨r, 2, none⟩ u2).setCell ⟨r, 3, none⟩ u3).heap[r]? = some (.cells #[u0, u1, u2, u3] t (0, 0)) := by
  have := blk_setCell (blk_setCell (blk_setCell (blk_setCell h 0 u0) 1 u1) 2 u2) 3 u3
  simpa using this
end Go.Proofs.YtcebpmaggnephabDoor
