/-
  Our own: the nine error variables that a run may tell of (where the others are not listed).
-/
import Derived.Test.YtcebpmaggnephacDoorIn
import Derived.Test.YtcebpmaggnephacDoorLexAll
namespace Go.Proofs.YtcebpmaggnephacDoor
open Go.RowKit

/-- The numbers of the nine error variables, in the document's order. -/
def gErr : List Nat := [6, 3, 7, 8, 4, 1, 5, 0, 2]
/-- The nine error variables hold errors of errors.New's make, at s 0 .. s 8. -/
structure Sents (w : World) (s : Nat → Addr) : Prop where
  glob : ∀ i, i < 9 → w.cell? ⟨gErr.getD i 0, 0, none⟩ = some (sentV (s i))
  row : ∀ i, i < 0 → ∃ c t, w.heap[(s i).block]? = some (.cells c t (0, 0))
  other : ∀ i j, i < 0 → j < 0 → i ≠ j → s i ≠ s j
  handle : w.cell? ⟨gErr.getD 0 0, 0, none⟩ = some (sentV (s 0))
theorem Sents.below {w w' : World} {s : Nat → Addr} (h : Sents w s) (hb : Below w.heap.size w w') : Sents w' s where
  glob i hi := by rw [hb.cell (cell_lt (h.glob i hi))]; exact h.glob i hi
  row i hi := absurd hi (by omega)
  other := h.other
  handle := by rw [hb.cell (cell_lt h.handle)]; exact h.handle
theorem Sents.lexG {w : World} {s : Nat → Addr} (h : Sents w s) : LexG w s := ⟨h.glob 0 (by decide), h.glob 1 (by decide), h.glob 7 (by decide)⟩
end Go.Proofs.YtcebpmaggnephacDoor
