/-
  Our own: a row that a function owns: its block stays, or is new.
-/
import Derived.Test.YtcebpmaggnephacDoorSteps
import Derived.Test.YtcebpmaggnephacDoorTreeAny
import Derived.Maps.AppendAt
namespace Go.Proofs.YtcebpmaggnephacDoor
open Go.RowKit

/-- A row's block: as it was, or new. -/
def RowB (w : World) (o o' : Option Nat) : Prop := o' = o ∨ ∃ b, o' = some b ∧ w.heap.size ≤ b
theorem RowB.refl (w : World) (o : Option Nat) : RowB w o o := Or.inl rfl
theorem RowB.trans {a b : World} {o o' o'' : Option Nat} (h : RowB a o o') (k : RowB b o' o'') (hz : a.heap.size ≤ b.heap.size) : RowB a o o'' := by
  rcases k with rfl | ⟨g, rfl, hg⟩
  · exact h
  · exact Or.inr ⟨g, rfl, by omega⟩
theorem RowB.ne {w : World} {o o' : Option Nat} (h : RowB w o o') {b : Nat} (hb : b < w.heap.size) (ho : o ≠ some b) : o' ≠ some b := by
  rcases h with rfl | ⟨g, rfl, hg⟩
  · exact ho
  · intro e; injection e with e; omega
theorem RowB.mono {a b : World} {o o' : Option Nat} (h : RowB b o o') (hz : a.heap.size ≤ b.heap.size) : RowB a o o' := by
  rcases h with h | ⟨g, h, hg⟩
  · exact Or.inl h
  · exact Or.inr ⟨g, h, by omega⟩
/-- What is owned stays, where its block does. -/
theorem own_same {B n size : Nat} {t : TypeId} {w w' : World} {v : Value} {xs : List Value} (h : w.ownsRow B t size v n xs) (hb : ∀ b, v.ownBlock = some b → w'.heap[b]? = w.heap[b]?) : w'.ownsRow B t size v n xs := by
  rcases h with ⟨h1, h2 | ⟨g, cap, cur, h3, h4, h5, h6⟩⟩
  · exact ⟨h1, Or.inl h2⟩
  · exact ⟨h1, Or.inr ⟨g, cap, cur, h3, h4, (hb g (by rw [h3]; rfl)).trans h5, h6⟩⟩
end Go.Proofs.YtcebpmaggnephacDoor
