/-
  Our own: five cells of a block set.
-/
import Derived.Test.YtgcmegbfhhebpaaDoorMem
namespace Go.Proofs.YtgcmegbfhhebpaaDoor
open Go.RowKit

theorem set5_blk {w : World} {r : Nat} {x0 x1 x2 x3 x4 : Value} {t : TypeId} (h : w.heap[r]? = some (.cells #[x0, x1, x2, x3, x4] t (0, 0))) (u0 u1 u2 u3 u4 : Value) :
    (((((w.setCell ⟨r, 0, none⟩ u0).setCell ⟨r, 1, none⟩ u1).setCell ⟨r, 2, none⟩ u2).setCell ⟨r, 3, none⟩ u3).setCell ⟨r, 4, none⟩ u4).heap[r]? = some (.cells #[u0, u1, u2, u3, u4] t (0, 0)) := by
  have h0 := blk_setCell h 0 u0
  have h1 := blk_setCell h0 1 u1
  have h2 := blk_setCell h1 2 u2
  have h3 := blk_setCell h2 3 u3
  have h4 := blk_setCell h3 4 u4
  simpa using h4
end Go.Proofs.YtgcmegbfhhebpaaDoor
