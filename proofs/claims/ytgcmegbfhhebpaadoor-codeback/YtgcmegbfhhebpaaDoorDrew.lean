/-
  Our own: draws turn nothing.
-/
import Derived.Test.YtgcmegbfhhebpaaDoorIn
namespace Go.Proofs.YtgcmegbfhhebpaaDoor
open Go.RowKit

theorem drewN_below' (B : Nat) (w : World) (m : Nat) : Below B w (w.drewN m) := ⟨rfl, rfl, rfl, Nat.le_refl _, fun _ _ => rfl⟩
theorem bT {B : Nat} {a w : World} (h : Below B a w) (m : Nat) : Below B a (w.drewN m) := h.trans (drewN_below' _ _ _)
theorem bS {B : Nat} {a w : World} (h : Below B a w) {p : Addr} (u : Value) (hp : B ≤ p.block := by first | (simp; done) | (simp; omega)) : Below B a (w.setCell p u) := h.setCell hp u
theorem bA {B : Nat} {a w : World} (h : Below B a w) (o : Obj) (hB : B ≤ w.heap.size := by first | (simp; done) | (simp; omega)) : Below B a (w.alloc o) := h.alloc hB o
end Go.Proofs.YtgcmegbfhhebpaaDoor
