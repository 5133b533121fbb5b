/-
  Our own: a struct that a function returns.
-/
import Derived.Test.YtgcmegbfhhebpaaDoorMem
import Derived.Laws.Rows
namespace Go.Proofs.YtgcmegbfhhebpaaDoor
open Go.RowKit

/-- The end of a function that hands back a struct out of block r. -/
theorem ret_row {fn : Func} {R : Ending → World → Prop} {tmps : Array Value} {w : World} (r sl : Nat) (cs : Array Value) (T : TypeId) {fs : Array Field} {t : TypeId} (hres : fn.results = #[ResultVar.cell sl T]) (hsl : tmps.getD sl undef = .pointer (some ⟨r, 0, none⟩))
    (hx : w.heap[r]? = some (.cells cs t (0, 0))) (hu : Tryd.prog.underlying T = some (.struct fs)) (hi : (Tryd.prog.info? T).map (·.size) = some cs.size) (h : R (.returned (.agg cs)) w) : bodyPost Tryd.prog fn R Exit.ret { tmps := tmps, defers := [] } w :=
  bodyPost_ret (v := .agg cs) (results_cell_row hres tmps w r t cs (0, 0) _ hsl hx hu rfl hi) rfl h
end Go.Proofs.YtgcmegbfhhebpaaDoor
