/-
  Our own: functions that hand back a struct and something else.
-/
import Derived.Test.YtgcmegbfhhebpaaDoorRetRow
namespace Go.Proofs.YtgcmegbfhhebpaaDoor
open Go.RowKit

theorem ret_tmp_row {fn : Func} {R : Ending → World → Prop} {tmps : Array Value} {w : World} (r u sl : Nat) (cs : Array Value) (T : TypeId) (x : Value) {fs : Array Field} {t : TypeId} (hres : fn.results = #[ResultVar.tmp u, ResultVar.cell sl T]) (hx0 : tmps.getD u undef = x) (hsl : tmps.getD sl undef = .pointer (some ⟨r, 0, none⟩))
    (hx : w.heap[r]? = some (.cells cs t (0, 0))) (hu : Tryd.prog.underlying T = some (.struct fs)) (hi : (Tryd.prog.info? T).map (·.size) = some cs.size) (h : R (.returned (.tuple #[x, .agg cs])) w) : bodyPost Tryd.prog fn R Exit.ret { tmps := tmps, defers := [] } w := by
  refine bodyPost_ret (v := .tuple #[x, .agg cs]) ?_ rfl h
  have hp' : tmps[sl]?.getD undef = .pointer (some ⟨r, 0, none⟩) := by simpa using hsl
  have hq' : tmps[u]?.getD undef = x := by simpa using hx0
  simp [results, hres, hp', hq', asAddr, Go.run_loadVar_row w r t T cs (0, 0) _ hx hu rfl hi]
theorem ret_row_tmp {fn : Func} {R : Ending → World → Prop} {tmps : Array Value} {w : World} (r u sl : Nat) (cs : Array Value) (T : TypeId) (x : Value) {fs : Array Field} {t : TypeId} (hres : fn.results = #[ResultVar.cell sl T, ResultVar.tmp u]) (hx0 : tmps.getD u undef = x) (hsl : tmps.getD sl undef = .pointer (some ⟨r, 0, none⟩))
    (hx : w.heap[r]? = some (.cells cs t (0, 0))) (hu : Tryd.prog.underlying T = some (.struct fs)) (hi : (Tryd.prog.info? T).map (·.size) = some cs.size) (h : R (.returned (.tuple #[.agg cs, x])) w) : bodyPost Tryd.prog fn R Exit.ret { tmps := tmps, defers := [] } w := by
  refine bodyPost_ret (v := .tuple #[.agg cs, x]) ?_ rfl h
  have hp' : tmps[sl]?.getD undef = .pointer (some ⟨r, 0, none⟩) := by simpa using hsl
  have hq' : tmps[u]?.getD undef = x := by simpa using hx0
  simp [results, hres, hp', hq', asAddr, Go.run_loadVar_row w r t T cs (0, 0) _ hx hu rfl hi]
end Go.Proofs.YtgcmegbfhhebpaaDoor
