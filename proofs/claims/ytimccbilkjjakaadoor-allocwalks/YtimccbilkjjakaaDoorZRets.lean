/- Our own: texts joined: RetRow, GrBare. -/
import Derived.Test.YtimccbilkjjakaaDoorZBase
import Derived.Laws.Rows
namespace Go.Proofs.YtimccbilkjjakaaDoor
open Go.RowKit
theorem ret_row {fn : Func} {R : Ending → World → Prop} {tmps : Array Value} {w : World} (r sl : Nat) (cs : Array Value) (T : TypeId) {fs : Array Field} {t : TypeId} (hres : fn.results = #[ResultVar.cell sl T]) (hsl : tmps.getD sl undef = .pointer (some ⟨r, 0, none⟩))
  (hx : w.heap[r]? = some (.cells cs t (0, 0))) (hu : Tryd.prog.underlying T = some (.struct fs)) (hi : (Tryd.prog.info? T).map (·.size) = some cs.size) (h : R (.returned (.agg cs)) w) : bodyPost Tryd.prog fn R Exit.ret { tmps := tmps, defers := [] } w :=
 bodyPost_ret (v := .agg cs) (results_cell_row hres tmps w r t cs (0, 0) _ hsl hx hu rfl hi) rfl h
end Go.Proofs.YtimccbilkjjakaaDoor
namespace Go.Proofs.YtimccbilkjjakaaDoor
open Go.RowKit
theorem bareG (c : Int) (w : World) : Calls Tryd.prog 16 #[.int .i64 c] w fun e w' => e = .returned (.agg #[.int .i64 c, .int .i64 (-1)]) ∧ Below w.heap.size w w' := by
 go_enter Tryd.func16, Tryd.ntmps16
 go_wp2
 exact bodyPost_ret (v := .agg #[.int .i64 c, .int .i64 (-1)]) (by simp [results, Tryd.results16, go_sem]) rfl ⟨rfl, by (repeat (first | exact Below.refl _ _ | assumption | refine Below.drew ?_ | refine bT ?_ _ | refine bS ?_ _ | refine bA ?_ _))⟩
theorem fineG (w : World) : Calls Tryd.prog 19 #[] w fun e w' => e = .returned (.agg #[.int .i64 0, .int .i64 (-1)]) ∧ Below w.heap.size w w' := by
 go_enter Tryd.func19, Tryd.ntmps19
 go_wp2
 exact bodyPost_ret (v := .agg #[.int .i64 0, .int .i64 (-1)]) (by simp [results, Tryd.results19, go_sem]) rfl ⟨rfl, by (repeat (first | exact Below.refl _ _ | assumption | refine Below.drew ?_ | refine bT ?_ _ | refine bS ?_ _ | refine bA ?_ _))⟩
end Go.Proofs.YtimccbilkjjakaaDoor
