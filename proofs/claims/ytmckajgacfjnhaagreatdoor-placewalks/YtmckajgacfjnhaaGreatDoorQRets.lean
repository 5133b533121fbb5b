/- Our own: texts joined: BoolRow, RetRow, GrBare. -/
import Derived.Test.YtmckajgacfjnhaaGreatDoorQBase
import Derived.Laws.Rows
namespace Go.Proofs.YtmckajgacfjnhaaGreatDoor
open Go.RowKit
def boolsG (l : List Bool) : List Value := l.map fun b => .bool b
theorem boolsG_set (l : List Bool) (i : Nat) : (boolsG l).toArray.setIfInBounds i (.bool true) = (boolsG (l.set i true)).toArray := by
 apply Array.ext'
 simp [boolsG, List.map_set]
theorem bool_infoG : (Tryz.prog.info? 4).map (fun i => (i.zero, i.size, i.bytes)) = some (some (.bool false), 1, 1) := by kernel_rfl
theorem made_bools (n : Nat) : madeCells #[.bool false] n = (boolsG (List.replicate n false)).toArray := by
 apply Array.ext'
 apply List.ext_getElem?
 intro i
 simp [madeCells, boolsG, List.getElem?_replicate]
 by_cases h : i < n <;> simp [h, Nat.mod_one]
end Go.Proofs.YtmckajgacfjnhaaGreatDoor
namespace Go.Proofs.YtmckajgacfjnhaaGreatDoor
open Go.RowKit
theorem ret_row {fn : Func} {R : Ending → World → Prop} {tmps : Array Value} {w : World} (r sl : Nat) (cs : Array Value) (T : TypeId) {fs : Array Field} {t : TypeId} (hres : fn.results = #[ResultVar.cell sl T]) (hsl : tmps.getD sl undef = .pointer (some ⟨r, 0, none⟩))
  (hx : w.heap[r]? = some (.cells cs t (0, 0))) (hu : Tryz.prog.underlying T = some (.struct fs)) (hi : (Tryz.prog.info? T).map (·.size) = some cs.size) (h : R (.returned (.agg cs)) w) : bodyPost Tryz.prog fn R Exit.ret { tmps := tmps, defers := [] } w :=
 bodyPost_ret (v := .agg cs) (results_cell_row hres tmps w r t cs (0, 0) _ hsl hx hu rfl hi) rfl h
end Go.Proofs.YtmckajgacfjnhaaGreatDoor
namespace Go.Proofs.YtmckajgacfjnhaaGreatDoor
open Go.RowKit
theorem bareG (c : Int) (w : World) : Calls Tryz.prog 16 #[.int .i64 c] w fun e w' => e = .returned (.agg #[.int .i64 c, .int .i64 (-1)]) ∧ Below w.heap.size w w' := by
 go_enter Tryz.func16, Tryz.ntmps16
 go_wp2
 exact bodyPost_ret (v := .agg #[.int .i64 c, .int .i64 (-1)]) (by simp [results, Tryz.results16, go_sem]) rfl ⟨rfl, by (repeat (first | exact Below.refl _ _ | assumption | refine Below.drew ?_ | refine bT ?_ _ | refine bS ?_ _ | refine bA ?_ _))⟩
theorem fineG (w : World) : Calls Tryz.prog 19 #[] w fun e w' => e = .returned (.agg #[.int .i64 0, .int .i64 (-1)]) ∧ Below w.heap.size w w' := by
 go_enter Tryz.func19, Tryz.ntmps19
 go_wp2
 exact bodyPost_ret (v := .agg #[.int .i64 0, .int .i64 (-1)]) (by simp [results, Tryz.results19, go_sem]) rfl ⟨rfl, by (repeat (first | exact Below.refl _ _ | assumption | refine Below.drew ?_ | refine bT ?_ _ | refine bS ?_ _ | refine bA ?_ _))⟩
theorem set2_blk {w : World} {r : Nat} {x0 x1 : Value} {t : TypeId} (h : w.heap[r]? = some (.cells #[x0, x1] t (0, 0))) (u0 u1 : Value) : ((w.setCell ⟨r, 0, none⟩ u0).setCell ⟨r, 1, none⟩ u1).heap[r]? = some (.cells #[u0, u1] t (0, 0)) := by
 have := blk_setCell (blk_setCell h 0 u0) 1 u1
 simpa using this
theorem set2_low {B : Nat} {a w : World} {r : Nat} (h : Below B a w) (hr : B ≤ r) (u0 u1 : Value) : Below B a ((w.setCell ⟨r, 0, none⟩ u0).setCell ⟨r, 1, none⟩ u1) := (h.setCell hr _).setCell hr _
end Go.Proofs.YtmckajgacfjnhaaGreatDoor
