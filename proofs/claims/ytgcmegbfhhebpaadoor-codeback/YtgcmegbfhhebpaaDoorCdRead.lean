/-
  Our own: an instruction of the document's model that came in as an argument, read. Written by wip/gen/mkcdlaid.py.
-/
import Derived.Test.YtgcmegbfhhebpaaDoorCdChk
import Derived.WideShapes
import Derived.OpenShut
namespace Go.Proofs.YtgcmegbfhhebpaaDoor
open Go.RowKit Go.ChangeShapes Go.WideShapes

theorem c_ins : Tryd.prog.cellsOf 24 = 5 := by kernel_rfl
theorem c_str5 : Tryd.prog.cellsOf 9 = 1 := by kernel_rfl
theorem c_int5 : Tryd.prog.cellsOf 3 = 1 := by kernel_rfl
set_option maxRecDepth 100000 in
theorem read_ins {H : Type} {enc : TypeId × Value → H} {w : World} {sp : Nat → Bool} {held : Bool} {v : Value} {cs : Array Value} (hv : v = .agg cs) {d : DataW H} {ps : List MemPlace} (h : DataW.Trod enc Tryd.prog w 0 sp held 24 v d ps) : ∃ i : Ci, v = ciV i := by
  obtain ⟨fuel, h⟩ := h
  subst hv
  obtain ⟨xs, n, hf, _, hl, hx, hall⟩ := DataW.trod_struct Tryd.underlying24 h
  rw [c_ins] at hl
  have hx5 : xs.length = 5 := hx
  have hcs : (Value.agg cs).cells.toList = cs.toList := rfl
  rw [hcs] at hl hall
  obtain ⟨l, rfl⟩ : ∃ l, cs = l.toArray := ⟨cs.toList, by simp⟩
  simp only at hl hall
  match l, hl with
  | [v0, v1, v2, v3, v4], _ =>
    have e0 : DataW.trod enc Tryd.prog w 0 sp held n 9 (([v0, v1, v2, v3, v4].drop 0).take (Tryd.prog.cellsOf 9)) = xs[0]? := hall 0 _ rfl
    have e1 : DataW.trod enc Tryd.prog w 0 sp held n 3 (([v0, v1, v2, v3, v4].drop 1).take (Tryd.prog.cellsOf 3)) = xs[1]? := hall 1 _ rfl
    have e2 : DataW.trod enc Tryd.prog w 0 sp held n 3 (([v0, v1, v2, v3, v4].drop 2).take (Tryd.prog.cellsOf 3)) = xs[2]? := hall 2 _ rfl
    have e3 : DataW.trod enc Tryd.prog w 0 sp held n 3 (([v0, v1, v2, v3, v4].drop 3).take (Tryd.prog.cellsOf 3)) = xs[3]? := hall 3 _ rfl
    have e4 : DataW.trod enc Tryd.prog w 0 sp held n 3 (([v0, v1, v2, v3, v4].drop 4).take (Tryd.prog.cellsOf 3)) = xs[4]? := hall 4 _ rfl
    rw [List.getElem?_eq_getElem (by omega)] at e0 e1 e2 e3 e4
    rw [c_str5] at e0
    rw [c_int5] at e1 e2 e3 e4
    simp only [List.drop_zero, List.drop_succ_cons, List.take_succ_cons, List.take_zero] at e0 e1 e2 e3 e4
    obtain ⟨s0, h0, _, _⟩ := DataW.trod_string Tryd.underlying9 e0
    obtain ⟨n1, h1, _, _⟩ := DataW.trod_int Tryd.underlying3 e1
    obtain ⟨n2, h2, _, _⟩ := DataW.trod_int Tryd.underlying3 e2
    obtain ⟨n3, h3, _, _⟩ := DataW.trod_int Tryd.underlying3 e3
    obtain ⟨n4, h4, _, _⟩ := DataW.trod_int Tryd.underlying3 e4
    injection h0 with h0; injection h1 with h1; injection h2 with h2; injection h3 with h3; injection h4 with h4
    subst h0 h1 h2 h3 h4
    exact ⟨⟨s0.data.toList, n1, n2, n3, n4⟩, by simp⟩
end Go.Proofs.YtgcmegbfhhebpaaDoor
