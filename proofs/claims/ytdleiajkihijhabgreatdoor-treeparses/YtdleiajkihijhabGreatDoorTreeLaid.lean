/-
  Our own: from the card's condition to what the walks of package tree want: error variables behind three tables.
-/
import Derived.Test.YtdleiajkihijhabGreatDoorLaidBase
import Derived.Test.YtdleiajkihijhabGreatDoorTreeProg
namespace Go.Proofs.YtdleiajkihijhabGreatDoor
open Go.RowKit Go.ChangeShapes

/-- The errors' names and texts. -/
def cutNames : List (String × List UInt8) := [
  ("kelpforest/api.ErrText", [107, 101, 108, 112, 102, 111, 114, 101, 115, 116, 58, 32, 116, 101, 120, 116]),
  ("kelpforest/api.ErrBound", [107, 101, 108, 112, 102, 111, 114, 101, 115, 116, 58, 32, 98, 111, 117, 110, 100]),
  ("kelpforest/api.ErrFull", [107, 101, 108, 112, 102, 111, 114, 101, 115, 116, 58, 32, 102, 117, 108, 108]),
  ("kelpforest/api.ErrDeep", [107, 101, 108, 112, 102, 111, 114, 101, 115, 116, 58, 32, 100, 101, 101, 112])]
def sentErrs (l : List (String × List UInt8)) : List (String × DataW Unit) := l.map fun x => (x.1, .iface "*errors.errorString" (.ptr (.agg [.lit (.string x.2)])))
theorem y_row : ∀ u, Tryz.prog.typeName? 3 u = some "*errors.errorString" → u = 157 :=
  typeName_ptr_named (nm := "errors.errorString") (by kernel_rfl) (by kernel_rfl) (by decide)
theorem y_cellsS : Tryz.prog.cellsOf 159 = 1 := by kernel_rfl
theorem y_cellsT : Tryz.prog.cellsOf 9 = 1 := by kernel_rfl
theorem y_globs : cutNames.map (fun x => Tryz.prog.globalNamed x.1) = [some 1, some 0, some 2, some 9] := by kernel_rfl
theorem y_types : ([1, 0, 2, 9].all fun g => (Tryz.prog.globals[g]?).map (·.type) == some 30) = true := by kernel_rfl
/-- What is laid ahead is passed over; what is laid behind is left. -/
theorem laid_split {P : Program} {W : World} : ∀ (l r : List (String × DataW Unit)) (ps : List MemPlace), DataW.LaidVars P W (l ++ r) ps → ∃ p q, ps = p ++ q ∧ DataW.LaidVars P W l p ∧ DataW.LaidVars P W r q
  | [], r, ps, h => ⟨[], ps, rfl, rfl, h⟩
  | x :: l, r, ps, h => by
    obtain ⟨g, t, cs, fuel, p, q, hg, ht, hv, hd, hr, rfl⟩ := h
    obtain ⟨p', q', rfl, h1, h2⟩ := laid_split l r q hr
    exact ⟨_, q', by simp only [List.append_assoc], ⟨g, t, cs, fuel, p, p', hg, ht, hv, hd, h1, rfl⟩, h2⟩
theorem cutG_of_laid {W : World} (A B : List (String × DataW Unit)) (h : laidMet Tryz.prog (A ++ (sentErrs cutNames ++ B)) W) : ∃ a : Nat → Addr, CutG W a := by
  obtain ⟨ps, hv, hnd, hrows⟩ := h
  obtain ⟨p1, q1, rfl, _, hv1⟩ := laid_split A _ ps hv
  obtain ⟨p2, q2, rfl, hv2, _⟩ := laid_split (sentErrs cutNames) B q1 hv1
  have hty : ∀ x ∈ cutNames, ∀ g, Tryz.prog.globalNamed x.1 = some g → (Tryz.prog.globals[g]?).map (·.type) = some 30 := by
    intro x hx g hg
    have hmem : some g ∈ [some 1, some 0, some 2, some 9] := by
      rw [← y_globs, ← hg]
      exact List.mem_map_of_mem (f := fun x => Tryz.prog.globalNamed x.1) hx
    have hmem' : g ∈ [1, 0, 2, 9] := by simpa using hmem
    have := List.all_eq_true.1 y_types g hmem'
    simpa using this
  obtain ⟨al, hlen, hsub, hall⟩ := laid_sents Tryz.underlying30 y_row Tryz.underlying157 Tryz.underlying159 rfl rfl Tryz.underlying9 y_cellsS y_cellsT cutNames p2 hv2 (fun b off hm => hrows b off (List.mem_append_right _ (List.mem_append_left _ hm))) hty
  have c : ∀ i x g, cutNames[i]? = some x → Tryz.prog.globalNamed x.1 = some g → W.cell? ⟨g, 0, none⟩ = some (sentV (al.getD i ⟨0, 0, none⟩)) := fun i x g hx hg => by
    simpa using World.var?_cell hg (hall i x hx).1 0
  refine ⟨fun i => if i = 7 then al.getD 2 ⟨0, 0, none⟩ else if i = 9 then al.getD 3 ⟨0, 0, none⟩ else al.getD i ⟨0, 0, none⟩, ⟨?_, ?_, ?_⟩, ?_⟩
  · exact c 0 _ _ rfl (by kernel_rfl)
  · exact c 1 _ _ rfl (by kernel_rfl)
  · exact c 2 _ _ rfl (by kernel_rfl)
  · exact c 3 _ _ rfl (by kernel_rfl)
end Go.Proofs.YtdleiajkihijhabGreatDoor
