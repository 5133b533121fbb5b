/-
  Our own: from the card's condition to what the walks of package lex want: three error variables.
-/
import Derived.Test.YtmepblacndgkjaaDoorLaidBase
import Derived.Test.YtmepblacndgkjaaDoorLexRead
namespace Go.Proofs.YtmepblacndgkjaaDoor
open Go.RowKit Go.ChangeShapes

/-- The three errors' names and texts. -/
def lexNames : List (String × List UInt8) := [
  ("kelpforest/api.ErrText", [107, 101, 108, 112, 102, 111, 114, 101, 115, 116, 58, 32, 116, 101, 120, 116]),
  ("kelpforest/api.ErrBound", [107, 101, 108, 112, 102, 111, 114, 101, 115, 116, 58, 32, 98, 111, 117, 110, 100]),
  ("kelpforest/api.ErrFull", [107, 101, 108, 112, 102, 111, 114, 101, 115, 116, 58, 32, 102, 117, 108, 108])]
def lexErrs : List (String × DataW Unit) := lexNames.map fun x => (x.1, .iface "*errors.errorString" (.ptr (.agg [.lit (.string x.2)])))
theorem x_row : ∀ u, Tryd.prog.typeName? 3 u = some "*errors.errorString" → u = 63 :=
  typeName_ptr_named (nm := "errors.errorString") (by kernel_rfl) (by kernel_rfl) (by decide)
theorem x_cellsS : Tryd.prog.cellsOf 65 = 1 := by kernel_rfl
theorem x_cellsT : Tryd.prog.cellsOf 9 = 1 := by kernel_rfl
theorem x_globs : lexNames.map (fun x => Tryd.prog.globalNamed x.1) = [some 0, some 1, some 7] := by kernel_rfl
theorem x_types : ([0, 1, 7].all fun g => (Tryd.prog.globals[g]?).map (·.type) == some 25) = true := by kernel_rfl
theorem lexG_of_laid {W : World} (h : laidMetH Tryd.prog lexErrs W) : ∃ a : Nat → Addr, LexG W a := by
  have hm : laidMet Tryd.prog lexErrs W := h
  obtain ⟨ps, hv, hnd, hrows⟩ := hm
  have hty : ∀ x ∈ lexNames, ∀ g, Tryd.prog.globalNamed x.1 = some g → (Tryd.prog.globals[g]?).map (·.type) = some 25 := by
    intro x hx g hg
    have hmem : some g ∈ [some 0, some 1, some 7] := by
      rw [← x_globs, ← hg]
      exact List.mem_map_of_mem (f := fun x => Tryd.prog.globalNamed x.1) hx
    have hmem' : g ∈ [0, 1, 7] := by simpa using hmem
    have := List.all_eq_true.1 x_types g hmem'
    simpa using this
  obtain ⟨al, hlen, hsub, hall⟩ := laid_sents Tryd.underlying25 x_row Tryd.underlying63 Tryd.underlying65 rfl rfl Tryd.underlying9 x_cellsS x_cellsT lexNames ps hv hrows hty
  have c : ∀ i x g, lexNames[i]? = some x → Tryd.prog.globalNamed x.1 = some g → W.cell? ⟨g, 0, none⟩ = some (sentV (al.getD i ⟨0, 0, none⟩)) := fun i x g hx hg => by
    simpa using World.var?_cell hg (hall i x hx).1 0
  refine ⟨fun i => if i = 7 then al.getD 2 ⟨0, 0, none⟩ else al.getD i ⟨0, 0, none⟩, ?_, ?_, ?_⟩
  · exact c 0 _ _ rfl (by kernel_rfl)
  · exact c 1 _ _ rfl (by kernel_rfl)
  · exact c 2 _ _ rfl (by kernel_rfl)
end Go.Proofs.YtmepblacndgkjaaDoor
