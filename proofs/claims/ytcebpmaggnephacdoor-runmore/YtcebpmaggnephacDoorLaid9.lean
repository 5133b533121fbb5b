/-
  Our own: from the card's condition to what the walks of package run want: nine error variables.
-/
import Derived.Test.YtcebpmaggnephacDoorLaidBase
import Derived.Test.YtcebpmaggnephacDoorSent9
namespace Go.Proofs.YtcebpmaggnephacDoor
open Go.RowKit Go.ChangeShapes

/-- The nine errors' names and texts. -/
def runNames : List (String × List UInt8) := [
  ("kelpforest/api.ErrText", [107, 101, 108, 112, 102, 111, 114, 101, 115, 116, 58, 32, 116, 101, 120, 116]),
  ("kelpforest/api.ErrBound", [107, 101, 108, 112, 102, 111, 114, 101, 115, 116, 58, 32, 98, 111, 117, 110, 100]),
  ("kelpforest/api.ErrShape", [107, 101, 108, 112, 102, 111, 114, 101, 115, 116, 58, 32, 115, 104, 97, 112, 101]),
  ("kelpforest/api.ErrKind", [107, 101, 108, 112, 102, 111, 114, 101, 115, 116, 58, 32, 107, 105, 110, 100]),
  ("kelpforest/api.ErrName", [107, 101, 108, 112, 102, 111, 114, 101, 115, 116, 58, 32, 110, 97, 109, 101]),
  ("kelpforest/api.ErrNone", [107, 101, 108, 112, 102, 111, 114, 101, 115, 116, 58, 32, 110, 111, 110, 101]),
  ("kelpforest/api.ErrExist", [107, 101, 108, 112, 102, 111, 114, 101, 115, 116, 58, 32, 101, 120, 105, 115, 116]),
  ("kelpforest/api.ErrFull", [107, 101, 108, 112, 102, 111, 114, 101, 115, 116, 58, 32, 102, 117, 108, 108]),
  ("kelpforest/api.ErrArgs", [107, 101, 108, 112, 102, 111, 114, 101, 115, 116, 58, 32, 97, 114, 103, 115])]
def runErrs : List (String × DataW Unit) := runNames.map fun x => (x.1, .iface "*errors.errorString" (.ptr (.agg [.lit (.string x.2)])))
theorem x_row : ∀ u, Tryd.prog.typeName? 3 u = some "*errors.errorString" → u = 161 :=
  typeName_ptr_named (nm := "errors.errorString") (by kernel_rfl) (by kernel_rfl) (by decide)
theorem x_cellsS : Tryd.prog.cellsOf 183 = 1 := by kernel_rfl
theorem x_cellsT : Tryd.prog.cellsOf 9 = 1 := by kernel_rfl
theorem x_globs : runNames.map (fun x => Tryd.prog.globalNamed x.1) = gErr.map some := by kernel_rfl
theorem x_types : (gErr.all fun g => (Tryd.prog.globals[g]?).map (·.type) == some 28) = true := by kernel_rfl
theorem sents_of_nine {W : World} (h : laidMetH Tryd.prog runErrs W) : ∃ a : Nat → Addr, Sents W a := by
  have hm : laidMet Tryd.prog runErrs W := h
  obtain ⟨ps, hv, hnd, hrows⟩ := hm
  have hty : ∀ x ∈ runNames, ∀ g, Tryd.prog.globalNamed x.1 = some g → (Tryd.prog.globals[g]?).map (·.type) = some 28 := by
    intro x hx g hg
    have hmem : some g ∈ gErr.map some := by
      rw [← x_globs, ← hg]
      exact List.mem_map_of_mem (f := fun x => Tryd.prog.globalNamed x.1) hx
    have hmem' : g ∈ gErr := by simpa using hmem
    have := List.all_eq_true.1 x_types g hmem'
    simpa using this
  obtain ⟨al, hlen, hsub, hall⟩ := laid_sents Tryd.underlying28 x_row Tryd.underlying161 Tryd.underlying183 rfl rfl Tryd.underlying9 x_cellsS x_cellsT runNames ps hv hrows hty
  have c : ∀ i x g, runNames[i]? = some x → Tryd.prog.globalNamed x.1 = some g → W.cell? ⟨g, 0, none⟩ = some (sentV (al.getD i ⟨0, 0, none⟩)) := fun i x g hx hg => by
    simpa using World.var?_cell hg (hall i x hx).1 0
  refine ⟨fun i => al.getD i ⟨0, 0, none⟩, fun i hi => ?_, fun i hi => absurd hi (by omega), fun i j hi => absurd hi (by omega), c 0 _ _ rfl (by kernel_rfl)⟩
  have hg : (runNames.map (fun x => Tryd.prog.globalNamed x.1))[i]? = (gErr.map some)[i]? := by rw [x_globs]
  have hl : i < runNames.length := hi
  rw [List.getElem?_map, List.getElem?_map, List.getElem?_eq_getElem hl, List.getElem?_eq_getElem (show i < gErr.length from hi)] at hg
  have e : gErr.getD i 0 = gErr[i]'(show i < gErr.length from hi) := by rw [List.getD_eq_getElem?_getD, List.getElem?_eq_getElem (show i < gErr.length from hi)]; rfl
  rw [e]
  exact c i _ _ (List.getElem?_eq_getElem hl) (by simpa using hg)
end Go.Proofs.YtcebpmaggnephacDoor
