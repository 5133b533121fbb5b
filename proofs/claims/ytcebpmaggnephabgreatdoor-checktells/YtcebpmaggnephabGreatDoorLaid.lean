/-
  Our own: from the card's condition to what the walks want: the ten error variables.
-/
import Derived.Test.YtcebpmaggnephabGreatDoorLaidBase
import Derived.Test.YtcebpmaggnephabGreatDoorCode
namespace Go.Proofs.YtcebpmaggnephabGreatDoor
open Go.RowKit Go.ChangeShapes

/-- The ten errors' names and texts, in the document's order. -/
def errNames : List (String × List UInt8) := [
  ("kelpforest/api.ErrText", [107, 101, 108, 112, 102, 111, 114, 101, 115, 116, 58, 32, 116, 101, 120, 116]),
  ("kelpforest/api.ErrBound", [107, 101, 108, 112, 102, 111, 114, 101, 115, 116, 58, 32, 98, 111, 117, 110, 100]),
  ("kelpforest/api.ErrShape", [107, 101, 108, 112, 102, 111, 114, 101, 115, 116, 58, 32, 115, 104, 97, 112, 101]),
  ("kelpforest/api.ErrKind", [107, 101, 108, 112, 102, 111, 114, 101, 115, 116, 58, 32, 107, 105, 110, 100]),
  ("kelpforest/api.ErrName", [107, 101, 108, 112, 102, 111, 114, 101, 115, 116, 58, 32, 110, 97, 109, 101]),
  ("kelpforest/api.ErrNone", [107, 101, 108, 112, 102, 111, 114, 101, 115, 116, 58, 32, 110, 111, 110, 101]),
  ("kelpforest/api.ErrExist", [107, 101, 108, 112, 102, 111, 114, 101, 115, 116, 58, 32, 101, 120, 105, 115, 116]),
  ("kelpforest/api.ErrFull", [107, 101, 108, 112, 102, 111, 114, 101, 115, 116, 58, 32, 102, 117, 108, 108]),
  ("kelpforest/api.ErrArgs", [107, 101, 108, 112, 102, 111, 114, 101, 115, 116, 58, 32, 97, 114, 103, 115]),
  ("kelpforest/api.ErrDeep", [107, 101, 108, 112, 102, 111, 114, 101, 115, 116, 58, 32, 100, 101, 101, 112])]
/-- What the rows list. -/
def laidErrs : List (String × DataW Unit) := ("errors.errorType", Rows.laid_errors_errorType) :: errNames.map fun x => (x.1, .iface "*errors.errorString" (.ptr (.agg [.lit (.string x.2)])))

theorem l_row : ∀ u, Tryz.prog.typeName? 3 u = some "*errors.errorString" → u = 208 :=
  typeName_ptr_named (nm := "errors.errorString") (by kernel_rfl) (by kernel_rfl) (by decide)
theorem l_cellsS : Tryz.prog.cellsOf 210 = 1 := by kernel_rfl
theorem l_cellsT : Tryz.prog.cellsOf 9 = 1 := by kernel_rfl
theorem l_names : (errNames.all fun x => (Tryz.prog.globalNamed x.1).isSome) = true := by kernel_rfl
theorem l_globs : errNames.map (fun x => Tryz.prog.globalNamed x.1) = gErr.map some := by kernel_rfl
theorem l_types : (gErr.all fun g => (Tryz.prog.globals[g]?).map (·.type) == some 30) = true := by kernel_rfl
theorem l_et : Tryz.prog.globalNamed "errors.errorType" = some 10 := by kernel_rfl
theorem l_rt : (Tryz.prog.cutTypes.find? (·.1 == "internal/reflectlite.rtype")).map (·.2) = some 166 := by kernel_rfl
theorem l_oneRow : ((List.range 253).filter fun t => Tryz.prog.rowNamed t [101, 114, 114, 111, 114]) = [30] := by kernel_rfl
theorem l_size : Tryz.prog.types.size = 253 := by kernel_rfl

/-- What the condition gives: the ten errors, and the type of error. -/
theorem sents_of_laid {W : World} (h : laidMetH Tryz.prog laidErrs W) : ∃ s : Nat → Addr, Sents W s := by
  obtain ⟨hm, hh⟩ := laidMetH_parts (x := ("errors.errorType", Rows.laid_errors_errorType)) (r := []) (l := errNames.map fun x => (x.1, .iface "*errors.errorString" (.ptr (.agg [.lit (.string x.2)])))) h (by kernel_rfl) (by kernel_rfl)
  obtain ⟨ps, hv, hnd, hrows⟩ := hm
  have hty : ∀ x ∈ errNames, ∀ g, Tryz.prog.globalNamed x.1 = some g → (Tryz.prog.globals[g]?).map (·.type) = some 30 := by
    intro x hx g hg
    have hmem : some g ∈ gErr.map some := by
      rw [← l_globs, ← hg]
      exact List.mem_map_of_mem (f := fun x => Tryz.prog.globalNamed x.1) hx
    have hmem' : g ∈ gErr := by simpa using hmem
    have := List.all_eq_true.1 l_types g hmem'
    simpa using this
  obtain ⟨al, hlen, hsub, hall⟩ := laid_sents Tryz.underlying30 l_row Tryz.underlying208 Tryz.underlying210 rfl rfl Tryz.underlying9 l_cellsS l_cellsT errNames ps hv hrows hty
  have hl10 : al.length = 10 := hlen
  have hnd2 : ∀ i j (hi : i < al.length) (hj : j < al.length), i < j → al[i] ≠ al[j] := by
    have hp := List.pairwise_iff_getElem.1 (hsub.nodup hnd)
    intro i j hi hj hlt e
    have := hp i j (by simpa using hi) (by simpa using hj) hlt
    simp only [List.getElem_map, ne_eq] at this
    exact this (by rw [e])
  refine ⟨fun i => al.getD i ⟨0, 0, none⟩, ?_, ?_, ?_, ?_⟩
  · intro i hi
    obtain ⟨x, hx⟩ : ∃ x, errNames[i]? = some x := ⟨_, List.getElem?_eq_getElem (show i < errNames.length from hi)⟩
    have hv0 := (hall i x hx).1
    have hg : Tryz.prog.globalNamed x.1 = some (gErr.getD i 0) := by
      have e := congrArg (fun l => l[i]?) l_globs
      simp only [List.getElem?_map, hx, Option.map_some] at e
      have h10 : i < gErr.length := hi
      rw [List.getElem?_eq_getElem h10] at e
      simp only [Option.map_some, Option.some.injEq] at e
      rw [e, List.getD_eq_getElem?_getD, List.getElem?_eq_getElem h10]
      rfl
    simpa using World.var?_cell hg hv0 0
  · intro i hi
    obtain ⟨x, hx⟩ : ∃ x, errNames[i]? = some x := ⟨_, List.getElem?_eq_getElem (show i < errNames.length from hi)⟩
    exact (hall i x hx).2
  · intro i j hi hj hne e
    have hi' : i < al.length := by omega
    have hj' : j < al.length := by omega
    simp only [List.getD_eq_getElem?_getD, List.getElem?_eq_getElem hi', List.getElem?_eq_getElem hj', Option.getD_some] at e
    rcases Nat.lt_or_gt_of_ne hne with h' | h'
    · exact hnd2 i j hi' hj' h' e
    · exact hnd2 j i hj' hi' h' e.symm
  · obtain ⟨name, u, ty, e1, e2, e3, e4, e5⟩ := hh _ (List.mem_cons_self ..)
    have en : name = [101, 114, 114, 111, 114] := (Option.some.inj e1).symm
    subst en
    obtain rfl := Option.some.inj (l_rt.symm.trans e2)
    have hm : ty ∈ (List.range 253).filter fun t => Tryz.prog.rowNamed t [101, 114, 114, 111, 114] := List.mem_filter.2 ⟨List.mem_range.2 (by rw [← l_size]; exact e3), e4⟩
    rw [l_oneRow] at hm
    obtain rfl := List.mem_singleton.1 hm
    have hh : typeHandle Tryz.prog 30 = .pointer (some ⟨17, 30, none⟩) := by kernel_rfl
    rw [hh] at e5
    simpa using World.var?_cell l_et e5 0
end Go.Proofs.YtcebpmaggnephabGreatDoor
