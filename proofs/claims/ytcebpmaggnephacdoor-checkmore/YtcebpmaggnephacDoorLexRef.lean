/-
  Our own: the document's own reading of a text (package kelpforestref1), its small functions.
-/
import Derived.Test.YtcebpmaggnephacDoorLexRead
import Derived.Test.YtcebpmaggnephacDoorIsIn
namespace Go.Proofs.YtcebpmaggnephacDoor
open Go.RowKit

theorem rletter_any (b : UInt8) (w : World) : Calls Tryd.prog 26 #[.int .u8 b.toNat] w fun e w' => e = .returned (.bool (isL b)) ∧ w' = w := by
  go_enter Tryd.func26, Tryd.ntmps26
  go_wp2
  all_goals (go_ret; exact ⟨ret_bool (by rw [Bool.eq_iff_iff]; simp [isL]; omega), rfl⟩)
theorem rdigit_any (b : UInt8) (w : World) : Calls Tryd.prog 27 #[.int .u8 b.toNat] w fun e w' => e = .returned (.bool (isD b)) ∧ w' = w := by
  go_enter Tryd.func27, Tryd.ntmps27
  go_wp2
  all_goals (go_ret; exact ⟨ret_bool (by rw [Bool.eq_iff_iff]; simp [isD]; omega), rfl⟩)
def baL (l : List (List UInt8)) : List ByteArray := l.map fun x => ⟨x.toArray⟩
/-- Is a text one of these? (A name for the walk.) -/
def inL (l : List (List UInt8)) (t : List UInt8) : Bool := l.contains t
theorem inL_iff (l : List (List UInt8)) (t : List UInt8) : inL l t = true ↔ t ∈ l := by unfold inL; exact List.contains_iff_mem
theorem inB_baL (l : List (List UInt8)) (t : List UInt8) : inB (baL l) ⟨t.toArray⟩ = inL l t := by
  rw [Bool.eq_iff_iff, inB_iff, inL_iff]
  constructor
  · intro h
    obtain ⟨x, hx, e⟩ := List.mem_map.1 h
    have : x = t := by
      have := congrArg (fun b : ByteArray => b.data.toList) e
      simpa using this
    exact this ▸ hx
  · intro h
    exact List.mem_map.2 ⟨t, h, rfl⟩
/-- Cells that hold texts. -/
abbrev textW (w : World) (l : List (List UInt8)) : World := w.alloc (.cells ((baL l).map Value.string).toArray 9)
theorem text_cell (w : World) (l : List (List UInt8)) (i : Nat) (hi : i < (baL l).length) : (textW w l).cell? ⟨w.heap.size, 0 + i, none⟩ = some (.string ((baL l).getD i ByteArray.empty)) := by
  rw [World.cell?_alloc_at _ _ _ _ rfl, Nat.zero_add, List.getElem?_toArray, List.getElem?_map, List.getD_eq_getElem?_getD, List.getElem?_eq_getElem hi]
  rfl
theorem isIn_texts (l : List (List UInt8)) (hl : l.length ≤ 1000) (t : List UInt8) (c : Nat) (w : World) :
    Calls Tryd.prog 12 #[.string ⟨t.toArray⟩, .slice (some ⟨w.heap.size, 0, none⟩) l.length c] (textW w l) fun e w' => e = .returned (.bool (inL l t)) ∧ w' = textW w l := by
  have := isIn_any (baL l) ⟨t.toArray⟩ w.heap.size 0 c (by simp [baL]; omega) (textW w l) (fun i hi => text_cell w l i hi)
  rw [inB_baL] at this
  simpa [baL] using this
theorem isWord_any (t : List UInt8) (w : World) : Calls Tryd.prog 28 #[.string ⟨t.toArray⟩] w fun e w' => e = .returned (.bool (inL wordsL t)) ∧ w' = textW w wordsL := by
  go_enter Tryd.func28, Tryd.ntmps28
  go_wp2_with (go_at_call 12; refine (isIn_texts wordsL (by decide) t _ _).mono ?_; rintro e w' ⟨rfl, rfl⟩)
  go_ret
  exact ⟨rfl, rfl⟩
end Go.Proofs.YtcebpmaggnephacDoor
