/-
  Our own: IsIn of the document's own model at a list of texts; the law's own test of package check.
-/
import Derived.Test.YtcebpmaggnephacDoorCheckLists
import Derived.Test.YtcebpmaggnephacDoorCheckProg
import Derived.Test.YtcebpmaggnephacDoorFaulted
namespace Go.Proofs.YtcebpmaggnephacDoor
open Go.RowKit Go.Maps

set_option maxRecDepth 100000 in
set_option maxHeartbeats 2000000 in
/-- IsIn at a list of texts that does not hold the text. -/
theorem isIn_out (l : List (List UInt8)) (s : List UInt8) (hs : s ∉ l) (hn : l.length ≤ 5000) (w : World) (ad : Option Addr) (c : Nat) (hX : XRow (InH w) w (.slice ad l.length c) l.length (textsC l)) :
    Calls Tryd.prog 12 #[.string ⟨s.toArray⟩, .slice ad l.length c] w fun e w' => e = .returned (.bool false) ∧ w' = w := by
  have R := hidX hX
  have HS := hidX hs
  have hn' : (l.length : Int) ≤ 5000 := by omega
  clear hX hs
  go_enter Tryd.func12, Tryd.ntmps12
  go_wp2
  go_loop [5] (fun i => ∃ q : Nat, q ≤ l.length ∧ i = .int .i64 q) (fun i => l.length - (intOf i).toNat)
  case atStart => exact ⟨0, by omega, rfl⟩
  case round =>
    obtain ⟨q, hq, rfl⟩ := hrel
    by_cases hlt : q < l.length
    · have hlt' : (q : Int) < (l.length : Int) := by omega
      have hne : l[q] ≠ s := fun e => HS.out (e ▸ List.getElem_mem hlt)
      obtain ⟨g, off, rfl, hg, ht⟩ := R.out.text hlt
      generalize l[q] = x at hne ht
      have hne' := txt_ne hne
      clear hne
      go_wp2
      go_round
      case rel => exact ⟨q + 1, by omega, by go_num⟩
      case measure => simp [intOf]; omega
    · have hqn : q = l.length := by omega
      subst hqn
      go_wp2
      go_ret
      exact ⟨rfl, rfl⟩
end Go.Proofs.YtcebpmaggnephacDoor
