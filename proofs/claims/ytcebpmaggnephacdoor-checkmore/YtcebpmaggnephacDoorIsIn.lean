/-
  Our own: IsIn of the document's own model: is a text one of a list?
-/
import Derived.Test.YtcebpmaggnephacDoorIn
namespace Go.Proofs.YtcebpmaggnephacDoor
open Go.RowKit

/-- IsIn at a list of texts that holds the text first at place k (k: the list's length: nowhere). -/
theorem r_isIn (s : ByteArray) (f : Nat → ByteArray) (n k b o c : Nat) (hn : n ≤ 1000000) (hk : k ≤ n) (w : World) (hc : ∀ i, i < n → w.cell? ⟨b, o + i, none⟩ = some (.string (f i))) (hlo : ∀ i, i < k → f i ≠ s) (hat : k < n → f k = s) :
    Calls Tryd.prog 12 #[.string s, .slice (some ⟨b, o, none⟩) n c] w fun e w' => e = .returned (.bool (decide (k < n))) ∧ w' = w := by
  have HC : Hid (∀ i, i < n → w.cell? ⟨b, o + i, none⟩ = some (.string (f i))) := hc
  have HL : Hid (∀ i, i < k → f i ≠ s) := hlo
  have HA : Hid (k < n → f k = s) := hat
  clear hc hlo hat
  go_enter Tryd.func12, Tryd.ntmps12
  go_wp2
  go_loop [5] (fun i => ∃ q : Nat, q ≤ k ∧ i = .int .i64 q) (fun i => n - (intOf i).toNat)
  case atStart => exact ⟨0, by omega, rfl⟩
  case round =>
    obtain ⟨q, hq, rfl⟩ := hrel
    by_cases hlt : q < n
    · have h1 := HC.out q hlt
      have hlt' : (q : Int) < (n : Int) := by omega
      by_cases hqk : q < k
      · have hne := bytes_ne _ _ (HL.out q hqk)
        go_wp2
        go_round
        case rel => exact ⟨q + 1, by omega, by go_num⟩
        case measure => simp [intOf]; omega
      · have hqe : q = k := by omega
        subst hqe
        have he := HA.out hlt
        rw [he] at h1
        clear he
        go_wp2
        go_ret
        exact ⟨by simp, rfl⟩
    · have hqn : q = n := by omega
      subst hqn
      have hke : k = q := by omega
      subst hke
      go_wp2
      go_ret
      exact ⟨by simp, rfl⟩
/-- IsIn at a list of texts. -/
theorem isIn_any (l : List ByteArray) (s : ByteArray) (b o c : Nat) (hn : l.length ≤ 1000000) (w : World) (hc : ∀ i, i < l.length → w.cell? ⟨b, o + i, none⟩ = some (.string (l.getD i ByteArray.empty))) :
    Calls Tryd.prog 12 #[.string s, .slice (some ⟨b, o, none⟩) l.length c] w fun e w' => e = .returned (.bool (inB l s)) ∧ w' = w := by
  obtain ⟨k, h1, h2, h3⟩ := first_at (fun i => l.getD i ByteArray.empty) s l.length
  have e : inB l s = decide (k < l.length) := by
    rw [Bool.eq_iff_iff, inB_iff, decide_eq_true_iff]
    constructor
    · intro hm
      obtain ⟨i, hi, e⟩ := List.mem_iff_getElem.1 hm
      rcases Nat.lt_or_ge k l.length with h | h
      · exact h
      · exfalso
        apply h2 i (by omega)
        show l.getD i ByteArray.empty = s
        rw [List.getD_eq_getElem?_getD, List.getElem?_eq_getElem hi]
        exact e
    · intro h
      have := h3 h
      rw [← this]
      show l.getD k ByteArray.empty ∈ l
      rw [List.getD_eq_getElem?_getD, List.getElem?_eq_getElem h]
      exact List.getElem_mem _
  rw [e]
  exact r_isIn s (fun i => l.getD i ByteArray.empty) l.length k b o c hn h1 w hc h2 h3
end Go.Proofs.YtcebpmaggnephacDoor
