/-
  Our own: small facts on texts, on worlds that only draw, and on contracts.
-/
import Derived.Test.YtgcmegbfhhebpaaDoorProg
import Derived.WalkKit
import Derived.BigQuiet
import Derived.Deep.QuietTactic
namespace Go.Proofs.YtgcmegbfhhebpaaDoor
open Go.RowKit

theorem byteArray_toList (a : Array UInt8) : (⟨a⟩ : ByteArray).toList = a.toList := by
  rw [ByteArray.toList_eq]
theorem first_at (f : Nat → ByteArray) (s : ByteArray) : ∀ n : Nat, ∃ k, k ≤ n ∧ (∀ i, i < k → f i ≠ s) ∧ (k < n → f k = s)
  | 0 => ⟨0, Nat.le_refl _, fun i h => absurd h (by omega), fun h => absurd h (by omega)⟩
  | n + 1 => by
    obtain ⟨k, h1, h2, h3⟩ := first_at f s n
    by_cases hk : k < n
    · exact ⟨k, by omega, h2, fun _ => h3 hk⟩
    · have hkn : k = n := by omega
      subst hkn
      by_cases e : f k = s
      · exact ⟨k, by omega, h2, fun _ => e⟩
      · refine ⟨k + 1, Nat.le_refl _, fun i hi => ?_, fun h => absurd h (by omega)⟩
        by_cases hik : i < k
        · exact h2 i hik
        · have : i = k := by omega
          rw [this]; exact e
theorem bytes_ne (s t : ByteArray) (h : s ≠ t) : (s.toList == t.toList) = false := by
  have : s.toList ≠ t.toList := fun e => h (by
    cases s; cases t
    rw [byteArray_toList, byteArray_toList] at e
    congr 1
    exact Array.toList_inj.1 e)
  simpa using this
/-- Is a text one of these? -/
def inB (l : List ByteArray) (s : ByteArray) : Bool := l.any fun x => x.toList == s.toList
theorem bytes_eq {s t : ByteArray} (h : s.toList = t.toList) : s = t := by
  cases s; cases t
  rw [byteArray_toList, byteArray_toList] at h
  congr 1
  exact Array.toList_inj.1 h
theorem inB_iff (l : List ByteArray) (s : ByteArray) : inB l s = true ↔ s ∈ l := by
  unfold inB
  rw [List.any_eq_true]
  constructor
  · rintro ⟨x, hx, e⟩
    have := bytes_eq (beq_iff_eq.1 e)
    exact this ▸ hx
  · intro h
    exact ⟨s, h, by simp⟩
theorem drewN_below (w : World) (m : Nat) : Below w.heap.size w (w.drewN m) := ⟨rfl, rfl, rfl, Nat.le_refl _, fun _ _ => rfl⟩
theorem lit_ne {s : ByteArray} {l : List UInt8} (h : s ≠ ⟨l.toArray⟩) : (s.toList == l) = false := by
  have := bytes_ne s ⟨l.toArray⟩ h
  rwa [byteArray_toList l.toArray] at this
theorem of_same {f : FuncId} {args : Array Value} {w : World} {v : Value} (h : Calls Tryd.prog f args w fun e w' => e = .returned v ∧ w' = w) : Calls Tryd.prog f args w fun e w' => e = .returned v ∧ Below w.heap.size w w' :=
  h.mono fun _ _ ⟨he, hw⟩ => ⟨he, hw ▸ Below.refl _ _⟩
theorem of_drew {f : FuncId} {args : Array Value} {w : World} {v : Value} (h : Calls Tryd.prog f args w fun e w' => e = .returned v ∧ ∃ m, w' = w.drewN m) : Calls Tryd.prog f args w fun e w' => e = .returned v ∧ Below w.heap.size w w' :=
  h.mono fun _ _ ⟨he, _, hw⟩ => ⟨he, hw ▸ drewN_below _ _⟩
/-- A sentinel's value, by its address. -/
abbrev sentV (a : Addr) : Value := .iface 64 (.pointer (some a))
theorem cell_lt {w : World} {a : Addr} {v : Value} (h : w.cell? a = some v) : a.block < w.heap.size := by
  rcases Nat.lt_or_ge a.block w.heap.size with h' | h'
  · exact h'
  · simp [World.cell?, Array.getElem?_eq_none h'] at h
theorem heap_lt {w : World} {b : Nat} {o : Obj} (h : w.heap[b]? = some o) : b < w.heap.size := by
  rcases Nat.lt_or_ge b w.heap.size with h' | h'
  · exact h'
  · simp [Array.getElem?_eq_none h'] at h
end Go.Proofs.YtgcmegbfhhebpaaDoor
