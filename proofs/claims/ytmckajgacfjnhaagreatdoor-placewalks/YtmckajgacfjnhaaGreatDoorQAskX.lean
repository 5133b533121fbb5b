/- Our own: texts joined: AskX. -/
import Derived.Test.YtmckajgacfjnhaaGreatDoorQBase
namespace Go.Proofs.YtmckajgacfjnhaaGreatDoor
open Go.RowKit
def askX (res : Nat → Option Int) : List Nat → Option (List Int)
 | [] => some []
 | i :: r => match res i, askX res r with
  | some v, some l => some (v :: l)
  | _, _ => none
theorem askX_at {res : Nat → Option Int} : ∀ {l : List Nat} {vs : List Int}, askX res l = some vs → vs.length = l.length ∧ ∀ k (hk : k < l.length) (hk' : k < vs.length), res l[k] = some vs[k]
 | [], vs, h => by
  have : vs = [] := by simpa [askX] using h.symm
  subst this; exact ⟨rfl, fun k hk => absurd hk (by simp)⟩
 | i :: r, vs, h => by
  unfold askX at h
  split at h
  ·next v l h1 h2 =>
   injection h with h
   subst h
   obtain ⟨e1, e2⟩ := askX_at h2
   refine ⟨by simp [e1], fun k hk hk' => ?_⟩
   cases k with
   | zero => exact h1
   | succ k => exact e2 k (by simpa using hk) (by simpa using hk')
  ·cases h
theorem askX_none {res : Nat → Option Int} : ∀ {l : List Nat} {k : Nat} (hk : k < l.length), res l[k] = none → askX res l = none
 | [], _, hk, _ => absurd hk (by simp)
 | i :: r, 0, _, h => by unfold askX; rw [show res i = none from h]
 | i :: r, k + 1, hk, h => by
  have := askX_none (l := r) (k := k) (by simpa using hk) h
  unfold askX
  rw [this]
  split
  ·next h2 => cases h2
  ·rfl
def natL (l : List Int) : List Nat := l.map Int.toNat
theorem mem_natL {l : List Int} (h : ∀ x ∈ l, 0 ≤ x) (y : Nat) : y ∈ natL l ↔ (y : Int) ∈ l := by
 unfold natL
 rw [List.mem_map]
 constructor
 ·rintro ⟨x, hx, rfl⟩
  rw [Int.toNat_of_nonneg (h x hx)]; exact hx
 ·intro hy; exact ⟨_, hy, by simp⟩
theorem askX_snoc {res : Nat → Option Int} : ∀ {l : List Nat} {vs : List Int} {i : Nat} {v : Int}, askX res l = some vs → res i = some v → askX res (l ++ [i]) = some (vs ++ [v])
 | [], vs, i, v, h, hv => by
  have : vs = [] := by simpa [askX] using h.symm
  subst this
  simp [askX, hv]
 | j :: l, vs, i, v, h, hv => by
  unfold askX at h
  split at h
  ·next a b h1 h2 =>
   injection h with h
   subst h
   have := askX_snoc (l := l) h2 hv
   show askX res (j :: (l ++ [i])) = _
   unfold askX
   rw [h1, this]
   rfl
  ·cases h
theorem askX_mem_none {res : Nat → Option Int} {l : List Nat} {i : Nat} (hi : i ∈ l) (h : res i = none) : askX res l = none := by
 obtain ⟨k, hk, rfl⟩ := List.mem_iff_getElem.1 hi
 exact askX_none hk h
end Go.Proofs.YtmckajgacfjnhaaGreatDoor
