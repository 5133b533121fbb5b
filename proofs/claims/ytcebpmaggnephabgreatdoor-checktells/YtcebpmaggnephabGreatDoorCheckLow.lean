/-
  Our own: plain mathematics: trees that are not too large for a statement.
-/
import Derived.Test.YtcebpmaggnephabGreatDoorTreeMath
namespace Go.Proofs.YtcebpmaggnephabGreatDoor
open Go.RowKit

mutual
def LowE : Ex → Prop
  | .mk _ _ m ks => m.length ≤ 20 ∧ ks.length ≤ 8 ∧ LowEs ks
def LowEs : List Ex → Prop
  | [] => True
  | e :: r => LowE e ∧ LowEs r
end
mutual
def LowS : Sm → Prop
  | .mk k n e t o => k.length ≤ 20 ∧ n.length ≤ 20 ∧ LowE e ∧ t.length ≤ 30 ∧ LowSs t ∧ o.length ≤ 30 ∧ LowSs o
def LowSs : List Sm → Prop
  | [] => True
  | e :: r => LowS e ∧ LowSs r
end
def LowF (f : Fu) : Prop := f.name.length ≤ 20 ∧ f.params.length ≤ 8 ∧ (∀ p ∈ f.params, p.length ≤ 20) ∧ f.body.length ≤ 30 ∧ LowSs f.body
mutual
def nodesE : Ex → Nat
  | .mk _ _ _ ks => 1 + nodesEs ks
def nodesEs : List Ex → Nat
  | [] => 0
  | e :: r => nodesE e + nodesEs r
end
mutual
def nodesM : Sm → Nat
  | .mk _ _ e t o => 1 + nodesE e + nodesS t + nodesS o
def nodesS : List Sm → Nat
  | [] => 0
  | e :: r => nodesM e + nodesS r
end
theorem LowEs.snoc : ∀ {l : List Ex} {e : Ex}, LowEs l → LowE e → LowEs (l ++ [e])
  | [], _, _, h => ⟨h, trivial⟩
  | _ :: _, _, ⟨h1, h2⟩, h => ⟨h1, LowEs.snoc h2 h⟩
theorem LowSs.snoc : ∀ {l : List Sm} {e : Sm}, LowSs l → LowS e → LowSs (l ++ [e])
  | [], _, _, h => ⟨h, trivial⟩
  | _ :: _, _, ⟨h1, h2⟩, h => ⟨h1, LowSs.snoc h2 h⟩
theorem LowEs.mem : ∀ {l : List Ex}, LowEs l → ∀ e ∈ l, LowE e
  | [], _, _, h => absurd h (by simp)
  | _ :: _, ⟨h1, h2⟩, x, hx => by
    rcases List.mem_cons.1 hx with rfl | hx
    · exact h1
    · exact h2.mem x hx
theorem LowSs.mem : ∀ {l : List Sm}, LowSs l → ∀ e ∈ l, LowS e
  | [], _, _, h => absurd h (by simp)
  | _ :: _, ⟨h1, h2⟩, x, hx => by
    rcases List.mem_cons.1 hx with rfl | hx
    · exact h1
    · exact h2.mem x hx
theorem nodesEs_snoc : ∀ (l : List Ex) (e : Ex), nodesEs (l ++ [e]) = nodesEs l + nodesE e
  | [], e => by simp [nodesEs]
  | x :: r, e => by rw [List.cons_append, nodesEs, nodesEs, nodesEs_snoc r e]; omega
theorem nodesS_snoc : ∀ (l : List Sm) (e : Sm), nodesS (l ++ [e]) = nodesS l + nodesM e
  | [], e => by simp [nodesS]
  | x :: r, e => by rw [List.cons_append, nodesS, nodesS, nodesS_snoc r e]; omega
/-- How many nodes functions have. -/
def nodesF (l : List Fu) : Nat := (l.map fun f => nodesS f.body).sum
theorem nodesF_snoc (l : List Fu) (f : Fu) : nodesF (l ++ [f]) = nodesF l + nodesS f.body := by simp [nodesF]
theorem nodesF_mem {l : List Fu} {f : Fu} (h : f ∈ l) : nodesS f.body ≤ nodesF l := by
  induction l with
  | nil => cases h
  | cons x r ih =>
    unfold nodesF at ih ⊢
    rw [List.map_cons, List.sum_cons]
    rcases List.mem_cons.1 h with rfl | h
    · omega
    · have := ih h; omega
end Go.Proofs.YtcebpmaggnephabGreatDoor
