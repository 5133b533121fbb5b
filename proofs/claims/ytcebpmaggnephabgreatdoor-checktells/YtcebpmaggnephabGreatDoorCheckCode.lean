/-
  Our own: plain mathematics of what is well: no error's number is above 9.
-/
import Derived.Test.YtcebpmaggnephabGreatDoorCheckWell
namespace Go.Proofs.YtcebpmaggnephabGreatDoor
open Go.RowKit

theorem callC_low (F : List Fu) (m : List UInt8) (n : Nat) : callC F m n ≤ 9 := by
  unfold callC
  split
  · omega
  · split <;> omega
theorem andC_low {c d : Nat} (h1 : c ≤ 9) (h2 : d ≤ 9) : andC c d ≤ 9 := by unfold andC; split <;> assumption
mutual
theorem exprC_low (F : List Fu) (vis : List (List UInt8)) : ∀ e : Ex, exprC F vis e ≤ 9
  | .mk k n m ks => by
    rw [exprC]
    split
    · omega
    · refine andC_low (exprsC_low F vis ks) ?_
      split
      · split <;> omega
      · split
        · exact callC_low _ _ _
        · omega
theorem exprsC_low (F : List Fu) (vis : List (List UInt8)) : ∀ l : List Ex, exprsC F vis l ≤ 9
  | [] => by rw [exprsC]; omega
  | e :: r => by rw [exprsC]; exact andC_low (exprC_low F vis e) (exprsC_low F vis r)
end
theorem declC_low {all : List (List UInt8)} {m : List UInt8} {c : Nat} (h : declC all m = .bad c) : c ≤ 9 := by
  unfold declC at h
  split at h
  · injection h with h; omega
  · split at h
    · injection h with h; omega
    · cases h
mutual
theorem stmtC_low (F : List Fu) : ∀ (s : Sm) (all vis : List (List UInt8)) (c : Nat), stmtC F all vis s = .bad c → c ≤ 9
  | .mk k m e t o, all, vis, c, h => by
    rw [stmtC] at h
    split at h
    · injection h with h; omega
    · split at h
      · injection h with h; rw [← h]; exact exprC_low _ _ _
      · split at h
        · exact declC_low h
        · split at h
          · split at h
            · cases h
            · injection h with h; omega
          · cases hb : blockC F all vis t with
            | bad c' => rw [hb] at h; injection h with h; rw [← h]; exact blockC_low F t _ _ _ hb
            | ok a => rw [hb] at h; exact blockC_low F o _ _ _ h
theorem blockC_low (F : List Fu) : ∀ (l : List Sm) (all vis : List (List UInt8)) (c : Nat), blockC F all vis l = .bad c → c ≤ 9
  | [], all, vis, c, h => by rw [blockC] at h; cases h
  | s :: r, all, vis, c, h => by
    rw [blockC_cons] at h
    cases hb : stmtC F all vis s with
    | bad c' => rw [hb] at h; injection h with h; rw [← h]; exact stmtC_low F s _ _ _ hb
    | ok a => rw [hb] at h; exact blockC_low F r _ _ _ h
end
theorem parsC_low : ∀ (l all : List (List UInt8)) (c : Nat), parsC all l = .bad c → c ≤ 9
  | [], all, c, h => by rw [parsC] at h; cases h
  | p :: r, all, c, h => by
    rw [parsC] at h
    cases hd : declC all p with
    | bad c' => rw [hd] at h; injection h with h; rw [← h]; exact declC_low hd
    | ok a => rw [hd] at h; exact parsC_low r a c h
theorem funC_low (F : List Fu) (tw : Bool) (f : Fu) : funC F tw f ≤ 9 := by
  unfold funC
  split
  · omega
  · split
    · omega
    · split
      · omega
      · cases hp : parsC [] f.params with
        | bad c => exact parsC_low _ _ _ hp
        | ok a =>
          simp only [Cs.bind_ok]
          cases hb : blockC F a a f.body with
          | bad c => exact blockC_low F _ _ _ _ hb
          | ok b => exact Nat.zero_le _
theorem funsC_low (F : List Fu) : ∀ (l ahead : List Fu) (c i : Nat), funsC F ahead l = some (c, i) → c ≤ 9
  | [], ahead, c, i, h => by rw [funsC] at h; cases h
  | f :: r, ahead, c, i, h => by
    rw [funsC] at h
    split at h
    · injection h with h; injection h with h1 h2; rw [← h1]; exact funC_low _ _ _
    · exact funsC_low F r _ c i h
end Go.Proofs.YtcebpmaggnephabGreatDoor
