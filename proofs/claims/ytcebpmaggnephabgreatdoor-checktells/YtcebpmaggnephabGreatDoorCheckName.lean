/-
  Our own: plain mathematics of what is well: a text that is read as one name.
-/
import Derived.Test.YtcebpmaggnephabGreatDoorCheckMath
namespace Go.Proofs.YtcebpmaggnephabGreatDoor
open Go.RowKit

theorem Scan.pos {p : Nat} {l : List UInt8} {ts : List Tok} {e : Option Nat} (h : Scan p l ts e) : ∀ t ∈ ts, p ≤ t.pos := by
  induction h with
  | nil => intro t h; cases h
  | blank _ _ ih => intro t h; have := ih t h; omega
  | bad => intro t h; cases h
  | tok _ _ _ ih =>
    intro t h
    rcases List.mem_cons.1 h with rfl | h
    · exact Nat.le_refl _
    · have := ih t h; omega
theorem nameB_iff (s : List UInt8) : nameB s = true ↔ s ≠ [] ∧ firstOf s = (kName, s.length) := by unfold nameB; simp
theorem kind_name {c : UInt8} {r : List UInt8} (h : (firstOf (c :: r)).1 = kName) : isL c = true := by
  cases hL : isL c with
  | true => rfl
  | false =>
    exfalso
    simp only [firstOf, hL] at h
    by_cases hD : isD c = true
    · simp [hD] at h; revert h; decide
    · simp [hD] at h; revert h; decide
theorem isL_blank {c : UInt8} (h : isL c = true) : isB c = false := by
  unfold isL at h; unfold isB
  simp only [decide_eq_true_eq] at h
  simp only [decide_eq_false_iff_not]
  omega
theorem scan_name {s : List UInt8} {ts : List Tok} {er : Option Nat} (h : Scan 0 s ts er) : (er = none ∧ ts = [⟨kName, s, 0⟩]) ↔ nameB s = true := by
  rw [nameB_iff]
  constructor
  · rintro ⟨rfl, hts⟩
    have key : ∀ (p : Nat) (l : List UInt8) (us : List Tok) (e : Option Nat), Scan p l us e → us = [⟨kName, l, p⟩] → l ≠ [] ∧ firstOf l = (kName, l.length) := by
      intro p l us e h
      cases h with
      | nil => intro h; cases h
      | blank _ h2 =>
        intro h
        subst h
        have := h2.pos _ (List.mem_singleton.2 rfl)
        simp only at this
        omega
      | bad => intro h; cases h
      | @tok _ c r _ _ hb h0 h2 =>
        intro h
        injection h with h3 h4
        injection h3 with h5 h6 h7
        have hle := firstOf_le (c :: r)
        have hl := congrArg List.length h6
        rw [List.length_take, Nat.min_eq_left hle] at hl
        exact ⟨by simp, Prod.ext h5 hl⟩
    exact key 0 s ts none h hts
  · rintro ⟨h1, h2⟩
    match s, h1 with
    | c :: r, _ =>
      have hL := kind_name (c := c) (r := r) (by rw [h2])
      have := Scan.tokAt (p := 0) (n := (c :: r).length) (k := kName) (c := c) (r := r) (l := c :: r) (ts := []) (e := none) rfl (isL_blank hL) h2 (by simp) (by rw [List.drop_length]; exact .nil _)
      rw [List.take_length] at this
      obtain ⟨rfl, rfl⟩ := h.det this
      exact ⟨rfl, rfl⟩
end Go.Proofs.YtcebpmaggnephabGreatDoor
