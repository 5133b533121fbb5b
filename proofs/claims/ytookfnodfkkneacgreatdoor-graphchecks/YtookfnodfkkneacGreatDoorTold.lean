/-
  Our own: texts joined: GrTold, GrMany.
-/
import Derived.Test.YtookfnodfkkneacGreatDoorBase
import Derived.Test.YtookfnodfkkneacGreatDoorErrAll
import Derived.Test.YtookfnodfkkneacGreatDoorNewAll

/-
  Our own: an error held against the number and place of the document.
-/

namespace Go.Proofs.YtookfnodfkkneacGreatDoor
open Go.RowKit

theorem faulted_nil2 (w : World) : Calls Tryz.prog 18 #[.nilIface, .agg #[.int .i64 0, .int .i64 (-1)]] w fun e w' => e = .returned (.bool true) ∧ Below w.heap.size w w' := by
  go_enter Tryz.func18, Tryz.ntmps18
  go_wp2_with (go_at_call 29; refine (code_nil _).mono ?_; rintro e w' ⟨rfl, hh⟩; subst hh)
  go_ret
  exact ⟨rfl, (Below.refl _ _).alloc (Nat.le_refl _) _⟩
/-- faulted at an error whose number (not 0) and place plain.Code tells. -/
theorem faulted_of2 (er : Value) (c p : Int) (hz : (c == 0) = false) (w W : World) (hW : W = w.alloc (.cells #[.int .i64 c, .int .i64 p] 35))
    (hcode : Calls Tryz.prog 29 #[er] W fun e w' => e = .returned (.tuple #[.int .i64 c, .int .i64 p]) ∧ Below W.heap.size W w') :
    Calls Tryz.prog 18 #[er, .agg #[.int .i64 c, .int .i64 p]] w fun e w' => e = .returned (.bool true) ∧ Below w.heap.size w w' := by
  have hb0 : Below w.heap.size w W := by rw [hW]; exact (Below.refl _ _).alloc (Nat.le_refl _) _
  have hsz : w.heap.size < W.heap.size := by rw [hW]; simp
  have c0 : W.cell? ⟨w.heap.size, 0, none⟩ = some (.int .i64 c) := by rw [hW]; simp
  have c1 : W.cell? ⟨w.heap.size, 1, none⟩ = some (.int .i64 p) := by rw [hW]; simp
  have HC : Hid (Calls Tryz.prog 29 #[er] W fun e w' => e = .returned (.tuple #[.int .i64 c, .int .i64 p]) ∧ Below W.heap.size W w') := hcode
  clear hcode
  go_enter Tryz.func18, Tryz.ntmps18
  go_wp2_with fail
  rw [← hW]
  refine HC.out.mono ?_
  rintro e w' ⟨rfl, hb⟩
  have d0 : w'.cell? ⟨w.heap.size, 0, none⟩ = some (.int .i64 c) := (hb.cell (p := ⟨w.heap.size, 0, none⟩) hsz).trans c0
  have d1 : w'.cell? ⟨w.heap.size, 1, none⟩ = some (.int .i64 p) := (hb.cell (p := ⟨w.heap.size, 1, none⟩) hsz).trans c1
  have HB : Hid (Below w.heap.size w w') := hb0.trans (hb.mono (by omega))
  clear hW c0 c1 hb hb0
  go_wp2
  go_ret
  exact ⟨rfl, HB.out⟩
theorem faulted_str2 (s : Nat → Addr) (k : Nat) (hk : k < 10) (c : Int) (hc : c = (k : Int) + 1) (w : World) (hS : Sents w s) : Calls Tryz.prog 18 #[sentV (s k), .agg #[.int .i64 c, .int .i64 (-1)]] w fun e w' => e = .returned (.bool true) ∧ Below w.heap.size w w' := by
  have hc' : codeOf k = c := by unfold codeOf; rw [if_pos hk, hc]
  have hS2 := hS.below ((Below.refl _ _).alloc (Nat.le_refl _) (.cells #[.int .i64 c, .int .i64 (-1)] 35))
  have hcode := code_str s (s k) k (by omega) _ hS2 (hS2.row k hk) (fun i hi => hS.other k i hk (by omega) (by omega)) (fun _ => rfl)
  rw [hc'] at hcode
  exact faulted_of2 _ c (-1) (by simp; omega) w _ rfl hcode
theorem faulted_fault2 (s : Nat → Addr) (k : Nat) (hk : k < 10) (c : Int) (hc : c = (k : Int) + 1) (b : Nat) (p : Int) (w : World) (hS : Sents w s) (hb : w.heap[b]? = some (.cells #[.int .i64 p, sentV (s k)] 128 (0, 0))) :
    Calls Tryz.prog 18 #[.iface 126 (.pointer (some ⟨b, 0, none⟩)), .agg #[.int .i64 c, .int .i64 p]] w fun e w' => e = .returned (.bool true) ∧ Below w.heap.size w w' := by
  have hc' : codeOf k = c := by unfold codeOf; rw [if_pos hk, hc]
  have hb0 : Below w.heap.size w (w.alloc (.cells #[.int .i64 c, .int .i64 p] 35)) := (Below.refl _ _).alloc (Nat.le_refl _) _
  have hS2 := hS.below hb0
  have hb2 := (hb0.block b (heap_lt hb)).trans hb
  have hcode := code_fault s b 0 p (s k) k (by omega) _ hS2 (by simp [World.cell?, hb2]) (by simp [World.cell?, hb2]) (hS2.row k hk) (fun i hi => hS.other k i hk (by omega) (by omega)) (fun _ => rfl)
  rw [hc'] at hcode
  exact faulted_of2 _ c p (by simp; omega) w _ rfl hcode
theorem first_code {f : Nat → Nat} (h : ∀ i, f i ≤ 10) : ∀ (m i : Nat), (firstC f m i).1 ≤ 10 ∧ ((firstC f m i).1 = 0 → (firstC f m i).2 = -1)
  | 0, _ => ⟨by simp [firstC], fun _ => rfl⟩
  | m + 1, i => by
    unfold firstC
    by_cases e : f i = 0
    · rw [if_pos e]; exact first_code h m (i + 1)
    · rw [if_neg e]; exact ⟨h i, fun e' => absurd e' e⟩
/-- A fault's number is one of the document's; where there is none there is no place. -/
theorem fault_code (P : Int) (L : List Nd) : (faultG onesE twosE P L).1 ≤ 10 ∧ ((faultG onesE twosE P L).1 = 0 → (faultG onesE twosE P L).2 = -1) := by
  unfold faultG faultW
  split
  · exact ⟨by decide, fun h => absurd h (by decide)⟩
  · split
    · exact ⟨by decide, fun h => absurd h (by decide)⟩
    · split
      · exact ⟨by decide, fun h => absurd h (by decide)⟩
      · have h1 := first_code (f := nodeC onesE twosE P L) (fun i => by
          unfold nodeC
          simp only
          repeat' split
          all_goals decide) L.length 0
        have h2 := first_code (f := tkC L) (fun i => by
          unfold tkC
          simp only
          split <;> decide) L.length 0
        have h3 := first_code (f := hangC L) (fun i => by
          unfold hangC
          split <;> decide) L.length 0
        unfold firstOf2
        split
        · split
          · exact h3
          · exact h2
        · exact h1
/-- An error of Check, held against the document's fault. -/
theorem faulted_ft {w w' : World} {a : Nat → Addr} {r : Nat × Int} {v : Value} (h : FtTo w a r (.returned v) w') (h10 : r.1 ≤ 10) (hz : r.1 = 0 → r.2 = -1) (hS : Sents w' a) : Calls Tryz.prog 18 #[v, .agg #[.int .i64 ((r.1 : Nat) : Int), .int .i64 r.2]] w' fun e w2 => e = .returned (.bool true) ∧ Below w'.heap.size w' w2 := by
  obtain ⟨c, p⟩ := r
  obtain ⟨_, h2⟩ := h
  simp only at h2 h10 hz ⊢
  split at h2
  · next e =>
    injection h2 with h2
    subst h2 e
    rw [hz rfl]
    exact faulted_nil2 w'
  · next e =>
    split at h2
    · next e2 =>
      injection h2 with h2
      subst h2
      rw [e2]
      exact faulted_str2 a (c - 1) (by omega) c (by omega) w' hS
    · obtain ⟨b, q1, _, q3⟩ := h2
      injection q1 with q1
      subst q1
      exact faulted_fault2 a (c - 1) (by omega) c (by omega) b p w' hS q3
end Go.Proofs.YtookfnodfkkneacGreatDoor

/-
  Our own: numbers that are too many for a statement; no error at all.
-/
namespace Go.Proofs.YtookfnodfkkneacGreatDoor
open Go.RowKit

theorem codedL_nil (w : World) : Calls Tryz.prog 33 #[.nilIface, .int .i64 0] w fun e w' => e = .returned (.bool true) ∧ w' = w := by
  go_enter Tryz.func33, Tryz.ntmps33
  go_wp2_with (go_at_call 29; refine (code_nil _).mono ?_; rintro e w' ⟨rfl, hh⟩; subst hh)
  go_ret
  exact ⟨rfl, rfl⟩
end Go.Proofs.YtookfnodfkkneacGreatDoor
