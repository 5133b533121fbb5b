/-
  Our own: an error held against the number and place of the document.
-/

import Derived.Test.YtcebpmaggnephabGreatDoorLexView
import Derived.Test.YtcebpmaggnephabGreatDoorCode
namespace Go.Proofs.YtcebpmaggnephabGreatDoor
open Go.RowKit

theorem Sents.lexG {w : World} {s : Nat → Addr} (h : Sents w s) : LexG w s := ⟨h.glob 0 (by decide), h.glob 1 (by decide), h.glob 7 (by decide)⟩
theorem faulted_nil (w : World) : Calls Tryz.prog 10 #[.nilIface, .agg #[.int .i64 0, .int .i64 (-1)]] w fun e w' => e = .returned (.bool true) ∧ Below w.heap.size w w' := by
  go_enter Tryz.func10, Tryz.ntmps10
  go_wp2_with (go_at_call 34; refine (code_nil _).mono ?_; rintro e w' ⟨rfl, hh⟩; subst hh)
  go_ret
  exact ⟨rfl, (Below.refl _ _).alloc (Nat.le_refl _) _⟩
/-- faulted at an error whose number (not 0) and place plain.Code tells. -/
theorem faulted_of (er : Value) (c p : Int) (hz : (c == 0) = false) (w W : World) (hW : W = w.alloc (.cells #[.int .i64 c, .int .i64 p] 25))
    (hcode : Calls Tryz.prog 34 #[er] W fun e w' => e = .returned (.tuple #[.int .i64 c, .int .i64 p]) ∧ Below W.heap.size W w') :
    Calls Tryz.prog 10 #[er, .agg #[.int .i64 c, .int .i64 p]] w fun e w' => e = .returned (.bool true) ∧ Below w.heap.size w w' := by
  have hb0 : Below w.heap.size w W := by rw [hW]; exact (Below.refl _ _).alloc (Nat.le_refl _) _
  have hsz : w.heap.size < W.heap.size := by rw [hW]; simp
  have c0 : W.cell? ⟨w.heap.size, 0, none⟩ = some (.int .i64 c) := by rw [hW]; simp
  have c1 : W.cell? ⟨w.heap.size, 1, none⟩ = some (.int .i64 p) := by rw [hW]; simp
  have HC : Hid (Calls Tryz.prog 34 #[er] W fun e w' => e = .returned (.tuple #[.int .i64 c, .int .i64 p]) ∧ Below W.heap.size W w') := hcode
  clear hcode
  go_enter Tryz.func10, Tryz.ntmps10
  go_wp2_with fail
  rw [← hW]
  refine HC.out.mono ?_
  rintro e w' ⟨rfl, hb⟩
  have d0 : w'.cell? ⟨w.heap.size, 0, none⟩ = some (.int .i64 c) := (hb.cell (p := ⟨w.heap.size, 0, none⟩) hsz).trans c0
  have d1 : w'.cell? ⟨w.heap.size, 1, none⟩ = some (.int .i64 p) := (hb.cell (p := ⟨w.heap.size, 1, none⟩) hsz).trans c1
  have HB : Hid (Below w.heap.size w w') := hb0.trans (hb.mono (by omega))
  clear hW c0 c1 hb hb0
  go_wp2
  go_ret
  exact ⟨rfl, HB.out⟩
theorem faulted_str (s : Nat → Addr) (k : Nat) (hk : k < 10) (c : Int) (hc : c = (k : Int) + 1) (w : World) (hS : Sents w s) : Calls Tryz.prog 10 #[sentV (s k), .agg #[.int .i64 c, .int .i64 (-1)]] w fun e w' => e = .returned (.bool true) ∧ Below w.heap.size w w' := by
  have hc' : codeOf k = c := by unfold codeOf; rw [if_pos hk, hc]
  have hS2 := hS.below ((Below.refl _ _).alloc (Nat.le_refl _) (.cells #[.int .i64 c, .int .i64 (-1)] 25))
  have hcode := code_str s (s k) k (by omega) _ hS2 (hS2.row k hk) (fun i hi => hS.other k i hk (by omega) (by omega)) (fun _ => rfl)
  rw [hc'] at hcode
  exact faulted_of _ c (-1) (by simp; omega) w _ rfl hcode
theorem faulted_fault (s : Nat → Addr) (k : Nat) (hk : k < 10) (c : Int) (hc : c = (k : Int) + 1) (b : Nat) (p : Int) (w : World) (hS : Sents w s) (hb : w.heap[b]? = some (.cells #[.int .i64 p, sentV (s k)] 95 (0, 0))) :
    Calls Tryz.prog 10 #[.iface 93 (.pointer (some ⟨b, 0, none⟩)), .agg #[.int .i64 c, .int .i64 p]] w fun e w' => e = .returned (.bool true) ∧ Below w.heap.size w w' := by
  have hc' : codeOf k = c := by unfold codeOf; rw [if_pos hk, hc]
  have hb0 : Below w.heap.size w (w.alloc (.cells #[.int .i64 c, .int .i64 p] 25)) := (Below.refl _ _).alloc (Nat.le_refl _) _
  have hS2 := hS.below hb0
  have hb2 := (hb0.block b (heap_lt hb)).trans hb
  have hcode := code_fault s b 0 p (s k) k (by omega) _ hS2 (by simp [World.cell?, hb2]) (by simp [World.cell?, hb2]) (hS2.row k hk) (fun i hi => hS.other k i hk (by omega) (by omega)) (fun _ => rfl)
  rw [hc'] at hcode
  exact faulted_of _ c p (by simp; omega) w _ rfl hcode
end Go.Proofs.YtcebpmaggnephabGreatDoor
