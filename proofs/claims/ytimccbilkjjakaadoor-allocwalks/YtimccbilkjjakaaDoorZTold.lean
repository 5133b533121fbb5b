/- Our own: texts joined: GrFt, GrFtd, GrMany, AlFtd. -/
import Derived.Test.YtimccbilkjjakaaDoorZBase
import Derived.Test.YtimccbilkjjakaaDoorZErrAll
namespace Go.Proofs.YtimccbilkjjakaaDoor
open Go.RowKit
def FtTo (w : World) (a : Nat → Addr) (r : Nat × Int) (e : Ending) (w' : World) : Prop :=
 Below w.heap.size w w' ∧ if r.1 = 0 then e = .returned .nilIface else if r.2 = -1 then e = .returned (sentV (a (r.1 - 1))) else ∃ b, e = .returned (.iface 68 (.pointer (some ⟨b, 0, none⟩))) ∧ w.heap.size ≤ b ∧ w'.heap[b]? = some (.cells #[.int .i64 r.2, sentV (a (r.1 - 1))] 70 (0, 0))
theorem ft_well {w w' : World} {a : Nat → Addr} {r : Nat × Int} {e : Ending} (h : r.1 = 0) (hb : Below w.heap.size w w') (he : e = .returned .nilIface) : FtTo w a r e w' := ⟨hb, by rw [if_pos h]; exact he⟩
theorem ft_bare {w w' : World} {a : Nat → Addr} {r : Nat × Int} {e : Ending} (h : r.1 ≠ 0) (h2 : r.2 = -1) (hb : Below w.heap.size w w') (he : e = .returned (sentV (a (r.1 - 1)))) : FtTo w a r e w' := ⟨hb, by rw [if_neg h, if_pos h2]; exact he⟩
theorem ft_bad {w w' : World} {a : Nat → Addr} {r : Nat × Int} {e : Ending} {b : Nat} (h : r.1 ≠ 0) (h2 : r.2 ≠ -1) (hb : Below w.heap.size w w') (he : e = .returned (.iface 68 (.pointer (some ⟨b, 0, none⟩)))) (hwb : w.heap.size ≤ b) (hx : w'.heap[b]? = some (.cells #[.int .i64 r.2, sentV (a (r.1 - 1))] 70 (0, 0))) : FtTo w a r e w' :=
 ⟨hb, by rw [if_neg h, if_neg h2]; exact ⟨b, he, hwb, hx⟩⟩
set_option maxRecDepth 100000 in
set_option maxHeartbeats 2000000 in
theorem ft_val {w w' : World} {a : Nat → Addr} {r : Nat × Int} {e : Ending} (h : FtTo w a r e w') : ∃ v, e = .returned v ∧ FtTo w a r (.returned v) w' := by
 obtain ⟨h1, h2⟩ := h
 have : ∃ v, e = .returned v := by
  split at h2
  ·exact ⟨_, h2⟩
  ·split at h2
   ·exact ⟨_, h2⟩
   ·obtain ⟨b, q1, _⟩ := h2; exact ⟨_, q1⟩
 obtain ⟨v, rfl⟩ := this
 exact ⟨v, rfl, h1, h2⟩
end Go.Proofs.YtimccbilkjjakaaDoor
namespace Go.Proofs.YtimccbilkjjakaaDoor
open Go.RowKit
end Go.Proofs.YtimccbilkjjakaaDoor
namespace Go.Proofs.YtimccbilkjjakaaDoor
open Go.RowKit
set_option maxRecDepth 100000 in
theorem many_any (w : World) (a1 a2 : Option Addr) (l1 l2 c1 c2 : Nat) (t : Int) (h1 : l1 ≤ 9223372036854775807) (h2 : l2 ≤ 9223372036854775807) :
  Calls Tryd.prog 6 #[.slice a1 l1 c1, .slice a2 l2 c2, .int .i64 t] w fun e w' => w' = w ∧ (e = .returned (.int .i64 1) ∨ (e = .returned (.int .i64 0) ∧ l1 ≤ 8 ∧ l2 ≤ 30 ∧ 0 ≤ t ∧ t ≤ 60)) := by
 have h1' : (l1 : Int) ≤ 9223372036854775807 := by omega
 have h2' : (l2 : Int) ≤ 9223372036854775807 := by omega
 by_cases k1 : 8 < l1
 ·have k1' : (8 : Int) < l1 := by omega
  go_enter Tryd.func6, Tryd.ntmps6
  go_wp2
  go_ret
  exact ⟨rfl, Or.inl rfl⟩
 ·have k1' : ¬ (8 : Int) < l1 := by omega
  by_cases k2 : 30 < l2
  ·have k2' : (30 : Int) < l2 := by omega
   go_enter Tryd.func6, Tryd.ntmps6
   go_wp2
   go_ret
   exact ⟨rfl, Or.inl rfl⟩
  ·have k2' : ¬ (30 : Int) < l2 := by omega
   by_cases k3 : t < 0
   ·go_enter Tryd.func6, Tryd.ntmps6
    go_wp2
    go_ret
    exact ⟨rfl, Or.inl rfl⟩
   ·by_cases k4 : 60 < t
    ·go_enter Tryd.func6, Tryd.ntmps6
     go_wp2
     go_ret
     exact ⟨rfl, Or.inl rfl⟩
    ·go_enter Tryd.func6, Tryd.ntmps6
     go_wp2
     go_ret
     exact ⟨rfl, Or.inr ⟨rfl, by omega, by omega⟩⟩
end Go.Proofs.YtimccbilkjjakaaDoor
namespace Go.Proofs.YtimccbilkjjakaaDoor
open Go.RowKit
set_option maxRecDepth 100000 in
set_option maxHeartbeats 2000000 in
theorem faultedA_nil2 (w : World) : Calls Tryd.prog 9 #[.nilIface, .agg #[.int .i64 0, .int .i64 (-1)]] w fun e w' => e = .returned (.bool true) ∧ Below w.heap.size w w' := by
 go_enter Tryd.func9, Tryd.ntmps9
 go_wp2_with (go_at_call 20; refine (code_nil _).mono ?_; rintro e w' ⟨rfl, hh⟩; subst hh)
 go_ret
 exact ⟨rfl, (Below.refl _ _).alloc (Nat.le_refl _) _⟩
set_option maxRecDepth 100000 in
set_option maxHeartbeats 2000000 in
theorem faultedA_of2 (er : Value) (c p : Int) (hz : (c == 0) = false) (w W : World) (hW : W = w.alloc (.cells #[.int .i64 c, .int .i64 p] 34))
  (hcode : Calls Tryd.prog 20 #[er] W fun e w' => e = .returned (.tuple #[.int .i64 c, .int .i64 p]) ∧ Below W.heap.size W w') :
  Calls Tryd.prog 9 #[er, .agg #[.int .i64 c, .int .i64 p]] w fun e w' => e = .returned (.bool true) ∧ Below w.heap.size w w' := by
 have hb0 : Below w.heap.size w W := by rw [hW]; exact (Below.refl _ _).alloc (Nat.le_refl _) _
 have hsz : w.heap.size < W.heap.size := by rw [hW]; simp
 have c0 : W.cell? ⟨w.heap.size, 0, none⟩ = some (.int .i64 c) := by rw [hW]; simp
 have c1 : W.cell? ⟨w.heap.size, 1, none⟩ = some (.int .i64 p) := by rw [hW]; simp
 have HC : Hid (Calls Tryd.prog 20 #[er] W fun e w' => e = .returned (.tuple #[.int .i64 c, .int .i64 p]) ∧ Below W.heap.size W w') := hcode
 clear hcode
 go_enter Tryd.func9, Tryd.ntmps9
 go_wp2_with fail
 rw [← hW]
 refine HC.out.mono ?_
 rintro e w' ⟨rfl, hb⟩
 have d0 : w'.cell? ⟨w.heap.size, 0, none⟩ = some (.int .i64 c) := (hb.cell (p := ⟨w.heap.size, 0, none⟩) hsz).trans c0
 have d1 : w'.cell? ⟨w.heap.size, 1, none⟩ = some (.int .i64 p) := (hb.cell (p := ⟨w.heap.size, 1, none⟩) hsz).trans c1
 have HB : Hid (Below w.heap.size w w') := hb0.trans (hb.mono (by omega))
 clear hW c0 c1 hb hb0
 go_wp2
 go_ret
 exact ⟨rfl, HB.out⟩
set_option maxRecDepth 100000 in
set_option maxHeartbeats 2000000 in
theorem faultedA_str2 (s : Nat → Addr) (k : Nat) (hk : k < 10) (c : Int) (hc : c = (k : Int) + 1) (w : World) (hS : Sents w s) : Calls Tryd.prog 9 #[sentV (s k), .agg #[.int .i64 c, .int .i64 (-1)]] w fun e w' => e = .returned (.bool true) ∧ Below w.heap.size w w' := by
 have hc' : codeOf k = c := by unfold codeOf; rw [if_pos hk, hc]
 have hS2 := hS.below ((Below.refl _ _).alloc (Nat.le_refl _) (.cells #[.int .i64 c, .int .i64 (-1)] 34))
 have hcode := code_str s (s k) k (by omega) _ hS2 (hS2.row k hk) (fun i hi => hS.other k i hk (by omega) (by omega)) (fun _ => rfl)
 rw [hc'] at hcode
 exact faultedA_of2 _ c (-1) (by simp; omega) w _ rfl hcode
set_option maxRecDepth 100000 in
set_option maxHeartbeats 2000000 in
theorem faultedA_fault2 (s : Nat → Addr) (k : Nat) (hk : k < 10) (c : Int) (hc : c = (k : Int) + 1) (b : Nat) (p : Int) (w : World) (hS : Sents w s) (hb : w.heap[b]? = some (.cells #[.int .i64 p, sentV (s k)] 70 (0, 0))) :
  Calls Tryd.prog 9 #[.iface 68 (.pointer (some ⟨b, 0, none⟩)), .agg #[.int .i64 c, .int .i64 p]] w fun e w' => e = .returned (.bool true) ∧ Below w.heap.size w w' := by
 have hc' : codeOf k = c := by unfold codeOf; rw [if_pos hk, hc]
 have hb0 : Below w.heap.size w (w.alloc (.cells #[.int .i64 c, .int .i64 p] 34)) := (Below.refl _ _).alloc (Nat.le_refl _) _
 have hS2 := hS.below hb0
 have hb2 := (hb0.block b (heap_lt hb)).trans hb
 have hcode := code_fault s b 0 p (s k) k (by omega) _ hS2 (by simp [World.cell?, hb2]) (by simp [World.cell?, hb2]) (hS2.row k hk) (fun i hi => hS.other k i hk (by omega) (by omega)) (fun _ => rfl)
 rw [hc'] at hcode
 exact faultedA_of2 _ c p (by simp; omega) w _ rfl hcode
set_option maxRecDepth 100000 in
set_option maxHeartbeats 2000000 in
theorem faultedA_ft {w w' : World} {a : Nat → Addr} {r : Nat × Int} {v : Value} (h : FtTo w a r (.returned v) w') (h10 : r.1 ≤ 10) (hz : r.1 = 0 → r.2 = -1) (hS : Sents w' a) : Calls Tryd.prog 9 #[v, .agg #[.int .i64 ((r.1 : Nat) : Int), .int .i64 r.2]] w' fun e w2 => e = .returned (.bool true) ∧ Below w'.heap.size w' w2 := by
 obtain ⟨c, p⟩ := r
 obtain ⟨_, h2⟩ := h
 simp only at h2 h10 hz ⊢
 split at h2
 ·next e =>
  injection h2 with h2
  subst h2 e
  rw [hz rfl]
  exact faultedA_nil2 w'
 ·next e =>
  split at h2
  ·next e2 =>
   injection h2 with h2
   subst h2
   rw [e2]
   exact faultedA_str2 a (c - 1) (by omega) c (by omega) w' hS
  ·obtain ⟨b, q1, _, q3⟩ := h2
   injection q1 with q1
   subst q1
   exact faultedA_fault2 a (c - 1) (by omega) c (by omega) b p w' hS q3
end Go.Proofs.YtimccbilkjjakaaDoor
