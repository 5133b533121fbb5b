/-
  Our own: the walk of Names: it answers true.
-/
import Derived.Test.YtpjanhljfdeidaaDoorCode
import Derived.BigQuiet
import Derived.Deep.QuietTactic
namespace Go.Proofs.YtpjanhljfdeidaaDoor
open Go.RowKit

/-- kelpforestref1.SameInts at two slices that hold the same numbers. -/
theorem sameInts_eq (f : Nat → Int) (n ba oa ca bb ob cb : Nat) (hn : n ≤ 1000000) (w : World) (ha : ∀ i, i < n → w.cell? ⟨ba, oa + i, none⟩ = some (.int .i64 (f i))) (hb : ∀ i, i < n → w.cell? ⟨bb, ob + i, none⟩ = some (.int .i64 (f i))) :
    Calls Tryd.prog 7 #[.slice (some ⟨ba, oa, none⟩) n ca, .slice (some ⟨bb, ob, none⟩) n cb] w fun e w' => e = .returned (.bool true) ∧ ∃ m, w' = w.drewN m := by
  have HA : Hid (∀ i, i < n → w.cell? ⟨ba, oa + i, none⟩ = some (.int .i64 (f i))) := ha
  have HB : Hid (∀ i, i < n → w.cell? ⟨bb, ob + i, none⟩ = some (.int .i64 (f i))) := hb
  clear ha hb
  go_enter Tryd.func7, Tryd.ntmps7
  go_wp2
  go_loopw [5] (fun i wr => ∃ q m : Nat, q ≤ n ∧ i = .int .i64 q ∧ wr = w.drewN m) (fun i _ => n - (intOf i).toNat)
  case atStart => exact ⟨0, 0, by omega, rfl, rfl⟩
  case round =>
    obtain ⟨q, m, hq, rfl, rfl⟩ := hrel
    by_cases hlt : q < n
    · have h1 := HA.out q hlt
      have h2 := HB.out q hlt
      have h1' : (w.drewN m).cell? ⟨ba, oa + q, none⟩ = some (.int .i64 (f q)) := h1
      have h2' : (w.drewN m).cell? ⟨bb, ob + q, none⟩ = some (.int .i64 (f q)) := h2
      have hlt' : (q : Int) < (n : Int) := by omega
      clear h1 h2
      generalize hW : w.drewN m = W at h1' h2'
      go_wp2
      go_quiet (fail)
      go_wp2
      go_roundw
      case rel => exact ⟨q + 1, m + nq, by omega, by go_num, by rw [← hW, World.drewN_drewN]⟩
      case measure => simp [intOf]; omega
    · have hqn : q = n := by omega
      subst hqn
      go_wp2
      go_ret
      exact ⟨rfl, m, rfl⟩

/-- kelpforestlaw1.coded at an error of errors.New's make. -/
theorem coded_str (s : Nat → Addr) (a : Addr) (k : Nat) (hk : k ≤ 10) (c : Int) (hc : c = codeOf k) (w : World) (hS : Sents w s) (hrow : ∃ c t, w.heap[a.block]? = some (.cells c t (0, 0))) (hlo : ∀ i, i < k → a ≠ s i) (hat : k < 10 → a = s k) :
    Calls Tryd.prog 9 #[sentV a, .int .i64 c] w fun e w' => e = .returned (.bool true) ∧ Below w.heap.size w w' := by
  subst hc
  have HL : Hid (∀ i, i < k → a ≠ s i) := hlo
  have HA : Hid (k < 10 → a = s k) := hat
  have HR : Hid (∃ c t, w.heap[a.block]? = some (.cells c t (0, 0))) := hrow
  clear hlo hat hrow
  go_enter Tryd.func9, Tryd.ntmps9
  go_wp2_with fail
  refine (code_str s a k hk _ hS HR.out HL.out HA.out).mono ?_
  rintro e w' ⟨rfl, hb⟩
  go_wp2
  go_ret
  exact ⟨rfl, hb⟩
/-- .. at nil. -/
theorem coded_nil (w : World) : Calls Tryd.prog 9 #[.nilIface, .int .i64 0] w fun e w' => e = .returned (.bool true) ∧ w' = w := by
  go_enter Tryd.func9, Tryd.ntmps9
  go_wp2
  go_ret
  exact ⟨rfl, rfl⟩

/-- errors.New. -/
theorem new_any (t : ByteArray) (w : World) : Calls Tryd.prog 10 #[.string t] w fun e w' => e = .returned (sentV ⟨w.heap.size, 0, none⟩) ∧ w' = w.alloc (.cells #[.string t] 52) := by
  go_enter Tryd.func10, Tryd.ntmps10
  go_wp2
  go_ret
  exact ⟨rfl, rfl⟩

/-- The world behind the two lists of 17 numbers. -/
abbrev numsC : Array Value := #[.int .i64 4000, .int .i64 1000, .int .i64 8, .int .i64 4, .int .i64 12, .int .i64 12, .int .i64 8, .int .i64 1000, .int .i64 1000, .int .i64 8, .int .i64 250, .int .i64 8000, .int .i64 40, .int .i64 5000, .int .i64 1000, .int .i64 60, .int .i64 16]
abbrev numsW (w : World) : World := (w.alloc (.cells numsC 3)).alloc (.cells numsC 3)
def nums (i : Nat) : Int := ([4000, 1000, 8, 4, 12, 12, 8, 1000, 1000, 8, 250, 8000, 40, 5000, 1000, 60, 16] : List Int).getD i 0
theorem nums_cell (w : World) (i : Nat) (hi : i < 17) : (numsW w).cell? ⟨w.heap.size, 0 + i, none⟩ = some (.int .i64 (nums i)) ∧ (numsW w).cell? ⟨w.heap.size + 1, 0 + i, none⟩ = some (.int .i64 (nums i)) := by
  have h1 : (numsW w).cell? ⟨w.heap.size, 0 + i, none⟩ = (w.alloc (.cells numsC 3)).cell? ⟨w.heap.size, 0 + i, none⟩ := World.cell?_alloc_lt _ _ _ (by simp)
  rw [h1]
  clear h1
  rcases (by omega : i = 0 ∨ i = 1 ∨ i = 2 ∨ i = 3 ∨ i = 4 ∨ i = 5 ∨ i = 6 ∨ i = 7 ∨ i = 8 ∨ i = 9 ∨ i = 10 ∨ i = 11 ∨ i = 12 ∨ i = 13 ∨ i = 14 ∨ i = 15 ∨ i = 16) with rfl | rfl | rfl | rfl | rfl | rfl | rfl | rfl | rfl | rfl | rfl | rfl | rfl | rfl | rfl | rfl | rfl
  all_goals constructor <;> simp [nums]

set_option maxRecDepth 100000 in
set_option maxHeartbeats 4000000 in
theorem names_any (s : Nat → Addr) (w : World) (hS : Sents w s) :
    Calls Tryd.prog 3 #[] w fun e w' => e = .returned (.bool true) ∧ Below w.heap.size w w' := by
  go_enter Tryd.func3, Tryd.ntmps3
  go_wp2_with fail
  refine (sameInts_eq nums 17 w.heap.size 0 17 (w.heap.size + 1) 0 17 (by omega) (numsW w) (fun i hi => (nums_cell w i hi).1) (fun i hi => (nums_cell w i hi).2)).mono ?_
  rintro e w1 ⟨rfl, m, hw1⟩
  have hb : Below w.heap.size w w1 := by
    rw [hw1]
    exact (((Below.refl _ _).alloc (Nat.le_refl _) _).alloc (by simp) _).trans ⟨rfl, rfl, rfl, Nat.le_refl _, fun _ _ => rfl⟩
  clear hw1
  have hS2 := hS.below hb
  have g0 := hS2.glob 0 (by omega)
  have g1 := hS2.glob 1 (by omega)
  have g2 := hS2.glob 2 (by omega)
  have g3 := hS2.glob 3 (by omega)
  have g4 := hS2.glob 4 (by omega)
  have g5 := hS2.glob 5 (by omega)
  have g6 := hS2.glob 6 (by omega)
  have g7 := hS2.glob 7 (by omega)
  have g8 := hS2.glob 8 (by omega)
  have g9 := hS2.glob 9 (by omega)
  simp only [gErr, List.getD_cons_zero, List.getD_cons_succ] at g0 g1 g2 g3 g4 g5 g6 g7 g8 g9
  have hb3 : Below w.heap.size w (listW w1 s) := hb.alloc (by have := hb.size; omega) _
  have HC : Hid (∀ k, k < 10 → (listW w1 s).cell? ⟨w1.heap.size, k, none⟩ = some (sentV (s k))) := list_cell w1 s
  go_wp2_with fail
  clear g0 g1 g2 g3 g4 g5 g6 g7 g8 g9
  have hsz : w1.heap.size < (listW w1 s).heap.size := by simp
  go_loopw [4] (fun i wr => ∃ q : Nat, q ≤ 10 ∧ i = .int .i64 q ∧ Below (listW w1 s).heap.size (listW w1 s) wr) (fun i _ => 10 - (intOf i).toNat)
  case atStart => exact ⟨0, by omega, rfl, Below.refl _ _⟩
  case round =>
    obtain ⟨q, hq, rfl, hbr⟩ := hrel
    have hbw : Below w.heap.size w wr := hb3.trans (hbr.mono hb3.size)
    have hSr := hS.below hbw
    by_cases hlt : q < 10
    · have hlt' : (q : Int) < 10 := by omega
      have hc : wr.cell? ⟨w1.heap.size, q, none⟩ = some (sentV (s q)) := by
        rw [hbr.cell (p := ⟨w1.heap.size, q, none⟩) hsz]; exact HC.out q hlt
      clear hsz
      go_wp2_with fail
      have hba : Below wr.heap.size wr (wr.alloc (.cells #[.int .i64 7, sentV (s q)] 31)) := (Below.refl _ _).alloc (Nat.le_refl _) _
      refine (code_fault s wr.heap.size 0 7 (s q) q (by omega) (wr.alloc (.cells #[.int .i64 7, sentV (s q)] 31)) (hSr.below hba) (by simp) (by simp) ((hSr.below hba).row q hlt) (fun i hi => hS.other q i hlt (by omega) (by omega)) (fun _ => rfl)).mono ?_
      rintro e w2 ⟨rfl, hb2⟩
      have hb2' : Below wr.heap.size wr w2 := hba.trans (hb2.mono (by simp))
      have hcode : codeOf q = (q : Int) + 1 := by simp [codeOf, hlt]
      have hc2 : w2.cell? ⟨w1.heap.size, q, none⟩ = some (sentV (s q)) := by
        rw [hb2'.cell (cell_lt hc)]; exact hc
      have hS2 := hSr.below hb2'
      clear hc hba hb2
      go_wp2_with fail
      refine (coded_str s (s q) q (by omega) _ ?_ w2 hS2 (hS2.row q hlt) (fun i hi => hS.other q i hlt (by omega) (by omega)) (fun _ => rfl)).mono ?_
      · rw [hcode]
      rintro e w3 ⟨rfl, hb3'⟩
      go_wp2
      go_roundw
      case rel => exact ⟨q + 1, by omega, by go_num, hbr.trans ((hb2'.mono hbr.size).trans (hb3'.mono (Nat.le_trans hbr.size hb2'.size)))⟩
      case measure => simp [intOf]; omega
    · have hq10 : q = 10 := by omega
      subst hq10
      clear hlt hsz
      have hba : Below wr.heap.size wr (wr.alloc (.cells #[.string ⟨#[97, 110, 111, 116, 104, 101, 114, 32, 111, 110, 101]⟩] 52)) := (Below.refl _ _).alloc (Nat.le_refl _) _
      have hSa := hSr.below hba
      have hrow : ∃ c t, (wr.alloc (.cells #[.string ⟨#[97, 110, 111, 116, 104, 101, 114, 32, 111, 110, 101]⟩] 52)).heap[(⟨wr.heap.size, 0, none⟩ : Addr).block]? = some (.cells c t (0, 0)) := ⟨_, _, (MapKept.heap_alloc wr _).1⟩
      have hne : ∀ i, i < 10 → (⟨wr.heap.size, 0, none⟩ : Addr) ≠ s i := fun i hi e => by
        obtain ⟨c, t, hr⟩ := hSr.row i hi
        have := heap_lt hr
        rw [← e] at this
        exact Nat.lt_irrefl _ this
      have hcode : codeOf 10 = -1 := rfl
      have hcs := code_str s ⟨wr.heap.size, 0, none⟩ 10 (by omega) _ hSa hrow hne (fun h => absurd h (by omega))
      rw [hcode] at hcs
      have HCS : Hid (Calls Tryd.prog 8 #[sentV ⟨wr.heap.size, 0, none⟩] (wr.alloc (.cells #[.string ⟨#[97, 110, 111, 116, 104, 101, 114, 32, 111, 110, 101]⟩] 52)) fun e w' => e = .returned (.tuple #[.int .i64 (-1), .int .i64 (-1)]) ∧ Below (wr.alloc (.cells #[.string ⟨#[97, 110, 111, 116, 104, 101, 114, 32, 111, 110, 101]⟩] 52)).heap.size (wr.alloc (.cells #[.string ⟨#[97, 110, 111, 116, 104, 101, 114, 32, 111, 110, 101]⟩] 52)) w') := hcs
      clear hcs hrow hne hcode hSa
      go_wp2_with (first | (go_at_call 10; refine (new_any _ _).mono ?_; rintro e w' ⟨rfl, hh⟩; replace hh := hh.symm; subst hh) | (go_at_call 8; refine HCS.out.mono ?_; rintro e w2 ⟨rfl, hb2⟩) | (go_at_call 9; refine (coded_nil _).mono ?_; rintro e w' ⟨rfl, hh⟩; replace hh := hh.symm; subst hh))
      go_ret
      exact ⟨rfl, hbw.trans ((hba.trans (hb2.mono (by simp))).mono hbw.size)⟩
end Go.Proofs.YtpjanhljfdeidaaDoor
