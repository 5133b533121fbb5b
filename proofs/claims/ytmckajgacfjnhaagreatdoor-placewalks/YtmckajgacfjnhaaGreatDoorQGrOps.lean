/- Our own: texts joined: GrOps. -/
import Derived.Test.YtmckajgacfjnhaaGreatDoorQGrRep
import Derived.Test.YtmckajgacfjnhaaGreatDoorQValAll
import Derived.Test.YtmckajgacfjnhaaGreatDoorQBase
namespace Go.Proofs.YtmckajgacfjnhaaGreatDoor
open Go.RowKit
def oneV (m : List UInt8) (a : Int) : Int := if m = [45] then wrap64 (-a) else vBit (a = 0)
def twoV (m : List UInt8) (a b : Int) : Int := vOp ⟨m.toArray⟩ a b
theorem one_val (m : List UInt8) (hm : m ∈ onesE) (a : Int) (w : World) : Calls Tryz.prog 81 #[.string ⟨m.toArray⟩, .int .i64 a] w fun e w' => e = .returned (.tuple #[.int .i64 (oneV m a), .nilIface]) ∧ w' = w := by
 have : m = [45] ∨ m = [33] := by simpa [onesE] using hm
 rcases this with rfl | rfl
 ·exact one_neg a w
 ·exact one_not a w
theorem two_val (m : List UInt8) (hm : m ∈ twosE) (a b : Int) (w : World) : Calls Tryz.prog 82 #[.string ⟨m.toArray⟩, .int .i64 a, .int .i64 b] w fun e w' => e = .returned (.tuple #[.int .i64 (twoV m a b), .nilIface]) ∧ w' = w := by
 refine do_any ⟨m.toArray⟩ ?_ a b w
 simp only [twosE, List.mem_cons, List.not_mem_nil, or_false] at hm
 rcases hm with rfl | rfl | rfl | rfl | rfl | rfl | rfl | rfl | rfl | rfl | rfl | rfl | rfl | rfl <;> simp [opsTwo]
def sumV (k m : List UInt8) (vs : List Int) : Int := if k = gOne then oneV m (vs.getD 0 0) else twoV m (vs.getD 0 0) (vs.getD 1 0)
set_option maxRecDepth 100000 in
set_option maxHeartbeats 2000000 in
theorem reckonF_any (k m : List UInt8) (vs : List Int) {A : Nat → Prop} {X : World} {v : Value} (hr : XRow A X v vs.length (intsG vs)) (hk : (k = gOne ∧ vs.length = 1 ∧ m ∈ onesE) ∨ (k = gTwo ∧ vs.length = 2 ∧ m ∈ twosE)) :
  Calls Tryz.prog 69 #[.string ⟨k.toArray⟩, .string ⟨m.toArray⟩, v] X fun e w' => e = .returned (.tuple #[.int .i64 (sumV k m vs), .nilIface]) ∧ ∃ n, w' = X.drewN n := by
 obtain ⟨ad, cap, rfl⟩ := hr.is
 rcases hk with ⟨rfl, hl, hm⟩ | ⟨rfl, hl, hm⟩
 ·obtain ⟨g, off, e, _, w8⟩ := hr.int (k := 0) (by omega)
  subst e
  have w8' : X.cell? ⟨g, off, none⟩ = some (.int .i64 (vs.getD 0 0)) := by rw [Nat.add_zero] at w8; rw [w8]; simp [show 0 < vs.length by omega]
  have hl' : (vs.length : Int) = 1 := by omega
  have hsv : sumV gOne m vs = oneV m (vs.getD 0 0) := if_pos rfl
  rw [hsv]
  generalize vs.getD 0 0 = x0 at *
  have t0 : (gOne == [111, 110, 101]) = true := by decide
  have HL := hidX (one_val m hm x0 X)
  clear hr w8 hsv hm hl
  go_enter Tryz.func69, Tryz.ntmps69
  go_wp2_with fail
  refine HL.out.mono ?_
  rintro e w' ⟨rfl, hw⟩
  replace hw := hw.symm
  subst hw
  go_wp2
  go_ret2
  exact ⟨rfl, 0, rfl⟩
 ·obtain ⟨g, off, e, _, w8⟩ := hr.int (k := 0) (by omega)
  subst e
  obtain ⟨g9, off9, e9, _, w9⟩ := hr.int (k := 1) (by omega)
  injection e9 with e9
  injection e9 with e9 e10
  subst e9 e10
  have w8' : X.cell? ⟨g, off, none⟩ = some (.int .i64 (vs.getD 0 0)) := by rw [Nat.add_zero] at w8; rw [w8]; simp [show 0 < vs.length by omega]
  have w9' : X.cell? ⟨g, off + 1, none⟩ = some (.int .i64 (vs.getD 1 0)) := by rw [w9]; simp [show 1 < vs.length by omega]
  have hl' : (vs.length : Int) = 2 := by omega
  have hsv : sumV gTwo m vs = twoV m (vs.getD 0 0) (vs.getD 1 0) := if_neg (by decide)
  rw [hsv]
  generalize vs.getD 0 0 = x0 at *
  generalize vs.getD 1 0 = x1 at *
  have t0 : (gTwo == [111, 110, 101]) = false := by decide
  have t1 : (gTwo == [116, 119, 111]) = true := by decide
  have HL := hidX (fun Y => two_val m hm x0 x1 Y)
  clear hr w8 w9 hsv hm hl
  go_enter Tryz.func69, Tryz.ntmps69
  go_wp2_with fail
  go_quiet ((go_at_call 82; exact Calls.quiet_of_same (HL.out _)))
  go_wp2
  go_ret2
  exact ⟨rfl, _, rfl⟩
set_option maxRecDepth 100000 in
set_option maxHeartbeats 2000000 in
theorem hasOp_any (a : Nat → Addr) (n : Nd) (w : World) (hS : Sents w a) : Calls Tryz.prog 56 #[.string ⟨n.kind.toArray⟩, .string ⟨n.name.toArray⟩] w fun e w' => e = .returned (.bool (opB onesE twosE n)) ∧ Below w.heap.size w w' := by
 obtain ⟨nk, ni, nn, nm⟩ := n
 have H1 := hidX (one_zero a nm _ hS)
 have H2 := hidX (do_zero a nm _ hS)
 clear hS
 by_cases e1 : nk = gOne
 ·subst e1
  have hop : opB onesE twosE ⟨gOne, ni, nn, nm⟩ = decide (nm ∈ onesE) := by unfold opB; rw [if_pos rfl]
  have t1 : (gOne == [111, 110, 101]) = true := by decide
  by_cases hm : nm ∈ onesE
  ·rw [hop, decide_eq_true hm]
   simp only [if_pos hm] at H1
   clear hop H2 hm
   go_enter Tryz.func56, Tryz.ntmps56
   go_wp2_with fail
   refine H1.out.mono ?_
   rintro e w' ⟨z, rfl, n, hh⟩
   replace hh := hh.symm
   subst hh
   go_wp2
   go_ret
   exact ⟨rfl, drewN_below' _ _ _⟩
  ·rw [hop, decide_eq_false hm]
   simp only [if_neg hm] at H1
   clear hop H2 hm
   go_enter Tryz.func56, Tryz.ntmps56
   go_wp2_with fail
   refine H1.out.mono ?_
   rintro e w' ⟨z, rfl, n, hh⟩
   replace hh := hh.symm
   subst hh
   go_wp2
   go_ret
   exact ⟨rfl, drewN_below' _ _ _⟩
 ·have t1 : (nk == [111, 110, 101]) = false := ne_lit e1
  by_cases e2 : nk = gTwo
  ·subst e2
   have hop : opB onesE twosE ⟨gTwo, ni, nn, nm⟩ = decide (nm ∈ twosE) := by unfold opB; rw [if_neg e1, if_pos rfl]
   have t2 : (gTwo == [116, 119, 111]) = true := by decide
   by_cases hm : nm ∈ twosE
   ·rw [hop, decide_eq_true hm]
    simp only [if_pos hm] at H2
    clear hop H1 e1 hm
    go_enter Tryz.func56, Tryz.ntmps56
    go_wp2_with fail
    refine H2.out.mono ?_
    rintro e w' ⟨z, rfl, n, hh⟩
    replace hh := hh.symm
    subst hh
    go_wp2
    go_ret
    exact ⟨rfl, drewN_below' _ _ _⟩
   ·rw [hop, decide_eq_false hm]
    simp only [if_neg hm] at H2
    clear hop H1 e1 hm
    go_enter Tryz.func56, Tryz.ntmps56
    go_wp2_with fail
    refine H2.out.mono ?_
    rintro e w' ⟨z, rfl, n, hh⟩
    replace hh := hh.symm
    subst hh
    go_wp2
    go_ret
    exact ⟨rfl, drewN_below' _ _ _⟩
  ·have hop : opB onesE twosE ⟨nk, ni, nn, nm⟩ = true := by unfold opB; rw [if_neg e1, if_neg e2]
   rw [hop]
   have t2 : (nk == [116, 119, 111]) = false := ne_lit e2
   clear hop H1 H2 e1 e2
   go_enter Tryz.func56, Tryz.ntmps56
   go_wp2
   go_ret
   exact ⟨rfl, Below.refl _ _⟩
end Go.Proofs.YtmckajgacfjnhaaGreatDoor
