/- Our own: texts joined: GrRec, GrDoneV. -/
import Derived.Test.YtimccbilkjjakaaDoorZGrRep
import Derived.Test.YtimccbilkjjakaaDoorZAppAll
import Derived.Test.YtimccbilkjjakaaDoorZTools
import Derived.Test.YtimccbilkjjakaaDoorZBase
import Derived.OwnWalk
import Derived.BigQuiet
import Derived.Deep.QuietTactic
import Derived.Deep.AppendLies
namespace Go.Proofs.YtimccbilkjjakaaDoor
open Go.RowKit
structure Rst where
 how : List UInt8
 val : Int
 tks : Int
 out : List Int
 calls : List (List UInt8 × List Int)
def hStuck : List UInt8 := [115, 116, 117, 99, 107]
def hOver : List UInt8 := [111, 118, 101, 114]
def hDone : List UInt8 := [100, 111, 110, 101]
def tickR (most : Int) (s : Rst) : Rst := if most ≤ s.tks then { s with how := hOver } else { s with tks := s.tks + 1 }
def printR (v : Int) (s : Rst) : Rst := if s.out.length = 1000 then { s with how := hOver } else { s with out := s.out ++ [v] }
def callR (ans : List Int) (nm : List UInt8) (vs : List Int) (s : Rst) : Rst := if ans.length ≤ s.calls.length then { s with how := hOver } else { s with calls := s.calls ++ [(nm, vs)] }
def retR (v : Int) (s : Rst) : Rst := { s with val := v, how := hDone }
def st0 : Rst := ⟨[], 0, 0, [], []⟩
structure ButP (S : Nat → Prop) (w w' : World) : Prop where
 os : w'.os = w.os
 tape : w'.tape = w.tape
 output : w'.output = w.output
 size : w.heap.size ≤ w'.heap.size
 block : ∀ k, k < w.heap.size → ¬ S k → w'.heap[k]? = w.heap[k]?
theorem ButP.of {S : Nat → Prop} {w w' : World} (h : Below w.heap.size w w') : ButP S w w' := ⟨h.os, h.tape, h.output, h.size, fun k hk _ => h.block k hk⟩
theorem ButP.but {S : Nat → Prop} {p : Nat} {w w' : World} (h : But p w w') (hS : S p) : ButP S w w' := ⟨h.os, h.tape, h.output, h.size, fun k hk hn => h.block k hk (fun e => hn (e ▸ hS))⟩
theorem ButP.trans {S T : Nat → Prop} {a b c : World} (h : ButP S a b) (k : ButP T b c) (hT : ∀ x, T x → S x ∨ a.heap.size ≤ x) : ButP S a c :=
 ⟨k.os.trans h.os, k.tape.trans h.tape, k.output.trans h.output, Nat.le_trans h.size k.size, fun i hi hp => (k.block i (Nat.lt_of_lt_of_le hi h.size) (fun e => (hT i e).elim hp (fun e => by omega))).trans (h.block i hi hp)⟩
theorem ButP.imp {S T : Nat → Prop} {a b : World} (h : ButP S a b) (hS : ∀ k, S k → T k) : ButP T a b := ⟨h.os, h.tape, h.output, h.size, fun k hk hn => h.block k hk (fun e => hn (hS k e))⟩
def XC (A : Nat → Prop) (w : World) (c : List UInt8 × List Int) (xs : List Value) : Prop := ∃ v, xs = [.string ⟨c.1.toArray⟩, v] ∧ XRow A w v c.2.length (intsG c.2)
def XCs (A : Nat → Prop) (w : World) : List (List UInt8 × List Int) → List Value → Prop
 | [], xs => xs = []
 | c :: r, xs => ∃ ys zs, xs = ys ++ zs ∧ XC A w c ys ∧ XCs A w r zs
theorem XC.imp {A C : Nat → Prop} {w w' : World} (hA : ∀ b, A b → C b) (hk : KeepA A w w') {c : List UInt8 × List Int} {xs : List Value} (h : XC A w c xs) : XC C w' c xs := by
 obtain ⟨v, e, hr⟩ := h
 exact ⟨v, e, hr.imp hA hk⟩
theorem XCs.imp {A C : Nat → Prop} {w w' : World} (hA : ∀ b, A b → C b) (hk : KeepA A w w') : ∀ {l : List (List UInt8 × List Int)} {xs : List Value}, XCs A w l xs → XCs C w' l xs
 | [], _, h => h
 | _ :: _, _, ⟨ys, zs, e, h1, h2⟩ => ⟨ys, zs, e, h1.imp hA hk, h2.imp hA hk⟩
theorem XCs.snoc {A : Nat → Prop} {w : World} : ∀ {l : List (List UInt8 × List Int)} {xs : List Value} {c : List UInt8 × List Int} {cs : List Value}, XCs A w l xs → XC A w c cs → XCs A w (l ++ [c]) (xs ++ cs)
 | [], xs, c, cs, h, hc => by
  have : xs = [] := h
  subst this
  exact ⟨cs, [], by simp, hc, rfl⟩
 | _ :: _, _, _, _, ⟨ys, zs, e, h1, h2⟩, hc => ⟨ys, zs ++ _, by rw [e, List.append_assoc], h1, h2.snoc hc⟩
abbrev rcV (how : List UInt8) (val tks : Int) (outv callv ansv : Value) (most steps : Int) : List Value := [.string ⟨how.toArray⟩, .int .i64 val, .int .i64 tks, outv, callv, ansv, .int .i64 most, .int .i64 steps]
structure RecJ (S : Nat → Prop) (X : World) (rb : Nat) (s : Rst) (ansv : Value) (most steps : Int) (outv callv : Value) (xs : List Value) : Prop where
 blk : X.heap[rb]? = some (.cells (rcV s.how s.val s.tks outv callv ansv most steps).toArray 86 (0, 0))
 out : X.ownsRow 0 3 1 outv s.out.length (intsG s.out)
 outS : ∀ b, outv.ownBlock = some b → S b
 call : X.ownsRow 0 76 2 callv s.calls.length xs
 callS : ∀ b, callv.ownBlock = some b → S b
 tel : XCs (fun b => S b ∧ callv.ownBlock ≠ some b ∧ outv.ownBlock ≠ some b) X s.calls xs
 apart : ∀ b, outv.ownBlock = some b → callv.ownBlock ≠ some b
 sl : ∀ b, S b → b < X.heap.size ∧ b ≠ rb
def RecE (S : Nat → Prop) (X : World) (rb : Nat) (s : Rst) (ansv : Value) (most steps : Int) : Prop := ∃ outv callv xs, RecJ S X rb s ansv most steps outv callv xs
def RecTo (S : Nat → Prop) (X : World) (rb : Nat) (s : Rst) (ansv : Value) (most steps : Int) (w' : World) : Prop := (∃ S', (∀ b, S' b → S b ∨ X.heap.size ≤ b) ∧ RecE S' w' rb s ansv most steps) ∧ ButP (fun k => k = rb ∨ S k) X w'
section
variable {S : Nat → Prop} {X Y : World} {rb : Nat} {s : Rst} {ansv : Value} {most steps : Int} {outv callv : Value} {xs : List Value}
theorem RecJ.keep (h : RecJ S X rb s ansv most steps outv callv xs) (hz : X.heap.size ≤ Y.heap.size) (hb : ∀ k, k = rb ∨ S k → Y.heap[k]? = X.heap[k]?) : RecJ S Y rb s ansv most steps outv callv xs :=
 ⟨(hb rb (Or.inl rfl)).trans h.blk, own_same h.out (fun b e => hb b (Or.inr (h.outS b e))), h.outS, own_same h.call (fun b e => hb b (Or.inr (h.callS b e))), h.callS, h.tel.imp (fun _ h => h) (fun b e => hb b (Or.inr e.1)), h.apart, fun b e => ⟨by have := (h.sl b e).1; omega, (h.sl b e).2⟩⟩
theorem RecE.keep (h : RecE S X rb s ansv most steps) (hz : X.heap.size ≤ Y.heap.size) (hb : ∀ k, k = rb ∨ S k → Y.heap[k]? = X.heap[k]?) : RecE S Y rb s ansv most steps := by
 obtain ⟨o, c, x, h⟩ := h
 exact ⟨o, c, x, h.keep hz hb⟩
theorem RecJ.rl (h : RecJ S X rb s ansv most steps outv callv xs) : rb < X.heap.size := heap_lt h.blk
theorem RecE.rl (h : RecE S X rb s ansv most steps) : rb < X.heap.size := by
 obtain ⟨o, c, x, h⟩ := h
 exact h.rl
theorem RecE.sl (h : RecE S X rb s ansv most steps) : ∀ b, S b → b < X.heap.size ∧ b ≠ rb := by
 obtain ⟨o, c, x, h⟩ := h
 exact h.sl
theorem RecE.below (h : RecE S X rb s ansv most steps) (hb : Below X.heap.size X Y) : RecE S Y rb s ansv most steps :=
 h.keep hb.size (fun k hk => hb.block k (hk.elim (fun e => e ▸ h.rl) (fun e => (h.sl k e).1)))
theorem RecTo.refl (h : RecE S X rb s ansv most steps) : RecTo S X rb s ansv most steps X := ⟨⟨S, fun _ h => Or.inl h, h⟩, ⟨rfl, rfl, rfl, Nat.le_refl _, fun _ _ _ => rfl⟩⟩
theorem RecTo.from {W w' : World} {s' : Rst} {steps' : Int} (hb : Below X.heap.size X W) (h : RecTo S W rb s' ansv most steps' w') : RecTo S X rb s' ansv most steps' w' := by
 obtain ⟨⟨S', h1, h2⟩, h3⟩ := h
 exact ⟨⟨S', fun b e => (h1 b e).imp id (fun e => Nat.le_trans hb.size e), h2⟩, (ButP.of hb).trans h3 (fun x hx => Or.inl hx)⟩
theorem RecJ.own (h : RecJ S X rb s ansv most steps outv callv xs) (hb : But rb X Y) {s' : Rst} {steps' : Int} (ho : s'.out = s.out) (hc : s'.calls = s.calls) (hk : Y.heap[rb]? = some (.cells (rcV s'.how s'.val s'.tks outv callv ansv most steps').toArray 86 (0, 0))) : RecJ S Y rb s' ansv most steps' outv callv xs := by
 have hS : ∀ k, S k → Y.heap[k]? = X.heap[k]? := fun k e => hb.block k (h.sl k e).1 (h.sl k e).2
 refine ⟨hk, ?_, h.outS, ?_, h.callS, ?_, h.apart, fun b e => ⟨by have := (h.sl b e).1; have := hb.size; omega, (h.sl b e).2⟩⟩
 ·rw [ho]; exact own_same h.out (fun b e => hS b (h.outS b e))
 ·rw [hc]; exact own_same h.call (fun b e => hS b (h.callS b e))
 ·rw [hc]; exact h.tel.imp (fun _ h => h) (fun b e => hS b e.1)
theorem RecJ.set (h : RecJ S X rb s ansv most steps outv callv xs) {s' : Rst} {steps' : Int} (ho : s'.out = s.out) (hc : s'.calls = s.calls) (i : Nat) (u : Value) (hk : (rcV s.how s.val s.tks outv callv ansv most steps).set i u = rcV s'.how s'.val s'.tks outv callv ansv most steps') : RecTo S X rb s' ansv most steps' (X.setCell ⟨rb, i, none⟩ u) := by
 have hb : But rb X (X.setCell ⟨rb, i, none⟩ u) := (But.refl _ _).set i u
 refine ⟨⟨S, fun _ h => Or.inl h, outv, callv, xs, h.own hb ho hc ?_⟩, ButP.but hb (Or.inl rfl)⟩
 rw [blk_setCell h.blk i u, List.setIfInBounds_toArray, hk]
theorem stop_r (h : RecE S X rb s ansv most steps) (how : List UInt8) :
  Calls Tryd.prog 41 #[.pointer (some ⟨rb, 0, none⟩), .string ⟨how.toArray⟩] X fun e w' => e = .returned (.tuple #[]) ∧ RecTo S X rb { s with how := how } ansv most steps w' := by
 obtain ⟨outv, callv, xs, h⟩ := h
 have c0 : X.cell? ⟨rb, 0, none⟩ = some (.string ⟨s.how.toArray⟩) := cell_of_blk h.blk 0
 have f0 := free_of_blk h.blk 0
 have HF := hidX (h.set (s' := { s with how := how }) rfl rfl 0 (.string ⟨how.toArray⟩) rfl)
 clear h
 go_enter Tryd.func41, Tryd.ntmps41
 go_wp2
 go_end0
 exact ⟨rfl, HF.out⟩
theorem tick_r (h : RecE S X rb s ansv most steps) (ht : 0 ≤ s.tks ∧ s.tks ≤ 1000000000) :
  Calls Tryd.prog 57 #[.pointer (some ⟨rb, 0, none⟩)] X fun e w' => e = .returned (.tuple #[]) ∧ RecTo S X rb (tickR most s) ansv most steps w' := by
 have HE := hidX h
 obtain ⟨outv, callv, xs, h⟩ := h
 have c2 : X.cell? ⟨rb, 2, none⟩ = some (.int .i64 s.tks) := cell_of_blk h.blk 2
 have c6 : X.cell? ⟨rb, 6, none⟩ = some (.int .i64 most) := cell_of_blk h.blk 6
 have hrl := h.rl
 have HH := hidX h
 unfold tickR
 by_cases hm : most ≤ s.tks
 ·rw [if_pos hm]
  clear h
  go_enter Tryd.func57, Tryd.ntmps57
  go_wp2_with fail
  go_quiet (fail)
  go_wp2_with fail
  refine (stop_r (HE.out.below (by (repeat (first | exact Below.refl _ _ | assumption | refine Below.drew ?_ | refine bT ?_ _ | refine bS ?_ _ | refine bA ?_ _)))) hOver).mono ?_
  rintro e w' ⟨rfl, h1⟩
  have H1 := hidX (show RecTo S X rb { s with how := hOver } ansv most steps w' from RecTo.from (show Below X.heap.size X _ by (repeat (first | exact Below.refl _ _ | assumption | refine Below.drew ?_ | refine bT ?_ _ | refine bS ?_ _ | refine bA ?_ _))) h1)
  clear h1
  go_wp2
  ((try simp only [Exit.inBlock, Exit.then]); refine bodyPost_ret (results_none rfl _ _ _) rfl ?_)
  exact ⟨rfl, H1.out⟩
 ·rw [if_neg hm]
  have HP := hidX (fun nn => (h.keep (Y := X.drewN nn) (Nat.le_refl _) (fun _ _ => rfl)).set (s' := { s with tks := s.tks + 1 }) rfl rfl 2 (.int .i64 (s.tks + 1)) rfl)
  have f2 := free_of_blk h.blk 2
  clear h
  go_enter Tryd.func57, Tryd.ntmps57
  go_wp2_with fail
  go_quiet (fail)
  go_wp2
  go_end0
  exact ⟨rfl, RecTo.from (by (repeat (first | exact Below.refl _ _ | assumption | refine Below.drew ?_ | refine bT ?_ _ | refine bS ?_ _ | refine bA ?_ _))) (HP.out _)⟩
theorem return_r (h : RecE S X rb s ansv most steps) (v : Int) :
  Calls Tryd.prog 43 #[.pointer (some ⟨rb, 0, none⟩), .int .i64 v] X fun e w' => e = .returned (.tuple #[]) ∧ RecTo S X rb (retR v s) ansv most steps w' := by
 obtain ⟨outv, callv, xs, h⟩ := h
 have c1 : X.cell? ⟨rb, 1, none⟩ = some (.int .i64 s.val) := cell_of_blk h.blk 1
 have f1 := free_of_blk h.blk 1
 obtain ⟨W1, hW1⟩ : ∃ W1, W1 = X.setCell ⟨rb, 1, none⟩ (.int .i64 v) := ⟨_, rfl⟩
 have hr := h.set (s' := { s with val := v }) rfl rfl 1 (.int .i64 v) rfl
 rw [← hW1] at hr
 have HR := hidX hr
 obtain ⟨⟨S1, hs1, hr1⟩, _⟩ := hr
 have HST := hidX (stop_r hr1 hDone)
 have HS1 := hidX hs1
 have HSL := hidX h.sl
 clear h hr1 hs1
 go_enter Tryd.func43, Tryd.ntmps43
 go_wp2_with fail
 rw [← hW1]
 clear hW1
 refine HST.out.mono ?_
 rintro e w' ⟨rfl, h1⟩
 have HF := hidX (show RecTo S X rb (retR v s) ansv most steps w' from by
  obtain ⟨⟨S2, h2, h3⟩, h4⟩ := h1
  have hz := HR.out.2.size
  refine ⟨⟨S2, fun b e => ?_, h3⟩, HR.out.2.trans h4 (fun x hx => ?_)⟩
  ·rcases h2 b e with e | e
   ·exact HS1.out b e
   ·exact Or.inr (Nat.le_trans hz e)
  ·rcases hx with e | e
   ·exact Or.inl (Or.inl e)
   ·exact (HS1.out x e).imp Or.inr id)
 clear h1
 go_wp2
 go_end0
 exact ⟨rfl, HF.out⟩
theorem step_r (h : RecE S X rb s ansv most steps) (hs : 0 ≤ steps ∧ steps ≤ 100000) :
  Calls Tryd.prog 26 #[.pointer (some ⟨rb, 0, none⟩)] X fun e w' => e = .returned (.bool (decide (s.how = [] ∧ steps ≠ 100000))) ∧ RecTo S X rb (if s.how = [] ∧ steps = 100000 then { s with how := hStuck } else s) ansv most (steps + 1) w' := by
 have HE := hidX h
 obtain ⟨outv, callv, xs, h⟩ := h
 have c0 : X.cell? ⟨rb, 0, none⟩ = some (.string ⟨s.how.toArray⟩) := cell_of_blk h.blk 0
 have c7 : X.cell? ⟨rb, 7, none⟩ = some (.int .i64 steps) := cell_of_blk h.blk 7
 have HH := hidX h
 by_cases h0 : s.how = []
 ·by_cases h1 : steps = 100000
  ·rw [if_pos ⟨h0, h1⟩, show decide (s.how = [] ∧ steps ≠ 100000) = false from decide_eq_false (fun h => h.2 h1)]
   have t0 : s.how.isEmpty = true := by rw [h0]; rfl
   have t1 : (steps == 100000) = true := by rw [h1]; rfl
   have HST := hidX (fun nn => stop_r (HE.out.below (Y := X.drewN nn) (by (repeat (first | exact Below.refl _ _ | assumption | refine Below.drew ?_ | refine bT ?_ _ | refine bS ?_ _ | refine bA ?_ _)))) hStuck)
   clear h h0 h1
   go_enter Tryd.func26, Tryd.ntmps26
   go_wp2_with fail
   try go_quiet (fail)
   try go_wp2_with fail
   first | refine (HST.out _).mono ?_ | refine (HST.out 0).mono ?_
   rintro e W1 ⟨rfl, hr⟩
   obtain ⟨⟨S1, hs1, o1, k1, x1, hr1⟩, hbt⟩ := hr
   have d0 : W1.cell? ⟨rb, 0, none⟩ = some (.string ⟨hStuck.toArray⟩) := cell_of_blk hr1.blk 0
   have d7 : W1.cell? ⟨rb, 7, none⟩ = some (.int .i64 steps) := cell_of_blk hr1.blk 7
   have f7 := free_of_blk hr1.blk 7
   have hp := hr1.set (s' := { s with how := hStuck }) (steps' := steps + 1) rfl rfl 7 (.int .i64 (steps + 1)) rfl
   have HF := hidX (show RecTo S X rb { s with how := hStuck } ansv most (steps + 1) (W1.setCell ⟨rb, 7, none⟩ (.int .i64 (steps + 1))) from by
    obtain ⟨⟨S2, h2, h3⟩, h4⟩ := hp
    have hz : X.heap.size ≤ W1.heap.size := hbt.size
    have hbt' : ButP (fun k => k = rb ∨ S k) X W1 := ⟨hbt.os, hbt.tape, hbt.output, hbt.size, hbt.block⟩
    refine ⟨⟨S2, fun b e => ?_, h3⟩, hbt'.trans h4 (fun x hx => ?_)⟩
    ·rcases h2 b e with e | e
     ·exact hs1 b e
     ·exact Or.inr (Nat.le_trans hz e)
    ·rcases hx with e | e
     ·exact Or.inl (Or.inl e)
     ·exact (hs1 x e).imp Or.inr id)
   have t3 : hStuck.isEmpty = false := rfl
   have hn0 : Below rb W1 (W1.setCell ⟨rb, 7, none⟩ (.int .i64 (steps + 1))) := by (repeat (first | exact Below.refl _ _ | assumption | refine Below.drew ?_ | refine bT ?_ _ | refine bS ?_ _ | refine bA ?_ _))
   clear hr1 hbt hp hs1
   go_wp2
   go_ret
   exact ⟨rfl, HF.out⟩
  ·rw [if_neg (fun h => h1 h.2), show decide (s.how = [] ∧ steps ≠ 100000) = true from decide_eq_true ⟨h0, h1⟩]
   have t0 : s.how.isEmpty = true := by rw [h0]; rfl
   have t1 : (steps == 100000) = false := by simpa using h1
   have HP := hidX (h.set (s' := s) (steps' := steps + 1) rfl rfl 7 (.int .i64 (steps + 1)) rfl)
   have f7 := free_of_blk h.blk 7
   clear h h0 h1
   go_enter Tryd.func26, Tryd.ntmps26
   go_wp2_with fail
   try go_quiet (fail)
   go_wp2
   go_ret
   exact ⟨by trivial, HP.out⟩
 ·rw [if_neg (fun h => h0 h.1), show decide (s.how = [] ∧ steps ≠ 100000) = false from decide_eq_false (fun h => h0 h.1)]
  have t0 : s.how.isEmpty = false := nil_lit h0
  have HP := hidX (h.set (s' := s) (steps' := steps + 1) rfl rfl 7 (.int .i64 (steps + 1)) rfl)
  have f7 := free_of_blk h.blk 7
  clear h h0
  go_enter Tryd.func26, Tryd.ntmps26
  go_wp2_with fail
  try go_quiet (fail)
  go_wp2
  go_ret
  exact ⟨by trivial, HP.out⟩
theorem new_r (w : World) (ansv : Value) (most : Int) (hv : ∃ a n c, ansv = .slice a n c) :
  Calls Tryd.prog 25 #[ansv, .int .i64 most] w fun e w' => e = .returned (.pointer (some ⟨w.heap.size, 0, none⟩)) ∧ RecE (fun _ => False) w' w.heap.size st0 ansv most 0 ∧ Below w.heap.size w w' ∧ w'.heap.size = w.heap.size + 1 := by
 obtain ⟨aa, an, ac, rfl⟩ := hv
 obtain ⟨W0, hW0⟩ : ∃ W0, W0 = w.alloc (.cells (rcV [] 0 0 (.slice none 0 0) (.slice none 0 0) (.slice aa an ac) most 0).toArray 86) := ⟨_, rfl⟩
 have HF := hidX (show RecE (fun _ => False) W0 w.heap.size st0 (.slice aa an ac) most 0 ∧ Below w.heap.size w W0 ∧ W0.heap.size = w.heap.size + 1 from by
  refine ⟨⟨.slice none 0 0, .slice none 0 0, [], ⟨by rw [hW0]; exact heap_alloc_new _ _, World.ownsRow_nil _ _ _ _, fun b h => by simp [Value.ownBlock] at h, World.ownsRow_nil _ _ _ _, fun b h => by simp [Value.ownBlock] at h, rfl, fun b h => by simp [Value.ownBlock] at h, fun b h => h.elim⟩⟩, by rw [hW0]; (repeat (first | exact Below.refl _ _ | assumption | refine Below.drew ?_ | refine bT ?_ _ | refine bS ?_ _ | refine bA ?_ _)), by rw [hW0]; simp⟩)
 go_enter Tryd.func25, Tryd.ntmps25
 go_wp2
 try (change Exit.inBlock _ _ _ _)
 go_ret
 exact ⟨rfl, hW0 ▸ HF.out⟩
theorem cl_info : (Tryd.prog.info? 76).map (fun i => (i.zero, i.size, i.bytes)) = some (some (.agg #[.string ⟨#[]⟩, .slice none 0 0]), 2, 40) := by kernel_rfl
theorem cl_one (l : List UInt8) {v : Value} (hv : ∃ a n c, v = .slice a n c) : ∀ u ∈ ([.string ⟨l.toArray⟩, v] : List Value), u.oneCell' = true := by
 intro u hu
 obtain ⟨a, n, c, rfl⟩ := hv
 simp only [List.mem_cons, List.not_mem_nil, or_false] at hu
 rcases hu with rfl | rfl <;> rfl
theorem RecJ.print (h : RecJ S X rb s ansv most steps outv callv xs) {Z W4 : World} {v' : Value} {x : Int} (hZ : Below X.heap.size X Z) (hg : Z.grownBy W4 outv.ownBlock) (ho : W4.ownsRow 0 3 1 v' (s.out.length + 1) (intsG s.out ++ [.int .i64 x])) (hv : v'.ownBlock = outv.ownBlock ∨ ∃ b, v'.ownBlock = some b ∧ X.heap.size ≤ b) :
  W4.heap[rb]? = X.heap[rb]? ∧ RecTo S X rb { s with out := s.out ++ [x] } ansv most steps (W4.setCell ⟨rb, 3, none⟩ v') := by
 have zz := hg.size
 have zz' : X.heap.size ≤ W4.heap.size := Nat.le_trans hZ.size zz
 have hrl := h.rl
 have key : ∀ b, b < X.heap.size → outv.ownBlock ≠ some b → W4.heap[b]? = X.heap[b]? := fun b hb hne =>
  (hg.block b (Nat.lt_of_lt_of_le hb hZ.size) (fun e => hne e.symm)).trans (hZ.block b hb)
 have hrb : W4.heap[rb]? = X.heap[rb]? := key rb hrl (fun e => (h.sl rb (h.outS rb e)).2 rfl)
 have hfar : ∀ b, b ≠ rb → (W4.setCell ⟨rb, 3, none⟩ v').heap[b]? = W4.heap[b]? := fun b hb => Below.heap_setCell _ _ _ _ hb
 have hsz : (W4.setCell ⟨rb, 3, none⟩ v').heap.size = W4.heap.size := by simp [World.setCell]
 have hne : ∀ b, b < X.heap.size → outv.ownBlock ≠ some b → v'.ownBlock ≠ some b := fun b hl hn e => by
  rcases hv with hv | ⟨c, hv, hc⟩
  ·rw [hv] at e; exact hn e
  ·rw [hv] at e; injection e with e; omega
 have hvr : ∀ b, v'.ownBlock = some b → b ≠ rb := fun b e er => by
  subst er
  exact hne _ hrl (fun e => (h.sl _ (h.outS _ e)).2 rfl) e
 have hvl : ∀ b, v'.ownBlock = some b → b < W4.heap.size := fun b e => (ho.lt b e).2
 refine ⟨hrb, ⟨fun b => S b ∨ v'.ownBlock = some b, fun b e => ?_, v', callv, xs, ?_, ?_, fun b e => Or.inr e, ?_, fun b e => Or.inl (h.callS b e), ?_, fun b e e2 => ?_, fun b e => ?_⟩, ⟨?_, ?_, ?_, ?_, fun b hb hS => ?_⟩⟩
 ·rcases e with e | e
  ·exact Or.inl e
  ·rcases hv with hv | ⟨c, hv, hc⟩
   ·rw [hv] at e; exact Or.inl (h.outS b e)
   ·rw [hv] at e; injection e with e; subst e; exact Or.inr hc
 ·have := blk_setCell (hrb.trans h.blk) 3 v'
  simpa using this
 ·show World.ownsRow _ 0 _ 1 v' (s.out ++ [x]).length (intsG (s.out ++ [x]))
  rw [List.length_append]
  have hmap : intsG (s.out ++ [x]) = intsG s.out ++ [.int .i64 x] := by simp [intsG]
  rw [hmap]
  exact own_same ho (fun b hb => hfar b (hvr b hb))
 ·exact own_same h.call (fun b e => by
   have hsl := h.sl b (h.callS b e)
   rw [hfar b hsl.2]
   exact key b hsl.1 (fun e2 => h.apart b e2 e))
 ·exact h.tel.imp (fun b e => ⟨Or.inl e.1, e.2.1, hne b (h.sl b e.1).1 e.2.2⟩) (fun b e => by
   rw [hfar b (h.sl b e.1).2]
   exact key b (h.sl b e.1).1 e.2.2)
 ·have hsl := h.sl b (h.callS b e2)
  exact hne b hsl.1 (fun e3 => h.apart b e3 e2) e
 ·rw [hsz]
  rcases e with e | e
  ·have := h.sl b e; exact ⟨by omega, this.2⟩
  ·exact ⟨hvl b e, hvr b e⟩
 ·exact hg.os.trans hZ.os
 ·exact hg.tape.trans hZ.tape
 ·exact hg.output.trans hZ.output
 ·rw [hsz]; omega
 ·have h2 : b ≠ rb := fun e => hS (Or.inl e)
  rw [hfar b h2]
  exact key b hb (fun e => hS (Or.inr (h.outS b e)))
set_option maxRecDepth 100000 in
set_option maxHeartbeats 2000000 in
theorem print_r (h : RecE S X rb s ansv most steps) (hol : s.out.length ≤ 1000) (x : Int) :
  Calls Tryd.prog 58 #[.pointer (some ⟨rb, 0, none⟩), .int .i64 x] X fun e w' => e = .returned (.tuple #[]) ∧ RecTo S X rb (printR x s) ansv most steps w' := by
 have HE := hidX h
 obtain ⟨outv, callv, xs, h⟩ := h
 obtain ⟨oad, ocap, rfl⟩ := own_is h.out
 have c3 : X.cell? ⟨rb, 3, none⟩ = some (.slice oad s.out.length ocap) := cell_of_blk h.blk 3
 have hol' : (s.out.length : Int) ≤ 1000 := by omega
 unfold printR
 by_cases hf : s.out.length = 1000
 ·rw [if_pos hf]
  have t0 : ((s.out.length : Int) == 1000) = true := by simp [hf]
  have hf' : (s.out.length : Int) = 1000 := by omega
  have HST := hidX (stop_r HE.out hOver)
  clear h hf
  go_enter Tryd.func58, Tryd.ntmps58
  go_wp2_with fail
  refine HST.out.mono ?_
  rintro e w' ⟨rfl, h1⟩
  have H1 := hidX h1
  clear h1
  go_wp2
  ((try simp only [Exit.inBlock, Exit.then]); refine bodyPost_ret (results_none rfl _ _ _) rfl ?_)
  exact ⟨rfl, H1.out⟩
 ·rw [if_neg hf]
  have hol2 : (s.out.length : Int) < 1000 := by omega
  have hrl := h.rl
  have HK := hidX (fun (W : World) (hW : Below X.heap.size X W) => (show W.cell? ⟨rb, 3, none⟩ = some (.slice oad s.out.length ocap) from (hW.cell (p := ⟨rb, 3, none⟩) hrl).trans c3))
  obtain ⟨i0, hi, iz0, iz1, iz2⟩ := info_parts int_info
  have HJ := hidX h
  clear h hf hol hol'
  go_enter Tryd.func58, Tryd.ntmps58
  go_wp2_with (at_builtin; refine wpList_append_lies _ rfl _ _ 25 rfl 0 3 i0 _ 1 8 Tryd.underlying25 hi iz0 iz1 iz2 rfl (by decide) (.slice oad s.out.length ocap) s.out.length (intsG s.out) rfl (owns_below HJ.out.out (by (repeat (first | exact Below.refl _ _ | assumption | refine Below.drew ?_ | refine bT ?_ _ | refine bS ?_ _ | refine bA ?_ _)))) ⟨X.heap.size, 0, none⟩ 1 1 [.int .i64 x] rfl rfl (World.news_of_block (heap_alloc_new X _)) (int_one x) (by decide) (by unfold maxLen; omega) (by omega) (Nat.zero_le _) _ rfl ?_; intro g4 cap4 W4 ho4 hg4 hl4 _; have hpr := HJ.out.print (box_blk _ _ _) hg4 ho4 (by (rcases hl4 with e | e); (exact Or.inl e.symm); (right; exact ⟨g4, (by simp only [Value.ownBlock]), (by rw [e]; simp)⟩)); have s4 : W4.cell? ⟨rb, 3, none⟩ = some (.slice oad s.out.length ocap) := cell_of_blk (hpr.1.trans HJ.out.blk) 3; have fr4 := free_of_blk (hpr.1.trans HJ.out.blk) 3; have HFN := hidX hpr.2; clear hpr ho4 hg4 hl4)
  go_end0
  exact ⟨rfl, HFN.out⟩
theorem RecJ.called (h : RecJ S X rb s ansv most steps outv callv xs) {Z W4 : World} {v' av : Value} {nm : List UInt8} {vs : List Int} (hZ : Below X.heap.size X Z) (hg : Z.grownBy W4 callv.ownBlock) (ho : W4.ownsRow 0 76 2 v' (s.calls.length + 1) (xs ++ [.string ⟨nm.toArray⟩, av])) (hav : XRow (fun b => X.heap.size ≤ b ∧ b < Z.heap.size) Z av vs.length (intsG vs)) (hv : v'.ownBlock = callv.ownBlock ∨ ∃ b, v'.ownBlock = some b ∧ Z.heap.size ≤ b) :
  (∀ b, b < X.heap.size → ¬ S b → W4.heap[b]? = X.heap[b]?) ∧ RecTo S X rb { s with calls := s.calls ++ [(nm, vs)] } ansv most steps (W4.setCell ⟨rb, 4, none⟩ v') := by
 have zz := hg.size
 have z1 := hZ.size
 have zz' : X.heap.size ≤ W4.heap.size := Nat.le_trans hZ.size zz
 have hrl := h.rl
 have key : ∀ b, b < X.heap.size → callv.ownBlock ≠ some b → W4.heap[b]? = X.heap[b]? := fun b hb hne =>
  (hg.block b (Nat.lt_of_lt_of_le hb hZ.size) (fun e => hne e.symm)).trans (hZ.block b hb)
 have hrb : W4.heap[rb]? = X.heap[rb]? := key rb hrl (fun e => (h.sl rb (h.callS rb e)).2 rfl)
 have hfar : ∀ b, b ≠ rb → (W4.setCell ⟨rb, 4, none⟩ v').heap[b]? = W4.heap[b]? := fun b hb => Below.heap_setCell _ _ _ _ hb
 have hsz : (W4.setCell ⟨rb, 4, none⟩ v').heap.size = W4.heap.size := by simp [World.setCell]
 have hne : ∀ b, b < Z.heap.size → callv.ownBlock ≠ some b → v'.ownBlock ≠ some b := fun b hl hn e => by
  rcases hv with hv | ⟨c, hv, hc⟩
  ·rw [hv] at e; exact hn e
  ·rw [hv] at e; injection e with e; omega
 have hvr : ∀ b, v'.ownBlock = some b → b ≠ rb := fun b e er => by
  subst er
  exact hne _ (by omega) (fun e => (h.sl _ (h.callS _ e)).2 rfl) e
 have hvl : ∀ b, v'.ownBlock = some b → b < W4.heap.size := fun b e => (ho.lt b e).2
 have hcl : ∀ b, callv.ownBlock = some b → b < X.heap.size := fun b e => (h.sl b (h.callS b e)).1
 have hol : ∀ b, outv.ownBlock = some b → b < X.heap.size := fun b e => (h.sl b (h.outS b e)).1
 refine ⟨fun b hb hS => key b hb (fun e => hS (h.callS b e)), ⟨fun b => S b ∨ v'.ownBlock = some b ∨ (X.heap.size ≤ b ∧ b < Z.heap.size), fun b e => ?_, outv, v', _, ?_, ?_, fun b e => Or.inl (h.outS b e), (by show World.ownsRow _ 0 _ 2 v' (s.calls ++ [(nm, vs)]).length _; rw [List.length_append]; exact own_same ho (fun b hb => hfar b (hvr b hb))), fun b e => Or.inr (Or.inl e), ?_, fun b e e2 => ?_, fun b e => ?_⟩, ⟨?_, ?_, ?_, ?_, fun b hb hS => ?_⟩⟩
 ·rcases e with e | e | e
  ·exact Or.inl e
  ·rcases hv with hv | ⟨c, hv, hc⟩
   ·rw [hv] at e; exact Or.inl (h.callS b e)
   ·rw [hv] at e; injection e with e; subst e; exact Or.inr (by omega)
  ·exact Or.inr e.1
 ·have := blk_setCell (hrb.trans h.blk) 4 v'
  simpa using this
 ·exact own_same h.out (fun b e => by
   have hsl := h.sl b (h.outS b e)
   rw [hfar b hsl.2]
   exact key b hsl.1 (fun e2 => h.apart b e e2))
 ·refine XCs.snoc (h.tel.imp (fun b e => ⟨Or.inl e.1, hne b (by have := (h.sl b e.1).1; omega) e.2.1, e.2.2⟩) (fun b e => by
   rw [hfar b (h.sl b e.1).2]
   exact key b (h.sl b e.1).1 e.2.1)) ⟨av, rfl, hav.imp (fun b e => ⟨Or.inr (Or.inr e), hne b e.2 (fun e2 => by have := hcl b e2; omega), fun e2 => by have := hol b e2; omega⟩) (fun b e => by
   rw [hfar b (by omega)]
   exact hg.block b e.2 (fun e2 => by have := hcl b e2.symm; omega))⟩
 ·exact hne b (by have := hol b e; omega) (fun e3 => h.apart b e e3) e2
 ·rw [hsz]
  rcases e with e | e | e
  ·have := h.sl b e; exact ⟨by omega, this.2⟩
  ·exact ⟨hvl b e, hvr b e⟩
  ·exact ⟨by omega, by omega⟩
 ·exact hg.os.trans hZ.os
 ·exact hg.tape.trans hZ.tape
 ·exact hg.output.trans hZ.output
 ·rw [hsz]; omega
 ·have h2 : b ≠ rb := fun e => hS (Or.inl e)
  rw [hfar b h2]
  exact key b hb (fun e => hS (Or.inr (h.callS b e)))
theorem run_append_e (w : World) (ty : TypeId) (b : Nat) (hb : w.heap[b]? = some (.cells #[] 3 (0, 0))) (sv : Value) (l : List Int) (hl : l.length ≤ 5000) (h : XRow (InH w) w sv l.length (intsG l)) :
  ∃ ad cap w', (Builtin.append_ #[25, 25] ty #[.slice (some ⟨b, 0, none⟩) 0 0, sv]).run Tryd.prog w = .ok (.slice ad l.length cap) w' ∧ XRow (fun k => b ≤ k ∧ k < w'.heap.size) w' (.slice ad l.length cap) l.length (intsG l) ∧ But b w w' := by
 obtain ⟨i0, hi, hz0, hz1, hz2⟩ := info_parts int_info
 have hown : w.ownsRow b 3 1 (.slice (some ⟨b, 0, none⟩) 0 0) 0 [] := ⟨rfl, Or.inr ⟨b, 0, #[], rfl, Nat.le_refl _, hb, Nat.le_refl _, Nat.zero_le _, rfl, rfl⟩⟩
 have hbl := heap_lt hb
 obtain ⟨ad, cap, rfl⟩ := h.is
 cases ad with
 | some a =>
  obtain ⟨v', w', hrun, hown', hg, _, _⟩ := run_append_own_at (P := Tryd.prog) w b 25 ty 3 i0 _ 1 8 Tryd.underlying25 hi hz0 hz1 hz2 rfl (by decide) (.slice (some ⟨b, 0, none⟩) 0 0) 0 [] hown a l.length cap (intsG l) (by rw [intsG_len, Nat.mul_one]) (xrow_intsG h) (intsG_one l) (by unfold maxLen; omega) (by omega) (Nat.le_of_lt hbl)
  rw [Nat.zero_add, List.nil_append] at hown'
  obtain ⟨ad2, cap2, rfl⟩ := own_is hown'
  exact ⟨ad2, cap2, w', hrun, xrow_own hown', ⟨hg.os, hg.tape, hg.output, hg.size, fun k hk hne => hg.block k hk (fun e => hne (by simpa [Value.ownBlock] using e))⟩⟩
 | none =>
  have h0 : l = [] := by
   rcases Nat.eq_zero_or_pos l.length with h' | h'
   ·exact List.length_eq_zero_iff.1 h'
   ·obtain ⟨g, off, e, _⟩ := h.get (by omega); cases e
  subst h0
  refine ⟨some ⟨b, 0, none⟩, 0, w, ?_, ⟨_, _, rfl, fun h => absurd rfl h⟩, But.refl _ _⟩
  simp [Builtin.append_, run_underlying Tryd.underlying25, sizeOf, typeInfo, hi, Builtin.lenOf, Builtin.firstCells, storeCells]
theorem step_append_e {ops : Array Oper} {o : Oper} {a : Act} {w : World} {K : Act → World → Prop} {Q : Exit → Act → World → Prop} {E : Prop} (hgd : o.guard = none) (s x : Operand)
  (ho : o.op = .call { callee := .builtin .append, args := #[s, x], argTypes := #[25, 25] }) (b : Nat) (hb : w.heap[b]? = some (.cells #[] 3 (0, 0))) (hs : a.eval s = .slice (some ⟨b, 0, none⟩) 0 0) (sv : Value) (hx : a.eval x = sv) (l : List Int) (hl : l.length ≤ 5000) (h : XRow (InH w) w sv l.length (intsG l))
  (hk : ∀ ad cap w', XRow (fun k => b ≤ k ∧ k < w'.heap.size) w' (.slice ad l.length cap) l.length (intsG l) → But b w w' → K (a.put o.dst (.slice ad l.length cap)) w') :
  if Region.wanted o (yielded ops a.tmps) = true then Oper.wp Tryd.prog o a w K Q else E := by
 have hw : Region.wanted o (yielded ops a.tmps) = true := by simp [Region.wanted, hgd]
 rw [if_pos hw]
 obtain ⟨ad, cap, w', hr, h1, h2⟩ := run_append_e w o.type b hb sv l hl h
 unfold Oper.wp execOp
 simp only [ho, resolve, invoke, builtin, Sem.run_bind, Sem.run_pure, Result.andThen_ok, List.map_toArray, List.map_cons, List.map_nil, hs, hx, hr]
 exact hk _ _ _ h1 h2
set_option maxRecDepth 100000 in
set_option maxHeartbeats 4000000 in
theorem call_r (h : RecE S X rb s ansv most steps) (nm : List UInt8) {av : Value} {vs : List Int} (hav : XRow (InH X) X av vs.length (intsG vs)) (hvl : vs.length ≤ 5000) {A : Nat → Prop} {ans : List Int} (hans : XRow A X ansv ans.length (intsG ans)) (hA : ∀ b, A b → b < X.heap.size ∧ b ≠ rb ∧ ¬ S b) (hal : ans.length ≤ 100000) :
  Calls Tryd.prog 56 #[.pointer (some ⟨rb, 0, none⟩), .string ⟨nm.toArray⟩, av] X fun e w' => e = .returned (.int .i64 (if ans.length ≤ s.calls.length then 0 else ans.getD s.calls.length 0)) ∧ RecTo S X rb (callR ans nm vs s) ansv most steps w' := by
 have HE := hidX h
 obtain ⟨outv, callv, xs, h⟩ := h
 obtain ⟨oad, ocap, rfl⟩ := own_is h.call
 obtain ⟨aad, acap, rfl⟩ := hav.is
 obtain ⟨nad, ncap, rfl⟩ := hans.is
 have c4 : X.cell? ⟨rb, 4, none⟩ = some (.slice oad s.calls.length ocap) := cell_of_blk h.blk 4
 have c5 : X.cell? ⟨rb, 5, none⟩ = some (.slice nad ans.length ncap) := cell_of_blk h.blk 5
 have hal' : (ans.length : Int) ≤ 100000 := by omega
 unfold callR
 by_cases hf : ans.length ≤ s.calls.length
 ·rw [if_pos hf, if_pos hf]
  have hf' : (ans.length : Int) ≤ (s.calls.length : Int) := by omega
  have HST := hidX (stop_r HE.out hOver)
  clear h hf hans hav
  go_enter Tryd.func56, Tryd.ntmps56
  go_wp2_with fail
  refine HST.out.mono ?_
  rintro e w' ⟨rfl, h1⟩
  have H1 := hidX h1
  clear h1
  go_wp2
  go_ret
  exact ⟨rfl, H1.out⟩
 ·rw [if_neg hf, if_neg hf]
  have hf' : (s.calls.length : Int) < (ans.length : Int) := by omega
  have hrl := h.rl
  obtain ⟨ga, offa, e2, hga, ka⟩ := hans.int (k := s.calls.length) (by omega)
  subst e2
  have hgd : ans.getD s.calls.length 0 = ans[s.calls.length] := by simp [show s.calls.length < ans.length by omega]
  rw [hgd]
  generalize ans[s.calls.length]'(by omega) = x at *
  have hgal := hA ga hga
  have HK := hidX (fun (W : World) (hW : Below X.heap.size X W) => (show W.cell? ⟨rb, 4, none⟩ = some (.slice oad s.calls.length ocap) from (hW.cell (p := ⟨rb, 4, none⟩) hrl).trans c4))
  obtain ⟨i0, hi0, iz0, iz1, iz2⟩ := info_parts cl_info
  have HJ := hidX h
  have HAV := hidX hav
  have HKA := hidX ka
  clear h hf hans hav hgd ka hA HE
  go_enter Tryd.func56, Tryd.ntmps56
  go_wp2_with fail
  clear c5
  refine wp_region_until (fun W => W.cell? ⟨rb, 4, none⟩ = some (.slice oad s.calls.length ocap)) 16 (by kernel_rfl) (HK.out _ (by (repeat (first | exact Below.refl _ _ | assumption | refine Below.drew ?_ | refine bT ?_ _ | refine bS ?_ _ | refine bA ?_ _)))) (fun hHeld => ?_)
  refine wpAnyU_put 0 (some 23) (v := ?v0) rfl rfl (by kernel_rfl) (by kernel_rfl) (by kernel_rfl) (by kernel_rfl) (fun _ _ _ h => h) (Or.inl ⟨by rfl, ?hy0⟩) hHeld ?rest0
  case hy0 => (intro w2 hSw; (try dsimp only at hSw); first | (go_simp; done) | (go_simp; with_reducible rfl))
  simp only [Act.put, List.setIfInBounds_toArray, List.set_cons_zero, List.set_cons_succ]
  refine wpAnyU_put 1 (some 24) (v := ?v1) rfl rfl (by kernel_rfl) (by kernel_rfl) (by kernel_rfl) (by kernel_rfl) (fun _ _ _ h => h) (Or.inl ⟨by rfl, ?hy1⟩) hHeld ?rest1
  case hy1 => (intro w2 hSw; (try dsimp only at hSw); first | (go_simp; done) | (go_simp; with_reducible rfl))
  simp only [Act.put, List.setIfInBounds_toArray, List.set_cons_zero, List.set_cons_succ]
  refine wpAnyU_put 2 (some 25) (v := ?v2) rfl rfl (by kernel_rfl) (by kernel_rfl) (by kernel_rfl) (by kernel_rfl) (fun _ _ _ h => h) (Or.inl ⟨by rfl, ?hy2⟩) hHeld ?rest2
  case hy2 => (intro w2 hSw; (try dsimp only at hSw); first | (go_simp; done) | (go_simp; with_reducible rfl))
  simp only [Act.put, List.setIfInBounds_toArray, List.set_cons_zero, List.set_cons_succ]
  refine wpAnyU_put 3 (some 26) (v := ?v3) rfl rfl (by kernel_rfl) (by kernel_rfl) (by kernel_rfl) (by kernel_rfl) (fun _ _ _ h => h) (Or.inl ⟨by rfl, ?hy3⟩) hHeld ?rest3
  case hy3 => (intro w2 hSw; (try dsimp only at hSw); first | (go_simp; done) | (go_simp; with_reducible rfl))
  simp only [Act.put, List.setIfInBounds_toArray, List.set_cons_zero, List.set_cons_succ]
  refine wpAnyU_put 4 (some 27) (v := ?v4) rfl rfl (by kernel_rfl) (by kernel_rfl) (by kernel_rfl) (by kernel_rfl) (fun _ _ _ h => h) (Or.inl ⟨by rfl, ?hy4⟩) hHeld ?rest4
  case hy4 => (intro w2 hSw; (try dsimp only at hSw); first | (go_simp; done) | (go_simp; with_reducible rfl))
  simp only [Act.put, List.setIfInBounds_toArray, List.set_cons_zero, List.set_cons_succ]
  refine wpAnyU_put 5 (some 28) (v := ?v5) rfl rfl (by kernel_rfl) (by kernel_rfl) (by kernel_rfl) (by kernel_rfl) (fun _ _ _ h => h) (Or.inl ⟨by rfl, ?hy5⟩) hHeld ?rest5
  case hy5 => (intro w2 hSw; (try dsimp only at hSw); first | (go_simp; done) | (go_simp; with_reducible rfl))
  simp only [Act.put, List.setIfInBounds_toArray, List.set_cons_zero, List.set_cons_succ]
  refine wpAnyU_put 6 (some 29) (v := ?v6) rfl rfl (by kernel_rfl) (by kernel_rfl) (by kernel_rfl) (by kernel_rfl) (fun _ _ _ h => h) (Or.inl ⟨by rfl, ?hy6⟩) hHeld ?rest6
  case hy6 => (intro w2 hSw; (try dsimp only at hSw); first | (go_simp; done) | (go_simp; with_reducible rfl))
  simp only [Act.put, List.setIfInBounds_toArray, List.set_cons_zero, List.set_cons_succ]
  refine wpAnyU_put 8 (some 31) (v := ?v8) rfl rfl (by kernel_rfl) (by kernel_rfl) (by kernel_rfl) (by kernel_rfl) (fun _ _ _ h => h) (Or.inl ⟨by rfl, ?hy8⟩) hHeld ?rest8
  case hy8 => (intro w2 hSw; (try dsimp only at hSw); first | (go_simp; done) | (go_simp; with_reducible rfl))
  simp only [Act.put, List.setIfInBounds_toArray, List.set_cons_zero, List.set_cons_succ]
  have hbb : Below X.heap.size X (X.drew.alloc (.cells #[] 3)) := by (repeat (first | exact Below.refl _ _ | assumption | refine Below.drew ?_ | refine bT ?_ _ | refine bS ?_ _ | refine bA ?_ _))
  have s7 := HK.out _ hbb
  refine wpAnyU_one (i := 7) (by kernel_rfl) rfl (fun K7 hK7 => ?_)
  go_simp
  refine hK7.out _ _ (fun _ => s7) (fun _ => ?_)
  clear hK7 hHeld K7
  refine wpAnyU_one (i := 9) (by kernel_rfl) rfl (fun K9 hK9 => ?_)
  refine step_append_e rfl (.tmp 30) (.tmp 31) rfl X.heap.size (heap_alloc_new X.drew _) rfl _ rfl vs hvl (HAV.out.imp (inH_up hbb) (keepH hbb)) ?_
  intro ad9 cap9 W9 hr9 hb9
  have hbx9 : Below X.heap.size X W9 := hbb.trans (hb9.below (by simp))
  have s9 := HK.out _ hbx9
  have HR9 := hidX hr9
  have HB9 := hidX hbx9
  change K9 (Act.put _ (some 32) _) W9
  refine hK9.out _ _ (fun _ => s9) (fun hHeld => ?_)
  clear hK9 K9 hr9 hb9 hbb s7
  simp only [Act.put, List.setIfInBounds_toArray, List.set_cons_zero, List.set_cons_succ]
  refine wpAnyU_one (i := 10) (by kernel_rfl) rfl (fun K10 hK10 => ?_)
  go_simp
  refine hK10.out _ _ (fun _ => HK.out _ HB9.out) (fun _ => ?_)
  clear hK10 K10
  have hbd : Below W9.heap.size W9 (W9.alloc (.cells #[.string ⟨nm.toArray⟩, .slice ad9 vs.length cap9] 76)) := by (repeat (first | exact Below.refl _ _ | assumption | refine Below.drew ?_ | refine bT ?_ _ | refine bS ?_ _ | refine bA ?_ _))
  have hbd' := bl_trans HB9.out HB9.out.size hbd
  have s11 := HK.out _ hbd'
  refine wpAnyU_one (i := 11) (by kernel_rfl) rfl (fun K11 hK11 => ?_)
  go_simp
  refine hK11.out _ _ (fun _ => s11) (fun _ => ?_)
  clear hK11 K11 hHeld
  refine wpAnyU_one (i := 12) (by kernel_rfl) rfl (fun K12 hK12 => ?_)
  refine step_append_lies _ rfl (.tmp 28) (.tmp 34) 46 rfl 0 76 i0 _ 2 40 Tryd.underlying46 hi0 iz0 iz1 iz2 rfl (by decide) (.slice oad s.calls.length ocap) s.calls.length xs rfl (owns_below HJ.out.call hbd') ⟨W9.heap.size, 0, none⟩ 1 1 [.string ⟨nm.toArray⟩, .slice ad9 vs.length cap9] rfl rfl (World.news_of_block (heap_alloc_new W9 _)) (cl_one nm ⟨_, _, _, rfl⟩) (by decide) (by unfold maxLen; omega) (by omega) (Nat.zero_le _) _ rfl ?_
  intro g4 cap4 W4 ho4 hg4 hl4 _
  have hpr := HJ.out.called (vs := vs) (nm := nm) (av := .slice ad9 vs.length cap9) hbd' hg4 ho4 (HR9.out.imp (fun b hb => ⟨hb.1, by have := hb.2; have := hbd.size; omega⟩) (fun b hb => hbd.block b hb.2)) (by
   rcases hl4 with e | e
   ·exact Or.inl e.symm
   ·right; exact ⟨g4, by simp only [Value.ownBlock], by rw [e]; exact Nat.le_refl _⟩)
  have hrb4 := (hpr.1 rb hrl (fun e => (HJ.out.sl rb e).2 rfl)).trans HJ.out.blk
  have s4 : W4.cell? ⟨rb, 4, none⟩ = some (.slice oad s.calls.length ocap) := cell_of_blk hrb4 4
  have fr4 := free_of_blk hrb4 4
  have hset := blk_setCell hrb4 4 (.slice (some ⟨g4, 0, none⟩) (s.calls.length + 1) cap4)
  have d5 := cell_of_blk hset 5
  simp only [List.setIfInBounds_toArray, List.set_cons_zero, List.set_cons_succ, List.getElem?_toArray, List.getElem?_cons_zero, List.getElem?_cons_succ] at d5
  have da : (W4.setCell ⟨rb, 4, none⟩ (.slice (some ⟨g4, 0, none⟩) (s.calls.length + 1) cap4)).cell? ⟨ga, offa + s.calls.length, none⟩ = some (.int .i64 x) := (World.cell?_of_block (a := ⟨ga, offa + s.calls.length, none⟩) ((Below.heap_setCell _ _ _ _ hgal.2.1).trans (hpr.1 ga hgal.1 hgal.2.2))).trans HKA.out
  have HH4 := hidX s4
  have HFN := hidX hpr.2
  change K12 (Act.put _ (some 35) _) W4
  refine hK12.out _ _ (fun _ => HH4.out) (fun _ => ?_)
  clear hK12 K12 hpr hset hrb4 ho4 hg4 hl4 hbd hbd' s11
  simp only [Act.put, List.setIfInBounds_toArray, List.set_cons_zero, List.set_cons_succ]
  refine wpAnyU_one (i := 13) (by kernel_rfl) rfl (fun K13 hK13 => ?_)
  go_simp
  refine hK13.out _ _ (fun _ => HH4.out) (fun _ => ?_)
  clear hK13 K13
  refine wpAnyU_one (i := 14) (by kernel_rfl) rfl (fun K14 hK14 => ?_)
  go_simp
  refine hK14.out _ _ (fun _ => HH4.out) (fun _ => ?_)
  clear hK14 K14
  refine wpAnyU_one (i := 15) (by kernel_rfl) rfl (fun K15 hK15 => ?_)
  go_simp
  refine hK15.out _ _ (fun _ => HH4.out) (fun _ => ?_)
  clear hK15 K15
  refine wpAnyU_one (i := 16) (by kernel_rfl) rfl (fun K16 hK16 => ?_)
  go_simp
  refine hK16.out _ _ (fun h => absurd rfl h) (fun _ => ?_)
  clear hK16 K16
  refine wpAnyU_done (by kernel_rfl) ?_ _
  go_wp2
  go_ret
  exact ⟨rfl, HFN.out⟩
end
end Go.Proofs.YtimccbilkjjakaaDoor
namespace Go.Proofs.YtimccbilkjjakaaDoor
open Go.RowKit
def DoneV (w : World) (v : Value) (st : Rst) : Prop := ∃ outv callv xs, v = .agg #[.string ⟨st.how.toArray⟩, .int .i64 st.val, .int .i64 st.tks, outv, callv] ∧ XRow (InH w) w outv st.out.length (intsG st.out) ∧ XRow (InH w) w callv st.calls.length xs ∧ XCs (InH w) w st.calls xs
theorem done_of {S : Nat → Prop} {X Y : World} {rb : Nat} {s : Rst} {ansv : Value} {most steps : Int} {outv callv : Value} {xs : List Value} (h : RecJ S X rb s ansv most steps outv callv xs) (hf : ∀ k, S k → Y.heap[k]? = X.heap[k]?) (hz : Y.heap.size = X.heap.size) : DoneV Y (.agg #[.string ⟨s.how.toArray⟩, .int .i64 s.val, .int .i64 s.tks, outv, callv]) s := by
 have hrow : ∀ {t : TypeId} {size n : Nat} {v : Value} {ys : List Value}, X.ownsRow 0 t size v n ys → (∀ b, v.ownBlock = some b → S b) → XRow (InH Y) Y v n ys := fun {t size n v ys} ho hs => by
  have h1 := xrow_own (own_same ho (fun b e => hf b (hs b e)))
  exact h1.imp (fun b hb => hb.2) (fun _ _ => rfl)
 exact ⟨outv, callv, xs, rfl, hrow h.out h.outS, hrow h.call h.callS, h.tel.imp (fun b hb => by show b < Y.heap.size; rw [hz]; exact (h.sl b hb.1).1) (fun b hb => hf b hb.1)⟩
end Go.Proofs.YtimccbilkjjakaaDoor
