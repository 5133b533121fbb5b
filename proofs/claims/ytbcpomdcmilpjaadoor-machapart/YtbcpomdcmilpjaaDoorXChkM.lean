/- Our own: texts joined: MaChkF, MaChkW, MaChkV. -/
import Derived.Test.YtbcpomdcmilpjaaDoorXWellM
import Derived.Test.YtbcpomdcmilpjaaDoorXMaSt
import Derived.Test.YtbcpomdcmilpjaaDoorXNmMap
namespace Go.Proofs.YtbcpomdcmilpjaaDoor
open Go.RowKit
structure SenM (w : World) (a : Nat → Addr) : Prop where
 bound : w.cell? ⟨2, 0, none⟩ = some (sentV (a 1))
 shape : w.cell? ⟨5, 0, none⟩ = some (sentV (a 2))
 kind : w.cell? ⟨6, 0, none⟩ = some (sentV (a 3))
 name : w.cell? ⟨7, 0, none⟩ = some (sentV (a 4))
 gone : w.cell? ⟨0, 0, none⟩ = some (sentV (a 5))
 full : w.cell? ⟨3, 0, none⟩ = some (sentV (a 7))
 args : w.cell? ⟨1, 0, none⟩ = some (sentV (a 8))
theorem SenM.below {w w' : World} {a : Nat → Addr} (h : SenM w a) (hb : Below w.heap.size w w') : SenM w' a :=
 ⟨by rw [hb.cell (cell_lt h.bound)]; exact h.bound, by rw [hb.cell (cell_lt h.shape)]; exact h.shape, by rw [hb.cell (cell_lt h.kind)]; exact h.kind, by rw [hb.cell (cell_lt h.name)]; exact h.name, by rw [hb.cell (cell_lt h.gone)]; exact h.gone, by rw [hb.cell (cell_lt h.full)]; exact h.full, by rw [hb.cell (cell_lt h.args)]; exact h.args⟩
theorem SenM.code {w : World} {a : Nat → Addr} (h : SenM w a) : CdG w (fun c => a (errM c - 1)) := ⟨h.kind, h.bound, h.shape⟩
def errS (a : Nat → Addr) (c : Nat) : Value := if c = 0 then .nilIface else sentV (a (c - 1))
set_option maxRecDepth 100000 in
set_option maxHeartbeats 4000000 in
theorem checkFun_any {w : World} {a : Nat → Addr} (hS : SenM w a) (I : Im) (i : Nat) (f : Mf) (hn : f.name.length ≤ 4000) (hwl : I.words.length ≤ 8000) (fv : Value) (adf : Option Addr) (lf cf : Nat) (hfv : fv = .slice adf lf cf) (adw : Option Addr) (cw : Nat) (b : Nat) (g : List UInt8 → Int) (hM : NmAt w b ((I.funs.take i).map Mf.name) g) :
  Calls Tryd.prog 31 #[.agg #[fv, .slice adw I.words.length cw], .agg #[.string ⟨f.name.toArray⟩, .int .i64 f.params, .int .i64 f.slots, .int .i64 f.entry], .map (some b)] w fun e w' => e = .returned (errS a (funN I i f)) ∧ Below w.heap.size w w' := by
 subst hfv
 obtain ⟨nm, P, S, E⟩ := f
 have hn : nm.length ≤ 4000 := hn
 have hml := hM.lt
 generalize hks : (I.funs.take i).map Mf.name = ks at *
 have hr : funN I i ⟨nm, P, S, E⟩ = if nm = [] ∨ nm ∈ ks then 5 else if P < 0 ∨ 4 < P then 9 else if S < 0 ∨ 1000 < S ∨ E < 0 ∨ (I.words.length : Int) ≤ E then 2 else 0 := by rw [← hks]; rfl
 generalize funN I i ⟨nm, P, S, E⟩ = r at hr ⊢
 have HR := hidX hr
 have hw8 : (I.words.length : Int) ≤ 8000 := by omega
 generalize I.words.length = nw at *
 obtain ⟨W0, hW0⟩ : ∃ W0, W0 = (w.alloc (.cells #[.slice adf lf cf, .slice adw nw cw] 37)).alloc (.cells #[.string ⟨nm.toArray⟩, .int .i64 P, .int .i64 S, .int .i64 E] 51) := ⟨_, rfl⟩
 have hb0 : Below w.heap.size w W0 := by rw [hW0]; (repeat (first | exact Below.refl _ _ | assumption | refine Below.drew ?_ | refine bT ?_ _ | refine bS ?_ _ | refine bA ?_ _))
 obtain ⟨v, hlk, _⟩ := hM.look nm hn W0 (hb0.block _ hml)
 have s5 := (hS.below hb0).name
 have s9 := (hS.below hb0).args
 have s2 := (hS.below hb0).bound
 have HB0 := hidX hb0
 rw [hW0] at hlk s5 s9 s2
 clear hS hM hr hks hb0 hn
 by_cases h1 : nm = []
 ·have hr : r = 5 := by rw [HR.out, if_pos (Or.inl h1)]
  subst hr h1
  generalize decide (([] : List UInt8) ∈ ks) = kn at hlk
  go_enter Tryd.func31, Tryd.ntmps31
  go_wp2
  go_ret
  exact ⟨rfl, by rw [← hW0]; exact HB0.out⟩
 have e1 : nm.isEmpty = false := nil_lit h1
 by_cases h2 : nm ∈ ks
 ·have hr : r = 5 := by rw [HR.out, if_pos (Or.inr h2)]
  subst hr
  rw [decide_eq_true h2] at hlk
  clear h1 h2
  go_enter Tryd.func31, Tryd.ntmps31
  go_wp2
  go_ret
  exact ⟨rfl, by rw [← hW0]; exact HB0.out⟩
 rw [decide_eq_false h2] at hlk
 have HR1 := hidX (show r = if P < 0 ∨ 4 < P then 9 else if S < 0 ∨ 1000 < S ∨ E < 0 ∨ (nw : Int) ≤ E then 2 else 0 from by rw [HR.out, if_neg (by rintro (h | h); exact h1 h; exact h2 h)])
 clear h1 h2 HR
 by_cases h3 : P < 0
 ·have hr : r = 9 := by rw [HR1.out, if_pos (Or.inl h3)]
  subst hr
  go_enter Tryd.func31, Tryd.ntmps31
  go_wp2
  go_ret
  exact ⟨rfl, by rw [← hW0]; exact HB0.out⟩
 by_cases h4 : 4 < P
 ·have hr : r = 9 := by rw [HR1.out, if_pos (Or.inr h4)]
  subst hr
  go_enter Tryd.func31, Tryd.ntmps31
  go_wp2
  go_ret
  exact ⟨rfl, by rw [← hW0]; exact HB0.out⟩
 have HR2 := hidX (show r = if S < 0 ∨ 1000 < S ∨ E < 0 ∨ (nw : Int) ≤ E then 2 else 0 from by rw [HR1.out, if_neg (by omega)])
 clear HR1
 by_cases h5 : S < 0
 ·have hr : r = 2 := by rw [HR2.out, if_pos (by omega)]
  subst hr
  go_enter Tryd.func31, Tryd.ntmps31
  go_wp2
  go_ret
  exact ⟨rfl, by rw [← hW0]; exact HB0.out⟩
 by_cases h6 : 1000 < S
 ·have hr : r = 2 := by rw [HR2.out, if_pos (by omega)]
  subst hr
  go_enter Tryd.func31, Tryd.ntmps31
  go_wp2
  go_ret
  exact ⟨rfl, by rw [← hW0]; exact HB0.out⟩
 by_cases h7 : E < 0
 ·have hr : r = 2 := by rw [HR2.out, if_pos (by omega)]
  subst hr
  go_enter Tryd.func31, Tryd.ntmps31
  go_wp2
  go_ret
  exact ⟨rfl, by rw [← hW0]; exact HB0.out⟩
 by_cases h8 : (nw : Int) ≤ E
 ·have hr : r = 2 := by rw [HR2.out, if_pos (by omega)]
  subst hr
  go_enter Tryd.func31, Tryd.ntmps31
  go_wp2
  go_ret
  exact ⟨rfl, by rw [← hW0]; exact HB0.out⟩
 have hr : r = 0 := by rw [HR2.out, if_neg (by omega)]
 subst hr
 go_enter Tryd.func31, Tryd.ntmps31
 go_wp2
 go_ret
 exact ⟨rfl, by rw [← hW0]; exact HB0.out⟩
end Go.Proofs.YtbcpomdcmilpjaaDoor
namespace Go.Proofs.YtbcpomdcmilpjaaDoor
open Go.RowKit Go.Maps
def bndK : List (List UInt8) := [mJump, mIf, mCall, mLoad, mStore, mParam, mArg]
def bndF (nf nw : Int) (s : List UInt8) : Int := if s = mJump ∨ s = mIf then nw else if s = mCall then nf else if s = mLoad ∨ s = mStore then 1000 else 4
set_option maxRecDepth 100000 in
set_option maxHeartbeats 4000000 in
theorem bounds_any {w : World} (nf nw : Nat) (hf : nf ≤ 8) (hw : nw ≤ 8000) (adf adw : Option Addr) (cf cw : Nat) :
  Calls Tryd.prog 32 #[.agg #[.slice adf nf cf, .slice adw nw cw]] w fun e w' => ∃ b, e = .returned (.map (some b)) ∧ Below w.heap.size w w' ∧ w.heap.size ≤ b ∧ NmAt w' b bndK (bndF nf nw) := by
 have hmm := @run_makeMap Tryd.prog
 obtain ⟨W0, hW0⟩ : ∃ W0, W0 = (w.alloc (.cells #[.slice adf nf cf, .slice adw nw cw] 37)).alloc (.map #[] 0) := ⟨_, rfl⟩
 have hb0 : Below w.heap.size w W0 := by rw [hW0]; (repeat (first | exact Below.refl _ _ | assumption | refine Below.drew ?_ | refine bT ?_ _ | refine bS ?_ _ | refine bA ?_ _))
 have hx0 : W0.heap[w.heap.size]? = some (.cells #[.slice adf nf cf, .slice adw nw cw] 37 (0, 0)) := by
  rw [hW0]
  exact (Below.heap_alloc (w.alloc _) _ _ (by simp)).trans (heap_alloc_new w _)
 have hz0 : W0.heap.size = w.heap.size + 2 := by rw [hW0]; simp
 have hm0 : NmAt W0 (w.heap.size + 1) [] (bndF nf nw) := by
  have := nmAt_made (w.alloc (.cells #[.slice adf nf cf, .slice adw nw cw] 37)) (bndF nf nw)
  rw [World.size_alloc] at this
  rw [hW0]
  exact this
 have hf8 : (nf : Int) ≤ 8 := by omega
 have hw8 : (nw : Int) ≤ 8000 := by omega
 obtain ⟨W1, u1, hm1, g1⟩ := hm0.put (by decide) mJump (by decide) (by decide) (nw : Int) (by omega) (by first | rfl | (unfold bndF; simp [mJump, mIf, mCall, mLoad, mStore, mParam, mArg])) W0 rfl
 obtain ⟨W2, u2, hm2, g2⟩ := hm1.put (by decide) mIf (by decide) (by decide) (nw : Int) (by omega) (by first | rfl | (unfold bndF; simp [mJump, mIf, mCall, mLoad, mStore, mParam, mArg])) W1 rfl
 obtain ⟨W3, u3, hm3, g3⟩ := hm2.put (by decide) mCall (by decide) (by decide) (nf : Int) (by omega) (by first | rfl | (unfold bndF; simp [mJump, mIf, mCall, mLoad, mStore, mParam, mArg])) W2 rfl
 obtain ⟨W4, u4, hm4, g4⟩ := hm3.put (by decide) mLoad (by decide) (by decide) 1000 (by omega) (by first | rfl | (unfold bndF; simp [mJump, mIf, mCall, mLoad, mStore, mParam, mArg])) W3 rfl
 obtain ⟨W5, u5, hm5, g5⟩ := hm4.put (by decide) mStore (by decide) (by decide) 1000 (by omega) (by first | rfl | (unfold bndF; simp [mJump, mIf, mCall, mLoad, mStore, mParam, mArg])) W4 rfl
 obtain ⟨W6, u6, hm6, g6⟩ := hm5.put (by decide) mParam (by decide) (by decide) 4 (by omega) (by first | rfl | (unfold bndF; simp [mJump, mIf, mCall, mLoad, mStore, mParam, mArg])) W5 rfl
 obtain ⟨W7, u7, hm7, g7⟩ := hm6.put (by decide) mArg (by decide) (by decide) 4 (by omega) (by first | rfl | (unfold bndF; simp [mJump, mIf, mCall, mLoad, mStore, mParam, mArg])) W6 rfl
 have hlow : ∀ {X Y : World}, X.grownBy Y (some (w.heap.size + 1)) → Below w.heap.size w X → w.heap.size + 1 < X.heap.size → X.heap[w.heap.size]? = some (.cells #[.slice adf nf cf, .slice adw nw cw] 37 (0, 0)) → Below w.heap.size w Y ∧ w.heap.size + 1 < Y.heap.size ∧ Y.heap[w.heap.size]? = some (.cells #[.slice adf nf cf, .slice adw nw cw] 37 (0, 0)) := fun {X Y} g hb hz hx =>
  ⟨⟨g.os.trans hb.os, g.tape.trans hb.tape, g.output.trans hb.output, Nat.le_trans hb.size g.size, fun c hc => (g.block c (by have := hb.size; omega) (fun e => by injection e with e; omega)).trans (hb.block c hc)⟩, Nat.lt_of_lt_of_le hz g.size, (g.block _ (by omega) (fun e => by injection e with e; omega)).trans hx⟩
 obtain ⟨b1, z1, x1⟩ := hlow g1 hb0 (by omega) hx0
 obtain ⟨b2, z2, x2⟩ := hlow g2 b1 z1 x1
 obtain ⟨b3, z3, x3⟩ := hlow g3 b2 z2 x2
 obtain ⟨b4, z4, x4⟩ := hlow g4 b3 z3 x3
 obtain ⟨b5, z5, x5⟩ := hlow g5 b4 z4 x4
 obtain ⟨b6, z6, x6⟩ := hlow g6 b5 z5 x5
 obtain ⟨b7, z7, x7⟩ := hlow g7 b6 z6 x6
 have c1 : W1.cell? ⟨w.heap.size, 1, none⟩ = some (.slice adw nw cw) := cell_of_blk x1 1
 have c2 : W2.cell? ⟨w.heap.size, 0, none⟩ = some (.slice adf nf cf) := cell_of_blk x2 0
 have u1 : (Instr.mapUpdate 84 (.map (some (w.heap.size + 1))) (.string ⟨([106, 117, 109, 112] : List UInt8).toArray⟩) (.int .i64 (nw : Int))).run Tryd.prog W0 = .ok () W1 := u1
 have u2 : (Instr.mapUpdate 84 (.map (some (w.heap.size + 1))) (.string ⟨([105, 102] : List UInt8).toArray⟩) (.int .i64 (nw : Int))).run Tryd.prog W1 = .ok () W2 := u2
 have u3 : (Instr.mapUpdate 84 (.map (some (w.heap.size + 1))) (.string ⟨([99, 97, 108, 108] : List UInt8).toArray⟩) (.int .i64 (nf : Int))).run Tryd.prog W2 = .ok () W3 := u3
 have u4 : (Instr.mapUpdate 84 (.map (some (w.heap.size + 1))) (.string ⟨([108, 111, 97, 100] : List UInt8).toArray⟩) (.int .i64 1000)).run Tryd.prog W3 = .ok () W4 := u4
 have u5 : (Instr.mapUpdate 84 (.map (some (w.heap.size + 1))) (.string ⟨([115, 116, 111, 114, 101] : List UInt8).toArray⟩) (.int .i64 1000)).run Tryd.prog W4 = .ok () W5 := u5
 have u6 : (Instr.mapUpdate 84 (.map (some (w.heap.size + 1))) (.string ⟨([112, 97, 114, 97, 109] : List UInt8).toArray⟩) (.int .i64 4)).run Tryd.prog W5 = .ok () W6 := u6
 have u7 : (Instr.mapUpdate 84 (.map (some (w.heap.size + 1))) (.string ⟨([97, 114, 103] : List UInt8).toArray⟩) (.int .i64 4)).run Tryd.prog W6 = .ok () W7 := u7
 rw [hW0] at u1
 have HM := hidX (show NmAt W7 (w.heap.size + 1) bndK (bndF nf nw) from hm7)
 have HB := hidX b7
 clear hW0 hb0 hx0 hz0 hm0 hm1 hm2 hm3 hm4 hm5 hm6 hm7 g1 g2 g3 g4 g5 g6 g7 hlow b1 b2 b3 b4 b5 b6 b7 z1 z2 z3 z4 z5 z6 z7 x1 x2 x3 x4 x5 x6 x7
 go_enter Tryd.func32, Tryd.ntmps32
 go_wp2
 go_ret
 exact ⟨_, rfl, HB.out, by omega, HM.out⟩
end Go.Proofs.YtbcpomdcmilpjaaDoor
namespace Go.Proofs.YtbcpomdcmilpjaaDoor
open Go.RowKit Go.Maps
theorem most_is (I : Im) (op : List UInt8) : mostOf I op = if op ∈ bndK then some (bndF I.funs.length I.words.length op) else none := by
 unfold mostOf bndF
 by_cases h1 : op = mJump ∨ op = mIf
 ·rw [if_pos h1, if_pos (by rcases h1 with rfl | rfl <;> decide), if_pos h1]
 ·rw [if_neg h1]
  by_cases h2 : op = mCall
  ·rw [if_pos h2, if_pos (by rw [h2]; decide), if_neg h1, if_pos h2]
  ·rw [if_neg h2]
   by_cases h3 : op = mLoad ∨ op = mStore
   ·rw [if_pos h3, if_pos (by rcases h3 with rfl | rfl <;> decide), if_neg h1, if_neg h2, if_pos h3]
   ·rw [if_neg h3]
    by_cases h4 : op = mParam ∨ op = mArg
    ·rw [if_pos h4, if_pos (by rcases h4 with rfl | rfl <;> decide), if_neg h1, if_neg h2, if_neg h3]
    ·rw [if_neg h4, if_neg]
     intro h
     simp only [bndK, List.mem_cons, List.not_mem_nil, or_false] at h
     rcases h with h | h | h | h | h | h | h
     ·exact h1 (Or.inl h)
     ·exact h1 (Or.inr h)
     ·exact h2 h
     ·exact h3 (Or.inl h)
     ·exact h3 (Or.inr h)
     ·exact h4 (Or.inl h)
     ·exact h4 (Or.inr h)
theorem coL_short : ∀ o ∈ coL, o.kind.length ≤ 10 := by decide
theorem decR_short {v : Nat} (h : coChk (coNum (v / 72057594037927936)) (decC v) = 0) : (decR v).op.length ≤ 10 := by
 have hd : decR v = decC v := by unfold decR; rw [if_pos h]
 rw [hd]
 exact coL_short _ (coNum_mem (chk_ok h).1)
set_option maxRecDepth 100000 in
set_option maxHeartbeats 4000000 in
theorem checkWord_any {w : World} {a : Nat → Addr} (hS : SenM w a) (hT : TabC w) (I : Im) (v : Nat) (hv : v < 18446744073709551616) (b : Nat) (hM : NmAt w b bndK (bndF I.funs.length I.words.length)) :
  Calls Tryd.prog 33 #[.int .u64 (v : Int), .map (some b)] w fun e w' => e = .returned (errS a (wdN I v)) ∧ Below w.heap.size w w' := by
 have hdec := hidX (dec_any v hv (fun c => a (errM c - 1)) w hT hS.code)
 generalize hr : wdN I v = r
 have hw' : r = if insM v ≠ 0 then insM v else if outM (mostOf I (decR v).op) (decR v).imm then 2 else 0 := by rw [← hr]; rfl
 rw [most_is] at hw'
 have hins : insM v = errM (coChk (coNum (v / 72057594037927936)) (decC v)) := rfl
 have hsh := hidX (fun h => decR_short (v := v) h)
 have hmb := hM.lt
 have HM := hidX hM
 have HS := hidX hS
 generalize coChk (coNum (v / 72057594037927936)) (decC v) = c at hdec hins hsh
 rw [hins] at hw'
 generalize decR v = i at *
 obtain ⟨op, D, A, B, imm⟩ := i
 have HW := hidX hw'
 have himm : Hid (c = 0 → True) := fun _ => trivial
 clear hS hT hM hr hw' hins himm
 by_cases hc : c = 0
 ·subst hc
  have hop : op.length ≤ 10 := hsh.out rfl
  have hmost := HW.out
  rw [show errM 0 = 0 from rfl, if_neg (by decide)] at hmost
  have HW2 := hidX hmost
  rw [show erV (fun c => a (errM c - 1)) 0 = .nilIface from rfl] at hdec
  have hlk := fun W (hb : Below w.heap.size w W) => HM.out.look op (by omega) W (hb.block _ hmb)
  have HLK := hidX hlk
  clear hmost HW hlk hsh
  go_enter Tryd.func33, Tryd.ntmps33
  go_wp2_with fail
  refine hdec.out.mono ?_
  rintro e w1 ⟨rfl, hb1⟩
  have hb2 : Below w.heap.size w (w1.alloc (.cells #[.string ⟨op.toArray⟩, .int .i64 D, .int .i64 A, .int .i64 B, .int .i64 imm] 91)) := bl_trans hb1 hb1.size (box_blk _ _ _)
  obtain ⟨n, hlk, hn⟩ := HLK.out _ hb2
  have s2 := (HS.out.below hb2).bound
  have HB2 := hidX hb2
  clear hb1 hb2 HLK
  by_cases hk : op ∈ bndK
  ·have hn := hn hk
   have HW3 := hidX (show r = if outM (some n) imm then 2 else 0 from by rw [HW2.out, if_pos hk, hn])
   rw [decide_eq_true hk] at hlk
   clear hk HW2 hn
   by_cases h1 : imm < 0
   ·have hr : r = 2 := by rw [HW3.out, if_pos (by simp [outM, h1])]
    subst hr
    go_wp2
    go_ret
    exact ⟨rfl, HB2.out⟩
   ·by_cases h2 : n ≤ imm
    ·have hr : r = 2 := by rw [HW3.out, if_pos (by simp [outM, h2])]
     subst hr
     go_wp2
     go_ret
     exact ⟨rfl, HB2.out⟩
    ·have hr : r = 0 := by rw [HW3.out, if_neg (by simp only [outM, decide_eq_true_eq]; omega)]
     subst hr
     go_wp2
     go_ret
     exact ⟨rfl, HB2.out⟩
  ·have hr : r = 0 := by rw [HW2.out, if_neg hk]; rfl
   rw [decide_eq_false hk] at hlk
   subst hr
   clear hk HW2
   go_wp2
   go_ret
   exact ⟨rfl, HB2.out⟩
 ·have hm : errM c ≠ 0 := by unfold errM; split <;> (try split) <;> (try split) <;> first | (exfalso; exact hc (by assumption)) | decide
  have hr : r = errM c := by rw [HW.out, if_pos hm]
  rw [show erV (fun c => a (errM c - 1)) c = sentV (a (errM c - 1)) from if_neg hc] at hdec
  have he : errS a r = sentV (a (errM c - 1)) := by rw [hr]; exact if_neg hm
  rw [he]
  clear hm hr he HW hc hsh
  generalize a (errM c - 1) = ad at hdec
  go_enter Tryd.func33, Tryd.ntmps33
  go_wp2_with fail
  refine hdec.out.mono ?_
  rintro e w1 ⟨rfl, hb1⟩
  have HB2 := hidX (show Below w.heap.size w (w1.alloc (.cells #[.string ⟨op.toArray⟩, .int .i64 D, .int .i64 A, .int .i64 B, .int .i64 imm] 91)) from bl_trans hb1 hb1.size (box_blk _ _ _))
  clear hb1
  go_wp2
  go_ret
  exact ⟨rfl, HB2.out⟩
end Go.Proofs.YtbcpomdcmilpjaaDoor
