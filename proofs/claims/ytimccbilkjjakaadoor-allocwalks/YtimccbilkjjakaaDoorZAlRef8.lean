/- Our own: texts joined: AlRef8. -/
import Derived.Test.YtimccbilkjjakaaDoorZAlRef6
import Derived.Test.YtimccbilkjjakaaDoorZAlRef7
import Derived.Test.YtimccbilkjjakaaDoorZRets
import Derived.Deep.DeepCutAuto
namespace Go.Proofs.YtimccbilkjjakaaDoor
open Go.RowKit
theorem setL2_blk {w : World} {r : Nat} {x0 x1 : Value} {t : TypeId} (h : w.heap[r]? = some (.cells #[x0, x1] t (0, 0))) (u0 u1 : Value) : ((w.setCell ⟨r, 0, none⟩ u0).setCell ⟨r, 1, none⟩ u1).heap[r]? = some (.cells #[u0, u1] t (0, 0)) := by
 have := blk_setCell (blk_setCell h 0 u0) 1 u1
 simpa using this
theorem setL2_low {B : Nat} {a w : World} {r : Nat} (h : Below B a w) (hr : B ≤ r) (u0 u1 : Value) : Below B a ((w.setCell ⟨r, 0, none⟩ u0).setCell ⟨r, 1, none⟩ u1) := (h.setCell hr _).setCell hr _
structure Lk (w X : World) (nm : List UInt8) (P S : Int) (bv : Value) : Prop where
 low : Below w.heap.size w X
 box : X.heap[w.heap.size]? = some (.cells (lcV nm P S bv) 24 (0, 0))
 res : X.heap[w.heap.size + 1]? = some (.cells #[.int .i64 0, .int .i64 0] 34 (0, 0))
theorem Lk.below {w X Y : World} {nm : List UInt8} {P S : Int} {bv : Value} (h : Lk w X nm P S bv) (hb : Below X.heap.size X Y) : Lk w Y nm P S bv :=
 ⟨bl_trans h.low h.low.size hb, (hb.block _ (heap_lt h.box)).trans h.box, (hb.block _ (heap_lt h.res)).trans h.res⟩
def wantL (fin : List UInt8) : Int := if fin = lJump then 1 else if fin = gIf then 2 else if fin = gReturn then 0 else -1
def eT0 (b : Lb) : Nat := if (if wantL b.fin < 0 then 4 else 0) = 0 then firstL (fun x => if lKind onesE twosE x (ash x.kind false) = false then 4 else 0) b.ins else (if wantL b.fin < 0 then 4 else 0)
def eT1 (P S : Int) (N : Nat) (b : Lb) : Nat := if (if ((b.fin != lJump) && !inR 8 b.a) || !(b.tos.all (inR (N : Int))) then 2 else 0) = 0 then firstL (fun x => if lBound P S x (ash x.kind false) = false then 2 else 0) b.ins else (if ((b.fin != lJump) && !inR 8 b.a) || !(b.tos.all (inR (N : Int))) then 2 else 0)
def eT2 (b : Lb) : Nat := if (if decide (((b.tos.length : Nat) : Int) ≠ wantL b.fin) || ((b.fin == lJump) && b.a != 0) then 3 else 0) = 0 then firstL (fun x => if lShape x (ash x.kind false) = false then 3 else 0) b.ins else (if decide (((b.tos.length : Nat) : Int) ≠ wantL b.fin) || ((b.fin == lJump) && b.a != 0) then 3 else 0)
theorem firstL_all {c : Nat} {p : Li → Bool} : ∀ l : List Li, firstL (fun x => if p x = false then c else 0) l = if l.all p = false then c else 0
 | [] => rfl
 | x :: r => by
  unfold firstL
  rw [firstL_all r, List.all_cons]
  by_cases hc : c = 0
  ·subst hc; simp
  ·cases h : p x <;> simp [hc]
theorem want_neg {fin : List UInt8} : wantL fin < 0 ↔ (ash fin true).kind = [] := by
 unfold wantL
 by_cases h1 : fin = lJump
 ·subst h1; decide
 ·rw [if_neg h1]
  by_cases h2 : fin = gIf
  ·subst h2; decide
  ·rw [if_neg h2]
   by_cases h3 : fin = gReturn
   ·subst h3; decide
   ·rw [if_neg h3]
    refine ⟨fun _ => ?_, fun _ => by decide⟩
    refine Classical.byContradiction fun hc => ?_
    rcases ash_fin hc with e | e | e
    ·exact h1 e
    ·exact h2 e
    ·exact h3 e
theorem want_ways {fin : List UInt8} (h : (ash fin true).kind ≠ []) : wantL fin = ((ash fin true).ways : Int) := by
 rcases ash_fin h with rfl | rfl | rfl <;> rfl
theorem eT0_is (b : Lb) : eT0 b = if turn0 onesE twosE b = false then 4 else 0 := by
 unfold eT0 turn0
 by_cases h : wantL b.fin < 0
 ·have hk := want_neg.1 h
  simp [h, hk]
 ·have hk : ((ash b.fin true).kind != []) = true := by simpa using fun e => h (want_neg.2 e)
  rw [if_neg h, if_pos rfl, firstL_all, hk, Bool.true_and]
theorem eT1_is (P S : Int) (N : Nat) (b : Lb) : eT1 P S N b = if turn1 P S N b = false then 2 else 0 := by
 unfold eT1 turn1
 rw [firstL_all]
 have e1 : (b.fin != lJump) = !(b.fin == lJump) := rfl
 rw [e1]
 cases (b.fin == lJump) <;> cases inR 8 b.a <;> cases b.tos.all (inR (N : Int)) <;> simp
theorem eT2_is (b : Lb) (h : (ash b.fin true).kind ≠ []) : eT2 b = if turn2 b = false then 3 else 0 := by
 unfold eT2 turn2
 rw [firstL_all, want_ways h]
 have e1 : (b.fin != lJump) = !(b.fin == lJump) := rfl
 have e2 : (b.a != 0) = !(b.a == 0) := rfl
 rw [e1, e2]
 have e3 : decide (((b.tos.length : Nat) : Int) ≠ (((ash b.fin true).ways : Nat) : Int)) = !decide (b.tos.length = (ash b.fin true).ways) := by
  by_cases hw : b.tos.length = (ash b.fin true).ways
  ·simp [hw]
  ·have h2 : ((b.tos.length : Nat) : Int) ≠ (((ash b.fin true).ways : Nat) : Int) := by omega
   simp [hw, h2]
 rw [e3]
 cases decide (b.tos.length = (ash b.fin true).ways) <;> cases (b.fin == lJump) <;> cases (b.a == 0) <;> simp
def Tp (P S : Int) (N : Nat) (b : Lb) (t : Nat) : Prop := (1 ≤ t → turn0 onesE twosE b = true) ∧ (2 ≤ t → turn1 P S N b = true) ∧ (3 ≤ t → turn2 b = true)
theorem of_ite0 {p : Bool} {c : Nat} (hc : c ≠ 0) (h : (if p = false then c else 0) = 0) : p = true := by
 cases p
 ·exact absurd h hc
 ·rfl
theorem of_iteN {p : Bool} {c : Nat} (h : (if p = false then c else 0) ≠ 0) : p = false := by
 cases p
 ·rfl
 ·exact absurd rfl h
theorem tp_0 {P S : Int} {N : Nat} {b : Lb} (_h : Tp P S N b 0) (he : eT0 b = 0) : Tp P S N b 1 :=
 ⟨fun _ => by rw [eT0_is] at he; exact of_ite0 (by decide) he, fun h => absurd h (by decide), fun h => absurd h (by decide)⟩
theorem tp_1 {P S : Int} {N : Nat} {b : Lb} (h : Tp P S N b 1) (he : eT1 P S N b = 0) : Tp P S N b 2 :=
 ⟨fun _ => h.1 (by decide), fun _ => by rw [eT1_is] at he; exact of_ite0 (by decide) he, fun h => absurd h (by decide)⟩
theorem end_known {b : Lb} (h : turn0 onesE twosE b = true) : (ash b.fin true).kind ≠ [] := by
 unfold turn0 at h
 simp only [Bool.and_eq_true] at h
 simpa using h.1
theorem tp_2 {P S : Int} {N : Nat} {b : Lb} (h : Tp P S N b 2) (he : eT2 b = 0) : Tp P S N b 3 :=
 ⟨fun _ => h.1 (by decide), fun _ => h.2.1 (by decide), fun _ => by rw [eT2_is b (end_known (h.1 (by decide)))] at he; exact of_ite0 (by decide) he⟩
theorem tz_0 {P S : Int} {N : Nat} {b : Lb} (_h : Tp P S N b 0) (he : eT0 b ≠ 0) : blkC onesE twosE P S N b = eT0 b := by
 rw [blk_same, eT0_is] at *
 have h0 := of_iteN he
 unfold blkT
 rw [if_pos h0, if_pos h0]
theorem tz_1 {P S : Int} {N : Nat} {b : Lb} (h : Tp P S N b 1) (he : eT1 P S N b ≠ 0) : blkC onesE twosE P S N b = eT1 P S N b := by
 rw [blk_same, eT1_is] at *
 have h0 := of_iteN he
 unfold blkT
 rw [if_neg (by rw [h.1 (by decide)]; decide), if_pos h0, if_pos h0]
theorem tz_2 {P S : Int} {N : Nat} {b : Lb} (h : Tp P S N b 2) (he : eT2 b ≠ 0) : blkC onesE twosE P S N b = eT2 b := by
 rw [blk_same, eT2_is b (end_known (h.1 (by decide)))] at *
 have h0 := of_iteN he
 unfold blkT
 rw [if_neg (by rw [h.1 (by decide)]; decide), if_neg (by rw [h.2.1 (by decide)]; decide), if_pos h0]
theorem tz_3 {P S : Int} {N : Nat} {b : Lb} (h : Tp P S N b 3) : blkC onesE twosE P S N b = 0 := by
 rw [blk_same]
 unfold blkT
 rw [if_neg (by rw [h.1 (by decide)]; decide), if_neg (by rw [h.2.1 (by decide)]; decide), if_neg (by rw [h.2.2 (by decide)]; decide)]
theorem kinds_of {b : Lb} (h : turn0 onesE twosE b = true) : ∀ x ∈ b.ins, (ash x.kind false).kind ≠ [] := by
 intro x hx
 unfold turn0 at h
 simp only [Bool.and_eq_true] at h
 have := List.all_eq_true.1 h.2 x hx
 unfold lKind at this
 simp only [Bool.and_eq_true] at this
 simpa using this.1
set_option maxRecDepth 100000 in
set_option maxHeartbeats 8000000 in
theorem lowFault_any {w : World} (nm : List UInt8) (P S : Int) (L : List Lb) (hL : L.length ≤ 100000) (hlow : ∀ b ∈ L, b.ins.length ≤ 100000 ∧ b.tos.length ≤ 100000) (ba : Option Addr) (bc : Nat) (hX : XLC (InH w) w (.slice ba L.length bc) L) :
  Calls Tryd.prog 8 #[.agg (lcV nm P S (.slice ba L.length bc))] w fun e w' => e = .returned (.agg #[.int .i64 (((lowF onesE twosE P S L).1 : Nat) : Int), .int .i64 (lowF onesE twosE P S L).2]) ∧ Below w.heap.size w w' := by
 obtain ⟨W0, hW0⟩ : ∃ W0, W0 = (w.alloc (.cells (lcV nm P S (.slice ba L.length bc)) 24)).alloc (.cells #[.int .i64 0, .int .i64 0] 34) := ⟨_, rfl⟩
 have hF0 : Lk w W0 nm P S (.slice ba L.length bc) := ⟨by rw [hW0]; (repeat (first | exact Below.refl _ _ | assumption | refine Below.drew ?_ | refine bT ?_ _ | refine bS ?_ _ | refine bA ?_ _)), by rw [hW0]; exact two_alloc w _ _, by rw [hW0]; exact heap_alloc2_new w _ _⟩
 have hL' : (L.length : Int) ≤ 100000 := by omega
 obtain ⟨res, hres⟩ : ∃ res, res = lowF onesE twosE P S L := ⟨_, rfl⟩
 rw [← hres]
 unfold lowF at hres
 have HFW := hidX hres
 have HF0 := hidX hF0
 have HC := hidX hX
 have HLW := hidX hlow
 clear hres hF0 hX hlow
 by_cases c1 : 3000 < L.length
 ·have hr : res = (8, -1) := by rw [HFW.out, if_pos c1]
  subst hr
  have c1' : (3000 : Int) < (L.length : Int) := by omega
  go_enter Tryd.func8, Tryd.ntmps8
  go_wp2_with fail
  rw [← hW0]
  refine (bareG 8 W0).mono ?_
  rintro e X ⟨rfl, hb⟩
  have HFX := hidX (HF0.out.below hb)
  have x0 := cell_of_blk HFX.out.res 0
  have x1 := cell_of_blk HFX.out.res 1
  have x2 := free_of_blk HFX.out.res 0
  have x3 := free_of_blk HFX.out.res 1
  simp only [List.getElem?_toArray, List.getElem?_cons_zero, List.getElem?_cons_succ] at x0 x1
  clear hW0 hb
  go_wp2
  exact ret_row (w.heap.size + 1) 2 _ 34 rfl rfl (setL2_blk HFX.out.res _ _) Tryd.underlying34 (by kernel_rfl) ⟨rfl, setL2_low HFX.out.low (Nat.le_succ _) _ _⟩
 have c1' : ¬ (3000 : Int) < (L.length : Int) := by omega
 have HF1 := hidX (HFW.out.trans (if_neg c1))
 clear c1
 by_cases c3 : L.length = 0
 ·have hr : res = (3, -1) := by rw [HF1.out, if_pos c3]
  subst hr
  have c3' : ((L.length : Int) == 0) = true := by rw [c3]; rfl
  clear c3
  go_enter Tryd.func8, Tryd.ntmps8
  go_wp2_with fail
  rw [← hW0]
  refine (bareG 3 W0).mono ?_
  rintro e X ⟨rfl, hb⟩
  have HFX := hidX (HF0.out.below hb)
  have x0 := cell_of_blk HFX.out.res 0
  have x1 := cell_of_blk HFX.out.res 1
  have x2 := free_of_blk HFX.out.res 0
  have x3 := free_of_blk HFX.out.res 1
  simp only [List.getElem?_toArray, List.getElem?_cons_zero, List.getElem?_cons_succ] at x0 x1
  clear hW0 hb
  go_wp2
  exact ret_row (w.heap.size + 1) 2 _ 34 rfl rfl (setL2_blk HFX.out.res _ _) Tryd.underlying34 (by kernel_rfl) ⟨rfl, setL2_low HFX.out.low (Nat.le_succ _) _ _⟩
 have c3' : ((L.length : Int) == 0) = false := by rw [beq_eq_false_iff_ne]; omega
 have HF2 := hidX (HF1.out.trans (if_neg c3))
 clear c3
 have k1 : W0.cell? ⟨w.heap.size, 1, none⟩ = some (.int .i64 P) := cell_of_blk HF0.out.box 1
 have k2 : W0.cell? ⟨w.heap.size, 2, none⟩ = some (.int .i64 S) := cell_of_blk HF0.out.box 2
 clear k1 k2
 by_cases c5 : P < 0
 ·have hr : res = (9, -1) := by rw [HF2.out, if_pos (Or.inl c5)]
  subst hr
  go_enter Tryd.func8, Tryd.ntmps8
  go_wp2_with fail
  rw [← hW0]
  refine (bareG 9 W0).mono ?_
  rintro e X ⟨rfl, hb⟩
  have HFX := hidX (HF0.out.below hb)
  have x0 := cell_of_blk HFX.out.res 0
  have x1 := cell_of_blk HFX.out.res 1
  have x2 := free_of_blk HFX.out.res 0
  have x3 := free_of_blk HFX.out.res 1
  simp only [List.getElem?_toArray, List.getElem?_cons_zero, List.getElem?_cons_succ] at x0 x1
  clear hW0 hb
  go_wp2
  exact ret_row (w.heap.size + 1) 2 _ 34 rfl rfl (setL2_blk HFX.out.res _ _) Tryd.underlying34 (by kernel_rfl) ⟨rfl, setL2_low HFX.out.low (Nat.le_succ _) _ _⟩
 by_cases c6 : 4 < P
 ·have hr : res = (9, -1) := by rw [HF2.out, if_pos (Or.inr c6)]
  subst hr
  go_enter Tryd.func8, Tryd.ntmps8
  go_wp2_with fail
  rw [← hW0]
  refine (bareG 9 W0).mono ?_
  rintro e X ⟨rfl, hb⟩
  have HFX := hidX (HF0.out.below hb)
  have x0 := cell_of_blk HFX.out.res 0
  have x1 := cell_of_blk HFX.out.res 1
  have x2 := free_of_blk HFX.out.res 0
  have x3 := free_of_blk HFX.out.res 1
  simp only [List.getElem?_toArray, List.getElem?_cons_zero, List.getElem?_cons_succ] at x0 x1
  clear hW0 hb
  go_wp2
  exact ret_row (w.heap.size + 1) 2 _ 34 rfl rfl (setL2_blk HFX.out.res _ _) Tryd.underlying34 (by kernel_rfl) ⟨rfl, setL2_low HFX.out.low (Nat.le_succ _) _ _⟩
 have HF3 := hidX (HF2.out.trans (if_neg (fun h => h.elim c5 c6)))
 by_cases c7 : S < 0
 ·have hr : res = (2, -1) := by rw [HF3.out, if_pos (Or.inl c7)]
  subst hr
  go_enter Tryd.func8, Tryd.ntmps8
  go_wp2_with fail
  rw [← hW0]
  refine (bareG 2 W0).mono ?_
  rintro e X ⟨rfl, hb⟩
  have HFX := hidX (HF0.out.below hb)
  have x0 := cell_of_blk HFX.out.res 0
  have x1 := cell_of_blk HFX.out.res 1
  have x2 := free_of_blk HFX.out.res 0
  have x3 := free_of_blk HFX.out.res 1
  simp only [List.getElem?_toArray, List.getElem?_cons_zero, List.getElem?_cons_succ] at x0 x1
  clear hW0 hb
  go_wp2
  exact ret_row (w.heap.size + 1) 2 _ 34 rfl rfl (setL2_blk HFX.out.res _ _) Tryd.underlying34 (by kernel_rfl) ⟨rfl, setL2_low HFX.out.low (Nat.le_succ _) _ _⟩
 by_cases c8 : 1000 < S
 ·have hr : res = (2, -1) := by rw [HF3.out, if_pos (Or.inr c8)]
  subst hr
  go_enter Tryd.func8, Tryd.ntmps8
  go_wp2_with fail
  rw [← hW0]
  refine (bareG 2 W0).mono ?_
  rintro e X ⟨rfl, hb⟩
  have HFX := hidX (HF0.out.below hb)
  have x0 := cell_of_blk HFX.out.res 0
  have x1 := cell_of_blk HFX.out.res 1
  have x2 := free_of_blk HFX.out.res 0
  have x3 := free_of_blk HFX.out.res 1
  simp only [List.getElem?_toArray, List.getElem?_cons_zero, List.getElem?_cons_succ] at x0 x1
  clear hW0 hb
  go_wp2
  exact ret_row (w.heap.size + 1) 2 _ 34 rfl rfl (setL2_blk HFX.out.res _ _) Tryd.underlying34 (by kernel_rfl) ⟨rfl, setL2_low HFX.out.low (Nat.le_succ _) _ _⟩
 have HF4 := hidX (HF3.out.trans (if_neg (fun h => h.elim c7 c8)))
 go_enter Tryd.func8, Tryd.ntmps8
 go_wp2_with fail
 rw [← hW0]
 clear hW0
 go_loopw [3, 4, 5, 6, 7, 8, 9, 10] (fun i _ _ _ _ _ _ _ wr => ∃ (q : Nat), q ≤ L.length ∧ i = .int .i64 (q : Int) ∧ Hid (Lk w wr nm P S (.slice ba L.length bc)) ∧ Hid (res = lowFrom onesE twosE P S L.length q (L.drop q))) (fun i _ _ _ _ _ _ _ _ => L.length - (intOf i).toNat)
 case atStart => exact ⟨0, by omega, rfl, HF0.out, HF4.out⟩
 case round =>
  obtain ⟨q, hq, rfl, HM, HRS⟩ := hrel
  have c3 : wr.cell? ⟨w.heap.size, 3, none⟩ = some (.slice ba L.length bc) := cell_of_blk HM.out.box 3
  by_cases hlt : q < L.length
  ·have hlt' : (q : Int) < (L.length : Int) := by omega
   have hup := HM.out.low
   obtain ⟨g, off, ia, ic, ta, tc, e1, hg, rI, rT, i0, i1, i2, i3⟩ := HC.out.blk hlt
   subst e1
   replace i0 := (hup.cell (p := ⟨g, _, none⟩) hg).trans i0
   replace i1 := (hup.cell (p := ⟨g, _, none⟩) hg).trans i1
   replace i2 := (hup.cell (p := ⟨g, _, none⟩) hg).trans i2
   replace i3 := (hup.cell (p := ⟨g, _, none⟩) hg).trans i3
   have hlb := HLW.out _ (List.getElem_mem hlt)
   have HDR := hidX (show L.drop q = L[q] :: L.drop (q + 1) from List.drop_eq_getElem_cons hlt)
   generalize L[q] = b at *
   obtain ⟨hil, htl⟩ := hlb
   have HNX := hidX (show res = if blkC onesE twosE P S L.length b = 0 then lowFrom onesE twosE P S L.length (q + 1) (L.drop (q + 1)) else (blkC onesE twosE P S L.length b, (q : Int)) from by rw [HRS.out, HDR.out]; rfl)
   obtain ⟨Wb, hWb⟩ : ∃ Wb, Wb = wr.alloc (.cells #[.slice ia b.ins.length ic, .string ⟨b.fin.toArray⟩, .int .i64 b.a, .slice ta b.tos.length tc] 59) := ⟨_, rfl⟩
   have hwb : Below wr.heap.size wr Wb := by rw [hWb]; (repeat (first | exact Below.refl _ _ | assumption | refine Below.drew ?_ | refine bT ?_ _ | refine bS ?_ _ | refine bA ?_ _))
   have hxb : Wb.heap[wr.heap.size]? = some (.cells #[.slice ia b.ins.length ic, .string ⟨b.fin.toArray⟩, .int .i64 b.a, .slice ta b.tos.length tc] 59 (0, 0)) := by rw [hWb]; exact heap_alloc_new _ _
   have hub : Below w.heap.size w Wb := bl_trans hup hup.size hwb
   have HRK := hidX (HM.out.below hwb)
   have HCW := hidX (show ∀ w2, Below Wb.heap.size Wb w2 → ∀ Y, Below w2.heap.size w2 Y → (Y.cell? ⟨w.heap.size, 0, none⟩ = some (.string ⟨nm.toArray⟩) ∧ Y.cell? ⟨w.heap.size, 1, none⟩ = some (.int .i64 P) ∧ Y.cell? ⟨w.heap.size, 2, none⟩ = some (.int .i64 S) ∧ Y.cell? ⟨w.heap.size, 3, none⟩ = some (.slice (some ⟨g, off, none⟩) L.length bc)) ∧ (Y.cell? ⟨wr.heap.size, 0, none⟩ = some (.slice ia b.ins.length ic) ∧ Y.cell? ⟨wr.heap.size, 1, none⟩ = some (.string ⟨b.fin.toArray⟩) ∧ Y.cell? ⟨wr.heap.size, 2, none⟩ = some (.int .i64 b.a) ∧ Y.cell? ⟨wr.heap.size, 3, none⟩ = some (.slice ta b.tos.length tc)) from fun w2 h2 Y hY => by
    have hb := bl_trans h2 h2.size hY
    have h0 := (hb.block _ (heap_lt HRK.out.box)).trans HRK.out.box
    have h1 := (hb.block _ (heap_lt hxb)).trans hxb
    exact ⟨⟨cell_of_blk h0 0, cell_of_blk h0 1, cell_of_blk h0 2, cell_of_blk h0 3⟩, ⟨cell_of_blk h1 0, cell_of_blk h1 1, cell_of_blk h1 2, cell_of_blk h1 3⟩⟩)
   have HRW := hidX (fun (w2 : World) (h2 : Below Wb.heap.size Wb w2) => (HRK.out.below h2).res)
   have HIW := hidX (fun (w2 : World) (h2 : Below Wb.heap.size Wb w2) => (rI.imp (inH_up (bl_trans hub hub.size h2)) (keepH (bl_trans hub hub.size h2)) : XLs (InH w2) w2 (.slice ia b.ins.length ic) b.ins))
   have HTW := hidX (fun (w2 : World) (h2 : Below Wb.heap.size Wb w2) => (rT.imp (inH_up (bl_trans hub hub.size h2)) (keepH (bl_trans hub hub.size h2)) : XRow (InH w2) w2 (.slice ta b.tos.length tc) b.tos.length (intsG b.tos)))
   have HLWW := hidX (show ∀ w2, Below Wb.heap.size Wb w2 → w.heap.size ≤ w2.heap.size from fun w2 h2 => Nat.le_trans hub.size h2.size)
   obtain ⟨want, hwant⟩ : ∃ want : Int, want = wantL b.fin := ⟨_, rfl⟩
   have HWANT := hidX hwant
   clear hwant
   have HBU := hidX hub
   have hbb : wr.heap.size < Wb.heap.size := heap_lt hxb
   go_upto_region 13 with fail
   rw [← hWb]
   clear hWb i0 i1 i2 i3 rI rT hwb hxb hup hub c3
   have d1 : Wb.cell? ⟨wr.heap.size, 1, none⟩ = some (.string ⟨b.fin.toArray⟩) := (HCW.out Wb (Below.refl _ _) Wb (Below.refl _ _)).2.2.1
   go_cut [5] (fun v5 wc => wc = Wb ∧ v5 = .int .i64 (-1))
   case first =>
    as_aux_lemma =>
     go_wp2_with fail
     go_meet
     case rel => exact ⟨rfl, rfl⟩
   case rest =>
   obtain ⟨hwc, rfl⟩ := hcut
   replace hwc := hwc.symm
   subst hwc
   go_step
   go_step
   go_cut [5] (fun v5 wc => wc = Wb ∧ v5 = .int .i64 want)
   case first =>
    as_aux_lemma =>
     by_cases h1 : b.fin = lJump
     ·have hw : want = 1 := by rw [HWANT.out, wantL, if_pos h1]
      have t1 : (b.fin == [106, 117, 109, 112]) = true := by rw [h1]; decide
      subst hw
      clear h1
      go_wp2_with fail
      go_meet
      case rel => exact ⟨rfl, rfl⟩
     ·have t1 : (b.fin == [106, 117, 109, 112]) = false := ne_lit h1
      by_cases h2 : b.fin = gIf
      ·have hw : want = 2 := by rw [HWANT.out, wantL, if_neg h1, if_pos h2]
       have t2 : (b.fin == [105, 102]) = true := by rw [h2]; decide
       subst hw
       clear h1 h2
       go_wp2_with fail
       go_meet
       case rel => exact ⟨rfl, rfl⟩
      ·have t2 : (b.fin == [105, 102]) = false := ne_lit h2
       by_cases h3 : b.fin = gReturn
       ·have hw : want = 0 := by rw [HWANT.out, wantL, if_neg h1, if_neg h2, if_pos h3]
        have t3 : (b.fin == [114, 101, 116, 117, 114, 110]) = true := by rw [h3]; decide
        subst hw
        clear h1 h2 h3
        go_wp2_with fail
        go_meet
        case rel => exact ⟨rfl, rfl⟩
       ·have hw : want = -1 := by rw [HWANT.out, wantL, if_neg h1, if_neg h2, if_neg h3]
        have t3 : (b.fin == [114, 101, 116, 117, 114, 110]) = false := ne_lit h3
        subst hw
        clear h1 h2 h3
        go_wp2_with fail
        go_meet
        case rel => exact ⟨rfl, rfl⟩
   case rest =>
   obtain ⟨hwc, rfl⟩ := hcut
   replace hwc := hwc.symm
   subst hwc
   go_wp2_with fail
   obtain rfl : want = wantL b.fin := HWANT.out
   obtain ⟨wo, hwo⟩ : ∃ wo, wo = wr := ⟨_, rfl⟩
   subst hwo
   go_loopw [6, 7, 8, 9, 10] (fun v6 _ _ _ _ w2 => ∃ (t : Nat), t ≤ 3 ∧ v6 = .int .i64 (t : Int) ∧ Hid (Tp P S L.length b t) ∧ Hid (Below Wb.heap.size Wb w2)) (fun v6 _ _ _ _ _ => 3 - (intOf v6).toNat)
   case atStart => exact ⟨0, by omega, rfl, ⟨fun h => absurd h (by decide), fun h => absurd h (by decide), fun h => absurd h (by decide)⟩, Below.refl _ _⟩
   case round =>
    obtain ⟨t, ht, rfl, HTP, HB2⟩ := hrel
    obtain ⟨w2, hw2⟩ : ∃ w2, w2 = wr := ⟨_, rfl⟩
    subst hw2
    have hlw := HLWW.out _ HB2.out
    rcases (show t = 0 ∨ t = 1 ∨ t = 2 ∨ t = 3 by omega) with rfl | rfl | rfl | rfl
    ·go_upto_if 60 with fail
     rename_i K1 hK1
     refine wp_cond (t := true) rfl ?_
     rw [if_pos rfl]
     go_step
     refine hK1 _ _ ?_
     refine wp_seq (wp_block (rturn0 (n := w.heap.size) (i := q) (b := b) (want := wantL b.fin) (le := fun x => if lKind onesE twosE x (ash x.kind false) = false then 4 else 0) (Nat.le_succ _) hlw (HCW.out w2 HB2.out) (HRW.out w2 HB2.out) (HIW.out w2 HB2.out) (HTW.out w2 HB2.out) hil (fun x hx Y _ => rLow_0 nm P S (.slice (some ⟨g, off, none⟩) L.length bc) ⟨_, _, _, rfl⟩ x Y) (e := (eT0 b)) (by rfl) (fun _ _ d _ _ h => by cases d <;> exact h) ?_ ?_))
     ·intro he _ _ _ _ _ _ _ _ _ _ _ _ _ _ _ _ _ _ _ _ _ _ _ _ _ _ _ _ _ _ _ _ _ _ _ _ _ _ _ _ _ _ _ _ _ _ _ _ _ _ _ _ _ _ _ _ _ _ _ _ _ _ _ _ _ _ _ _ _ _ _ _ _ _ _ _ _ _ _ _ _ _ _ _ _ _ _ _ _ w3 hb3
      have HB3 := hidX (bl_trans HB2.out HB2.out.size hb3)
      have HT3 := hidX (tp_0 HTP.out he)
      clear hb3 he
      go_wp2
      go_roundw
      case rel => (repeat apply Exists.intro); exact ⟨⟨1, by omega, by go_num, HT3.out, HB3.out⟩, rfl⟩
      all_goals (simp [intOf])
     ·intro he _ _ _ _ _ _ _ _ _ _ _ _ _ _ _ _ _ _ _ _ _ _ _ _ _ _ _ _ _ _ _ _ _ _ _ _ _ _ _ _ _ _ _ _ _ _ _ _ _ _ _ _ _ _ _ _ _ _ _ _ _ _ _ _ _ _ _ _ _ _ _ _ _ _ _ _ _ _ _ _ _ _ _ _ _ _ _ _ _ w3 hb3 hx3
      have hres : res = ((eT0 b), (q : Int)) := by
       have hk := tz_0 HTP.out he
       rw [HNX.out, if_neg (by rw [hk]; exact he), hk]
      simp only [Exit.inBlock, Exit.then]
      go_wp2
      exact ret_row (w.heap.size + 1) 2 _ 34 rfl rfl hx3 Tryd.underlying34 (by kernel_rfl) ⟨rfl, (bl_trans HBU.out HBU.out.size HB2.out).trans hb3⟩
    ·go_upto_if 60 with fail
     rename_i K1 hK1
     refine wp_cond (t := true) rfl ?_
     rw [if_pos rfl]
     go_step
     refine hK1 _ _ ?_
     refine wp_seq (wp_block (rturn1 (n := w.heap.size) (i := q) (b := b) (want := wantL b.fin) (le := fun x => if lBound P S x (ash x.kind false) = false then 2 else 0) (Nat.le_succ _) hlw (HCW.out w2 HB2.out) (HRW.out w2 HB2.out) (HIW.out w2 HB2.out) (HTW.out w2 HB2.out) hL htl hil (fun x hx Y _ => rLow_1 nm P S (.slice (some ⟨g, off, none⟩) L.length bc) ⟨_, _, _, rfl⟩ x (kinds_of (HTP.out.1 (by decide)) x hx) Y) (e := (eT1 P S L.length b)) (by rfl) (fun _ _ d _ _ h => by cases d <;> exact h) ?_ ?_))
     ·intro he _ _ _ _ _ _ _ _ _ _ _ _ _ _ _ _ _ _ _ _ _ _ _ _ _ _ _ _ _ _ _ _ _ _ _ _ _ _ _ _ _ _ _ _ _ _ _ _ _ _ _ _ _ _ _ _ _ _ _ _ _ _ _ _ _ _ _ _ _ _ _ _ _ _ _ _ _ _ _ _ _ _ _ _ _ _ _ _ _ w3 hb3
      have HB3 := hidX (bl_trans HB2.out HB2.out.size hb3)
      have HT3 := hidX (tp_1 HTP.out he)
      clear hb3 he
      go_wp2
      go_roundw
      case rel => (repeat apply Exists.intro); exact ⟨⟨2, by omega, by go_num, HT3.out, HB3.out⟩, rfl⟩
      all_goals (simp [intOf])
     ·intro he _ _ _ _ _ _ _ _ _ _ _ _ _ _ _ _ _ _ _ _ _ _ _ _ _ _ _ _ _ _ _ _ _ _ _ _ _ _ _ _ _ _ _ _ _ _ _ _ _ _ _ _ _ _ _ _ _ _ _ _ _ _ _ _ _ _ _ _ _ _ _ _ _ _ _ _ _ _ _ _ _ _ _ _ _ _ _ _ _ w3 hb3 hx3
      have hres : res = ((eT1 P S L.length b), (q : Int)) := by
       have hk := tz_1 HTP.out he
       rw [HNX.out, if_neg (by rw [hk]; exact he), hk]
      simp only [Exit.inBlock, Exit.then]
      go_wp2
      exact ret_row (w.heap.size + 1) 2 _ 34 rfl rfl hx3 Tryd.underlying34 (by kernel_rfl) ⟨rfl, (bl_trans HBU.out HBU.out.size HB2.out).trans hb3⟩
    ·go_upto_if 60 with fail
     rename_i K1 hK1
     refine wp_cond (t := true) rfl ?_
     rw [if_pos rfl]
     go_step
     refine hK1 _ _ ?_
     refine wp_seq (wp_block (rturn2 (n := w.heap.size) (i := q) (b := b) (want := wantL b.fin) (le := fun x => if lShape x (ash x.kind false) = false then 3 else 0) (Nat.le_succ _) hlw (HCW.out w2 HB2.out) (HRW.out w2 HB2.out) (HIW.out w2 HB2.out) (HTW.out w2 HB2.out) hil (fun x hx Y _ => rLow_2 nm P S (.slice (some ⟨g, off, none⟩) L.length bc) ⟨_, _, _, rfl⟩ x (kinds_of (HTP.out.1 (by decide)) x hx) Y) (e := (eT2 b)) (by rfl) (fun _ _ d _ _ h => by cases d <;> exact h) ?_ ?_))
     ·intro he _ _ _ _ _ _ _ _ _ _ _ _ _ _ _ _ _ _ _ _ _ _ _ _ _ _ _ _ _ _ _ _ _ _ _ _ _ _ _ _ _ _ _ _ _ _ _ _ _ _ _ _ _ _ _ _ _ _ _ _ _ _ _ _ _ _ _ _ _ _ _ _ _ _ _ _ _ _ _ _ _ _ _ _ _ _ _ _ _ w3 hb3
      have HB3 := hidX (bl_trans HB2.out HB2.out.size hb3)
      have HT3 := hidX (tp_2 HTP.out he)
      clear hb3 he
      go_wp2
      go_roundw
      case rel => (repeat apply Exists.intro); exact ⟨⟨3, by omega, by go_num, HT3.out, HB3.out⟩, rfl⟩
      all_goals (simp [intOf])
     ·intro he _ _ _ _ _ _ _ _ _ _ _ _ _ _ _ _ _ _ _ _ _ _ _ _ _ _ _ _ _ _ _ _ _ _ _ _ _ _ _ _ _ _ _ _ _ _ _ _ _ _ _ _ _ _ _ _ _ _ _ _ _ _ _ _ _ _ _ _ _ _ _ _ _ _ _ _ _ _ _ _ _ _ _ _ _ _ _ _ _ w3 hb3 hx3
      have hres : res = ((eT2 b), (q : Int)) := by
       have hk := tz_2 HTP.out he
       rw [HNX.out, if_neg (by rw [hk]; exact he), hk]
      simp only [Exit.inBlock, Exit.then]
      go_wp2
      exact ret_row (w.heap.size + 1) 2 _ 34 rfl rfl hx3 Tryd.underlying34 (by kernel_rfl) ⟨rfl, (bl_trans HBU.out HBU.out.size HB2.out).trans hb3⟩
    ·have HZ := hidX (tz_3 HTP.out)
     have HRN := hidX (show res = lowFrom onesE twosE P S L.length (q + 1) (L.drop (q + 1)) from by rw [HNX.out, if_pos HZ.out])
     have HMN := hidX (HRK.out.below HB2.out)
     go_wp2
     go_roundw
     case rel => exact ⟨q + 1, by omega, by go_num, HMN.out, HRN.out⟩
     all_goals (simp [intOf]; omega)
  ·have hqn : q = L.length := by omega
   have hnl : ¬ ((q : Int) < (L.length : Int)) := by omega
   have hr : res = (0, -1) := by rw [HRS.out, hqn, List.drop_length]; rfl
   subst hr
   have x0 := cell_of_blk HM.out.res 0
   clear hlt hqn hq
   go_wp2_with fail
   refine (fineG _).mono ?_
   rintro e X ⟨rfl, hb⟩
   have HFX := hidX (HM.out.below hb)
   have x0 := cell_of_blk HFX.out.res 0
   have x1 := cell_of_blk HFX.out.res 1
   have x2 := free_of_blk HFX.out.res 0
   have x3 := free_of_blk HFX.out.res 1
   simp only [List.getElem?_toArray, List.getElem?_cons_zero, List.getElem?_cons_succ] at x0 x1
   clear hb
   go_wp2
   exact ret_row (w.heap.size + 1) 2 _ 34 rfl rfl (setL2_blk HFX.out.res _ _) Tryd.underlying34 (by kernel_rfl) ⟨rfl, setL2_low HFX.out.low (Nat.le_succ _) _ _⟩
end Go.Proofs.YtimccbilkjjakaaDoor
