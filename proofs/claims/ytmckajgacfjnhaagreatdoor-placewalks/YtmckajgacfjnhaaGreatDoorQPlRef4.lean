/- Our own: texts joined: PlRef4. -/
import Derived.Test.YtmckajgacfjnhaaGreatDoorQRefA
import Derived.Test.YtmckajgacfjnhaaGreatDoorQBase
import Derived.Deep.DeepCutAuto
namespace Go.Proofs.YtmckajgacfjnhaaGreatDoor
open Go.RowKit
def blockR (ones twos : List (List UInt8)) (V P : Int) (L : List Pb) (b : Pb) : Nat :=
 if bKind ones twos b = false then 4 else if bBound V P L.length b = false then 2 else if bShape L b = false then 3 else 0
structure LowB (b : Pb) : Prop where
 params : b.params.length ≤ 1000
 ins : b.ins.length ≤ 1000
 tos : b.tos.length ≤ 1000
 wi : b.wi.length ≤ 1000
 args : ∀ x ∈ b.ins, x.args.length ≤ 1000
 each : ∀ l ∈ b.wi, l.length ≤ 1000
theorem pen_jump : pen gJump = ⟨gJump, 1, false⟩ := rfl
theorem pen_if : pen gIf = ⟨gIf, 2, true⟩ := rfl
theorem pen_ret : pen gReturn = ⟨gReturn, 0, true⟩ := rfl
theorem pen_none {k : List UInt8} (h1 : k ≠ gJump) (h2 : k ≠ gIf) (h3 : k ≠ gReturn) : pen k = ⟨[], 0, false⟩ := by
 show penIn penL k = _
 unfold penL penIn penIn penIn penIn
 rw [if_neg (Ne.symm h1), if_neg (Ne.symm h2), if_neg (Ne.symm h3)]
def wantB (k : List UInt8) : Int := if k = gJump then 1 else if k = gIf then 2 else if k = gReturn then 0 else -1
theorem want_is (k : List UInt8) : (wantB k = -1 ∧ (pen k).kind = []) ∨ ((pen k).kind ≠ [] ∧ wantB k = ((pen k).ways : Int) ∧ 0 ≤ wantB k ∧ wantB k ≤ 2 ∧ (pen k).v = !decide (k = gJump)) := by
 unfold wantB
 by_cases h1 : k = gJump
 ·subst h1; right; exact ⟨by decide, by simp [pen_jump], by simp, by simp, by simp [pen_jump]⟩
 ·by_cases h2 : k = gIf
  ·subst h2; right; exact ⟨by decide, by simp [pen_if, h1], by simp [h1], by simp [h1], by simp [pen_if, h1]⟩
  ·by_cases h3 : k = gReturn
   ·subst h3; right; exact ⟨by decide, by simp [pen_ret, h1, h2], by simp [h1, h2], by simp [h1, h2], by simp [pen_ret, h1]⟩
   ·left; simp [h1, h2, h3, pen_none h1 h2 h3]
theorem nand_ok {m i : Bool} (h : ¬ (m = true ∧ i = false)) : (m && !i) = false ∧ (m = true → i = true) := by cases m <;> cases i <;> simp_all
def pBR (V P : Int) (x : Pi) : Bool := x.args.all (inV V) && ((!pMakes x.kind || inV V x.d) && (x.kind != gParam || inV P x.num))
theorem makes_d {k : List UInt8} (h : (psh k).kind ≠ []) : (psh k).d = pMakes k := by
 rcases psh_cases h with rfl | rfl | rfl | rfl | rfl | rfl | rfl <;> decide
theorem pBR_is {ones twos : List (List UInt8)} {V P : Int} {x : Pi} (h : pKind ones twos x = true) : pBR V P x = pBound V P x := by
 have hk : (psh x.kind).kind ≠ [] := fun e => by simp [pKind, e] at h
 unfold pBR pBound
 rw [makes_d hk]
 generalize x.args.all (inV V) = a
 generalize (!pMakes x.kind || inV V x.d) = b
 generalize (x.kind != gParam || inV P x.num) = c
 cases a <;> cases b <;> cases c <;> rfl
theorem pBR_all {ones twos : List (List UInt8)} {V P : Int} {l : List Pi} (h : l.all (pKind ones twos) = true) : l.all (pBR V P) = l.all (pBound V P) := by
 rw [Bool.eq_iff_iff, List.all_eq_true, List.all_eq_true]
 rw [List.all_eq_true] at h
 exact ⟨fun k x hx => by rw [← pBR_is (h x hx)]; exact k x hx, fun k x hx => by rw [pBR_is (h x hx)]; exact k x hx⟩
theorem bBound_is {ones twos : List (List UInt8)} {V P : Int} {N : Nat} {b : Pb} (h : b.ins.all (pKind ones twos) = true) (hv : (pen b.fin).v = !decide (b.fin = gJump)) :
  bBound V P N b = ((((b.params.all (inV V) && b.tos.all (inV N)) && (decide (b.fin = gJump) || inV V b.v)) && b.wi.all (fun l => l.all (inV V))) && b.ins.all (pBR V P)) := by
 rw [pBR_all h]
 unfold bBound
 rw [hv]
 generalize b.params.all (inV V) = p1
 generalize b.tos.all (inV N) = p2
 generalize decide (b.fin = gJump) = p3
 generalize inV V b.v = p4
 generalize b.ins.all (pBound V P) = p5
 generalize (b.wi.all fun l => l.all (inV V)) = p6
 cases p1 <;> cases p2 <;> cases p3 <;> cases p4 <;> cases p5 <;> cases p6 <;> rfl
set_option maxRecDepth 100000 in
set_option maxHeartbeats 8000000 in
theorem blockError_any {w : World} (nm : List UInt8) (P V : Int) (L : List Pb) (b : Pb) (_hLl : L.length ≤ 100000) (hlow : LowB b) (ba pa ia ta wa : Option Addr) (bc pc ic tc wc : Nat)
  (hC : XCo (InH w) w (.slice ba L.length bc) L) (hP : XRow (InH w) w (.slice pa b.params.length pc) b.params.length (intsG b.params)) (hI : XIs (InH w) w (.slice ia b.ins.length ic) b.ins) (hT : XRow (InH w) w (.slice ta b.tos.length tc) b.tos.length (intsG b.tos)) (hW : XWs (InH w) w (.slice wa b.wi.length wc) b.wi) :
  Calls Tryz.prog 17 #[.agg #[.string ⟨nm.toArray⟩, .int .i64 P, .int .i64 V, .slice ba L.length bc], .agg #[.slice pa b.params.length pc, .slice ia b.ins.length ic, .string ⟨b.fin.toArray⟩, .int .i64 b.v, .slice ta b.tos.length tc, .slice wa b.wi.length wc]] w fun e w' => e = .returned (.int .i64 ((blockR onesE twosE V P L b : Nat) : Int)) ∧ Below w.heap.size w w' := by
 obtain ⟨res, hres⟩ : ∃ res, res = blockR onesE twosE V P L b := ⟨_, rfl⟩
 rw [← hres]
 have HRES := hidX hres
 obtain ⟨W1, hW1⟩ : ∃ W1, W1 = (w.alloc (.cells #[.string ⟨nm.toArray⟩, .int .i64 P, .int .i64 V, .slice ba L.length bc] 24)).alloc (.cells #[.slice pa b.params.length pc, .slice ia b.ins.length ic, .string ⟨b.fin.toArray⟩, .int .i64 b.v, .slice ta b.tos.length tc, .slice wa b.wi.length wc] 60) := ⟨_, rfl⟩
 have hb1 : Below w.heap.size w W1 := by rw [hW1]; (repeat (first | exact Below.refl _ _ | assumption | refine Below.drew ?_ | refine bT ?_ _ | refine bS ?_ _ | refine bA ?_ _))
 have hx1 : W1.heap[w.heap.size]? = some (.cells #[.string ⟨nm.toArray⟩, .int .i64 P, .int .i64 V, .slice ba L.length bc] 24 (0, 0)) := by
  rw [hW1, Below.heap_alloc _ _ _ (by simp)]; exact heap_alloc_new _ _
 have hx2 : W1.heap[w.heap.size + 1]? = some (.cells #[.slice pa b.params.length pc, .slice ia b.ins.length ic, .string ⟨b.fin.toArray⟩, .int .i64 b.v, .slice ta b.tos.length tc, .slice wa b.wi.length wc] 60 (0, 0)) := by
  rw [hW1]
  have := heap_alloc_new (w.alloc (.cells #[.string ⟨nm.toArray⟩, .int .i64 P, .int .i64 V, .slice ba L.length bc] 24)) (.cells #[.slice pa b.params.length pc, .slice ia b.ins.length ic, .string ⟨b.fin.toArray⟩, .int .i64 b.v, .slice ta b.tos.length tc, .slice wa b.wi.length wc] 60)
  rwa [World.size_alloc] at this
 have HK := hidX (fun (Y : World) (hY : Below W1.heap.size W1 Y) => (show (Y.cell? ⟨w.heap.size, 1, none⟩ = some (.int .i64 P) ∧ Y.cell? ⟨w.heap.size, 2, none⟩ = some (.int .i64 V) ∧ Y.cell? ⟨w.heap.size, 3, none⟩ = some (.slice ba L.length bc)) ∧ Y.cell? ⟨w.heap.size + 1, 0, none⟩ = some (.slice pa b.params.length pc) ∧ Y.cell? ⟨w.heap.size + 1, 1, none⟩ = some (.slice ia b.ins.length ic) ∧ Y.cell? ⟨w.heap.size + 1, 2, none⟩ = some (.string ⟨b.fin.toArray⟩) ∧ Y.cell? ⟨w.heap.size + 1, 3, none⟩ = some (.int .i64 b.v) ∧ Y.cell? ⟨w.heap.size + 1, 4, none⟩ = some (.slice ta b.tos.length tc) ∧ Y.cell? ⟨w.heap.size + 1, 5, none⟩ = some (.slice wa b.wi.length wc) from by
  have h1 := (hY.block _ (heap_lt hx1)).trans hx1
  have h2 := (hY.block _ (heap_lt hx2)).trans hx2
  exact ⟨⟨cell_of_blk h1 1, cell_of_blk h1 2, cell_of_blk h1 3⟩, cell_of_blk h2 0, cell_of_blk h2 1, cell_of_blk h2 2, cell_of_blk h2 3, cell_of_blk h2 4, cell_of_blk h2 5⟩))
 have HUP := hidX (fun (Y : World) (hY : Below W1.heap.size W1 Y) => bl_trans hb1 hb1.size hY)
 have HC := hidX hC
 have HP := hidX hP
 have HI := hidX hI
 have HT := hidX hT
 have HW := hidX hW
 have HLOW := hidX hlow
 have hl1 : (b.params.length : Int) ≤ 1000 := by have := hlow.params; omega
 have hl2 : (b.ins.length : Int) ≤ 1000 := by have := hlow.ins; omega
 have hl3 : (b.tos.length : Int) ≤ 1000 := by have := hlow.tos; omega
 have hl4 : (b.wi.length : Int) ≤ 1000 := by have := hlow.wi; omega
 have HB1 := hidX hb1
 clear hC hP hI hT hW hres hlow hb1 hx1 hx2
 go_enter Tryz.func17, Tryz.ntmps17
 go_wp2_with fail
 rw [← hW1]
 clear hW1
 go_loopw [5, 6] (fun i _ wr => ∃ q : Nat, q ≤ b.ins.length ∧ i = .int .i64 q ∧ Hid (Below W1.heap.size W1 wr) ∧ Hid ((b.ins.take q).all (pKind onesE twosE) = true)) (fun i _ _ => b.ins.length - (intOf i).toNat)
 case atStart => exact ⟨0, by omega, rfl, Below.refl _ _, rfl⟩
 case round =>
  obtain ⟨q, hq, rfl, HB, HA⟩ := hrel
  obtain ⟨-, -, b1, b2, -, -, -⟩ := HK.out wr HB.out
  by_cases hlt : q < b.ins.length
  ·have hlt' : (q : Int) < (b.ins.length : Int) := by omega
   obtain ⟨g, off, ad1, cap1, e1, hg, hr, k0, k1, k2, k3, k4⟩ := (HI.out.imp (inH_up (HUP.out wr HB.out)) (keepH (HUP.out wr HB.out))).ins hlt
   subst e1
   have HKI := hidX (insKind_any b.ins[q] ad1 b.ins[q].args.length cap1 wr)
   have HST := hidX (show pKind onesE twosE b.ins[q] = true → (b.ins.take (q + 1)).all (pKind onesE twosE) = true from fun h => by
    rw [List.take_succ_eq_append_getElem hlt, List.all_append, HA.out]; simp [h])
   have HBD := hidX (show pKind onesE twosE b.ins[q] = false → res = 4 from fun h => by
    rw [HRES.out]; unfold blockR; rw [if_pos]; unfold bKind; rw [Bool.and_eq_false_iff]; right; rw [List.all_eq_false]; exact ⟨_, List.getElem_mem hlt, by simp [h]⟩)
   generalize pKind onesE twosE b.ins[q] = kb at *
   generalize b.ins[q] = x at *
   clear hr
   go_wp2_with fail
   refine HKI.out.mono ?_
   rintro e X2 ⟨rfl, hb2⟩
   have HB2 := hidX (bl_trans HB.out HB.out.size hb2)
   clear hb2 k0 k1 k2 k3 k4 HKI
   cases kb
   ·have hr := HBD.out rfl
    subst hr
    have HF := hidX (HUP.out X2 HB2.out)
    go_wp2
    go_ret
    exact ⟨rfl, HF.out⟩
   ·have HS2 := hidX (HST.out rfl)
    go_wp2
    go_roundw
    case rel => exact ⟨q + 1, by omega, by go_num, HB2.out, HS2.out⟩
    case measure => simp [intOf]; omega
  ·have hqn : q = b.ins.length := by omega
   subst hqn
   have HKA := hidX (show b.ins.all (pKind onesE twosE) = true from by have := HA.out; rwa [List.take_length] at this)
   clear HA hlt hq
   obtain ⟨want, hwant⟩ : ∃ want : Int, want = wantB b.fin := ⟨_, rfl⟩
   have HWANT := hidX hwant
   clear hwant
   obtain ⟨Wa, hWa⟩ : ∃ Wa, Wa = wr := ⟨_, rfl⟩
   subst hWa
   go_upto_region 7 with fail
   go_cut [7] (fun v7 wc => wc = Wa ∧ v7 = .int .i64 (-1))
   case first =>
    as_aux_lemma =>
     go_wp2_with fail
     go_meet
     case rel => exact ⟨rfl, rfl⟩
   case rest =>
   obtain ⟨hwc, rfl⟩ := hcut
   replace hwc := hwc.symm
   subst hwc
   go_step
   go_step
   go_cut [7] (fun v7 wc => wc = Wa ∧ v7 = .int .i64 want)
   case first =>
    as_aux_lemma =>
     by_cases h1 : b.fin = gJump
     ·have hw : want = 1 := by rw [HWANT.out, wantB, if_pos h1]
      have t1 : (b.fin == [106, 117, 109, 112]) = true := by rw [h1]; decide
      subst hw
      clear h1
      go_wp2_with fail
      go_meet
      case rel => exact ⟨rfl, rfl⟩
     ·have t1 : (b.fin == [106, 117, 109, 112]) = false := ne_lit h1
      by_cases h2 : b.fin = gIf
      ·have hw : want = 2 := by rw [HWANT.out, wantB, if_neg h1, if_pos h2]
       have t2 : (b.fin == [105, 102]) = true := by rw [h2]; decide
       subst hw
       clear h1 h2
       go_wp2_with fail
       go_meet
       case rel => exact ⟨rfl, rfl⟩
      ·have t2 : (b.fin == [105, 102]) = false := ne_lit h2
       by_cases h3 : b.fin = gReturn
       ·have hw : want = 0 := by rw [HWANT.out, wantB, if_neg h1, if_neg h2, if_pos h3]
        have t3 : (b.fin == [114, 101, 116, 117, 114, 110]) = true := by rw [h3]; decide
        subst hw
        clear h1 h2 h3
        go_wp2_with fail
        go_meet
        case rel => exact ⟨rfl, rfl⟩
       ·have t3 : (b.fin == [114, 101, 116, 117, 114, 110]) = false := ne_lit h3
        have hw : want = -1 := by rw [HWANT.out, wantB, if_neg h1, if_neg h2, if_neg h3]
        subst hw
        clear h1 h2 h3
        go_wp2_with fail
        go_meet
        case rel => exact ⟨rfl, rfl⟩
   case rest =>
   obtain ⟨hwc, rfl⟩ := hcut
   replace hwc := hwc.symm
   subst hwc
   rcases want_is b.fin with ⟨hw, hpk⟩ | ⟨hpk, hw, hw0, hw2, hpv⟩
   ·have hr : res = 4 := by rw [HRES.out]; unfold blockR bKind; rw [hpk]; rfl
    subst hr
    have hwm : want = -1 := by rw [HWANT.out]; exact hw
    subst hwm
    have HF := hidX (HUP.out Wa HB.out)
    clear hw hpk
    go_wp2
    go_ret
    exact ⟨rfl, HF.out⟩
   have HKT := hidX (show bKind onesE twosE b = true from by unfold bKind; rw [HKA.out]; simpa using hpk)
   have HWW := hidX (HWANT.out.trans hw)
   have hw0' : 0 ≤ want := by rw [HWANT.out]; exact hw0
   have hw2' : want ≤ 2 := by rw [HWANT.out]; exact hw2
   have HPV := hidX hpv
   clear hw0 hw2 hpv hw hpk
   obtain ⟨⟨c1, c2, c3⟩, b0, b1, b2, b3, b4, b5⟩ := HK.out Wa HB.out
   have HAP := hidX (allIn_any b.params (by omega) V Wa pa pc (HP.out.imp (inH_up (HUP.out Wa HB.out)) (keepH (HUP.out Wa HB.out))))
   have HAT := hidX (allIn_any b.tos (by omega) (L.length : Int) Wa ta tc (HT.out.imp (inH_up (HUP.out Wa HB.out)) (keepH (HUP.out Wa HB.out))))
   have HBB := hidX (bBound_is (V := V) (P := P) (N := L.length) HKA.out HPV.out)
   obtain ⟨p1, hp1⟩ : ∃ p, p = b.params.all (inV V) := ⟨_, rfl⟩
   obtain ⟨p2, hp2⟩ : ∃ p, p = b.tos.all (inV (L.length : Int)) := ⟨_, rfl⟩
   have HP1 := hidX hp1
   have HP2 := hidX hp2
   rw [← hp1] at HAP
   rw [← hp2] at HAT
   rw [← hp1, ← hp2] at HBB
   clear hp1 hp2
   go_upto_region 17 with fail
   go_cut [8] (fun v8 wc => wc = Wa ∧ v8 = .bool (p1 && p2))
   case first =>
    as_aux_lemma =>
     cases p1
     ·go_wp2_with fail
      refine HAP.out.mono ?_
      rintro e W' ⟨rfl, hh⟩
      replace hh := hh.symm
      subst hh
      go_wp2_with fail
      go_meet
      case rel => exact ⟨rfl, rfl⟩
     ·go_wp2_with fail
      refine HAP.out.mono ?_
      rintro e W' ⟨rfl, hh⟩
      replace hh := hh.symm
      subst hh
      go_wp2_with fail
      refine HAT.out.mono ?_
      rintro e W' ⟨rfl, hh⟩
      replace hh := hh.symm
      subst hh
      go_wp2_with fail
      go_meet
      case rel => exact ⟨rfl, rfl⟩
   case rest =>
   obtain ⟨hwc, rfl⟩ := hcut
   replace hwc := hwc.symm
   subst hwc
   obtain ⟨d1, hd1⟩ : ∃ d, d = (p1 && p2) := ⟨_, rfl⟩
   rw [← hd1] at HBB ⊢
   clear hd1 HAP HAT
   go_step
   go_step
   go_cut [8] (fun v8 wc => wc = Wa ∧ v8 = .bool (d1 && (decide (b.fin = gJump) || inV V b.v)))
   case first =>
    as_aux_lemma =>
     by_cases h1 : b.fin = gJump
     ·have HJ := hidX h1
      have t1 : (b.fin == [106, 117, 109, 112]) = true := by rw [h1]; decide
      have t2 : (b.fin != [106, 117, 109, 112]) = false := by rw [bne, t1]; rfl
      clear h1
      go_wp2_with fail
      go_meet
      case rel => exact ⟨rfl, by simp [HJ.out]⟩
     ·have HJ := hidX h1
      have t1 : (b.fin == [106, 117, 109, 112]) = false := ne_lit h1
      have t2 : (b.fin != [106, 117, 109, 112]) = true := by rw [bne, t1]; rfl
      clear h1
      by_cases h2 : b.v < 0
      ·go_wp2_with fail
       go_meet
       case rel => exact ⟨rfl, by rw [decide_eq_false HJ.out, show inV V b.v = false by simp [inV]; omega]; simp⟩
      ·have h2' : 0 ≤ b.v := by omega
       by_cases h3 : b.v < V
       ·go_wp2_with fail
        go_meet
        case rel => exact ⟨rfl, by rw [decide_eq_false HJ.out, show inV V b.v = true by simp [inV]; omega]; simp⟩
       ·have h3' : V ≤ b.v := by omega
        go_wp2_with fail
        go_meet
        case rel => exact ⟨rfl, by rw [decide_eq_false HJ.out, show inV V b.v = false by simp [inV]; omega]; simp⟩
   case rest =>
   obtain ⟨hwc, rfl⟩ := hcut
   replace hwc := hwc.symm
   subst hwc
   obtain ⟨d2, hd2⟩ : ∃ d, d = (d1 && (decide (b.fin = gJump) || inV V b.v)) := ⟨_, rfl⟩
   rw [← hd2] at HBB ⊢
   clear hd2
   go_wp2_with fail
   clear c1 c2 c3 b0 b1 b2 b3 b4 b5
   go_loopw [8, 9] (fun v8 i wr => ∃ q : Nat, q ≤ b.wi.length ∧ i = .int .i64 q ∧ v8 = .bool (d2 && (b.wi.take q).all (fun l => l.all (inV V))) ∧ Hid (Below W1.heap.size W1 wr)) (fun _ i _ => b.wi.length - (intOf i).toNat)
   case atStart => exact ⟨0, by omega, rfl, by simp, HB.out⟩
   case round =>
    obtain ⟨q, hq, rfl, rfl, HBr⟩ := hrel
    obtain ⟨⟨c1, c2, c3⟩, b0, b1, b2, b3, b4, b5⟩ := HK.out wr HBr.out
    by_cases hlt : q < b.wi.length
    ·have hlt' : (q : Int) < (b.wi.length : Int) := by omega
     obtain ⟨g, off, ad1, cap1, e1, hg, hr, k0⟩ := (HW.out.imp (inH_up (HUP.out wr HBr.out)) (keepH (HUP.out wr HBr.out))).row hlt
     subst e1
     have HST := hidX (show (d2 && (b.wi.take (q + 1)).all (fun l => l.all (inV V))) = ((d2 && (b.wi.take q).all (fun l => l.all (inV V))) && b.wi[q].all (inV V)) from by
      rw [List.take_succ_eq_append_getElem hlt, List.all_append]; simp [Bool.and_assoc])
     have hle := HLOW.out.each _ (List.getElem_mem hlt)
     have HAW := hidX (fun (n : Nat) => allIn_any b.wi[q] (by omega) V (wr.drewN n) ad1 cap1 (hr.imp (B := InH wr) (fun _ h => h) (fun b hb => rfl)))
     have HBD := hidX (fun (n : Nat) => bT HBr.out n)
     generalize (d2 && (b.wi.take q).all (fun l => l.all (inV V))) = cur at *
     generalize b.wi[q].all (inV V) = ok at *
     generalize b.wi[q] = lq at *
     clear hr hle
     cases cur
     ·go_wp2_with fail
      go_quiet (fail)
      go_wp2
      go_roundw
      case rel => exact ⟨q + 1, by omega, by go_num, by rw [HST.out]; rfl, HBD.out _⟩
      case measure => simp [intOf]; omega
     ·go_wp2_with fail
      go_quiet ((go_at_call 30; exact Calls.quiet_of_same (HAW.out _)))
      go_wp2
      go_roundw
      case rel => exact ⟨q + 1, by omega, by go_num, by rw [HST.out]; simp, HBD.out _⟩
      case measure => simp [intOf]; omega
    ·have hqn : q = b.wi.length := by omega
     subst hqn
     rw [List.take_length] at *
     obtain ⟨d3, hd3⟩ : ∃ d, d = (d2 && b.wi.all (fun l => l.all (inV V))) := ⟨_, rfl⟩
     rw [← hd3] at HBB ⊢
     clear hd3 hlt hq
     obtain ⟨Wb, hWb⟩ : ∃ Wb, Wb = wr := ⟨_, rfl⟩
     subst hWb
     go_wp2_with fail
     clear c1 c2 c3 b0 b1 b2 b3 b4 b5
     go_loopw [8, 10, 11, 12] (fun v8 i _ _ wr => ∃ q : Nat, q ≤ b.ins.length ∧ i = .int .i64 q ∧ v8 = .bool (d3 && (b.ins.take q).all (pBR V P)) ∧ Hid (Below W1.heap.size W1 wr)) (fun _ i _ _ _ => b.ins.length - (intOf i).toNat)
     case atStart => exact ⟨0, by omega, rfl, by simp, HBr.out⟩
     case round =>
      obtain ⟨q, hq, rfl, rfl, HBi⟩ := hrel
      obtain ⟨⟨c1, c2, c3⟩, b0, b1, b2, b3, b4, b5⟩ := HK.out wr HBi.out
      by_cases hlt : q < b.ins.length
      ·have hlt' : (q : Int) < (b.ins.length : Int) := by omega
       obtain ⟨g, off, ad1, cap1, e1, hg, hr, k0, k1, k2, k3, k4⟩ := (HI.out.imp (inH_up (HUP.out wr HBi.out)) (keepH (HUP.out wr HBi.out))).ins hlt
       subst e1
       have HST := hidX (show (d3 && (b.ins.take (q + 1)).all (pBR V P)) = ((d3 && (b.ins.take q).all (pBR V P)) && pBR V P b.ins[q]) from by
        rw [List.take_succ_eq_append_getElem hlt, List.all_append]; simp [Bool.and_assoc])
       have hle := HLOW.out.args _ (List.getElem_mem hlt)
       generalize (d3 && (b.ins.take q).all (pBR V P)) = cur at *
       generalize b.ins[q] = x at *
       obtain ⟨Wx, hWx⟩ : ∃ Wx, Wx = wr.alloc (.cells #[.string ⟨x.kind.toArray⟩, .int .i64 x.d, .slice ad1 x.args.length cap1, .int .i64 x.num, .string ⟨x.name.toArray⟩] 61) := ⟨_, rfl⟩
       have hwx : Below wr.heap.size wr Wx := by rw [hWx]; (repeat (first | exact Below.refl _ _ | assumption | refine Below.drew ?_ | refine bT ?_ _ | refine bS ?_ _ | refine bA ?_ _))
       have hxx : Wx.heap[wr.heap.size]? = some (.cells #[.string ⟨x.kind.toArray⟩, .int .i64 x.d, .slice ad1 x.args.length cap1, .int .i64 x.num, .string ⟨x.name.toArray⟩] 61 (0, 0)) := by rw [hWx]; exact heap_alloc_new _ _
       have HBX := hidX (bl_trans HBi.out HBi.out.size hwx)
       have HAX := hidX (allIn_any x.args (by omega) V Wx ad1 cap1 (hr.imp (inH_up hwx) (keepH hwx)))
       have HMK := hidX (makesValue_any x.kind Wx)
       have HPB := hidX (show pBR V P x = (x.args.all (inV V) && ((!pMakes x.kind || inV V x.d) && (x.kind != gParam || inV P x.num))) from rfl)
       generalize x.args.all (inV V) = okA at *
       generalize pMakes x.kind = mk at *
       obtain ⟨⟨e1, e2, e3⟩, -⟩ := HK.out Wx HBX.out
       have x0 : Wx.cell? ⟨wr.heap.size, 0, none⟩ = some (.string ⟨x.kind.toArray⟩) := cell_of_blk hxx 0
       have x1 : Wx.cell? ⟨wr.heap.size, 1, none⟩ = some (.int .i64 x.d) := cell_of_blk hxx 1
       have x2 : Wx.cell? ⟨wr.heap.size, 2, none⟩ = some (.slice ad1 x.args.length cap1) := cell_of_blk hxx 2
       have x3 : Wx.cell? ⟨wr.heap.size, 3, none⟩ = some (.int .i64 x.num) := cell_of_blk hxx 3
       clear hr hle hwx hxx
       go_upto_region 28 with fail
       rw [← hWx]
       clear hWx k0 k1 k2 k3 k4 c1 c2 c3 b0 b1 b2 b3 b4 b5
       go_cut [8] (fun v8 wc => wc = Wx ∧ v8 = .bool (cur && okA))
       case first =>
        as_aux_lemma =>
         cases cur
         ·go_wp2_with fail
          go_meet
          case rel => exact ⟨rfl, rfl⟩
         ·go_wp2_with fail
          refine HAX.out.mono ?_
          rintro e W' ⟨rfl, hh⟩
          replace hh := hh.symm
          subst hh
          go_wp2_with fail
          go_meet
          case rel => exact ⟨rfl, rfl⟩
       case rest =>
       obtain ⟨hwc, rfl⟩ := hcut
       replace hwc := hwc.symm
       subst hwc
       go_upto_region 29 with fail
       go_cut [12] (fun v12 wc => wc = Wx ∧ v12 = .bool mk)
       case first =>
        as_aux_lemma =>
         go_wp2_with fail
         refine HMK.out.mono ?_
         rintro e W' ⟨rfl, hh⟩
         replace hh := hh.symm
         subst hh
         go_wp2_with fail
         go_meet
         case rel => exact ⟨rfl, rfl⟩
       case rest =>
       obtain ⟨hwc, rfl⟩ := hcut
       replace hwc := hwc.symm
       subst hwc
       obtain ⟨cur2, hc2⟩ : ∃ c, c = (cur && okA) := ⟨_, rfl⟩
       have HC2 := hidX hc2
       rw [← hc2]
       clear hc2
       obtain ⟨i1, hi1⟩ : ∃ i, i = inV V x.d := ⟨_, rfl⟩
       obtain ⟨i2, hi2⟩ : ∃ i, i = inV P x.num := ⟨_, rfl⟩
       obtain ⟨pk, hpk⟩ : ∃ p, p = (x.kind == gParam) := ⟨_, rfl⟩
       have HFIN := hidX (show (cur2 && ((!mk || i1) && (!pk || i2))) = (d3 && (b.ins.take (q + 1)).all (pBR V P)) from by rw [HST.out, HPB.out, HC2.out, Bool.and_assoc, hi1, hi2, hpk]; rfl)
       have HI1 := hidX hi1
       have HI2 := hidX hi2
       have tp : (x.kind == [112, 97, 114, 97, 109]) = pk := hpk.symm
       clear hi1 hi2 hpk
       go_upto_region 30 with fail
       go_cut [139] (fun v wc => wc = Wx ∧ v = .bool ((mk && !i1) || (pk && !i2)))
       case first =>
        as_aux_lemma =>
         by_cases hd : mk = true ∧ i1 = false
         ·obtain ⟨rfl, rfl⟩ := hd
          have hd := HI1.out.symm
          simp only [inV, Bool.and_eq_false_iff, decide_eq_false_iff_not] at hd
          by_cases h0 : x.d < 0
          ·clear hd
           go_wp2_with fail
           go_meet
           case rel => exact ⟨rfl, by simp⟩
          ·have h0' : 0 ≤ x.d := by omega
           have h1' : V ≤ x.d := by omega
           clear hd
           go_wp2_with fail
           go_meet
           case rel => exact ⟨rfl, by simp⟩
         ·have hok : mk = true → 0 ≤ x.d ∧ x.d < V := fun e => by
           have h1 : i1 = true := (nand_ok hd).2 e
           have h2 := HI1.out.symm
           rw [h1] at h2
           simpa [inV] using h2
          have HDK := hidX (nand_ok hd).1
          clear hd
          have hq2 : pk = true → i2 = true → 0 ≤ x.num ∧ x.num < P := fun _ e => by
           have h2 := HI2.out.symm
           rw [e] at h2
           simpa [inV] using h2
          have hq3 : pk = true → i2 = false → x.num < 0 ∨ (0 ≤ x.num ∧ P ≤ x.num) := fun _ e => by
           have h2 := HI2.out.symm
           rw [e] at h2
           simp only [inV, Bool.and_eq_false_iff, decide_eq_false_iff_not] at h2
           omega
          have HQ2 := hidX hq2
          have HQ3 := hidX hq3
          have HOK := hidX hok
          clear hq2 hq3 hok
          have hmk : mk = false ∨ (mk = true ∧ 0 ≤ x.d ∧ x.d < V) := by
           cases mk
           ·exact Or.inl rfl
           ·exact Or.inr ⟨rfl, HOK.out rfl⟩
          rcases hmk with rfl | ⟨rfl, hd1, hd2⟩
          all_goals
           cases pk
           ·go_wp2_with fail
            go_meet
            case rel => exact ⟨rfl, by rw [HDK.out]; first | rfl | (simp; done) | (simp; omega)⟩
           ·cases i2
            ·rcases HQ3.out rfl rfl with h0 | ⟨h0, h1⟩
             ·go_wp2_with fail
              go_meet
              case rel => exact ⟨rfl, by rw [HDK.out]; first | rfl | (simp; done) | (simp; omega)⟩
             ·go_wp2_with fail
              go_meet
              case rel => exact ⟨rfl, by rw [HDK.out]; first | rfl | (simp; done) | (simp; omega)⟩
            ·obtain ⟨h0, h1⟩ := HQ2.out rfl rfl
             go_wp2_with fail
             go_meet
             case rel => exact ⟨rfl, by rw [HDK.out]; first | rfl | (simp; done) | (simp; omega)⟩
       case rest =>
       obtain ⟨hwc, rfl⟩ := hcut
       replace hwc := hwc.symm
       subst hwc
       have HCN := hidX (show ((!mk || i1) && (!pk || i2)) = !((mk && !i1) || (pk && !i2)) from by cases mk <;> cases i1 <;> cases pk <;> cases i2 <;> rfl)
       generalize ((mk && !i1) || (pk && !i2)) = cnd at *
       clear x0 x1 x2 x3 e1 e2 e3
       have HRR := hidX (show (d3 && (b.ins.take (q + 1)).all (pBR V P)) = (cur2 && !cnd) from by rw [← HFIN.out, HCN.out])
       cases cnd
       ·go_wp2
        go_roundw
        case rel => exact ⟨q + 1, by omega, by go_num, by rw [HRR.out]; simp, HBX.out⟩
        case measure => simp [intOf]; omega
       ·go_wp2
        go_roundw
        case rel => exact ⟨q + 1, by omega, by go_num, by rw [HRR.out]; simp, HBX.out⟩
        case measure => simp [intOf]; omega
      ·have hqn : q = b.ins.length := by omega
       subst hqn
       rw [List.take_length] at *
       rw [← HBB.out]
       clear hlt hq
       obtain ⟨bb, hbb⟩ : ∃ p, p = bBound V P L.length b := ⟨_, rfl⟩
       rw [← hbb]
       have HBQ := hidX hbb
       clear hbb
       obtain ⟨Wc, hWc⟩ : ∃ Wc, Wc = wr := ⟨_, rfl⟩
       subst hWc
       cases bb
       ·have hr : res = 2 := by rw [HRES.out]; unfold blockR; rw [HKT.out, ← HBQ.out]; rfl
        subst hr
        have HF := hidX (HUP.out Wc HBi.out)
        go_wp2
        go_ret
        exact ⟨rfl, HF.out⟩
       have HR3 := hidX (show res = if bShape L b = false then 3 else 0 from by rw [HRES.out]; unfold blockR; rw [HKT.out, ← HBQ.out]; rfl)
       have HTO := hidX (show ∀ t ∈ b.tos, 0 ≤ t ∧ t < (L.length : Int) from fun t ht => by
        have h := HBQ.out.symm
        unfold bBound at h
        simp only [Bool.and_eq_true] at h
        have h2 := List.all_eq_true.1 h.1.2 t ht
        simpa [inV] using h2)
       go_wp2_with fail
       clear c1 c2 c3 b0 b1 b2 b3 b4 b5
       go_loopw [13, 14] (fun i _ wr => ∃ q : Nat, q ≤ b.ins.length ∧ i = .int .i64 q ∧ Hid (Below W1.heap.size W1 wr) ∧ Hid ((b.ins.take q).all pShape = true)) (fun i _ _ => b.ins.length - (intOf i).toNat)
       case atStart => exact ⟨0, by omega, rfl, HBi.out, rfl⟩
       case round =>
        obtain ⟨q, hq, rfl, HBs, HA⟩ := hrel
        obtain ⟨⟨c1, c2, c3⟩, b0, b1, b2, b3, b4, b5⟩ := HK.out wr HBs.out
        by_cases hlt : q < b.ins.length
        ·have hlt' : (q : Int) < (b.ins.length : Int) := by omega
         obtain ⟨g, off, ad1, cap1, e1, hg, hr, k0, k1, k2, k3, k4⟩ := (HI.out.imp (inH_up (HUP.out wr HBs.out)) (keepH (HUP.out wr HBs.out))).ins hlt
         subst e1
         have HKI := hidX (insShape_any b.ins[q] (fun e => by have h := List.all_eq_true.1 HKA.out _ (List.getElem_mem hlt); simp [pKind, e] at h) cap1 ad1 wr)
         have HST := hidX (show pShape b.ins[q] = true → (b.ins.take (q + 1)).all pShape = true from fun h => by
          rw [List.take_succ_eq_append_getElem hlt, List.all_append, HA.out]; simp [h])
         have HBD := hidX (show pShape b.ins[q] = false → res = 3 from fun h => by
          rw [HR3.out, if_pos]; unfold bShape; rw [show b.ins.all pShape = false from List.all_eq_false.2 ⟨_, List.getElem_mem hlt, by simp [h]⟩]; rfl)
         generalize pShape b.ins[q] = kb at *
         generalize b.ins[q] = x at *
         clear hr
         go_wp2_with fail
         refine HKI.out.mono ?_
         rintro e X2 ⟨rfl, hb2⟩
         have HB2 := hidX (bl_trans HBs.out HBs.out.size hb2)
         clear hb2 k0 k1 k2 k3 k4 HKI
         cases kb
         ·have hr := HBD.out rfl
          subst hr
          have HF := hidX (HUP.out X2 HB2.out)
          go_wp2
          go_ret
          exact ⟨rfl, HF.out⟩
         ·have HS2 := hidX (HST.out rfl)
          go_wp2
          go_roundw
          case rel => exact ⟨q + 1, by omega, by go_num, HB2.out, HS2.out⟩
          case measure => simp [intOf]; omega
        ·have hqn : q = b.ins.length := by omega
         subst hqn
         have HSA := hidX (show b.ins.all pShape = true from by have := HA.out; rwa [List.take_length] at this)
         clear HA hlt hq
         obtain ⟨Wd, hWd⟩ : ∃ Wd, Wd = wr := ⟨_, rfl⟩
         subst hWd
         obtain ⟨l1, hl1'⟩ : ∃ l, l = ((b.tos.length : Int) == want) := ⟨_, rfl⟩
         obtain ⟨l2, hl2'⟩ : ∃ l, l = ((b.wi.length : Int) == want) := ⟨_, rfl⟩
         obtain ⟨jp, hjp⟩ : ∃ l, l = (b.fin == [106, 117, 109, 112]) := ⟨_, rfl⟩
         obtain ⟨vz, hvz⟩ : ∃ l, l = (b.v == 0) := ⟨_, rfl⟩
         have HL1 := hidX hl1'
         have HL2 := hidX hl2'
         have HJP := hidX hjp
         have HVZ := hidX hvz
         have f1 := hl1'.symm
         have f2 := hl2'.symm
         have f3 := hjp.symm
         have f4 := hvz.symm
         have g1 : ((b.tos.length : Int) != want) = !l1 := by rw [bne, f1]
         have g2 : ((b.wi.length : Int) != want) = !l2 := by rw [bne, f2]
         have g4 : (b.v != 0) = !vz := by rw [bne, f4]
         clear hl1' hl2' hjp hvz
         go_upto_region 40 with fail
         go_cut [178] (fun v wc => wc = Wd ∧ v = .bool (!l1 || (!l2 || (jp && !vz))))
         case first =>
          as_aux_lemma =>
           cases l1
           ·go_wp2_with fail
            go_meet
            case rel => exact ⟨rfl, rfl⟩
           ·cases l2
            ·go_wp2_with fail
             go_meet
             case rel => exact ⟨rfl, rfl⟩
            ·cases jp
             ·go_wp2_with fail
              go_meet
              case rel => exact ⟨rfl, rfl⟩
             ·cases vz
              ·go_wp2_with fail
               go_meet
               case rel => exact ⟨rfl, rfl⟩
              ·go_wp2_with fail
               go_meet
               case rel => exact ⟨rfl, rfl⟩
         case rest =>
         obtain ⟨hwc, rfl⟩ := hcut
         replace hwc := hwc.symm
         subst hwc
         clear c1 c2 c3 b0 b1 b2 b3 b4 b5 f1 f2 f3 f4 g1 g2 g4
         have HSH := hidX (show bShape L b = ((l1 && (!jp || vz)) && (l2 && (List.range b.tos.length).all fun i => decide ((b.wi.getD i []).length = (blkAt L (b.tos.getD i 0)).params.length))) from by
          unfold bShape bFit
          rw [HSA.out, HPV.out, ← HVZ.out]
          have e1 : decide (b.tos.length = (pen b.fin).ways) = l1 := by
           rw [HL1.out, HWW.out, Bool.eq_iff_iff]; simp; omega
          have e3 : decide (b.fin = gJump) = jp := by rw [HJP.out, Bool.eq_iff_iff, decide_eq_true_iff, beq_iff_eq]; exact Iff.rfl
          rw [e1, e3]
          cases hl : l1
          ·simp
          ·have e2 : decide (b.wi.length = b.tos.length) = l2 := by
            have h1 := HL1.out
            rw [hl] at h1
            have h1' : (b.tos.length : Int) = want := by simpa using h1.symm
            rw [HL2.out, Bool.eq_iff_iff]; simp; omega
           rw [e2]
           simp)
         have HCN := hidX (show (!l1 || (!l2 || (jp && !vz))) = false → l1 = true ∧ l2 = true ∧ (!jp || vz) = true from fun h => by cases l1 <;> cases l2 <;> cases jp <;> cases vz <;> simp_all)
         have HCT := hidX (show (!l1 || (!l2 || (jp && !vz))) = true → res = 3 from fun h => by
          rw [HR3.out, if_pos]
          rw [HSH.out]
          generalize ((List.range b.tos.length).all fun i => decide ((b.wi.getD i []).length = (blkAt L (b.tos.getD i 0)).params.length)) = z
          clear HSH HL1 HL2 HJP HVZ
          cases l1 <;> cases l2 <;> cases jp <;> cases vz <;> simp_all)
         generalize (!l1 || (!l2 || (jp && !vz))) = cnd at *
         cases cnd
         ·obtain ⟨rfl, rfl, h3⟩ := HCN.out rfl
          have HR4 := hidX (show res = if ((List.range b.tos.length).all fun i => decide ((b.wi.getD i []).length = (blkAt L (b.tos.getD i 0)).params.length)) = false then 3 else 0 from by rw [HR3.out, HSH.out, h3]; simp)
          have hn1 : (b.tos.length : Int) = want := by have := HL1.out.symm; simpa using this
          have hn2 : (b.wi.length : Int) = want := by have := HL2.out.symm; simpa using this
          have HN1 := hidX hn1
          have HN2 := hidX hn2
          obtain ⟨wn, hwn⟩ : ∃ wn : Nat, want = (wn : Int) := ⟨want.toNat, by omega⟩
          have HWN1 := hidX (show b.tos.length = wn from by omega)
          have HWN2 := hidX (show b.wi.length = wn from by omega)
          have hwl : (wn : Int) ≤ 2 := by omega
          subst hwn
          clear hn1 hn2 h3 HCN HCT HSH hw2' hw0'
          go_wp2_with fail
          go_loopw [15] (fun i wr => ∃ q : Nat, q ≤ wn ∧ i = .int .i64 q ∧ Hid (Below W1.heap.size W1 wr) ∧ Hid (∀ j, j < q → (b.wi.getD j []).length = (blkAt L (b.tos.getD j 0)).params.length)) (fun i _ => wn - (intOf i).toNat)
          case atStart => exact ⟨0, by omega, rfl, HBs.out, fun j hj => absurd hj (by omega)⟩
          case round =>
           obtain ⟨q, hq, rfl, HBt, HA⟩ := hrel
           obtain ⟨⟨c1, c2, c3⟩, b0, b1, b2, b3, b4, b5⟩ := HK.out wr HBt.out
           by_cases hlt : q < wn
           ·have hlt' : (q : Int) < (wn : Int) := by omega
            have hq1 : q < b.tos.length := by rw [HWN1.out]; exact hlt
            have hq2 : q < b.wi.length := by rw [HWN2.out]; exact hlt
            obtain ⟨g, off, ad1, cap1, e1, hg, hr, k0⟩ := (HW.out.imp (inH_up (HUP.out wr HBt.out)) (keepH (HUP.out wr HBt.out))).row hq2
            obtain ⟨gt, offt, et, hgt, kt⟩ := (HT.out.imp (inH_up (HUP.out wr HBt.out)) (keepH (HUP.out wr HBt.out))).int hq1
            have htb := HTO.out _ (List.getElem_mem hq1)
            obtain ⟨tn, htn⟩ : ∃ tn : Nat, b.tos[q] = (tn : Int) := ⟨b.tos[q].toNat, by omega⟩
            have htl : tn < L.length := by omega
            have htl' : (tn : Int) < (L.length : Int) := by omega
            obtain ⟨gb, offb, pa', pc', ia', ic', ta', tc', wa', wc', eb, hgb, -, -, -, -, kb, -⟩ := (HC.out.imp (inH_up (HUP.out wr HBt.out)) (keepH (HUP.out wr HBt.out))).blk htl
            subst e1 et eb
            rw [htn] at kt
            have HLE := hidX (show (b.wi.getD q []).length = b.wi[q].length from by simp [List.getD, hq2])
            have HLP := hidX (show (blkAt L (b.tos.getD q 0)).params.length = L[tn].params.length from by
             rw [show b.tos.getD q 0 = (tn : Int) from by simp [List.getD, hq1, htn]]; simp [blkAt, htl])
            have hq1' : (q : Int) < (b.tos.length : Int) := by omega
            have hq2' : (q : Int) < (b.wi.length : Int) := by omega
            have HBD := hidX (fun (n : Nat) => bT HBt.out n)
            generalize b.wi[q].length = x1 at *
            generalize L[tn].params.length = x2 at *
            clear hr htb htn
            by_cases hxx : x1 = x2
            ·have tx : ((x1 : Int) == (x2 : Int)) = true := by simp [hxx]
             have ty : ((x1 : Int) != (x2 : Int)) = false := by simp [hxx]
             have HS2 := hidX (show ∀ j, j < q + 1 → (b.wi.getD j []).length = (blkAt L (b.tos.getD j 0)).params.length from fun j hj => by
              by_cases e : j = q
              ·subst e; rw [HLE.out, HLP.out]; exact hxx
              ·exact HA.out j (by omega))
             clear hxx
             go_wp2_with fail
             go_quiet (fail)
             go_wp2
             go_roundw
             case rel => exact ⟨q + 1, by omega, by go_num, HBD.out _, HS2.out⟩
             case measure => simp [intOf]; omega
            ·have tx : ((x1 : Int) == (x2 : Int)) = false := by rw [beq_eq_false_iff_ne]; omega
             have ty : ((x1 : Int) != (x2 : Int)) = true := by rw [bne, tx]; rfl
             have hr : res = 3 := by
              rw [HR4.out, if_pos]
              rw [List.all_eq_false]
              exact ⟨q, List.mem_range.2 hq1, by rw [HLE.out, HLP.out]; simpa using hxx⟩
             subst hr
             have HF := hidX (fun (n : Nat) => HUP.out _ (bT HBt.out n))
             clear hxx
             go_wp2_with fail
             go_quiet (fail)
             go_wp2
             go_ret
             exact ⟨rfl, HF.out _⟩
           ·have hqn : q = wn := by omega
            have hr : res = 0 := by
             rw [HR4.out, if_neg]
             rw [Bool.not_eq_false, List.all_eq_true]
             intro j hj
             have := HA.out j (by have := List.mem_range.1 hj; have := HWN1.out; omega)
             simpa using this
            subst hr hqn
            have HF := hidX (HUP.out wr HBt.out)
            go_wp2
            go_ret
            exact ⟨rfl, HF.out⟩
         ·have hr := HCT.out rfl
          subst hr
          have HF := hidX (HUP.out Wd HBs.out)
          go_wp2
          go_ret
          exact ⟨rfl, HF.out⟩
end Go.Proofs.YtmckajgacfjnhaaGreatDoor
