/- Our own: texts joined: GrRefC. -/
import Derived.Test.YtlgejjmdanmglaaGreatDoorVRefs
namespace Go.Proofs.YtlgejjmdanmglaaGreatDoor
open Go.RowKit
set_option maxRecDepth 100000 in
set_option maxHeartbeats 1000000 in
theorem rNode_region {w : World} {g off cap : Nat} {ad1 : Option Addr} {cap1 : Nat} {P : Int} {L : List Nd} {i : Nat} (nm0 : List UInt8) (ni : List Int) (nn : Int) (nm : List UInt8) (h : Rn w g off cap ad1 cap1 P L i ⟨gRegion, ni, nn, nm⟩) :
  Calls Tryz.prog 21 #[.agg #[.string ⟨nm0.toArray⟩, .int .i64 P, .slice (some ⟨g, off, none⟩) L.length cap], .int .i64 i] w fun e w' => e = .returned (.int .i64 ((nodeC onesE twosE P L i : Nat) : Int)) ∧ Below w.heap.size w w' := by
 have hst := node_step (P := P) h.at0 (show (shp gRegion).kind ≠ [] by decide)
 have hl := h.lown.ins
 simp only at hl
 have hl' : (ni.length : Int) ≤ 1000 := by omega
 have hfew : (L.length : Int) ≤ 1000 := by have := h.few; omega
 have hi' : (i : Int) < (L.length : Int) := by have := h.hi; omega
 have k0 : w.cell? ⟨g, off + i * 4, none⟩ = some (.string ⟨#[114, 101, 103, 105, 111, 110]⟩) := h.k0
 have k1 : w.cell? ⟨g, off + i * 4 + 1, none⟩ = some (.slice ad1 ni.length cap1) := h.k1
 have k2 : w.cell? ⟨g, off + i * 4 + 2, none⟩ = some (.int .i64 nn) := h.k2
 have k3 : w.cell? ⟨g, off + i * 4 + 3, none⟩ = some (.string ⟨nm.toArray⟩) := h.k3
 have hgl : g < w.heap.size := h.low
 obtain ⟨W1, hW1⟩ : ∃ W1, W1 = (w.alloc (.cells #[.string ⟨nm0.toArray⟩, .int .i64 P, .slice (some ⟨g, off, none⟩) L.length cap] 24)).alloc (.cells #[.string ⟨#[114, 101, 103, 105, 111, 110]⟩, .slice ad1 ni.length cap1, .int .i64 nn, .string ⟨nm.toArray⟩] 54) := ⟨_, rfl⟩
 have hb1 : Below w.heap.size w W1 := by rw [hW1]; (repeat (first | exact Below.refl _ _ | assumption | refine Below.drew ?_ | refine bT ?_ _ | refine bS ?_ _ | refine bA ?_ _))
 have HG1 := hidX (show W1.heap[w.heap.size]? = some (.cells #[.string ⟨nm0.toArray⟩, .int .i64 P, .slice (some ⟨g, off, none⟩) L.length cap] 24 (0, 0)) from by rw [hW1]; exact twoG w _ _)
 have HN1 := hidX (show W1.heap[w.heap.size + 1]? = some (.cells #[.string ⟨#[114, 101, 103, 105, 111, 110]⟩, .slice ad1 ni.length cap1, .int .i64 nn, .string ⟨nm.toArray⟩] 54 (0, 0)) from by rw [hW1]; exact heap_alloc2_new w _ _)
 have HKD := hidX (show ∀ X, Calls Tryz.prog 45 #[.string ⟨#[114, 101, 103, 105, 111, 110]⟩] X fun e w' => e = .returned (.bool true) ∧ Below X.heap.size X w' from fun X => rKind_any [114, 101, 103, 105, 111, 110] X)
 have HCR := hidX (show ∀ X, Calls Tryz.prog 46 #[.agg #[.string ⟨#[114, 101, 103, 105, 111, 110]⟩, .slice ad1 ni.length cap1, .int .i64 nn, .string ⟨nm.toArray⟩]] X fun e w' => e = .returned (.bool (countB gRegion ni.length)) ∧ Below X.heap.size X w' from fun X => rCount_any ⟨gRegion, ni, nn, nm⟩ (by simp only; omega) ad1 cap1 X)
 have HWY := hidX (show ∀ X, Calls Tryz.prog 49 #[.agg #[.string ⟨#[114, 101, 103, 105, 111, 110]⟩, .slice ad1 ni.length cap1, .int .i64 nn, .string ⟨nm.toArray⟩]] X fun e w' => e = .returned (.int .i64 ((ni.length : Int))) ∧ Below X.heap.size X w' from fun X => rWays_any ⟨gRegion, ni, nn, nm⟩ (by simp only; omega) ad1 cap1 X)
 have hgv := fun (hf : (countB gRegion ni.length && numB ⟨gRegion, ni, nn, nm⟩ && nameG ⟨gRegion, ni, nn, nm⟩) = true) (j : Nat) (hj : j < ni.length) => giv_is (L := L) (n := ⟨gRegion, ni, nn, nm⟩) (k := j) (by rw [fits_is (show (shp gRegion).kind ≠ [] by decide)]; exact hf) hj (show (shp gRegion).kind ≠ [] by decide)
 generalize hres : nodeC onesE twosE P L i = res at hst
 have HRN := hidX h
 have HLL := hidX h.lows
 have HST := hidX hst
 have HGV := hidX hgv
 clear h hst hgv hres
 generalize hcb : countB gRegion ni.length = cb at *
 have HCB := hidX hcb
 clear hcb
 have HB := hidX hb1
 clear hb1
 cases cb with
 | false =>
  go_enter Tryz.func21, Tryz.ntmps21
  go_wp2_with fail
  rw [← hW1]
  clear hW1 k0 k1 k2 k3
  refine (HKD.out W1).mono ?_
  rintro e W2 ⟨rfl, hbn⟩
  obtain ⟨d0, d1, d2, d3, b1, b2⟩ := facts6 HN1.out HG1.out
  obtain ⟨HN1, HG1, HB⟩ := nxt3 HN1 HG1 HB hbn
  clear d0 d1 d2 d3 b1 b2 hbn
  obtain ⟨d0, d1, d2, d3, b1, b2⟩ := facts6 HN1.out HG1.out
  go_wp2_with fail
  refine (HCR.out W2).mono ?_
  rintro e W3 ⟨rfl, hbn⟩
  obtain ⟨HN1, HG1, HB⟩ := nxt3 HN1 HG1 HB hbn
  clear d0 d1 d2 d3 b1 b2 hbn
  obtain ⟨d0, d1, d2, d3, b1, b2⟩ := facts6 HN1.out HG1.out
  have hr : res = 3 := by rw [HST.out]; simp
  subst hr
  go_wp2
  go_ret
  exact ⟨rfl, (by first | exact HB.out | exact HB.out.trans (drewN_below' _ _ _))⟩
 | true =>
  by_cases hnn : nn = 0
  ·subst hnn
   by_cases hnm : nm = []
   ·subst hnm
    have hft : (true && numB ⟨gRegion, ni, 0, []⟩ && nameG ⟨gRegion, ni, 0, []⟩) = true := by simp [numB, nameG]
    have hst2 : res = if bndB P L.length ⟨gRegion, ni, 0, []⟩ = false then 2 else if opB onesE twosE ⟨gRegion, ni, 0, []⟩ = false then 4 else if givB L ⟨gRegion, ni, 0, []⟩ = false ∨ phiB L ⟨gRegion, ni, 0, []⟩ = false then 3 else 0 := by
     rw [HST.out, if_neg]
     rw [hft]
     simp [gRegion, gStart]
    have hgv2 := HGV.out hft
    have HST2 := hidX hst2
    have HGV2 := hidX hgv2
    clear hst2 hgv2 hft
    go_enter Tryz.func21, Tryz.ntmps21
    go_wp2_with fail
    rw [← hW1]
    clear hW1 k0 k1 k2 k3
    refine (HKD.out W1).mono ?_
    rintro e W2 ⟨rfl, hbn⟩
    obtain ⟨d0, d1, d2, d3, b1, b2⟩ := facts6 HN1.out HG1.out
    obtain ⟨HN1, HG1, HB⟩ := nxt3 HN1 HG1 HB hbn
    clear d0 d1 d2 d3 b1 b2 hbn
    obtain ⟨d0, d1, d2, d3, b1, b2⟩ := facts6 HN1.out HG1.out
    go_wp2_with fail
    refine (HCR.out W2).mono ?_
    rintro e W3 ⟨rfl, hbn⟩
    obtain ⟨HN1, HG1, HB⟩ := nxt3 HN1 HG1 HB hbn
    clear d0 d1 d2 d3 b1 b2 hbn
    obtain ⟨d0, d1, d2, d3, b1, b2⟩ := facts6 HN1.out HG1.out
    go_wp2_with fail
    go_loopw [8] (fun vi wr => ∃ q : Nat, q ≤ ni.length ∧ vi = .int .i64 q ∧ Hid (Below W3.heap.size W3 wr) ∧ Hid (∀ j (hj : j < q) (hq : q ≤ ni.length), 0 ≤ ni[j]'(by omega) ∧ ni[j]'(by omega) < (L.length : Int))) (fun vi _ => ni.length - (intOf vi).toNat)
    case atStart => exact ⟨0, Nat.zero_le _, rfl, Below.refl _ _, fun j hj => absurd hj (by omega)⟩
    case round =>
     obtain ⟨q, hq, rfl, HBW, HA⟩ := hrel
     have hbn := HBW.out
     obtain ⟨HN1, HG1, HB⟩ := nxt3 HN1 HG1 HB hbn
     clear d0 d1 d2 d3 b1 b2 hbn
     obtain ⟨d0, d1, d2, d3, b1, b2⟩ := facts6 HN1.out HG1.out
     by_cases hlt : q < ni.length
     ·have hlt' : (q : Int) < (ni.length : Int) := by omega
      obtain ⟨g1, off1, e1, hg1, hc⟩ := HRN.out.row.int hlt
      subst e1
      have hx : wr.cell? ⟨g1, off1 + q, none⟩ = some (.int .i64 ni[q]) := (HB.out.cell (p := ⟨g1, _, none⟩) hg1).trans hc
      have HBD := hidX (fun hx => bnd_bad (P := P) (N := L.length) (n := ⟨gRegion, ni, 0, []⟩) (q := q) hlt hx)
      have hstep := fun (hx : 0 ≤ ni[q] ∧ ni[q] < (L.length : Int)) (j : Nat) (hj : j < q + 1) (hq2 : q + 1 ≤ ni.length) => show 0 ≤ ni[j]'(by omega) ∧ ni[j]'(by omega) < (L.length : Int) from by
       by_cases e : j = q
       ·subst e; exact hx
       ·exact HA.out j (by omega) (by omega)
      clear hc
      simp only at HBD
      generalize ni[q] = x at hx HBD hstep
      have HSP := hidX hstep
      clear hstep
      by_cases x0 : x < 0
      ·have hb := HBD.out (by omega)
       have hr : res = 2 := by rw [HST2.out]; rw [if_pos hb]
       subst hr
       go_wp2_with fail
       go_quiet (fail)
       go_wp2
       go_ret
       exact ⟨rfl, (by first | exact HB.out | exact HB.out.trans (drewN_below' _ _ _))⟩
      ·by_cases x1 : (L.length : Int) ≤ x
       ·have hb := HBD.out (by omega)
        have hr : res = 2 := by rw [HST2.out]; rw [if_pos hb]
        subst hr
        go_wp2_with fail
        go_quiet (fail)
        go_wp2
        go_ret
        exact ⟨rfl, (by first | exact HB.out | exact HB.out.trans (drewN_below' _ _ _))⟩
       ·have HS2 := hidX (HSP.out ⟨by omega, by omega⟩)
        go_wp2_with fail
        go_quiet (fail)
        go_wp2
        go_roundw
        case rel => exact ⟨q + 1, by omega, by go_num, (show Below W3.heap.size W3 _ from by have hq9 := HBW.out; (repeat (first | exact Below.refl _ _ | assumption | refine Below.drew ?_ | refine bT ?_ _ | refine bS ?_ _ | refine bA ?_ _))), HS2.out⟩
        case measure => simp [intOf]; omega
     ·have hqn : q = ni.length := by omega
      subst hqn
      have hbd := bnd_good (P := P) (N := L.length) (n := ⟨gRegion, ni, 0, []⟩) (fun j hj => HA.out j hj (Nat.le_refl _))
      have HAB := hidX (fun j (hj : j < ni.length) => HA.out j hj (Nat.le_refl _))
      clear HBW
      rename World => W4
      have hb2 : bndB P L.length ⟨gRegion, ni, 0, []⟩ = true := by rw [hbd]; simp [gRegion, gParam]
      have HBD := hidX hb2
      clear hbd hb2
      have HO1 := hidX (show Calls Tryz.prog 47 #[.string ⟨([] : List UInt8).toArray⟩] W4 _ from rIsOne_any [] W4)
      have HO2 := hidX (fun X => rIsTwo_any [] X)
      generalize hm1 : decide ([] ∈ onesE) = o1 at HO1
      generalize hm2 : decide ([] ∈ twosE) = o2 at HO2
      have HM1 := hidX hm1
      have HM2 := hidX hm2
      clear hm1 hm2
      have hop : opB onesE twosE ⟨gRegion, ni, 0, []⟩ = true := by unfold opB; simp [gRegion, gOne, gTwo]
      have HOP := hidX hop
      clear hop
      go_wp2_with fail
      refine HO1.out.mono ?_
      rintro e W5 ⟨rfl, hh⟩
      replace hh := hh.symm
      subst hh
      go_wp2_with fail
      refine (HO2.out _).mono ?_
      rintro e W6 ⟨rfl, hbn⟩
      obtain ⟨HN1, HG1, HB⟩ := nxt3 HN1 HG1 HB hbn
      clear d0 d1 d2 d3 b1 b2 hbn
      obtain ⟨d0, d1, d2, d3, b1, b2⟩ := facts6 HN1.out HG1.out
      go_wp2_with fail
      refine (HWY.out W6).mono ?_
      rintro e W7 ⟨rfl, hbn⟩
      obtain ⟨HN1, HG1, HB⟩ := nxt3 HN1 HG1 HB hbn
      clear d0 d1 d2 d3 b1 b2 hbn
      obtain ⟨d0, d1, d2, d3, b1, b2⟩ := facts6 HN1.out HG1.out
      have HST3 := hidX (show res = if givB L ⟨gRegion, ni, 0, []⟩ = false ∨ phiB L ⟨gRegion, ni, 0, []⟩ = false then 3 else 0 from by rw [HST2.out, if_neg (by rw [HBD.out]; decide), if_neg (by rw [HOP.out]; decide)])
      go_wp2_with fail
      go_loopw [12] (fun vi wr => ∃ q : Nat, q ≤ ni.length ∧ vi = .int .i64 q ∧ Hid (Below W7.heap.size W7 wr) ∧ Hid (∀ j, j < q → givAt L ⟨gRegion, ni, 0, []⟩ j = true)) (fun vi _ => ni.length - (intOf vi).toNat)
      case atStart => exact ⟨0, Nat.zero_le _, rfl, Below.refl _ _, fun j hj => absurd hj (by omega)⟩
      case round =>
       obtain ⟨q, hq, rfl, HBW, HA⟩ := hrel
       have hbn := HBW.out
       obtain ⟨HN1, HG1, HB⟩ := nxt3 HN1 HG1 HB hbn
       clear d0 d1 d2 d3 b1 b2 hbn
       obtain ⟨d0, d1, d2, d3, b1, b2⟩ := facts6 HN1.out HG1.out
       by_cases hlt : q < ni.length
       ·have hlt' : (q : Int) < (ni.length : Int) := by omega
        obtain ⟨g1, off1, e1, hg1, hc⟩ := HRN.out.row.int hlt
        subst e1
        have hx : wr.cell? ⟨g1, off1 + q, none⟩ = some (.int .i64 ni[q]) := (HB.out.cell (p := ⟨g1, _, none⟩) hg1).trans hc
        obtain ⟨h0, h1⟩ := HAB.out q hlt
        obtain ⟨y, hy, hyk, _⟩ := HRN.out.at h0 h1
        have hyc := (HB.out.cell (p := ⟨g, _, none⟩) HRN.out.low).trans hyk
        have hgq := HGV2.out q hlt
        have HBAD := hidX (fun hx => giv_bad (L := L) (n := ⟨gRegion, ni, 0, []⟩) (q := q) hlt hx)
        have hstep := fun (hx : givAt L ⟨gRegion, ni, 0, []⟩ q = true) (j : Nat) (hj : j < q + 1) => show givAt L ⟨gRegion, ni, 0, []⟩ j = true from by
         by_cases e : j = q
         ·subst e; exact hx
         ·exact HA.out j (by omega)
        rw [hy] at hx h1
        generalize (ndAt L ni[q]).kind = kd at hyc hgq
        have HSP := hidX hstep
        have HGQ := hidX hgq
        clear hstep hgq hyk hc h0 hy
        have hat0 : isAt ⟨gRegion, ni, 0, []⟩ q kd = inL waysK kd := by unfold isAt; rw [if_neg (show ¬ (gRegion = gYes ∨ gRegion = gNo) by decide), if_neg (fun h => absurd h.1 (show ¬ gRegion = gPhi by decide)), show waysR ⟨gRegion, ni, 0, []⟩ = ni.length from rfl, if_pos hlt]
        have HCC := hidX (fun X => rWay_any kd X)
        generalize inL waysK kd = bb at hat0 HCC
        cases bb with
        | false =>
         have hat : isAt ⟨gRegion, ni, 0, []⟩ q kd = false := hat0
         clear hat0
         have hr : res = 3 := by rw [HST3.out, if_pos (Or.inl (HBAD.out (by rw [HGQ.out, hat])))]
         subst hr
         clear hat
         go_wp2_with fail
         go_quiet (fail)
         go_wp2_with fail
         refine (HCC.out _).mono ?_
         rintro e X8 ⟨rfl, hb8⟩
         have hb9 : Below wr.heap.size wr X8 := bl_trans (show Below wr.heap.size wr _ by (repeat (first | exact Below.refl _ _ | assumption | refine Below.drew ?_ | refine bT ?_ _ | refine bS ?_ _ | refine bA ?_ _))) (by first | exact Nat.le_refl _ | (simp; done) | (simp; omega)) hb8
         have hb10 := bl_trans HB.out HB.out.size hb9
         go_wp2
         go_ret
         exact ⟨rfl, (show Below w.heap.size w _ from by (repeat (first | exact Below.refl _ _ | assumption | refine Below.drew ?_ | refine bT ?_ _ | refine bS ?_ _ | refine bA ?_ _)))⟩
        | true =>
         have hat : isAt ⟨gRegion, ni, 0, []⟩ q kd = true := hat0
         clear hat0
         have HNX := hidX (HSP.out (by rw [HGQ.out, hat]))
         clear hat
         go_wp2_with fail
         go_quiet (fail)
         go_wp2_with fail
         refine (HCC.out _).mono ?_
         rintro e X8 ⟨rfl, hb8⟩
         have hb9 : Below wr.heap.size wr X8 := bl_trans (show Below wr.heap.size wr _ by (repeat (first | exact Below.refl _ _ | assumption | refine Below.drew ?_ | refine bT ?_ _ | refine bS ?_ _ | refine bA ?_ _))) (by first | exact Nat.le_refl _ | (simp; done) | (simp; omega)) hb8
         have hb10 := bl_trans HB.out HB.out.size hb9
         go_wp2
         go_roundw
         case rel => exact ⟨q + 1, by omega, by go_num, (show Below W7.heap.size W7 _ from by have hq8 := bl_trans HBW.out HBW.out.size hb9; (repeat (first | exact Below.refl _ _ | assumption | refine Below.drew ?_ | refine bT ?_ _ | refine bS ?_ _ | refine bA ?_ _))), HNX.out⟩
         case measure => simp [intOf]; omega
       ·have hqn : q = ni.length := by omega
        subst hqn
        have hgt := giv_good (L := L) (n := ⟨gRegion, ni, 0, []⟩) (fun j hj => HA.out j hj)
        have hph := phi_no (L := L) (n := ⟨gRegion, ni, 0, []⟩) (show gRegion ≠ gPhi by decide)
        have hr : res = 0 := by rw [HST3.out, if_neg]; rw [hgt, hph]; simp
        subst hr
        clear hgt hph
        go_wp2_with fail
        go_quiet (fail)
        go_wp2
        go_ret
        exact ⟨rfl, (by first | exact HB.out | exact HB.out.trans (drewN_below' _ _ _))⟩
   ·have hnm' := nil_lit hnm
    go_enter Tryz.func21, Tryz.ntmps21
    go_wp2_with fail
    rw [← hW1]
    clear hW1 k0 k1 k2 k3
    refine (HKD.out W1).mono ?_
    rintro e W2 ⟨rfl, hbn⟩
    obtain ⟨d0, d1, d2, d3, b1, b2⟩ := facts6 HN1.out HG1.out
    obtain ⟨HN1, HG1, HB⟩ := nxt3 HN1 HG1 HB hbn
    clear d0 d1 d2 d3 b1 b2 hbn
    obtain ⟨d0, d1, d2, d3, b1, b2⟩ := facts6 HN1.out HG1.out
    go_wp2_with fail
    refine (HCR.out W2).mono ?_
    rintro e W3 ⟨rfl, hbn⟩
    obtain ⟨HN1, HG1, HB⟩ := nxt3 HN1 HG1 HB hbn
    clear d0 d1 d2 d3 b1 b2 hbn
    obtain ⟨d0, d1, d2, d3, b1, b2⟩ := facts6 HN1.out HG1.out
    have hr : res = 3 := by rw [HST.out]; simp [nameG, hnm, gRegion, gOne, gTwo, gCall]
    subst hr
    go_wp2
    go_ret
    exact ⟨rfl, (by first | exact HB.out | exact HB.out.trans (drewN_below' _ _ _))⟩
  ·have hnn' : (nn == 0) = false := by simpa using hnn
   go_enter Tryz.func21, Tryz.ntmps21
   go_wp2_with fail
   rw [← hW1]
   clear hW1 k0 k1 k2 k3
   refine (HKD.out W1).mono ?_
   rintro e W2 ⟨rfl, hbn⟩
   obtain ⟨d0, d1, d2, d3, b1, b2⟩ := facts6 HN1.out HG1.out
   obtain ⟨HN1, HG1, HB⟩ := nxt3 HN1 HG1 HB hbn
   clear d0 d1 d2 d3 b1 b2 hbn
   obtain ⟨d0, d1, d2, d3, b1, b2⟩ := facts6 HN1.out HG1.out
   go_wp2_with fail
   refine (HCR.out W2).mono ?_
   rintro e W3 ⟨rfl, hbn⟩
   obtain ⟨HN1, HG1, HB⟩ := nxt3 HN1 HG1 HB hbn
   clear d0 d1 d2 d3 b1 b2 hbn
   obtain ⟨d0, d1, d2, d3, b1, b2⟩ := facts6 HN1.out HG1.out
   have hr : res = 3 := by rw [HST.out]; simp [numB, hnn, gRegion, gParam, gConst]
   subst hr
   go_wp2
   go_ret
   exact ⟨rfl, (by first | exact HB.out | exact HB.out.trans (drewN_below' _ _ _))⟩
set_option maxRecDepth 100000 in
set_option maxHeartbeats 1000000 in
theorem rNode_yes {w : World} {g off cap : Nat} {ad1 : Option Addr} {cap1 : Nat} {P : Int} {L : List Nd} {i : Nat} (nm0 : List UInt8) (ni : List Int) (nn : Int) (nm : List UInt8) (h : Rn w g off cap ad1 cap1 P L i ⟨gYes, ni, nn, nm⟩) :
  Calls Tryz.prog 21 #[.agg #[.string ⟨nm0.toArray⟩, .int .i64 P, .slice (some ⟨g, off, none⟩) L.length cap], .int .i64 i] w fun e w' => e = .returned (.int .i64 ((nodeC onesE twosE P L i : Nat) : Int)) ∧ Below w.heap.size w w' := by
 have hst := node_step (P := P) h.at0 (show (shp gYes).kind ≠ [] by decide)
 have hl := h.lown.ins
 simp only at hl
 have hl' : (ni.length : Int) ≤ 1000 := by omega
 have hfew : (L.length : Int) ≤ 1000 := by have := h.few; omega
 have hi' : (i : Int) < (L.length : Int) := by have := h.hi; omega
 have k0 : w.cell? ⟨g, off + i * 4, none⟩ = some (.string ⟨#[121, 101, 115]⟩) := h.k0
 have k1 : w.cell? ⟨g, off + i * 4 + 1, none⟩ = some (.slice ad1 ni.length cap1) := h.k1
 have k2 : w.cell? ⟨g, off + i * 4 + 2, none⟩ = some (.int .i64 nn) := h.k2
 have k3 : w.cell? ⟨g, off + i * 4 + 3, none⟩ = some (.string ⟨nm.toArray⟩) := h.k3
 have hgl : g < w.heap.size := h.low
 obtain ⟨W1, hW1⟩ : ∃ W1, W1 = (w.alloc (.cells #[.string ⟨nm0.toArray⟩, .int .i64 P, .slice (some ⟨g, off, none⟩) L.length cap] 24)).alloc (.cells #[.string ⟨#[121, 101, 115]⟩, .slice ad1 ni.length cap1, .int .i64 nn, .string ⟨nm.toArray⟩] 54) := ⟨_, rfl⟩
 have hb1 : Below w.heap.size w W1 := by rw [hW1]; (repeat (first | exact Below.refl _ _ | assumption | refine Below.drew ?_ | refine bT ?_ _ | refine bS ?_ _ | refine bA ?_ _))
 have HG1 := hidX (show W1.heap[w.heap.size]? = some (.cells #[.string ⟨nm0.toArray⟩, .int .i64 P, .slice (some ⟨g, off, none⟩) L.length cap] 24 (0, 0)) from by rw [hW1]; exact twoG w _ _)
 have HN1 := hidX (show W1.heap[w.heap.size + 1]? = some (.cells #[.string ⟨#[121, 101, 115]⟩, .slice ad1 ni.length cap1, .int .i64 nn, .string ⟨nm.toArray⟩] 54 (0, 0)) from by rw [hW1]; exact heap_alloc2_new w _ _)
 have HKD := hidX (show ∀ X, Calls Tryz.prog 45 #[.string ⟨#[121, 101, 115]⟩] X fun e w' => e = .returned (.bool true) ∧ Below X.heap.size X w' from fun X => rKind_any [121, 101, 115] X)
 have HCR := hidX (show ∀ X, Calls Tryz.prog 46 #[.agg #[.string ⟨#[121, 101, 115]⟩, .slice ad1 ni.length cap1, .int .i64 nn, .string ⟨nm.toArray⟩]] X fun e w' => e = .returned (.bool (countB gYes ni.length)) ∧ Below X.heap.size X w' from fun X => rCount_any ⟨gYes, ni, nn, nm⟩ (by simp only; omega) ad1 cap1 X)
 have HWY := hidX (show ∀ X, Calls Tryz.prog 49 #[.agg #[.string ⟨#[121, 101, 115]⟩, .slice ad1 ni.length cap1, .int .i64 nn, .string ⟨nm.toArray⟩]] X fun e w' => e = .returned (.int .i64 (0)) ∧ Below X.heap.size X w' from fun X => rWays_any ⟨gYes, ni, nn, nm⟩ (by simp only; omega) ad1 cap1 X)
 have hgv := fun (hf : (countB gYes ni.length && numB ⟨gYes, ni, nn, nm⟩ && nameG ⟨gYes, ni, nn, nm⟩) = true) (j : Nat) (hj : j < ni.length) => giv_is (L := L) (n := ⟨gYes, ni, nn, nm⟩) (k := j) (by rw [fits_is (show (shp gYes).kind ≠ [] by decide)]; exact hf) hj (show (shp gYes).kind ≠ [] by decide)
 generalize hres : nodeC onesE twosE P L i = res at hst
 have HRN := hidX h
 have HLL := hidX h.lows
 have HST := hidX hst
 have HGV := hidX hgv
 clear h hst hgv hres
 generalize hcb : countB gYes ni.length = cb at *
 have HCB := hidX hcb
 clear hcb
 have HB := hidX hb1
 clear hb1
 cases cb with
 | false =>
  go_enter Tryz.func21, Tryz.ntmps21
  go_wp2_with fail
  rw [← hW1]
  clear hW1 k0 k1 k2 k3
  refine (HKD.out W1).mono ?_
  rintro e W2 ⟨rfl, hbn⟩
  obtain ⟨d0, d1, d2, d3, b1, b2⟩ := facts6 HN1.out HG1.out
  obtain ⟨HN1, HG1, HB⟩ := nxt3 HN1 HG1 HB hbn
  clear d0 d1 d2 d3 b1 b2 hbn
  obtain ⟨d0, d1, d2, d3, b1, b2⟩ := facts6 HN1.out HG1.out
  go_wp2_with fail
  refine (HCR.out W2).mono ?_
  rintro e W3 ⟨rfl, hbn⟩
  obtain ⟨HN1, HG1, HB⟩ := nxt3 HN1 HG1 HB hbn
  clear d0 d1 d2 d3 b1 b2 hbn
  obtain ⟨d0, d1, d2, d3, b1, b2⟩ := facts6 HN1.out HG1.out
  have hr : res = 3 := by rw [HST.out]; simp
  subst hr
  go_wp2
  go_ret
  exact ⟨rfl, (by first | exact HB.out | exact HB.out.trans (drewN_below' _ _ _))⟩
 | true =>
  by_cases hnn : nn = 0
  ·subst hnn
   by_cases hnm : nm = []
   ·subst hnm
    have hft : (true && numB ⟨gYes, ni, 0, []⟩ && nameG ⟨gYes, ni, 0, []⟩) = true := by simp [numB, nameG]
    have hst2 : res = if bndB P L.length ⟨gYes, ni, 0, []⟩ = false then 2 else if opB onesE twosE ⟨gYes, ni, 0, []⟩ = false then 4 else if givB L ⟨gYes, ni, 0, []⟩ = false ∨ phiB L ⟨gYes, ni, 0, []⟩ = false then 3 else 0 := by
     rw [HST.out, if_neg]
     rw [hft]
     simp [gYes, gStart]
    have hgv2 := HGV.out hft
    have HST2 := hidX hst2
    have HGV2 := hidX hgv2
    clear hst2 hgv2 hft
    go_enter Tryz.func21, Tryz.ntmps21
    go_wp2_with fail
    rw [← hW1]
    clear hW1 k0 k1 k2 k3
    refine (HKD.out W1).mono ?_
    rintro e W2 ⟨rfl, hbn⟩
    obtain ⟨d0, d1, d2, d3, b1, b2⟩ := facts6 HN1.out HG1.out
    obtain ⟨HN1, HG1, HB⟩ := nxt3 HN1 HG1 HB hbn
    clear d0 d1 d2 d3 b1 b2 hbn
    obtain ⟨d0, d1, d2, d3, b1, b2⟩ := facts6 HN1.out HG1.out
    go_wp2_with fail
    refine (HCR.out W2).mono ?_
    rintro e W3 ⟨rfl, hbn⟩
    obtain ⟨HN1, HG1, HB⟩ := nxt3 HN1 HG1 HB hbn
    clear d0 d1 d2 d3 b1 b2 hbn
    obtain ⟨d0, d1, d2, d3, b1, b2⟩ := facts6 HN1.out HG1.out
    go_wp2_with fail
    go_loopw [8] (fun vi wr => ∃ q : Nat, q ≤ ni.length ∧ vi = .int .i64 q ∧ Hid (Below W3.heap.size W3 wr) ∧ Hid (∀ j (hj : j < q) (hq : q ≤ ni.length), 0 ≤ ni[j]'(by omega) ∧ ni[j]'(by omega) < (L.length : Int))) (fun vi _ => ni.length - (intOf vi).toNat)
    case atStart => exact ⟨0, Nat.zero_le _, rfl, Below.refl _ _, fun j hj => absurd hj (by omega)⟩
    case round =>
     obtain ⟨q, hq, rfl, HBW, HA⟩ := hrel
     have hbn := HBW.out
     obtain ⟨HN1, HG1, HB⟩ := nxt3 HN1 HG1 HB hbn
     clear d0 d1 d2 d3 b1 b2 hbn
     obtain ⟨d0, d1, d2, d3, b1, b2⟩ := facts6 HN1.out HG1.out
     by_cases hlt : q < ni.length
     ·have hlt' : (q : Int) < (ni.length : Int) := by omega
      obtain ⟨g1, off1, e1, hg1, hc⟩ := HRN.out.row.int hlt
      subst e1
      have hx : wr.cell? ⟨g1, off1 + q, none⟩ = some (.int .i64 ni[q]) := (HB.out.cell (p := ⟨g1, _, none⟩) hg1).trans hc
      have HBD := hidX (fun hx => bnd_bad (P := P) (N := L.length) (n := ⟨gYes, ni, 0, []⟩) (q := q) hlt hx)
      have hstep := fun (hx : 0 ≤ ni[q] ∧ ni[q] < (L.length : Int)) (j : Nat) (hj : j < q + 1) (hq2 : q + 1 ≤ ni.length) => show 0 ≤ ni[j]'(by omega) ∧ ni[j]'(by omega) < (L.length : Int) from by
       by_cases e : j = q
       ·subst e; exact hx
       ·exact HA.out j (by omega) (by omega)
      clear hc
      simp only at HBD
      generalize ni[q] = x at hx HBD hstep
      have HSP := hidX hstep
      clear hstep
      by_cases x0 : x < 0
      ·have hb := HBD.out (by omega)
       have hr : res = 2 := by rw [HST2.out]; rw [if_pos hb]
       subst hr
       go_wp2_with fail
       go_quiet (fail)
       go_wp2
       go_ret
       exact ⟨rfl, (by first | exact HB.out | exact HB.out.trans (drewN_below' _ _ _))⟩
      ·by_cases x1 : (L.length : Int) ≤ x
       ·have hb := HBD.out (by omega)
        have hr : res = 2 := by rw [HST2.out]; rw [if_pos hb]
        subst hr
        go_wp2_with fail
        go_quiet (fail)
        go_wp2
        go_ret
        exact ⟨rfl, (by first | exact HB.out | exact HB.out.trans (drewN_below' _ _ _))⟩
       ·have HS2 := hidX (HSP.out ⟨by omega, by omega⟩)
        go_wp2_with fail
        go_quiet (fail)
        go_wp2
        go_roundw
        case rel => exact ⟨q + 1, by omega, by go_num, (show Below W3.heap.size W3 _ from by have hq9 := HBW.out; (repeat (first | exact Below.refl _ _ | assumption | refine Below.drew ?_ | refine bT ?_ _ | refine bS ?_ _ | refine bA ?_ _))), HS2.out⟩
        case measure => simp [intOf]; omega
     ·have hqn : q = ni.length := by omega
      subst hqn
      have hbd := bnd_good (P := P) (N := L.length) (n := ⟨gYes, ni, 0, []⟩) (fun j hj => HA.out j hj (Nat.le_refl _))
      have HAB := hidX (fun j (hj : j < ni.length) => HA.out j hj (Nat.le_refl _))
      clear HBW
      rename World => W4
      have hb2 : bndB P L.length ⟨gYes, ni, 0, []⟩ = true := by rw [hbd]; simp [gYes, gParam]
      have HBD := hidX hb2
      clear hbd hb2
      have HO1 := hidX (show Calls Tryz.prog 47 #[.string ⟨([] : List UInt8).toArray⟩] W4 _ from rIsOne_any [] W4)
      have HO2 := hidX (fun X => rIsTwo_any [] X)
      generalize hm1 : decide ([] ∈ onesE) = o1 at HO1
      generalize hm2 : decide ([] ∈ twosE) = o2 at HO2
      have HM1 := hidX hm1
      have HM2 := hidX hm2
      clear hm1 hm2
      have hop : opB onesE twosE ⟨gYes, ni, 0, []⟩ = true := by unfold opB; simp [gYes, gOne, gTwo]
      have HOP := hidX hop
      clear hop
      go_wp2_with fail
      refine HO1.out.mono ?_
      rintro e W5 ⟨rfl, hh⟩
      replace hh := hh.symm
      subst hh
      go_wp2_with fail
      refine (HO2.out _).mono ?_
      rintro e W6 ⟨rfl, hbn⟩
      obtain ⟨HN1, HG1, HB⟩ := nxt3 HN1 HG1 HB hbn
      clear d0 d1 d2 d3 b1 b2 hbn
      obtain ⟨d0, d1, d2, d3, b1, b2⟩ := facts6 HN1.out HG1.out
      go_wp2_with fail
      refine (HWY.out W6).mono ?_
      rintro e W7 ⟨rfl, hbn⟩
      obtain ⟨HN1, HG1, HB⟩ := nxt3 HN1 HG1 HB hbn
      clear d0 d1 d2 d3 b1 b2 hbn
      obtain ⟨d0, d1, d2, d3, b1, b2⟩ := facts6 HN1.out HG1.out
      have HST3 := hidX (show res = if givB L ⟨gYes, ni, 0, []⟩ = false ∨ phiB L ⟨gYes, ni, 0, []⟩ = false then 3 else 0 from by rw [HST2.out, if_neg (by rw [HBD.out]; decide), if_neg (by rw [HOP.out]; decide)])
      go_wp2_with fail
      go_loopw [12] (fun vi wr => ∃ q : Nat, q ≤ ni.length ∧ vi = .int .i64 q ∧ Hid (Below W7.heap.size W7 wr) ∧ Hid (∀ j, j < q → givAt L ⟨gYes, ni, 0, []⟩ j = true)) (fun vi _ => ni.length - (intOf vi).toNat)
      case atStart => exact ⟨0, Nat.zero_le _, rfl, Below.refl _ _, fun j hj => absurd hj (by omega)⟩
      case round =>
       obtain ⟨q, hq, rfl, HBW, HA⟩ := hrel
       have hbn := HBW.out
       obtain ⟨HN1, HG1, HB⟩ := nxt3 HN1 HG1 HB hbn
       clear d0 d1 d2 d3 b1 b2 hbn
       obtain ⟨d0, d1, d2, d3, b1, b2⟩ := facts6 HN1.out HG1.out
       by_cases hlt : q < ni.length
       ·have hlt' : (q : Int) < (ni.length : Int) := by omega
        obtain ⟨g1, off1, e1, hg1, hc⟩ := HRN.out.row.int hlt
        subst e1
        have hx : wr.cell? ⟨g1, off1 + q, none⟩ = some (.int .i64 ni[q]) := (HB.out.cell (p := ⟨g1, _, none⟩) hg1).trans hc
        obtain ⟨h0, h1⟩ := HAB.out q hlt
        obtain ⟨y, hy, hyk, _⟩ := HRN.out.at h0 h1
        have hyc := (HB.out.cell (p := ⟨g, _, none⟩) HRN.out.low).trans hyk
        have hgq := HGV2.out q hlt
        have HBAD := hidX (fun hx => giv_bad (L := L) (n := ⟨gYes, ni, 0, []⟩) (q := q) hlt hx)
        have hstep := fun (hx : givAt L ⟨gYes, ni, 0, []⟩ q = true) (j : Nat) (hj : j < q + 1) => show givAt L ⟨gYes, ni, 0, []⟩ j = true from by
         by_cases e : j = q
         ·subst e; exact hx
         ·exact HA.out j (by omega)
        rw [hy] at hx h1
        generalize (ndAt L ni[q]).kind = kd at hyc hgq
        have HSP := hidX hstep
        have HGQ := hidX hgq
        clear hstep hgq hyk hc h0 hy
        have hat0 : isAt ⟨gYes, ni, 0, []⟩ q kd = (kd == [105, 102]) := by unfold isAt; rw [if_pos (show gYes = gYes ∨ gYes = gNo by decide)]; rfl
        cases hkd : (kd == [105, 102]) with
        | false =>
         have hat : isAt ⟨gYes, ni, 0, []⟩ q kd = false := by rw [hat0, hkd]
         clear hat0
         have hr : res = 3 := by rw [HST3.out, if_pos (Or.inl (HBAD.out (by rw [HGQ.out, hat])))]
         subst hr
         clear hat
         go_wp2_with fail
         go_quiet (fail)
         have hb10 := HB.out
         have hb9 := Below.refl wr.heap.size wr
         go_wp2
         go_ret
         exact ⟨rfl, (show Below w.heap.size w _ from by (repeat (first | exact Below.refl _ _ | assumption | refine Below.drew ?_ | refine bT ?_ _ | refine bS ?_ _ | refine bA ?_ _)))⟩
        | true =>
         have hat : isAt ⟨gYes, ni, 0, []⟩ q kd = true := by rw [hat0, hkd]
         clear hat0
         have HNX := hidX (HSP.out (by rw [HGQ.out, hat]))
         clear hat
         go_wp2_with fail
         go_quiet (fail)
         have hb10 := HB.out
         have hb9 := Below.refl wr.heap.size wr
         go_wp2
         go_roundw
         case rel => exact ⟨q + 1, by omega, by go_num, (show Below W7.heap.size W7 _ from by have hq8 := bl_trans HBW.out HBW.out.size hb9; (repeat (first | exact Below.refl _ _ | assumption | refine Below.drew ?_ | refine bT ?_ _ | refine bS ?_ _ | refine bA ?_ _))), HNX.out⟩
         case measure => simp [intOf]; omega
       ·have hqn : q = ni.length := by omega
        subst hqn
        have hgt := giv_good (L := L) (n := ⟨gYes, ni, 0, []⟩) (fun j hj => HA.out j hj)
        have hph := phi_no (L := L) (n := ⟨gYes, ni, 0, []⟩) (show gYes ≠ gPhi by decide)
        have hr : res = 0 := by rw [HST3.out, if_neg]; rw [hgt, hph]; simp
        subst hr
        clear hgt hph
        go_wp2_with fail
        go_quiet (fail)
        go_wp2
        go_ret
        exact ⟨rfl, (by first | exact HB.out | exact HB.out.trans (drewN_below' _ _ _))⟩
   ·have hnm' := nil_lit hnm
    go_enter Tryz.func21, Tryz.ntmps21
    go_wp2_with fail
    rw [← hW1]
    clear hW1 k0 k1 k2 k3
    refine (HKD.out W1).mono ?_
    rintro e W2 ⟨rfl, hbn⟩
    obtain ⟨d0, d1, d2, d3, b1, b2⟩ := facts6 HN1.out HG1.out
    obtain ⟨HN1, HG1, HB⟩ := nxt3 HN1 HG1 HB hbn
    clear d0 d1 d2 d3 b1 b2 hbn
    obtain ⟨d0, d1, d2, d3, b1, b2⟩ := facts6 HN1.out HG1.out
    go_wp2_with fail
    refine (HCR.out W2).mono ?_
    rintro e W3 ⟨rfl, hbn⟩
    obtain ⟨HN1, HG1, HB⟩ := nxt3 HN1 HG1 HB hbn
    clear d0 d1 d2 d3 b1 b2 hbn
    obtain ⟨d0, d1, d2, d3, b1, b2⟩ := facts6 HN1.out HG1.out
    have hr : res = 3 := by rw [HST.out]; simp [nameG, hnm, gYes, gOne, gTwo, gCall]
    subst hr
    go_wp2
    go_ret
    exact ⟨rfl, (by first | exact HB.out | exact HB.out.trans (drewN_below' _ _ _))⟩
  ·have hnn' : (nn == 0) = false := by simpa using hnn
   go_enter Tryz.func21, Tryz.ntmps21
   go_wp2_with fail
   rw [← hW1]
   clear hW1 k0 k1 k2 k3
   refine (HKD.out W1).mono ?_
   rintro e W2 ⟨rfl, hbn⟩
   obtain ⟨d0, d1, d2, d3, b1, b2⟩ := facts6 HN1.out HG1.out
   obtain ⟨HN1, HG1, HB⟩ := nxt3 HN1 HG1 HB hbn
   clear d0 d1 d2 d3 b1 b2 hbn
   obtain ⟨d0, d1, d2, d3, b1, b2⟩ := facts6 HN1.out HG1.out
   go_wp2_with fail
   refine (HCR.out W2).mono ?_
   rintro e W3 ⟨rfl, hbn⟩
   obtain ⟨HN1, HG1, HB⟩ := nxt3 HN1 HG1 HB hbn
   clear d0 d1 d2 d3 b1 b2 hbn
   obtain ⟨d0, d1, d2, d3, b1, b2⟩ := facts6 HN1.out HG1.out
   have hr : res = 3 := by rw [HST.out]; simp [numB, hnn, gYes, gParam, gConst]
   subst hr
   go_wp2
   go_ret
   exact ⟨rfl, (by first | exact HB.out | exact HB.out.trans (drewN_below' _ _ _))⟩
set_option maxRecDepth 100000 in
set_option maxHeartbeats 1000000 in
theorem rNode_no {w : World} {g off cap : Nat} {ad1 : Option Addr} {cap1 : Nat} {P : Int} {L : List Nd} {i : Nat} (nm0 : List UInt8) (ni : List Int) (nn : Int) (nm : List UInt8) (h : Rn w g off cap ad1 cap1 P L i ⟨gNo, ni, nn, nm⟩) :
  Calls Tryz.prog 21 #[.agg #[.string ⟨nm0.toArray⟩, .int .i64 P, .slice (some ⟨g, off, none⟩) L.length cap], .int .i64 i] w fun e w' => e = .returned (.int .i64 ((nodeC onesE twosE P L i : Nat) : Int)) ∧ Below w.heap.size w w' := by
 have hst := node_step (P := P) h.at0 (show (shp gNo).kind ≠ [] by decide)
 have hl := h.lown.ins
 simp only at hl
 have hl' : (ni.length : Int) ≤ 1000 := by omega
 have hfew : (L.length : Int) ≤ 1000 := by have := h.few; omega
 have hi' : (i : Int) < (L.length : Int) := by have := h.hi; omega
 have k0 : w.cell? ⟨g, off + i * 4, none⟩ = some (.string ⟨#[110, 111]⟩) := h.k0
 have k1 : w.cell? ⟨g, off + i * 4 + 1, none⟩ = some (.slice ad1 ni.length cap1) := h.k1
 have k2 : w.cell? ⟨g, off + i * 4 + 2, none⟩ = some (.int .i64 nn) := h.k2
 have k3 : w.cell? ⟨g, off + i * 4 + 3, none⟩ = some (.string ⟨nm.toArray⟩) := h.k3
 have hgl : g < w.heap.size := h.low
 obtain ⟨W1, hW1⟩ : ∃ W1, W1 = (w.alloc (.cells #[.string ⟨nm0.toArray⟩, .int .i64 P, .slice (some ⟨g, off, none⟩) L.length cap] 24)).alloc (.cells #[.string ⟨#[110, 111]⟩, .slice ad1 ni.length cap1, .int .i64 nn, .string ⟨nm.toArray⟩] 54) := ⟨_, rfl⟩
 have hb1 : Below w.heap.size w W1 := by rw [hW1]; (repeat (first | exact Below.refl _ _ | assumption | refine Below.drew ?_ | refine bT ?_ _ | refine bS ?_ _ | refine bA ?_ _))
 have HG1 := hidX (show W1.heap[w.heap.size]? = some (.cells #[.string ⟨nm0.toArray⟩, .int .i64 P, .slice (some ⟨g, off, none⟩) L.length cap] 24 (0, 0)) from by rw [hW1]; exact twoG w _ _)
 have HN1 := hidX (show W1.heap[w.heap.size + 1]? = some (.cells #[.string ⟨#[110, 111]⟩, .slice ad1 ni.length cap1, .int .i64 nn, .string ⟨nm.toArray⟩] 54 (0, 0)) from by rw [hW1]; exact heap_alloc2_new w _ _)
 have HKD := hidX (show ∀ X, Calls Tryz.prog 45 #[.string ⟨#[110, 111]⟩] X fun e w' => e = .returned (.bool true) ∧ Below X.heap.size X w' from fun X => rKind_any [110, 111] X)
 have HCR := hidX (show ∀ X, Calls Tryz.prog 46 #[.agg #[.string ⟨#[110, 111]⟩, .slice ad1 ni.length cap1, .int .i64 nn, .string ⟨nm.toArray⟩]] X fun e w' => e = .returned (.bool (countB gNo ni.length)) ∧ Below X.heap.size X w' from fun X => rCount_any ⟨gNo, ni, nn, nm⟩ (by simp only; omega) ad1 cap1 X)
 have HWY := hidX (show ∀ X, Calls Tryz.prog 49 #[.agg #[.string ⟨#[110, 111]⟩, .slice ad1 ni.length cap1, .int .i64 nn, .string ⟨nm.toArray⟩]] X fun e w' => e = .returned (.int .i64 (0)) ∧ Below X.heap.size X w' from fun X => rWays_any ⟨gNo, ni, nn, nm⟩ (by simp only; omega) ad1 cap1 X)
 have hgv := fun (hf : (countB gNo ni.length && numB ⟨gNo, ni, nn, nm⟩ && nameG ⟨gNo, ni, nn, nm⟩) = true) (j : Nat) (hj : j < ni.length) => giv_is (L := L) (n := ⟨gNo, ni, nn, nm⟩) (k := j) (by rw [fits_is (show (shp gNo).kind ≠ [] by decide)]; exact hf) hj (show (shp gNo).kind ≠ [] by decide)
 generalize hres : nodeC onesE twosE P L i = res at hst
 have HRN := hidX h
 have HLL := hidX h.lows
 have HST := hidX hst
 have HGV := hidX hgv
 clear h hst hgv hres
 generalize hcb : countB gNo ni.length = cb at *
 have HCB := hidX hcb
 clear hcb
 have HB := hidX hb1
 clear hb1
 cases cb with
 | false =>
  go_enter Tryz.func21, Tryz.ntmps21
  go_wp2_with fail
  rw [← hW1]
  clear hW1 k0 k1 k2 k3
  refine (HKD.out W1).mono ?_
  rintro e W2 ⟨rfl, hbn⟩
  obtain ⟨d0, d1, d2, d3, b1, b2⟩ := facts6 HN1.out HG1.out
  obtain ⟨HN1, HG1, HB⟩ := nxt3 HN1 HG1 HB hbn
  clear d0 d1 d2 d3 b1 b2 hbn
  obtain ⟨d0, d1, d2, d3, b1, b2⟩ := facts6 HN1.out HG1.out
  go_wp2_with fail
  refine (HCR.out W2).mono ?_
  rintro e W3 ⟨rfl, hbn⟩
  obtain ⟨HN1, HG1, HB⟩ := nxt3 HN1 HG1 HB hbn
  clear d0 d1 d2 d3 b1 b2 hbn
  obtain ⟨d0, d1, d2, d3, b1, b2⟩ := facts6 HN1.out HG1.out
  have hr : res = 3 := by rw [HST.out]; simp
  subst hr
  go_wp2
  go_ret
  exact ⟨rfl, (by first | exact HB.out | exact HB.out.trans (drewN_below' _ _ _))⟩
 | true =>
  by_cases hnn : nn = 0
  ·subst hnn
   by_cases hnm : nm = []
   ·subst hnm
    have hft : (true && numB ⟨gNo, ni, 0, []⟩ && nameG ⟨gNo, ni, 0, []⟩) = true := by simp [numB, nameG]
    have hst2 : res = if bndB P L.length ⟨gNo, ni, 0, []⟩ = false then 2 else if opB onesE twosE ⟨gNo, ni, 0, []⟩ = false then 4 else if givB L ⟨gNo, ni, 0, []⟩ = false ∨ phiB L ⟨gNo, ni, 0, []⟩ = false then 3 else 0 := by
     rw [HST.out, if_neg]
     rw [hft]
     simp [gNo, gStart]
    have hgv2 := HGV.out hft
    have HST2 := hidX hst2
    have HGV2 := hidX hgv2
    clear hst2 hgv2 hft
    go_enter Tryz.func21, Tryz.ntmps21
    go_wp2_with fail
    rw [← hW1]
    clear hW1 k0 k1 k2 k3
    refine (HKD.out W1).mono ?_
    rintro e W2 ⟨rfl, hbn⟩
    obtain ⟨d0, d1, d2, d3, b1, b2⟩ := facts6 HN1.out HG1.out
    obtain ⟨HN1, HG1, HB⟩ := nxt3 HN1 HG1 HB hbn
    clear d0 d1 d2 d3 b1 b2 hbn
    obtain ⟨d0, d1, d2, d3, b1, b2⟩ := facts6 HN1.out HG1.out
    go_wp2_with fail
    refine (HCR.out W2).mono ?_
    rintro e W3 ⟨rfl, hbn⟩
    obtain ⟨HN1, HG1, HB⟩ := nxt3 HN1 HG1 HB hbn
    clear d0 d1 d2 d3 b1 b2 hbn
    obtain ⟨d0, d1, d2, d3, b1, b2⟩ := facts6 HN1.out HG1.out
    go_wp2_with fail
    go_loopw [8] (fun vi wr => ∃ q : Nat, q ≤ ni.length ∧ vi = .int .i64 q ∧ Hid (Below W3.heap.size W3 wr) ∧ Hid (∀ j (hj : j < q) (hq : q ≤ ni.length), 0 ≤ ni[j]'(by omega) ∧ ni[j]'(by omega) < (L.length : Int))) (fun vi _ => ni.length - (intOf vi).toNat)
    case atStart => exact ⟨0, Nat.zero_le _, rfl, Below.refl _ _, fun j hj => absurd hj (by omega)⟩
    case round =>
     obtain ⟨q, hq, rfl, HBW, HA⟩ := hrel
     have hbn := HBW.out
     obtain ⟨HN1, HG1, HB⟩ := nxt3 HN1 HG1 HB hbn
     clear d0 d1 d2 d3 b1 b2 hbn
     obtain ⟨d0, d1, d2, d3, b1, b2⟩ := facts6 HN1.out HG1.out
     by_cases hlt : q < ni.length
     ·have hlt' : (q : Int) < (ni.length : Int) := by omega
      obtain ⟨g1, off1, e1, hg1, hc⟩ := HRN.out.row.int hlt
      subst e1
      have hx : wr.cell? ⟨g1, off1 + q, none⟩ = some (.int .i64 ni[q]) := (HB.out.cell (p := ⟨g1, _, none⟩) hg1).trans hc
      have HBD := hidX (fun hx => bnd_bad (P := P) (N := L.length) (n := ⟨gNo, ni, 0, []⟩) (q := q) hlt hx)
      have hstep := fun (hx : 0 ≤ ni[q] ∧ ni[q] < (L.length : Int)) (j : Nat) (hj : j < q + 1) (hq2 : q + 1 ≤ ni.length) => show 0 ≤ ni[j]'(by omega) ∧ ni[j]'(by omega) < (L.length : Int) from by
       by_cases e : j = q
       ·subst e; exact hx
       ·exact HA.out j (by omega) (by omega)
      clear hc
      simp only at HBD
      generalize ni[q] = x at hx HBD hstep
      have HSP := hidX hstep
      clear hstep
      by_cases x0 : x < 0
      ·have hb := HBD.out (by omega)
       have hr : res = 2 := by rw [HST2.out]; rw [if_pos hb]
       subst hr
       go_wp2_with fail
       go_quiet (fail)
       go_wp2
       go_ret
       exact ⟨rfl, (by first | exact HB.out | exact HB.out.trans (drewN_below' _ _ _))⟩
      ·by_cases x1 : (L.length : Int) ≤ x
       ·have hb := HBD.out (by omega)
        have hr : res = 2 := by rw [HST2.out]; rw [if_pos hb]
        subst hr
        go_wp2_with fail
        go_quiet (fail)
        go_wp2
        go_ret
        exact ⟨rfl, (by first | exact HB.out | exact HB.out.trans (drewN_below' _ _ _))⟩
       ·have HS2 := hidX (HSP.out ⟨by omega, by omega⟩)
        go_wp2_with fail
        go_quiet (fail)
        go_wp2
        go_roundw
        case rel => exact ⟨q + 1, by omega, by go_num, (show Below W3.heap.size W3 _ from by have hq9 := HBW.out; (repeat (first | exact Below.refl _ _ | assumption | refine Below.drew ?_ | refine bT ?_ _ | refine bS ?_ _ | refine bA ?_ _))), HS2.out⟩
        case measure => simp [intOf]; omega
     ·have hqn : q = ni.length := by omega
      subst hqn
      have hbd := bnd_good (P := P) (N := L.length) (n := ⟨gNo, ni, 0, []⟩) (fun j hj => HA.out j hj (Nat.le_refl _))
      have HAB := hidX (fun j (hj : j < ni.length) => HA.out j hj (Nat.le_refl _))
      clear HBW
      rename World => W4
      have hb2 : bndB P L.length ⟨gNo, ni, 0, []⟩ = true := by rw [hbd]; simp [gNo, gParam]
      have HBD := hidX hb2
      clear hbd hb2
      have HO1 := hidX (show Calls Tryz.prog 47 #[.string ⟨([] : List UInt8).toArray⟩] W4 _ from rIsOne_any [] W4)
      have HO2 := hidX (fun X => rIsTwo_any [] X)
      generalize hm1 : decide ([] ∈ onesE) = o1 at HO1
      generalize hm2 : decide ([] ∈ twosE) = o2 at HO2
      have HM1 := hidX hm1
      have HM2 := hidX hm2
      clear hm1 hm2
      have hop : opB onesE twosE ⟨gNo, ni, 0, []⟩ = true := by unfold opB; simp [gNo, gOne, gTwo]
      have HOP := hidX hop
      clear hop
      go_wp2_with fail
      refine HO1.out.mono ?_
      rintro e W5 ⟨rfl, hh⟩
      replace hh := hh.symm
      subst hh
      go_wp2_with fail
      refine (HO2.out _).mono ?_
      rintro e W6 ⟨rfl, hbn⟩
      obtain ⟨HN1, HG1, HB⟩ := nxt3 HN1 HG1 HB hbn
      clear d0 d1 d2 d3 b1 b2 hbn
      obtain ⟨d0, d1, d2, d3, b1, b2⟩ := facts6 HN1.out HG1.out
      go_wp2_with fail
      refine (HWY.out W6).mono ?_
      rintro e W7 ⟨rfl, hbn⟩
      obtain ⟨HN1, HG1, HB⟩ := nxt3 HN1 HG1 HB hbn
      clear d0 d1 d2 d3 b1 b2 hbn
      obtain ⟨d0, d1, d2, d3, b1, b2⟩ := facts6 HN1.out HG1.out
      have HST3 := hidX (show res = if givB L ⟨gNo, ni, 0, []⟩ = false ∨ phiB L ⟨gNo, ni, 0, []⟩ = false then 3 else 0 from by rw [HST2.out, if_neg (by rw [HBD.out]; decide), if_neg (by rw [HOP.out]; decide)])
      go_wp2_with fail
      go_loopw [12] (fun vi wr => ∃ q : Nat, q ≤ ni.length ∧ vi = .int .i64 q ∧ Hid (Below W7.heap.size W7 wr) ∧ Hid (∀ j, j < q → givAt L ⟨gNo, ni, 0, []⟩ j = true)) (fun vi _ => ni.length - (intOf vi).toNat)
      case atStart => exact ⟨0, Nat.zero_le _, rfl, Below.refl _ _, fun j hj => absurd hj (by omega)⟩
      case round =>
       obtain ⟨q, hq, rfl, HBW, HA⟩ := hrel
       have hbn := HBW.out
       obtain ⟨HN1, HG1, HB⟩ := nxt3 HN1 HG1 HB hbn
       clear d0 d1 d2 d3 b1 b2 hbn
       obtain ⟨d0, d1, d2, d3, b1, b2⟩ := facts6 HN1.out HG1.out
       by_cases hlt : q < ni.length
       ·have hlt' : (q : Int) < (ni.length : Int) := by omega
        obtain ⟨g1, off1, e1, hg1, hc⟩ := HRN.out.row.int hlt
        subst e1
        have hx : wr.cell? ⟨g1, off1 + q, none⟩ = some (.int .i64 ni[q]) := (HB.out.cell (p := ⟨g1, _, none⟩) hg1).trans hc
        obtain ⟨h0, h1⟩ := HAB.out q hlt
        obtain ⟨y, hy, hyk, _⟩ := HRN.out.at h0 h1
        have hyc := (HB.out.cell (p := ⟨g, _, none⟩) HRN.out.low).trans hyk
        have hgq := HGV2.out q hlt
        have HBAD := hidX (fun hx => giv_bad (L := L) (n := ⟨gNo, ni, 0, []⟩) (q := q) hlt hx)
        have hstep := fun (hx : givAt L ⟨gNo, ni, 0, []⟩ q = true) (j : Nat) (hj : j < q + 1) => show givAt L ⟨gNo, ni, 0, []⟩ j = true from by
         by_cases e : j = q
         ·subst e; exact hx
         ·exact HA.out j (by omega)
        rw [hy] at hx h1
        generalize (ndAt L ni[q]).kind = kd at hyc hgq
        have HSP := hidX hstep
        have HGQ := hidX hgq
        clear hstep hgq hyk hc h0 hy
        have hat0 : isAt ⟨gNo, ni, 0, []⟩ q kd = (kd == [105, 102]) := by unfold isAt; rw [if_pos (show gNo = gYes ∨ gNo = gNo by decide)]; rfl
        cases hkd : (kd == [105, 102]) with
        | false =>
         have hat : isAt ⟨gNo, ni, 0, []⟩ q kd = false := by rw [hat0, hkd]
         clear hat0
         have hr : res = 3 := by rw [HST3.out, if_pos (Or.inl (HBAD.out (by rw [HGQ.out, hat])))]
         subst hr
         clear hat
         go_wp2_with fail
         go_quiet (fail)
         have hb10 := HB.out
         have hb9 := Below.refl wr.heap.size wr
         go_wp2
         go_ret
         exact ⟨rfl, (show Below w.heap.size w _ from by (repeat (first | exact Below.refl _ _ | assumption | refine Below.drew ?_ | refine bT ?_ _ | refine bS ?_ _ | refine bA ?_ _)))⟩
        | true =>
         have hat : isAt ⟨gNo, ni, 0, []⟩ q kd = true := by rw [hat0, hkd]
         clear hat0
         have HNX := hidX (HSP.out (by rw [HGQ.out, hat]))
         clear hat
         go_wp2_with fail
         go_quiet (fail)
         have hb10 := HB.out
         have hb9 := Below.refl wr.heap.size wr
         go_wp2
         go_roundw
         case rel => exact ⟨q + 1, by omega, by go_num, (show Below W7.heap.size W7 _ from by have hq8 := bl_trans HBW.out HBW.out.size hb9; (repeat (first | exact Below.refl _ _ | assumption | refine Below.drew ?_ | refine bT ?_ _ | refine bS ?_ _ | refine bA ?_ _))), HNX.out⟩
         case measure => simp [intOf]; omega
       ·have hqn : q = ni.length := by omega
        subst hqn
        have hgt := giv_good (L := L) (n := ⟨gNo, ni, 0, []⟩) (fun j hj => HA.out j hj)
        have hph := phi_no (L := L) (n := ⟨gNo, ni, 0, []⟩) (show gNo ≠ gPhi by decide)
        have hr : res = 0 := by rw [HST3.out, if_neg]; rw [hgt, hph]; simp
        subst hr
        clear hgt hph
        go_wp2_with fail
        go_quiet (fail)
        go_wp2
        go_ret
        exact ⟨rfl, (by first | exact HB.out | exact HB.out.trans (drewN_below' _ _ _))⟩
   ·have hnm' := nil_lit hnm
    go_enter Tryz.func21, Tryz.ntmps21
    go_wp2_with fail
    rw [← hW1]
    clear hW1 k0 k1 k2 k3
    refine (HKD.out W1).mono ?_
    rintro e W2 ⟨rfl, hbn⟩
    obtain ⟨d0, d1, d2, d3, b1, b2⟩ := facts6 HN1.out HG1.out
    obtain ⟨HN1, HG1, HB⟩ := nxt3 HN1 HG1 HB hbn
    clear d0 d1 d2 d3 b1 b2 hbn
    obtain ⟨d0, d1, d2, d3, b1, b2⟩ := facts6 HN1.out HG1.out
    go_wp2_with fail
    refine (HCR.out W2).mono ?_
    rintro e W3 ⟨rfl, hbn⟩
    obtain ⟨HN1, HG1, HB⟩ := nxt3 HN1 HG1 HB hbn
    clear d0 d1 d2 d3 b1 b2 hbn
    obtain ⟨d0, d1, d2, d3, b1, b2⟩ := facts6 HN1.out HG1.out
    have hr : res = 3 := by rw [HST.out]; simp [nameG, hnm, gNo, gOne, gTwo, gCall]
    subst hr
    go_wp2
    go_ret
    exact ⟨rfl, (by first | exact HB.out | exact HB.out.trans (drewN_below' _ _ _))⟩
  ·have hnn' : (nn == 0) = false := by simpa using hnn
   go_enter Tryz.func21, Tryz.ntmps21
   go_wp2_with fail
   rw [← hW1]
   clear hW1 k0 k1 k2 k3
   refine (HKD.out W1).mono ?_
   rintro e W2 ⟨rfl, hbn⟩
   obtain ⟨d0, d1, d2, d3, b1, b2⟩ := facts6 HN1.out HG1.out
   obtain ⟨HN1, HG1, HB⟩ := nxt3 HN1 HG1 HB hbn
   clear d0 d1 d2 d3 b1 b2 hbn
   obtain ⟨d0, d1, d2, d3, b1, b2⟩ := facts6 HN1.out HG1.out
   go_wp2_with fail
   refine (HCR.out W2).mono ?_
   rintro e W3 ⟨rfl, hbn⟩
   obtain ⟨HN1, HG1, HB⟩ := nxt3 HN1 HG1 HB hbn
   clear d0 d1 d2 d3 b1 b2 hbn
   obtain ⟨d0, d1, d2, d3, b1, b2⟩ := facts6 HN1.out HG1.out
   have hr : res = 3 := by rw [HST.out]; simp [numB, hnn, gNo, gParam, gConst]
   subst hr
   go_wp2
   go_ret
   exact ⟨rfl, (by first | exact HB.out | exact HB.out.trans (drewN_below' _ _ _))⟩
end Go.Proofs.YtlgejjmdanmglaaGreatDoor
