/- Our own: texts joined: GrRefG. -/
import Derived.Test.YtlgejjmdanmglaaGreatDoorVRefs
namespace Go.Proofs.YtlgejjmdanmglaaGreatDoor
open Go.RowKit
set_option maxRecDepth 100000 in
set_option maxHeartbeats 1000000 in
theorem rNode_const {w : World} {g off cap : Nat} {ad1 : Option Addr} {cap1 : Nat} {P : Int} {L : List Nd} {i : Nat} (nm0 : List UInt8) (ni : List Int) (nn : Int) (nm : List UInt8) (h : Rn w g off cap ad1 cap1 P L i ⟨gConst, ni, nn, nm⟩) :
  Calls Tryz.prog 21 #[.agg #[.string ⟨nm0.toArray⟩, .int .i64 P, .slice (some ⟨g, off, none⟩) L.length cap], .int .i64 i] w fun e w' => e = .returned (.int .i64 ((nodeC onesE twosE P L i : Nat) : Int)) ∧ Below w.heap.size w w' := by
 have hst := node_step (P := P) h.at0 (show (shp gConst).kind ≠ [] by decide)
 have hl := h.lown.ins
 simp only at hl
 have hl' : (ni.length : Int) ≤ 1000 := by omega
 have hfew : (L.length : Int) ≤ 1000 := by have := h.few; omega
 have hi' : (i : Int) < (L.length : Int) := by have := h.hi; omega
 have k0 : w.cell? ⟨g, off + i * 4, none⟩ = some (.string ⟨#[99, 111, 110, 115, 116]⟩) := h.k0
 have k1 : w.cell? ⟨g, off + i * 4 + 1, none⟩ = some (.slice ad1 ni.length cap1) := h.k1
 have k2 : w.cell? ⟨g, off + i * 4 + 2, none⟩ = some (.int .i64 nn) := h.k2
 have k3 : w.cell? ⟨g, off + i * 4 + 3, none⟩ = some (.string ⟨nm.toArray⟩) := h.k3
 have hgl : g < w.heap.size := h.low
 obtain ⟨W1, hW1⟩ : ∃ W1, W1 = (w.alloc (.cells #[.string ⟨nm0.toArray⟩, .int .i64 P, .slice (some ⟨g, off, none⟩) L.length cap] 24)).alloc (.cells #[.string ⟨#[99, 111, 110, 115, 116]⟩, .slice ad1 ni.length cap1, .int .i64 nn, .string ⟨nm.toArray⟩] 54) := ⟨_, rfl⟩
 have hb1 : Below w.heap.size w W1 := by rw [hW1]; (repeat (first | exact Below.refl _ _ | assumption | refine Below.drew ?_ | refine bT ?_ _ | refine bS ?_ _ | refine bA ?_ _))
 have HG1 := hidX (show W1.heap[w.heap.size]? = some (.cells #[.string ⟨nm0.toArray⟩, .int .i64 P, .slice (some ⟨g, off, none⟩) L.length cap] 24 (0, 0)) from by rw [hW1]; exact twoG w _ _)
 have HN1 := hidX (show W1.heap[w.heap.size + 1]? = some (.cells #[.string ⟨#[99, 111, 110, 115, 116]⟩, .slice ad1 ni.length cap1, .int .i64 nn, .string ⟨nm.toArray⟩] 54 (0, 0)) from by rw [hW1]; exact heap_alloc2_new w _ _)
 have HKD := hidX (show ∀ X, Calls Tryz.prog 45 #[.string ⟨#[99, 111, 110, 115, 116]⟩] X fun e w' => e = .returned (.bool true) ∧ Below X.heap.size X w' from fun X => rKind_any [99, 111, 110, 115, 116] X)
 have HCR := hidX (show ∀ X, Calls Tryz.prog 46 #[.agg #[.string ⟨#[99, 111, 110, 115, 116]⟩, .slice ad1 ni.length cap1, .int .i64 nn, .string ⟨nm.toArray⟩]] X fun e w' => e = .returned (.bool (countB gConst ni.length)) ∧ Below X.heap.size X w' from fun X => rCount_any ⟨gConst, ni, nn, nm⟩ (by simp only; omega) ad1 cap1 X)
 have HWY := hidX (show ∀ X, Calls Tryz.prog 49 #[.agg #[.string ⟨#[99, 111, 110, 115, 116]⟩, .slice ad1 ni.length cap1, .int .i64 nn, .string ⟨nm.toArray⟩]] X fun e w' => e = .returned (.int .i64 (0)) ∧ Below X.heap.size X w' from fun X => rWays_any ⟨gConst, ni, nn, nm⟩ (by simp only; omega) ad1 cap1 X)
 have hgv := fun (hf : (countB gConst ni.length && numB ⟨gConst, ni, nn, nm⟩ && nameG ⟨gConst, ni, nn, nm⟩) = true) (j : Nat) (hj : j < ni.length) => giv_is (L := L) (n := ⟨gConst, ni, nn, nm⟩) (k := j) (by rw [fits_is (show (shp gConst).kind ≠ [] by decide)]; exact hf) hj (show (shp gConst).kind ≠ [] by decide)
 generalize hres : nodeC onesE twosE P L i = res at hst
 have HRN := hidX h
 have HLL := hidX h.lows
 have HST := hidX hst
 have HGV := hidX hgv
 clear h hst hgv hres
 generalize hcb : countB gConst ni.length = cb at *
 have HCB := hidX hcb
 clear hcb
 have HB := hidX hb1
 clear hb1
 cases cb with
 | false =>
  go_enter Tryz.func21, Tryz.ntmps21
  go_wp2_with fail
  rw [← hW1]
  clear hW1 k0 k1 k2 k3
  refine (HKD.out W1).mono ?_
  rintro e W2 ⟨rfl, hbn⟩
  obtain ⟨d0, d1, d2, d3, b1, b2⟩ := facts6 HN1.out HG1.out
  obtain ⟨HN1, HG1, HB⟩ := nxt3 HN1 HG1 HB hbn
  clear d0 d1 d2 d3 b1 b2 hbn
  obtain ⟨d0, d1, d2, d3, b1, b2⟩ := facts6 HN1.out HG1.out
  go_wp2_with fail
  refine (HCR.out W2).mono ?_
  rintro e W3 ⟨rfl, hbn⟩
  obtain ⟨HN1, HG1, HB⟩ := nxt3 HN1 HG1 HB hbn
  clear d0 d1 d2 d3 b1 b2 hbn
  obtain ⟨d0, d1, d2, d3, b1, b2⟩ := facts6 HN1.out HG1.out
  have hr : res = 3 := by rw [HST.out]; simp
  subst hr
  go_wp2
  go_ret
  exact ⟨rfl, (by first | exact HB.out | exact HB.out.trans (drewN_below' _ _ _))⟩
 | true =>
  by_cases hnn : nn = 0
  ·subst hnn
   by_cases hnm : nm = []
   ·subst hnm
    have hft : (true && numB ⟨gConst, ni, 0, []⟩ && nameG ⟨gConst, ni, 0, []⟩) = true := by simp [numB, nameG, gConst, gParam, gConst]
    have hst2 : res = if bndB P L.length ⟨gConst, ni, 0, []⟩ = false then 2 else if opB onesE twosE ⟨gConst, ni, 0, []⟩ = false then 4 else if givB L ⟨gConst, ni, 0, []⟩ = false ∨ phiB L ⟨gConst, ni, 0, []⟩ = false then 3 else 0 := by
     rw [HST.out, if_neg]
     rw [hft]
     simp [gConst, gStart]
    have hgv2 := HGV.out hft
    have HST2 := hidX hst2
    have HGV2 := hidX hgv2
    clear hst2 hgv2 hft
    go_enter Tryz.func21, Tryz.ntmps21
    go_wp2_with fail
    rw [← hW1]
    clear hW1 k0 k1 k2 k3
    refine (HKD.out W1).mono ?_
    rintro e W2 ⟨rfl, hbn⟩
    obtain ⟨d0, d1, d2, d3, b1, b2⟩ := facts6 HN1.out HG1.out
    obtain ⟨HN1, HG1, HB⟩ := nxt3 HN1 HG1 HB hbn
    clear d0 d1 d2 d3 b1 b2 hbn
    obtain ⟨d0, d1, d2, d3, b1, b2⟩ := facts6 HN1.out HG1.out
    go_wp2_with fail
    refine (HCR.out W2).mono ?_
    rintro e W3 ⟨rfl, hbn⟩
    obtain ⟨HN1, HG1, HB⟩ := nxt3 HN1 HG1 HB hbn
    clear d0 d1 d2 d3 b1 b2 hbn
    obtain ⟨d0, d1, d2, d3, b1, b2⟩ := facts6 HN1.out HG1.out
    go_wp2_with fail
    go_loopw [8] (fun vi wr => ∃ q : Nat, q ≤ ni.length ∧ vi = .int .i64 q ∧ Hid (Below W3.heap.size W3 wr) ∧ Hid (∀ j (hj : j < q) (hq : q ≤ ni.length), 0 ≤ ni[j]'(by omega) ∧ ni[j]'(by omega) < (L.length : Int))) (fun vi _ => ni.length - (intOf vi).toNat)
    case atStart => exact ⟨0, Nat.zero_le _, rfl, Below.refl _ _, fun j hj => absurd hj (by omega)⟩
    case round =>
     obtain ⟨q, hq, rfl, HBW, HA⟩ := hrel
     have hbn := HBW.out
     obtain ⟨HN1, HG1, HB⟩ := nxt3 HN1 HG1 HB hbn
     clear d0 d1 d2 d3 b1 b2 hbn
     obtain ⟨d0, d1, d2, d3, b1, b2⟩ := facts6 HN1.out HG1.out
     by_cases hlt : q < ni.length
     ·have hlt' : (q : Int) < (ni.length : Int) := by omega
      obtain ⟨g1, off1, e1, hg1, hc⟩ := HRN.out.row.int hlt
      subst e1
      have hx : wr.cell? ⟨g1, off1 + q, none⟩ = some (.int .i64 ni[q]) := (HB.out.cell (p := ⟨g1, _, none⟩) hg1).trans hc
      have HBD := hidX (fun hx => bnd_bad (P := P) (N := L.length) (n := ⟨gConst, ni, 0, []⟩) (q := q) hlt hx)
      have hstep := fun (hx : 0 ≤ ni[q] ∧ ni[q] < (L.length : Int)) (j : Nat) (hj : j < q + 1) (hq2 : q + 1 ≤ ni.length) => show 0 ≤ ni[j]'(by omega) ∧ ni[j]'(by omega) < (L.length : Int) from by
       by_cases e : j = q
       ·subst e; exact hx
       ·exact HA.out j (by omega) (by omega)
      clear hc
      simp only at HBD
      generalize ni[q] = x at hx HBD hstep
      have HSP := hidX hstep
      clear hstep
      by_cases x0 : x < 0
      ·have hb := HBD.out (by omega)
       have hr : res = 2 := by rw [HST2.out]; rw [if_pos hb]
       subst hr
       go_wp2_with fail
       go_quiet (fail)
       go_wp2
       go_ret
       exact ⟨rfl, (by first | exact HB.out | exact HB.out.trans (drewN_below' _ _ _))⟩
      ·by_cases x1 : (L.length : Int) ≤ x
       ·have hb := HBD.out (by omega)
        have hr : res = 2 := by rw [HST2.out]; rw [if_pos hb]
        subst hr
        go_wp2_with fail
        go_quiet (fail)
        go_wp2
        go_ret
        exact ⟨rfl, (by first | exact HB.out | exact HB.out.trans (drewN_below' _ _ _))⟩
       ·have HS2 := hidX (HSP.out ⟨by omega, by omega⟩)
        go_wp2_with fail
        go_quiet (fail)
        go_wp2
        go_roundw
        case rel => exact ⟨q + 1, by omega, by go_num, (show Below W3.heap.size W3 _ from by have hq9 := HBW.out; (repeat (first | exact Below.refl _ _ | assumption | refine Below.drew ?_ | refine bT ?_ _ | refine bS ?_ _ | refine bA ?_ _))), HS2.out⟩
        case measure => simp [intOf]; omega
     ·have hqn : q = ni.length := by omega
      subst hqn
      have hbd := bnd_good (P := P) (N := L.length) (n := ⟨gConst, ni, 0, []⟩) (fun j hj => HA.out j hj (Nat.le_refl _))
      have HAB := hidX (fun j (hj : j < ni.length) => HA.out j hj (Nat.le_refl _))
      clear HBW
      rename World => W4
      have hb2 : bndB P L.length ⟨gConst, ni, 0, []⟩ = true := by rw [hbd]; simp [gConst, gParam]
      have HBD := hidX hb2
      clear hbd hb2
      have HO1 := hidX (show Calls Tryz.prog 47 #[.string ⟨([] : List UInt8).toArray⟩] W4 _ from rIsOne_any [] W4)
      have HO2 := hidX (fun X => rIsTwo_any [] X)
      generalize hm1 : decide ([] ∈ onesE) = o1 at HO1
      generalize hm2 : decide ([] ∈ twosE) = o2 at HO2
      have HM1 := hidX hm1
      have HM2 := hidX hm2
      clear hm1 hm2
      have hop : opB onesE twosE ⟨gConst, ni, 0, []⟩ = true := by unfold opB; simp [gConst, gOne, gTwo]
      have HOP := hidX hop
      clear hop
      go_wp2_with fail
      refine HO1.out.mono ?_
      rintro e W5 ⟨rfl, hh⟩
      replace hh := hh.symm
      subst hh
      go_wp2_with fail
      refine (HO2.out _).mono ?_
      rintro e W6 ⟨rfl, hbn⟩
      obtain ⟨HN1, HG1, HB⟩ := nxt3 HN1 HG1 HB hbn
      clear d0 d1 d2 d3 b1 b2 hbn
      obtain ⟨d0, d1, d2, d3, b1, b2⟩ := facts6 HN1.out HG1.out
      go_wp2_with fail
      refine (HWY.out W6).mono ?_
      rintro e W7 ⟨rfl, hbn⟩
      obtain ⟨HN1, HG1, HB⟩ := nxt3 HN1 HG1 HB hbn
      clear d0 d1 d2 d3 b1 b2 hbn
      obtain ⟨d0, d1, d2, d3, b1, b2⟩ := facts6 HN1.out HG1.out
      have HST3 := hidX (show res = if givB L ⟨gConst, ni, 0, []⟩ = false ∨ phiB L ⟨gConst, ni, 0, []⟩ = false then 3 else 0 from by rw [HST2.out, if_neg (by rw [HBD.out]; decide), if_neg (by rw [HOP.out]; decide)])
      go_wp2_with fail
      go_loopw [12] (fun vi wr => ∃ q : Nat, q ≤ ni.length ∧ vi = .int .i64 q ∧ Hid (Below W7.heap.size W7 wr) ∧ Hid (∀ j, j < q → givAt L ⟨gConst, ni, 0, []⟩ j = true)) (fun vi _ => ni.length - (intOf vi).toNat)
      case atStart => exact ⟨0, Nat.zero_le _, rfl, Below.refl _ _, fun j hj => absurd hj (by omega)⟩
      case round =>
       obtain ⟨q, hq, rfl, HBW, HA⟩ := hrel
       have hbn := HBW.out
       obtain ⟨HN1, HG1, HB⟩ := nxt3 HN1 HG1 HB hbn
       clear d0 d1 d2 d3 b1 b2 hbn
       obtain ⟨d0, d1, d2, d3, b1, b2⟩ := facts6 HN1.out HG1.out
       have hln : ni.length = 0 := by have := HCB.out; simpa [countB, gConst, gStart, gParam, gConst] using this
       have hq0 : q = 0 := by omega
       subst hq0
       have hln' : (ni.length : Int) = 0 := by omega
       have hgt := giv_good (L := L) (n := ⟨gConst, ni, 0, []⟩) (fun j hj => absurd hj (by simp only; omega))
       have hph := phi_no (L := L) (n := ⟨gConst, ni, 0, []⟩) (show gConst ≠ gPhi by decide)
       have hr : res = 0 := by rw [HST3.out, if_neg]; rw [hgt, hph]; simp
       subst hr
       clear hgt hph
       go_wp2_with fail
       go_quiet (fail)
       go_wp2
       go_ret
       exact ⟨rfl, (by first | exact HB.out | exact HB.out.trans (drewN_below' _ _ _))⟩
   ·have hnm' := nil_lit hnm
    go_enter Tryz.func21, Tryz.ntmps21
    go_wp2_with fail
    rw [← hW1]
    clear hW1 k0 k1 k2 k3
    refine (HKD.out W1).mono ?_
    rintro e W2 ⟨rfl, hbn⟩
    obtain ⟨d0, d1, d2, d3, b1, b2⟩ := facts6 HN1.out HG1.out
    obtain ⟨HN1, HG1, HB⟩ := nxt3 HN1 HG1 HB hbn
    clear d0 d1 d2 d3 b1 b2 hbn
    obtain ⟨d0, d1, d2, d3, b1, b2⟩ := facts6 HN1.out HG1.out
    go_wp2_with fail
    refine (HCR.out W2).mono ?_
    rintro e W3 ⟨rfl, hbn⟩
    obtain ⟨HN1, HG1, HB⟩ := nxt3 HN1 HG1 HB hbn
    clear d0 d1 d2 d3 b1 b2 hbn
    obtain ⟨d0, d1, d2, d3, b1, b2⟩ := facts6 HN1.out HG1.out
    have hr : res = 3 := by rw [HST.out]; simp [nameG, hnm, gConst, gOne, gTwo, gCall]
    subst hr
    go_wp2
    go_ret
    exact ⟨rfl, (by first | exact HB.out | exact HB.out.trans (drewN_below' _ _ _))⟩
  ·have hnn' : (nn == 0) = false := by simpa using hnn
   by_cases hnm : nm = []
   ·subst hnm
    have hft : (true && numB ⟨gConst, ni, nn, []⟩ && nameG ⟨gConst, ni, nn, []⟩) = true := by simp [numB, nameG, gConst, gParam, gConst]
    have hst2 : res = if bndB P L.length ⟨gConst, ni, nn, []⟩ = false then 2 else if opB onesE twosE ⟨gConst, ni, nn, []⟩ = false then 4 else if givB L ⟨gConst, ni, nn, []⟩ = false ∨ phiB L ⟨gConst, ni, nn, []⟩ = false then 3 else 0 := by
     rw [HST.out, if_neg]
     rw [hft]
     simp [gConst, gStart]
    have hgv2 := HGV.out hft
    have HST2 := hidX hst2
    have HGV2 := hidX hgv2
    clear hst2 hgv2 hft
    go_enter Tryz.func21, Tryz.ntmps21
    go_wp2_with fail
    rw [← hW1]
    clear hW1 k0 k1 k2 k3
    refine (HKD.out W1).mono ?_
    rintro e W2 ⟨rfl, hbn⟩
    obtain ⟨d0, d1, d2, d3, b1, b2⟩ := facts6 HN1.out HG1.out
    obtain ⟨HN1, HG1, HB⟩ := nxt3 HN1 HG1 HB hbn
    clear d0 d1 d2 d3 b1 b2 hbn
    obtain ⟨d0, d1, d2, d3, b1, b2⟩ := facts6 HN1.out HG1.out
    go_wp2_with fail
    refine (HCR.out W2).mono ?_
    rintro e W3 ⟨rfl, hbn⟩
    obtain ⟨HN1, HG1, HB⟩ := nxt3 HN1 HG1 HB hbn
    clear d0 d1 d2 d3 b1 b2 hbn
    obtain ⟨d0, d1, d2, d3, b1, b2⟩ := facts6 HN1.out HG1.out
    go_wp2_with fail
    go_loopw [8] (fun vi wr => ∃ q : Nat, q ≤ ni.length ∧ vi = .int .i64 q ∧ Hid (Below W3.heap.size W3 wr) ∧ Hid (∀ j (hj : j < q) (hq : q ≤ ni.length), 0 ≤ ni[j]'(by omega) ∧ ni[j]'(by omega) < (L.length : Int))) (fun vi _ => ni.length - (intOf vi).toNat)
    case atStart => exact ⟨0, Nat.zero_le _, rfl, Below.refl _ _, fun j hj => absurd hj (by omega)⟩
    case round =>
     obtain ⟨q, hq, rfl, HBW, HA⟩ := hrel
     have hbn := HBW.out
     obtain ⟨HN1, HG1, HB⟩ := nxt3 HN1 HG1 HB hbn
     clear d0 d1 d2 d3 b1 b2 hbn
     obtain ⟨d0, d1, d2, d3, b1, b2⟩ := facts6 HN1.out HG1.out
     by_cases hlt : q < ni.length
     ·have hlt' : (q : Int) < (ni.length : Int) := by omega
      obtain ⟨g1, off1, e1, hg1, hc⟩ := HRN.out.row.int hlt
      subst e1
      have hx : wr.cell? ⟨g1, off1 + q, none⟩ = some (.int .i64 ni[q]) := (HB.out.cell (p := ⟨g1, _, none⟩) hg1).trans hc
      have HBD := hidX (fun hx => bnd_bad (P := P) (N := L.length) (n := ⟨gConst, ni, nn, []⟩) (q := q) hlt hx)
      have hstep := fun (hx : 0 ≤ ni[q] ∧ ni[q] < (L.length : Int)) (j : Nat) (hj : j < q + 1) (hq2 : q + 1 ≤ ni.length) => show 0 ≤ ni[j]'(by omega) ∧ ni[j]'(by omega) < (L.length : Int) from by
       by_cases e : j = q
       ·subst e; exact hx
       ·exact HA.out j (by omega) (by omega)
      clear hc
      simp only at HBD
      generalize ni[q] = x at hx HBD hstep
      have HSP := hidX hstep
      clear hstep
      by_cases x0 : x < 0
      ·have hb := HBD.out (by omega)
       have hr : res = 2 := by rw [HST2.out]; rw [if_pos hb]
       subst hr
       go_wp2_with fail
       go_quiet (fail)
       go_wp2
       go_ret
       exact ⟨rfl, (by first | exact HB.out | exact HB.out.trans (drewN_below' _ _ _))⟩
      ·by_cases x1 : (L.length : Int) ≤ x
       ·have hb := HBD.out (by omega)
        have hr : res = 2 := by rw [HST2.out]; rw [if_pos hb]
        subst hr
        go_wp2_with fail
        go_quiet (fail)
        go_wp2
        go_ret
        exact ⟨rfl, (by first | exact HB.out | exact HB.out.trans (drewN_below' _ _ _))⟩
       ·have HS2 := hidX (HSP.out ⟨by omega, by omega⟩)
        go_wp2_with fail
        go_quiet (fail)
        go_wp2
        go_roundw
        case rel => exact ⟨q + 1, by omega, by go_num, (show Below W3.heap.size W3 _ from by have hq9 := HBW.out; (repeat (first | exact Below.refl _ _ | assumption | refine Below.drew ?_ | refine bT ?_ _ | refine bS ?_ _ | refine bA ?_ _))), HS2.out⟩
        case measure => simp [intOf]; omega
     ·have hqn : q = ni.length := by omega
      subst hqn
      have hbd := bnd_good (P := P) (N := L.length) (n := ⟨gConst, ni, nn, []⟩) (fun j hj => HA.out j hj (Nat.le_refl _))
      have HAB := hidX (fun j (hj : j < ni.length) => HA.out j hj (Nat.le_refl _))
      clear HBW
      rename World => W4
      have hb2 : bndB P L.length ⟨gConst, ni, nn, []⟩ = true := by rw [hbd]; simp [gConst, gParam]
      have HBD := hidX hb2
      clear hbd hb2
      have HO1 := hidX (show Calls Tryz.prog 47 #[.string ⟨([] : List UInt8).toArray⟩] W4 _ from rIsOne_any [] W4)
      have HO2 := hidX (fun X => rIsTwo_any [] X)
      generalize hm1 : decide ([] ∈ onesE) = o1 at HO1
      generalize hm2 : decide ([] ∈ twosE) = o2 at HO2
      have HM1 := hidX hm1
      have HM2 := hidX hm2
      clear hm1 hm2
      have hop : opB onesE twosE ⟨gConst, ni, nn, []⟩ = true := by unfold opB; simp [gConst, gOne, gTwo]
      have HOP := hidX hop
      clear hop
      go_wp2_with fail
      refine HO1.out.mono ?_
      rintro e W5 ⟨rfl, hh⟩
      replace hh := hh.symm
      subst hh
      go_wp2_with fail
      refine (HO2.out _).mono ?_
      rintro e W6 ⟨rfl, hbn⟩
      obtain ⟨HN1, HG1, HB⟩ := nxt3 HN1 HG1 HB hbn
      clear d0 d1 d2 d3 b1 b2 hbn
      obtain ⟨d0, d1, d2, d3, b1, b2⟩ := facts6 HN1.out HG1.out
      go_wp2_with fail
      refine (HWY.out W6).mono ?_
      rintro e W7 ⟨rfl, hbn⟩
      obtain ⟨HN1, HG1, HB⟩ := nxt3 HN1 HG1 HB hbn
      clear d0 d1 d2 d3 b1 b2 hbn
      obtain ⟨d0, d1, d2, d3, b1, b2⟩ := facts6 HN1.out HG1.out
      have HST3 := hidX (show res = if givB L ⟨gConst, ni, nn, []⟩ = false ∨ phiB L ⟨gConst, ni, nn, []⟩ = false then 3 else 0 from by rw [HST2.out, if_neg (by rw [HBD.out]; decide), if_neg (by rw [HOP.out]; decide)])
      go_wp2_with fail
      go_loopw [12] (fun vi wr => ∃ q : Nat, q ≤ ni.length ∧ vi = .int .i64 q ∧ Hid (Below W7.heap.size W7 wr) ∧ Hid (∀ j, j < q → givAt L ⟨gConst, ni, nn, []⟩ j = true)) (fun vi _ => ni.length - (intOf vi).toNat)
      case atStart => exact ⟨0, Nat.zero_le _, rfl, Below.refl _ _, fun j hj => absurd hj (by omega)⟩
      case round =>
       obtain ⟨q, hq, rfl, HBW, HA⟩ := hrel
       have hbn := HBW.out
       obtain ⟨HN1, HG1, HB⟩ := nxt3 HN1 HG1 HB hbn
       clear d0 d1 d2 d3 b1 b2 hbn
       obtain ⟨d0, d1, d2, d3, b1, b2⟩ := facts6 HN1.out HG1.out
       have hln : ni.length = 0 := by have := HCB.out; simpa [countB, gConst, gStart, gParam, gConst] using this
       have hq0 : q = 0 := by omega
       subst hq0
       have hln' : (ni.length : Int) = 0 := by omega
       have hgt := giv_good (L := L) (n := ⟨gConst, ni, nn, []⟩) (fun j hj => absurd hj (by simp only; omega))
       have hph := phi_no (L := L) (n := ⟨gConst, ni, nn, []⟩) (show gConst ≠ gPhi by decide)
       have hr : res = 0 := by rw [HST3.out, if_neg]; rw [hgt, hph]; simp
       subst hr
       clear hgt hph
       go_wp2_with fail
       go_quiet (fail)
       go_wp2
       go_ret
       exact ⟨rfl, (by first | exact HB.out | exact HB.out.trans (drewN_below' _ _ _))⟩
   ·have hnm' := nil_lit hnm
    go_enter Tryz.func21, Tryz.ntmps21
    go_wp2_with fail
    rw [← hW1]
    clear hW1 k0 k1 k2 k3
    refine (HKD.out W1).mono ?_
    rintro e W2 ⟨rfl, hbn⟩
    obtain ⟨d0, d1, d2, d3, b1, b2⟩ := facts6 HN1.out HG1.out
    obtain ⟨HN1, HG1, HB⟩ := nxt3 HN1 HG1 HB hbn
    clear d0 d1 d2 d3 b1 b2 hbn
    obtain ⟨d0, d1, d2, d3, b1, b2⟩ := facts6 HN1.out HG1.out
    go_wp2_with fail
    refine (HCR.out W2).mono ?_
    rintro e W3 ⟨rfl, hbn⟩
    obtain ⟨HN1, HG1, HB⟩ := nxt3 HN1 HG1 HB hbn
    clear d0 d1 d2 d3 b1 b2 hbn
    obtain ⟨d0, d1, d2, d3, b1, b2⟩ := facts6 HN1.out HG1.out
    have hr : res = 3 := by rw [HST.out]; simp [nameG, hnm, gConst, gOne, gTwo, gCall]
    subst hr
    go_wp2
    go_ret
    exact ⟨rfl, (by first | exact HB.out | exact HB.out.trans (drewN_below' _ _ _))⟩
set_option maxRecDepth 100000 in
set_option maxHeartbeats 1000000 in
theorem rNode_tick {w : World} {g off cap : Nat} {ad1 : Option Addr} {cap1 : Nat} {P : Int} {L : List Nd} {i : Nat} (nm0 : List UInt8) (ni : List Int) (nn : Int) (nm : List UInt8) (h : Rn w g off cap ad1 cap1 P L i ⟨gTick, ni, nn, nm⟩) :
  Calls Tryz.prog 21 #[.agg #[.string ⟨nm0.toArray⟩, .int .i64 P, .slice (some ⟨g, off, none⟩) L.length cap], .int .i64 i] w fun e w' => e = .returned (.int .i64 ((nodeC onesE twosE P L i : Nat) : Int)) ∧ Below w.heap.size w w' := by
 have hst := node_step (P := P) h.at0 (show (shp gTick).kind ≠ [] by decide)
 have hl := h.lown.ins
 simp only at hl
 have hl' : (ni.length : Int) ≤ 1000 := by omega
 have hfew : (L.length : Int) ≤ 1000 := by have := h.few; omega
 have hi' : (i : Int) < (L.length : Int) := by have := h.hi; omega
 have k0 : w.cell? ⟨g, off + i * 4, none⟩ = some (.string ⟨#[116, 105, 99, 107]⟩) := h.k0
 have k1 : w.cell? ⟨g, off + i * 4 + 1, none⟩ = some (.slice ad1 ni.length cap1) := h.k1
 have k2 : w.cell? ⟨g, off + i * 4 + 2, none⟩ = some (.int .i64 nn) := h.k2
 have k3 : w.cell? ⟨g, off + i * 4 + 3, none⟩ = some (.string ⟨nm.toArray⟩) := h.k3
 have hgl : g < w.heap.size := h.low
 obtain ⟨W1, hW1⟩ : ∃ W1, W1 = (w.alloc (.cells #[.string ⟨nm0.toArray⟩, .int .i64 P, .slice (some ⟨g, off, none⟩) L.length cap] 24)).alloc (.cells #[.string ⟨#[116, 105, 99, 107]⟩, .slice ad1 ni.length cap1, .int .i64 nn, .string ⟨nm.toArray⟩] 54) := ⟨_, rfl⟩
 have hb1 : Below w.heap.size w W1 := by rw [hW1]; (repeat (first | exact Below.refl _ _ | assumption | refine Below.drew ?_ | refine bT ?_ _ | refine bS ?_ _ | refine bA ?_ _))
 have HG1 := hidX (show W1.heap[w.heap.size]? = some (.cells #[.string ⟨nm0.toArray⟩, .int .i64 P, .slice (some ⟨g, off, none⟩) L.length cap] 24 (0, 0)) from by rw [hW1]; exact twoG w _ _)
 have HN1 := hidX (show W1.heap[w.heap.size + 1]? = some (.cells #[.string ⟨#[116, 105, 99, 107]⟩, .slice ad1 ni.length cap1, .int .i64 nn, .string ⟨nm.toArray⟩] 54 (0, 0)) from by rw [hW1]; exact heap_alloc2_new w _ _)
 have HKD := hidX (show ∀ X, Calls Tryz.prog 45 #[.string ⟨#[116, 105, 99, 107]⟩] X fun e w' => e = .returned (.bool true) ∧ Below X.heap.size X w' from fun X => rKind_any [116, 105, 99, 107] X)
 have HCR := hidX (show ∀ X, Calls Tryz.prog 46 #[.agg #[.string ⟨#[116, 105, 99, 107]⟩, .slice ad1 ni.length cap1, .int .i64 nn, .string ⟨nm.toArray⟩]] X fun e w' => e = .returned (.bool (countB gTick ni.length)) ∧ Below X.heap.size X w' from fun X => rCount_any ⟨gTick, ni, nn, nm⟩ (by simp only; omega) ad1 cap1 X)
 have HWY := hidX (show ∀ X, Calls Tryz.prog 49 #[.agg #[.string ⟨#[116, 105, 99, 107]⟩, .slice ad1 ni.length cap1, .int .i64 nn, .string ⟨nm.toArray⟩]] X fun e w' => e = .returned (.int .i64 (1)) ∧ Below X.heap.size X w' from fun X => rWays_any ⟨gTick, ni, nn, nm⟩ (by simp only; omega) ad1 cap1 X)
 have hgv := fun (hf : (countB gTick ni.length && numB ⟨gTick, ni, nn, nm⟩ && nameG ⟨gTick, ni, nn, nm⟩) = true) (j : Nat) (hj : j < ni.length) => giv_is (L := L) (n := ⟨gTick, ni, nn, nm⟩) (k := j) (by rw [fits_is (show (shp gTick).kind ≠ [] by decide)]; exact hf) hj (show (shp gTick).kind ≠ [] by decide)
 generalize hres : nodeC onesE twosE P L i = res at hst
 have HRN := hidX h
 have HLL := hidX h.lows
 have HST := hidX hst
 have HGV := hidX hgv
 clear h hst hgv hres
 generalize hcb : countB gTick ni.length = cb at *
 have HCB := hidX hcb
 clear hcb
 have HB := hidX hb1
 clear hb1
 cases cb with
 | false =>
  go_enter Tryz.func21, Tryz.ntmps21
  go_wp2_with fail
  rw [← hW1]
  clear hW1 k0 k1 k2 k3
  refine (HKD.out W1).mono ?_
  rintro e W2 ⟨rfl, hbn⟩
  obtain ⟨d0, d1, d2, d3, b1, b2⟩ := facts6 HN1.out HG1.out
  obtain ⟨HN1, HG1, HB⟩ := nxt3 HN1 HG1 HB hbn
  clear d0 d1 d2 d3 b1 b2 hbn
  obtain ⟨d0, d1, d2, d3, b1, b2⟩ := facts6 HN1.out HG1.out
  go_wp2_with fail
  refine (HCR.out W2).mono ?_
  rintro e W3 ⟨rfl, hbn⟩
  obtain ⟨HN1, HG1, HB⟩ := nxt3 HN1 HG1 HB hbn
  clear d0 d1 d2 d3 b1 b2 hbn
  obtain ⟨d0, d1, d2, d3, b1, b2⟩ := facts6 HN1.out HG1.out
  have hr : res = 3 := by rw [HST.out]; simp
  subst hr
  go_wp2
  go_ret
  exact ⟨rfl, (by first | exact HB.out | exact HB.out.trans (drewN_below' _ _ _))⟩
 | true =>
  by_cases hnn : nn = 0
  ·subst hnn
   by_cases hnm : nm = []
   ·subst hnm
    have hft : (true && numB ⟨gTick, ni, 0, []⟩ && nameG ⟨gTick, ni, 0, []⟩) = true := by simp [numB, nameG]
    have hst2 : res = if bndB P L.length ⟨gTick, ni, 0, []⟩ = false then 2 else if opB onesE twosE ⟨gTick, ni, 0, []⟩ = false then 4 else if givB L ⟨gTick, ni, 0, []⟩ = false ∨ phiB L ⟨gTick, ni, 0, []⟩ = false then 3 else 0 := by
     rw [HST.out, if_neg]
     rw [hft]
     simp [gTick, gStart]
    have hgv2 := HGV.out hft
    have HST2 := hidX hst2
    have HGV2 := hidX hgv2
    clear hst2 hgv2 hft
    go_enter Tryz.func21, Tryz.ntmps21
    go_wp2_with fail
    rw [← hW1]
    clear hW1 k0 k1 k2 k3
    refine (HKD.out W1).mono ?_
    rintro e W2 ⟨rfl, hbn⟩
    obtain ⟨d0, d1, d2, d3, b1, b2⟩ := facts6 HN1.out HG1.out
    obtain ⟨HN1, HG1, HB⟩ := nxt3 HN1 HG1 HB hbn
    clear d0 d1 d2 d3 b1 b2 hbn
    obtain ⟨d0, d1, d2, d3, b1, b2⟩ := facts6 HN1.out HG1.out
    go_wp2_with fail
    refine (HCR.out W2).mono ?_
    rintro e W3 ⟨rfl, hbn⟩
    obtain ⟨HN1, HG1, HB⟩ := nxt3 HN1 HG1 HB hbn
    clear d0 d1 d2 d3 b1 b2 hbn
    obtain ⟨d0, d1, d2, d3, b1, b2⟩ := facts6 HN1.out HG1.out
    go_wp2_with fail
    go_loopw [8] (fun vi wr => ∃ q : Nat, q ≤ ni.length ∧ vi = .int .i64 q ∧ Hid (Below W3.heap.size W3 wr) ∧ Hid (∀ j (hj : j < q) (hq : q ≤ ni.length), 0 ≤ ni[j]'(by omega) ∧ ni[j]'(by omega) < (L.length : Int))) (fun vi _ => ni.length - (intOf vi).toNat)
    case atStart => exact ⟨0, Nat.zero_le _, rfl, Below.refl _ _, fun j hj => absurd hj (by omega)⟩
    case round =>
     obtain ⟨q, hq, rfl, HBW, HA⟩ := hrel
     have hbn := HBW.out
     obtain ⟨HN1, HG1, HB⟩ := nxt3 HN1 HG1 HB hbn
     clear d0 d1 d2 d3 b1 b2 hbn
     obtain ⟨d0, d1, d2, d3, b1, b2⟩ := facts6 HN1.out HG1.out
     by_cases hlt : q < ni.length
     ·have hlt' : (q : Int) < (ni.length : Int) := by omega
      obtain ⟨g1, off1, e1, hg1, hc⟩ := HRN.out.row.int hlt
      subst e1
      have hx : wr.cell? ⟨g1, off1 + q, none⟩ = some (.int .i64 ni[q]) := (HB.out.cell (p := ⟨g1, _, none⟩) hg1).trans hc
      have HBD := hidX (fun hx => bnd_bad (P := P) (N := L.length) (n := ⟨gTick, ni, 0, []⟩) (q := q) hlt hx)
      have hstep := fun (hx : 0 ≤ ni[q] ∧ ni[q] < (L.length : Int)) (j : Nat) (hj : j < q + 1) (hq2 : q + 1 ≤ ni.length) => show 0 ≤ ni[j]'(by omega) ∧ ni[j]'(by omega) < (L.length : Int) from by
       by_cases e : j = q
       ·subst e; exact hx
       ·exact HA.out j (by omega) (by omega)
      clear hc
      simp only at HBD
      generalize ni[q] = x at hx HBD hstep
      have HSP := hidX hstep
      clear hstep
      by_cases x0 : x < 0
      ·have hb := HBD.out (by omega)
       have hr : res = 2 := by rw [HST2.out]; rw [if_pos hb]
       subst hr
       go_wp2_with fail
       go_quiet (fail)
       go_wp2
       go_ret
       exact ⟨rfl, (by first | exact HB.out | exact HB.out.trans (drewN_below' _ _ _))⟩
      ·by_cases x1 : (L.length : Int) ≤ x
       ·have hb := HBD.out (by omega)
        have hr : res = 2 := by rw [HST2.out]; rw [if_pos hb]
        subst hr
        go_wp2_with fail
        go_quiet (fail)
        go_wp2
        go_ret
        exact ⟨rfl, (by first | exact HB.out | exact HB.out.trans (drewN_below' _ _ _))⟩
       ·have HS2 := hidX (HSP.out ⟨by omega, by omega⟩)
        go_wp2_with fail
        go_quiet (fail)
        go_wp2
        go_roundw
        case rel => exact ⟨q + 1, by omega, by go_num, (show Below W3.heap.size W3 _ from by have hq9 := HBW.out; (repeat (first | exact Below.refl _ _ | assumption | refine Below.drew ?_ | refine bT ?_ _ | refine bS ?_ _ | refine bA ?_ _))), HS2.out⟩
        case measure => simp [intOf]; omega
     ·have hqn : q = ni.length := by omega
      subst hqn
      have hbd := bnd_good (P := P) (N := L.length) (n := ⟨gTick, ni, 0, []⟩) (fun j hj => HA.out j hj (Nat.le_refl _))
      have HAB := hidX (fun j (hj : j < ni.length) => HA.out j hj (Nat.le_refl _))
      clear HBW
      rename World => W4
      have hb2 : bndB P L.length ⟨gTick, ni, 0, []⟩ = true := by rw [hbd]; simp [gTick, gParam]
      have HBD := hidX hb2
      clear hbd hb2
      have HO1 := hidX (show Calls Tryz.prog 47 #[.string ⟨([] : List UInt8).toArray⟩] W4 _ from rIsOne_any [] W4)
      have HO2 := hidX (fun X => rIsTwo_any [] X)
      generalize hm1 : decide ([] ∈ onesE) = o1 at HO1
      generalize hm2 : decide ([] ∈ twosE) = o2 at HO2
      have HM1 := hidX hm1
      have HM2 := hidX hm2
      clear hm1 hm2
      have hop : opB onesE twosE ⟨gTick, ni, 0, []⟩ = true := by unfold opB; simp [gTick, gOne, gTwo]
      have HOP := hidX hop
      clear hop
      go_wp2_with fail
      refine HO1.out.mono ?_
      rintro e W5 ⟨rfl, hh⟩
      replace hh := hh.symm
      subst hh
      go_wp2_with fail
      refine (HO2.out _).mono ?_
      rintro e W6 ⟨rfl, hbn⟩
      obtain ⟨HN1, HG1, HB⟩ := nxt3 HN1 HG1 HB hbn
      clear d0 d1 d2 d3 b1 b2 hbn
      obtain ⟨d0, d1, d2, d3, b1, b2⟩ := facts6 HN1.out HG1.out
      go_wp2_with fail
      refine (HWY.out W6).mono ?_
      rintro e W7 ⟨rfl, hbn⟩
      obtain ⟨HN1, HG1, HB⟩ := nxt3 HN1 HG1 HB hbn
      clear d0 d1 d2 d3 b1 b2 hbn
      obtain ⟨d0, d1, d2, d3, b1, b2⟩ := facts6 HN1.out HG1.out
      have HST3 := hidX (show res = if givB L ⟨gTick, ni, 0, []⟩ = false ∨ phiB L ⟨gTick, ni, 0, []⟩ = false then 3 else 0 from by rw [HST2.out, if_neg (by rw [HBD.out]; decide), if_neg (by rw [HOP.out]; decide)])
      go_wp2_with fail
      go_loopw [12] (fun vi wr => ∃ q : Nat, q ≤ ni.length ∧ vi = .int .i64 q ∧ Hid (Below W7.heap.size W7 wr) ∧ Hid (∀ j, j < q → givAt L ⟨gTick, ni, 0, []⟩ j = true)) (fun vi _ => ni.length - (intOf vi).toNat)
      case atStart => exact ⟨0, Nat.zero_le _, rfl, Below.refl _ _, fun j hj => absurd hj (by omega)⟩
      case round =>
       obtain ⟨q, hq, rfl, HBW, HA⟩ := hrel
       have hbn := HBW.out
       obtain ⟨HN1, HG1, HB⟩ := nxt3 HN1 HG1 HB hbn
       clear d0 d1 d2 d3 b1 b2 hbn
       obtain ⟨d0, d1, d2, d3, b1, b2⟩ := facts6 HN1.out HG1.out
       by_cases hlt : q < ni.length
       ·have hlt' : (q : Int) < (ni.length : Int) := by omega
        obtain ⟨g1, off1, e1, hg1, hc⟩ := HRN.out.row.int hlt
        subst e1
        have hx : wr.cell? ⟨g1, off1 + q, none⟩ = some (.int .i64 ni[q]) := (HB.out.cell (p := ⟨g1, _, none⟩) hg1).trans hc
        obtain ⟨h0, h1⟩ := HAB.out q hlt
        obtain ⟨y, hy, hyk, _⟩ := HRN.out.at h0 h1
        have hyc := (HB.out.cell (p := ⟨g, _, none⟩) HRN.out.low).trans hyk
        have hgq := HGV2.out q hlt
        have HBAD := hidX (fun hx => giv_bad (L := L) (n := ⟨gTick, ni, 0, []⟩) (q := q) hlt hx)
        have hstep := fun (hx : givAt L ⟨gTick, ni, 0, []⟩ q = true) (j : Nat) (hj : j < q + 1) => show givAt L ⟨gTick, ni, 0, []⟩ j = true from by
         by_cases e : j = q
         ·subst e; exact hx
         ·exact HA.out j (by omega)
        rw [hy] at hx h1
        generalize (ndAt L ni[q]).kind = kd at hyc hgq
        have HSP := hidX hstep
        have HGQ := hidX hgq
        clear hstep hgq hyk hc h0 hy
        by_cases q0 : q = 0
        ·have q1' : (q : Int) < 1 := by omega
         have Q0 := hidX q0
         clear q0
         have hat0 : isAt ⟨gTick, ni, 0, []⟩ q kd = inL waysK kd := by unfold isAt; rw [if_neg (show ¬ (gTick = gYes ∨ gTick = gNo) by decide), if_neg (fun h => absurd h.1 (show ¬ gTick = gPhi by decide)), show waysR ⟨gTick, ni, 0, []⟩ = 1 from rfl, if_pos (by have := Q0.out; omega)]
         have HCC := hidX (fun X => rWay_any kd X)
         generalize inL waysK kd = bb at hat0 HCC
         cases bb with
         | false =>
          have hat : isAt ⟨gTick, ni, 0, []⟩ q kd = false := hat0
          clear hat0
          have hr : res = 3 := by rw [HST3.out, if_pos (Or.inl (HBAD.out (by rw [HGQ.out, hat])))]
          subst hr
          clear hat
          go_wp2_with fail
          go_quiet (fail)
          go_wp2_with fail
          refine (HCC.out _).mono ?_
          rintro e X8 ⟨rfl, hb8⟩
          have hb9 : Below wr.heap.size wr X8 := bl_trans (show Below wr.heap.size wr _ by (repeat (first | exact Below.refl _ _ | assumption | refine Below.drew ?_ | refine bT ?_ _ | refine bS ?_ _ | refine bA ?_ _))) (by first | exact Nat.le_refl _ | (simp; done) | (simp; omega)) hb8
          have hb10 := bl_trans HB.out HB.out.size hb9
          go_wp2
          go_ret
          exact ⟨rfl, (show Below w.heap.size w _ from by (repeat (first | exact Below.refl _ _ | assumption | refine Below.drew ?_ | refine bT ?_ _ | refine bS ?_ _ | refine bA ?_ _)))⟩
         | true =>
          have hat : isAt ⟨gTick, ni, 0, []⟩ q kd = true := hat0
          clear hat0
          have HNX := hidX (HSP.out (by rw [HGQ.out, hat]))
          clear hat
          go_wp2_with fail
          go_quiet (fail)
          go_wp2_with fail
          refine (HCC.out _).mono ?_
          rintro e X8 ⟨rfl, hb8⟩
          have hb9 : Below wr.heap.size wr X8 := bl_trans (show Below wr.heap.size wr _ by (repeat (first | exact Below.refl _ _ | assumption | refine Below.drew ?_ | refine bT ?_ _ | refine bS ?_ _ | refine bA ?_ _))) (by first | exact Nat.le_refl _ | (simp; done) | (simp; omega)) hb8
          have hb10 := bl_trans HB.out HB.out.size hb9
          go_wp2
          go_roundw
          case rel => exact ⟨q + 1, by omega, by go_num, (show Below W7.heap.size W7 _ from by have hq8 := bl_trans HBW.out HBW.out.size hb9; (repeat (first | exact Below.refl _ _ | assumption | refine Below.drew ?_ | refine bT ?_ _ | refine bS ?_ _ | refine bA ?_ _))), HNX.out⟩
          case measure => simp [intOf]; omega
        ·have q1' : ¬ (q : Int) < 1 := by omega
         have Q0 := hidX q0
         clear q0
         have hat0 : isAt ⟨gTick, ni, 0, []⟩ q kd = inL valsK kd := by unfold isAt; rw [if_neg (show ¬ (gTick = gYes ∨ gTick = gNo) by decide), if_neg (fun h => absurd h.1 (show ¬ gTick = gPhi by decide)), show waysR ⟨gTick, ni, 0, []⟩ = 1 from rfl, if_neg (by have := Q0.out; omega)]
         have HCC := hidX (fun X => rVal_any kd X)
         generalize inL valsK kd = bb at hat0 HCC
         cases bb with
         | false =>
          have hat : isAt ⟨gTick, ni, 0, []⟩ q kd = false := hat0
          clear hat0
          have hr : res = 3 := by rw [HST3.out, if_pos (Or.inl (HBAD.out (by rw [HGQ.out, hat])))]
          subst hr
          clear hat
          go_wp2_with fail
          go_quiet (fail)
          go_wp2_with fail
          refine (HCC.out _).mono ?_
          rintro e X8 ⟨rfl, hb8⟩
          have hb9 : Below wr.heap.size wr X8 := bl_trans (show Below wr.heap.size wr _ by (repeat (first | exact Below.refl _ _ | assumption | refine Below.drew ?_ | refine bT ?_ _ | refine bS ?_ _ | refine bA ?_ _))) (by first | exact Nat.le_refl _ | (simp; done) | (simp; omega)) hb8
          have hb10 := bl_trans HB.out HB.out.size hb9
          go_wp2
          go_ret
          exact ⟨rfl, (show Below w.heap.size w _ from by (repeat (first | exact Below.refl _ _ | assumption | refine Below.drew ?_ | refine bT ?_ _ | refine bS ?_ _ | refine bA ?_ _)))⟩
         | true =>
          have hat : isAt ⟨gTick, ni, 0, []⟩ q kd = true := hat0
          clear hat0
          have HNX := hidX (HSP.out (by rw [HGQ.out, hat]))
          clear hat
          go_wp2_with fail
          go_quiet (fail)
          go_wp2_with fail
          refine (HCC.out _).mono ?_
          rintro e X8 ⟨rfl, hb8⟩
          have hb9 : Below wr.heap.size wr X8 := bl_trans (show Below wr.heap.size wr _ by (repeat (first | exact Below.refl _ _ | assumption | refine Below.drew ?_ | refine bT ?_ _ | refine bS ?_ _ | refine bA ?_ _))) (by first | exact Nat.le_refl _ | (simp; done) | (simp; omega)) hb8
          have hb10 := bl_trans HB.out HB.out.size hb9
          go_wp2
          go_roundw
          case rel => exact ⟨q + 1, by omega, by go_num, (show Below W7.heap.size W7 _ from by have hq8 := bl_trans HBW.out HBW.out.size hb9; (repeat (first | exact Below.refl _ _ | assumption | refine Below.drew ?_ | refine bT ?_ _ | refine bS ?_ _ | refine bA ?_ _))), HNX.out⟩
          case measure => simp [intOf]; omega
       ·have hqn : q = ni.length := by omega
        subst hqn
        have hgt := giv_good (L := L) (n := ⟨gTick, ni, 0, []⟩) (fun j hj => HA.out j hj)
        have hph := phi_no (L := L) (n := ⟨gTick, ni, 0, []⟩) (show gTick ≠ gPhi by decide)
        have hr : res = 0 := by rw [HST3.out, if_neg]; rw [hgt, hph]; simp
        subst hr
        clear hgt hph
        go_wp2_with fail
        go_quiet (fail)
        go_wp2
        go_ret
        exact ⟨rfl, (by first | exact HB.out | exact HB.out.trans (drewN_below' _ _ _))⟩
   ·have hnm' := nil_lit hnm
    go_enter Tryz.func21, Tryz.ntmps21
    go_wp2_with fail
    rw [← hW1]
    clear hW1 k0 k1 k2 k3
    refine (HKD.out W1).mono ?_
    rintro e W2 ⟨rfl, hbn⟩
    obtain ⟨d0, d1, d2, d3, b1, b2⟩ := facts6 HN1.out HG1.out
    obtain ⟨HN1, HG1, HB⟩ := nxt3 HN1 HG1 HB hbn
    clear d0 d1 d2 d3 b1 b2 hbn
    obtain ⟨d0, d1, d2, d3, b1, b2⟩ := facts6 HN1.out HG1.out
    go_wp2_with fail
    refine (HCR.out W2).mono ?_
    rintro e W3 ⟨rfl, hbn⟩
    obtain ⟨HN1, HG1, HB⟩ := nxt3 HN1 HG1 HB hbn
    clear d0 d1 d2 d3 b1 b2 hbn
    obtain ⟨d0, d1, d2, d3, b1, b2⟩ := facts6 HN1.out HG1.out
    have hr : res = 3 := by rw [HST.out]; simp [nameG, hnm, gTick, gOne, gTwo, gCall]
    subst hr
    go_wp2
    go_ret
    exact ⟨rfl, (by first | exact HB.out | exact HB.out.trans (drewN_below' _ _ _))⟩
  ·have hnn' : (nn == 0) = false := by simpa using hnn
   go_enter Tryz.func21, Tryz.ntmps21
   go_wp2_with fail
   rw [← hW1]
   clear hW1 k0 k1 k2 k3
   refine (HKD.out W1).mono ?_
   rintro e W2 ⟨rfl, hbn⟩
   obtain ⟨d0, d1, d2, d3, b1, b2⟩ := facts6 HN1.out HG1.out
   obtain ⟨HN1, HG1, HB⟩ := nxt3 HN1 HG1 HB hbn
   clear d0 d1 d2 d3 b1 b2 hbn
   obtain ⟨d0, d1, d2, d3, b1, b2⟩ := facts6 HN1.out HG1.out
   go_wp2_with fail
   refine (HCR.out W2).mono ?_
   rintro e W3 ⟨rfl, hbn⟩
   obtain ⟨HN1, HG1, HB⟩ := nxt3 HN1 HG1 HB hbn
   clear d0 d1 d2 d3 b1 b2 hbn
   obtain ⟨d0, d1, d2, d3, b1, b2⟩ := facts6 HN1.out HG1.out
   have hr : res = 3 := by rw [HST.out]; simp [numB, hnn, gTick, gParam, gConst]
   subst hr
   go_wp2
   go_ret
   exact ⟨rfl, (by first | exact HB.out | exact HB.out.trans (drewN_below' _ _ _))⟩
end Go.Proofs.YtlgejjmdanmglaaGreatDoor
