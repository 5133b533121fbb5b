/- Our own: texts joined: GrRefA, GrRefF. -/
import Derived.Test.YtlgejjmdanmglaaGreatDoorVRefs
namespace Go.Proofs.YtlgejjmdanmglaaGreatDoor
open Go.RowKit
set_option maxRecDepth 100000 in
set_option maxHeartbeats 1000000 in
theorem rNode_start {w : World} {g off cap : Nat} {ad1 : Option Addr} {cap1 : Nat} {P : Int} {L : List Nd} {i : Nat} (nm0 : List UInt8) (ni : List Int) (nn : Int) (nm : List UInt8) (h : Rn w g off cap ad1 cap1 P L i ⟨gStart, ni, nn, nm⟩) :
  Calls Tryz.prog 21 #[.agg #[.string ⟨nm0.toArray⟩, .int .i64 P, .slice (some ⟨g, off, none⟩) L.length cap], .int .i64 i] w fun e w' => e = .returned (.int .i64 ((nodeC onesE twosE P L i : Nat) : Int)) ∧ Below w.heap.size w w' := by
 have hst := node_step (P := P) h.at0 (show (shp gStart).kind ≠ [] by decide)
 have hl := h.lown.ins
 simp only at hl
 have hl' : (ni.length : Int) ≤ 1000 := by omega
 have hfew : (L.length : Int) ≤ 1000 := by have := h.few; omega
 have hi' : (i : Int) < (L.length : Int) := by have := h.hi; omega
 have k0 : w.cell? ⟨g, off + i * 4, none⟩ = some (.string ⟨#[115, 116, 97, 114, 116]⟩) := h.k0
 have k1 : w.cell? ⟨g, off + i * 4 + 1, none⟩ = some (.slice ad1 ni.length cap1) := h.k1
 have k2 : w.cell? ⟨g, off + i * 4 + 2, none⟩ = some (.int .i64 nn) := h.k2
 have k3 : w.cell? ⟨g, off + i * 4 + 3, none⟩ = some (.string ⟨nm.toArray⟩) := h.k3
 have hgl : g < w.heap.size := h.low
 obtain ⟨W1, hW1⟩ : ∃ W1, W1 = (w.alloc (.cells #[.string ⟨nm0.toArray⟩, .int .i64 P, .slice (some ⟨g, off, none⟩) L.length cap] 24)).alloc (.cells #[.string ⟨#[115, 116, 97, 114, 116]⟩, .slice ad1 ni.length cap1, .int .i64 nn, .string ⟨nm.toArray⟩] 54) := ⟨_, rfl⟩
 have hb1 : Below w.heap.size w W1 := by rw [hW1]; (repeat (first | exact Below.refl _ _ | assumption | refine Below.drew ?_ | refine bT ?_ _ | refine bS ?_ _ | refine bA ?_ _))
 have HG1 := hidX (show W1.heap[w.heap.size]? = some (.cells #[.string ⟨nm0.toArray⟩, .int .i64 P, .slice (some ⟨g, off, none⟩) L.length cap] 24 (0, 0)) from by rw [hW1]; exact twoG w _ _)
 have HN1 := hidX (show W1.heap[w.heap.size + 1]? = some (.cells #[.string ⟨#[115, 116, 97, 114, 116]⟩, .slice ad1 ni.length cap1, .int .i64 nn, .string ⟨nm.toArray⟩] 54 (0, 0)) from by rw [hW1]; exact heap_alloc2_new w _ _)
 have HKD := hidX (show ∀ X, Calls Tryz.prog 45 #[.string ⟨#[115, 116, 97, 114, 116]⟩] X fun e w' => e = .returned (.bool true) ∧ Below X.heap.size X w' from fun X => rKind_any [115, 116, 97, 114, 116] X)
 have HCR := hidX (show ∀ X, Calls Tryz.prog 46 #[.agg #[.string ⟨#[115, 116, 97, 114, 116]⟩, .slice ad1 ni.length cap1, .int .i64 nn, .string ⟨nm.toArray⟩]] X fun e w' => e = .returned (.bool (countB gStart ni.length)) ∧ Below X.heap.size X w' from fun X => rCount_any ⟨gStart, ni, nn, nm⟩ (by simp only; omega) ad1 cap1 X)
 have HWY := hidX (show ∀ X, Calls Tryz.prog 49 #[.agg #[.string ⟨#[115, 116, 97, 114, 116]⟩, .slice ad1 ni.length cap1, .int .i64 nn, .string ⟨nm.toArray⟩]] X fun e w' => e = .returned (.int .i64 (0)) ∧ Below X.heap.size X w' from fun X => rWays_any ⟨gStart, ni, nn, nm⟩ (by simp only; omega) ad1 cap1 X)
 have hgv := fun (hf : (countB gStart ni.length && numB ⟨gStart, ni, nn, nm⟩ && nameG ⟨gStart, ni, nn, nm⟩) = true) (j : Nat) (hj : j < ni.length) => giv_is (L := L) (n := ⟨gStart, ni, nn, nm⟩) (k := j) (by rw [fits_is (show (shp gStart).kind ≠ [] by decide)]; exact hf) hj (show (shp gStart).kind ≠ [] by decide)
 generalize hres : nodeC onesE twosE P L i = res at hst
 have HRN := hidX h
 have HLL := hidX h.lows
 have HST := hidX hst
 have HGV := hidX hgv
 clear h hst hgv hres
 generalize hcb : countB gStart ni.length = cb at *
 have HCB := hidX hcb
 clear hcb
 have HB := hidX hb1
 clear hb1
 cases cb with
 | false =>
  go_enter Tryz.func21, Tryz.ntmps21
  go_wp2_with fail
  rw [← hW1]
  clear hW1 k0 k1 k2 k3
  refine (HKD.out W1).mono ?_
  rintro e W2 ⟨rfl, hbn⟩
  obtain ⟨d0, d1, d2, d3, b1, b2⟩ := facts6 HN1.out HG1.out
  obtain ⟨HN1, HG1, HB⟩ := nxt3 HN1 HG1 HB hbn
  clear d0 d1 d2 d3 b1 b2 hbn
  obtain ⟨d0, d1, d2, d3, b1, b2⟩ := facts6 HN1.out HG1.out
  go_wp2_with fail
  refine (HCR.out W2).mono ?_
  rintro e W3 ⟨rfl, hbn⟩
  obtain ⟨HN1, HG1, HB⟩ := nxt3 HN1 HG1 HB hbn
  clear d0 d1 d2 d3 b1 b2 hbn
  obtain ⟨d0, d1, d2, d3, b1, b2⟩ := facts6 HN1.out HG1.out
  by_cases hz : (0 : Int) < (i : Int)
  ·skip
   have hr : res = 3 := by rw [HST.out]; simp
   subst hr
   go_wp2
   go_ret
   exact ⟨rfl, (by first | exact HB.out | exact HB.out.trans (drewN_below' _ _ _))⟩
  ·skip
   have hr : res = 3 := by rw [HST.out]; simp
   subst hr
   go_wp2
   go_ret
   exact ⟨rfl, (by first | exact HB.out | exact HB.out.trans (drewN_below' _ _ _))⟩
 | true =>
  by_cases hz : 0 < i
  ·have hz' : (0 : Int) < (i : Int) := by omega
   go_enter Tryz.func21, Tryz.ntmps21
   go_wp2_with fail
   rw [← hW1]
   clear hW1 k0 k1 k2 k3
   refine (HKD.out W1).mono ?_
   rintro e W2 ⟨rfl, hbn⟩
   obtain ⟨d0, d1, d2, d3, b1, b2⟩ := facts6 HN1.out HG1.out
   obtain ⟨HN1, HG1, HB⟩ := nxt3 HN1 HG1 HB hbn
   clear d0 d1 d2 d3 b1 b2 hbn
   obtain ⟨d0, d1, d2, d3, b1, b2⟩ := facts6 HN1.out HG1.out
   go_wp2_with fail
   refine (HCR.out W2).mono ?_
   rintro e W3 ⟨rfl, hbn⟩
   obtain ⟨HN1, HG1, HB⟩ := nxt3 HN1 HG1 HB hbn
   clear d0 d1 d2 d3 b1 b2 hbn
   obtain ⟨d0, d1, d2, d3, b1, b2⟩ := facts6 HN1.out HG1.out
   have hr : res = 3 := by rw [HST.out]; simp [hz]
   subst hr
   go_wp2
   go_ret
   exact ⟨rfl, (by first | exact HB.out | exact HB.out.trans (drewN_below' _ _ _))⟩
  ·have hz' : ¬ (0 : Int) < (i : Int) := by omega
   by_cases hnn : nn = 0
   ·subst hnn
    by_cases hnm : nm = []
    ·subst hnm
     have hft : (true && numB ⟨gStart, ni, 0, []⟩ && nameG ⟨gStart, ni, 0, []⟩) = true := by simp [numB, nameG]
     have hst2 : res = if bndB P L.length ⟨gStart, ni, 0, []⟩ = false then 2 else if opB onesE twosE ⟨gStart, ni, 0, []⟩ = false then 4 else if givB L ⟨gStart, ni, 0, []⟩ = false ∨ phiB L ⟨gStart, ni, 0, []⟩ = false then 3 else 0 := by
      rw [HST.out, if_neg]
      rw [hft]
      simp [hz]
     have hgv2 := HGV.out hft
     have HST2 := hidX hst2
     have HGV2 := hidX hgv2
     clear hst2 hgv2 hft
     go_enter Tryz.func21, Tryz.ntmps21
     go_wp2_with fail
     rw [← hW1]
     clear hW1 k0 k1 k2 k3
     refine (HKD.out W1).mono ?_
     rintro e W2 ⟨rfl, hbn⟩
     obtain ⟨d0, d1, d2, d3, b1, b2⟩ := facts6 HN1.out HG1.out
     obtain ⟨HN1, HG1, HB⟩ := nxt3 HN1 HG1 HB hbn
     clear d0 d1 d2 d3 b1 b2 hbn
     obtain ⟨d0, d1, d2, d3, b1, b2⟩ := facts6 HN1.out HG1.out
     go_wp2_with fail
     refine (HCR.out W2).mono ?_
     rintro e W3 ⟨rfl, hbn⟩
     obtain ⟨HN1, HG1, HB⟩ := nxt3 HN1 HG1 HB hbn
     clear d0 d1 d2 d3 b1 b2 hbn
     obtain ⟨d0, d1, d2, d3, b1, b2⟩ := facts6 HN1.out HG1.out
     go_wp2_with fail
     go_loopw [8] (fun vi wr => ∃ q : Nat, q ≤ ni.length ∧ vi = .int .i64 q ∧ Hid (Below W3.heap.size W3 wr) ∧ Hid (∀ j (hj : j < q) (hq : q ≤ ni.length), 0 ≤ ni[j]'(by omega) ∧ ni[j]'(by omega) < (L.length : Int))) (fun vi _ => ni.length - (intOf vi).toNat)
     case atStart => exact ⟨0, Nat.zero_le _, rfl, Below.refl _ _, fun j hj => absurd hj (by omega)⟩
     case round =>
      obtain ⟨q, hq, rfl, HBW, HA⟩ := hrel
      have hbn := HBW.out
      obtain ⟨HN1, HG1, HB⟩ := nxt3 HN1 HG1 HB hbn
      clear d0 d1 d2 d3 b1 b2 hbn
      obtain ⟨d0, d1, d2, d3, b1, b2⟩ := facts6 HN1.out HG1.out
      by_cases hlt : q < ni.length
      ·have hlt' : (q : Int) < (ni.length : Int) := by omega
       obtain ⟨g1, off1, e1, hg1, hc⟩ := HRN.out.row.int hlt
       subst e1
       have hx : wr.cell? ⟨g1, off1 + q, none⟩ = some (.int .i64 ni[q]) := (HB.out.cell (p := ⟨g1, _, none⟩) hg1).trans hc
       have HBD := hidX (fun hx => bnd_bad (P := P) (N := L.length) (n := ⟨gStart, ni, 0, []⟩) (q := q) hlt hx)
       have hstep := fun (hx : 0 ≤ ni[q] ∧ ni[q] < (L.length : Int)) (j : Nat) (hj : j < q + 1) (hq2 : q + 1 ≤ ni.length) => show 0 ≤ ni[j]'(by omega) ∧ ni[j]'(by omega) < (L.length : Int) from by
        by_cases e : j = q
        ·subst e; exact hx
        ·exact HA.out j (by omega) (by omega)
       clear hc
       simp only at HBD
       generalize ni[q] = x at hx HBD hstep
       have HSP := hidX hstep
       clear hstep
       by_cases x0 : x < 0
       ·have hb := HBD.out (by omega)
        have hr : res = 2 := by rw [HST2.out]; rw [if_pos hb]
        subst hr
        go_wp2_with fail
        go_quiet (fail)
        go_wp2
        go_ret
        exact ⟨rfl, (by first | exact HB.out | exact HB.out.trans (drewN_below' _ _ _))⟩
       ·by_cases x1 : (L.length : Int) ≤ x
        ·have hb := HBD.out (by omega)
         have hr : res = 2 := by rw [HST2.out]; rw [if_pos hb]
         subst hr
         go_wp2_with fail
         go_quiet (fail)
         go_wp2
         go_ret
         exact ⟨rfl, (by first | exact HB.out | exact HB.out.trans (drewN_below' _ _ _))⟩
        ·have HS2 := hidX (HSP.out ⟨by omega, by omega⟩)
         go_wp2_with fail
         go_quiet (fail)
         go_wp2
         go_roundw
         case rel => exact ⟨q + 1, by omega, by go_num, (show Below W3.heap.size W3 _ from by have hq9 := HBW.out; (repeat (first | exact Below.refl _ _ | assumption | refine Below.drew ?_ | refine bT ?_ _ | refine bS ?_ _ | refine bA ?_ _))), HS2.out⟩
         case measure => simp [intOf]; omega
      ·have hqn : q = ni.length := by omega
       subst hqn
       have hbd := bnd_good (P := P) (N := L.length) (n := ⟨gStart, ni, 0, []⟩) (fun j hj => HA.out j hj (Nat.le_refl _))
       have HAB := hidX (fun j (hj : j < ni.length) => HA.out j hj (Nat.le_refl _))
       clear HBW
       rename World => W4
       have hb2 : bndB P L.length ⟨gStart, ni, 0, []⟩ = true := by rw [hbd]; simp [gStart, gParam]
       have HBD := hidX hb2
       clear hbd hb2
       have HO1 := hidX (show Calls Tryz.prog 47 #[.string ⟨([] : List UInt8).toArray⟩] W4 _ from rIsOne_any [] W4)
       have HO2 := hidX (fun X => rIsTwo_any [] X)
       generalize hm1 : decide ([] ∈ onesE) = o1 at HO1
       generalize hm2 : decide ([] ∈ twosE) = o2 at HO2
       have HM1 := hidX hm1
       have HM2 := hidX hm2
       clear hm1 hm2
       have hop : opB onesE twosE ⟨gStart, ni, 0, []⟩ = true := by unfold opB; simp [gStart, gOne, gTwo]
       have HOP := hidX hop
       clear hop
       go_wp2_with fail
       refine HO1.out.mono ?_
       rintro e W5 ⟨rfl, hh⟩
       replace hh := hh.symm
       subst hh
       go_wp2_with fail
       refine (HO2.out _).mono ?_
       rintro e W6 ⟨rfl, hbn⟩
       obtain ⟨HN1, HG1, HB⟩ := nxt3 HN1 HG1 HB hbn
       clear d0 d1 d2 d3 b1 b2 hbn
       obtain ⟨d0, d1, d2, d3, b1, b2⟩ := facts6 HN1.out HG1.out
       go_wp2_with fail
       refine (HWY.out W6).mono ?_
       rintro e W7 ⟨rfl, hbn⟩
       obtain ⟨HN1, HG1, HB⟩ := nxt3 HN1 HG1 HB hbn
       clear d0 d1 d2 d3 b1 b2 hbn
       obtain ⟨d0, d1, d2, d3, b1, b2⟩ := facts6 HN1.out HG1.out
       have HST3 := hidX (show res = if givB L ⟨gStart, ni, 0, []⟩ = false ∨ phiB L ⟨gStart, ni, 0, []⟩ = false then 3 else 0 from by rw [HST2.out, if_neg (by rw [HBD.out]; decide), if_neg (by rw [HOP.out]; decide)])
       go_wp2_with fail
       go_loopw [12] (fun vi wr => ∃ q : Nat, q ≤ ni.length ∧ vi = .int .i64 q ∧ Hid (Below W7.heap.size W7 wr) ∧ Hid (∀ j, j < q → givAt L ⟨gStart, ni, 0, []⟩ j = true)) (fun vi _ => ni.length - (intOf vi).toNat)
       case atStart => exact ⟨0, Nat.zero_le _, rfl, Below.refl _ _, fun j hj => absurd hj (by omega)⟩
       case round =>
        obtain ⟨q, hq, rfl, HBW, HA⟩ := hrel
        have hbn := HBW.out
        obtain ⟨HN1, HG1, HB⟩ := nxt3 HN1 HG1 HB hbn
        clear d0 d1 d2 d3 b1 b2 hbn
        obtain ⟨d0, d1, d2, d3, b1, b2⟩ := facts6 HN1.out HG1.out
        have hln : ni.length = 0 := by have := HCB.out; simpa [countB] using this
        have hq0 : q = 0 := by omega
        subst hq0
        have hln' : (ni.length : Int) = 0 := by omega
        have hgt := giv_good (L := L) (n := ⟨gStart, ni, 0, []⟩) (fun j hj => absurd hj (by simp only; omega))
        have hph := phi_no (L := L) (n := ⟨gStart, ni, 0, []⟩) (show gStart ≠ gPhi by decide)
        have hr : res = 0 := by rw [HST3.out, if_neg]; rw [hgt, hph]; simp
        subst hr
        clear hgt hph
        go_wp2_with fail
        go_quiet (fail)
        go_wp2
        go_ret
        exact ⟨rfl, (by first | exact HB.out | exact HB.out.trans (drewN_below' _ _ _))⟩
    ·have hnm' := nil_lit hnm
     go_enter Tryz.func21, Tryz.ntmps21
     go_wp2_with fail
     rw [← hW1]
     clear hW1 k0 k1 k2 k3
     refine (HKD.out W1).mono ?_
     rintro e W2 ⟨rfl, hbn⟩
     obtain ⟨d0, d1, d2, d3, b1, b2⟩ := facts6 HN1.out HG1.out
     obtain ⟨HN1, HG1, HB⟩ := nxt3 HN1 HG1 HB hbn
     clear d0 d1 d2 d3 b1 b2 hbn
     obtain ⟨d0, d1, d2, d3, b1, b2⟩ := facts6 HN1.out HG1.out
     go_wp2_with fail
     refine (HCR.out W2).mono ?_
     rintro e W3 ⟨rfl, hbn⟩
     obtain ⟨HN1, HG1, HB⟩ := nxt3 HN1 HG1 HB hbn
     clear d0 d1 d2 d3 b1 b2 hbn
     obtain ⟨d0, d1, d2, d3, b1, b2⟩ := facts6 HN1.out HG1.out
     have hr : res = 3 := by rw [HST.out]; simp [nameG, hnm, gStart, gOne, gTwo, gCall]
     subst hr
     go_wp2
     go_ret
     exact ⟨rfl, (by first | exact HB.out | exact HB.out.trans (drewN_below' _ _ _))⟩
   ·have hnn' : (nn == 0) = false := by simpa using hnn
    go_enter Tryz.func21, Tryz.ntmps21
    go_wp2_with fail
    rw [← hW1]
    clear hW1 k0 k1 k2 k3
    refine (HKD.out W1).mono ?_
    rintro e W2 ⟨rfl, hbn⟩
    obtain ⟨d0, d1, d2, d3, b1, b2⟩ := facts6 HN1.out HG1.out
    obtain ⟨HN1, HG1, HB⟩ := nxt3 HN1 HG1 HB hbn
    clear d0 d1 d2 d3 b1 b2 hbn
    obtain ⟨d0, d1, d2, d3, b1, b2⟩ := facts6 HN1.out HG1.out
    go_wp2_with fail
    refine (HCR.out W2).mono ?_
    rintro e W3 ⟨rfl, hbn⟩
    obtain ⟨HN1, HG1, HB⟩ := nxt3 HN1 HG1 HB hbn
    clear d0 d1 d2 d3 b1 b2 hbn
    obtain ⟨d0, d1, d2, d3, b1, b2⟩ := facts6 HN1.out HG1.out
    have hr : res = 3 := by rw [HST.out]; simp [numB, hnn, gStart, gParam, gConst]
    subst hr
    go_wp2
    go_ret
    exact ⟨rfl, (by first | exact HB.out | exact HB.out.trans (drewN_below' _ _ _))⟩
set_option maxRecDepth 100000 in
set_option maxHeartbeats 1000000 in
theorem rNode_param {w : World} {g off cap : Nat} {ad1 : Option Addr} {cap1 : Nat} {P : Int} {L : List Nd} {i : Nat} (nm0 : List UInt8) (ni : List Int) (nn : Int) (nm : List UInt8) (h : Rn w g off cap ad1 cap1 P L i ⟨gParam, ni, nn, nm⟩) :
  Calls Tryz.prog 21 #[.agg #[.string ⟨nm0.toArray⟩, .int .i64 P, .slice (some ⟨g, off, none⟩) L.length cap], .int .i64 i] w fun e w' => e = .returned (.int .i64 ((nodeC onesE twosE P L i : Nat) : Int)) ∧ Below w.heap.size w w' := by
 have hst := node_step (P := P) h.at0 (show (shp gParam).kind ≠ [] by decide)
 have hl := h.lown.ins
 simp only at hl
 have hl' : (ni.length : Int) ≤ 1000 := by omega
 have hfew : (L.length : Int) ≤ 1000 := by have := h.few; omega
 have hi' : (i : Int) < (L.length : Int) := by have := h.hi; omega
 have k0 : w.cell? ⟨g, off + i * 4, none⟩ = some (.string ⟨#[112, 97, 114, 97, 109]⟩) := h.k0
 have k1 : w.cell? ⟨g, off + i * 4 + 1, none⟩ = some (.slice ad1 ni.length cap1) := h.k1
 have k2 : w.cell? ⟨g, off + i * 4 + 2, none⟩ = some (.int .i64 nn) := h.k2
 have k3 : w.cell? ⟨g, off + i * 4 + 3, none⟩ = some (.string ⟨nm.toArray⟩) := h.k3
 have hgl : g < w.heap.size := h.low
 obtain ⟨W1, hW1⟩ : ∃ W1, W1 = (w.alloc (.cells #[.string ⟨nm0.toArray⟩, .int .i64 P, .slice (some ⟨g, off, none⟩) L.length cap] 24)).alloc (.cells #[.string ⟨#[112, 97, 114, 97, 109]⟩, .slice ad1 ni.length cap1, .int .i64 nn, .string ⟨nm.toArray⟩] 54) := ⟨_, rfl⟩
 have hb1 : Below w.heap.size w W1 := by rw [hW1]; (repeat (first | exact Below.refl _ _ | assumption | refine Below.drew ?_ | refine bT ?_ _ | refine bS ?_ _ | refine bA ?_ _))
 have HG1 := hidX (show W1.heap[w.heap.size]? = some (.cells #[.string ⟨nm0.toArray⟩, .int .i64 P, .slice (some ⟨g, off, none⟩) L.length cap] 24 (0, 0)) from by rw [hW1]; exact twoG w _ _)
 have HN1 := hidX (show W1.heap[w.heap.size + 1]? = some (.cells #[.string ⟨#[112, 97, 114, 97, 109]⟩, .slice ad1 ni.length cap1, .int .i64 nn, .string ⟨nm.toArray⟩] 54 (0, 0)) from by rw [hW1]; exact heap_alloc2_new w _ _)
 have HKD := hidX (show ∀ X, Calls Tryz.prog 45 #[.string ⟨#[112, 97, 114, 97, 109]⟩] X fun e w' => e = .returned (.bool true) ∧ Below X.heap.size X w' from fun X => rKind_any [112, 97, 114, 97, 109] X)
 have HCR := hidX (show ∀ X, Calls Tryz.prog 46 #[.agg #[.string ⟨#[112, 97, 114, 97, 109]⟩, .slice ad1 ni.length cap1, .int .i64 nn, .string ⟨nm.toArray⟩]] X fun e w' => e = .returned (.bool (countB gParam ni.length)) ∧ Below X.heap.size X w' from fun X => rCount_any ⟨gParam, ni, nn, nm⟩ (by simp only; omega) ad1 cap1 X)
 have HWY := hidX (show ∀ X, Calls Tryz.prog 49 #[.agg #[.string ⟨#[112, 97, 114, 97, 109]⟩, .slice ad1 ni.length cap1, .int .i64 nn, .string ⟨nm.toArray⟩]] X fun e w' => e = .returned (.int .i64 (0)) ∧ Below X.heap.size X w' from fun X => rWays_any ⟨gParam, ni, nn, nm⟩ (by simp only; omega) ad1 cap1 X)
 have hgv := fun (hf : (countB gParam ni.length && numB ⟨gParam, ni, nn, nm⟩ && nameG ⟨gParam, ni, nn, nm⟩) = true) (j : Nat) (hj : j < ni.length) => giv_is (L := L) (n := ⟨gParam, ni, nn, nm⟩) (k := j) (by rw [fits_is (show (shp gParam).kind ≠ [] by decide)]; exact hf) hj (show (shp gParam).kind ≠ [] by decide)
 generalize hres : nodeC onesE twosE P L i = res at hst
 have HRN := hidX h
 have HLL := hidX h.lows
 have HST := hidX hst
 have HGV := hidX hgv
 clear h hst hgv hres
 generalize hcb : countB gParam ni.length = cb at *
 have HCB := hidX hcb
 clear hcb
 have HB := hidX hb1
 clear hb1
 cases cb with
 | false =>
  go_enter Tryz.func21, Tryz.ntmps21
  go_wp2_with fail
  rw [← hW1]
  clear hW1 k0 k1 k2 k3
  refine (HKD.out W1).mono ?_
  rintro e W2 ⟨rfl, hbn⟩
  obtain ⟨d0, d1, d2, d3, b1, b2⟩ := facts6 HN1.out HG1.out
  obtain ⟨HN1, HG1, HB⟩ := nxt3 HN1 HG1 HB hbn
  clear d0 d1 d2 d3 b1 b2 hbn
  obtain ⟨d0, d1, d2, d3, b1, b2⟩ := facts6 HN1.out HG1.out
  go_wp2_with fail
  refine (HCR.out W2).mono ?_
  rintro e W3 ⟨rfl, hbn⟩
  obtain ⟨HN1, HG1, HB⟩ := nxt3 HN1 HG1 HB hbn
  clear d0 d1 d2 d3 b1 b2 hbn
  obtain ⟨d0, d1, d2, d3, b1, b2⟩ := facts6 HN1.out HG1.out
  have hr : res = 3 := by rw [HST.out]; simp
  subst hr
  go_wp2
  go_ret
  exact ⟨rfl, (by first | exact HB.out | exact HB.out.trans (drewN_below' _ _ _))⟩
 | true =>
  by_cases hnn : nn = 0
  ·subst hnn
   by_cases hnm : nm = []
   ·subst hnm
    have hft : (true && numB ⟨gParam, ni, 0, []⟩ && nameG ⟨gParam, ni, 0, []⟩) = true := by simp [numB, nameG, gParam, gParam, gConst]
    have hst2 : res = if bndB P L.length ⟨gParam, ni, 0, []⟩ = false then 2 else if opB onesE twosE ⟨gParam, ni, 0, []⟩ = false then 4 else if givB L ⟨gParam, ni, 0, []⟩ = false ∨ phiB L ⟨gParam, ni, 0, []⟩ = false then 3 else 0 := by
     rw [HST.out, if_neg]
     rw [hft]
     simp [gParam, gStart]
    have hgv2 := HGV.out hft
    have HST2 := hidX hst2
    have HGV2 := hidX hgv2
    clear hst2 hgv2 hft
    go_enter Tryz.func21, Tryz.ntmps21
    go_wp2_with fail
    rw [← hW1]
    clear hW1 k0 k1 k2 k3
    refine (HKD.out W1).mono ?_
    rintro e W2 ⟨rfl, hbn⟩
    obtain ⟨d0, d1, d2, d3, b1, b2⟩ := facts6 HN1.out HG1.out
    obtain ⟨HN1, HG1, HB⟩ := nxt3 HN1 HG1 HB hbn
    clear d0 d1 d2 d3 b1 b2 hbn
    obtain ⟨d0, d1, d2, d3, b1, b2⟩ := facts6 HN1.out HG1.out
    go_wp2_with fail
    refine (HCR.out W2).mono ?_
    rintro e W3 ⟨rfl, hbn⟩
    obtain ⟨HN1, HG1, HB⟩ := nxt3 HN1 HG1 HB hbn
    clear d0 d1 d2 d3 b1 b2 hbn
    obtain ⟨d0, d1, d2, d3, b1, b2⟩ := facts6 HN1.out HG1.out
    go_wp2_with fail
    go_loopw [8] (fun vi wr => ∃ q : Nat, q ≤ ni.length ∧ vi = .int .i64 q ∧ Hid (Below W3.heap.size W3 wr) ∧ Hid (∀ j (hj : j < q) (hq : q ≤ ni.length), 0 ≤ ni[j]'(by omega) ∧ ni[j]'(by omega) < (L.length : Int))) (fun vi _ => ni.length - (intOf vi).toNat)
    case atStart => exact ⟨0, Nat.zero_le _, rfl, Below.refl _ _, fun j hj => absurd hj (by omega)⟩
    case round =>
     obtain ⟨q, hq, rfl, HBW, HA⟩ := hrel
     have hbn := HBW.out
     obtain ⟨HN1, HG1, HB⟩ := nxt3 HN1 HG1 HB hbn
     clear d0 d1 d2 d3 b1 b2 hbn
     obtain ⟨d0, d1, d2, d3, b1, b2⟩ := facts6 HN1.out HG1.out
     by_cases hlt : q < ni.length
     ·have hlt' : (q : Int) < (ni.length : Int) := by omega
      obtain ⟨g1, off1, e1, hg1, hc⟩ := HRN.out.row.int hlt
      subst e1
      have hx : wr.cell? ⟨g1, off1 + q, none⟩ = some (.int .i64 ni[q]) := (HB.out.cell (p := ⟨g1, _, none⟩) hg1).trans hc
      have HBD := hidX (fun hx => bnd_bad (P := P) (N := L.length) (n := ⟨gParam, ni, 0, []⟩) (q := q) hlt hx)
      have hstep := fun (hx : 0 ≤ ni[q] ∧ ni[q] < (L.length : Int)) (j : Nat) (hj : j < q + 1) (hq2 : q + 1 ≤ ni.length) => show 0 ≤ ni[j]'(by omega) ∧ ni[j]'(by omega) < (L.length : Int) from by
       by_cases e : j = q
       ·subst e; exact hx
       ·exact HA.out j (by omega) (by omega)
      clear hc
      simp only at HBD
      generalize ni[q] = x at hx HBD hstep
      have HSP := hidX hstep
      clear hstep
      by_cases x0 : x < 0
      ·have hb := HBD.out (by omega)
       have hr : res = 2 := by rw [HST2.out]; rw [if_pos hb]
       subst hr
       go_wp2_with fail
       go_quiet (fail)
       go_wp2
       go_ret
       exact ⟨rfl, (by first | exact HB.out | exact HB.out.trans (drewN_below' _ _ _))⟩
      ·by_cases x1 : (L.length : Int) ≤ x
       ·have hb := HBD.out (by omega)
        have hr : res = 2 := by rw [HST2.out]; rw [if_pos hb]
        subst hr
        go_wp2_with fail
        go_quiet (fail)
        go_wp2
        go_ret
        exact ⟨rfl, (by first | exact HB.out | exact HB.out.trans (drewN_below' _ _ _))⟩
       ·have HS2 := hidX (HSP.out ⟨by omega, by omega⟩)
        go_wp2_with fail
        go_quiet (fail)
        go_wp2
        go_roundw
        case rel => exact ⟨q + 1, by omega, by go_num, (show Below W3.heap.size W3 _ from by have hq9 := HBW.out; (repeat (first | exact Below.refl _ _ | assumption | refine Below.drew ?_ | refine bT ?_ _ | refine bS ?_ _ | refine bA ?_ _))), HS2.out⟩
        case measure => simp [intOf]; omega
     ·have hqn : q = ni.length := by omega
      subst hqn
      have hbd := bnd_good (P := P) (N := L.length) (n := ⟨gParam, ni, 0, []⟩) (fun j hj => HA.out j hj (Nat.le_refl _))
      have HAB := hidX (fun j (hj : j < ni.length) => HA.out j hj (Nat.le_refl _))
      clear HBW
      rename World => W4
      by_cases p0 : 0 ≤ (0 : Int) ∧ (0 : Int) < P
      ·have hb2 : bndB P L.length ⟨gParam, ni, 0, []⟩ = true := by rw [hbd]; simp [p0]
       have p1 : ¬ (0 : Int) < 0 := by omega
       have p2 : ¬ P ≤ (0 : Int) := by omega
       have HBD := hidX hb2
       clear hbd hb2
       have HO1 := hidX (show Calls Tryz.prog 47 #[.string ⟨([] : List UInt8).toArray⟩] W4 _ from rIsOne_any [] W4)
       have HO2 := hidX (fun X => rIsTwo_any [] X)
       generalize hm1 : decide ([] ∈ onesE) = o1 at HO1
       generalize hm2 : decide ([] ∈ twosE) = o2 at HO2
       have HM1 := hidX hm1
       have HM2 := hidX hm2
       clear hm1 hm2
       have hop : opB onesE twosE ⟨gParam, ni, 0, []⟩ = true := by unfold opB; simp [gParam, gOne, gTwo]
       have HOP := hidX hop
       clear hop
       go_wp2_with fail
       refine HO1.out.mono ?_
       rintro e W5 ⟨rfl, hh⟩
       replace hh := hh.symm
       subst hh
       go_wp2_with fail
       refine (HO2.out _).mono ?_
       rintro e W6 ⟨rfl, hbn⟩
       obtain ⟨HN1, HG1, HB⟩ := nxt3 HN1 HG1 HB hbn
       clear d0 d1 d2 d3 b1 b2 hbn
       obtain ⟨d0, d1, d2, d3, b1, b2⟩ := facts6 HN1.out HG1.out
       go_wp2_with fail
       refine (HWY.out W6).mono ?_
       rintro e W7 ⟨rfl, hbn⟩
       obtain ⟨HN1, HG1, HB⟩ := nxt3 HN1 HG1 HB hbn
       clear d0 d1 d2 d3 b1 b2 hbn
       obtain ⟨d0, d1, d2, d3, b1, b2⟩ := facts6 HN1.out HG1.out
       have HST3 := hidX (show res = if givB L ⟨gParam, ni, 0, []⟩ = false ∨ phiB L ⟨gParam, ni, 0, []⟩ = false then 3 else 0 from by rw [HST2.out, if_neg (by rw [HBD.out]; decide), if_neg (by rw [HOP.out]; decide)])
       go_wp2_with fail
       go_loopw [12] (fun vi wr => ∃ q : Nat, q ≤ ni.length ∧ vi = .int .i64 q ∧ Hid (Below W7.heap.size W7 wr) ∧ Hid (∀ j, j < q → givAt L ⟨gParam, ni, 0, []⟩ j = true)) (fun vi _ => ni.length - (intOf vi).toNat)
       case atStart => exact ⟨0, Nat.zero_le _, rfl, Below.refl _ _, fun j hj => absurd hj (by omega)⟩
       case round =>
        obtain ⟨q, hq, rfl, HBW, HA⟩ := hrel
        have hbn := HBW.out
        obtain ⟨HN1, HG1, HB⟩ := nxt3 HN1 HG1 HB hbn
        clear d0 d1 d2 d3 b1 b2 hbn
        obtain ⟨d0, d1, d2, d3, b1, b2⟩ := facts6 HN1.out HG1.out
        have hln : ni.length = 0 := by have := HCB.out; simpa [countB, gParam, gStart, gParam] using this
        have hq0 : q = 0 := by omega
        subst hq0
        have hln' : (ni.length : Int) = 0 := by omega
        have hgt := giv_good (L := L) (n := ⟨gParam, ni, 0, []⟩) (fun j hj => absurd hj (by simp only; omega))
        have hph := phi_no (L := L) (n := ⟨gParam, ni, 0, []⟩) (show gParam ≠ gPhi by decide)
        have hr : res = 0 := by rw [HST3.out, if_neg]; rw [hgt, hph]; simp
        subst hr
        clear hgt hph
        go_wp2_with fail
        go_quiet (fail)
        go_wp2
        go_ret
        exact ⟨rfl, (by first | exact HB.out | exact HB.out.trans (drewN_below' _ _ _))⟩
      ·have hb2 : bndB P L.length ⟨gParam, ni, 0, []⟩ = false := by rw [hbd, Bool.or_eq_false_iff]; exact ⟨by simp, decide_eq_false p0⟩
       by_cases p1 : (0 : Int) < 0
       ·exact absurd p1 (by omega)
       ·have p2 : P ≤ (0 : Int) := by omega
        clear hbd
        have hr : res = 2 := by rw [HST2.out]; rw [if_pos hb2]
        subst hr
        go_wp2
        go_ret
        exact ⟨rfl, (by first | exact HB.out | exact HB.out.trans (drewN_below' _ _ _))⟩
   ·have hnm' := nil_lit hnm
    go_enter Tryz.func21, Tryz.ntmps21
    go_wp2_with fail
    rw [← hW1]
    clear hW1 k0 k1 k2 k3
    refine (HKD.out W1).mono ?_
    rintro e W2 ⟨rfl, hbn⟩
    obtain ⟨d0, d1, d2, d3, b1, b2⟩ := facts6 HN1.out HG1.out
    obtain ⟨HN1, HG1, HB⟩ := nxt3 HN1 HG1 HB hbn
    clear d0 d1 d2 d3 b1 b2 hbn
    obtain ⟨d0, d1, d2, d3, b1, b2⟩ := facts6 HN1.out HG1.out
    go_wp2_with fail
    refine (HCR.out W2).mono ?_
    rintro e W3 ⟨rfl, hbn⟩
    obtain ⟨HN1, HG1, HB⟩ := nxt3 HN1 HG1 HB hbn
    clear d0 d1 d2 d3 b1 b2 hbn
    obtain ⟨d0, d1, d2, d3, b1, b2⟩ := facts6 HN1.out HG1.out
    have hr : res = 3 := by rw [HST.out]; simp [nameG, hnm, gParam, gOne, gTwo, gCall]
    subst hr
    go_wp2
    go_ret
    exact ⟨rfl, (by first | exact HB.out | exact HB.out.trans (drewN_below' _ _ _))⟩
  ·have hnn' : (nn == 0) = false := by simpa using hnn
   by_cases hnm : nm = []
   ·subst hnm
    have hft : (true && numB ⟨gParam, ni, nn, []⟩ && nameG ⟨gParam, ni, nn, []⟩) = true := by simp [numB, nameG, gParam, gParam, gConst]
    have hst2 : res = if bndB P L.length ⟨gParam, ni, nn, []⟩ = false then 2 else if opB onesE twosE ⟨gParam, ni, nn, []⟩ = false then 4 else if givB L ⟨gParam, ni, nn, []⟩ = false ∨ phiB L ⟨gParam, ni, nn, []⟩ = false then 3 else 0 := by
     rw [HST.out, if_neg]
     rw [hft]
     simp [gParam, gStart]
    have hgv2 := HGV.out hft
    have HST2 := hidX hst2
    have HGV2 := hidX hgv2
    clear hst2 hgv2 hft
    go_enter Tryz.func21, Tryz.ntmps21
    go_wp2_with fail
    rw [← hW1]
    clear hW1 k0 k1 k2 k3
    refine (HKD.out W1).mono ?_
    rintro e W2 ⟨rfl, hbn⟩
    obtain ⟨d0, d1, d2, d3, b1, b2⟩ := facts6 HN1.out HG1.out
    obtain ⟨HN1, HG1, HB⟩ := nxt3 HN1 HG1 HB hbn
    clear d0 d1 d2 d3 b1 b2 hbn
    obtain ⟨d0, d1, d2, d3, b1, b2⟩ := facts6 HN1.out HG1.out
    go_wp2_with fail
    refine (HCR.out W2).mono ?_
    rintro e W3 ⟨rfl, hbn⟩
    obtain ⟨HN1, HG1, HB⟩ := nxt3 HN1 HG1 HB hbn
    clear d0 d1 d2 d3 b1 b2 hbn
    obtain ⟨d0, d1, d2, d3, b1, b2⟩ := facts6 HN1.out HG1.out
    go_wp2_with fail
    go_loopw [8] (fun vi wr => ∃ q : Nat, q ≤ ni.length ∧ vi = .int .i64 q ∧ Hid (Below W3.heap.size W3 wr) ∧ Hid (∀ j (hj : j < q) (hq : q ≤ ni.length), 0 ≤ ni[j]'(by omega) ∧ ni[j]'(by omega) < (L.length : Int))) (fun vi _ => ni.length - (intOf vi).toNat)
    case atStart => exact ⟨0, Nat.zero_le _, rfl, Below.refl _ _, fun j hj => absurd hj (by omega)⟩
    case round =>
     obtain ⟨q, hq, rfl, HBW, HA⟩ := hrel
     have hbn := HBW.out
     obtain ⟨HN1, HG1, HB⟩ := nxt3 HN1 HG1 HB hbn
     clear d0 d1 d2 d3 b1 b2 hbn
     obtain ⟨d0, d1, d2, d3, b1, b2⟩ := facts6 HN1.out HG1.out
     by_cases hlt : q < ni.length
     ·have hlt' : (q : Int) < (ni.length : Int) := by omega
      obtain ⟨g1, off1, e1, hg1, hc⟩ := HRN.out.row.int hlt
      subst e1
      have hx : wr.cell? ⟨g1, off1 + q, none⟩ = some (.int .i64 ni[q]) := (HB.out.cell (p := ⟨g1, _, none⟩) hg1).trans hc
      have HBD := hidX (fun hx => bnd_bad (P := P) (N := L.length) (n := ⟨gParam, ni, nn, []⟩) (q := q) hlt hx)
      have hstep := fun (hx : 0 ≤ ni[q] ∧ ni[q] < (L.length : Int)) (j : Nat) (hj : j < q + 1) (hq2 : q + 1 ≤ ni.length) => show 0 ≤ ni[j]'(by omega) ∧ ni[j]'(by omega) < (L.length : Int) from by
       by_cases e : j = q
       ·subst e; exact hx
       ·exact HA.out j (by omega) (by omega)
      clear hc
      simp only at HBD
      generalize ni[q] = x at hx HBD hstep
      have HSP := hidX hstep
      clear hstep
      by_cases x0 : x < 0
      ·have hb := HBD.out (by omega)
       have hr : res = 2 := by rw [HST2.out]; rw [if_pos hb]
       subst hr
       go_wp2_with fail
       go_quiet (fail)
       go_wp2
       go_ret
       exact ⟨rfl, (by first | exact HB.out | exact HB.out.trans (drewN_below' _ _ _))⟩
      ·by_cases x1 : (L.length : Int) ≤ x
       ·have hb := HBD.out (by omega)
        have hr : res = 2 := by rw [HST2.out]; rw [if_pos hb]
        subst hr
        go_wp2_with fail
        go_quiet (fail)
        go_wp2
        go_ret
        exact ⟨rfl, (by first | exact HB.out | exact HB.out.trans (drewN_below' _ _ _))⟩
       ·have HS2 := hidX (HSP.out ⟨by omega, by omega⟩)
        go_wp2_with fail
        go_quiet (fail)
        go_wp2
        go_roundw
        case rel => exact ⟨q + 1, by omega, by go_num, (show Below W3.heap.size W3 _ from by have hq9 := HBW.out; (repeat (first | exact Below.refl _ _ | assumption | refine Below.drew ?_ | refine bT ?_ _ | refine bS ?_ _ | refine bA ?_ _))), HS2.out⟩
        case measure => simp [intOf]; omega
     ·have hqn : q = ni.length := by omega
      subst hqn
      have hbd := bnd_good (P := P) (N := L.length) (n := ⟨gParam, ni, nn, []⟩) (fun j hj => HA.out j hj (Nat.le_refl _))
      have HAB := hidX (fun j (hj : j < ni.length) => HA.out j hj (Nat.le_refl _))
      clear HBW
      rename World => W4
      by_cases p0 : 0 ≤ (nn : Int) ∧ (nn : Int) < P
      ·have hb2 : bndB P L.length ⟨gParam, ni, nn, []⟩ = true := by rw [hbd]; simp [p0]
       have p1 : ¬ (nn : Int) < 0 := by omega
       have p2 : ¬ P ≤ (nn : Int) := by omega
       have HBD := hidX hb2
       clear hbd hb2
       have HO1 := hidX (show Calls Tryz.prog 47 #[.string ⟨([] : List UInt8).toArray⟩] W4 _ from rIsOne_any [] W4)
       have HO2 := hidX (fun X => rIsTwo_any [] X)
       generalize hm1 : decide ([] ∈ onesE) = o1 at HO1
       generalize hm2 : decide ([] ∈ twosE) = o2 at HO2
       have HM1 := hidX hm1
       have HM2 := hidX hm2
       clear hm1 hm2
       have hop : opB onesE twosE ⟨gParam, ni, nn, []⟩ = true := by unfold opB; simp [gParam, gOne, gTwo]
       have HOP := hidX hop
       clear hop
       go_wp2_with fail
       refine HO1.out.mono ?_
       rintro e W5 ⟨rfl, hh⟩
       replace hh := hh.symm
       subst hh
       go_wp2_with fail
       refine (HO2.out _).mono ?_
       rintro e W6 ⟨rfl, hbn⟩
       obtain ⟨HN1, HG1, HB⟩ := nxt3 HN1 HG1 HB hbn
       clear d0 d1 d2 d3 b1 b2 hbn
       obtain ⟨d0, d1, d2, d3, b1, b2⟩ := facts6 HN1.out HG1.out
       go_wp2_with fail
       refine (HWY.out W6).mono ?_
       rintro e W7 ⟨rfl, hbn⟩
       obtain ⟨HN1, HG1, HB⟩ := nxt3 HN1 HG1 HB hbn
       clear d0 d1 d2 d3 b1 b2 hbn
       obtain ⟨d0, d1, d2, d3, b1, b2⟩ := facts6 HN1.out HG1.out
       have HST3 := hidX (show res = if givB L ⟨gParam, ni, nn, []⟩ = false ∨ phiB L ⟨gParam, ni, nn, []⟩ = false then 3 else 0 from by rw [HST2.out, if_neg (by rw [HBD.out]; decide), if_neg (by rw [HOP.out]; decide)])
       go_wp2_with fail
       go_loopw [12] (fun vi wr => ∃ q : Nat, q ≤ ni.length ∧ vi = .int .i64 q ∧ Hid (Below W7.heap.size W7 wr) ∧ Hid (∀ j, j < q → givAt L ⟨gParam, ni, nn, []⟩ j = true)) (fun vi _ => ni.length - (intOf vi).toNat)
       case atStart => exact ⟨0, Nat.zero_le _, rfl, Below.refl _ _, fun j hj => absurd hj (by omega)⟩
       case round =>
        obtain ⟨q, hq, rfl, HBW, HA⟩ := hrel
        have hbn := HBW.out
        obtain ⟨HN1, HG1, HB⟩ := nxt3 HN1 HG1 HB hbn
        clear d0 d1 d2 d3 b1 b2 hbn
        obtain ⟨d0, d1, d2, d3, b1, b2⟩ := facts6 HN1.out HG1.out
        have hln : ni.length = 0 := by have := HCB.out; simpa [countB, gParam, gStart, gParam] using this
        have hq0 : q = 0 := by omega
        subst hq0
        have hln' : (ni.length : Int) = 0 := by omega
        have hgt := giv_good (L := L) (n := ⟨gParam, ni, nn, []⟩) (fun j hj => absurd hj (by simp only; omega))
        have hph := phi_no (L := L) (n := ⟨gParam, ni, nn, []⟩) (show gParam ≠ gPhi by decide)
        have hr : res = 0 := by rw [HST3.out, if_neg]; rw [hgt, hph]; simp
        subst hr
        clear hgt hph
        go_wp2_with fail
        go_quiet (fail)
        go_wp2
        go_ret
        exact ⟨rfl, (by first | exact HB.out | exact HB.out.trans (drewN_below' _ _ _))⟩
      ·have hb2 : bndB P L.length ⟨gParam, ni, nn, []⟩ = false := by rw [hbd, Bool.or_eq_false_iff]; exact ⟨by simp, decide_eq_false p0⟩
       by_cases p1 : (nn : Int) < 0
       ·clear hbd
        have hr : res = 2 := by rw [HST2.out]; rw [if_pos hb2]
        subst hr
        go_wp2
        go_ret
        exact ⟨rfl, (by first | exact HB.out | exact HB.out.trans (drewN_below' _ _ _))⟩
       ·have p2 : P ≤ (nn : Int) := by omega
        clear hbd
        have hr : res = 2 := by rw [HST2.out]; rw [if_pos hb2]
        subst hr
        go_wp2
        go_ret
        exact ⟨rfl, (by first | exact HB.out | exact HB.out.trans (drewN_below' _ _ _))⟩
   ·have hnm' := nil_lit hnm
    go_enter Tryz.func21, Tryz.ntmps21
    go_wp2_with fail
    rw [← hW1]
    clear hW1 k0 k1 k2 k3
    refine (HKD.out W1).mono ?_
    rintro e W2 ⟨rfl, hbn⟩
    obtain ⟨d0, d1, d2, d3, b1, b2⟩ := facts6 HN1.out HG1.out
    obtain ⟨HN1, HG1, HB⟩ := nxt3 HN1 HG1 HB hbn
    clear d0 d1 d2 d3 b1 b2 hbn
    obtain ⟨d0, d1, d2, d3, b1, b2⟩ := facts6 HN1.out HG1.out
    go_wp2_with fail
    refine (HCR.out W2).mono ?_
    rintro e W3 ⟨rfl, hbn⟩
    obtain ⟨HN1, HG1, HB⟩ := nxt3 HN1 HG1 HB hbn
    clear d0 d1 d2 d3 b1 b2 hbn
    obtain ⟨d0, d1, d2, d3, b1, b2⟩ := facts6 HN1.out HG1.out
    have hr : res = 3 := by rw [HST.out]; simp [nameG, hnm, gParam, gOne, gTwo, gCall]
    subst hr
    go_wp2
    go_ret
    exact ⟨rfl, (by first | exact HB.out | exact HB.out.trans (drewN_below' _ _ _))⟩
end Go.Proofs.YtlgejjmdanmglaaGreatDoor
namespace Go.Proofs.YtlgejjmdanmglaaGreatDoor
open Go.RowKit
set_option maxRecDepth 100000 in
set_option maxHeartbeats 1000000 in
theorem rNode_phi {w : World} {g off cap : Nat} {ad1 : Option Addr} {cap1 : Nat} {P : Int} {L : List Nd} {i : Nat} (nm0 : List UInt8) (ni : List Int) (nn : Int) (nm : List UInt8) (h : Rn w g off cap ad1 cap1 P L i ⟨gPhi, ni, nn, nm⟩) :
  Calls Tryz.prog 21 #[.agg #[.string ⟨nm0.toArray⟩, .int .i64 P, .slice (some ⟨g, off, none⟩) L.length cap], .int .i64 i] w fun e w' => e = .returned (.int .i64 ((nodeC onesE twosE P L i : Nat) : Int)) ∧ Below w.heap.size w w' := by
 have hst := node_step (P := P) h.at0 (show (shp gPhi).kind ≠ [] by decide)
 have hl := h.lown.ins
 simp only at hl
 have hl' : (ni.length : Int) ≤ 1000 := by omega
 have hfew : (L.length : Int) ≤ 1000 := by have := h.few; omega
 have hi' : (i : Int) < (L.length : Int) := by have := h.hi; omega
 have k0 : w.cell? ⟨g, off + i * 4, none⟩ = some (.string ⟨#[112, 104, 105]⟩) := h.k0
 have k1 : w.cell? ⟨g, off + i * 4 + 1, none⟩ = some (.slice ad1 ni.length cap1) := h.k1
 have k2 : w.cell? ⟨g, off + i * 4 + 2, none⟩ = some (.int .i64 nn) := h.k2
 have k3 : w.cell? ⟨g, off + i * 4 + 3, none⟩ = some (.string ⟨nm.toArray⟩) := h.k3
 have hgl : g < w.heap.size := h.low
 obtain ⟨W1, hW1⟩ : ∃ W1, W1 = (w.alloc (.cells #[.string ⟨nm0.toArray⟩, .int .i64 P, .slice (some ⟨g, off, none⟩) L.length cap] 24)).alloc (.cells #[.string ⟨#[112, 104, 105]⟩, .slice ad1 ni.length cap1, .int .i64 nn, .string ⟨nm.toArray⟩] 54) := ⟨_, rfl⟩
 have hb1 : Below w.heap.size w W1 := by rw [hW1]; (repeat (first | exact Below.refl _ _ | assumption | refine Below.drew ?_ | refine bT ?_ _ | refine bS ?_ _ | refine bA ?_ _))
 have HG1 := hidX (show W1.heap[w.heap.size]? = some (.cells #[.string ⟨nm0.toArray⟩, .int .i64 P, .slice (some ⟨g, off, none⟩) L.length cap] 24 (0, 0)) from by rw [hW1]; exact twoG w _ _)
 have HN1 := hidX (show W1.heap[w.heap.size + 1]? = some (.cells #[.string ⟨#[112, 104, 105]⟩, .slice ad1 ni.length cap1, .int .i64 nn, .string ⟨nm.toArray⟩] 54 (0, 0)) from by rw [hW1]; exact heap_alloc2_new w _ _)
 have HKD := hidX (show ∀ X, Calls Tryz.prog 45 #[.string ⟨#[112, 104, 105]⟩] X fun e w' => e = .returned (.bool true) ∧ Below X.heap.size X w' from fun X => rKind_any [112, 104, 105] X)
 have HCR := hidX (show ∀ X, Calls Tryz.prog 46 #[.agg #[.string ⟨#[112, 104, 105]⟩, .slice ad1 ni.length cap1, .int .i64 nn, .string ⟨nm.toArray⟩]] X fun e w' => e = .returned (.bool (countB gPhi ni.length)) ∧ Below X.heap.size X w' from fun X => rCount_any ⟨gPhi, ni, nn, nm⟩ (by simp only; omega) ad1 cap1 X)
 have HWY := hidX (show ∀ X, Calls Tryz.prog 49 #[.agg #[.string ⟨#[112, 104, 105]⟩, .slice ad1 ni.length cap1, .int .i64 nn, .string ⟨nm.toArray⟩]] X fun e w' => e = .returned (.int .i64 (0)) ∧ Below X.heap.size X w' from fun X => rWays_any ⟨gPhi, ni, nn, nm⟩ (by simp only; omega) ad1 cap1 X)
 have hgv := fun (hf : (countB gPhi ni.length && numB ⟨gPhi, ni, nn, nm⟩ && nameG ⟨gPhi, ni, nn, nm⟩) = true) (j : Nat) (hj : j < ni.length) => giv_is (L := L) (n := ⟨gPhi, ni, nn, nm⟩) (k := j) (by rw [fits_is (show (shp gPhi).kind ≠ [] by decide)]; exact hf) hj (show (shp gPhi).kind ≠ [] by decide)
 generalize hres : nodeC onesE twosE P L i = res at hst
 have HRN := hidX h
 have HLL := hidX h.lows
 have HST := hidX hst
 have HGV := hidX hgv
 clear h hst hgv hres
 generalize hcb : countB gPhi ni.length = cb at *
 have HCB := hidX hcb
 clear hcb
 have HB := hidX hb1
 clear hb1
 cases cb with
 | false =>
  go_enter Tryz.func21, Tryz.ntmps21
  go_wp2_with fail
  rw [← hW1]
  clear hW1 k0 k1 k2 k3
  refine (HKD.out W1).mono ?_
  rintro e W2 ⟨rfl, hbn⟩
  obtain ⟨d0, d1, d2, d3, b1, b2⟩ := facts6 HN1.out HG1.out
  obtain ⟨HN1, HG1, HB⟩ := nxt3 HN1 HG1 HB hbn
  clear d0 d1 d2 d3 b1 b2 hbn
  obtain ⟨d0, d1, d2, d3, b1, b2⟩ := facts6 HN1.out HG1.out
  go_wp2_with fail
  refine (HCR.out W2).mono ?_
  rintro e W3 ⟨rfl, hbn⟩
  obtain ⟨HN1, HG1, HB⟩ := nxt3 HN1 HG1 HB hbn
  clear d0 d1 d2 d3 b1 b2 hbn
  obtain ⟨d0, d1, d2, d3, b1, b2⟩ := facts6 HN1.out HG1.out
  have hr : res = 3 := by rw [HST.out]; simp
  subst hr
  go_wp2
  go_ret
  exact ⟨rfl, (by first | exact HB.out | exact HB.out.trans (drewN_below' _ _ _))⟩
 | true =>
  by_cases hnn : nn = 0
  ·subst hnn
   by_cases hnm : nm = []
   ·subst hnm
    have hft : (true && numB ⟨gPhi, ni, 0, []⟩ && nameG ⟨gPhi, ni, 0, []⟩) = true := by simp [numB, nameG]
    have hst2 : res = if bndB P L.length ⟨gPhi, ni, 0, []⟩ = false then 2 else if opB onesE twosE ⟨gPhi, ni, 0, []⟩ = false then 4 else if givB L ⟨gPhi, ni, 0, []⟩ = false ∨ phiB L ⟨gPhi, ni, 0, []⟩ = false then 3 else 0 := by
     rw [HST.out, if_neg]
     rw [hft]
     simp [gPhi, gStart]
    have hgv2 := HGV.out hft
    have HST2 := hidX hst2
    have HGV2 := hidX hgv2
    clear hst2 hgv2 hft
    go_enter Tryz.func21, Tryz.ntmps21
    go_wp2_with fail
    rw [← hW1]
    clear hW1 k0 k1 k2 k3
    refine (HKD.out W1).mono ?_
    rintro e W2 ⟨rfl, hbn⟩
    obtain ⟨d0, d1, d2, d3, b1, b2⟩ := facts6 HN1.out HG1.out
    obtain ⟨HN1, HG1, HB⟩ := nxt3 HN1 HG1 HB hbn
    clear d0 d1 d2 d3 b1 b2 hbn
    obtain ⟨d0, d1, d2, d3, b1, b2⟩ := facts6 HN1.out HG1.out
    go_wp2_with fail
    refine (HCR.out W2).mono ?_
    rintro e W3 ⟨rfl, hbn⟩
    obtain ⟨HN1, HG1, HB⟩ := nxt3 HN1 HG1 HB hbn
    clear d0 d1 d2 d3 b1 b2 hbn
    obtain ⟨d0, d1, d2, d3, b1, b2⟩ := facts6 HN1.out HG1.out
    go_wp2_with fail
    go_loopw [8] (fun vi wr => ∃ q : Nat, q ≤ ni.length ∧ vi = .int .i64 q ∧ Hid (Below W3.heap.size W3 wr) ∧ Hid (∀ j (hj : j < q) (hq : q ≤ ni.length), 0 ≤ ni[j]'(by omega) ∧ ni[j]'(by omega) < (L.length : Int))) (fun vi _ => ni.length - (intOf vi).toNat)
    case atStart => exact ⟨0, Nat.zero_le _, rfl, Below.refl _ _, fun j hj => absurd hj (by omega)⟩
    case round =>
     obtain ⟨q, hq, rfl, HBW, HA⟩ := hrel
     have hbn := HBW.out
     obtain ⟨HN1, HG1, HB⟩ := nxt3 HN1 HG1 HB hbn
     clear d0 d1 d2 d3 b1 b2 hbn
     obtain ⟨d0, d1, d2, d3, b1, b2⟩ := facts6 HN1.out HG1.out
     by_cases hlt : q < ni.length
     ·have hlt' : (q : Int) < (ni.length : Int) := by omega
      obtain ⟨g1, off1, e1, hg1, hc⟩ := HRN.out.row.int hlt
      subst e1
      have hx : wr.cell? ⟨g1, off1 + q, none⟩ = some (.int .i64 ni[q]) := (HB.out.cell (p := ⟨g1, _, none⟩) hg1).trans hc
      have HBD := hidX (fun hx => bnd_bad (P := P) (N := L.length) (n := ⟨gPhi, ni, 0, []⟩) (q := q) hlt hx)
      have hstep := fun (hx : 0 ≤ ni[q] ∧ ni[q] < (L.length : Int)) (j : Nat) (hj : j < q + 1) (hq2 : q + 1 ≤ ni.length) => show 0 ≤ ni[j]'(by omega) ∧ ni[j]'(by omega) < (L.length : Int) from by
       by_cases e : j = q
       ·subst e; exact hx
       ·exact HA.out j (by omega) (by omega)
      clear hc
      simp only at HBD
      generalize ni[q] = x at hx HBD hstep
      have HSP := hidX hstep
      clear hstep
      by_cases x0 : x < 0
      ·have hb := HBD.out (by omega)
       have hr : res = 2 := by rw [HST2.out]; rw [if_pos hb]
       subst hr
       go_wp2_with fail
       go_quiet (fail)
       go_wp2
       go_ret
       exact ⟨rfl, (by first | exact HB.out | exact HB.out.trans (drewN_below' _ _ _))⟩
      ·by_cases x1 : (L.length : Int) ≤ x
       ·have hb := HBD.out (by omega)
        have hr : res = 2 := by rw [HST2.out]; rw [if_pos hb]
        subst hr
        go_wp2_with fail
        go_quiet (fail)
        go_wp2
        go_ret
        exact ⟨rfl, (by first | exact HB.out | exact HB.out.trans (drewN_below' _ _ _))⟩
       ·have HS2 := hidX (HSP.out ⟨by omega, by omega⟩)
        go_wp2_with fail
        go_quiet (fail)
        go_wp2
        go_roundw
        case rel => exact ⟨q + 1, by omega, by go_num, (show Below W3.heap.size W3 _ from by have hq9 := HBW.out; (repeat (first | exact Below.refl _ _ | assumption | refine Below.drew ?_ | refine bT ?_ _ | refine bS ?_ _ | refine bA ?_ _))), HS2.out⟩
        case measure => simp [intOf]; omega
     ·have hqn : q = ni.length := by omega
      subst hqn
      have hbd := bnd_good (P := P) (N := L.length) (n := ⟨gPhi, ni, 0, []⟩) (fun j hj => HA.out j hj (Nat.le_refl _))
      have HAB := hidX (fun j (hj : j < ni.length) => HA.out j hj (Nat.le_refl _))
      clear HBW
      rename World => W4
      have hb2 : bndB P L.length ⟨gPhi, ni, 0, []⟩ = true := by rw [hbd]; simp [gPhi, gParam]
      have HBD := hidX hb2
      clear hbd hb2
      have HO1 := hidX (show Calls Tryz.prog 47 #[.string ⟨([] : List UInt8).toArray⟩] W4 _ from rIsOne_any [] W4)
      have HO2 := hidX (fun X => rIsTwo_any [] X)
      generalize hm1 : decide ([] ∈ onesE) = o1 at HO1
      generalize hm2 : decide ([] ∈ twosE) = o2 at HO2
      have HM1 := hidX hm1
      have HM2 := hidX hm2
      clear hm1 hm2
      have hop : opB onesE twosE ⟨gPhi, ni, 0, []⟩ = true := by unfold opB; simp [gPhi, gOne, gTwo]
      have HOP := hidX hop
      clear hop
      go_wp2_with fail
      refine HO1.out.mono ?_
      rintro e W5 ⟨rfl, hh⟩
      replace hh := hh.symm
      subst hh
      go_wp2_with fail
      refine (HO2.out _).mono ?_
      rintro e W6 ⟨rfl, hbn⟩
      obtain ⟨HN1, HG1, HB⟩ := nxt3 HN1 HG1 HB hbn
      clear d0 d1 d2 d3 b1 b2 hbn
      obtain ⟨d0, d1, d2, d3, b1, b2⟩ := facts6 HN1.out HG1.out
      go_wp2_with fail
      refine (HWY.out W6).mono ?_
      rintro e W7 ⟨rfl, hbn⟩
      obtain ⟨HN1, HG1, HB⟩ := nxt3 HN1 HG1 HB hbn
      clear d0 d1 d2 d3 b1 b2 hbn
      obtain ⟨d0, d1, d2, d3, b1, b2⟩ := facts6 HN1.out HG1.out
      have HST3 := hidX (show res = if givB L ⟨gPhi, ni, 0, []⟩ = false ∨ phiB L ⟨gPhi, ni, 0, []⟩ = false then 3 else 0 from by rw [HST2.out, if_neg (by rw [HBD.out]; decide), if_neg (by rw [HOP.out]; decide)])
      go_wp2_with fail
      go_loopw [12] (fun vi wr => ∃ q : Nat, q ≤ ni.length ∧ vi = .int .i64 q ∧ Hid (Below W7.heap.size W7 wr) ∧ Hid (∀ j, j < q → givAt L ⟨gPhi, ni, 0, []⟩ j = true)) (fun vi _ => ni.length - (intOf vi).toNat)
      case atStart => exact ⟨0, Nat.zero_le _, rfl, Below.refl _ _, fun j hj => absurd hj (by omega)⟩
      case round =>
       obtain ⟨q, hq, rfl, HBW, HA⟩ := hrel
       have hbn := HBW.out
       obtain ⟨HN1, HG1, HB⟩ := nxt3 HN1 HG1 HB hbn
       clear d0 d1 d2 d3 b1 b2 hbn
       obtain ⟨d0, d1, d2, d3, b1, b2⟩ := facts6 HN1.out HG1.out
       by_cases hlt : q < ni.length
       ·have hlt' : (q : Int) < (ni.length : Int) := by omega
        obtain ⟨g1, off1, e1, hg1, hc⟩ := HRN.out.row.int hlt
        subst e1
        have hx : wr.cell? ⟨g1, off1 + q, none⟩ = some (.int .i64 ni[q]) := (HB.out.cell (p := ⟨g1, _, none⟩) hg1).trans hc
        obtain ⟨h0, h1⟩ := HAB.out q hlt
        obtain ⟨y, hy, hyk, _⟩ := HRN.out.at h0 h1
        have hyc := (HB.out.cell (p := ⟨g, _, none⟩) HRN.out.low).trans hyk
        have hgq := HGV2.out q hlt
        have HBAD := hidX (fun hx => giv_bad (L := L) (n := ⟨gPhi, ni, 0, []⟩) (q := q) hlt hx)
        have hstep := fun (hx : givAt L ⟨gPhi, ni, 0, []⟩ q = true) (j : Nat) (hj : j < q + 1) => show givAt L ⟨gPhi, ni, 0, []⟩ j = true from by
         by_cases e : j = q
         ·subst e; exact hx
         ·exact HA.out j (by omega)
        rw [hy] at hx h1
        generalize (ndAt L ni[q]).kind = kd at hyc hgq
        have HSP := hidX hstep
        have HGQ := hidX hgq
        clear hstep hgq hyk hc h0 hy
        by_cases q0 : q = 0
        ·have q0' : ((q : Int) == 0) = true := by simp; omega
         have Q0 := hidX q0
         clear q0
         have hat0 : isAt ⟨gPhi, ni, 0, []⟩ q kd = (kd == [114, 101, 103, 105, 111, 110]) := by unfold isAt; rw [if_neg (show ¬ (gPhi = gYes ∨ gPhi = gNo) by decide), if_pos ⟨rfl, Q0.out⟩]; rfl
         cases hkd : (kd == [114, 101, 103, 105, 111, 110]) with
         | false =>
          have hat : isAt ⟨gPhi, ni, 0, []⟩ q kd = false := by rw [hat0, hkd]
          clear hat0
          have hr : res = 3 := by rw [HST3.out, if_pos (Or.inl (HBAD.out (by rw [HGQ.out, hat])))]
          subst hr
          clear hat
          go_wp2_with fail
          go_quiet (fail)
          have hb10 := HB.out
          have hb9 := Below.refl wr.heap.size wr
          go_wp2
          go_ret
          exact ⟨rfl, (show Below w.heap.size w _ from by (repeat (first | exact Below.refl _ _ | assumption | refine Below.drew ?_ | refine bT ?_ _ | refine bS ?_ _ | refine bA ?_ _)))⟩
         | true =>
          have hat : isAt ⟨gPhi, ni, 0, []⟩ q kd = true := by rw [hat0, hkd]
          clear hat0
          have HNX := hidX (HSP.out (by rw [HGQ.out, hat]))
          clear hat
          go_wp2_with fail
          go_quiet (fail)
          have hb10 := HB.out
          have hb9 := Below.refl wr.heap.size wr
          go_wp2
          go_roundw
          case rel => exact ⟨q + 1, by omega, by go_num, (show Below W7.heap.size W7 _ from by have hq8 := bl_trans HBW.out HBW.out.size hb9; (repeat (first | exact Below.refl _ _ | assumption | refine Below.drew ?_ | refine bT ?_ _ | refine bS ?_ _ | refine bA ?_ _))), HNX.out⟩
          case measure => simp [intOf]; omega
        ·have q0' : ((q : Int) == 0) = false := by simp; omega
         have q1' : ¬ (q : Int) < 0 := by omega
         have Q0 := hidX q0
         clear q0
         have hat0 : isAt ⟨gPhi, ni, 0, []⟩ q kd = inL valsK kd := by unfold isAt; rw [if_neg (show ¬ (gPhi = gYes ∨ gPhi = gNo) by decide), if_neg (fun h => Q0.out h.2), show waysR ⟨gPhi, ni, 0, []⟩ = 0 from rfl, if_neg (by omega)]
         have HCC := hidX (fun X => rVal_any kd X)
         generalize inL valsK kd = bb at hat0 HCC
         cases bb with
         | false =>
          have hat : isAt ⟨gPhi, ni, 0, []⟩ q kd = false := hat0
          clear hat0
          have hr : res = 3 := by rw [HST3.out, if_pos (Or.inl (HBAD.out (by rw [HGQ.out, hat])))]
          subst hr
          clear hat
          go_wp2_with fail
          go_quiet (fail)
          go_wp2_with fail
          refine (HCC.out _).mono ?_
          rintro e X8 ⟨rfl, hb8⟩
          have hb9 : Below wr.heap.size wr X8 := bl_trans (show Below wr.heap.size wr _ by (repeat (first | exact Below.refl _ _ | assumption | refine Below.drew ?_ | refine bT ?_ _ | refine bS ?_ _ | refine bA ?_ _))) (by first | exact Nat.le_refl _ | (simp; done) | (simp; omega)) hb8
          have hb10 := bl_trans HB.out HB.out.size hb9
          go_wp2
          go_ret
          exact ⟨rfl, (show Below w.heap.size w _ from by (repeat (first | exact Below.refl _ _ | assumption | refine Below.drew ?_ | refine bT ?_ _ | refine bS ?_ _ | refine bA ?_ _)))⟩
         | true =>
          have hat : isAt ⟨gPhi, ni, 0, []⟩ q kd = true := hat0
          clear hat0
          have HNX := hidX (HSP.out (by rw [HGQ.out, hat]))
          clear hat
          go_wp2_with fail
          go_quiet (fail)
          go_wp2_with fail
          refine (HCC.out _).mono ?_
          rintro e X8 ⟨rfl, hb8⟩
          have hb9 : Below wr.heap.size wr X8 := bl_trans (show Below wr.heap.size wr _ by (repeat (first | exact Below.refl _ _ | assumption | refine Below.drew ?_ | refine bT ?_ _ | refine bS ?_ _ | refine bA ?_ _))) (by first | exact Nat.le_refl _ | (simp; done) | (simp; omega)) hb8
          have hb10 := bl_trans HB.out HB.out.size hb9
          go_wp2
          go_roundw
          case rel => exact ⟨q + 1, by omega, by go_num, (show Below W7.heap.size W7 _ from by have hq8 := bl_trans HBW.out HBW.out.size hb9; (repeat (first | exact Below.refl _ _ | assumption | refine Below.drew ?_ | refine bT ?_ _ | refine bS ?_ _ | refine bA ?_ _))), HNX.out⟩
          case measure => simp [intOf]; omega
       ·have hqn : q = ni.length := by omega
        subst hqn
        have hgt := giv_good (L := L) (n := ⟨gPhi, ni, 0, []⟩) (fun j hj => HA.out j hj)
        have hlp : 1 ≤ ni.length := by have := HCB.out; simpa [countB, gPhi, gStart, gParam, gConst, gOne, gYes, gNo, gTick, gTwo, gIf, gPrint, gReturn] using this
        have hlp' : (0 : Int) < (ni.length : Int) := by omega
        obtain ⟨g1, off1, e1, hg1, hc⟩ := first_int HRN.out.row hlp
        subst e1
        have hgd : ni.getD 0 0 = ni[0] := by rw [List.getD_eq_getElem?_getD, List.getElem?_eq_getElem (by omega)]; rfl
        obtain ⟨h0, h1⟩ := HAB.out 0 (by omega)
        obtain ⟨y, hy, _, ad2, cap2, hyk⟩ := HRN.out.at h0 h1
        have hph := phi_len (L := L) (n := ⟨gPhi, ni, 0, []⟩) rfl
        simp only at hc hph
        rw [hgd, hy] at hc
        rw [hgd] at hph
        have hx : wr.cell? ⟨g1, off1, none⟩ = some (.int .i64 (y : Int)) := (HB.out.cell (p := ⟨g1, _, none⟩) hg1).trans hc
        have hyc := (HB.out.cell (p := ⟨g, _, none⟩) HRN.out.low).trans hyk
        have h1' : (y : Int) < (L.length : Int) := by rw [← hy]; exact h1
        have hl2 : ((ndAt L ni[0]).ins.length : Int) ≤ 1000 := by
         have hyl : y < L.length := by omega
         have e : ndAt L ni[0] = L[y] := by rw [hy]; exact ndAt_get hyl
         rw [e]
         have := HLL.out _ (List.getElem_mem hyl)
         have := this.ins
         omega
        generalize (ndAt L ni[0]).ins.length = l2 at hyc hph hl2
        have HPH := hidX hph
        clear hph hc h0 h1 hy hgd hyk
        by_cases x7 : ni.length = l2 + 1
        ·have x9 : (ni.length : Int) = (l2 : Int) + 1 := by omega
         have hr : res = 0 := by rw [HST3.out, if_neg]; rw [hgt, HPH.out]; simp [x7]
         subst hr
         clear x7 hgt
         go_wp2_with fail
         go_quiet (fail)
         go_wp2
         go_ret
         exact ⟨rfl, (by first | exact HB.out | exact HB.out.trans (drewN_below' _ _ _))⟩
        ·have x9 : ¬ (ni.length : Int) = (l2 : Int) + 1 := by omega
         have x10 : ((ni.length : Int) == (l2 : Int) + 1) = false := by simpa using x9
         have hr : res = 3 := by rw [HST3.out, if_pos]; right; rw [HPH.out]; simpa using x7
         subst hr
         clear x7 hgt
         go_wp2_with fail
         go_quiet (fail)
         go_wp2
         go_ret
         exact ⟨rfl, (by first | exact HB.out | exact HB.out.trans (drewN_below' _ _ _))⟩
   ·have hnm' := nil_lit hnm
    go_enter Tryz.func21, Tryz.ntmps21
    go_wp2_with fail
    rw [← hW1]
    clear hW1 k0 k1 k2 k3
    refine (HKD.out W1).mono ?_
    rintro e W2 ⟨rfl, hbn⟩
    obtain ⟨d0, d1, d2, d3, b1, b2⟩ := facts6 HN1.out HG1.out
    obtain ⟨HN1, HG1, HB⟩ := nxt3 HN1 HG1 HB hbn
    clear d0 d1 d2 d3 b1 b2 hbn
    obtain ⟨d0, d1, d2, d3, b1, b2⟩ := facts6 HN1.out HG1.out
    go_wp2_with fail
    refine (HCR.out W2).mono ?_
    rintro e W3 ⟨rfl, hbn⟩
    obtain ⟨HN1, HG1, HB⟩ := nxt3 HN1 HG1 HB hbn
    clear d0 d1 d2 d3 b1 b2 hbn
    obtain ⟨d0, d1, d2, d3, b1, b2⟩ := facts6 HN1.out HG1.out
    have hr : res = 3 := by rw [HST.out]; simp [nameG, hnm, gPhi, gOne, gTwo, gCall]
    subst hr
    go_wp2
    go_ret
    exact ⟨rfl, (by first | exact HB.out | exact HB.out.trans (drewN_below' _ _ _))⟩
  ·have hnn' : (nn == 0) = false := by simpa using hnn
   go_enter Tryz.func21, Tryz.ntmps21
   go_wp2_with fail
   rw [← hW1]
   clear hW1 k0 k1 k2 k3
   refine (HKD.out W1).mono ?_
   rintro e W2 ⟨rfl, hbn⟩
   obtain ⟨d0, d1, d2, d3, b1, b2⟩ := facts6 HN1.out HG1.out
   obtain ⟨HN1, HG1, HB⟩ := nxt3 HN1 HG1 HB hbn
   clear d0 d1 d2 d3 b1 b2 hbn
   obtain ⟨d0, d1, d2, d3, b1, b2⟩ := facts6 HN1.out HG1.out
   go_wp2_with fail
   refine (HCR.out W2).mono ?_
   rintro e W3 ⟨rfl, hbn⟩
   obtain ⟨HN1, HG1, HB⟩ := nxt3 HN1 HG1 HB hbn
   clear d0 d1 d2 d3 b1 b2 hbn
   obtain ⟨d0, d1, d2, d3, b1, b2⟩ := facts6 HN1.out HG1.out
   have hr : res = 3 := by rw [HST.out]; simp [numB, hnn, gPhi, gParam, gConst]
   subst hr
   go_wp2
   go_ret
   exact ⟨rfl, (by first | exact HB.out | exact HB.out.trans (drewN_below' _ _ _))⟩
end Go.Proofs.YtlgejjmdanmglaaGreatDoor
