/-
  Our own: the document's model of graphs: is a node well? Kind by kind.
-/
import Derived.Test.YtohjiggcbfjahacGreatDoorRefs
namespace Go.Proofs.YtohjiggcbfjahacGreatDoor
open Go.RowKit

set_option maxRecDepth 100000 in
set_option maxHeartbeats 1000000 in
theorem rNode_start {w : World} {g off cap : Nat} {ad1 : Option Addr} {cap1 : Nat} {P : Int} {L : List Nd} {i : Nat} (nm0 : List UInt8) (ni : List Int) (nn : Int) (nm : List UInt8) (h : Rn w g off cap ad1 cap1 P L i ⟨gStart, ni, nn, nm⟩) :
    Calls Tryz.prog 34 #[.agg #[.string ⟨nm0.toArray⟩, .int .i64 P, .slice (some ⟨g, off, none⟩) L.length cap], .int .i64 i] w fun e w' => e = .returned (.int .i64 ((nodeC onesE twosE P L i : Nat) : Int)) ∧ Below w.heap.size w w' := by
  have hst := node_step (P := P) h.at0 (show (shp gStart).kind ≠ [] by decide)
  have hl := h.lown.ins
  simp only at hl
  have hl' : (ni.length : Int) ≤ 1000 := by omega
  have hfew : (L.length : Int) ≤ 1000 := by have := h.few; omega
  have hi' : (i : Int) < (L.length : Int) := by have := h.hi; omega
  have k0 : w.cell? ⟨g, off + i * 4, none⟩ = some (.string ⟨#[115, 116, 97, 114, 116]⟩) := h.k0
  have k1 : w.cell? ⟨g, off + i * 4 + 1, none⟩ = some (.slice ad1 ni.length cap1) := h.k1
  have k2 : w.cell? ⟨g, off + i * 4 + 2, none⟩ = some (.int .i64 nn) := h.k2
  have k3 : w.cell? ⟨g, off + i * 4 + 3, none⟩ = some (.string ⟨nm.toArray⟩) := h.k3
  have hgl : g < w.heap.size := h.low
  obtain ⟨W1, hW1⟩ : ∃ W1, W1 = (w.alloc (.cells #[.string ⟨nm0.toArray⟩, .int .i64 P, .slice (some ⟨g, off, none⟩) L.length cap] 48)).alloc (.cells #[.string ⟨#[115, 116, 97, 114, 116]⟩, .slice ad1 ni.length cap1, .int .i64 nn, .string ⟨nm.toArray⟩] 93) := ⟨_, rfl⟩
  have hb1 : Below w.heap.size w W1 := by rw [hW1]; (repeat (first | exact Below.refl _ _ | assumption | refine Below.drew ?_ | refine Below.trans ?_ (drewN_below' _ _ _) | refine Below.setCell ?_ (by first | (simp; done) | (simp; omega)) _ | refine Below.alloc ?_ (by first | (simp; done) | (simp; omega)) _))
  have HG1 := hidX (show W1.heap[w.heap.size]? = some (.cells #[.string ⟨nm0.toArray⟩, .int .i64 P, .slice (some ⟨g, off, none⟩) L.length cap] 48 (0, 0)) from by rw [hW1]; exact twoG w _ _)
  have HN1 := hidX (show W1.heap[w.heap.size + 1]? = some (.cells #[.string ⟨#[115, 116, 97, 114, 116]⟩, .slice ad1 ni.length cap1, .int .i64 nn, .string ⟨nm.toArray⟩] 93 (0, 0)) from by rw [hW1]; exact heap_alloc2_new w _ _)
  have HKD := hidX (show ∀ X, Calls Tryz.prog 65 #[.string ⟨#[115, 116, 97, 114, 116]⟩] X fun e w' => e = .returned (.bool true) ∧ Below X.heap.size X w' from fun X => rKind_any [115, 116, 97, 114, 116] X)
  have HCR := hidX (show ∀ X, Calls Tryz.prog 66 #[.agg #[.string ⟨#[115, 116, 97, 114, 116]⟩, .slice ad1 ni.length cap1, .int .i64 nn, .string ⟨nm.toArray⟩]] X fun e w' => e = .returned (.bool (countB gStart ni.length)) ∧ Below X.heap.size X w' from fun X => rCount_any ⟨gStart, ni, nn, nm⟩ (by simp only; omega) ad1 cap1 X)
  have HWY := hidX (show ∀ X, Calls Tryz.prog 69 #[.agg #[.string ⟨#[115, 116, 97, 114, 116]⟩, .slice ad1 ni.length cap1, .int .i64 nn, .string ⟨nm.toArray⟩]] X fun e w' => e = .returned (.int .i64 (0)) ∧ Below X.heap.size X w' from fun X => rWays_any ⟨gStart, ni, nn, nm⟩ (by simp only; omega) ad1 cap1 X)
  have hgv := fun (hf : (countB gStart ni.length && numB ⟨gStart, ni, nn, nm⟩ && nameG ⟨gStart, ni, nn, nm⟩) = true) (j : Nat) (hj : j < ni.length) => giv_is (L := L) (n := ⟨gStart, ni, nn, nm⟩) (k := j) (by rw [fits_is (show (shp gStart).kind ≠ [] by decide)]; exact hf) hj (show (shp gStart).kind ≠ [] by decide)
  generalize hres : nodeC onesE twosE P L i = res at hst
  have HRN := hidX h
  have HLL := hidX h.lows
  have HST := hidX hst
  have HGV := hidX hgv
  clear h hst hgv hres
  generalize hcb : countB gStart ni.length = cb at *
  have HCB := hidX hcb
  clear hcb
  have HB := hidX hb1
  clear hb1
  cases cb with
  | false =>
    go_enter Tryz.func34, Tryz.ntmps34
    go_wp2_with fail
    rw [← hW1]
    clear hW1 k0 k1 k2 k3
    refine (HKD.out W1).mono ?_
    rintro e W2 ⟨rfl, hbn⟩
    have d0 := cell_of_blk HN1.out 0
    have d1 := cell_of_blk HN1.out 1
    have d2 := cell_of_blk HN1.out 2
    have d3 := cell_of_blk HN1.out 3
    have b1 := cell_of_blk HG1.out 1
    have b2 := cell_of_blk HG1.out 2
    simp only [List.getElem?_toArray, List.getElem?_cons_zero, List.getElem?_cons_succ] at d0 d1 d2 d3 b1 b2
    have HN1 := hidX ((hbn.block _ (heap_lt HN1.out)).trans HN1.out)
    have HG1 := hidX ((hbn.block _ (heap_lt HG1.out)).trans HG1.out)
    have HB := hidX (bl_trans HB.out HB.out.size hbn)
    clear d0 d1 d2 d3 b1 b2 hbn
    have d0 := cell_of_blk HN1.out 0
    have d1 := cell_of_blk HN1.out 1
    have d2 := cell_of_blk HN1.out 2
    have d3 := cell_of_blk HN1.out 3
    have b1 := cell_of_blk HG1.out 1
    have b2 := cell_of_blk HG1.out 2
    simp only [List.getElem?_toArray, List.getElem?_cons_zero, List.getElem?_cons_succ] at d0 d1 d2 d3 b1 b2
    go_wp2_with fail
    refine (HCR.out W2).mono ?_
    rintro e W3 ⟨rfl, hbn⟩
    have HN1 := hidX ((hbn.block _ (heap_lt HN1.out)).trans HN1.out)
    have HG1 := hidX ((hbn.block _ (heap_lt HG1.out)).trans HG1.out)
    have HB := hidX (bl_trans HB.out HB.out.size hbn)
    clear d0 d1 d2 d3 b1 b2 hbn
    have d0 := cell_of_blk HN1.out 0
    have d1 := cell_of_blk HN1.out 1
    have d2 := cell_of_blk HN1.out 2
    have d3 := cell_of_blk HN1.out 3
    have b1 := cell_of_blk HG1.out 1
    have b2 := cell_of_blk HG1.out 2
    simp only [List.getElem?_toArray, List.getElem?_cons_zero, List.getElem?_cons_succ] at d0 d1 d2 d3 b1 b2
    by_cases hz : (0 : Int) < (i : Int)
    · skip
      have hr : res = 3 := by rw [HST.out]; simp
      subst hr
      go_wp2
      go_ret
      exact ⟨rfl, (show Below w.heap.size w _ from by have hq := HB.out; (repeat (first | exact Below.refl _ _ | assumption | refine Below.drew ?_ | refine Below.trans ?_ (drewN_below' _ _ _) | refine Below.setCell ?_ (by first | (simp; done) | (simp; omega)) _ | refine Below.alloc ?_ (by first | (simp; done) | (simp; omega)) _)))⟩
    · skip
      have hr : res = 3 := by rw [HST.out]; simp
      subst hr
      go_wp2
      go_ret
      exact ⟨rfl, (show Below w.heap.size w _ from by have hq := HB.out; (repeat (first | exact Below.refl _ _ | assumption | refine Below.drew ?_ | refine Below.trans ?_ (drewN_below' _ _ _) | refine Below.setCell ?_ (by first | (simp; done) | (simp; omega)) _ | refine Below.alloc ?_ (by first | (simp; done) | (simp; omega)) _)))⟩
  | true =>
    by_cases hz : 0 < i
    · have hz' : (0 : Int) < (i : Int) := by omega
      go_enter Tryz.func34, Tryz.ntmps34
      go_wp2_with fail
      rw [← hW1]
      clear hW1 k0 k1 k2 k3
      refine (HKD.out W1).mono ?_
      rintro e W2 ⟨rfl, hbn⟩
      have d0 := cell_of_blk HN1.out 0
      have d1 := cell_of_blk HN1.out 1
      have d2 := cell_of_blk HN1.out 2
      have d3 := cell_of_blk HN1.out 3
      have b1 := cell_of_blk HG1.out 1
      have b2 := cell_of_blk HG1.out 2
      simp only [List.getElem?_toArray, List.getElem?_cons_zero, List.getElem?_cons_succ] at d0 d1 d2 d3 b1 b2
      have HN1 := hidX ((hbn.block _ (heap_lt HN1.out)).trans HN1.out)
      have HG1 := hidX ((hbn.block _ (heap_lt HG1.out)).trans HG1.out)
      have HB := hidX (bl_trans HB.out HB.out.size hbn)
      clear d0 d1 d2 d3 b1 b2 hbn
      have d0 := cell_of_blk HN1.out 0
      have d1 := cell_of_blk HN1.out 1
      have d2 := cell_of_blk HN1.out 2
      have d3 := cell_of_blk HN1.out 3
      have b1 := cell_of_blk HG1.out 1
      have b2 := cell_of_blk HG1.out 2
      simp only [List.getElem?_toArray, List.getElem?_cons_zero, List.getElem?_cons_succ] at d0 d1 d2 d3 b1 b2
      go_wp2_with fail
      refine (HCR.out W2).mono ?_
      rintro e W3 ⟨rfl, hbn⟩
      have HN1 := hidX ((hbn.block _ (heap_lt HN1.out)).trans HN1.out)
      have HG1 := hidX ((hbn.block _ (heap_lt HG1.out)).trans HG1.out)
      have HB := hidX (bl_trans HB.out HB.out.size hbn)
      clear d0 d1 d2 d3 b1 b2 hbn
      have d0 := cell_of_blk HN1.out 0
      have d1 := cell_of_blk HN1.out 1
      have d2 := cell_of_blk HN1.out 2
      have d3 := cell_of_blk HN1.out 3
      have b1 := cell_of_blk HG1.out 1
      have b2 := cell_of_blk HG1.out 2
      simp only [List.getElem?_toArray, List.getElem?_cons_zero, List.getElem?_cons_succ] at d0 d1 d2 d3 b1 b2
      have hr : res = 3 := by rw [HST.out]; simp [hz]
      subst hr
      go_wp2
      go_ret
      exact ⟨rfl, (show Below w.heap.size w _ from by have hq := HB.out; (repeat (first | exact Below.refl _ _ | assumption | refine Below.drew ?_ | refine Below.trans ?_ (drewN_below' _ _ _) | refine Below.setCell ?_ (by first | (simp; done) | (simp; omega)) _ | refine Below.alloc ?_ (by first | (simp; done) | (simp; omega)) _)))⟩
    · have hz' : ¬ (0 : Int) < (i : Int) := by omega
      by_cases hnn : nn = 0
      · subst hnn
        by_cases hnm : nm = []
        · subst hnm
          have hft : (true && numB ⟨gStart, ni, 0, []⟩ && nameG ⟨gStart, ni, 0, []⟩) = true := by simp [numB, nameG]
          have hst2 : res = if bndB P L.length ⟨gStart, ni, 0, []⟩ = false then 2 else if opB onesE twosE ⟨gStart, ni, 0, []⟩ = false then 4 else if givB L ⟨gStart, ni, 0, []⟩ = false ∨ phiB L ⟨gStart, ni, 0, []⟩ = false then 3 else 0 := by
            rw [HST.out, if_neg]
            rw [hft]
            simp [hz]
          have hgv2 := HGV.out hft
          have HST2 := hidX hst2
          have HGV2 := hidX hgv2
          clear hst2 hgv2 hft
          go_enter Tryz.func34, Tryz.ntmps34
          go_wp2_with fail
          rw [← hW1]
          clear hW1 k0 k1 k2 k3
          refine (HKD.out W1).mono ?_
          rintro e W2 ⟨rfl, hbn⟩
          have d0 := cell_of_blk HN1.out 0
          have d1 := cell_of_blk HN1.out 1
          have d2 := cell_of_blk HN1.out 2
          have d3 := cell_of_blk HN1.out 3
          have b1 := cell_of_blk HG1.out 1
          have b2 := cell_of_blk HG1.out 2
          simp only [List.getElem?_toArray, List.getElem?_cons_zero, List.getElem?_cons_succ] at d0 d1 d2 d3 b1 b2
          have HN1 := hidX ((hbn.block _ (heap_lt HN1.out)).trans HN1.out)
          have HG1 := hidX ((hbn.block _ (heap_lt HG1.out)).trans HG1.out)
          have HB := hidX (bl_trans HB.out HB.out.size hbn)
          clear d0 d1 d2 d3 b1 b2 hbn
          have d0 := cell_of_blk HN1.out 0
          have d1 := cell_of_blk HN1.out 1
          have d2 := cell_of_blk HN1.out 2
          have d3 := cell_of_blk HN1.out 3
          have b1 := cell_of_blk HG1.out 1
          have b2 := cell_of_blk HG1.out 2
          simp only [List.getElem?_toArray, List.getElem?_cons_zero, List.getElem?_cons_succ] at d0 d1 d2 d3 b1 b2
          go_wp2_with fail
          refine (HCR.out W2).mono ?_
          rintro e W3 ⟨rfl, hbn⟩
          have HN1 := hidX ((hbn.block _ (heap_lt HN1.out)).trans HN1.out)
          have HG1 := hidX ((hbn.block _ (heap_lt HG1.out)).trans HG1.out)
          have HB := hidX (bl_trans HB.out HB.out.size hbn)
          clear d0 d1 d2 d3 b1 b2 hbn
          have d0 := cell_of_blk HN1.out 0
          have d1 := cell_of_blk HN1.out 1
          have d2 := cell_of_blk HN1.out 2
          have d3 := cell_of_blk HN1.out 3
          have b1 := cell_of_blk HG1.out 1
          have b2 := cell_of_blk HG1.out 2
          simp only [List.getElem?_toArray, List.getElem?_cons_zero, List.getElem?_cons_succ] at d0 d1 d2 d3 b1 b2
          go_wp2_with fail
          go_loopw [8] (fun vi wr => ∃ q : Nat, q ≤ ni.length ∧ vi = .int .i64 q ∧ Hid (Below W3.heap.size W3 wr) ∧ Hid (∀ j (hj : j < q) (hq : q ≤ ni.length), 0 ≤ ni[j]'(by omega) ∧ ni[j]'(by omega) < (L.length : Int))) (fun vi _ => ni.length - (intOf vi).toNat)
          case atStart => exact ⟨0, Nat.zero_le _, rfl, Below.refl _ _, fun j hj => absurd hj (by omega)⟩
          case round =>
            obtain ⟨q, hq, rfl, HBW, HA⟩ := hrel
            have hbn := HBW.out
            have HN1 := hidX ((hbn.block _ (heap_lt HN1.out)).trans HN1.out)
            have HG1 := hidX ((hbn.block _ (heap_lt HG1.out)).trans HG1.out)
            have HB := hidX (bl_trans HB.out HB.out.size hbn)
            clear d0 d1 d2 d3 b1 b2 hbn
            have d0 := cell_of_blk HN1.out 0
            have d1 := cell_of_blk HN1.out 1
            have d2 := cell_of_blk HN1.out 2
            have d3 := cell_of_blk HN1.out 3
            have b1 := cell_of_blk HG1.out 1
            have b2 := cell_of_blk HG1.out 2
            simp only [List.getElem?_toArray, List.getElem?_cons_zero, List.getElem?_cons_succ] at d0 d1 d2 d3 b1 b2
            by_cases hlt : q < ni.length
            · have hlt' : (q : Int) < (ni.length : Int) := by omega
              obtain ⟨g1, off1, e1, hg1, hc⟩ := HRN.out.row.int hlt
              subst e1
              have hx : wr.cell? ⟨g1, off1 + q, none⟩ = some (.int .i64 ni[q]) := (HB.out.cell (p := ⟨g1, _, none⟩) hg1).trans hc
              have HBD := hidX (fun hx => bnd_bad (P := P) (N := L.length) (n := ⟨gStart, ni, 0, []⟩) (q := q) hlt hx)
              have hstep := fun (hx : 0 ≤ ni[q] ∧ ni[q] < (L.length : Int)) (j : Nat) (hj : j < q + 1) (hq2 : q + 1 ≤ ni.length) => show 0 ≤ ni[j]'(by omega) ∧ ni[j]'(by omega) < (L.length : Int) from by
                by_cases e : j = q
                · subst e; exact hx
                · exact HA.out j (by omega) (by omega)
              clear hc
              simp only at HBD
              generalize ni[q] = x at hx HBD hstep
              have HSP := hidX hstep
              clear hstep
              by_cases x0 : x < 0
              · have hb := HBD.out (by omega)
                have hr : res = 2 := by rw [HST2.out]; rw [if_pos hb]
                subst hr
                go_wp2_with fail
                go_quiet (fail)
                go_wp2
                go_ret
                exact ⟨rfl, (show Below w.heap.size w _ from by have hq9 := HB.out; (repeat (first | exact Below.refl _ _ | assumption | refine Below.drew ?_ | refine Below.trans ?_ (drewN_below' _ _ _) | refine Below.setCell ?_ (by first | (simp; done) | (simp; omega)) _ | refine Below.alloc ?_ (by first | (simp; done) | (simp; omega)) _)))⟩
              · by_cases x1 : (L.length : Int) ≤ x
                · have hb := HBD.out (by omega)
                  have hr : res = 2 := by rw [HST2.out]; rw [if_pos hb]
                  subst hr
                  go_wp2_with fail
                  go_quiet (fail)
                  go_wp2
                  go_ret
                  exact ⟨rfl, (show Below w.heap.size w _ from by have hq9 := HB.out; (repeat (first | exact Below.refl _ _ | assumption | refine Below.drew ?_ | refine Below.trans ?_ (drewN_below' _ _ _) | refine Below.setCell ?_ (by first | (simp; done) | (simp; omega)) _ | refine Below.alloc ?_ (by first | (simp; done) | (simp; omega)) _)))⟩
                · have HS2 := hidX (HSP.out ⟨by omega, by omega⟩)
                  go_wp2_with fail
                  go_quiet (fail)
                  go_wp2
                  go_roundw
                  case rel => exact ⟨q + 1, by omega, by go_num, (show Below W3.heap.size W3 _ from by have hq9 := HBW.out; (repeat (first | exact Below.refl _ _ | assumption | refine Below.drew ?_ | refine Below.trans ?_ (drewN_below' _ _ _) | refine Below.setCell ?_ (by first | (simp; done) | (simp; omega)) _ | refine Below.alloc ?_ (by first | (simp; done) | (simp; omega)) _))), HS2.out⟩
                  case measure => simp [intOf]; omega
            · have hqn : q = ni.length := by omega
              subst hqn
              have hbd := bnd_good (P := P) (N := L.length) (n := ⟨gStart, ni, 0, []⟩) (fun j hj => HA.out j hj (Nat.le_refl _))
              have HAB := hidX (fun j (hj : j < ni.length) => HA.out j hj (Nat.le_refl _))
              clear HBW
              rename World => W4
              have hb2 : bndB P L.length ⟨gStart, ni, 0, []⟩ = true := by rw [hbd]; simp [gStart, gParam]
              have HBD := hidX hb2
              clear hbd hb2
              have HO1 := hidX (show Calls Tryz.prog 67 #[.string ⟨([] : List UInt8).toArray⟩] W4 _ from rIsOne_any [] W4)
              have HO2 := hidX (fun X => rIsTwo_any [] X)
              generalize hm1 : decide ([] ∈ onesE) = o1 at HO1
              generalize hm2 : decide ([] ∈ twosE) = o2 at HO2
              have HM1 := hidX hm1
              have HM2 := hidX hm2
              clear hm1 hm2
              have hop : opB onesE twosE ⟨gStart, ni, 0, []⟩ = true := by unfold opB; simp [gStart, gOne, gTwo]
              have HOP := hidX hop
              clear hop
              go_wp2_with fail
              refine HO1.out.mono ?_
              rintro e W5 ⟨rfl, hh⟩
              replace hh := hh.symm
              subst hh
              go_wp2_with fail
              refine (HO2.out _).mono ?_
              rintro e W6 ⟨rfl, hbn⟩
              have HN1 := hidX ((hbn.block _ (heap_lt HN1.out)).trans HN1.out)
              have HG1 := hidX ((hbn.block _ (heap_lt HG1.out)).trans HG1.out)
              have HB := hidX (bl_trans HB.out HB.out.size hbn)
              clear d0 d1 d2 d3 b1 b2 hbn
              have d0 := cell_of_blk HN1.out 0
              have d1 := cell_of_blk HN1.out 1
              have d2 := cell_of_blk HN1.out 2
              have d3 := cell_of_blk HN1.out 3
              have b1 := cell_of_blk HG1.out 1
              have b2 := cell_of_blk HG1.out 2
              simp only [List.getElem?_toArray, List.getElem?_cons_zero, List.getElem?_cons_succ] at d0 d1 d2 d3 b1 b2
              go_wp2_with fail
              refine (HWY.out W6).mono ?_
              rintro e W7 ⟨rfl, hbn⟩
              have HN1 := hidX ((hbn.block _ (heap_lt HN1.out)).trans HN1.out)
              have HG1 := hidX ((hbn.block _ (heap_lt HG1.out)).trans HG1.out)
              have HB := hidX (bl_trans HB.out HB.out.size hbn)
              clear d0 d1 d2 d3 b1 b2 hbn
              have d0 := cell_of_blk HN1.out 0
              have d1 := cell_of_blk HN1.out 1
              have d2 := cell_of_blk HN1.out 2
              have d3 := cell_of_blk HN1.out 3
              have b1 := cell_of_blk HG1.out 1
              have b2 := cell_of_blk HG1.out 2
              simp only [List.getElem?_toArray, List.getElem?_cons_zero, List.getElem?_cons_succ] at d0 d1 d2 d3 b1 b2
              have HST3 := hidX (show res = if givB L ⟨gStart, ni, 0, []⟩ = false ∨ phiB L ⟨gStart, ni, 0, []⟩ = false then 3 else 0 from by rw [HST2.out, if_neg (by rw [HBD.out]; decide), if_neg (by rw [HOP.out]; decide)])
              go_wp2_with fail
              go_loopw [12] (fun vi wr => ∃ q : Nat, q ≤ ni.length ∧ vi = .int .i64 q ∧ Hid (Below W7.heap.size W7 wr) ∧ Hid (∀ j, j < q → givAt L ⟨gStart, ni, 0, []⟩ j = true)) (fun vi _ => ni.length - (intOf vi).toNat)
              case atStart => exact ⟨0, Nat.zero_le _, rfl, Below.refl _ _, fun j hj => absurd hj (by omega)⟩
              case round =>
                obtain ⟨q, hq, rfl, HBW, HA⟩ := hrel
                have hbn := HBW.out
                have HN1 := hidX ((hbn.block _ (heap_lt HN1.out)).trans HN1.out)
                have HG1 := hidX ((hbn.block _ (heap_lt HG1.out)).trans HG1.out)
                have HB := hidX (bl_trans HB.out HB.out.size hbn)
                clear d0 d1 d2 d3 b1 b2 hbn
                have d0 := cell_of_blk HN1.out 0
                have d1 := cell_of_blk HN1.out 1
                have d2 := cell_of_blk HN1.out 2
                have d3 := cell_of_blk HN1.out 3
                have b1 := cell_of_blk HG1.out 1
                have b2 := cell_of_blk HG1.out 2
                simp only [List.getElem?_toArray, List.getElem?_cons_zero, List.getElem?_cons_succ] at d0 d1 d2 d3 b1 b2
                have hln : ni.length = 0 := by have := HCB.out; simpa [countB] using this
                have hq0 : q = 0 := by omega
                subst hq0
                have hln' : (ni.length : Int) = 0 := by omega
                have hgt := giv_good (L := L) (n := ⟨gStart, ni, 0, []⟩) (fun j hj => absurd hj (by simp only; omega))
                have hph := phi_no (L := L) (n := ⟨gStart, ni, 0, []⟩) (show gStart ≠ gPhi by decide)
                have hr : res = 0 := by rw [HST3.out, if_neg]; rw [hgt, hph]; simp
                subst hr
                clear hgt hph
                go_wp2_with fail
                go_quiet (fail)
                go_wp2
                go_ret
                exact ⟨rfl, (show Below w.heap.size w _ from by have hq9 := HB.out; (repeat (first | exact Below.refl _ _ | assumption | refine Below.drew ?_ | refine Below.trans ?_ (drewN_below' _ _ _) | refine Below.setCell ?_ (by first | (simp; done) | (simp; omega)) _ | refine Below.alloc ?_ (by first | (simp; done) | (simp; omega)) _)))⟩
        · have hnm' := nil_lit hnm
          go_enter Tryz.func34, Tryz.ntmps34
          go_wp2_with fail
          rw [← hW1]
          clear hW1 k0 k1 k2 k3
          refine (HKD.out W1).mono ?_
          rintro e W2 ⟨rfl, hbn⟩
          have d0 := cell_of_blk HN1.out 0
          have d1 := cell_of_blk HN1.out 1
          have d2 := cell_of_blk HN1.out 2
          have d3 := cell_of_blk HN1.out 3
          have b1 := cell_of_blk HG1.out 1
          have b2 := cell_of_blk HG1.out 2
          simp only [List.getElem?_toArray, List.getElem?_cons_zero, List.getElem?_cons_succ] at d0 d1 d2 d3 b1 b2
          have HN1 := hidX ((hbn.block _ (heap_lt HN1.out)).trans HN1.out)
          have HG1 := hidX ((hbn.block _ (heap_lt HG1.out)).trans HG1.out)
          have HB := hidX (bl_trans HB.out HB.out.size hbn)
          clear d0 d1 d2 d3 b1 b2 hbn
          have d0 := cell_of_blk HN1.out 0
          have d1 := cell_of_blk HN1.out 1
          have d2 := cell_of_blk HN1.out 2
          have d3 := cell_of_blk HN1.out 3
          have b1 := cell_of_blk HG1.out 1
          have b2 := cell_of_blk HG1.out 2
          simp only [List.getElem?_toArray, List.getElem?_cons_zero, List.getElem?_cons_succ] at d0 d1 d2 d3 b1 b2
          go_wp2_with fail
          refine (HCR.out W2).mono ?_
          rintro e W3 ⟨rfl, hbn⟩
          have HN1 := hidX ((hbn.block _ (heap_lt HN1.out)).trans HN1.out)
          have HG1 := hidX ((hbn.block _ (heap_lt HG1.out)).trans HG1.out)
          have HB := hidX (bl_trans HB.out HB.out.size hbn)
          clear d0 d1 d2 d3 b1 b2 hbn
          have d0 := cell_of_blk HN1.out 0
          have d1 := cell_of_blk HN1.out 1
          have d2 := cell_of_blk HN1.out 2
          have d3 := cell_of_blk HN1.out 3
          have b1 := cell_of_blk HG1.out 1
          have b2 := cell_of_blk HG1.out 2
          simp only [List.getElem?_toArray, List.getElem?_cons_zero, List.getElem?_cons_succ] at d0 d1 d2 d3 b1 b2
          have hr : res = 3 := by rw [HST.out]; simp [nameG, hnm, gStart, gOne, gTwo, gCall]
          subst hr
          go_wp2
          go_ret
          exact ⟨rfl, (show Below w.heap.size w _ from by have hq := HB.out; (repeat (first | exact Below.refl _ _ | assumption | refine Below.drew ?_ | refine Below.trans ?_ (drewN_below' _ _ _) | refine Below.setCell ?_ (by first | (simp; done) | (simp; omega)) _ | refine Below.alloc ?_ (by first | (simp; done) | (simp; omega)) _)))⟩
      · have hnn' : (nn == 0) = false := by simpa using hnn
        go_enter Tryz.func34, Tryz.ntmps34
        go_wp2_with fail
        rw [← hW1]
        clear hW1 k0 k1 k2 k3
        refine (HKD.out W1).mono ?_
        rintro e W2 ⟨rfl, hbn⟩
        have d0 := cell_of_blk HN1.out 0
        have d1 := cell_of_blk HN1.out 1
        have d2 := cell_of_blk HN1.out 2
        have d3 := cell_of_blk HN1.out 3
        have b1 := cell_of_blk HG1.out 1
        have b2 := cell_of_blk HG1.out 2
        simp only [List.getElem?_toArray, List.getElem?_cons_zero, List.getElem?_cons_succ] at d0 d1 d2 d3 b1 b2
        have HN1 := hidX ((hbn.block _ (heap_lt HN1.out)).trans HN1.out)
        have HG1 := hidX ((hbn.block _ (heap_lt HG1.out)).trans HG1.out)
        have HB := hidX (bl_trans HB.out HB.out.size hbn)
        clear d0 d1 d2 d3 b1 b2 hbn
        have d0 := cell_of_blk HN1.out 0
        have d1 := cell_of_blk HN1.out 1
        have d2 := cell_of_blk HN1.out 2
        have d3 := cell_of_blk HN1.out 3
        have b1 := cell_of_blk HG1.out 1
        have b2 := cell_of_blk HG1.out 2
        simp only [List.getElem?_toArray, List.getElem?_cons_zero, List.getElem?_cons_succ] at d0 d1 d2 d3 b1 b2
        go_wp2_with fail
        refine (HCR.out W2).mono ?_
        rintro e W3 ⟨rfl, hbn⟩
        have HN1 := hidX ((hbn.block _ (heap_lt HN1.out)).trans HN1.out)
        have HG1 := hidX ((hbn.block _ (heap_lt HG1.out)).trans HG1.out)
        have HB := hidX (bl_trans HB.out HB.out.size hbn)
        clear d0 d1 d2 d3 b1 b2 hbn
        have d0 := cell_of_blk HN1.out 0
        have d1 := cell_of_blk HN1.out 1
        have d2 := cell_of_blk HN1.out 2
        have d3 := cell_of_blk HN1.out 3
        have b1 := cell_of_blk HG1.out 1
        have b2 := cell_of_blk HG1.out 2
        simp only [List.getElem?_toArray, List.getElem?_cons_zero, List.getElem?_cons_succ] at d0 d1 d2 d3 b1 b2
        have hr : res = 3 := by rw [HST.out]; simp [numB, hnn, gStart, gParam, gConst]
        subst hr
        go_wp2
        go_ret
        exact ⟨rfl, (show Below w.heap.size w _ from by have hq := HB.out; (repeat (first | exact Below.refl _ _ | assumption | refine Below.drew ?_ | refine Below.trans ?_ (drewN_below' _ _ _) | refine Below.setCell ?_ (by first | (simp; done) | (simp; omega)) _ | refine Below.alloc ?_ (by first | (simp; done) | (simp; omega)) _)))⟩
set_option maxRecDepth 100000 in
set_option maxHeartbeats 1000000 in
theorem rNode_param {w : World} {g off cap : Nat} {ad1 : Option Addr} {cap1 : Nat} {P : Int} {L : List Nd} {i : Nat} (nm0 : List UInt8) (ni : List Int) (nn : Int) (nm : List UInt8) (h : Rn w g off cap ad1 cap1 P L i ⟨gParam, ni, nn, nm⟩) :
    Calls Tryz.prog 34 #[.agg #[.string ⟨nm0.toArray⟩, .int .i64 P, .slice (some ⟨g, off, none⟩) L.length cap], .int .i64 i] w fun e w' => e = .returned (.int .i64 ((nodeC onesE twosE P L i : Nat) : Int)) ∧ Below w.heap.size w w' := by
  have hst := node_step (P := P) h.at0 (show (shp gParam).kind ≠ [] by decide)
  have hl := h.lown.ins
  simp only at hl
  have hl' : (ni.length : Int) ≤ 1000 := by omega
  have hfew : (L.length : Int) ≤ 1000 := by have := h.few; omega
  have hi' : (i : Int) < (L.length : Int) := by have := h.hi; omega
  have k0 : w.cell? ⟨g, off + i * 4, none⟩ = some (.string ⟨#[112, 97, 114, 97, 109]⟩) := h.k0
  have k1 : w.cell? ⟨g, off + i * 4 + 1, none⟩ = some (.slice ad1 ni.length cap1) := h.k1
  have k2 : w.cell? ⟨g, off + i * 4 + 2, none⟩ = some (.int .i64 nn) := h.k2
  have k3 : w.cell? ⟨g, off + i * 4 + 3, none⟩ = some (.string ⟨nm.toArray⟩) := h.k3
  have hgl : g < w.heap.size := h.low
  obtain ⟨W1, hW1⟩ : ∃ W1, W1 = (w.alloc (.cells #[.string ⟨nm0.toArray⟩, .int .i64 P, .slice (some ⟨g, off, none⟩) L.length cap] 48)).alloc (.cells #[.string ⟨#[112, 97, 114, 97, 109]⟩, .slice ad1 ni.length cap1, .int .i64 nn, .string ⟨nm.toArray⟩] 93) := ⟨_, rfl⟩
  have hb1 : Below w.heap.size w W1 := by rw [hW1]; (repeat (first | exact Below.refl _ _ | assumption | refine Below.drew ?_ | refine Below.trans ?_ (drewN_below' _ _ _) | refine Below.setCell ?_ (by first | (simp; done) | (simp; omega)) _ | refine Below.alloc ?_ (by first | (simp; done) | (simp; omega)) _))
  have HG1 := hidX (show W1.heap[w.heap.size]? = some (.cells #[.string ⟨nm0.toArray⟩, .int .i64 P, .slice (some ⟨g, off, none⟩) L.length cap] 48 (0, 0)) from by rw [hW1]; exact twoG w _ _)
  have HN1 := hidX (show W1.heap[w.heap.size + 1]? = some (.cells #[.string ⟨#[112, 97, 114, 97, 109]⟩, .slice ad1 ni.length cap1, .int .i64 nn, .string ⟨nm.toArray⟩] 93 (0, 0)) from by rw [hW1]; exact heap_alloc2_new w _ _)
  have HKD := hidX (show ∀ X, Calls Tryz.prog 65 #[.string ⟨#[112, 97, 114, 97, 109]⟩] X fun e w' => e = .returned (.bool true) ∧ Below X.heap.size X w' from fun X => rKind_any [112, 97, 114, 97, 109] X)
  have HCR := hidX (show ∀ X, Calls Tryz.prog 66 #[.agg #[.string ⟨#[112, 97, 114, 97, 109]⟩, .slice ad1 ni.length cap1, .int .i64 nn, .string ⟨nm.toArray⟩]] X fun e w' => e = .returned (.bool (countB gParam ni.length)) ∧ Below X.heap.size X w' from fun X => rCount_any ⟨gParam, ni, nn, nm⟩ (by simp only; omega) ad1 cap1 X)
  have HWY := hidX (show ∀ X, Calls Tryz.prog 69 #[.agg #[.string ⟨#[112, 97, 114, 97, 109]⟩, .slice ad1 ni.length cap1, .int .i64 nn, .string ⟨nm.toArray⟩]] X fun e w' => e = .returned (.int .i64 (0)) ∧ Below X.heap.size X w' from fun X => rWays_any ⟨gParam, ni, nn, nm⟩ (by simp only; omega) ad1 cap1 X)
  have hgv := fun (hf : (countB gParam ni.length && numB ⟨gParam, ni, nn, nm⟩ && nameG ⟨gParam, ni, nn, nm⟩) = true) (j : Nat) (hj : j < ni.length) => giv_is (L := L) (n := ⟨gParam, ni, nn, nm⟩) (k := j) (by rw [fits_is (show (shp gParam).kind ≠ [] by decide)]; exact hf) hj (show (shp gParam).kind ≠ [] by decide)
  generalize hres : nodeC onesE twosE P L i = res at hst
  have HRN := hidX h
  have HLL := hidX h.lows
  have HST := hidX hst
  have HGV := hidX hgv
  clear h hst hgv hres
  generalize hcb : countB gParam ni.length = cb at *
  have HCB := hidX hcb
  clear hcb
  have HB := hidX hb1
  clear hb1
  cases cb with
  | false =>
    go_enter Tryz.func34, Tryz.ntmps34
    go_wp2_with fail
    rw [← hW1]
    clear hW1 k0 k1 k2 k3
    refine (HKD.out W1).mono ?_
    rintro e W2 ⟨rfl, hbn⟩
    have d0 := cell_of_blk HN1.out 0
    have d1 := cell_of_blk HN1.out 1
    have d2 := cell_of_blk HN1.out 2
    have d3 := cell_of_blk HN1.out 3
    have b1 := cell_of_blk HG1.out 1
    have b2 := cell_of_blk HG1.out 2
    simp only [List.getElem?_toArray, List.getElem?_cons_zero, List.getElem?_cons_succ] at d0 d1 d2 d3 b1 b2
    have HN1 := hidX ((hbn.block _ (heap_lt HN1.out)).trans HN1.out)
    have HG1 := hidX ((hbn.block _ (heap_lt HG1.out)).trans HG1.out)
    have HB := hidX (bl_trans HB.out HB.out.size hbn)
    clear d0 d1 d2 d3 b1 b2 hbn
    have d0 := cell_of_blk HN1.out 0
    have d1 := cell_of_blk HN1.out 1
    have d2 := cell_of_blk HN1.out 2
    have d3 := cell_of_blk HN1.out 3
    have b1 := cell_of_blk HG1.out 1
    have b2 := cell_of_blk HG1.out 2
    simp only [List.getElem?_toArray, List.getElem?_cons_zero, List.getElem?_cons_succ] at d0 d1 d2 d3 b1 b2
    go_wp2_with fail
    refine (HCR.out W2).mono ?_
    rintro e W3 ⟨rfl, hbn⟩
    have HN1 := hidX ((hbn.block _ (heap_lt HN1.out)).trans HN1.out)
    have HG1 := hidX ((hbn.block _ (heap_lt HG1.out)).trans HG1.out)
    have HB := hidX (bl_trans HB.out HB.out.size hbn)
    clear d0 d1 d2 d3 b1 b2 hbn
    have d0 := cell_of_blk HN1.out 0
    have d1 := cell_of_blk HN1.out 1
    have d2 := cell_of_blk HN1.out 2
    have d3 := cell_of_blk HN1.out 3
    have b1 := cell_of_blk HG1.out 1
    have b2 := cell_of_blk HG1.out 2
    simp only [List.getElem?_toArray, List.getElem?_cons_zero, List.getElem?_cons_succ] at d0 d1 d2 d3 b1 b2
    have hr : res = 3 := by rw [HST.out]; simp
    subst hr
    go_wp2
    go_ret
    exact ⟨rfl, (show Below w.heap.size w _ from by have hq := HB.out; (repeat (first | exact Below.refl _ _ | assumption | refine Below.drew ?_ | refine Below.trans ?_ (drewN_below' _ _ _) | refine Below.setCell ?_ (by first | (simp; done) | (simp; omega)) _ | refine Below.alloc ?_ (by first | (simp; done) | (simp; omega)) _)))⟩
  | true =>
    by_cases hnn : nn = 0
    · subst hnn
      by_cases hnm : nm = []
      · subst hnm
        have hft : (true && numB ⟨gParam, ni, 0, []⟩ && nameG ⟨gParam, ni, 0, []⟩) = true := by simp [numB, nameG, gParam, gParam, gConst]
        have hst2 : res = if bndB P L.length ⟨gParam, ni, 0, []⟩ = false then 2 else if opB onesE twosE ⟨gParam, ni, 0, []⟩ = false then 4 else if givB L ⟨gParam, ni, 0, []⟩ = false ∨ phiB L ⟨gParam, ni, 0, []⟩ = false then 3 else 0 := by
          rw [HST.out, if_neg]
          rw [hft]
          simp [gParam, gStart]
        have hgv2 := HGV.out hft
        have HST2 := hidX hst2
        have HGV2 := hidX hgv2
        clear hst2 hgv2 hft
        go_enter Tryz.func34, Tryz.ntmps34
        go_wp2_with fail
        rw [← hW1]
        clear hW1 k0 k1 k2 k3
        refine (HKD.out W1).mono ?_
        rintro e W2 ⟨rfl, hbn⟩
        have d0 := cell_of_blk HN1.out 0
        have d1 := cell_of_blk HN1.out 1
        have d2 := cell_of_blk HN1.out 2
        have d3 := cell_of_blk HN1.out 3
        have b1 := cell_of_blk HG1.out 1
        have b2 := cell_of_blk HG1.out 2
        simp only [List.getElem?_toArray, List.getElem?_cons_zero, List.getElem?_cons_succ] at d0 d1 d2 d3 b1 b2
        have HN1 := hidX ((hbn.block _ (heap_lt HN1.out)).trans HN1.out)
        have HG1 := hidX ((hbn.block _ (heap_lt HG1.out)).trans HG1.out)
        have HB := hidX (bl_trans HB.out HB.out.size hbn)
        clear d0 d1 d2 d3 b1 b2 hbn
        have d0 := cell_of_blk HN1.out 0
        have d1 := cell_of_blk HN1.out 1
        have d2 := cell_of_blk HN1.out 2
        have d3 := cell_of_blk HN1.out 3
        have b1 := cell_of_blk HG1.out 1
        have b2 := cell_of_blk HG1.out 2
        simp only [List.getElem?_toArray, List.getElem?_cons_zero, List.getElem?_cons_succ] at d0 d1 d2 d3 b1 b2
        go_wp2_with fail
        refine (HCR.out W2).mono ?_
        rintro e W3 ⟨rfl, hbn⟩
        have HN1 := hidX ((hbn.block _ (heap_lt HN1.out)).trans HN1.out)
        have HG1 := hidX ((hbn.block _ (heap_lt HG1.out)).trans HG1.out)
        have HB := hidX (bl_trans HB.out HB.out.size hbn)
        clear d0 d1 d2 d3 b1 b2 hbn
        have d0 := cell_of_blk HN1.out 0
        have d1 := cell_of_blk HN1.out 1
        have d2 := cell_of_blk HN1.out 2
        have d3 := cell_of_blk HN1.out 3
        have b1 := cell_of_blk HG1.out 1
        have b2 := cell_of_blk HG1.out 2
        simp only [List.getElem?_toArray, List.getElem?_cons_zero, List.getElem?_cons_succ] at d0 d1 d2 d3 b1 b2
        go_wp2_with fail
        go_loopw [8] (fun vi wr => ∃ q : Nat, q ≤ ni.length ∧ vi = .int .i64 q ∧ Hid (Below W3.heap.size W3 wr) ∧ Hid (∀ j (hj : j < q) (hq : q ≤ ni.length), 0 ≤ ni[j]'(by omega) ∧ ni[j]'(by omega) < (L.length : Int))) (fun vi _ => ni.length - (intOf vi).toNat)
        case atStart => exact ⟨0, Nat.zero_le _, rfl, Below.refl _ _, fun j hj => absurd hj (by omega)⟩
        case round =>
          obtain ⟨q, hq, rfl, HBW, HA⟩ := hrel
          have hbn := HBW.out
          have HN1 := hidX ((hbn.block _ (heap_lt HN1.out)).trans HN1.out)
          have HG1 := hidX ((hbn.block _ (heap_lt HG1.out)).trans HG1.out)
          have HB := hidX (bl_trans HB.out HB.out.size hbn)
          clear d0 d1 d2 d3 b1 b2 hbn
          have d0 := cell_of_blk HN1.out 0
          have d1 := cell_of_blk HN1.out 1
          have d2 := cell_of_blk HN1.out 2
          have d3 := cell_of_blk HN1.out 3
          have b1 := cell_of_blk HG1.out 1
          have b2 := cell_of_blk HG1.out 2
          simp only [List.getElem?_toArray, List.getElem?_cons_zero, List.getElem?_cons_succ] at d0 d1 d2 d3 b1 b2
          by_cases hlt : q < ni.length
          · have hlt' : (q : Int) < (ni.length : Int) := by omega
            obtain ⟨g1, off1, e1, hg1, hc⟩ := HRN.out.row.int hlt
            subst e1
            have hx : wr.cell? ⟨g1, off1 + q, none⟩ = some (.int .i64 ni[q]) := (HB.out.cell (p := ⟨g1, _, none⟩) hg1).trans hc
            have HBD := hidX (fun hx => bnd_bad (P := P) (N := L.length) (n := ⟨gParam, ni, 0, []⟩) (q := q) hlt hx)
            have hstep := fun (hx : 0 ≤ ni[q] ∧ ni[q] < (L.length : Int)) (j : Nat) (hj : j < q + 1) (hq2 : q + 1 ≤ ni.length) => show 0 ≤ ni[j]'(by omega) ∧ ni[j]'(by omega) < (L.length : Int) from by
              by_cases e : j = q
              · subst e; exact hx
              · exact HA.out j (by omega) (by omega)
            clear hc
            simp only at HBD
            generalize ni[q] = x at hx HBD hstep
            have HSP := hidX hstep
            clear hstep
            by_cases x0 : x < 0
            · have hb := HBD.out (by omega)
              have hr : res = 2 := by rw [HST2.out]; rw [if_pos hb]
              subst hr
              go_wp2_with fail
              go_quiet (fail)
              go_wp2
              go_ret
              exact ⟨rfl, (show Below w.heap.size w _ from by have hq9 := HB.out; (repeat (first | exact Below.refl _ _ | assumption | refine Below.drew ?_ | refine Below.trans ?_ (drewN_below' _ _ _) | refine Below.setCell ?_ (by first | (simp; done) | (simp; omega)) _ | refine Below.alloc ?_ (by first | (simp; done) | (simp; omega)) _)))⟩
            · by_cases x1 : (L.length : Int) ≤ x
              · have hb := HBD.out (by omega)
                have hr : res = 2 := by rw [HST2.out]; rw [if_pos hb]
                subst hr
                go_wp2_with fail
                go_quiet (fail)
                go_wp2
                go_ret
                exact ⟨rfl, (show Below w.heap.size w _ from by have hq9 := HB.out; (repeat (first | exact Below.refl _ _ | assumption | refine Below.drew ?_ | refine Below.trans ?_ (drewN_below' _ _ _) | refine Below.setCell ?_ (by first | (simp; done) | (simp; omega)) _ | refine Below.alloc ?_ (by first | (simp; done) | (simp; omega)) _)))⟩
              · have HS2 := hidX (HSP.out ⟨by omega, by omega⟩)
                go_wp2_with fail
                go_quiet (fail)
                go_wp2
                go_roundw
                case rel => exact ⟨q + 1, by omega, by go_num, (show Below W3.heap.size W3 _ from by have hq9 := HBW.out; (repeat (first | exact Below.refl _ _ | assumption | refine Below.drew ?_ | refine Below.trans ?_ (drewN_below' _ _ _) | refine Below.setCell ?_ (by first | (simp; done) | (simp; omega)) _ | refine Below.alloc ?_ (by first | (simp; done) | (simp; omega)) _))), HS2.out⟩
                case measure => simp [intOf]; omega
          · have hqn : q = ni.length := by omega
            subst hqn
            have hbd := bnd_good (P := P) (N := L.length) (n := ⟨gParam, ni, 0, []⟩) (fun j hj => HA.out j hj (Nat.le_refl _))
            have HAB := hidX (fun j (hj : j < ni.length) => HA.out j hj (Nat.le_refl _))
            clear HBW
            rename World => W4
            by_cases p0 : 0 ≤ (0 : Int) ∧ (0 : Int) < P
            · have hb2 : bndB P L.length ⟨gParam, ni, 0, []⟩ = true := by rw [hbd]; simp [p0]
              have p1 : ¬ (0 : Int) < 0 := by omega
              have p2 : ¬ P ≤ (0 : Int) := by omega
              have HBD := hidX hb2
              clear hbd hb2
              have HO1 := hidX (show Calls Tryz.prog 67 #[.string ⟨([] : List UInt8).toArray⟩] W4 _ from rIsOne_any [] W4)
              have HO2 := hidX (fun X => rIsTwo_any [] X)
              generalize hm1 : decide ([] ∈ onesE) = o1 at HO1
              generalize hm2 : decide ([] ∈ twosE) = o2 at HO2
              have HM1 := hidX hm1
              have HM2 := hidX hm2
              clear hm1 hm2
              have hop : opB onesE twosE ⟨gParam, ni, 0, []⟩ = true := by unfold opB; simp [gParam, gOne, gTwo]
              have HOP := hidX hop
              clear hop
              go_wp2_with fail
              refine HO1.out.mono ?_
              rintro e W5 ⟨rfl, hh⟩
              replace hh := hh.symm
              subst hh
              go_wp2_with fail
              refine (HO2.out _).mono ?_
              rintro e W6 ⟨rfl, hbn⟩
              have HN1 := hidX ((hbn.block _ (heap_lt HN1.out)).trans HN1.out)
              have HG1 := hidX ((hbn.block _ (heap_lt HG1.out)).trans HG1.out)
              have HB := hidX (bl_trans HB.out HB.out.size hbn)
              clear d0 d1 d2 d3 b1 b2 hbn
              have d0 := cell_of_blk HN1.out 0
              have d1 := cell_of_blk HN1.out 1
              have d2 := cell_of_blk HN1.out 2
              have d3 := cell_of_blk HN1.out 3
              have b1 := cell_of_blk HG1.out 1
              have b2 := cell_of_blk HG1.out 2
              simp only [List.getElem?_toArray, List.getElem?_cons_zero, List.getElem?_cons_succ] at d0 d1 d2 d3 b1 b2
              go_wp2_with fail
              refine (HWY.out W6).mono ?_
              rintro e W7 ⟨rfl, hbn⟩
              have HN1 := hidX ((hbn.block _ (heap_lt HN1.out)).trans HN1.out)
              have HG1 := hidX ((hbn.block _ (heap_lt HG1.out)).trans HG1.out)
              have HB := hidX (bl_trans HB.out HB.out.size hbn)
              clear d0 d1 d2 d3 b1 b2 hbn
              have d0 := cell_of_blk HN1.out 0
              have d1 := cell_of_blk HN1.out 1
              have d2 := cell_of_blk HN1.out 2
              have d3 := cell_of_blk HN1.out 3
              have b1 := cell_of_blk HG1.out 1
              have b2 := cell_of_blk HG1.out 2
              simp only [List.getElem?_toArray, List.getElem?_cons_zero, List.getElem?_cons_succ] at d0 d1 d2 d3 b1 b2
              have HST3 := hidX (show res = if givB L ⟨gParam, ni, 0, []⟩ = false ∨ phiB L ⟨gParam, ni, 0, []⟩ = false then 3 else 0 from by rw [HST2.out, if_neg (by rw [HBD.out]; decide), if_neg (by rw [HOP.out]; decide)])
              go_wp2_with fail
              go_loopw [12] (fun vi wr => ∃ q : Nat, q ≤ ni.length ∧ vi = .int .i64 q ∧ Hid (Below W7.heap.size W7 wr) ∧ Hid (∀ j, j < q → givAt L ⟨gParam, ni, 0, []⟩ j = true)) (fun vi _ => ni.length - (intOf vi).toNat)
              case atStart => exact ⟨0, Nat.zero_le _, rfl, Below.refl _ _, fun j hj => absurd hj (by omega)⟩
              case round =>
                obtain ⟨q, hq, rfl, HBW, HA⟩ := hrel
                have hbn := HBW.out
                have HN1 := hidX ((hbn.block _ (heap_lt HN1.out)).trans HN1.out)
                have HG1 := hidX ((hbn.block _ (heap_lt HG1.out)).trans HG1.out)
                have HB := hidX (bl_trans HB.out HB.out.size hbn)
                clear d0 d1 d2 d3 b1 b2 hbn
                have d0 := cell_of_blk HN1.out 0
                have d1 := cell_of_blk HN1.out 1
                have d2 := cell_of_blk HN1.out 2
                have d3 := cell_of_blk HN1.out 3
                have b1 := cell_of_blk HG1.out 1
                have b2 := cell_of_blk HG1.out 2
                simp only [List.getElem?_toArray, List.getElem?_cons_zero, List.getElem?_cons_succ] at d0 d1 d2 d3 b1 b2
                have hln : ni.length = 0 := by have := HCB.out; simpa [countB, gParam, gStart, gParam] using this
                have hq0 : q = 0 := by omega
                subst hq0
                have hln' : (ni.length : Int) = 0 := by omega
                have hgt := giv_good (L := L) (n := ⟨gParam, ni, 0, []⟩) (fun j hj => absurd hj (by simp only; omega))
                have hph := phi_no (L := L) (n := ⟨gParam, ni, 0, []⟩) (show gParam ≠ gPhi by decide)
                have hr : res = 0 := by rw [HST3.out, if_neg]; rw [hgt, hph]; simp
                subst hr
                clear hgt hph
                go_wp2_with fail
                go_quiet (fail)
                go_wp2
                go_ret
                exact ⟨rfl, (show Below w.heap.size w _ from by have hq9 := HB.out; (repeat (first | exact Below.refl _ _ | assumption | refine Below.drew ?_ | refine Below.trans ?_ (drewN_below' _ _ _) | refine Below.setCell ?_ (by first | (simp; done) | (simp; omega)) _ | refine Below.alloc ?_ (by first | (simp; done) | (simp; omega)) _)))⟩
            · have hb2 : bndB P L.length ⟨gParam, ni, 0, []⟩ = false := by rw [hbd, Bool.or_eq_false_iff]; exact ⟨by simp, decide_eq_false p0⟩
              by_cases p1 : (0 : Int) < 0
              · exact absurd p1 (by omega)
              · have p2 : P ≤ (0 : Int) := by omega
                clear hbd
                have hr : res = 2 := by rw [HST2.out]; rw [if_pos hb2]
                subst hr
                go_wp2
                go_ret
                exact ⟨rfl, (show Below w.heap.size w _ from by have hq9 := HB.out; (repeat (first | exact Below.refl _ _ | assumption | refine Below.drew ?_ | refine Below.trans ?_ (drewN_below' _ _ _) | refine Below.setCell ?_ (by first | (simp; done) | (simp; omega)) _ | refine Below.alloc ?_ (by first | (simp; done) | (simp; omega)) _)))⟩
      · have hnm' := nil_lit hnm
        go_enter Tryz.func34, Tryz.ntmps34
        go_wp2_with fail
        rw [← hW1]
        clear hW1 k0 k1 k2 k3
        refine (HKD.out W1).mono ?_
        rintro e W2 ⟨rfl, hbn⟩
        have d0 := cell_of_blk HN1.out 0
        have d1 := cell_of_blk HN1.out 1
        have d2 := cell_of_blk HN1.out 2
        have d3 := cell_of_blk HN1.out 3
        have b1 := cell_of_blk HG1.out 1
        have b2 := cell_of_blk HG1.out 2
        simp only [List.getElem?_toArray, List.getElem?_cons_zero, List.getElem?_cons_succ] at d0 d1 d2 d3 b1 b2
        have HN1 := hidX ((hbn.block _ (heap_lt HN1.out)).trans HN1.out)
        have HG1 := hidX ((hbn.block _ (heap_lt HG1.out)).trans HG1.out)
        have HB := hidX (bl_trans HB.out HB.out.size hbn)
        clear d0 d1 d2 d3 b1 b2 hbn
        have d0 := cell_of_blk HN1.out 0
        have d1 := cell_of_blk HN1.out 1
        have d2 := cell_of_blk HN1.out 2
        have d3 := cell_of_blk HN1.out 3
        have b1 := cell_of_blk HG1.out 1
        have b2 := cell_of_blk HG1.out 2
        simp only [List.getElem?_toArray, List.getElem?_cons_zero, List.getElem?_cons_succ] at d0 d1 d2 d3 b1 b2
        go_wp2_with fail
        refine (HCR.out W2).mono ?_
        rintro e W3 ⟨rfl, hbn⟩
        have HN1 := hidX ((hbn.block _ (heap_lt HN1.out)).trans HN1.out)
        have HG1 := hidX ((hbn.block _ (heap_lt HG1.out)).trans HG1.out)
        have HB := hidX (bl_trans HB.out HB.out.size hbn)
        clear d0 d1 d2 d3 b1 b2 hbn
        have d0 := cell_of_blk HN1.out 0
        have d1 := cell_of_blk HN1.out 1
        have d2 := cell_of_blk HN1.out 2
        have d3 := cell_of_blk HN1.out 3
        have b1 := cell_of_blk HG1.out 1
        have b2 := cell_of_blk HG1.out 2
        simp only [List.getElem?_toArray, List.getElem?_cons_zero, List.getElem?_cons_succ] at d0 d1 d2 d3 b1 b2
        have hr : res = 3 := by rw [HST.out]; simp [nameG, hnm, gParam, gOne, gTwo, gCall]
        subst hr
        go_wp2
        go_ret
        exact ⟨rfl, (show Below w.heap.size w _ from by have hq := HB.out; (repeat (first | exact Below.refl _ _ | assumption | refine Below.drew ?_ | refine Below.trans ?_ (drewN_below' _ _ _) | refine Below.setCell ?_ (by first | (simp; done) | (simp; omega)) _ | refine Below.alloc ?_ (by first | (simp; done) | (simp; omega)) _)))⟩
    · have hnn' : (nn == 0) = false := by simpa using hnn
      by_cases hnm : nm = []
      · subst hnm
        have hft : (true && numB ⟨gParam, ni, nn, []⟩ && nameG ⟨gParam, ni, nn, []⟩) = true := by simp [numB, nameG, gParam, gParam, gConst]
        have hst2 : res = if bndB P L.length ⟨gParam, ni, nn, []⟩ = false then 2 else if opB onesE twosE ⟨gParam, ni, nn, []⟩ = false then 4 else if givB L ⟨gParam, ni, nn, []⟩ = false ∨ phiB L ⟨gParam, ni, nn, []⟩ = false then 3 else 0 := by
          rw [HST.out, if_neg]
          rw [hft]
          simp [gParam, gStart]
        have hgv2 := HGV.out hft
        have HST2 := hidX hst2
        have HGV2 := hidX hgv2
        clear hst2 hgv2 hft
        go_enter Tryz.func34, Tryz.ntmps34
        go_wp2_with fail
        rw [← hW1]
        clear hW1 k0 k1 k2 k3
        refine (HKD.out W1).mono ?_
        rintro e W2 ⟨rfl, hbn⟩
        have d0 := cell_of_blk HN1.out 0
        have d1 := cell_of_blk HN1.out 1
        have d2 := cell_of_blk HN1.out 2
        have d3 := cell_of_blk HN1.out 3
        have b1 := cell_of_blk HG1.out 1
        have b2 := cell_of_blk HG1.out 2
        simp only [List.getElem?_toArray, List.getElem?_cons_zero, List.getElem?_cons_succ] at d0 d1 d2 d3 b1 b2
        have HN1 := hidX ((hbn.block _ (heap_lt HN1.out)).trans HN1.out)
        have HG1 := hidX ((hbn.block _ (heap_lt HG1.out)).trans HG1.out)
        have HB := hidX (bl_trans HB.out HB.out.size hbn)
        clear d0 d1 d2 d3 b1 b2 hbn
        have d0 := cell_of_blk HN1.out 0
        have d1 := cell_of_blk HN1.out 1
        have d2 := cell_of_blk HN1.out 2
        have d3 := cell_of_blk HN1.out 3
        have b1 := cell_of_blk HG1.out 1
        have b2 := cell_of_blk HG1.out 2
        simp only [List.getElem?_toArray, List.getElem?_cons_zero, List.getElem?_cons_succ] at d0 d1 d2 d3 b1 b2
        go_wp2_with fail
        refine (HCR.out W2).mono ?_
        rintro e W3 ⟨rfl, hbn⟩
        have HN1 := hidX ((hbn.block _ (heap_lt HN1.out)).trans HN1.out)
        have HG1 := hidX ((hbn.block _ (heap_lt HG1.out)).trans HG1.out)
        have HB := hidX (bl_trans HB.out HB.out.size hbn)
        clear d0 d1 d2 d3 b1 b2 hbn
        have d0 := cell_of_blk HN1.out 0
        have d1 := cell_of_blk HN1.out 1
        have d2 := cell_of_blk HN1.out 2
        have d3 := cell_of_blk HN1.out 3
        have b1 := cell_of_blk HG1.out 1
        have b2 := cell_of_blk HG1.out 2
        simp only [List.getElem?_toArray, List.getElem?_cons_zero, List.getElem?_cons_succ] at d0 d1 d2 d3 b1 b2
        go_wp2_with fail
        go_loopw [8] (fun vi wr => ∃ q : Nat, q ≤ ni.length ∧ vi = .int .i64 q ∧ Hid (Below W3.heap.size W3 wr) ∧ Hid (∀ j (hj : j < q) (hq : q ≤ ni.length), 0 ≤ ni[j]'(by omega) ∧ ni[j]'(by omega) < (L.length : Int))) (fun vi _ => ni.length - (intOf vi).toNat)
        case atStart => exact ⟨0, Nat.zero_le _, rfl, Below.refl _ _, fun j hj => absurd hj (by omega)⟩
        case round =>
          obtain ⟨q, hq, rfl, HBW, HA⟩ := hrel
          have hbn := HBW.out
          have HN1 := hidX ((hbn.block _ (heap_lt HN1.out)).trans HN1.out)
          have HG1 := hidX ((hbn.block _ (heap_lt HG1.out)).trans HG1.out)
          have HB := hidX (bl_trans HB.out HB.out.size hbn)
          clear d0 d1 d2 d3 b1 b2 hbn
          have d0 := cell_of_blk HN1.out 0
          have d1 := cell_of_blk HN1.out 1
          have d2 := cell_of_blk HN1.out 2
          have d3 := cell_of_blk HN1.out 3
          have b1 := cell_of_blk HG1.out 1
          have b2 := cell_of_blk HG1.out 2
          simp only [List.getElem?_toArray, List.getElem?_cons_zero, List.getElem?_cons_succ] at d0 d1 d2 d3 b1 b2
          by_cases hlt : q < ni.length
          · have hlt' : (q : Int) < (ni.length : Int) := by omega
            obtain ⟨g1, off1, e1, hg1, hc⟩ := HRN.out.row.int hlt
            subst e1
            have hx : wr.cell? ⟨g1, off1 + q, none⟩ = some (.int .i64 ni[q]) := (HB.out.cell (p := ⟨g1, _, none⟩) hg1).trans hc
            have HBD := hidX (fun hx => bnd_bad (P := P) (N := L.length) (n := ⟨gParam, ni, nn, []⟩) (q := q) hlt hx)
            have hstep := fun (hx : 0 ≤ ni[q] ∧ ni[q] < (L.length : Int)) (j : Nat) (hj : j < q + 1) (hq2 : q + 1 ≤ ni.length) => show 0 ≤ ni[j]'(by omega) ∧ ni[j]'(by omega) < (L.length : Int) from by
              by_cases e : j = q
              · subst e; exact hx
              · exact HA.out j (by omega) (by omega)
            clear hc
            simp only at HBD
            generalize ni[q] = x at hx HBD hstep
            have HSP := hidX hstep
            clear hstep
            by_cases x0 : x < 0
            · have hb := HBD.out (by omega)
              have hr : res = 2 := by rw [HST2.out]; rw [if_pos hb]
              subst hr
              go_wp2_with fail
              go_quiet (fail)
              go_wp2
              go_ret
              exact ⟨rfl, (show Below w.heap.size w _ from by have hq9 := HB.out; (repeat (first | exact Below.refl _ _ | assumption | refine Below.drew ?_ | refine Below.trans ?_ (drewN_below' _ _ _) | refine Below.setCell ?_ (by first | (simp; done) | (simp; omega)) _ | refine Below.alloc ?_ (by first | (simp; done) | (simp; omega)) _)))⟩
            · by_cases x1 : (L.length : Int) ≤ x
              · have hb := HBD.out (by omega)
                have hr : res = 2 := by rw [HST2.out]; rw [if_pos hb]
                subst hr
                go_wp2_with fail
                go_quiet (fail)
                go_wp2
                go_ret
                exact ⟨rfl, (show Below w.heap.size w _ from by have hq9 := HB.out; (repeat (first | exact Below.refl _ _ | assumption | refine Below.drew ?_ | refine Below.trans ?_ (drewN_below' _ _ _) | refine Below.setCell ?_ (by first | (simp; done) | (simp; omega)) _ | refine Below.alloc ?_ (by first | (simp; done) | (simp; omega)) _)))⟩
              · have HS2 := hidX (HSP.out ⟨by omega, by omega⟩)
                go_wp2_with fail
                go_quiet (fail)
                go_wp2
                go_roundw
                case rel => exact ⟨q + 1, by omega, by go_num, (show Below W3.heap.size W3 _ from by have hq9 := HBW.out; (repeat (first | exact Below.refl _ _ | assumption | refine Below.drew ?_ | refine Below.trans ?_ (drewN_below' _ _ _) | refine Below.setCell ?_ (by first | (simp; done) | (simp; omega)) _ | refine Below.alloc ?_ (by first | (simp; done) | (simp; omega)) _))), HS2.out⟩
                case measure => simp [intOf]; omega
          · have hqn : q = ni.length := by omega
            subst hqn
            have hbd := bnd_good (P := P) (N := L.length) (n := ⟨gParam, ni, nn, []⟩) (fun j hj => HA.out j hj (Nat.le_refl _))
            have HAB := hidX (fun j (hj : j < ni.length) => HA.out j hj (Nat.le_refl _))
            clear HBW
            rename World => W4
            by_cases p0 : 0 ≤ (nn : Int) ∧ (nn : Int) < P
            · have hb2 : bndB P L.length ⟨gParam, ni, nn, []⟩ = true := by rw [hbd]; simp [p0]
              have p1 : ¬ (nn : Int) < 0 := by omega
              have p2 : ¬ P ≤ (nn : Int) := by omega
              have HBD := hidX hb2
              clear hbd hb2
              have HO1 := hidX (show Calls Tryz.prog 67 #[.string ⟨([] : List UInt8).toArray⟩] W4 _ from rIsOne_any [] W4)
              have HO2 := hidX (fun X => rIsTwo_any [] X)
              generalize hm1 : decide ([] ∈ onesE) = o1 at HO1
              generalize hm2 : decide ([] ∈ twosE) = o2 at HO2
              have HM1 := hidX hm1
              have HM2 := hidX hm2
              clear hm1 hm2
              have hop : opB onesE twosE ⟨gParam, ni, nn, []⟩ = true := by unfold opB; simp [gParam, gOne, gTwo]
              have HOP := hidX hop
              clear hop
              go_wp2_with fail
              refine HO1.out.mono ?_
              rintro e W5 ⟨rfl, hh⟩
              replace hh := hh.symm
              subst hh
              go_wp2_with fail
              refine (HO2.out _).mono ?_
              rintro e W6 ⟨rfl, hbn⟩
              have HN1 := hidX ((hbn.block _ (heap_lt HN1.out)).trans HN1.out)
              have HG1 := hidX ((hbn.block _ (heap_lt HG1.out)).trans HG1.out)
              have HB := hidX (bl_trans HB.out HB.out.size hbn)
              clear d0 d1 d2 d3 b1 b2 hbn
              have d0 := cell_of_blk HN1.out 0
              have d1 := cell_of_blk HN1.out 1
              have d2 := cell_of_blk HN1.out 2
              have d3 := cell_of_blk HN1.out 3
              have b1 := cell_of_blk HG1.out 1
              have b2 := cell_of_blk HG1.out 2
              simp only [List.getElem?_toArray, List.getElem?_cons_zero, List.getElem?_cons_succ] at d0 d1 d2 d3 b1 b2
              go_wp2_with fail
              refine (HWY.out W6).mono ?_
              rintro e W7 ⟨rfl, hbn⟩
              have HN1 := hidX ((hbn.block _ (heap_lt HN1.out)).trans HN1.out)
              have HG1 := hidX ((hbn.block _ (heap_lt HG1.out)).trans HG1.out)
              have HB := hidX (bl_trans HB.out HB.out.size hbn)
              clear d0 d1 d2 d3 b1 b2 hbn
              have d0 := cell_of_blk HN1.out 0
              have d1 := cell_of_blk HN1.out 1
              have d2 := cell_of_blk HN1.out 2
              have d3 := cell_of_blk HN1.out 3
              have b1 := cell_of_blk HG1.out 1
              have b2 := cell_of_blk HG1.out 2
              simp only [List.getElem?_toArray, List.getElem?_cons_zero, List.getElem?_cons_succ] at d0 d1 d2 d3 b1 b2
              have HST3 := hidX (show res = if givB L ⟨gParam, ni, nn, []⟩ = false ∨ phiB L ⟨gParam, ni, nn, []⟩ = false then 3 else 0 from by rw [HST2.out, if_neg (by rw [HBD.out]; decide), if_neg (by rw [HOP.out]; decide)])
              go_wp2_with fail
              go_loopw [12] (fun vi wr => ∃ q : Nat, q ≤ ni.length ∧ vi = .int .i64 q ∧ Hid (Below W7.heap.size W7 wr) ∧ Hid (∀ j, j < q → givAt L ⟨gParam, ni, nn, []⟩ j = true)) (fun vi _ => ni.length - (intOf vi).toNat)
              case atStart => exact ⟨0, Nat.zero_le _, rfl, Below.refl _ _, fun j hj => absurd hj (by omega)⟩
              case round =>
                obtain ⟨q, hq, rfl, HBW, HA⟩ := hrel
                have hbn := HBW.out
                have HN1 := hidX ((hbn.block _ (heap_lt HN1.out)).trans HN1.out)
                have HG1 := hidX ((hbn.block _ (heap_lt HG1.out)).trans HG1.out)
                have HB := hidX (bl_trans HB.out HB.out.size hbn)
                clear d0 d1 d2 d3 b1 b2 hbn
                have d0 := cell_of_blk HN1.out 0
                have d1 := cell_of_blk HN1.out 1
                have d2 := cell_of_blk HN1.out 2
                have d3 := cell_of_blk HN1.out 3
                have b1 := cell_of_blk HG1.out 1
                have b2 := cell_of_blk HG1.out 2
                simp only [List.getElem?_toArray, List.getElem?_cons_zero, List.getElem?_cons_succ] at d0 d1 d2 d3 b1 b2
                have hln : ni.length = 0 := by have := HCB.out; simpa [countB, gParam, gStart, gParam] using this
                have hq0 : q = 0 := by omega
                subst hq0
                have hln' : (ni.length : Int) = 0 := by omega
                have hgt := giv_good (L := L) (n := ⟨gParam, ni, nn, []⟩) (fun j hj => absurd hj (by simp only; omega))
                have hph := phi_no (L := L) (n := ⟨gParam, ni, nn, []⟩) (show gParam ≠ gPhi by decide)
                have hr : res = 0 := by rw [HST3.out, if_neg]; rw [hgt, hph]; simp
                subst hr
                clear hgt hph
                go_wp2_with fail
                go_quiet (fail)
                go_wp2
                go_ret
                exact ⟨rfl, (show Below w.heap.size w _ from by have hq9 := HB.out; (repeat (first | exact Below.refl _ _ | assumption | refine Below.drew ?_ | refine Below.trans ?_ (drewN_below' _ _ _) | refine Below.setCell ?_ (by first | (simp; done) | (simp; omega)) _ | refine Below.alloc ?_ (by first | (simp; done) | (simp; omega)) _)))⟩
            · have hb2 : bndB P L.length ⟨gParam, ni, nn, []⟩ = false := by rw [hbd, Bool.or_eq_false_iff]; exact ⟨by simp, decide_eq_false p0⟩
              by_cases p1 : (nn : Int) < 0
              · clear hbd
                have hr : res = 2 := by rw [HST2.out]; rw [if_pos hb2]
                subst hr
                go_wp2
                go_ret
                exact ⟨rfl, (show Below w.heap.size w _ from by have hq9 := HB.out; (repeat (first | exact Below.refl _ _ | assumption | refine Below.drew ?_ | refine Below.trans ?_ (drewN_below' _ _ _) | refine Below.setCell ?_ (by first | (simp; done) | (simp; omega)) _ | refine Below.alloc ?_ (by first | (simp; done) | (simp; omega)) _)))⟩
              · have p2 : P ≤ (nn : Int) := by omega
                clear hbd
                have hr : res = 2 := by rw [HST2.out]; rw [if_pos hb2]
                subst hr
                go_wp2
                go_ret
                exact ⟨rfl, (show Below w.heap.size w _ from by have hq9 := HB.out; (repeat (first | exact Below.refl _ _ | assumption | refine Below.drew ?_ | refine Below.trans ?_ (drewN_below' _ _ _) | refine Below.setCell ?_ (by first | (simp; done) | (simp; omega)) _ | refine Below.alloc ?_ (by first | (simp; done) | (simp; omega)) _)))⟩
      · have hnm' := nil_lit hnm
        go_enter Tryz.func34, Tryz.ntmps34
        go_wp2_with fail
        rw [← hW1]
        clear hW1 k0 k1 k2 k3
        refine (HKD.out W1).mono ?_
        rintro e W2 ⟨rfl, hbn⟩
        have d0 := cell_of_blk HN1.out 0
        have d1 := cell_of_blk HN1.out 1
        have d2 := cell_of_blk HN1.out 2
        have d3 := cell_of_blk HN1.out 3
        have b1 := cell_of_blk HG1.out 1
        have b2 := cell_of_blk HG1.out 2
        simp only [List.getElem?_toArray, List.getElem?_cons_zero, List.getElem?_cons_succ] at d0 d1 d2 d3 b1 b2
        have HN1 := hidX ((hbn.block _ (heap_lt HN1.out)).trans HN1.out)
        have HG1 := hidX ((hbn.block _ (heap_lt HG1.out)).trans HG1.out)
        have HB := hidX (bl_trans HB.out HB.out.size hbn)
        clear d0 d1 d2 d3 b1 b2 hbn
        have d0 := cell_of_blk HN1.out 0
        have d1 := cell_of_blk HN1.out 1
        have d2 := cell_of_blk HN1.out 2
        have d3 := cell_of_blk HN1.out 3
        have b1 := cell_of_blk HG1.out 1
        have b2 := cell_of_blk HG1.out 2
        simp only [List.getElem?_toArray, List.getElem?_cons_zero, List.getElem?_cons_succ] at d0 d1 d2 d3 b1 b2
        go_wp2_with fail
        refine (HCR.out W2).mono ?_
        rintro e W3 ⟨rfl, hbn⟩
        have HN1 := hidX ((hbn.block _ (heap_lt HN1.out)).trans HN1.out)
        have HG1 := hidX ((hbn.block _ (heap_lt HG1.out)).trans HG1.out)
        have HB := hidX (bl_trans HB.out HB.out.size hbn)
        clear d0 d1 d2 d3 b1 b2 hbn
        have d0 := cell_of_blk HN1.out 0
        have d1 := cell_of_blk HN1.out 1
        have d2 := cell_of_blk HN1.out 2
        have d3 := cell_of_blk HN1.out 3
        have b1 := cell_of_blk HG1.out 1
        have b2 := cell_of_blk HG1.out 2
        simp only [List.getElem?_toArray, List.getElem?_cons_zero, List.getElem?_cons_succ] at d0 d1 d2 d3 b1 b2
        have hr : res = 3 := by rw [HST.out]; simp [nameG, hnm, gParam, gOne, gTwo, gCall]
        subst hr
        go_wp2
        go_ret
        exact ⟨rfl, (show Below w.heap.size w _ from by have hq := HB.out; (repeat (first | exact Below.refl _ _ | assumption | refine Below.drew ?_ | refine Below.trans ?_ (drewN_below' _ _ _) | refine Below.setCell ?_ (by first | (simp; done) | (simp; omega)) _ | refine Below.alloc ?_ (by first | (simp; done) | (simp; omega)) _)))⟩
end Go.Proofs.YtohjiggcbfjahacGreatDoor
