/-
  Our own: an expression, as the document's own model reads it.
-/
import Derived.Test.YtcebpmaggnephabGreatDoorRefLists
import Derived.Test.YtcebpmaggnephabGreatDoorRefStart
namespace Go.Proofs.YtcebpmaggnephabGreatDoor
open Go.RowKit Go.Maps

theorem rIsOne_any (m : List UInt8) (w : World) : Calls Tryz.prog 109 #[.string ⟨m.toArray⟩] w fun e w' => e = .returned (.bool (decide (m ∈ onesE))) ∧ w' = w := by
  by_cases h1 : m = [45]
  · subst h1
    go_enter Tryz.func109, Tryz.ntmps109
    go_wp2
    go_ret
    exact ⟨ret_bool (by decide), rfl⟩
  · have n1 : (m == [45]) = false := ne_lit h1
    by_cases h2 : m = [33]
    · subst h2
      go_enter Tryz.func109, Tryz.ntmps109
      go_wp2
      go_ret
      exact ⟨ret_bool (by decide), rfl⟩
    · have n2 : (m == [33]) = false := ne_lit h2
      have hd : decide (m ∈ onesE) = false := by simp [onesE, h1, h2]
      rw [hd]
      clear h1 h2 hd
      go_enter Tryz.func109, Tryz.ntmps109
      go_wp2
      go_ret
      exact ⟨rfl, rfl⟩
theorem rOps_any (w : World) : Calls Tryz.prog 117 #[] w fun e w' => e = .returned (.slice (some ⟨w.heap.size, 0, none⟩) 14 14) ∧ w' = textW w twosE := by
  go_enter Tryz.func117, Tryz.ntmps117
  go_wp2
  go_ret
  exact ⟨rfl, rfl⟩
theorem rIsTwo_any (m : List UInt8) (w : World) : Calls Tryz.prog 110 #[.string ⟨m.toArray⟩] w fun e w' => e = .returned (.bool (decide (m ∈ twosE))) ∧ Below w.heap.size w w' := by
  have hin := isIn_texts twosE (by decide) m 14 w
  have hd : inL twosE m = decide (m ∈ twosE) := by rw [Bool.eq_iff_iff, inL_iff]; simp
  rw [hd] at hin
  generalize decide (m ∈ twosE) = b at hin
  have HIN := hidX hin
  clear hin hd
  go_enter Tryz.func110, Tryz.ntmps110
  go_wp2_with fail
  refine (rOps_any w).mono ?_
  rintro e w' ⟨rfl, hh⟩
  subst hh
  go_wp2_with fail
  refine HIN.out.mono ?_
  rintro e w' ⟨rfl, hh⟩
  subst hh
  go_wp2
  go_ret
  exact ⟨rfl, box_blk _ _ _⟩
theorem rName_at (m : List UInt8) (hm : m.length ≤ 4000) (w : World) : Calls Tryz.prog 71 #[.string ⟨m.toArray⟩] w fun e w' => e = .returned (.bool (nameB m)) ∧ Below w.heap.size w w' :=
  rIsName_any ⟨m.toArray⟩ (by show m.toArray.size ≤ _; simp; omega) w
/-- What an expression comes to. -/
def KEx (e : Ex) : Prop := ∀ (w : World) (B p : Nat) (fv av vv : Value) (F : List Fu) (all vis : List (List UInt8)) (cs : List Value), Know w B p fv av vv F all vis → XE (fun b => b < B) w e cs → LowE e → F.length ≤ 10 → (∀ f ∈ F, LowF f) → vis.length ≤ 12 →
  Calls Tryz.prog 95 #[.pointer (some ⟨p, 0, none⟩), .agg cs.toArray] w fun ev w' => ev = .returned (.int .i64 ((exprC F vis e : Nat) : Int)) ∧ Below w.heap.size w w'
theorem callC_at {F : List Fu} {m : List UInt8} {n q : Nat} (h : q < F.length) (h0 : ∀ j (hj : j < q), (F[j]'(by omega)).name ≠ m) (h1 : F[q].name = m) : callC F m n = if F[q].params.length = n then 0 else 9 := by
  obtain ⟨i, hi, e1, e2, e3⟩ := first_of (F := F) (m := m) (by rw [List.any_eq_true]; exact ⟨_, List.getElem_mem h, by simpa using h1⟩)
  have : i = q := by
    rcases Nat.lt_trichotomy i q with hlt | he | hgt
    · exact absurd e1 (h0 i hlt)
    · exact he
    · exact absurd h1 (e2 q hgt)
  subst this
  unfold callC
  rw [e3]
set_option maxRecDepth 100000 in
set_option maxHeartbeats 8000000 in
theorem kex_mk (k : List UInt8) (n : Int) (mm : List UInt8) (ks : List Ex) (ih : ∀ e ∈ ks, KEx e) : KEx (.mk k n mm ks) := by
  intro w B p fv av vv F all vis cs hC hX hL hF hFl hV
  obtain ⟨v, xs, rfl, hr, hk⟩ := hX
  obtain ⟨ad, cap, rfl⟩ := hr.is
  obtain ⟨l1, l2, l3⟩ := hL
  have l2' : (ks.length : Int) ≤ 8 := by omega
  have hb0 := box_blk w #[.string ⟨k.toArray⟩, .int .i64 n, .string ⟨mm.toArray⟩, .slice ad ks.length cap] 112
  have hpl := hC.plt
  have hpB := hC.hp
  have IH := hidX ih
  have R := hidX hr
  have KK := hidX hk
  have LL := hidX l3
  have HC := hidX hC
  have HFL := hidX hFl
  have HB0 := hidX hb0
  generalize hres : exprC F vis (.mk k n mm ks) = res
  have HRES := hidX hres
  clear ih hr hk l3 hC hres hFl
  go_enter Tryz.func95, Tryz.ntmps95
  go_wp2_with fail
  refine (rName_at mm (by omega) _).mono ?_
  rintro e w1 ⟨rfl, hb1⟩
  have z1 : w.heap.size < w1.heap.size := by have := hb1.size; simp at this; omega
  have hb01 : Below w.heap.size w w1 := bl_trans HB0.out HB0.out.size hb1
  have bk : w1.heap[w.heap.size]? = some (.cells #[.string ⟨k.toArray⟩, .int .i64 n, .string ⟨mm.toArray⟩, .slice ad ks.length cap] 112 (0, 0)) := (hb1.block _ (by simp)).trans (heap_alloc_new _ _)
  have BK := hidX bk
  have d0 : w1.cell? ⟨w.heap.size, 0, none⟩ = some (.string ⟨k.toArray⟩) := cell_of_blk bk 0
  have d1 : w1.cell? ⟨w.heap.size, 1, none⟩ = some (.int .i64 n) := cell_of_blk bk 1
  have d2 : w1.cell? ⟨w.heap.size, 2, none⟩ = some (.string ⟨mm.toArray⟩) := cell_of_blk bk 2
  have d3 : w1.cell? ⟨w.heap.size, 3, none⟩ = some (.slice ad ks.length cap) := cell_of_blk bk 3
  clear bk hb1
  by_cases k1 : k = kNumE
  · subst k1
    have g21 : (kNumE == [110, 117, 109]) = true := by decide
    have g22 : (kNumE == [110, 97, 109, 101]) = false := by decide
    have g23 : (kNumE == [99, 97, 108, 108]) = false := by decide
    have g24 : (kNumE == [111, 110, 101]) = false := by decide
    have g25 : (kNumE == [116, 119, 111]) = false := by decide
    have sh : shapeE kNumE n mm ks.length = decide (0 ≤ n ∧ mm = [] ∧ ks.length = 0) := rfl
    by_cases c1 : 0 ≤ n
    · by_cases c2 : mm = []
      · subst c2
        by_cases c3 : ks.length = 0
        · have hk0 : ks = [] := List.length_eq_zero_iff.1 c3
          subst hk0
          have HE : Hid (res = 0) := by unfold Hid; rw [← HRES.out, exprC, if_neg (by rw [sh]; simp [c1]), exprsC]; rfl
          have k1 : w1.cell? ⟨p, 1, none⟩ = some (.bool true) := cell_of_blk (HC.out.below hb01).blk 1
          clear HRES sh
          go_wp2_with fail
          go_loop [8] (fun vi => ∃ q : Nat, q = 0 ∧ vi = .int .i64 q) (fun _ => 0)
          case atStart => exact ⟨0, rfl, rfl⟩
          case round =>
            obtain ⟨q, rfl, rfl⟩ := hrel
            go_wp2_with fail
            go_quiet (fail)
            go_wp2
            go_ret
            exact ⟨by rw [HE.out]; rfl, by (repeat (first | exact Below.refl _ _ | assumption | refine Below.drew ?_ | refine Below.trans ?_ (drewN_below' _ _ _) | refine Below.setCell ?_ (by first | (simp; done) | (simp; omega)) _ | refine Below.alloc ?_ (by first | (simp; done) | (simp; omega)) _))⟩
        · have c3' : ((ks.length : Int) == 0) = false := by simpa using c3
          have HE : Hid (res = 3) := by unfold Hid; rw [← HRES.out, exprC, if_pos (by rw [sh]; simp [c3])]
          clear HRES sh c3
          go_wp2
          go_ret
          exact ⟨by rw [HE.out]; rfl, hb01⟩
      · have c2' := nil_lit c2
        have HE : Hid (res = 3) := by unfold Hid; rw [← HRES.out, exprC, if_pos (by rw [sh]; simp [c2])]
        clear HRES sh c2
        go_wp2
        go_ret
        exact ⟨by rw [HE.out]; rfl, hb01⟩
    · have HE : Hid (res = 3) := by unfold Hid; rw [← HRES.out, exprC, if_pos (by rw [sh]; simp [c1])]
      clear HRES sh
      go_wp2
      go_ret
      exact ⟨by rw [HE.out]; rfl, hb01⟩
  · have n1 : (k == [110, 117, 109]) = false := ne_lit k1
    by_cases k2 : k = kName
    · subst k2
      have g21 : (kName == [110, 117, 109]) = false := by decide
      have g22 : (kName == [110, 97, 109, 101]) = true := by decide
      have g23 : (kName == [99, 97, 108, 108]) = false := by decide
      have g24 : (kName == [111, 110, 101]) = false := by decide
      have g25 : (kName == [116, 119, 111]) = false := by decide
      have sh : shapeE kName n mm ks.length = decide (n = 0 ∧ nameB mm = true ∧ ks.length = 0) := rfl
      clear n1
      by_cases c1 : n = 0
      · subst c1
        cases hnm : nameB mm with
        | true =>
          by_cases c3 : ks.length = 0
          · have HE : Hid (res = andC (exprsC F vis ks) (if mm ∈ vis then 0 else 6)) := by unfold Hid; rw [← HRES.out, exprC, if_neg (by rw [sh]; simp [hnm, c3]), if_pos rfl]
            have c3' : (ks.length : Int) = 0 := by omega
            have HC3 := hidX c3
            clear HRES sh hnm c3
            go_wp2_with fail
            go_loopw [8] (fun vi wr => ∃ q : Nat, q ≤ ks.length ∧ vi = .int .i64 q ∧ Below w.heap.size w wr ∧ w.heap.size < wr.heap.size ∧ wr.heap[w.heap.size]? = some (.cells #[.string ⟨kName.toArray⟩, .int .i64 0, .string ⟨mm.toArray⟩, .slice ad ks.length cap] 112 (0, 0)) ∧ Hid (exprsC F vis (ks.take q) = 0)) (fun vi _ => ks.length - (intOf vi).toNat)
            case atStart => exact ⟨0, Nat.zero_le _, rfl, hb01, z1, BK.out, by unfold Hid; rw [List.take_zero, exprsC]⟩
            case round =>
              clear d0 d1 d2 d3
              obtain ⟨q, hq, rfl, hbl, hz, hbk, HQ⟩ := hrel
              have d3 : wr.cell? ⟨w.heap.size, 3, none⟩ = some (.slice ad ks.length cap) := cell_of_blk hbk 3
              by_cases hlt : q < ks.length
              · exact absurd hlt (by have := HC3.out; omega)
              · have hqn : q = ks.length := by omega
                subst hqn
                have HQ2 : Hid (res = if mm ∈ vis then 0 else 6) := by
                  have := HQ.out; rw [List.take_length] at this
                  unfold Hid; rw [HE.out, this]; rfl
                have d0 : wr.cell? ⟨w.heap.size, 0, none⟩ = some (.string ⟨kName.toArray⟩) := cell_of_blk hbk 0
                have d2 : wr.cell? ⟨w.heap.size, 2, none⟩ = some (.string ⟨mm.toArray⟩) := cell_of_blk hbk 2
                have hCr := HC.out.below hbl
                have HCR := hidX hCr
                have HBK := hidX hbk
                clear hbk hCr HE HQ d3
                have k3 : wr.cell? ⟨p, 3, none⟩ = some vv := cell_of_blk HCR.out.blk 3
                have k1 : wr.cell? ⟨p, 1, none⟩ = some (.bool true) := cell_of_blk HCR.out.blk 1
                have hvi := HCR.out.vi
                obtain ⟨adv, cv, rfl⟩ := own_sl hvi
                have hin : ∀ X, Below wr.heap.size wr X → Calls Tryz.prog 27 #[.string ⟨mm.toArray⟩, .slice adv vis.length cv] X fun e w' => e = .returned (.bool (decide (mm ∈ vis))) ∧ w' = X := fun X hX => isIn_allR vis mm (by omega) X adv cv ((xrow_own (owns_below hvi hX)).imp (fun _ hb => hb.2) (fun _ _ => rfl))
                by_cases hm : mm ∈ vis
                · rw [show decide (mm ∈ vis) = true by simpa using hm] at hin
                  have HIN := hidX hin
                  have hfin : res = 0 := by rw [HQ2.out, if_pos hm]
                  have HF := hidX hfin
                  clear hm hfin HQ2 hin hvi
                  go_wp2_with fail
                  go_quiet ((go_at_call 27; exact Calls.quiet_of_same (HIN.out _ (by (repeat (first | exact Below.refl _ _ | assumption | refine Below.drew ?_ | refine Below.trans ?_ (drewN_below' _ _ _) | refine Below.setCell ?_ (by first | (simp; done) | (simp; omega)) _ | refine Below.alloc ?_ (by first | (simp; done) | (simp; omega)) _))))))
                  go_wp2
                  go_ret
                  exact ⟨by rw [HF.out]; rfl, by (repeat (first | exact Below.refl _ _ | assumption | refine Below.drew ?_ | refine Below.trans ?_ (drewN_below' _ _ _) | refine Below.setCell ?_ (by first | (simp; done) | (simp; omega)) _ | refine Below.alloc ?_ (by first | (simp; done) | (simp; omega)) _))⟩
                · rw [show decide (mm ∈ vis) = false by simpa using hm] at hin
                  have HIN := hidX hin
                  have hfin : res = 6 := by rw [HQ2.out, if_neg hm]
                  have HF := hidX hfin
                  clear hm hfin HQ2 hin hvi
                  go_wp2_with fail
                  go_quiet ((go_at_call 27; exact Calls.quiet_of_same (HIN.out _ (by (repeat (first | exact Below.refl _ _ | assumption | refine Below.drew ?_ | refine Below.trans ?_ (drewN_below' _ _ _) | refine Below.setCell ?_ (by first | (simp; done) | (simp; omega)) _ | refine Below.alloc ?_ (by first | (simp; done) | (simp; omega)) _))))))
                  go_wp2
                  go_ret
                  exact ⟨by rw [HF.out]; rfl, by (repeat (first | exact Below.refl _ _ | assumption | refine Below.drew ?_ | refine Below.trans ?_ (drewN_below' _ _ _) | refine Below.setCell ?_ (by first | (simp; done) | (simp; omega)) _ | refine Below.alloc ?_ (by first | (simp; done) | (simp; omega)) _))⟩
          · have c3' : ((ks.length : Int) == 0) = false := by simpa using c3
            have HE : Hid (res = 3) := by unfold Hid; rw [← HRES.out, exprC, if_pos (by rw [sh]; simp [c3])]
            clear HRES sh c3
            go_wp2
            go_ret
            exact ⟨by rw [HE.out]; rfl, hb01⟩
        | false =>
          have HE : Hid (res = 3) := by unfold Hid; rw [← HRES.out, exprC, if_pos (by rw [sh]; simp [hnm])]
          clear HRES sh hnm
          go_wp2
          go_ret
          exact ⟨by rw [HE.out]; rfl, hb01⟩
      · have c1' : (n == 0) = false := by simpa using c1
        have HE : Hid (res = 3) := by unfold Hid; rw [← HRES.out, exprC, if_pos (by rw [sh]; simp [c1])]
        clear HRES sh c1
        go_wp2
        go_ret
        exact ⟨by rw [HE.out]; rfl, hb01⟩
    · have n2 : (k == [110, 97, 109, 101]) = false := ne_lit k2
      by_cases k3 : k = kCall
      · subst k3
        have g21 : (kCall == [110, 117, 109]) = false := by decide
        have g22 : (kCall == [110, 97, 109, 101]) = false := by decide
        have g23 : (kCall == [99, 97, 108, 108]) = true := by decide
        have g24 : (kCall == [111, 110, 101]) = false := by decide
        have g25 : (kCall == [116, 119, 111]) = false := by decide
        have sh : shapeE kCall n mm ks.length = decide (n = 0 ∧ nameB mm = true) := rfl
        clear n1 n2
        by_cases c1 : n = 0
        · subst c1
          cases hnm : nameB mm with
          | true =>
            have HE : Hid (res = andC (exprsC F vis ks) (callC F mm ks.length)) := by unfold Hid; rw [← HRES.out, exprC, if_neg (by rw [sh]; simp [hnm]), if_neg k2, if_pos rfl]
            clear HRES sh hnm
            go_wp2_with fail
            go_loopw [8] (fun vi wr => ∃ q : Nat, q ≤ ks.length ∧ vi = .int .i64 q ∧ Below w.heap.size w wr ∧ w.heap.size < wr.heap.size ∧ wr.heap[w.heap.size]? = some (.cells #[.string ⟨kCall.toArray⟩, .int .i64 0, .string ⟨mm.toArray⟩, .slice ad ks.length cap] 112 (0, 0)) ∧ Hid (exprsC F vis (ks.take q) = 0)) (fun vi _ => ks.length - (intOf vi).toNat)
            case atStart => exact ⟨0, Nat.zero_le _, rfl, hb01, z1, BK.out, by unfold Hid; rw [List.take_zero, exprsC]⟩
            case round =>
              clear d0 d1 d2 d3
              obtain ⟨q, hq, rfl, hbl, hz, hbk, HQ⟩ := hrel
              have d3 : wr.cell? ⟨w.heap.size, 3, none⟩ = some (.slice ad ks.length cap) := cell_of_blk hbk 3
              by_cases hlt : q < ks.length
              · have hlt' : (q : Int) < (ks.length : Int) := by omega
                obtain ⟨ka, e1, e2⟩ := KK.out.at hlt
                obtain ⟨ga, off, rfl, hga, g1⟩ := R.out.el 4 hlt e2
                have hgw : ga < w.heap.size := by omega
                have hx := IH.out _ (List.getElem_mem hlt)
                have hlx := LL.out.mem _ (List.getElem_mem hlt)
                have hbad : exprC F vis ks[q] ≠ 0 → exprsC F vis ks = exprC F vis ks[q] := exprs_bad hlt HQ.out
                have hgood : exprC F vis ks[q] = 0 → exprsC F vis (ks.take (q + 1)) = 0 := exprs_good hlt HQ.out
                generalize ks[q] = x at e1 hx hlx hbad hgood
                have hcall : ∀ X, Below w.heap.size w X → Calls Tryz.prog 95 #[.pointer (some ⟨p, 0, none⟩), .agg ka.toArray] X fun ev w' => ev = .returned (.int .i64 ((exprC F vis x : Nat) : Int)) ∧ Below X.heap.size X w' := fun X hX =>
                  hx X B p fv av vv F all vis ka (HC.out.below hX) (XE.imp (fun _ h => h) (fun b hb => hX.block b (by omega)) _ _ e1) hlx hF HFL.out hV
                obtain ⟨xk, xn, xm, xks⟩ := x
                generalize exprC F vis (.mk xk xn xm xks) = cx at hcall hbad hgood
                obtain ⟨ya, za, rfl, ra, _⟩ := e1
                obtain ⟨ad1, cap1, rfl⟩ := ra.is
                have a0 := (hbl.cell (p := ⟨ga, _, none⟩) hgw).trans (g1 0 _ (by decide) rfl)
                have a1 := (hbl.cell (p := ⟨ga, _, none⟩) hgw).trans (g1 1 _ (by decide) rfl)
                have a2 := (hbl.cell (p := ⟨ga, _, none⟩) hgw).trans (g1 2 _ (by decide) rfl)
                have a3 := (hbl.cell (p := ⟨ga, _, none⟩) hgw).trans (g1 3 _ (by decide) rfl)
                rw [Nat.add_zero] at a0
                simp only [← Nat.add_assoc] at a1 a2 a3
                have HCL := hidX hcall
                have HBK := hidX hbk
                have HBD := hidX hbad
                have HGD := hidX hgood
                clear g1 e2 ra hcall hx hlx hbk hbad hgood
                go_wp2_with fail
                refine (HCL.out _ hbl).mono ?_
                rintro e w2 ⟨rfl, hb2⟩
                have hz3 := hb2.size
                have hb4 := bl_trans hbl hbl.size hb2
                clear a0 a1 a2 a3 d3
                by_cases hc : cx = 0
                · have HGD2 := hidX (HGD.out hc)
                  have hc' : ¬ (0 : Int) < (cx : Int) := by omega
                  clear hc HGD HBD
                  go_wp2
                  go_roundw
                  case rel => exact ⟨q + 1, by omega, by go_num, hb4, by omega, (hb2.block _ hz).trans HBK.out, HGD2.out⟩
                  case measure => simp [intOf]; omega
                · have hbd := HBD.out hc
                  have hc' : (0 : Int) < (cx : Int) := by omega
                  have hfin : res = cx := by rw [HE.out, hbd]; unfold andC; rw [if_neg hc]
                  have HBD2 := hidX hfin
                  clear hbd hc HE hfin HBD HGD
                  go_wp2
                  go_ret
                  exact ⟨by rw [HBD2.out]; rfl, hb4⟩
              · have hqn : q = ks.length := by omega
                subst hqn
                have HQ2 : Hid (res = callC F mm ks.length) := by
                  have := HQ.out; rw [List.take_length] at this
                  unfold Hid; rw [HE.out, this]; rfl
                have d0 : wr.cell? ⟨w.heap.size, 0, none⟩ = some (.string ⟨kCall.toArray⟩) := cell_of_blk hbk 0
                have d2 : wr.cell? ⟨w.heap.size, 2, none⟩ = some (.string ⟨mm.toArray⟩) := cell_of_blk hbk 2
                have hCr := HC.out.below hbl
                have HCR := hidX hCr
                have HBK := hidX hbk
                clear hbk hCr HE HQ d3
                have k1 : wr.cell? ⟨p, 1, none⟩ = some (.bool true) := cell_of_blk HCR.out.blk 1
                have k0 : wr.cell? ⟨p, 0, none⟩ = some fv := cell_of_blk HCR.out.blk 0
                obtain ⟨fx, hfr, hfk⟩ := HCR.out.fs
                obtain ⟨adf, cf, rfl⟩ := hfr.is
                have hF' : (F.length : Int) ≤ 10 := by omega
                have FR := hidX hfr
                have FK := hidX hfk
                clear hfr hfk
                rename World => wo
                go_wp2_with fail
                go_quiet (fail)
                go_wp2_with fail
                go_loopw [10] (fun vi wr => ∃ j : Nat, j ≤ F.length ∧ vi = .int .i64 j ∧ Below wo.heap.size wo wr ∧ Hid (∀ i (hi : i < F.length), i < j → F[i].name ≠ mm)) (fun vi _ => F.length - (intOf vi).toNat)
                case atStart => exact ⟨0, Nat.zero_le _, rfl, by (repeat (first | exact Below.refl _ _ | assumption | refine Below.drew ?_ | refine Below.trans ?_ (drewN_below' _ _ _) | refine Below.setCell ?_ (by first | (simp; done) | (simp; omega)) _ | refine Below.alloc ?_ (by first | (simp; done) | (simp; omega)) _)), fun i hi h => absurd h (by omega)⟩
                case round =>
                  obtain ⟨j, hj, rfl, hbj, HJ⟩ := hrel
                  have c0 : wr.cell? ⟨p, 0, none⟩ = some (.slice adf F.length cf) := (hbj.cell (p := ⟨p, 0, none⟩) (HCR.out.plt)).trans k0
                  have c2 : wr.cell? ⟨w.heap.size, 2, none⟩ = some (.string ⟨mm.toArray⟩) := (hbj.cell (p := ⟨w.heap.size, 2, none⟩) hz).trans d2
                  have hblj : Below w.heap.size w wr := bl_trans hbl hbl.size hbj
                  by_cases hlj : j < F.length
                  · have hlj' : (j : Int) < (F.length : Int) := by omega
                    obtain ⟨fa, f1, f2⟩ := FK.out.at hlj
                    obtain ⟨gf, off, rfl, hgf, g1⟩ := FR.out.el 3 hlj f2
                    have hlf := HFL.out _ (List.getElem_mem hlj)
                    have hat : F[j].name = mm → callC F mm ks.length = if F[j].params.length = ks.length then 0 else 9 := callC_at hlj (fun i hi => HJ.out i (by omega) hi)
                    have hno : F[j].name ≠ mm → ∀ i (hi : i < F.length), i < j + 1 → F[i].name ≠ mm := fun h i hi hij => by
                      rcases Nat.lt_or_ge i j with h' | h'
                      · exact HJ.out i hi h'
                      · have : i = j := by omega
                        subst this; exact h
                    generalize F[j] = x at f1 hlf hat hno
                    obtain ⟨xn, xp, xb⟩ := x
                    obtain ⟨pv, bv, bs, rfl, r2, r3, r4⟩ := f1
                    simp only at r2 r3 r4 hat hno
                    obtain ⟨adp, cp, rfl⟩ := r2.is
                    obtain ⟨adb, cb, rfl⟩ := r3.is
                    have hgl : gf < wo.heap.size := by have := HCR.out.plt; have := HCR.out.hp; omega
                    have a0 := (hbj.cell (p := ⟨gf, _, none⟩) hgl).trans (g1 0 _ (by decide) rfl)
                    have a1 := (hbj.cell (p := ⟨gf, _, none⟩) hgl).trans (g1 1 _ (by decide) rfl)
                    rw [Nat.add_zero] at a0
                    simp only [← Nat.add_assoc] at a1
                    have hpl : xp.length ≤ 8 := hlf.2.1
                    have hpl' : (xp.length : Int) ≤ 8 := by omega
                    have HAT := hidX hat
                    have HNO := hidX hno
                    clear g1 f2 r2 r3 r4 hlf hat hno
                    by_cases hn : xn = mm
                    · subst hn
                      by_cases hpn : xp.length = ks.length
                      · have hfin : res = 0 := by rw [HQ2.out, HAT.out rfl, if_pos hpn]
                        have hpn' : (xp.length : Int) = (ks.length : Int) := by omega
                        have HF := hidX hfin
                        clear hfin HQ2 HAT HNO
                        go_wp2_with fail
                        go_quiet (fail)
                        go_wp2
                        go_ret
                        exact ⟨by rw [HF.out]; rfl, by (repeat (first | exact Below.refl _ _ | assumption | refine Below.drew ?_ | refine Below.trans ?_ (drewN_below' _ _ _) | refine Below.setCell ?_ (by first | (simp; done) | (simp; omega)) _ | refine Below.alloc ?_ (by first | (simp; done) | (simp; omega)) _))⟩
                      · have hfin : res = 9 := by rw [HQ2.out, HAT.out rfl, if_neg hpn]
                        have hpn' : ¬ (xp.length : Int) = (ks.length : Int) := by omega
                        have HF := hidX hfin
                        clear hfin HQ2 HAT HNO hpn
                        go_wp2_with fail
                        go_quiet (fail)
                        go_wp2
                        go_ret
                        exact ⟨by rw [HF.out]; rfl, by (repeat (first | exact Below.refl _ _ | assumption | refine Below.drew ?_ | refine Below.trans ?_ (drewN_below' _ _ _) | refine Below.setCell ?_ (by first | (simp; done) | (simp; omega)) _ | refine Below.alloc ?_ (by first | (simp; done) | (simp; omega)) _))⟩
                    · have hn' := txt_ne hn
                      have HN2 := hidX (HNO.out hn)
                      clear hn HAT HNO
                      go_wp2_with fail
                      go_quiet (fail)
                      go_wp2
                      go_roundw
                      case rel => exact ⟨j + 1, by omega, by go_num, by (repeat (first | exact Below.refl _ _ | assumption | refine Below.drew ?_ | refine Below.trans ?_ (drewN_below' _ _ _) | refine Below.setCell ?_ (by first | (simp; done) | (simp; omega)) _ | refine Below.alloc ?_ (by first | (simp; done) | (simp; omega)) _)), HN2.out⟩
                      case measure => simp [intOf]; omega
                  · have hjn : j = F.length := by omega
                    subst hjn
                    have hfin : res = 6 := by
                      rw [HQ2.out]
                      refine callC_none ?_
                      rw [List.any_eq_false]
                      intro f hf
                      obtain ⟨i, hi, e⟩ := List.mem_iff_getElem.1 hf
                      have := HJ.out i hi hi
                      rw [e] at this
                      simpa using this
                    have HF := hidX hfin
                    clear hfin HQ2
                    go_wp2
                    go_ret
                    exact ⟨by rw [HF.out]; rfl, by (repeat (first | exact Below.refl _ _ | assumption | refine Below.drew ?_ | refine Below.trans ?_ (drewN_below' _ _ _) | refine Below.setCell ?_ (by first | (simp; done) | (simp; omega)) _ | refine Below.alloc ?_ (by first | (simp; done) | (simp; omega)) _))⟩
          | false =>
            have HE : Hid (res = 3) := by unfold Hid; rw [← HRES.out, exprC, if_pos (by rw [sh]; simp [hnm])]
            clear HRES sh hnm
            go_wp2
            go_ret
            exact ⟨by rw [HE.out]; rfl, hb01⟩
        · have c1' : (n == 0) = false := by simpa using c1
          have HE : Hid (res = 3) := by unfold Hid; rw [← HRES.out, exprC, if_pos (by rw [sh]; simp [c1])]
          clear HRES sh c1
          go_wp2
          go_ret
          exact ⟨by rw [HE.out]; rfl, hb01⟩
      · have n3 : (k == [99, 97, 108, 108]) = false := ne_lit k3
        by_cases k4 : k = kOne
        · subst k4
          have g21 : (kOne == [110, 117, 109]) = false := by decide
          have g22 : (kOne == [110, 97, 109, 101]) = false := by decide
          have g23 : (kOne == [99, 97, 108, 108]) = false := by decide
          have g24 : (kOne == [111, 110, 101]) = true := by decide
          have g25 : (kOne == [116, 119, 111]) = false := by decide
          have sh : shapeE kOne n mm ks.length = decide (n = 0 ∧ mm ∈ onesE ∧ ks.length = 1) := rfl
          clear n1 n2 n3
          by_cases c1 : n = 0
          · subst c1
            go_wp2_with fail
            refine (rIsOne_any mm w1).mono ?_
            rintro e w' ⟨rfl, hh⟩
            replace hh := hh.symm
            subst hh
            by_cases c2 : mm ∈ onesE
            · rw [show decide (mm ∈ onesE) = true by simpa using c2]
              by_cases c3 : ks.length = 1
              · have HE : Hid (res = andC (exprsC F vis ks) 0) := by unfold Hid; rw [← HRES.out, exprC, if_neg (by rw [sh]; simp [c2, c3]), if_neg k2, if_neg k3]
                have c3' : (ks.length : Int) = 1 := by omega
                have HC3 := hidX c3
                clear HRES sh c2 c3
                go_wp2_with fail
                go_loopw [8] (fun vi wr => ∃ q : Nat, q ≤ ks.length ∧ vi = .int .i64 q ∧ Below w.heap.size w wr ∧ w.heap.size < wr.heap.size ∧ wr.heap[w.heap.size]? = some (.cells #[.string ⟨kOne.toArray⟩, .int .i64 0, .string ⟨mm.toArray⟩, .slice ad ks.length cap] 112 (0, 0)) ∧ Hid (exprsC F vis (ks.take q) = 0)) (fun vi _ => ks.length - (intOf vi).toNat)
                case atStart => exact ⟨0, Nat.zero_le _, rfl, hb01, z1, BK.out, by unfold Hid; rw [List.take_zero, exprsC]⟩
                case round =>
                  clear d0 d1 d2 d3
                  obtain ⟨q, hq, rfl, hbl, hz, hbk, HQ⟩ := hrel
                  have d3 : wr.cell? ⟨w.heap.size, 3, none⟩ = some (.slice ad ks.length cap) := cell_of_blk hbk 3
                  by_cases hlt : q < ks.length
                  · have hlt' : (q : Int) < (ks.length : Int) := by omega
                    obtain ⟨ka, e1, e2⟩ := KK.out.at hlt
                    obtain ⟨ga, off, rfl, hga, g1⟩ := R.out.el 4 hlt e2
                    have hgw : ga < w.heap.size := by omega
                    have hx := IH.out _ (List.getElem_mem hlt)
                    have hlx := LL.out.mem _ (List.getElem_mem hlt)
                    have hbad : exprC F vis ks[q] ≠ 0 → exprsC F vis ks = exprC F vis ks[q] := exprs_bad hlt HQ.out
                    have hgood : exprC F vis ks[q] = 0 → exprsC F vis (ks.take (q + 1)) = 0 := exprs_good hlt HQ.out
                    generalize ks[q] = x at e1 hx hlx hbad hgood
                    have hcall : ∀ X, Below w.heap.size w X → Calls Tryz.prog 95 #[.pointer (some ⟨p, 0, none⟩), .agg ka.toArray] X fun ev w' => ev = .returned (.int .i64 ((exprC F vis x : Nat) : Int)) ∧ Below X.heap.size X w' := fun X hX =>
                      hx X B p fv av vv F all vis ka (HC.out.below hX) (XE.imp (fun _ h => h) (fun b hb => hX.block b (by omega)) _ _ e1) hlx hF HFL.out hV
                    obtain ⟨xk, xn, xm, xks⟩ := x
                    generalize exprC F vis (.mk xk xn xm xks) = cx at hcall hbad hgood
                    obtain ⟨ya, za, rfl, ra, _⟩ := e1
                    obtain ⟨ad1, cap1, rfl⟩ := ra.is
                    have a0 := (hbl.cell (p := ⟨ga, _, none⟩) hgw).trans (g1 0 _ (by decide) rfl)
                    have a1 := (hbl.cell (p := ⟨ga, _, none⟩) hgw).trans (g1 1 _ (by decide) rfl)
                    have a2 := (hbl.cell (p := ⟨ga, _, none⟩) hgw).trans (g1 2 _ (by decide) rfl)
                    have a3 := (hbl.cell (p := ⟨ga, _, none⟩) hgw).trans (g1 3 _ (by decide) rfl)
                    rw [Nat.add_zero] at a0
                    simp only [← Nat.add_assoc] at a1 a2 a3
                    have HCL := hidX hcall
                    have HBK := hidX hbk
                    have HBD := hidX hbad
                    have HGD := hidX hgood
                    clear g1 e2 ra hcall hx hlx hbk hbad hgood
                    go_wp2_with fail
                    refine (HCL.out _ hbl).mono ?_
                    rintro e w2 ⟨rfl, hb2⟩
                    have hz3 := hb2.size
                    have hb4 := bl_trans hbl hbl.size hb2
                    clear a0 a1 a2 a3 d3
                    by_cases hc : cx = 0
                    · have HGD2 := hidX (HGD.out hc)
                      have hc' : ¬ (0 : Int) < (cx : Int) := by omega
                      clear hc HGD HBD
                      go_wp2
                      go_roundw
                      case rel => exact ⟨q + 1, by omega, by go_num, hb4, by omega, (hb2.block _ hz).trans HBK.out, HGD2.out⟩
                      case measure => simp [intOf]; omega
                    · have hbd := HBD.out hc
                      have hc' : (0 : Int) < (cx : Int) := by omega
                      have hfin : res = cx := by rw [HE.out, hbd]; unfold andC; rw [if_neg hc]
                      have HBD2 := hidX hfin
                      clear hbd hc HE hfin HBD HGD
                      go_wp2
                      go_ret
                      exact ⟨by rw [HBD2.out]; rfl, hb4⟩
                  · have hqn : q = ks.length := by omega
                    subst hqn
                    have HQ2 : Hid (res = 0) := by
                      have := HQ.out; rw [List.take_length] at this
                      unfold Hid; rw [HE.out, this]; rfl
                    have d0 : wr.cell? ⟨w.heap.size, 0, none⟩ = some (.string ⟨kOne.toArray⟩) := cell_of_blk hbk 0
                    have d2 : wr.cell? ⟨w.heap.size, 2, none⟩ = some (.string ⟨mm.toArray⟩) := cell_of_blk hbk 2
                    have hCr := HC.out.below hbl
                    have HCR := hidX hCr
                    have HBK := hidX hbk
                    clear hbk hCr HE HQ d3
                    have k1 : wr.cell? ⟨p, 1, none⟩ = some (.bool true) := cell_of_blk HCR.out.blk 1
                    go_wp2_with fail
                    go_quiet (fail)
                    go_wp2
                    go_ret
                    exact ⟨by rw [HQ2.out]; rfl, by (repeat (first | exact Below.refl _ _ | assumption | refine Below.drew ?_ | refine Below.trans ?_ (drewN_below' _ _ _) | refine Below.setCell ?_ (by first | (simp; done) | (simp; omega)) _ | refine Below.alloc ?_ (by first | (simp; done) | (simp; omega)) _))⟩
              · have c3' : ((ks.length : Int) == 1) = false := by simp; omega
                have HE : Hid (res = 3) := by unfold Hid; rw [← HRES.out, exprC, if_pos (by rw [sh]; simp [c3])]
                clear HRES sh c3 c2
                go_wp2
                go_ret
                exact ⟨by rw [HE.out]; rfl, hb01⟩
            · rw [show decide (mm ∈ onesE) = false by simpa using c2]
              have HE : Hid (res = 3) := by unfold Hid; rw [← HRES.out, exprC, if_pos (by rw [sh]; simp [c2])]
              clear HRES sh c2
              go_wp2
              go_ret
              exact ⟨by rw [HE.out]; rfl, hb01⟩
          · have c1' : (n == 0) = false := by simpa using c1
            have HE : Hid (res = 3) := by unfold Hid; rw [← HRES.out, exprC, if_pos (by rw [sh]; simp [c1])]
            clear HRES sh c1
            go_wp2
            go_ret
            exact ⟨by rw [HE.out]; rfl, hb01⟩
        · have n4 : (k == [111, 110, 101]) = false := ne_lit k4
          by_cases k5 : k = kTwo
          · subst k5
            have g21 : (kTwo == [110, 117, 109]) = false := by decide
            have g22 : (kTwo == [110, 97, 109, 101]) = false := by decide
            have g23 : (kTwo == [99, 97, 108, 108]) = false := by decide
            have g24 : (kTwo == [111, 110, 101]) = false := by decide
            have g25 : (kTwo == [116, 119, 111]) = true := by decide
            have sh : shapeE kTwo n mm ks.length = decide (n = 0 ∧ mm ∈ twosE ∧ ks.length = 2) := rfl
            clear n1 n2 n3 n4
            by_cases c1 : n = 0
            · subst c1
              go_wp2_with fail
              refine (rIsTwo_any mm w1).mono ?_
              rintro e w5 ⟨rfl, hb5⟩
              have z5 : w.heap.size < w5.heap.size := by have := hb5.size; omega
              have hb05 : Below w.heap.size w w5 := bl_trans hb01 hb01.size hb5
              have BK5 := hidX ((hb5.block _ z1).trans BK.out)
              by_cases c2 : mm ∈ twosE
              · rw [show decide (mm ∈ twosE) = true by simpa using c2]
                by_cases c3 : ks.length = 2
                · have HE : Hid (res = andC (exprsC F vis ks) 0) := by unfold Hid; rw [← HRES.out, exprC, if_neg (by rw [sh]; simp [c2, c3]), if_neg k2, if_neg k3]
                  have c3' : (ks.length : Int) = 2 := by omega
                  have HC3 := hidX c3
                  clear HRES sh c2 c3
                  go_wp2_with fail
                  go_loopw [8] (fun vi wr => ∃ q : Nat, q ≤ ks.length ∧ vi = .int .i64 q ∧ Below w.heap.size w wr ∧ w.heap.size < wr.heap.size ∧ wr.heap[w.heap.size]? = some (.cells #[.string ⟨kTwo.toArray⟩, .int .i64 0, .string ⟨mm.toArray⟩, .slice ad ks.length cap] 112 (0, 0)) ∧ Hid (exprsC F vis (ks.take q) = 0)) (fun vi _ => ks.length - (intOf vi).toNat)
                  case atStart => exact ⟨0, Nat.zero_le _, rfl, hb05, z5, BK5.out, by unfold Hid; rw [List.take_zero, exprsC]⟩
                  case round =>
                    clear d0 d1 d2 d3
                    obtain ⟨q, hq, rfl, hbl, hz, hbk, HQ⟩ := hrel
                    have d3 : wr.cell? ⟨w.heap.size, 3, none⟩ = some (.slice ad ks.length cap) := cell_of_blk hbk 3
                    by_cases hlt : q < ks.length
                    · have hlt' : (q : Int) < (ks.length : Int) := by omega
                      obtain ⟨ka, e1, e2⟩ := KK.out.at hlt
                      obtain ⟨ga, off, rfl, hga, g1⟩ := R.out.el 4 hlt e2
                      have hgw : ga < w.heap.size := by omega
                      have hx := IH.out _ (List.getElem_mem hlt)
                      have hlx := LL.out.mem _ (List.getElem_mem hlt)
                      have hbad : exprC F vis ks[q] ≠ 0 → exprsC F vis ks = exprC F vis ks[q] := exprs_bad hlt HQ.out
                      have hgood : exprC F vis ks[q] = 0 → exprsC F vis (ks.take (q + 1)) = 0 := exprs_good hlt HQ.out
                      generalize ks[q] = x at e1 hx hlx hbad hgood
                      have hcall : ∀ X, Below w.heap.size w X → Calls Tryz.prog 95 #[.pointer (some ⟨p, 0, none⟩), .agg ka.toArray] X fun ev w' => ev = .returned (.int .i64 ((exprC F vis x : Nat) : Int)) ∧ Below X.heap.size X w' := fun X hX =>
                        hx X B p fv av vv F all vis ka (HC.out.below hX) (XE.imp (fun _ h => h) (fun b hb => hX.block b (by omega)) _ _ e1) hlx hF HFL.out hV
                      obtain ⟨xk, xn, xm, xks⟩ := x
                      generalize exprC F vis (.mk xk xn xm xks) = cx at hcall hbad hgood
                      obtain ⟨ya, za, rfl, ra, _⟩ := e1
                      obtain ⟨ad1, cap1, rfl⟩ := ra.is
                      have a0 := (hbl.cell (p := ⟨ga, _, none⟩) hgw).trans (g1 0 _ (by decide) rfl)
                      have a1 := (hbl.cell (p := ⟨ga, _, none⟩) hgw).trans (g1 1 _ (by decide) rfl)
                      have a2 := (hbl.cell (p := ⟨ga, _, none⟩) hgw).trans (g1 2 _ (by decide) rfl)
                      have a3 := (hbl.cell (p := ⟨ga, _, none⟩) hgw).trans (g1 3 _ (by decide) rfl)
                      rw [Nat.add_zero] at a0
                      simp only [← Nat.add_assoc] at a1 a2 a3
                      have HCL := hidX hcall
                      have HBK := hidX hbk
                      have HBD := hidX hbad
                      have HGD := hidX hgood
                      clear g1 e2 ra hcall hx hlx hbk hbad hgood
                      go_wp2_with fail
                      refine (HCL.out _ hbl).mono ?_
                      rintro e w2 ⟨rfl, hb2⟩
                      have hz3 := hb2.size
                      have hb4 := bl_trans hbl hbl.size hb2
                      clear a0 a1 a2 a3 d3
                      by_cases hc : cx = 0
                      · have HGD2 := hidX (HGD.out hc)
                        have hc' : ¬ (0 : Int) < (cx : Int) := by omega
                        clear hc HGD HBD
                        go_wp2
                        go_roundw
                        case rel => exact ⟨q + 1, by omega, by go_num, hb4, by omega, (hb2.block _ hz).trans HBK.out, HGD2.out⟩
                        case measure => simp [intOf]; omega
                      · have hbd := HBD.out hc
                        have hc' : (0 : Int) < (cx : Int) := by omega
                        have hfin : res = cx := by rw [HE.out, hbd]; unfold andC; rw [if_neg hc]
                        have HBD2 := hidX hfin
                        clear hbd hc HE hfin HBD HGD
                        go_wp2
                        go_ret
                        exact ⟨by rw [HBD2.out]; rfl, hb4⟩
                    · have hqn : q = ks.length := by omega
                      subst hqn
                      have HQ2 : Hid (res = 0) := by
                        have := HQ.out; rw [List.take_length] at this
                        unfold Hid; rw [HE.out, this]; rfl
                      have d0 : wr.cell? ⟨w.heap.size, 0, none⟩ = some (.string ⟨kTwo.toArray⟩) := cell_of_blk hbk 0
                      have d2 : wr.cell? ⟨w.heap.size, 2, none⟩ = some (.string ⟨mm.toArray⟩) := cell_of_blk hbk 2
                      have hCr := HC.out.below hbl
                      have HCR := hidX hCr
                      have HBK := hidX hbk
                      clear hbk hCr HE HQ d3
                      have k1 : wr.cell? ⟨p, 1, none⟩ = some (.bool true) := cell_of_blk HCR.out.blk 1
                      go_wp2_with fail
                      go_quiet (fail)
                      go_wp2
                      go_ret
                      exact ⟨by rw [HQ2.out]; rfl, by (repeat (first | exact Below.refl _ _ | assumption | refine Below.drew ?_ | refine Below.trans ?_ (drewN_below' _ _ _) | refine Below.setCell ?_ (by first | (simp; done) | (simp; omega)) _ | refine Below.alloc ?_ (by first | (simp; done) | (simp; omega)) _))⟩
                · have c3' : ((ks.length : Int) == 2) = false := by simp; omega
                  have HE : Hid (res = 3) := by unfold Hid; rw [← HRES.out, exprC, if_pos (by rw [sh]; simp [c3])]
                  clear HRES sh c3 c2
                  go_wp2
                  go_ret
                  exact ⟨by rw [HE.out]; rfl, hb05⟩
              · rw [show decide (mm ∈ twosE) = false by simpa using c2]
                have HE : Hid (res = 3) := by unfold Hid; rw [← HRES.out, exprC, if_pos (by rw [sh]; simp [c2])]
                clear HRES sh c2
                go_wp2
                go_ret
                exact ⟨by rw [HE.out]; rfl, hb05⟩
            · have c1' : (n == 0) = false := by simpa using c1
              have HE : Hid (res = 3) := by unfold Hid; rw [← HRES.out, exprC, if_pos (by rw [sh]; simp [c1])]
              clear HRES sh c1
              go_wp2
              go_ret
              exact ⟨by rw [HE.out]; rfl, hb01⟩
          · have n5 : (k == [116, 119, 111]) = false := ne_lit k5
            have HE : Hid (res = 3) := by unfold Hid; rw [← HRES.out, exprC, if_pos (by unfold shapeE; rw [if_neg k1, if_neg k2, if_neg k3, if_neg k4, if_neg k5])]
            clear HRES k1 k2 k3 k4 k5
            go_wp2
            go_ret
            exact ⟨by rw [HE.out]; rfl, hb01⟩
mutual
theorem kex_any : ∀ e : Ex, KEx e
  | .mk k n m ks => kex_mk k n m ks (kexs_any ks)
theorem kexs_any : ∀ l : List Ex, ∀ e ∈ l, KEx e
  | [], _, h => absurd h (by simp)
  | e :: r, x, h => by
    rcases List.mem_cons.1 h with h | h
    · rw [h]; exact kex_any e
    · exact kexs_any r x h
end
end Go.Proofs.YtcebpmaggnephabGreatDoor
