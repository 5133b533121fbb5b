/-
  Our own: the law CheckTells: what is well, variables and calls are as the document's own model tells them.
-/
import Derived.Test.YtcebpmaggnephabGreatDoorRefWhole
import Derived.Test.YtcebpmaggnephabGreatDoorCheckCode
import Derived.Test.YtcebpmaggnephabGreatDoorFaulted
import Derived.Deep.RegionHeld3
namespace Go.Proofs.YtcebpmaggnephabGreatDoor
open Go.RowKit Go.Maps

theorem own_xlfR {w : World} {B size : Nat} {t : TypeId} {v : Value} {l : List Fu} {ys : List Value} (h : w.ownsRow B t size v l.length ys) (hx : XFs (KA B w v) w l ys) : XLF (InH w) w v l :=
  ⟨ys, (xrow_own h).imp (fun _ hb => hb.2) (fun _ _ => rfl), XFs.imp (fun _ hb => hb.2.1) (fun _ _ => rfl) _ _ hx⟩
theorem onceF_len (f : Fu) : (callsF f).length ≤ nodesS f.body := by
  have h1 := onceL_lenR (callsS f.body) []
  have h2 := callsS_lenR f.body
  simp at h1
  unfold callsF; omega
theorem varsF_len (f : Fu) : (varsF f).length ≤ f.params.length + nodesS f.body := by
  have h := varsS_len f.body
  unfold varsF; rw [List.length_append]; omega
/-- A row that one function made, whatever came since. -/
theorem row_since {X Y : World} {B n size : Nat} {t : TypeId} {v : Value} {xs : List Value} (h : X.ownsRow B t size v n xs) (hb : Below X.heap.size X Y) : XRow (InH Y) Y v n xs := (xrow_own (owns_below h hb)).imp (fun _ hb => hb.2) (fun _ _ => rfl)
/-- Six cells of two blocks. -/
abbrev Cells6 (gp op gl ol : Nat) (u0 u1 u2 v0 v1 v2 : Value) (W : World) : Prop := W.cell? ⟨gp, op, none⟩ = some u0 ∧ W.cell? ⟨gp, op + 1, none⟩ = some u1 ∧ W.cell? ⟨gp, op + 2, none⟩ = some u2 ∧ W.cell? ⟨gl, ol, none⟩ = some v0 ∧ W.cell? ⟨gl, ol + 1, none⟩ = some v1 ∧ W.cell? ⟨gl, ol + 2, none⟩ = some v2
theorem Cells6.keep {gp op gl ol : Nat} {u0 u1 u2 v0 v1 v2 : Value} {W W' : World} (h : Cells6 gp op gl ol u0 u1 u2 v0 v1 v2 W) (hb : Below W.heap.size W W') (h1 : gp < W.heap.size) (h2 : gl < W.heap.size) : Cells6 gp op gl ol u0 u1 u2 v0 v1 v2 W' :=
  ⟨(hb.cell (p := ⟨gp, _, none⟩) h1).trans h.1, (hb.cell (p := ⟨gp, _, none⟩) h1).trans h.2.1, (hb.cell (p := ⟨gp, _, none⟩) h1).trans h.2.2.1, (hb.cell (p := ⟨gl, _, none⟩) h2).trans h.2.2.2.1, (hb.cell (p := ⟨gl, _, none⟩) h2).trans h.2.2.2.2.1, (hb.cell (p := ⟨gl, _, none⟩) h2).trans h.2.2.2.2.2⟩
set_option maxRecDepth 100000 in
set_option maxHeartbeats 4000000 in
theorem checkTells_any (a : Nat → Addr) (l : List Fu) (adl : Option Addr) (cl : Nat) (w : World) (hS : Sents w a) (hX : XLF (InH w) w (.slice adl l.length cl) l) (hl : l.length ≤ 9223372036854775807) (hcl : l.length ≤ cl) (hcl' : (cl : Int) ≤ 9223372036854775807) (hO : ∀ f ∈ l, OkF f) :
    Calls Tryz.prog 4 #[.slice adl l.length cl] w fun e w' => e = .returned (.bool true) ∧ Below w.heap.size w w' := by
  have HSS := hidX hS
  have HX := hidX hX
  have HO := hidX hO
  clear hS hX hO
  go_enter Tryz.func4, Tryz.ntmps4
  go_wp2_with fail
  refine (checked_any a w HSS.out).mono ?_
  rintro e W1 ⟨rfl, hb1⟩
  go_wp2_with fail
  refine (large_any l 300 (by omega) W1 _ (HX.out.imp (inH_up hb1) (keepH hb1)) hl HO.out).mono ?_
  rintro e W2 ⟨r, rfl, hr, hb2⟩
  have hbw2 : Below w.heap.size w W2 := hb1.trans (hb2.mono hb1.size)
  rcases hr with rfl | ⟨rfl, hl10, hlow, hnod⟩
  · go_wp2
    go_ret
    exact ⟨rfl, hbw2⟩
  · have HLW := hidX hlow
    have HND := hidX hnod
    clear hlow hnod
    go_wp2_with fail
    refine (asFuns_any l hl10 HLW.out W2 _ (HX.out.imp (inH_up hbw2) (keepH hbw2))).mono ?_
    rintro e W3 ⟨hb3, vp, ys, rfl, hown, hxs⟩
    have hX3 := own_xlfR hown hxs
    have hbw3 : Below w.heap.size w W3 := hbw2.trans (hb3.mono hbw2.size)
    have HX3 := hidX hX3
    have hl' : (l.length : Int) ≤ 10 := by omega
    clear hown hxs hX3
    go_wp2_with fail
    refine (program_any a l hl10 HLW.out W3 (HSS.out.below hbw3) vp HX3.out).mono ?_
    rintro e W4 ⟨hb4, hp⟩
    have hbw4 : Below w.heap.size w W4 := hbw3.trans (hb4.mono hbw3.size)
    have hrp : Calls Tryz.prog 16 #[.slice adl l.length cl] W4 fun e w' => e = .returned (.agg #[.int .i64 (progC l).1, .int .i64 (progC l).2]) ∧ Below W4.heap.size W4 w' := rProg_any l hl10 HLW.out W4 adl cl (HX.out.imp (inH_up hbw4) (keepH hbw4)) hcl hcl'
    have HRP := hidX hrp
    clear hrp
    have hfa : ∃ ev, e = .returned ev ∧ ∀ W5, Below W4.heap.size W4 W5 → Calls Tryz.prog 10 #[ev, .agg #[.int .i64 (progC l).1, .int .i64 (progC l).2]] W5 fun e w' => e = .returned (.bool true) ∧ Below W5.heap.size W5 w' := by
      by_cases h8 : 8 < l.length
      · rw [if_pos h8] at hp
        refine ⟨_, hp, fun W5 h5 => ?_⟩
        rw [progC_full h8]
        exact faulted_str a 7 (by omega) 8 rfl W5 (HSS.out.below (hbw4.trans (h5.mono hbw4.size)))
      · rw [if_neg h8] at hp
        cases hfc : funsC l [] l with
        | none =>
          rw [hfc] at hp
          refine ⟨_, hp, fun W5 h5 => ?_⟩
          rw [progC_none h8 hfc]
          exact faulted_nil W5
        | some ci =>
          obtain ⟨c, i⟩ := ci
          rw [hfc] at hp
          obtain ⟨hc0, b, he, hbb, hblk⟩ := hp
          refine ⟨_, he, fun W5 h5 => ?_⟩
          rw [progC_some h8 hfc]
          have hc9 := funsC_low l l [] c i hfc
          exact faulted_fault a (c - 1) (by omega) (c : Int) (by omega) b (i : Int) W5 (HSS.out.below (hbw4.trans (h5.mono hbw4.size))) ((h5.block b (heap_lt hblk)).trans hblk)
    obtain ⟨ev, he, hfa⟩ := hfa
    subst he
    have HFA := hidX hfa
    clear hp hfa
    go_wp2_with fail
    refine HRP.out.mono ?_
    rintro e W5 ⟨rfl, hb5⟩
    go_wp2_with fail
    refine (HFA.out W5 hb5).mono ?_
    rintro e W6 ⟨rfl, hb6⟩
    have hb46 : Below W4.heap.size W4 W6 := bl_trans hb5 hb5.size hb6
    have hbw6 : Below w.heap.size w W6 := bl_trans hbw4 hbw4.size hb46
    obtain ⟨zs, hr6, hk6⟩ := HX3.out.imp (inH_up (bl_trans hb4 hb4.size hb46)) (keepH (bl_trans hb4 hb4.size hb46))
    obtain ⟨us, hr7, hk7⟩ := HX.out.imp (inH_up hbw6) (keepH hbw6)
    obtain ⟨adp, capp, rfl⟩ := hr6.is
    have R := hidX hr6
    have KK := hidX hk6
    have R7 := hidX hr7
    have K7 := hidX hk7
    clear hr6 hk6 hr7 hk7 HX3 HX HO hl HRP HFA hb5 hb6 hb46
    go_wp2_with fail
    go_loopw [5] (fun vi wr => ∃ q : Nat, q ≤ l.length ∧ vi = .int .i64 q ∧ Below W6.heap.size W6 wr) (fun vi _ => l.length - (intOf vi).toNat)
    case atStart => exact ⟨0, Nat.zero_le _, rfl, Below.refl _ _⟩
    case round =>
      obtain ⟨q, hq, rfl, hbl⟩ := hrel
      by_cases hlt : q < l.length
      · have hlt' : (q : Int) < (l.length : Int) := by omega
        obtain ⟨pa, f1, f2⟩ := KK.out.at hlt
        obtain ⟨la, f3, f4⟩ := K7.out.at hlt
        have hmem := List.getElem_mem hlt
        have hlw := HLW.out _ hmem
        have hnd : nodesS l[q].body ≤ 1000 := by have := nodesF_mem hmem; have := HND.out; omega
        have hv : ∀ X, Below wr.heap.size wr X → Calls Tryz.prog 18 #[.agg pa.toArray] X (TextsTo X (varsF l[q])) := fun X hX => vars_any l[q] X pa (f1.imp (inH_up (bl_trans hbl hbl.size hX)) (keepH (bl_trans hbl hbl.size hX))) hlw hnd
        have hrv : ∀ X, Below wr.heap.size wr X → Calls Tryz.prog 19 #[.agg la.toArray] X (TextsTo X (varsF l[q])) := fun X hX => rVarsOf_any l[q] X la (f3.imp (inH_up (bl_trans hbl hbl.size hX)) (keepH (bl_trans hbl hbl.size hX))) hlw hnd
        have hc : ∀ X, Below wr.heap.size wr X → Calls Tryz.prog 20 #[.agg pa.toArray] X (TextsTo X (callsF l[q])) := fun X hX => calls_any l[q] X pa (f1.imp (inH_up (bl_trans hbl hbl.size hX)) (keepH (bl_trans hbl hbl.size hX))) hlw hnd
        have hrc : ∀ X, Below wr.heap.size wr X → Calls Tryz.prog 21 #[.agg la.toArray] X (TextsTo X (callsF l[q])) := fun X hX => rCallsOf_any l[q] X la (f3.imp (inH_up (bl_trans hbl hbl.size hX)) (keepH (bl_trans hbl hbl.size hX))) hlw hnd
        have hvl : (varsF l[q]).length ≤ 5000 := by have := varsF_len l[q]; have := hlw.2.1; omega
        have hcl5 : (callsF l[q]).length ≤ 5000 := by have := onceF_len l[q]; omega
        obtain ⟨gp, offp, rfl, hgp, g1⟩ := R.out.el 3 hlt f2
        obtain ⟨gl, offl, rfl, hgl, g2⟩ := R7.out.el 3 hlt f4
        generalize varsF l[q] = vl at hv hrv hvl
        generalize callsF l[q] = cs at hc hrc hcl5
        generalize l[q] = y at f1 f3
        obtain ⟨yn, yp, yb⟩ := y
        obtain ⟨pv, bv, bs, rfl, q2, q3, q4⟩ := f1
        obtain ⟨pv', bv', bs', rfl, p2, p3, p4⟩ := f3
        obtain ⟨adp1, cp1, rfl⟩ := q2.is
        obtain ⟨adb1, cb1, rfl⟩ := q3.is
        obtain ⟨adp2, cp2, rfl⟩ := p2.is
        obtain ⟨adb2, cb2, rfl⟩ := p3.is
        have a0 := (hbl.cell (p := ⟨gp, _, none⟩) hgp).trans (g1 0 _ (by decide) rfl)
        have a1 := (hbl.cell (p := ⟨gp, _, none⟩) hgp).trans (g1 1 _ (by decide) rfl)
        have a2 := (hbl.cell (p := ⟨gp, _, none⟩) hgp).trans (g1 2 _ (by decide) rfl)
        have b0 := (hbl.cell (p := ⟨gl, _, none⟩) hgl).trans (g2 0 _ (by decide) rfl)
        have b1 := (hbl.cell (p := ⟨gl, _, none⟩) hgl).trans (g2 1 _ (by decide) rfl)
        have b2 := (hbl.cell (p := ⟨gl, _, none⟩) hgl).trans (g2 2 _ (by decide) rfl)
        rw [Nat.add_zero] at a0 b0
        simp only [← Nat.add_assoc] at a0 a1 a2 b0 b1 b2
        have hpz : gp < wr.heap.size := by have := hbl.size; have : gp < W6.heap.size := hgp; omega
        have hlz : gl < wr.heap.size := by have := hbl.size; have : gl < W6.heap.size := hgl; omega
        have HV := hidX hv
        have HRV := hidX hrv
        have HC := hidX hc
        have HRC := hidX hrc
        have c6 : Cells6 gp (offp + q * 3) gl (offl + q * 3) (.string ⟨yn.toArray⟩) (.slice adp1 yp.length cp1) (.slice adb1 yb.length cb1) (.string ⟨yn.toArray⟩) (.slice adp2 yp.length cp2) (.slice adb2 yb.length cb2) wr := ⟨a0, a1, a2, b0, b1, b2⟩
        have C6 := hidX c6
        clear hv hrv hc hrc g1 g2 f2 f4 q2 q3 q4 p2 p3 p4 c6
        go_wp2_with fail
        go_region_held3 (fun W => W.cell? ⟨gp, offp + q * 3, none⟩ = some (.string ⟨yn.toArray⟩) ∧ W.cell? ⟨gp, offp + q * 3 + 1, none⟩ = some (.slice adp1 yp.length cp1) ∧ W.cell? ⟨gp, offp + q * 3 + 2, none⟩ = some (.slice adb1 yb.length cb1) ∧ W.cell? ⟨gl, offl + q * 3, none⟩ = some (.string ⟨yn.toArray⟩) ∧ W.cell? ⟨gl, offl + q * 3 + 1, none⟩ = some (.slice adp2 yp.length cp2) ∧ W.cell? ⟨gl, offl + q * 3 + 2, none⟩ = some (.slice adb2 yb.length cb2))
          (first | with_reducible exact s6 | with_reducible exact s5 | with_reducible exact s4 | with_reducible exact s3 | with_reducible exact s2 | with_reducible exact s1 | exact C6.out)
          (first
            | (go_at_call 18; refine (HV.out _ (by (repeat (first | exact Below.refl _ _ | assumption | refine Below.drew ?_ | refine Below.trans ?_ (drewN_below' _ _ _) | refine Below.setCell ?_ (by first | (simp; done) | (simp; omega)) _ | refine Below.alloc ?_ (by first | (simp; done) | (simp; omega)) _)))).mono ?_; rintro e X1 ⟨hx1, ad1, c1, rfl, ho1⟩; have bX1 : Below wr.heap.size wr X1 := bl_trans (show Below wr.heap.size wr _ by (repeat (first | exact Below.refl _ _ | assumption | refine Below.drew ?_ | refine Below.trans ?_ (drewN_below' _ _ _) | refine Below.setCell ?_ (by first | (simp; done) | (simp; omega)) _ | refine Below.alloc ?_ (by first | (simp; done) | (simp; omega)) _))) (by first | exact Nat.le_refl _ | (simp; done) | (simp; omega)) hx1; have HO1 := hidX ho1; have s1 := C6.out.keep bX1 hpz hlz; clear ho1 hx1)
            | (go_at_call 19; refine (HRV.out _ (by (repeat (first | exact Below.refl _ _ | assumption | refine Below.drew ?_ | refine Below.trans ?_ (drewN_below' _ _ _) | refine Below.setCell ?_ (by first | (simp; done) | (simp; omega)) _ | refine Below.alloc ?_ (by first | (simp; done) | (simp; omega)) _)))).mono ?_; rintro e X2 ⟨hx2, ad2, c2, rfl, ho2⟩; have bX12 : Below X1.heap.size X1 X2 := bl_trans (show Below X1.heap.size X1 _ by (repeat (first | exact Below.refl _ _ | assumption | refine Below.drew ?_ | refine Below.trans ?_ (drewN_below' _ _ _) | refine Below.setCell ?_ (by first | (simp; done) | (simp; omega)) _ | refine Below.alloc ?_ (by first | (simp; done) | (simp; omega)) _))) (by first | exact Nat.le_refl _ | (simp; done) | (simp; omega)) hx2; have bX2 : Below wr.heap.size wr X2 := bl_trans bX1 bX1.size bX12; have HO2 := hidX ho2; have s2 := C6.out.keep bX2 hpz hlz; clear ho2 hx2)
            | (go_at_call 20; refine (HC.out _ (by (repeat (first | exact Below.refl _ _ | assumption | refine Below.drew ?_ | refine Below.trans ?_ (drewN_below' _ _ _) | refine Below.setCell ?_ (by first | (simp; done) | (simp; omega)) _ | refine Below.alloc ?_ (by first | (simp; done) | (simp; omega)) _)))).mono ?_; rintro e X4 ⟨hx4, ad4, c4, rfl, ho4⟩; have bX4 : Below wr.heap.size wr X4 := bl_trans (show Below wr.heap.size wr _ by (repeat (first | exact Below.refl _ _ | assumption | refine Below.drew ?_ | refine Below.trans ?_ (drewN_below' _ _ _) | refine Below.setCell ?_ (by first | (simp; done) | (simp; omega)) _ | refine Below.alloc ?_ (by first | (simp; done) | (simp; omega)) _))) (by first | exact bX3.size | exact Nat.le_refl _ | (simp; done) | (simp; omega)) hx4; have HO4 := hidX ho4; have s4 := C6.out.keep bX4 hpz hlz; clear ho4 hx4)
            | (go_at_call 21; refine (HRC.out _ (by (repeat (first | exact Below.refl _ _ | assumption | refine Below.drew ?_ | refine Below.trans ?_ (drewN_below' _ _ _) | refine Below.setCell ?_ (by first | (simp; done) | (simp; omega)) _ | refine Below.alloc ?_ (by first | (simp; done) | (simp; omega)) _)))).mono ?_; rintro e X5 ⟨hx5, ad5, c5, rfl, ho5⟩; have bX45 : Below X4.heap.size X4 X5 := bl_trans (show Below X4.heap.size X4 _ by (repeat (first | exact Below.refl _ _ | assumption | refine Below.drew ?_ | refine Below.trans ?_ (drewN_below' _ _ _) | refine Below.setCell ?_ (by first | (simp; done) | (simp; omega)) _ | refine Below.alloc ?_ (by first | (simp; done) | (simp; omega)) _))) (by first | exact Nat.le_refl _ | (simp; done) | (simp; omega)) hx5; have bX5 : Below wr.heap.size wr X5 := bl_trans bX4 bX4.size bX45; have HO5 := hidX ho5; have s5 := C6.out.keep bX5 hpz hlz; clear ho5 hx5)
            | (have hprev := HO5; clear hprev; go_at_call 17; refine (sameTextsX cs hcl5 _ _ _ _ _ (row_since (owns_below HO4.out bX45) (by (repeat (first | exact Below.refl _ _ | assumption | refine Below.drew ?_ | refine Below.trans ?_ (drewN_below' _ _ _) | refine Below.setCell ?_ (by first | (simp; done) | (simp; omega)) _ | refine Below.alloc ?_ (by first | (simp; done) | (simp; omega)) _)))) (row_since HO5.out (by (repeat (first | exact Below.refl _ _ | assumption | refine Below.drew ?_ | refine Below.trans ?_ (drewN_below' _ _ _) | refine Below.setCell ?_ (by first | (simp; done) | (simp; omega)) _ | refine Below.alloc ?_ (by first | (simp; done) | (simp; omega)) _))))).mono ?_; rintro e X6 ⟨rfl, hx6⟩; have bX6 : Below wr.heap.size wr X6 := bl_trans (show Below wr.heap.size wr _ by (repeat (first | exact Below.refl _ _ | assumption | refine Below.drew ?_ | refine Below.trans ?_ (drewN_below' _ _ _) | refine Below.setCell ?_ (by first | (simp; done) | (simp; omega)) _ | refine Below.alloc ?_ (by first | (simp; done) | (simp; omega)) _))) (by first | exact bX5.size | exact Nat.le_refl _ | (simp; done) | (simp; omega)) hx6; have s6 := C6.out.keep bX6 hpz hlz; clear hx6)
            | (go_at_call 17; refine (sameTextsX vl hvl _ _ _ _ _ (row_since (owns_below HO1.out bX12) (by (repeat (first | exact Below.refl _ _ | assumption | refine Below.drew ?_ | refine Below.trans ?_ (drewN_below' _ _ _) | refine Below.setCell ?_ (by first | (simp; done) | (simp; omega)) _ | refine Below.alloc ?_ (by first | (simp; done) | (simp; omega)) _)))) (row_since HO2.out (by (repeat (first | exact Below.refl _ _ | assumption | refine Below.drew ?_ | refine Below.trans ?_ (drewN_below' _ _ _) | refine Below.setCell ?_ (by first | (simp; done) | (simp; omega)) _ | refine Below.alloc ?_ (by first | (simp; done) | (simp; omega)) _))))).mono ?_; rintro e X3 ⟨rfl, hx3⟩; have bX3 : Below wr.heap.size wr X3 := bl_trans (show Below wr.heap.size wr _ by (repeat (first | exact Below.refl _ _ | assumption | refine Below.drew ?_ | refine Below.trans ?_ (drewN_below' _ _ _) | refine Below.setCell ?_ (by first | (simp; done) | (simp; omega)) _ | refine Below.alloc ?_ (by first | (simp; done) | (simp; omega)) _))) (by first | exact bX2.size | exact Nat.le_refl _ | (simp; done) | (simp; omega)) hx3; have s3 := C6.out.keep bX3 hpz hlz; clear hx3))
        all_goals (
          have hbX6 : Below W6.heap.size W6 X6 := bl_trans hbl hbl.size bX6
          go_wp2
          go_roundw
          case rel => exact ⟨q + 1, by omega, by go_num, hbX6⟩
          case measure => simp [intOf]; omega)
      · have hqn : q = l.length := by omega
        subst hqn
        go_wp2
        go_ret
        exact ⟨rfl, bl_trans hbw6 hbw6.size hbl⟩
end Go.Proofs.YtcebpmaggnephabGreatDoor
