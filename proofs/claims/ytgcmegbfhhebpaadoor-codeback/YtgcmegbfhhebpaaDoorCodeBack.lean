/-
  Our own: law 3's CodeBack: a word that is an instruction is that instruction's word, and back; texts tell instructions apart. Written by wip/gen/mkcodeback.py.
-/
import Derived.Test.YtgcmegbfhhebpaaDoorCdEq
import Derived.Deep.RegionHeld3
namespace Go.Proofs.YtgcmegbfhhebpaaDoor
open Go.RowKit

theorem keep15 {xo yo : List UInt8} {xd xa xb xi yd ya yb yi : Int} {b1 b2 b3 B : Nat} {W W' : World} (h : W.cell? ⟨b1, 0, none⟩ = some (.string ⟨xo.toArray⟩) ∧ W.cell? ⟨b1, 1, none⟩ = some (.int .i64 xd) ∧ W.cell? ⟨b1, 2, none⟩ = some (.int .i64 xa) ∧ W.cell? ⟨b1, 3, none⟩ = some (.int .i64 xb) ∧ W.cell? ⟨b1, 4, none⟩ = some (.int .i64 xi) ∧ W.cell? ⟨b2, 0, none⟩ = some (.string ⟨xo.toArray⟩) ∧ W.cell? ⟨b2, 1, none⟩ = some (.int .i64 xd) ∧ W.cell? ⟨b2, 2, none⟩ = some (.int .i64 xa) ∧ W.cell? ⟨b2, 3, none⟩ = some (.int .i64 xb) ∧ W.cell? ⟨b2, 4, none⟩ = some (.int .i64 xi) ∧ W.cell? ⟨b3, 0, none⟩ = some (.string ⟨yo.toArray⟩) ∧ W.cell? ⟨b3, 1, none⟩ = some (.int .i64 yd) ∧ W.cell? ⟨b3, 2, none⟩ = some (.int .i64 ya) ∧ W.cell? ⟨b3, 3, none⟩ = some (.int .i64 yb) ∧ W.cell? ⟨b3, 4, none⟩ = some (.int .i64 yi)) (hb : Below B W W') (h1 : b1 < B) (h2 : b2 < B) (h3 : b3 < B) : W'.cell? ⟨b1, 0, none⟩ = some (.string ⟨xo.toArray⟩) ∧ W'.cell? ⟨b1, 1, none⟩ = some (.int .i64 xd) ∧ W'.cell? ⟨b1, 2, none⟩ = some (.int .i64 xa) ∧ W'.cell? ⟨b1, 3, none⟩ = some (.int .i64 xb) ∧ W'.cell? ⟨b1, 4, none⟩ = some (.int .i64 xi) ∧ W'.cell? ⟨b2, 0, none⟩ = some (.string ⟨xo.toArray⟩) ∧ W'.cell? ⟨b2, 1, none⟩ = some (.int .i64 xd) ∧ W'.cell? ⟨b2, 2, none⟩ = some (.int .i64 xa) ∧ W'.cell? ⟨b2, 3, none⟩ = some (.int .i64 xb) ∧ W'.cell? ⟨b2, 4, none⟩ = some (.int .i64 xi) ∧ W'.cell? ⟨b3, 0, none⟩ = some (.string ⟨yo.toArray⟩) ∧ W'.cell? ⟨b3, 1, none⟩ = some (.int .i64 yd) ∧ W'.cell? ⟨b3, 2, none⟩ = some (.int .i64 ya) ∧ W'.cell? ⟨b3, 3, none⟩ = some (.int .i64 yb) ∧ W'.cell? ⟨b3, 4, none⟩ = some (.int .i64 yi) := by
  obtain ⟨c0, c1, c2, c3, c4, c5, c6, c7, c8, c9, c10, c11, c12, c13, c14⟩ := h
  exact ⟨(hb.cell h1).trans c0, (hb.cell h1).trans c1, (hb.cell h1).trans c2, (hb.cell h1).trans c3, (hb.cell h1).trans c4, (hb.cell h2).trans c5, (hb.cell h2).trans c6, (hb.cell h2).trans c7, (hb.cell h2).trans c8, (hb.cell h2).trans c9, (hb.cell h3).trans c10, (hb.cell h3).trans c11, (hb.cell h3).trans c12, (hb.cell h3).trans c13, (hb.cell h3).trans c14⟩
theorem erV_not {a : Nat → Addr} {c : Nat} (h : ¬ c = 0) : erV a c = sentV (a c) := if_neg h
set_option maxRecDepth 100000 in
set_option maxHeartbeats 8000000 in
theorem codeBack_any (v : Nat) (hv : v < 18446744073709551616) (x y : Ci) (a : Nat → Addr) (w : World) (hW : CdW w a) : Calls Tryd.prog 3 #[.int .u64 v, ciV x, ciV y] w fun e w' => e = .returned (.bool true) ∧ Below w.heap.size w w' := by
  have H0 := hidX fun W (hb : Below w.heap.size w W) => coding_any a W (hW.below hb)
  have HD := hidX fun W u hu (hb : Below w.heap.size w W) => dec_any u hu a W (hW.below hb).tab (hW.below hb).err
  have HE := hidX fun W i (hb : Below w.heap.size w W) => enc_any i a W (hW.below hb).tab (hW.below hb).err
  have HT := hidX fun W i (hb : Below w.heap.size w W) => text_any i a W (hW.below hb).tab (hW.below hb).err (hW.below hb).dig
  clear hW
  have hd1 := dec_nat (v := v)
  generalize hcv : coChk (coNum (v / 72057594037927936)) (decC v) = cv at hd1
  generalize hDv : decR v = Dv at hd1
  have HDV : Hid (∀ W : World, Below w.heap.size w W → Calls Tryd.prog 5 #[.int .u64 v] W fun e w' => e = .returned (.tuple #[ciV Dv, erV a cv]) ∧ Below W.heap.size W w') := fun W hb => by
    have := HD.out W v hv hb
    rw [hcv, hDv] at this
    exact this
  have HD1 := hidX hd1
  clear hd1 hcv hDv
  obtain ⟨xo, xd, xa, xb, xi⟩ := x
  obtain ⟨yo, yd, ya, yb, yi⟩ := y
  obtain ⟨io, id, ia, ib, ii⟩ := Dv
  by_cases lx : xo.length ≤ 20
  rotate_left
  · have lx' : (20 : Int) < xo.length := by omega
    go_enter Tryd.func3, Tryd.ntmps3
    go_wp2_with fail
    refine (H0.out _ (by (repeat (first | exact Below.refl _ _ | assumption | refine Below.drew ?_ | refine bT ?_ _ | refine bS ?_ _ | refine bA ?_ _)))).mono ?_
    rintro e w1 ⟨rfl, hb1⟩
    have hz0 : ((w.alloc (Obj.cells #[.string ⟨xo.toArray⟩, .int .i64 xd, .int .i64 xa, .int .i64 xb, .int .i64 xi] 24)).alloc (Obj.cells #[.string ⟨yo.toArray⟩, .int .i64 yd, .int .i64 ya, .int .i64 yb, .int .i64 yi] 24)).heap.size = w.heap.size + 2 := by simp
    have hbx : w1.heap[w.heap.size]? = some (.cells #[.string ⟨xo.toArray⟩, .int .i64 xd, .int .i64 xa, .int .i64 xb, .int .i64 xi] 24 (0, 0)) := (hb1.block _ (by omega)).trans ((Below.heap_alloc _ _ _ (by simp)).trans (heap_alloc_new _ _))
    have hby : w1.heap[w.heap.size + 1]? = some (.cells #[.string ⟨yo.toArray⟩, .int .i64 yd, .int .i64 ya, .int .i64 yb, .int .i64 yi] 24 (0, 0)) := (hb1.block _ (by omega)).trans (heap_alloc2_new _ _ _)
    have hB1 : Below w.heap.size w w1 := bl_trans (by (repeat (first | exact Below.refl _ _ | assumption | refine Below.drew ?_ | refine bT ?_ _ | refine bS ?_ _ | refine bA ?_ _))) (by omega) hb1
    clear hb1 hz0
    have p0 := cell_of_blk hbx 0
    have p1 := cell_of_blk hbx 1
    have p2 := cell_of_blk hbx 2
    have p3 := cell_of_blk hbx 3
    have p4 := cell_of_blk hbx 4
    have q0 := cell_of_blk hby 0
    have q1 := cell_of_blk hby 1
    have q2 := cell_of_blk hby 2
    have q3 := cell_of_blk hby 3
    have q4 := cell_of_blk hby 4
    have HX := hidX hbx
    have HY := hidX hby
    have hl1 := heap_lt hby
    clear hbx hby
    go_wp2
    go_ret
    exact ⟨rfl, hB1⟩
  by_cases ly : yo.length ≤ 20
  rotate_left
  · have lx' : ¬ (20 : Int) < xo.length := by omega
    have ly' : (20 : Int) < yo.length := by omega
    go_enter Tryd.func3, Tryd.ntmps3
    go_wp2_with fail
    refine (H0.out _ (by (repeat (first | exact Below.refl _ _ | assumption | refine Below.drew ?_ | refine bT ?_ _ | refine bS ?_ _ | refine bA ?_ _)))).mono ?_
    rintro e w1 ⟨rfl, hb1⟩
    have hz0 : ((w.alloc (Obj.cells #[.string ⟨xo.toArray⟩, .int .i64 xd, .int .i64 xa, .int .i64 xb, .int .i64 xi] 24)).alloc (Obj.cells #[.string ⟨yo.toArray⟩, .int .i64 yd, .int .i64 ya, .int .i64 yb, .int .i64 yi] 24)).heap.size = w.heap.size + 2 := by simp
    have hbx : w1.heap[w.heap.size]? = some (.cells #[.string ⟨xo.toArray⟩, .int .i64 xd, .int .i64 xa, .int .i64 xb, .int .i64 xi] 24 (0, 0)) := (hb1.block _ (by omega)).trans ((Below.heap_alloc _ _ _ (by simp)).trans (heap_alloc_new _ _))
    have hby : w1.heap[w.heap.size + 1]? = some (.cells #[.string ⟨yo.toArray⟩, .int .i64 yd, .int .i64 ya, .int .i64 yb, .int .i64 yi] 24 (0, 0)) := (hb1.block _ (by omega)).trans (heap_alloc2_new _ _ _)
    have hB1 : Below w.heap.size w w1 := bl_trans (by (repeat (first | exact Below.refl _ _ | assumption | refine Below.drew ?_ | refine bT ?_ _ | refine bS ?_ _ | refine bA ?_ _))) (by omega) hb1
    clear hb1 hz0
    have p0 := cell_of_blk hbx 0
    have p1 := cell_of_blk hbx 1
    have p2 := cell_of_blk hbx 2
    have p3 := cell_of_blk hbx 3
    have p4 := cell_of_blk hbx 4
    have q0 := cell_of_blk hby 0
    have q1 := cell_of_blk hby 1
    have q2 := cell_of_blk hby 2
    have q3 := cell_of_blk hby 3
    have q4 := cell_of_blk hby 4
    have HX := hidX hbx
    have HY := hidX hby
    have hl1 := heap_lt hby
    clear hbx hby
    go_wp2
    go_ret
    exact ⟨rfl, hB1⟩
  have lx' : ¬ (20 : Int) < xo.length := by omega
  have ly' : ¬ (20 : Int) < yo.length := by omega
  go_enter Tryd.func3, Tryd.ntmps3
  go_wp2_with fail
  refine (H0.out _ (by (repeat (first | exact Below.refl _ _ | assumption | refine Below.drew ?_ | refine bT ?_ _ | refine bS ?_ _ | refine bA ?_ _)))).mono ?_
  rintro e w1 ⟨rfl, hb1⟩
  have hz0 : ((w.alloc (Obj.cells #[.string ⟨xo.toArray⟩, .int .i64 xd, .int .i64 xa, .int .i64 xb, .int .i64 xi] 24)).alloc (Obj.cells #[.string ⟨yo.toArray⟩, .int .i64 yd, .int .i64 ya, .int .i64 yb, .int .i64 yi] 24)).heap.size = w.heap.size + 2 := by simp
  have hbx : w1.heap[w.heap.size]? = some (.cells #[.string ⟨xo.toArray⟩, .int .i64 xd, .int .i64 xa, .int .i64 xb, .int .i64 xi] 24 (0, 0)) := (hb1.block _ (by omega)).trans ((Below.heap_alloc _ _ _ (by simp)).trans (heap_alloc_new _ _))
  have hby : w1.heap[w.heap.size + 1]? = some (.cells #[.string ⟨yo.toArray⟩, .int .i64 yd, .int .i64 ya, .int .i64 yb, .int .i64 yi] 24 (0, 0)) := (hb1.block _ (by omega)).trans (heap_alloc2_new _ _ _)
  have hB1 : Below w.heap.size w w1 := bl_trans (by (repeat (first | exact Below.refl _ _ | assumption | refine Below.drew ?_ | refine bT ?_ _ | refine bS ?_ _ | refine bA ?_ _))) (by omega) hb1
  clear hb1 hz0
  have p0 := cell_of_blk hbx 0
  have p1 := cell_of_blk hbx 1
  have p2 := cell_of_blk hbx 2
  have p3 := cell_of_blk hbx 3
  have p4 := cell_of_blk hbx 4
  have q0 := cell_of_blk hby 0
  have q1 := cell_of_blk hby 1
  have q2 := cell_of_blk hby 2
  have q3 := cell_of_blk hby 3
  have q4 := cell_of_blk hby 4
  have HX := hidX hbx
  have HY := hidX hby
  have hl1 := heap_lt hby
  clear hbx hby
  clear H0
  go_wp2_with fail
  refine (HDV.out _ hB1).mono ?_
  rintro e w2 ⟨rfl, hb2⟩
  have hz2 := hb2.size
  have hB2 : Below w.heap.size w w2 := bl_trans hB1 (by omega) hb2
  replace HX := hidX ((hb2.block _ (by omega)).trans HX.out)
  replace HY := hidX ((hb2.block _ hl1).trans HY.out)
  have hl2 : w.heap.size + 1 < w2.heap.size := by omega
  clear hb2 hz2 hl1 p0 p1 p2 p3 p4 q0 q1 q2 q3 q4 HDV
  by_cases hcv : cv = 0
  · subst hcv
    rw [show erV a 0 = .nilIface from rfl]
    obtain ⟨hwI, heI⟩ := HD1.out rfl
    have hE := HE.out
    have HEI : Hid (∀ W : World, Below w.heap.size w W → Calls Tryd.prog 6 #[ciV ⟨io, id, ia, ib, ii⟩] W fun e w' => e = .returned (.tuple #[.int .u64 v, .nilIface]) ∧ Below W.heap.size W w') := fun W hb => by
      have := hE W ⟨io, id, ia, ib, ii⟩ hb
      rw [show coChk (coNamed (⟨io, id, ia, ib, ii⟩ : Ci).op).2 ⟨io, id, ia, ib, ii⟩ = 0 from hwI, heI] at this
      exact this
    clear hE heI hwI HD1
    go_wp2_with fail
    refine (HEI.out _ (hB2.alloc (by omega) _)).mono ?_
    rintro e V ⟨rfl, hb3⟩
    have hz3 : (w2.alloc (Obj.cells #[.string ⟨io.toArray⟩, .int .i64 id, .int .i64 ia, .int .i64 ib, .int .i64 ii] 26)).heap.size = w2.heap.size + 1 := by simp
    have hz4 := hb3.size
    have hB : Below w.heap.size w V := bl_trans (hB2.alloc (by omega) _) (by omega) hb3
    have hbx := (hb3.block _ (by omega)).trans ((Below.heap_alloc _ _ _ (by omega)).trans HX.out)
    have hby := (hb3.block _ (by omega)).trans ((Below.heap_alloc _ _ _ (by omega)).trans HY.out)
    have hl : w.heap.size + 1 < V.heap.size := by omega
    have hd := hbx
    clear hb3 hz3 hz4 HX HY HEI hB2 hl2
    have p0 := cell_of_blk hbx 0
    have p1 := cell_of_blk hbx 1
    have p2 := cell_of_blk hbx 2
    have p3 := cell_of_blk hbx 3
    have p4 := cell_of_blk hbx 4
    have q0 := cell_of_blk hby 0
    have q1 := cell_of_blk hby 1
    have q2 := cell_of_blk hby 2
    have q3 := cell_of_blk hby 3
    have q4 := cell_of_blk hby 4
    clear hd
    go_wp2_with fail
    refine (HE.out _ ⟨xo, xd, xa, xb, xi⟩ ((hB.alloc (by omega) _).alloc (by simp; omega) _)).mono ?_
    rintro e w4 ⟨rfl, hb4⟩
    have hVz : V.heap.size = V.heap.size := by first | rfl | simp
    have hz4 : ((V.alloc (Obj.cells #[.string ⟨xo.toArray⟩, .int .i64 xd, .int .i64 xa, .int .i64 xb, .int .i64 xi] 26)).alloc (Obj.cells #[.string ⟨yo.toArray⟩, .int .i64 yd, .int .i64 ya, .int .i64 yb, .int .i64 yi] 26)).heap.size = V.heap.size + 2 := by simp
    have hz5 := hb4.size
    have hbX : w4.heap[V.heap.size]? = some (.cells #[.string ⟨xo.toArray⟩, .int .i64 xd, .int .i64 xa, .int .i64 xb, .int .i64 xi] 26 (0, 0)) := hVz ▸ (hb4.block V.heap.size (by omega)).trans ((Below.heap_alloc _ _ _ (by simp)).trans (heap_alloc_new _ _))
    have hbY : w4.heap[V.heap.size + 1]? = some (.cells #[.string ⟨yo.toArray⟩, .int .i64 yd, .int .i64 ya, .int .i64 yb, .int .i64 yi] 26 (0, 0)) := hVz ▸ (hb4.block (V.heap.size + 1) (by omega)).trans (heap_alloc2_new _ _ _)
    have hB4 : Below w.heap.size w w4 := bl_trans ((hB.alloc (by omega) _).alloc (by simp; omega) _) (by omega) hb4
    have hl4 : V.heap.size + 1 < w4.heap.size := by omega
    clear hb4 hz4 hz5 hVz p0 p1 p2 p3 p4 q0 q1 q2 q3 q4
    have q0 := cell_of_blk hbY 0
    have q1 := cell_of_blk hbY 1
    have q2 := cell_of_blk hbY 2
    have q3 := cell_of_blk hbY 3
    have q4 := cell_of_blk hbY 4
    have HX := hidX hbX
    have HY := hidX hbY
    clear hbX hbY
    go_wp2_with fail
    refine (HE.out _ ⟨yo, yd, ya, yb, yi⟩ hB4).mono ?_
    rintro e w5 ⟨rfl, hb5⟩
    have hz5 := hb5.size
    have hB5 : Below w.heap.size w w5 := bl_trans hB4 (by omega) hb5
    have hbX := (hb5.block _ (by omega)).trans HX.out
    have hbY := (hb5.block _ hl4).trans HY.out
    have hl5 : V.heap.size + 1 < w5.heap.size := by omega
    clear hb5 hz5 HX HY hl4 hB4 q0 q1 q2 q3 q4
    by_cases hcx : coChk (coNamed xo).2 ⟨xo, xd, xa, xb, xi⟩ = 0
    rotate_left
    · rw [erV_not hcx]
      generalize encR ⟨xo, xd, xa, xb, xi⟩ = ex
      generalize encR ⟨yo, yd, ya, yb, yi⟩ = ey
      generalize erV a (coChk (coNamed yo).2 ⟨yo, yd, ya, yb, yi⟩) = ev
      clear hbX hbY
      go_wp2
      go_ret
      exact ⟨rfl, hB5⟩
    by_cases hcy : coChk (coNamed yo).2 ⟨yo, yd, ya, yb, yi⟩ = 0
    rotate_left
    · rw [erV_not hcy, hcx, show erV a 0 = .nilIface from rfl]
      generalize encR ⟨xo, xd, xa, xb, xi⟩ = ex
      generalize encR ⟨yo, yd, ya, yb, yi⟩ = ey
      clear hbX hbY
      go_wp2
      go_ret
      exact ⟨rfl, hB5⟩
    rw [hcx, hcy, show erV a 0 = .nilIface from rfl]
    obtain ⟨vx, ex1, ex2, ex3, ex4⟩ := enc_nat (i := ⟨xo, xd, xa, xb, xi⟩) hcx
    obtain ⟨vy, ey1, ey2, ey3, ey4⟩ := enc_nat (i := ⟨yo, yd, ya, yb, yi⟩) hcy
    rw [ex1, ey1]
    have HDX : Hid (∀ W : World, Below w.heap.size w W → Calls Tryd.prog 5 #[.int .u64 vx] W fun e w' => e = .returned (.tuple #[ciV ⟨xo, xd, xa, xb, xi⟩, .nilIface]) ∧ Below W.heap.size W w') := fun W hb => by
      have := HD.out W vx ex2 hb
      rw [ex3, ex4] at this
      exact this
    have HV : Hid ((vx = vy) ↔ ((⟨xo, xd, xa, xb, xi⟩ : Ci) = ⟨yo, yd, ya, yb, yi⟩)) := ⟨fun h => by rw [← ex3, ← ey3, h], fun h => by
      have := ex1.symm.trans ((congrArg encR h).trans ey1)
      omega⟩
    have HTT : Hid ((textR ⟨xo, xd, xa, xb, xi⟩ = textR ⟨yo, yd, ya, yb, yi⟩) ↔ ((⟨xo, xd, xa, xb, xi⟩ : Ci) = ⟨yo, yd, ya, yb, yi⟩)) := ⟨fun h => text_inj hcx hcy h, fun h => congrArg textR h⟩
    have hT1 := hidX fun W hb => HT.out W ⟨xo, xd, xa, xb, xi⟩ hb
    have hT2 := hidX fun W hb => HT.out W ⟨yo, yd, ya, yb, yi⟩ hb
    generalize textR ⟨xo, xd, xa, xb, xi⟩ = tx at HTT hT1
    generalize textR ⟨yo, yd, ya, yb, yi⟩ = ty at HTT hT2
    have HX := hidX hbX
    have HY := hidX hbY
    clear hbX hbY ex1 ex2 ex3 ex4 ey1 ey2 ey3 ey4 hcx hcy HD HE HT
    go_wp2_with fail
    refine (HDX.out _ hB5).mono ?_
    rintro e w6 ⟨rfl, hb6⟩
    have hz6 := hb6.size
    have hB6 : Below w.heap.size w w6 := bl_trans hB5 (by omega) hb6
    have hbX := (hb6.block _ (by omega)).trans HX.out
    have hbY := (hb6.block _ hl5).trans HY.out
    have hl6 : V.heap.size + 1 < w6.heap.size := by omega
    clear hb6 hz6 HX HY hl5 hB5 HDX
    have p0 := cell_of_blk hbX 0
    have p1 := cell_of_blk hbX 1
    have p2 := cell_of_blk hbX 2
    have p3 := cell_of_blk hbX 3
    have p4 := cell_of_blk hbX 4
    have q0 := cell_of_blk hbY 0
    have q1 := cell_of_blk hbY 1
    have q2 := cell_of_blk hbY 2
    have q3 := cell_of_blk hbY 3
    have q4 := cell_of_blk hbY 4
    clear hbX hbY
    go_wp2_with fail
    have hN0 := heap_alloc_new w6 (Obj.cells #[.string ⟨xo.toArray⟩, .int .i64 xd, .int .i64 xa, .int .i64 xb, .int .i64 xi] 26)
    have s0 : (w6.alloc (Obj.cells #[.string ⟨xo.toArray⟩, .int .i64 xd, .int .i64 xa, .int .i64 xb, .int .i64 xi] 26)).cell? ⟨w6.heap.size, 0, none⟩ = some (.string ⟨xo.toArray⟩) ∧ (w6.alloc (Obj.cells #[.string ⟨xo.toArray⟩, .int .i64 xd, .int .i64 xa, .int .i64 xb, .int .i64 xi] 26)).cell? ⟨w6.heap.size, 1, none⟩ = some (.int .i64 xd) ∧ (w6.alloc (Obj.cells #[.string ⟨xo.toArray⟩, .int .i64 xd, .int .i64 xa, .int .i64 xb, .int .i64 xi] 26)).cell? ⟨w6.heap.size, 2, none⟩ = some (.int .i64 xa) ∧ (w6.alloc (Obj.cells #[.string ⟨xo.toArray⟩, .int .i64 xd, .int .i64 xa, .int .i64 xb, .int .i64 xi] 26)).cell? ⟨w6.heap.size, 3, none⟩ = some (.int .i64 xb) ∧ (w6.alloc (Obj.cells #[.string ⟨xo.toArray⟩, .int .i64 xd, .int .i64 xa, .int .i64 xb, .int .i64 xi] 26)).cell? ⟨w6.heap.size, 4, none⟩ = some (.int .i64 xi) ∧ (w6.alloc (Obj.cells #[.string ⟨xo.toArray⟩, .int .i64 xd, .int .i64 xa, .int .i64 xb, .int .i64 xi] 26)).cell? ⟨V.heap.size, 0, none⟩ = some (.string ⟨xo.toArray⟩) ∧ (w6.alloc (Obj.cells #[.string ⟨xo.toArray⟩, .int .i64 xd, .int .i64 xa, .int .i64 xb, .int .i64 xi] 26)).cell? ⟨V.heap.size, 1, none⟩ = some (.int .i64 xd) ∧ (w6.alloc (Obj.cells #[.string ⟨xo.toArray⟩, .int .i64 xd, .int .i64 xa, .int .i64 xb, .int .i64 xi] 26)).cell? ⟨V.heap.size, 2, none⟩ = some (.int .i64 xa) ∧ (w6.alloc (Obj.cells #[.string ⟨xo.toArray⟩, .int .i64 xd, .int .i64 xa, .int .i64 xb, .int .i64 xi] 26)).cell? ⟨V.heap.size, 3, none⟩ = some (.int .i64 xb) ∧ (w6.alloc (Obj.cells #[.string ⟨xo.toArray⟩, .int .i64 xd, .int .i64 xa, .int .i64 xb, .int .i64 xi] 26)).cell? ⟨V.heap.size, 4, none⟩ = some (.int .i64 xi) ∧ (w6.alloc (Obj.cells #[.string ⟨xo.toArray⟩, .int .i64 xd, .int .i64 xa, .int .i64 xb, .int .i64 xi] 26)).cell? ⟨V.heap.size + 1, 0, none⟩ = some (.string ⟨yo.toArray⟩) ∧ (w6.alloc (Obj.cells #[.string ⟨xo.toArray⟩, .int .i64 xd, .int .i64 xa, .int .i64 xb, .int .i64 xi] 26)).cell? ⟨V.heap.size + 1, 1, none⟩ = some (.int .i64 yd) ∧ (w6.alloc (Obj.cells #[.string ⟨xo.toArray⟩, .int .i64 xd, .int .i64 xa, .int .i64 xb, .int .i64 xi] 26)).cell? ⟨V.heap.size + 1, 2, none⟩ = some (.int .i64 ya) ∧ (w6.alloc (Obj.cells #[.string ⟨xo.toArray⟩, .int .i64 xd, .int .i64 xa, .int .i64 xb, .int .i64 xi] 26)).cell? ⟨V.heap.size + 1, 3, none⟩ = some (.int .i64 yb) ∧ (w6.alloc (Obj.cells #[.string ⟨xo.toArray⟩, .int .i64 xd, .int .i64 xa, .int .i64 xb, .int .i64 xi] 26)).cell? ⟨V.heap.size + 1, 4, none⟩ = some (.int .i64 yi) := ⟨cell_of_blk hN0 0, cell_of_blk hN0 1, cell_of_blk hN0 2, cell_of_blk hN0 3, cell_of_blk hN0 4, ((box_blk w6 _ _).cell (show V.heap.size < w6.heap.size by omega)).trans p0, ((box_blk w6 _ _).cell (show V.heap.size < w6.heap.size by omega)).trans p1, ((box_blk w6 _ _).cell (show V.heap.size < w6.heap.size by omega)).trans p2, ((box_blk w6 _ _).cell (show V.heap.size < w6.heap.size by omega)).trans p3, ((box_blk w6 _ _).cell (show V.heap.size < w6.heap.size by omega)).trans p4, ((box_blk w6 _ _).cell (show V.heap.size + 1 < w6.heap.size by omega)).trans q0, ((box_blk w6 _ _).cell (show V.heap.size + 1 < w6.heap.size by omega)).trans q1, ((box_blk w6 _ _).cell (show V.heap.size + 1 < w6.heap.size by omega)).trans q2, ((box_blk w6 _ _).cell (show V.heap.size + 1 < w6.heap.size by omega)).trans q3, ((box_blk w6 _ _).cell (show V.heap.size + 1 < w6.heap.size by omega)).trans q4⟩
    have hB7 : Below w.heap.size w (w6.alloc (Obj.cells #[.string ⟨xo.toArray⟩, .int .i64 xd, .int .i64 xa, .int .i64 xb, .int .i64 xi] 26)) := hB6.alloc (by omega) _
    have hz7 : w6.heap.size < (w6.alloc (Obj.cells #[.string ⟨xo.toArray⟩, .int .i64 xd, .int .i64 xa, .int .i64 xb, .int .i64 xi] 26)).heap.size := by simp
    generalize w6.alloc (Obj.cells #[.string ⟨xo.toArray⟩, .int .i64 xd, .int .i64 xa, .int .i64 xb, .int .i64 xi] 26) = W7 at s0 hB7 hz7 ⊢
    have hz8 : V.heap.size < W7.heap.size := by omega
    have hz9 : V.heap.size + 1 < W7.heap.size := by omega
    have hwz : w.heap.size ≤ W7.heap.size := by omega
    have C0 := hidX s0
    have e0 : ∀ W : World, (binOp .eql 26 (.agg #[.string ⟨xo.toArray⟩, .int .i64 xd, .int .i64 xa, .int .i64 xb, .int .i64 xi]) (.agg #[.string ⟨xo.toArray⟩, .int .i64 xd, .int .i64 xa, .int .i64 xb, .int .i64 xi])).run Tryd.prog W = .ok (.bool true) W := fun W => (eq_ci ⟨xo, xd, xa, xb, xi⟩ ⟨xo, xd, xa, xb, xi⟩ W).trans (by rw [(eqC_iff _ _).2 rfl])
    have e1 : ∀ W : World, (binOp .eql 26 (.agg #[.string ⟨xo.toArray⟩, .int .i64 xd, .int .i64 xa, .int .i64 xb, .int .i64 xi]) (.agg #[.string ⟨yo.toArray⟩, .int .i64 yd, .int .i64 ya, .int .i64 yb, .int .i64 yi])).run Tryd.prog W = .ok (.bool (eqC ⟨xo, xd, xa, xb, xi⟩ ⟨yo, yd, ya, yb, yi⟩)) W := fun W => eq_ci ⟨xo, xd, xa, xb, xi⟩ ⟨yo, yd, ya, yb, yi⟩ W
    have hv1 : ((vx : Int) == (vy : Int)) = eqC ⟨xo, xd, xa, xb, xi⟩ ⟨yo, yd, ya, yb, yi⟩ := by
      rw [Bool.eq_iff_iff, eqC_iff, ← HV.out, beq_iff_eq]
      exact ⟨fun h => by omega, fun h => by omega⟩
    have hv2 : (tx == ty) = eqC ⟨xo, xd, xa, xb, xi⟩ ⟨yo, yd, ya, yb, yi⟩ := by
      rw [Bool.eq_iff_iff, eqC_iff, ← HTT.out, beq_iff_eq]
    generalize eqC ⟨xo, xd, xa, xb, xi⟩ ⟨yo, yd, ya, yb, yi⟩ = eb at e1 hv1 hv2
    clear HV HTT s0 hN0 p0 p1 p2 p3 p4 q0 q1 q2 q3 q4
    go_region_held3 (fun W => W.cell? ⟨w6.heap.size, 0, none⟩ = some (.string ⟨xo.toArray⟩) ∧ W.cell? ⟨w6.heap.size, 1, none⟩ = some (.int .i64 xd) ∧ W.cell? ⟨w6.heap.size, 2, none⟩ = some (.int .i64 xa) ∧ W.cell? ⟨w6.heap.size, 3, none⟩ = some (.int .i64 xb) ∧ W.cell? ⟨w6.heap.size, 4, none⟩ = some (.int .i64 xi) ∧ W.cell? ⟨V.heap.size, 0, none⟩ = some (.string ⟨xo.toArray⟩) ∧ W.cell? ⟨V.heap.size, 1, none⟩ = some (.int .i64 xd) ∧ W.cell? ⟨V.heap.size, 2, none⟩ = some (.int .i64 xa) ∧ W.cell? ⟨V.heap.size, 3, none⟩ = some (.int .i64 xb) ∧ W.cell? ⟨V.heap.size, 4, none⟩ = some (.int .i64 xi) ∧ W.cell? ⟨V.heap.size + 1, 0, none⟩ = some (.string ⟨yo.toArray⟩) ∧ W.cell? ⟨V.heap.size + 1, 1, none⟩ = some (.int .i64 yd) ∧ W.cell? ⟨V.heap.size + 1, 2, none⟩ = some (.int .i64 ya) ∧ W.cell? ⟨V.heap.size + 1, 3, none⟩ = some (.int .i64 yb) ∧ W.cell? ⟨V.heap.size + 1, 4, none⟩ = some (.int .i64 yi))
      (first | with_reducible exact s2 | with_reducible exact s1 | exact C0.out)
      (first
        | (have hprev := hT1; clear hprev; go_at_call 7; refine (hT1.out _ (by (repeat (first | exact Below.refl _ _ | assumption | refine Below.drew ?_ | refine bT ?_ _ | refine bS ?_ _ | refine bA ?_ _)))).mono ?_; rintro e X1 ⟨rfl, hx1⟩; have bX1 : Below W7.heap.size W7 X1 := bl_trans (show Below W7.heap.size W7 _ by (repeat (first | exact Below.refl _ _ | assumption | refine Below.drew ?_ | refine bT ?_ _ | refine bS ?_ _ | refine bA ?_ _))) (by first | exact Nat.le_refl _ | (simp; done) | (simp; omega)) hx1; have hBX1 : Below w.heap.size w X1 := bl_trans hB7 hwz bX1; have s1 := keep15 C0.out bX1 hz7 hz8 hz9; clear hx1 hT1)
        | (go_at_call 7; refine (hT2.out _ (by (repeat (first | exact Below.refl _ _ | assumption | refine Below.drew ?_ | refine bT ?_ _ | refine bS ?_ _ | refine bA ?_ _)))).mono ?_; rintro e X2 ⟨rfl, hx2⟩; have bX12 : Below X1.heap.size X1 X2 := bl_trans (show Below X1.heap.size X1 _ by (repeat (first | exact Below.refl _ _ | assumption | refine Below.drew ?_ | refine bT ?_ _ | refine bS ?_ _ | refine bA ?_ _))) (by first | exact Nat.le_refl _ | (simp; done) | (simp; omega)) hx2; have bX2 : Below W7.heap.size W7 X2 := bl_trans bX1 bX1.size bX12; have s2 := keep15 C0.out bX2 hz7 hz8 hz9; clear hx2))
    all_goals (go_wp2; go_ret; exact ⟨rfl, bl_trans hB7 hwz bX2⟩)
  · rw [erV_not hcv]
    have hbx := (Below.heap_alloc w2 (Obj.cells #[.string ⟨io.toArray⟩, .int .i64 id, .int .i64 ia, .int .i64 ib, .int .i64 ii] 26) _ (by omega)).trans HX.out
    have hby := (Below.heap_alloc w2 (Obj.cells #[.string ⟨io.toArray⟩, .int .i64 id, .int .i64 ia, .int .i64 ib, .int .i64 ii] 26) _ (by omega)).trans HY.out
    have hB : Below w.heap.size w (w2.alloc (Obj.cells #[.string ⟨io.toArray⟩, .int .i64 id, .int .i64 ia, .int .i64 ib, .int .i64 ii] 26)) := hB2.alloc (by omega) _
    have hl : w.heap.size + 1 < (w2.alloc (Obj.cells #[.string ⟨io.toArray⟩, .int .i64 id, .int .i64 ia, .int .i64 ib, .int .i64 ii] 26)).heap.size := by simp; omega
    have hd := hbx
    have hbx2 := HX.out
    have hby2 := HY.out
    have hl2' : w.heap.size < w2.heap.size := by omega
    have p0 := cell_of_blk hbx2 0
    have p1 := cell_of_blk hbx2 1
    have p2 := cell_of_blk hbx2 2
    have p3 := cell_of_blk hbx2 3
    have p4 := cell_of_blk hbx2 4
    have q0 := cell_of_blk hby2 0
    have q1 := cell_of_blk hby2 1
    have q2 := cell_of_blk hby2 2
    have q3 := cell_of_blk hby2 3
    have q4 := cell_of_blk hby2 4
    clear HX HY hB2 hbx2 hby2
    clear hd
    go_wp2_with fail
    refine (HE.out _ ⟨xo, xd, xa, xb, xi⟩ ((hB.alloc (by omega) _).alloc (by simp; omega) _)).mono ?_
    rintro e w4 ⟨rfl, hb4⟩
    have hVz : (w2.alloc (Obj.cells #[.string ⟨io.toArray⟩, .int .i64 id, .int .i64 ia, .int .i64 ib, .int .i64 ii] 26)).heap.size = (w2.heap.size + 1) := by first | rfl | simp
    have hz4 : (((w2.alloc (Obj.cells #[.string ⟨io.toArray⟩, .int .i64 id, .int .i64 ia, .int .i64 ib, .int .i64 ii] 26)).alloc (Obj.cells #[.string ⟨xo.toArray⟩, .int .i64 xd, .int .i64 xa, .int .i64 xb, .int .i64 xi] 26)).alloc (Obj.cells #[.string ⟨yo.toArray⟩, .int .i64 yd, .int .i64 ya, .int .i64 yb, .int .i64 yi] 26)).heap.size = (w2.alloc (Obj.cells #[.string ⟨io.toArray⟩, .int .i64 id, .int .i64 ia, .int .i64 ib, .int .i64 ii] 26)).heap.size + 2 := by simp
    have hz5 := hb4.size
    have hbX : w4.heap[(w2.heap.size + 1)]? = some (.cells #[.string ⟨xo.toArray⟩, .int .i64 xd, .int .i64 xa, .int .i64 xb, .int .i64 xi] 26 (0, 0)) := hVz ▸ (hb4.block (w2.alloc (Obj.cells #[.string ⟨io.toArray⟩, .int .i64 id, .int .i64 ia, .int .i64 ib, .int .i64 ii] 26)).heap.size (by omega)).trans ((Below.heap_alloc _ _ _ (by simp)).trans (heap_alloc_new _ _))
    have hbY : w4.heap[(w2.heap.size + 1) + 1]? = some (.cells #[.string ⟨yo.toArray⟩, .int .i64 yd, .int .i64 ya, .int .i64 yb, .int .i64 yi] 26 (0, 0)) := hVz ▸ (hb4.block ((w2.alloc (Obj.cells #[.string ⟨io.toArray⟩, .int .i64 id, .int .i64 ia, .int .i64 ib, .int .i64 ii] 26)).heap.size + 1) (by omega)).trans (heap_alloc2_new _ _ _)
    have hB4 : Below w.heap.size w w4 := bl_trans ((hB.alloc (by omega) _).alloc (by simp; omega) _) (by omega) hb4
    have hl4 : (w2.heap.size + 1) + 1 < w4.heap.size := by omega
    clear hb4 hz4 hz5 hVz p0 p1 p2 p3 p4 q0 q1 q2 q3 q4
    have q0 := cell_of_blk hbY 0
    have q1 := cell_of_blk hbY 1
    have q2 := cell_of_blk hbY 2
    have q3 := cell_of_blk hbY 3
    have q4 := cell_of_blk hbY 4
    have HX := hidX hbX
    have HY := hidX hbY
    clear hbX hbY
    go_wp2_with fail
    refine (HE.out _ ⟨yo, yd, ya, yb, yi⟩ hB4).mono ?_
    rintro e w5 ⟨rfl, hb5⟩
    have hz5 := hb5.size
    have hB5 : Below w.heap.size w w5 := bl_trans hB4 (by omega) hb5
    have hbX := (hb5.block _ (by omega)).trans HX.out
    have hbY := (hb5.block _ hl4).trans HY.out
    have hl5 : (w2.heap.size + 1) + 1 < w5.heap.size := by omega
    clear hb5 hz5 HX HY hl4 hB4 q0 q1 q2 q3 q4
    by_cases hcx : coChk (coNamed xo).2 ⟨xo, xd, xa, xb, xi⟩ = 0
    rotate_left
    · rw [erV_not hcx]
      generalize encR ⟨xo, xd, xa, xb, xi⟩ = ex
      generalize encR ⟨yo, yd, ya, yb, yi⟩ = ey
      generalize erV a (coChk (coNamed yo).2 ⟨yo, yd, ya, yb, yi⟩) = ev
      clear hbX hbY
      go_wp2
      go_ret
      exact ⟨rfl, hB5⟩
    by_cases hcy : coChk (coNamed yo).2 ⟨yo, yd, ya, yb, yi⟩ = 0
    rotate_left
    · rw [erV_not hcy, hcx, show erV a 0 = .nilIface from rfl]
      generalize encR ⟨xo, xd, xa, xb, xi⟩ = ex
      generalize encR ⟨yo, yd, ya, yb, yi⟩ = ey
      clear hbX hbY
      go_wp2
      go_ret
      exact ⟨rfl, hB5⟩
    rw [hcx, hcy, show erV a 0 = .nilIface from rfl]
    obtain ⟨vx, ex1, ex2, ex3, ex4⟩ := enc_nat (i := ⟨xo, xd, xa, xb, xi⟩) hcx
    obtain ⟨vy, ey1, ey2, ey3, ey4⟩ := enc_nat (i := ⟨yo, yd, ya, yb, yi⟩) hcy
    rw [ex1, ey1]
    have HDX : Hid (∀ W : World, Below w.heap.size w W → Calls Tryd.prog 5 #[.int .u64 vx] W fun e w' => e = .returned (.tuple #[ciV ⟨xo, xd, xa, xb, xi⟩, .nilIface]) ∧ Below W.heap.size W w') := fun W hb => by
      have := HD.out W vx ex2 hb
      rw [ex3, ex4] at this
      exact this
    have HV : Hid ((vx = vy) ↔ ((⟨xo, xd, xa, xb, xi⟩ : Ci) = ⟨yo, yd, ya, yb, yi⟩)) := ⟨fun h => by rw [← ex3, ← ey3, h], fun h => by
      have := ex1.symm.trans ((congrArg encR h).trans ey1)
      omega⟩
    have HTT : Hid ((textR ⟨xo, xd, xa, xb, xi⟩ = textR ⟨yo, yd, ya, yb, yi⟩) ↔ ((⟨xo, xd, xa, xb, xi⟩ : Ci) = ⟨yo, yd, ya, yb, yi⟩)) := ⟨fun h => text_inj hcx hcy h, fun h => congrArg textR h⟩
    have hT1 := hidX fun W hb => HT.out W ⟨xo, xd, xa, xb, xi⟩ hb
    have hT2 := hidX fun W hb => HT.out W ⟨yo, yd, ya, yb, yi⟩ hb
    generalize textR ⟨xo, xd, xa, xb, xi⟩ = tx at HTT hT1
    generalize textR ⟨yo, yd, ya, yb, yi⟩ = ty at HTT hT2
    have HX := hidX hbX
    have HY := hidX hbY
    clear hbX hbY ex1 ex2 ex3 ex4 ey1 ey2 ey3 ey4 hcx hcy HD HE HT
    go_wp2_with fail
    refine (HDX.out _ hB5).mono ?_
    rintro e w6 ⟨rfl, hb6⟩
    have hz6 := hb6.size
    have hB6 : Below w.heap.size w w6 := bl_trans hB5 (by omega) hb6
    have hbX := (hb6.block _ (by omega)).trans HX.out
    have hbY := (hb6.block _ hl5).trans HY.out
    have hl6 : (w2.heap.size + 1) + 1 < w6.heap.size := by omega
    clear hb6 hz6 HX HY hl5 hB5 HDX
    have p0 := cell_of_blk hbX 0
    have p1 := cell_of_blk hbX 1
    have p2 := cell_of_blk hbX 2
    have p3 := cell_of_blk hbX 3
    have p4 := cell_of_blk hbX 4
    have q0 := cell_of_blk hbY 0
    have q1 := cell_of_blk hbY 1
    have q2 := cell_of_blk hbY 2
    have q3 := cell_of_blk hbY 3
    have q4 := cell_of_blk hbY 4
    clear hbX hbY
    go_wp2_with fail
    have hN0 := heap_alloc_new w6 (Obj.cells #[.string ⟨xo.toArray⟩, .int .i64 xd, .int .i64 xa, .int .i64 xb, .int .i64 xi] 26)
    have s0 : (w6.alloc (Obj.cells #[.string ⟨xo.toArray⟩, .int .i64 xd, .int .i64 xa, .int .i64 xb, .int .i64 xi] 26)).cell? ⟨w6.heap.size, 0, none⟩ = some (.string ⟨xo.toArray⟩) ∧ (w6.alloc (Obj.cells #[.string ⟨xo.toArray⟩, .int .i64 xd, .int .i64 xa, .int .i64 xb, .int .i64 xi] 26)).cell? ⟨w6.heap.size, 1, none⟩ = some (.int .i64 xd) ∧ (w6.alloc (Obj.cells #[.string ⟨xo.toArray⟩, .int .i64 xd, .int .i64 xa, .int .i64 xb, .int .i64 xi] 26)).cell? ⟨w6.heap.size, 2, none⟩ = some (.int .i64 xa) ∧ (w6.alloc (Obj.cells #[.string ⟨xo.toArray⟩, .int .i64 xd, .int .i64 xa, .int .i64 xb, .int .i64 xi] 26)).cell? ⟨w6.heap.size, 3, none⟩ = some (.int .i64 xb) ∧ (w6.alloc (Obj.cells #[.string ⟨xo.toArray⟩, .int .i64 xd, .int .i64 xa, .int .i64 xb, .int .i64 xi] 26)).cell? ⟨w6.heap.size, 4, none⟩ = some (.int .i64 xi) ∧ (w6.alloc (Obj.cells #[.string ⟨xo.toArray⟩, .int .i64 xd, .int .i64 xa, .int .i64 xb, .int .i64 xi] 26)).cell? ⟨(w2.heap.size + 1), 0, none⟩ = some (.string ⟨xo.toArray⟩) ∧ (w6.alloc (Obj.cells #[.string ⟨xo.toArray⟩, .int .i64 xd, .int .i64 xa, .int .i64 xb, .int .i64 xi] 26)).cell? ⟨(w2.heap.size + 1), 1, none⟩ = some (.int .i64 xd) ∧ (w6.alloc (Obj.cells #[.string ⟨xo.toArray⟩, .int .i64 xd, .int .i64 xa, .int .i64 xb, .int .i64 xi] 26)).cell? ⟨(w2.heap.size + 1), 2, none⟩ = some (.int .i64 xa) ∧ (w6.alloc (Obj.cells #[.string ⟨xo.toArray⟩, .int .i64 xd, .int .i64 xa, .int .i64 xb, .int .i64 xi] 26)).cell? ⟨(w2.heap.size + 1), 3, none⟩ = some (.int .i64 xb) ∧ (w6.alloc (Obj.cells #[.string ⟨xo.toArray⟩, .int .i64 xd, .int .i64 xa, .int .i64 xb, .int .i64 xi] 26)).cell? ⟨(w2.heap.size + 1), 4, none⟩ = some (.int .i64 xi) ∧ (w6.alloc (Obj.cells #[.string ⟨xo.toArray⟩, .int .i64 xd, .int .i64 xa, .int .i64 xb, .int .i64 xi] 26)).cell? ⟨(w2.heap.size + 1) + 1, 0, none⟩ = some (.string ⟨yo.toArray⟩) ∧ (w6.alloc (Obj.cells #[.string ⟨xo.toArray⟩, .int .i64 xd, .int .i64 xa, .int .i64 xb, .int .i64 xi] 26)).cell? ⟨(w2.heap.size + 1) + 1, 1, none⟩ = some (.int .i64 yd) ∧ (w6.alloc (Obj.cells #[.string ⟨xo.toArray⟩, .int .i64 xd, .int .i64 xa, .int .i64 xb, .int .i64 xi] 26)).cell? ⟨(w2.heap.size + 1) + 1, 2, none⟩ = some (.int .i64 ya) ∧ (w6.alloc (Obj.cells #[.string ⟨xo.toArray⟩, .int .i64 xd, .int .i64 xa, .int .i64 xb, .int .i64 xi] 26)).cell? ⟨(w2.heap.size + 1) + 1, 3, none⟩ = some (.int .i64 yb) ∧ (w6.alloc (Obj.cells #[.string ⟨xo.toArray⟩, .int .i64 xd, .int .i64 xa, .int .i64 xb, .int .i64 xi] 26)).cell? ⟨(w2.heap.size + 1) + 1, 4, none⟩ = some (.int .i64 yi) := ⟨cell_of_blk hN0 0, cell_of_blk hN0 1, cell_of_blk hN0 2, cell_of_blk hN0 3, cell_of_blk hN0 4, ((box_blk w6 _ _).cell (show (w2.heap.size + 1) < w6.heap.size by omega)).trans p0, ((box_blk w6 _ _).cell (show (w2.heap.size + 1) < w6.heap.size by omega)).trans p1, ((box_blk w6 _ _).cell (show (w2.heap.size + 1) < w6.heap.size by omega)).trans p2, ((box_blk w6 _ _).cell (show (w2.heap.size + 1) < w6.heap.size by omega)).trans p3, ((box_blk w6 _ _).cell (show (w2.heap.size + 1) < w6.heap.size by omega)).trans p4, ((box_blk w6 _ _).cell (show (w2.heap.size + 1) + 1 < w6.heap.size by omega)).trans q0, ((box_blk w6 _ _).cell (show (w2.heap.size + 1) + 1 < w6.heap.size by omega)).trans q1, ((box_blk w6 _ _).cell (show (w2.heap.size + 1) + 1 < w6.heap.size by omega)).trans q2, ((box_blk w6 _ _).cell (show (w2.heap.size + 1) + 1 < w6.heap.size by omega)).trans q3, ((box_blk w6 _ _).cell (show (w2.heap.size + 1) + 1 < w6.heap.size by omega)).trans q4⟩
    have hB7 : Below w.heap.size w (w6.alloc (Obj.cells #[.string ⟨xo.toArray⟩, .int .i64 xd, .int .i64 xa, .int .i64 xb, .int .i64 xi] 26)) := hB6.alloc (by omega) _
    have hz7 : w6.heap.size < (w6.alloc (Obj.cells #[.string ⟨xo.toArray⟩, .int .i64 xd, .int .i64 xa, .int .i64 xb, .int .i64 xi] 26)).heap.size := by simp
    generalize w6.alloc (Obj.cells #[.string ⟨xo.toArray⟩, .int .i64 xd, .int .i64 xa, .int .i64 xb, .int .i64 xi] 26) = W7 at s0 hB7 hz7 ⊢
    have hz8 : (w2.heap.size + 1) < W7.heap.size := by omega
    have hz9 : (w2.heap.size + 1) + 1 < W7.heap.size := by omega
    have hwz : w.heap.size ≤ W7.heap.size := by omega
    have C0 := hidX s0
    have e0 : ∀ W : World, (binOp .eql 26 (.agg #[.string ⟨xo.toArray⟩, .int .i64 xd, .int .i64 xa, .int .i64 xb, .int .i64 xi]) (.agg #[.string ⟨xo.toArray⟩, .int .i64 xd, .int .i64 xa, .int .i64 xb, .int .i64 xi])).run Tryd.prog W = .ok (.bool true) W := fun W => (eq_ci ⟨xo, xd, xa, xb, xi⟩ ⟨xo, xd, xa, xb, xi⟩ W).trans (by rw [(eqC_iff _ _).2 rfl])
    have e1 : ∀ W : World, (binOp .eql 26 (.agg #[.string ⟨xo.toArray⟩, .int .i64 xd, .int .i64 xa, .int .i64 xb, .int .i64 xi]) (.agg #[.string ⟨yo.toArray⟩, .int .i64 yd, .int .i64 ya, .int .i64 yb, .int .i64 yi])).run Tryd.prog W = .ok (.bool (eqC ⟨xo, xd, xa, xb, xi⟩ ⟨yo, yd, ya, yb, yi⟩)) W := fun W => eq_ci ⟨xo, xd, xa, xb, xi⟩ ⟨yo, yd, ya, yb, yi⟩ W
    have hv1 : ((vx : Int) == (vy : Int)) = eqC ⟨xo, xd, xa, xb, xi⟩ ⟨yo, yd, ya, yb, yi⟩ := by
      rw [Bool.eq_iff_iff, eqC_iff, ← HV.out, beq_iff_eq]
      exact ⟨fun h => by omega, fun h => by omega⟩
    have hv2 : (tx == ty) = eqC ⟨xo, xd, xa, xb, xi⟩ ⟨yo, yd, ya, yb, yi⟩ := by
      rw [Bool.eq_iff_iff, eqC_iff, ← HTT.out, beq_iff_eq]
    generalize eqC ⟨xo, xd, xa, xb, xi⟩ ⟨yo, yd, ya, yb, yi⟩ = eb at e1 hv1 hv2
    clear HV HTT s0 hN0 p0 p1 p2 p3 p4 q0 q1 q2 q3 q4
    go_region_held3 (fun W => W.cell? ⟨w6.heap.size, 0, none⟩ = some (.string ⟨xo.toArray⟩) ∧ W.cell? ⟨w6.heap.size, 1, none⟩ = some (.int .i64 xd) ∧ W.cell? ⟨w6.heap.size, 2, none⟩ = some (.int .i64 xa) ∧ W.cell? ⟨w6.heap.size, 3, none⟩ = some (.int .i64 xb) ∧ W.cell? ⟨w6.heap.size, 4, none⟩ = some (.int .i64 xi) ∧ W.cell? ⟨(w2.heap.size + 1), 0, none⟩ = some (.string ⟨xo.toArray⟩) ∧ W.cell? ⟨(w2.heap.size + 1), 1, none⟩ = some (.int .i64 xd) ∧ W.cell? ⟨(w2.heap.size + 1), 2, none⟩ = some (.int .i64 xa) ∧ W.cell? ⟨(w2.heap.size + 1), 3, none⟩ = some (.int .i64 xb) ∧ W.cell? ⟨(w2.heap.size + 1), 4, none⟩ = some (.int .i64 xi) ∧ W.cell? ⟨(w2.heap.size + 1) + 1, 0, none⟩ = some (.string ⟨yo.toArray⟩) ∧ W.cell? ⟨(w2.heap.size + 1) + 1, 1, none⟩ = some (.int .i64 yd) ∧ W.cell? ⟨(w2.heap.size + 1) + 1, 2, none⟩ = some (.int .i64 ya) ∧ W.cell? ⟨(w2.heap.size + 1) + 1, 3, none⟩ = some (.int .i64 yb) ∧ W.cell? ⟨(w2.heap.size + 1) + 1, 4, none⟩ = some (.int .i64 yi))
      (first | with_reducible exact s2 | with_reducible exact s1 | exact C0.out)
      (first
        | (have hprev := hT1; clear hprev; go_at_call 7; refine (hT1.out _ (by (repeat (first | exact Below.refl _ _ | assumption | refine Below.drew ?_ | refine bT ?_ _ | refine bS ?_ _ | refine bA ?_ _)))).mono ?_; rintro e X1 ⟨rfl, hx1⟩; have bX1 : Below W7.heap.size W7 X1 := bl_trans (show Below W7.heap.size W7 _ by (repeat (first | exact Below.refl _ _ | assumption | refine Below.drew ?_ | refine bT ?_ _ | refine bS ?_ _ | refine bA ?_ _))) (by first | exact Nat.le_refl _ | (simp; done) | (simp; omega)) hx1; have hBX1 : Below w.heap.size w X1 := bl_trans hB7 hwz bX1; have s1 := keep15 C0.out bX1 hz7 hz8 hz9; clear hx1 hT1)
        | (go_at_call 7; refine (hT2.out _ (by (repeat (first | exact Below.refl _ _ | assumption | refine Below.drew ?_ | refine bT ?_ _ | refine bS ?_ _ | refine bA ?_ _)))).mono ?_; rintro e X2 ⟨rfl, hx2⟩; have bX12 : Below X1.heap.size X1 X2 := bl_trans (show Below X1.heap.size X1 _ by (repeat (first | exact Below.refl _ _ | assumption | refine Below.drew ?_ | refine bT ?_ _ | refine bS ?_ _ | refine bA ?_ _))) (by first | exact Nat.le_refl _ | (simp; done) | (simp; omega)) hx2; have bX2 : Below W7.heap.size W7 X2 := bl_trans bX1 bX1.size bX12; have s2 := keep15 C0.out bX2 hz7 hz8 hz9; clear hx2))
    all_goals (go_wp2; go_ret; exact ⟨rfl, bl_trans hB7 hwz bX2⟩)
end Go.Proofs.YtgcmegbfhhebpaaDoor
