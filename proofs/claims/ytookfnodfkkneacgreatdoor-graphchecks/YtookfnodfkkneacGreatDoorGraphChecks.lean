/-
  Our own: the law GraphChecks, walked.
-/
import Derived.Test.YtookfnodfkkneacGreatDoorGrGraphed
import Derived.Test.YtookfnodfkkneacGreatDoorThereAll
import Derived.Test.YtookfnodfkkneacGreatDoorGrFault
import Derived.Test.YtookfnodfkkneacGreatDoorGrLarge
import Derived.Test.YtookfnodfkkneacGreatDoorAsAll
namespace Go.Proofs.YtookfnodfkkneacGreatDoor
open Go.RowKit

/-- A node whose numbers are the machine's. -/
structure IntN (n : Nd) : Prop where
  num : -9223372036854775808 ≤ n.num ∧ n.num ≤ 9223372036854775807
  each : ∀ x ∈ n.ins, -9223372036854775808 ≤ x ∧ x ≤ 9223372036854775807
theorem low_of {n : Nd} (h : FewN n) (k : IntN n) : LowN n := ⟨h.kind, by have := h.ins; omega, by have := h.name; omega, k.num, k.each⟩
set_option maxRecDepth 100000 in
set_option maxHeartbeats 2000000 in
theorem graphChecks_any {w : World} {a : Nat → Addr} (hS : Sents w a) (hT : TabG w) (nm : List UInt8) (P : Int) (nv : Value) (L : List Nd) (hL : L.length ≤ 9223372036854775807) (hO : ∀ n ∈ L, OkN n) (hI : ∀ n ∈ L, IntN n) (hG : XG false (InH w) w nv L) :
    Calls Tryz.prog 4 #[.agg #[.string ⟨nm.toArray⟩, .int .i64 P, nv]] w fun e w' => e = .returned (.bool true) ∧ Below w.heap.size w w' := by
  obtain ⟨ad, cap, rfl⟩ := hG.is
  obtain ⟨W0, hW0⟩ : ∃ W0, W0 = w.alloc (.cells #[.string ⟨nm.toArray⟩, .int .i64 P, .slice ad L.length cap] 48) := ⟨_, rfl⟩
  have hb0 : Below w.heap.size w W0 := by rw [hW0]; (repeat (first | exact Below.refl _ _ | assumption | refine Below.drew ?_ | refine Below.trans ?_ (drewN_below' _ _ _) | refine Below.setCell ?_ (by first | (simp; done) | (simp; omega)) _ | refine Below.alloc ?_ (by first | (simp; done) | (simp; omega)) _))
  have hx0 : W0.heap[w.heap.size]? = some (.cells #[.string ⟨nm.toArray⟩, .int .i64 P, .slice ad L.length cap] 48 (0, 0)) := by rw [hW0]; exact heap_alloc_new _ _
  have HGD := hidX (graphed_any (hS.below hb0) (hT.below hb0))
  have HS := hidX (fun (Y : World) (hY : Below w.heap.size w Y) => hS.below hY)
  have HT := hidX (fun (Y : World) (hY : Below w.heap.size w Y) => hT.below hY)
  have HG := hidX (fun (Y : World) (hY : Below w.heap.size w Y) => hG.imp (inH_up hY) (keepH hY))
  have HX := hidX (fun (Y : World) (hY : Below W0.heap.size W0 Y) => (show (Y.cell? ⟨w.heap.size, 0, none⟩ = some (.string ⟨nm.toArray⟩)) ∧ (Y.cell? ⟨w.heap.size, 1, none⟩ = some (.int .i64 P)) ∧ (Y.cell? ⟨w.heap.size, 2, none⟩ = some (.slice ad L.length cap)) from by
    have h := (hY.block _ (heap_lt hx0)).trans hx0
    exact ⟨cell_of_blk h 0, cell_of_blk h 1, cell_of_blk h 2⟩))
  have HB0 := hidX hb0
  have HO := hidX hO
  have HI := hidX hI
  have hz0 := heap_lt hx0
  clear hS hT hO hI hG hb0 hx0
  go_enter Tryz.func4, Tryz.ntmps4
  go_wp2_with fail
  rw [← hW0]
  clear hW0
  refine HGD.out.mono ?_
  rintro e W1 ⟨rfl, hb1⟩
  have hw1 : Below w.heap.size w W1 := bl_trans HB0.out HB0.out.size hb1
  obtain ⟨d0, d1, d2⟩ := HX.out W1 hb1
  have HLG := hidX (largeG_any nm P (.slice ad L.length cap) L 60 (by decide) hL HO.out (HG.out W1 hw1))
  have HB1 := hidX hb1
  clear hb1 hw1
  go_wp2_with fail
  refine HLG.out.mono ?_
  rintro e W2 ⟨r, rfl, hr, hb2⟩
  have hb2' : Below W0.heap.size W0 W2 := bl_trans HB1.out HB1.out.size hb2
  have hw2 : Below w.heap.size w W2 := bl_trans HB0.out HB0.out.size hb2'
  have HB2 := hidX hb2'
  have HW2 := hidX hw2
  rcases hr with hr | ⟨hr, hlen, hfew⟩
  · subst hr
    clear hb2 hb2' hw2 d0 d1 d2
    go_wp2
    go_ret
    exact ⟨rfl, HW2.out⟩
  · subst hr
    have hL1 : L.length ≤ 1001 := by omega
    obtain ⟨d0, d1, d2⟩ := HX.out W2 hb2'
    have HAG := hidX (asGraph_any nm P (.slice ad L.length cap) L hL1 hfew (HG.out W2 hw2))
    have HLOW := hidX (fun n (hn : n ∈ L) => low_of (hfew n hn) (HI.out n hn))
    clear hb2 hb2' hw2 hlen hfew
    go_wp2_with fail
    refine HAG.out.mono ?_
    rintro e W3 ⟨xv, rfl, hxg, hb3⟩
    obtain ⟨xa, xc, rfl⟩ := hxg.is
    obtain ⟨W4, hW4⟩ : ∃ W4, W4 = W3.alloc (.cells #[.string ⟨nm.toArray⟩, .int .i64 P, .slice xa L.length xc] 52) := ⟨_, rfl⟩
    have hb34 : Below W3.heap.size W3 W4 := by rw [hW4]; (repeat (first | exact Below.refl _ _ | assumption | refine Below.drew ?_ | refine Below.trans ?_ (drewN_below' _ _ _) | refine Below.setCell ?_ (by first | (simp; done) | (simp; omega)) _ | refine Below.alloc ?_ (by first | (simp; done) | (simp; omega)) _))
    have hx4 : W4.heap[W3.heap.size]? = some (.cells #[.string ⟨nm.toArray⟩, .int .i64 P, .slice xa L.length xc] 52 (0, 0)) := by rw [hW4]; exact heap_alloc_new _ _
    have hb23 : Below W0.heap.size W0 W3 := bl_trans HB2.out HB2.out.size hb3
    have hb4 : Below W0.heap.size W0 W4 := bl_trans hb23 hb23.size hb34
    have hw4 : Below w.heap.size w W4 := bl_trans HB0.out HB0.out.size hb4
    obtain ⟨d0, d1, d2⟩ := HX.out W4 hb4
    obtain ⟨d3, d4, d5⟩ := HX.out W3 hb23
    have hz3 : w.heap.size < W3.heap.size := cell_lt d3
    have HRF := hidX (rFault_any nm P (.slice ad L.length cap) L (by omega) HLOW.out (HG.out W4 hw4))
    have HXG := hidX (hxg.imp (inH_up hb34) (keepH hb34))
    have HX4 := hidX hx4
    have HB4 := hidX hb4
    clear hxg hb3 hb34 hx4 hb23 hb4 hw4
    go_wp2_with fail
    rw [← hW4]
    clear hW4
    refine HRF.out.mono ?_
    rintro e W5 ⟨rfl, hb5⟩
    have hfc := fault_code P L
    have hsi : (faultG onesE twosE P L).1 = 0 → (SoundP L ↔ SoundR L) := fun h => sound_iff (wellG h)
    have hwg : (faultG onesE twosE P L).1 = 0 → WellG onesE twosE P L := fun h => wellG h
    have HCKX := hidX (fun (Y : World) (hY : Below W4.heap.size W4 Y) => check_any (HS.out Y (bl_trans HB0.out HB0.out.size (bl_trans HB4.out HB4.out.size hY))) (HT.out Y (bl_trans HB0.out HB0.out.size (bl_trans HB4.out HB4.out.size hY))) nm P (.slice xa L.length xc) L (by omega) HLOW.out (HXG.out.imp (inH_up hY) (keepH hY)))
    have HSDX := hidX (fun (Y : World) (hY : Below W4.heap.size W4 Y) => sound_any (HS.out Y (bl_trans HB0.out HB0.out.size (bl_trans HB4.out HB4.out.size hY))) (HT.out Y (bl_trans HB0.out HB0.out.size (bl_trans HB4.out HB4.out.size hY))) nm P (.slice xa L.length xc) L (by omega) HLOW.out (HXG.out.imp (inH_up hY) (keepH hY)))
    generalize faultG onesE twosE P L = fr at *
    obtain ⟨fc, fat⟩ := fr
    simp only at hfc hsi hwg
    obtain ⟨W6, hW6⟩ : ∃ W6, W6 = W5.alloc (.cells #[.int .i64 (fc : Int), .int .i64 fat] 35) := ⟨_, rfl⟩
    have hb56 : Below W5.heap.size W5 W6 := by rw [hW6]; (repeat (first | exact Below.refl _ _ | assumption | refine Below.drew ?_ | refine Below.trans ?_ (drewN_below' _ _ _) | refine Below.setCell ?_ (by first | (simp; done) | (simp; omega)) _ | refine Below.alloc ?_ (by first | (simp; done) | (simp; omega)) _))
    have hx6 : W6.heap[W5.heap.size]? = some (.cells #[.int .i64 (fc : Int), .int .i64 fat] 35 (0, 0)) := by rw [hW6]; exact heap_alloc_new _ _
    have hb46 : Below W4.heap.size W4 W6 := bl_trans hb5 hb5.size hb56
    have hkeep : ∀ W : World, Below W6.heap.size W6 W → W.cell? ⟨W3.heap.size, 0, none⟩ = some (.string ⟨nm.toArray⟩) ∧ W.cell? ⟨W3.heap.size, 1, none⟩ = some (.int .i64 P) ∧ W.cell? ⟨W3.heap.size, 2, none⟩ = some (.slice xa L.length xc) ∧ W.cell? ⟨W5.heap.size, 0, none⟩ = some (.int .i64 (fc : Int)) ∧ W.cell? ⟨W5.heap.size, 1, none⟩ = some (.int .i64 fat) := fun W hW => by
      have h1 := ((bl_trans hb46 hb46.size hW).block _ (heap_lt HX4.out)).trans HX4.out
      have h2 := (hW.block _ (heap_lt hx6)).trans hx6
      exact ⟨cell_of_blk h1 0, cell_of_blk h1 1, cell_of_blk h1 2, cell_of_blk h2 0, cell_of_blk h2 1⟩
    have HK := hidX hkeep
    have HB46 := hidX hb46
    have HX6 := hidX hx6
    have HFC := hidX hfc
    have HSI := hidX hsi
    have HWG := hidX hwg
    have y0 := cell_of_blk ((hb5.block _ (heap_lt HX4.out)).trans HX4.out) 0
    have hfto : ∀ (Y X8 : World) (v8 : Value), Below W6.heap.size W6 Y → FtTo Y a (fc, fat) (.returned v8) X8 → Calls Tryz.prog 18 #[v8, .agg #[.int .i64 (fc : Int), .int .i64 fat]] X8 fun e w2 => e = .returned (.bool true) ∧ Below X8.heap.size X8 w2 := by
      intro Y X8 v8 hY h
      have hy6 : Below Y.heap.size Y X8 := h.1
      have hs8 : Sents X8 a := HS.out X8 (bl_trans HB0.out HB0.out.size (bl_trans HB4.out HB4.out.size (bl_trans hb46 hb46.size (bl_trans hY hY.size hy6))))
      exact faulted_ft (r := (fc, fat)) h hfc.1 hfc.2 hs8
    have HFTO := hidX hfto
    clear hfto hb5 hb56 hx6 hb46 hkeep hfc hsi hwg d0 d1 d2 d3 d4 d5 y0
    go_wp2_with fail
    rw [← hW6]
    clear hW6
    go_region_held3 (fun W => W.cell? ⟨W3.heap.size, 0, none⟩ = some (.string ⟨nm.toArray⟩) ∧ W.cell? ⟨W3.heap.size, 1, none⟩ = some (.int .i64 P) ∧ W.cell? ⟨W3.heap.size, 2, none⟩ = some (.slice xa L.length xc) ∧ W.cell? ⟨W5.heap.size, 0, none⟩ = some (.int .i64 (fc : Int)) ∧ W.cell? ⟨W5.heap.size, 1, none⟩ = some (.int .i64 fat))
      (first | with_reducible exact s9 | with_reducible exact s8 | exact HK.out _ (by (repeat (first | exact Below.refl _ _ | assumption | refine Below.drew ?_ | refine Below.trans ?_ (drewN_below' _ _ _) | refine Below.setCell ?_ (by first | (simp; done) | (simp; omega)) _ | refine Below.alloc ?_ (by first | (simp; done) | (simp; omega)) _))))
      (first
        | (go_at_call 19; refine (HCKX.out W6.drew (bl_trans HB46.out HB46.out.size (show Below W6.heap.size W6 W6.drew from Below.drew (Below.refl _ _)))).mono ?_; intro e X8 hft; obtain ⟨v8, rfl, hft2⟩ := ft_val hft; have hb8 : Below W6.heap.size W6 X8 := Below.trans (Below.drew (Below.refl _ _)) (show Below W6.heap.size W6.drew X8 from hft2.1); have s8 := HK.out _ hb8; have HB8 := hidX hb8; have HFT := hidX (HFTO.out W6.drew X8 v8 (Below.drew (Below.refl _ _)) hft2); clear hft hft2 hb8)
        | (go_at_call 18; refine HFT.out.mono ?_; rintro e X9 ⟨rfl, hb9⟩; have hb9' : Below W6.heap.size W6 X9 := bl_trans HB8.out HB8.out.size hb9; have s9 := HK.out _ hb9'; have HB9 := hidX hb9'; clear hb9 hb9'))
    clear s8 s9
    have hb09 : Below W0.heap.size W0 X9 := bl_trans HB4.out HB4.out.size (bl_trans HB46.out HB46.out.size HB9.out)
    have hw9 : Below w.heap.size w X9 := bl_trans HB0.out HB0.out.size hb09
    obtain ⟨e0, e1, e2⟩ := HX.out X9 hb09
    obtain ⟨x0, x1, x2, x3, x4⟩ := HK.out X9 HB9.out
    have HW9 := hidX hw9
    have hb49 : Below W4.heap.size W4 X9 := bl_trans HB46.out HB46.out.size HB9.out
    have HB49 := hidX hb49
    by_cases hf0 : fc = 0
    · have t1 : ((fc : Int) == 0) = true := by simp [hf0]
      have HIS := hidX (isSound_any nm P (.slice ad L.length cap) L (HWG.out hf0) HLOW.out (HG.out X9 hw9))
      have HS2 := hidX (HSI.out hf0)
      have HF0 := hidX hf0
      clear hf0 hb09 hw9 hb49
      go_wp2_with fail
      refine HIS.out.mono ?_
      rintro e Y1 ⟨hy1, b1, rfl, hi1⟩
      have hb4y : Below W4.heap.size W4 Y1 := bl_trans HB49.out HB49.out.size hy1
      obtain ⟨y0, y1, y2, y3, y4⟩ := HK.out Y1 (bl_trans HB9.out HB9.out.size hy1)
      have HSD := hidX (HSDX.out Y1 hb4y)
      have HWY := hidX (bl_trans HW9.out HW9.out.size hy1)
      have HI1 := hidX hi1
      clear hi1 hy1 hb4y e0 e1 e2 x0 x1 x2 x3 x4
      go_wp2_with fail
      refine HSD.out.mono ?_
      rintro e Y2 ⟨hy2, b2, rfl, hi2⟩
      have hbb : b2 = b1 := by
        have h3 : b2 = true ↔ b1 = true := hi2.trans ⟨fun h => HI1.out.2 (HS2.out.1 h.2), fun h => ⟨HF0.out, HS2.out.2 (HI1.out.1 h)⟩⟩
        cases b1 <;> cases b2 <;> simp_all
      subst hbb
      have HWZ := hidX (bl_trans HWY.out HWY.out.size hy2)
      have ht : (b2 == b2) = true := by cases b2 <;> rfl
      clear hi2 hy2 HI1 HS2
      go_wp2
      go_ret
      exact ⟨by simp, HWZ.out⟩
    · have t1 : ((fc : Int) == 0) = false := by rw [beq_eq_false_iff_ne]; omega
      have HSD := hidX (HSDX.out X9 hb49)
      have HF0 := hidX hf0
      clear hf0 hb09 hw9 hb49
      go_wp2_with fail
      refine HSD.out.mono ?_
      rintro e Y2 ⟨hy2, b2, rfl, hi2⟩
      have hbb : b2 = false := by
        cases b2 with
        | false => rfl
        | true => exact absurd (hi2.1 rfl).1 HF0.out
      subst hbb
      have HWZ := hidX (bl_trans HW9.out HW9.out.size hy2)
      clear hi2 hy2
      go_wp2
      go_ret
      exact ⟨rfl, HWZ.out⟩
end Go.Proofs.YtookfnodfkkneacGreatDoor
