/- Our own: texts joined: AllocWalks. -/
import Derived.Test.YtimccbilkjjakaaDoorZAlShared
import Derived.Test.YtimccbilkjjakaaDoorZAlAs
import Derived.Test.YtimccbilkjjakaaDoorZAlRef8
import Derived.Test.YtimccbilkjjakaaDoorZWalkBs
import Derived.Test.YtimccbilkjjakaaDoorZTold
import Derived.Test.YtimccbilkjjakaaDoorZDoneAll
import Derived.Test.YtimccbilkjjakaaDoorZAlRunOf
import Derived.Test.YtimccbilkjjakaaDoorZSetS
namespace Go.Proofs.YtimccbilkjjakaaDoor
open Go.RowKit
def stS : Rst := { st0 with how := hStuck }
theorem stS_bnd {ans : List Int} : BndR ans stS := st0_bnd.how _
theorem doneV_stuck {w : World} : DoneV w (.agg #[.string ⟨hStuck.toArray⟩, .int .i64 0, .int .i64 0, .slice none 0 0, .slice none 0 0]) stS := ⟨_, _, [], rfl, xrow_nil _ _, xrow_nil _ _, rfl⟩
theorem doneR_stuck {w : World} : DoneR w (.agg (dnV hStuck 0 0 (.slice none 0 0) (.slice none 0 0)).toArray) stS := ⟨_, _, [], rfl, xrow_nil _ _, xrow_nil _ _, rfl⟩
theorem DoneR.below {w w' : World} {v : Value} {st : Rst} (h : DoneR w v st) (hb : Below w.heap.size w w') : DoneR w' v st := by
 obtain ⟨o, c, xs, e, h1, h2, h3⟩ := h
 exact ⟨o, c, xs, e, h1.imp (inH_up hb) (keepH hb), h2.imp (inH_up hb) (keepH hb), h3.imp (inH_up hb) (keepH hb)⟩
theorem blkT_le (P S : Int) (N : Nat) (b : Lb) : blkT onesE twosE P S N b ≤ 10 := by
 unfold blkT
 split <;> (try split) <;> (try split) <;> omega
theorem lowFrom_code (P S : Int) (N : Nat) : ∀ (l : List Lb) (i : Nat), (lowFrom onesE twosE P S N i l).1 ≤ 10 ∧ ((lowFrom onesE twosE P S N i l).1 = 0 → (lowFrom onesE twosE P S N i l).2 = -1)
 | [], _ => ⟨by simp [lowFrom], fun _ => rfl⟩
 | b :: r, i => by
  unfold lowFrom
  split
  ·exact lowFrom_code P S N r _
  ·rename_i h
   exact ⟨by rw [blk_same]; exact blkT_le P S N b, fun e => absurd e h⟩
theorem lowF_code (P S : Int) (L : List Lb) : (lowF onesE twosE P S L).1 ≤ 10 ∧ ((lowF onesE twosE P S L).1 = 0 → (lowF onesE twosE P S L).2 = -1) := by
 unfold lowF
 split
 ·exact ⟨by decide, fun h => by cases h⟩
 ·split
  ·exact ⟨by decide, fun h => by cases h⟩
  ·split
   ·exact ⟨by decide, fun h => by cases h⟩
   ·split
    ·exact ⟨by decide, fun h => by cases h⟩
    ·exact lowFrom_code P S _ L 0
theorem cells5P {w : World} {r : Nat} {x0 x1 x2 x3 x4 : Value} {t : TypeId} (h : w.heap[r]? = some (.cells #[x0, x1, x2, x3, x4] t (0, 0))) : w.cell? ⟨r, 0, none⟩ = some x0 ∧ w.cell? ⟨r, 1, none⟩ = some x1 ∧ w.cell? ⟨r, 2, none⟩ = some x2 ∧ w.cell? ⟨r, 3, none⟩ = some x3 ∧ w.cell? ⟨r, 4, none⟩ = some x4 :=
 ⟨cell_of_blk h 0, cell_of_blk h 1, cell_of_blk h 2, cell_of_blk h 3, cell_of_blk h 4⟩
theorem free5P {w : World} {r : Nat} {x0 x1 x2 x3 x4 : Value} {t : TypeId} (h : w.heap[r]? = some (.cells #[x0, x1, x2, x3, x4] t (0, 0))) : w.frozen? ⟨r, 0, none⟩ = false ∧ w.frozen? ⟨r, 1, none⟩ = false ∧ w.frozen? ⟨r, 2, none⟩ = false ∧ w.frozen? ⟨r, 3, none⟩ = false ∧ w.frozen? ⟨r, 4, none⟩ = false :=
 ⟨free_of_blk h 0, free_of_blk h 1, free_of_blk h 2, free_of_blk h 3, free_of_blk h 4⟩
theorem FewLb.low {b : Lb} (h : FewLb b) : b.ins.length ≤ 100000 ∧ b.tos.length ≤ 100000 :=
 ⟨by have := h.insl; omega, by have := h.tos; omega⟩
set_option maxRecDepth 100000 in
set_option maxHeartbeats 8000000 in
theorem allocWalks_any {w : World} {a : Nat → Addr} (hS : Sents w a) (hT : TabA w) (nm : List UInt8) (hnm : nm.length ≤ 9223372036854775807) (P V : Int) (ad : Option Addr) (cap : Nat) (L : List Lb) (hL : L.length ≤ 9223372036854775807) (hO : ∀ b ∈ L, OkLb b) (hI : ∀ b ∈ L, ∀ x ∈ b.ins, In64 x.num) (hC : XLC (InH w) w (.slice ad L.length cap) L) (args : List Int) (argv ansv : Value) (hargs : XRow (InH w) w argv args.length (intsG args)) (hal : args.length ≤ 9223372036854775807) (hag : ∀ v ∈ args, In64 v) (ans : List Int) (hans : XRow (InH w) w ansv ans.length (intsG ans)) (hanl : ans.length ≤ 9223372036854775807) (han : ∀ v ∈ ans, In64 v) (ticks : Int) :
  Calls Tryd.prog 3 #[.agg #[.string ⟨nm.toArray⟩, .int .i64 P, .int .i64 V, .slice ad L.length cap], argv, ansv, .int .i64 ticks] w fun e w' => e = .returned (.bool true) ∧ Below w.heap.size w w' := by
 obtain ⟨aad, acap, rfl⟩ := hargs.is
 obtain ⟨nad, ncap, rfl⟩ := hans.is
 obtain ⟨W0, hW0⟩ : ∃ W0, W0 = w.alloc (.cells #[.string ⟨nm.toArray⟩, .int .i64 P, .int .i64 V, .slice ad L.length cap] 24) := ⟨_, rfl⟩
 have hb0 : Below w.heap.size w W0 := by rw [hW0]; (repeat (first | exact Below.refl _ _ | assumption | refine Below.drew ?_ | refine bT ?_ _ | refine bS ?_ _ | refine bA ?_ _))
 have hx0 : W0.heap[w.heap.size]? = some (.cells #[.string ⟨nm.toArray⟩, .int .i64 P, .int .i64 V, .slice ad L.length cap] 24 (0, 0)) := by rw [hW0]; exact heap_alloc_new _ _
 have HGD := hidX (shared_any (hS.below hb0) (hT.below hb0))
 have HS := hidX (fun (Y : World) (hY : Below w.heap.size w Y) => hS.below hY)
 have HT := hidX (fun (Y : World) (hY : Below w.heap.size w Y) => hT.below hY)
 have HG := hidX (fun (Y : World) (hY : Below w.heap.size w Y) => hC.imp (inH_up hY) (keepH hY))
 have HAR := hidX (fun (Y : World) (hY : Below w.heap.size w Y) => hargs.imp (inH_up hY) (keepH hY))
 have HAN := hidX (fun (Y : World) (hY : Below w.heap.size w Y) => hans.imp (inH_up hY) (keepH hY))
 have HX := hidX (fun (Y : World) (hY : Below W0.heap.size W0 Y) => (show Y.cell? ⟨w.heap.size, 0, none⟩ = some (.string ⟨nm.toArray⟩) ∧ Y.cell? ⟨w.heap.size, 1, none⟩ = some (.int .i64 P) ∧ Y.cell? ⟨w.heap.size, 2, none⟩ = some (.int .i64 V) ∧ Y.cell? ⟨w.heap.size, 3, none⟩ = some (.slice ad L.length cap) from by
  have h := (hY.block _ (heap_lt hx0)).trans hx0
  exact ⟨cell_of_blk h 0, cell_of_blk h 1, cell_of_blk h 2, cell_of_blk h 3⟩))
 have HB0 := hidX hb0
 have HO := hidX hO
 have HI := hidX hI
 have HAG := hidX hag
 have HN64 := hidX han
 have hz0 := heap_lt hx0
 clear hS hT hO hI hC hargs hans hag han hb0 hx0
 go_enter Tryd.func3, Tryd.ntmps3
 go_wp2_with fail
 rw [← hW0]
 clear hW0
 refine HGD.out.mono ?_
 rintro e W1 ⟨rfl, hb1⟩
 have hw1 : Below w.heap.size w W1 := bl_trans HB0.out HB0.out.size hb1
 obtain ⟨d0, d1, d2, d3⟩ := HX.out W1 hb1
 have HLG := hidX (largeL_any nm hnm P V L hL HO.out ad cap (HG.out W1 hw1))
 have HB1 := hidX hb1
 clear hb1 hw1
 go_wp2_with fail
 refine HLG.out.mono ?_
 rintro e W2 ⟨r, rfl, hr, hb2⟩
 have hb2' : Below W0.heap.size W0 W2 := bl_trans HB1.out HB1.out.size hb2
 have hw2 : Below w.heap.size w W2 := bl_trans HB0.out HB0.out.size hb2'
 have HB2 := hidX hb2'
 have HW2 := hidX hw2
 rcases hr with hr | ⟨hr, hlen, hfew⟩
 ·subst hr
  clear hb2 hb2' hw2 d0 d1 d2 d3
  go_wp2
  go_ret
  exact ⟨rfl, HW2.out⟩
 ·subst hr
  have hL1 : L.length ≤ 3001 := by omega
  have HLOW := hidX (fun b (hb : b ∈ L) => (hfew b hb).low)
  have HFEW := hidX hfew
  have HMN := hidX (many_any W2 aad nad args.length ans.length acap ncap ticks hal hanl)
  obtain ⟨d0, d1, d2, d3⟩ := HX.out W2 hb2'
  clear hb2 hb2' hw2 hlen hfew
  go_wp2_with fail
  refine HMN.out.mono ?_
  rintro e W2' ⟨rfl, hm⟩
  rcases hm with rfl | ⟨rfl, hm1, hm2, hm3, hm4⟩
  ·clear d0 d1 d2 d3
   go_wp2
   go_ret
   exact ⟨rfl, HW2.out⟩
  ·rename World => W2
   have HAG2 := hidX (asLow_any nm P V (.slice ad L.length cap) L hL1 HFEW.out (HG.out W2 HW2.out))
   go_wp2_with fail
   refine HAG2.out.mono ?_
   rintro e Wa ⟨xv, rfl, hxc, hb3⟩
   obtain ⟨xa, xc, rfl⟩ := hxc.is
   obtain ⟨W4, hW4⟩ : ∃ W4, W4 = Wa.alloc (.cells #[.string ⟨nm.toArray⟩, .int .i64 P, .int .i64 V, .slice xa L.length xc] 31) := ⟨_, rfl⟩
   have hb34 : Below Wa.heap.size Wa W4 := by rw [hW4]; (repeat (first | exact Below.refl _ _ | assumption | refine Below.drew ?_ | refine bT ?_ _ | refine bS ?_ _ | refine bA ?_ _))
   have hx4 : W4.heap[Wa.heap.size]? = some (.cells #[.string ⟨nm.toArray⟩, .int .i64 P, .int .i64 V, .slice xa L.length xc] 31 (0, 0)) := by rw [hW4]; exact heap_alloc_new _ _
   have hb23 : Below W0.heap.size W0 Wa := bl_trans HB2.out HB2.out.size hb3
   have hb4 : Below W0.heap.size W0 W4 := bl_trans hb23 hb23.size hb34
   have hw4 : Below w.heap.size w W4 := bl_trans HB0.out HB0.out.size hb4
   clear d0 d1 d2 d3
   obtain ⟨d0, d1, d2, d3⟩ := HX.out Wa hb23
   have hz3 : w.heap.size < Wa.heap.size := cell_lt d0
   have HRF := hidX (lowFault_any nm P V L (by omega) HLOW.out ad cap (HG.out W4 hw4))
   have HXC := hidX (hxc.imp (inH_up hb34) (keepH hb34))
   have HX4 := hidX hx4
   have HB4 := hidX hb4
   have HW4 := hidX hw4
   clear hxc hb3 hb34 hx4 hb23 hb4 hw4
   go_wp2_with fail
   rw [← hW4]
   clear hW4
   refine HRF.out.mono ?_
   rintro e W5 ⟨rfl, hb5⟩
   have hfc := lowF_code P V L
   have HCKX := hidX (fun (Y : World) (hY : Below W4.heap.size W4 Y) => alCheck_any (HS.out Y (bl_trans HW4.out HW4.out.size hY)) (HT.out Y (bl_trans HW4.out HW4.out.size hY)) nm P V L (by omega) HLOW.out xa xc (HXC.out.imp (inH_up hY) (keepH hY)))
   have HFA := hidX (show (lowF onesE twosE P V L).1 = 0 → (lowF onesE twosE P V L).1 = 0 from fun h => h)
   have HFB := hidX (show ((lowF onesE twosE P V L).1 ≠ 0 ∨ (args.length : Int) ≠ P) → ((lowF onesE twosE P V L).1 ≠ 0 ∨ (args.length : Int) ≠ P) from fun h => h)
   obtain ⟨fc, hfc1⟩ : ∃ fc, fc = (lowF onesE twosE P V L).1 := ⟨_, rfl⟩
   obtain ⟨fat, hfat⟩ : ∃ fat, fat = (lowF onesE twosE P V L).2 := ⟨_, rfl⟩
   have hpr : lowF onesE twosE P V L = (fc, fat) := by rw [hfc1, hfat]
   rw [← hfc1, ← hfat] at hfc
   rw [← hfc1, ← hfat]
   have HFA : Hid (fc = 0 → (lowF onesE twosE P V L).1 = 0) := hidX (fun h => by rw [← hfc1]; exact h)
   have HFB : Hid ((fc ≠ 0 ∨ (args.length : Int) ≠ P) → ((lowF onesE twosE P V L).1 ≠ 0 ∨ (args.length : Int) ≠ P)) := hidX (fun h => by rw [← hfc1]; exact h)
   rw [hpr] at HCKX
   clear hfc1 hfat hpr
   obtain ⟨W6, hW6⟩ : ∃ W6, W6 = W5.alloc (.cells #[.int .i64 (fc : Int), .int .i64 fat] 34) := ⟨_, rfl⟩
   have hb56 : Below W5.heap.size W5 W6 := by rw [hW6]; (repeat (first | exact Below.refl _ _ | assumption | refine Below.drew ?_ | refine bT ?_ _ | refine bS ?_ _ | refine bA ?_ _))
   have hx6 : W6.heap[W5.heap.size]? = some (.cells #[.int .i64 (fc : Int), .int .i64 fat] 34 (0, 0)) := by rw [hW6]; exact heap_alloc_new _ _
   have hb46 : Below W4.heap.size W4 W6 := bl_trans hb5 hb5.size hb56
   have hkeep : ∀ W : World, Below W6.heap.size W6 W → W.cell? ⟨Wa.heap.size, 0, none⟩ = some (.string ⟨nm.toArray⟩) ∧ W.cell? ⟨Wa.heap.size, 1, none⟩ = some (.int .i64 P) ∧ W.cell? ⟨Wa.heap.size, 2, none⟩ = some (.int .i64 V) ∧ W.cell? ⟨Wa.heap.size, 3, none⟩ = some (.slice xa L.length xc) ∧ W.cell? ⟨W5.heap.size, 0, none⟩ = some (.int .i64 (fc : Int)) ∧ W.cell? ⟨W5.heap.size, 1, none⟩ = some (.int .i64 fat) := fun W hW => by
    have h1 := ((bl_trans hb46 hb46.size hW).block _ (heap_lt HX4.out)).trans HX4.out
    have h2 := (hW.block _ (heap_lt hx6)).trans hx6
    exact ⟨cell_of_blk h1 0, cell_of_blk h1 1, cell_of_blk h1 2, cell_of_blk h1 3, cell_of_blk h2 0, cell_of_blk h2 1⟩
   have HK := hidX hkeep
   have HB46 := hidX hb46
   have hfto : ∀ (Y X8 : World) (v8 : Value), Below W6.heap.size W6 Y → FtTo Y a (fc, fat) (.returned v8) X8 → Calls Tryd.prog 9 #[v8, .agg #[.int .i64 (fc : Int), .int .i64 fat]] X8 fun e w2 => e = .returned (.bool true) ∧ Below X8.heap.size X8 w2 := by
    intro Y X8 v8 hY h
    have hy6 : Below Y.heap.size Y X8 := h.1
    have hs8 : Sents X8 a := HS.out X8 (bl_trans HW4.out HW4.out.size (bl_trans hb46 hb46.size (bl_trans hY hY.size hy6)))
    exact faultedA_ft (r := (fc, fat)) h hfc.1 hfc.2 hs8
   have HFTO := hidX hfto
   have HZ6 := hidX (heap_lt hx6)
   clear hfto hb5 hb56 hx6 hb46 hkeep hfc d0 d1 d2 d3
   go_wp2_with fail
   rw [← hW6]
   clear hW6
   go_region_held3 (fun W => W.cell? ⟨Wa.heap.size, 0, none⟩ = some (.string ⟨nm.toArray⟩) ∧ W.cell? ⟨Wa.heap.size, 1, none⟩ = some (.int .i64 P) ∧ W.cell? ⟨Wa.heap.size, 2, none⟩ = some (.int .i64 V) ∧ W.cell? ⟨Wa.heap.size, 3, none⟩ = some (.slice xa L.length xc) ∧ W.cell? ⟨W5.heap.size, 0, none⟩ = some (.int .i64 (fc : Int)) ∧ W.cell? ⟨W5.heap.size, 1, none⟩ = some (.int .i64 fat))
    (first | with_reducible exact s9 | with_reducible exact s8 | exact HK.out _ (by (repeat (first | exact Below.refl _ _ | assumption | refine Below.drew ?_ | refine bT ?_ _ | refine bS ?_ _ | refine bA ?_ _))))
    (first
     | (go_at_call 10; refine (HCKX.out W6.drew (bl_trans HB46.out HB46.out.size (show Below W6.heap.size W6 W6.drew from Below.drew (Below.refl _ _)))).mono ?_; intro e X8 hft; obtain ⟨v8, rfl, hft2⟩ := ft_val hft; have hb8 : Below W6.heap.size W6 X8 := Below.trans (Below.drew (Below.refl _ _)) (show Below W6.heap.size W6.drew X8 from hft2.1); have s8 := HK.out _ hb8; have HB8 := hidX hb8; have HFT := hidX (HFTO.out W6.drew X8 v8 (Below.drew (Below.refl _ _)) hft2); clear hft hft2 hb8)
     | (go_at_call 9; refine HFT.out.mono ?_; rintro e X9 ⟨rfl, hb9⟩; have hb9' : Below W6.heap.size W6 X9 := bl_trans HB8.out HB8.out.size hb9; have s9 := HK.out _ hb9'; have HB9' := hidX hb9'; clear hb9 hb9'))
   clear s8 s9
   have hb49 : Below W4.heap.size W4 X9 := bl_trans HB46.out HB46.out.size HB9'.out
   have HB49 := hidX hb49
   obtain ⟨W10, hW10⟩ : ∃ W10, W10 = X9.alloc (.cells #[.string ⟨#[115, 116, 117, 99, 107]⟩, .int .i64 0, .slice none 0 0, .int .i64 0, .slice none 0 0] 42) := ⟨_, rfl⟩
   have hb910 : Below X9.heap.size X9 W10 := by rw [hW10]; (repeat (first | exact Below.refl _ _ | assumption | refine Below.drew ?_ | refine bT ?_ _ | refine bS ?_ _ | refine bA ?_ _))
   have HX10 := hidX (show W10.heap[X9.heap.size]? = some (.cells #[.string ⟨#[115, 116, 117, 99, 107]⟩, .int .i64 0, .slice none 0 0, .int .i64 0, .slice none 0 0] 42 (0, 0)) from by rw [hW10]; exact heap_alloc_new _ _)
   have HB410 := hidX (bl_trans hb49 hb49.size hb910)
   obtain ⟨e0, e1, e2, e3⟩ := HX.out W10 (bl_trans HB4.out HB4.out.size HB410.out)
   obtain ⟨x0, x1, x2, x3, x4, x5⟩ := HK.out W10 (bl_trans HB9'.out HB9'.out.size hb910)
   clear x0 x1 x2 x3 x5 hb49 hb910
   by_cases hc : fc = 0 ∧ (args.length : Int) = P
   ·skip
    have hW := low_well (HFA.out hc.1)
    obtain ⟨vn, hvn⟩ : ∃ vn : Nat, V = (vn : Int) := ⟨V.toNat, by have := hW.s0; omega⟩
    have hwel10 := bl_trans HW4.out HW4.out.size HB410.out
    have HWO := hidX (show Calls Tryd.prog 11 #[.agg #[.string ⟨nm.toArray⟩, .int .i64 P, .int .i64 V, .slice ad L.length cap], .slice aad args.length acap, .slice nad ans.length ncap, .int .i64 ticks, .int .i64 3000] W10 (fun e w' => Below W10.heap.size W10 w' ∧ ∃ v, e = .returned v ∧ DoneA W10.heap.size w' v (walkL2 hLongL L args ans ticks 3000 0 st0 (raZ V.toNat))) from by
     have h := runA_any nm P vn L (by rw [← hvn]; exact hW) (fun b hb => (HLOW.out b hb).1) HI.out ad cap (HG.out W10 hwel10) args hc.2 aad acap (HAR.out W10 hwel10) HAG.out ans nad ncap (HAN.out W10 hwel10) HN64.out (by omega) ticks (by omega) 3000 (by decide)
     rw [show V.toNat = vn by omega]
     rw [hvn]
     exact h)
    have HSM := hidX (walkL2_same L args ans ticks 3000 100000 0 st0 (raZ V.toNat) (by decide))
    have HBND := hidX (walkL2_bnd (L := L) (args := args) (most := ticks) hLongL 3000 0 st0 (raZ V.toNat) rfl (st0_bnd (ans := ans)))
    have HFA0 := hidX (HFA.out hc.1)
    have HC2 := hidX hc.2
    have t1 : ((fc : Int) == 0) = true := by simp [hc.1]
    have t2 : ((args.length : Int) == P) = true := by simp [hc.2]
    have htk : ticks ≤ 1000 := by omega
    generalize walkL2 hLongL L args ans ticks 3000 0 st0 (raZ V.toNat) = st at *
    clear hc hW hvn hwel10
    go_wp2_with (rw [← hW10]; clear hW10)
    refine HWO.out.mono ?_
    rintro e W11 ⟨hb6, v6, rfl, hd6⟩
    obtain ⟨outv, callv, xs, e6, hd61, hd62, hd63⟩ := hd6
    have e6' : v6 = .agg #[.string ⟨st.how.toArray⟩, .int .i64 st.val, outv, .int .i64 st.tks, callv] := e6
    subst e6'
    obtain ⟨oa, oc, rfl⟩ := hd61.is
    obtain ⟨ca, cc, rfl⟩ := hd62.is
    have hx6 := (hb6.block _ (heap_lt HX10.out)).trans HX10.out
    obtain ⟨f0, f1, f2, f3, f4⟩ := free5P hx6
    obtain ⟨y0, y1, y2, y3, y4⟩ := cells5P hx6
    obtain ⟨WT, hWT⟩ : ∃ WT, WT = (((((W11.setCell ⟨X9.heap.size, 0, none⟩ (.string ⟨st.how.toArray⟩)).setCell ⟨X9.heap.size, 1, none⟩ (.int .i64 st.val)).setCell ⟨X9.heap.size, 2, none⟩ ((.slice oa st.out.length oc))).setCell ⟨X9.heap.size, 3, none⟩ (.int .i64 st.tks)).setCell ⟨X9.heap.size, 4, none⟩ ((.slice ca st.calls.length cc))) := ⟨_, rfl⟩
    have hb46 := bl_trans HB410.out HB410.out.size hb6
    have hlt62 : X9.heap.size < W11.heap.size := heap_lt hx6
    have hlt52 : X9.heap.size < W10.heap.size := heap_lt HX10.out
    have hBT : But X9.heap.size W11 WT := by rw [hWT]; (repeat (first | exact But.refl _ _ | assumption | refine But.drew ?_ | refine But.drewN ?_ _ | refine But.set ?_ _ _ | refine But.setNew ?_ _ _ (by first | (simp; done) | (simp; omega)) _ | refine But.alloc ?_ _))
    have HXT := hidX (show WT.heap[X9.heap.size]? = some (.cells #[.string ⟨st.how.toArray⟩, .int .i64 st.val, (.slice oa st.out.length oc), .int .i64 st.tks, (.slice ca st.calls.length cc)] 42 (0, 0)) from by rw [hWT]; exact set5_blk hx6 _ _ _ _ _)
    have HZT := hidX (show WT.heap.size = W11.heap.size from by rw [hWT]; simp [World.setCell])
    have HB4T := hidX (show Below W4.heap.size W4 WT from ⟨hBT.os.trans hb46.os, hBT.tape.trans hb46.tape, hBT.output.trans hb46.output, by have := hb46.size; have := HZT.out; omega, fun k hk => (hBT.block k (by have := hb46.size; omega) (by have := HB49.out.size; omega)).trans (hb46.block k hk)⟩)
    have HDR := hidX (show DoneR WT (.agg #[.string ⟨st.how.toArray⟩, .int .i64 st.val, (.slice oa st.out.length oc), .int .i64 st.tks, (.slice ca st.calls.length cc)]) st from ⟨_, _, xs, rfl, hd61.imp (fun b hb => by have := hb.2; have := HZT.out; show b < WT.heap.size; omega) (fun b hb => hBT.block b hb.2 (by have := hb.1; omega)), hd62.imp (fun b hb => by have := hb.2; have := HZT.out; show b < WT.heap.size; omega) (fun b hb => hBT.block b hb.2 (by have := hb.1; omega)), hd63.imp (fun b hb => by have := hb.2; have := HZT.out; show b < WT.heap.size; omega) (fun b hb => hBT.block b hb.2 (by have := hb.1; omega))⟩)
    have c0 : WT.cell? ⟨X9.heap.size, 0, none⟩ = some (.string ⟨st.how.toArray⟩) := cell_of_blk HXT.out 0
    clear e6 hx6 hb46 hBT
    by_cases hlong : st.how = hLongL
    ·have tl : (st.how == [108, 111, 110, 103]) = true := by rw [hlong]; decide
     have HWT := hidX (bl_trans HW4.out HW4.out.size HB4T.out)
     clear hlong
     go_wp2_with (rw [← hWT]; clear hWT f0 f1 f2 f3 f4 y0 y1 y2 y3 y4)
     go_ret
     exact ⟨rfl, HWT.out⟩
    ·have tl : (st.how == [108, 111, 110, 103]) = false := ne_lit hlong
     have HWLK := hidX (show ∀ (Y : World), Below WT.heap.size WT Y → ∀ a1 a2 c1 c2, XRow (InH Y) Y (.slice a1 args.length c1) args.length (intsG args) → XRow (InH Y) Y (.slice a2 ans.length c2) ans.length (intsG ans) → Calls Tryd.prog 14 #[.agg #[.string ⟨nm.toArray⟩, .int .i64 P, .int .i64 V, .slice xa L.length xc], .slice a1 args.length c1, .slice a2 ans.length c2, .int .i64 ticks] Y fun e w' => Below Y.heap.size Y w' ∧ ∃ v, e = .returned v ∧ DoneV w' v st from fun Y hY a1 a2 c1 c2 h1 h2 => by
      have hwY := bl_trans HW4.out HW4.out.size (bl_trans HB4T.out HB4T.out.size hY)
      have h := alWalk_any (HS.out Y hwY) (HT.out Y hwY) nm P V L HLOW.out xa xc (HXC.out.imp (inH_up (bl_trans HB4T.out HB4T.out.size hY)) (keepH (bl_trans HB4T.out HB4T.out.size hY))) HFA0.out args HC2.out a1 c1 h1 ans a2 c2 h2 (by omega) ticks htk
      rw [HSM.out hlong] at h
      exact h)
     clear hlong
     go_wp2_with (rw [← hWT]; clear hWT f0 f1 f2 f3 f4 y0 y1 y2 y3 y4)
     have HK9 := hidX (fun (W : World) (hW : Below WT.heap.size WT W) => (show W.cell? ⟨Wa.heap.size, 0, none⟩ = some (.string ⟨nm.toArray⟩) ∧ W.cell? ⟨Wa.heap.size, 1, none⟩ = some (.int .i64 P) ∧ W.cell? ⟨Wa.heap.size, 2, none⟩ = some (.int .i64 V) ∧ W.cell? ⟨Wa.heap.size, 3, none⟩ = some (.slice xa L.length xc) ∧ W.cell? ⟨X9.heap.size, 0, none⟩ = some (.string ⟨st.how.toArray⟩) ∧ W.cell? ⟨X9.heap.size, 1, none⟩ = some (.int .i64 st.val) ∧ W.cell? ⟨X9.heap.size, 2, none⟩ = some ((.slice oa st.out.length oc)) ∧ W.cell? ⟨X9.heap.size, 3, none⟩ = some (.int .i64 st.tks) ∧ W.cell? ⟨X9.heap.size, 4, none⟩ = some ((.slice ca st.calls.length cc)) from by
      have h1 := ((bl_trans HB4T.out HB4T.out.size hW).block _ (heap_lt HX4.out)).trans HX4.out
      have h2 := (hW.block _ (heap_lt HXT.out)).trans HXT.out
      exact ⟨cell_of_blk h1 0, cell_of_blk h1 1, cell_of_blk h1 2, cell_of_blk h1 3, cell_of_blk h2 0, cell_of_blk h2 1, cell_of_blk h2 2, cell_of_blk h2 3, cell_of_blk h2 4⟩))
     obtain ⟨k0, k1, k2, k3, k4, k5, k6, k7, k8⟩ := HK9.out WT (Below.refl _ _)
     have HWT := hidX (bl_trans HW4.out HW4.out.size HB4T.out)
     have hm1' : args.length ≤ 5000 := by omega
     have hm2' : ans.length ≤ 5000 := by omega
     go_wp2_with fail
     go_region_held3 (fun W => W.cell? ⟨Wa.heap.size, 0, none⟩ = some (.string ⟨nm.toArray⟩) ∧ W.cell? ⟨Wa.heap.size, 1, none⟩ = some (.int .i64 P) ∧ W.cell? ⟨Wa.heap.size, 2, none⟩ = some (.int .i64 V) ∧ W.cell? ⟨Wa.heap.size, 3, none⟩ = some (.slice xa L.length xc) ∧ W.cell? ⟨X9.heap.size, 0, none⟩ = some (.string ⟨st.how.toArray⟩) ∧ W.cell? ⟨X9.heap.size, 1, none⟩ = some (.int .i64 st.val) ∧ W.cell? ⟨X9.heap.size, 2, none⟩ = some ((.slice oa st.out.length oc)) ∧ W.cell? ⟨X9.heap.size, 3, none⟩ = some (.int .i64 st.tks) ∧ W.cell? ⟨X9.heap.size, 4, none⟩ = some ((.slice ca st.calls.length cc)))
      (first | with_reducible exact s9 | with_reducible exact s8 | with_reducible exact s7 | with_reducible exact s6 | with_reducible exact s5 | exact HK9.out _ (by (repeat (first | exact Below.refl _ _ | assumption | refine Below.drew ?_ | refine bT ?_ _ | refine bS ?_ _ | refine bA ?_ _))))
      (first
       | (refine step_append_intsG rfl (.tmp 60) (.tmp 61) rfl (by simp [Act.eval]) (.slice aad args.length acap) (by simp [Act.eval]) args hm1' (HAR.out WT.drew (bl_trans HWT.out HWT.out.size (Below.drew (Below.refl _ _)))) ?_; intro ad5 cap5 X5 ho5 hb5; have hb5' : Below WT.heap.size WT X5 := Below.trans (Below.drew (Below.refl _ _)) (show Below WT.heap.size WT.drew X5 from hb5); have s5 := HK9.out _ hb5'; have HB5 := hidX hb5'; have HO5 := hidX ho5; clear ho5 hb5 hb5')
       | (refine step_append_intsG rfl (.tmp 63) (.tmp 64) rfl (by simp [Act.eval]) (.slice nad ans.length ncap) (by simp [Act.eval]) ans hm2' (HAN.out X5 (bl_trans HWT.out HWT.out.size HB5.out)) ?_; intro ad6 cap6 X6 ho6 hb6; have hb6' := bl_trans HB5.out HB5.out.size hb6; have s6 := HK9.out _ hb6'; have HB6 := hidX hb6'; have HB56 := hidX hb6; have HO6 := hidX ho6; clear ho6 hb6 hb6')
       | (go_at_call 14; refine (HWLK.out X6 HB6.out ad5 ad6 cap5 cap6 ((xrow_own HO5.out).imp (fun b hb => (inH_up HB56.out) b hb.2) (fun b hb => HB56.out.block b hb.2)) ((xrow_own HO6.out).imp (fun b hb => hb.2) (fun _ _ => rfl))).mono ?_; rintro e X7 ⟨hb7, v7, rfl, hd7⟩; have hb7' := bl_trans HB6.out HB6.out.size hb7; have s7 := HK9.out _ hb7'; have HB7 := hidX hb7'; have HD7 := hidX hd7; clear hb7 hb7' hd7)
       | (go_at_call 13; refine (ofDone_any HD7.out (by have := HBND.out.calls; omega)).mono ?_; rintro e X8 ⟨hb8, v8, rfl, hd8⟩; have hb8' := bl_trans HB7.out HB7.out.size hb8; have s8 := HK9.out _ hb8'; have HB8 := hidX hb8'; have HD8 := hidX hd8; clear hb8 hb8' hd8)
       | (go_at_call 12; refine (sameDone_any HD8.out (HDR.out.below HB8.out) (by have := HBND.out.out; omega) (by have := HBND.out.calls; omega) (fun c hc => by have := HBND.out.args c hc; omega)).mono ?_; rintro e Y9 ⟨rfl, hb9⟩; have hb9' := bl_trans HB8.out HB8.out.size hb9; have s9 := HK9.out _ hb9'; have HB9 := hidX hb9'; clear hb9 hb9'))
     have HF9 := hidX (bl_trans HWT.out HWT.out.size HB9.out)
     clear k0 k1 k2 k3 k4 k5 k6 k7 k8 s5 s6 s7 s8 s9
     go_wp2
     go_ret
     exact ⟨rfl, HF9.out⟩
   ·have HBAD := hidX (HFB.out (by
     by_cases h1 : fc = 0
     ·exact Or.inr (fun h2 => hc ⟨h1, h2⟩)
     ·exact Or.inl h1))
    by_cases hf0 : fc = 0
    ·have t1 : ((fc : Int) == 0) = true := by simp [hf0]
     have t2 : ((args.length : Int) == P) = false := by
      rw [beq_eq_false_iff_ne]
      exact fun h => hc ⟨hf0, h⟩
     clear hc hf0
     obtain ⟨WT, hWT⟩ : ∃ WT, WT = W10 := ⟨_, rfl⟩
     subst hWT
     have HB4T := HB410
     obtain ⟨st, hst⟩ : ∃ st, st = stS := ⟨_, rfl⟩
     obtain ⟨outv, hov⟩ : ∃ v : Value, v = .slice none 0 0 := ⟨_, rfl⟩
     obtain ⟨callv, hcv⟩ : ∃ v : Value, v = .slice none 0 0 := ⟨_, rfl⟩
     have HXT := hidX (show WT.heap[X9.heap.size]? = some (.cells #[.string ⟨st.how.toArray⟩, .int .i64 st.val, outv, .int .i64 st.tks, callv] 42 (0, 0)) from by rw [hst, hov, hcv]; exact HX10.out)
     have HDR := hidX (show DoneR WT (.agg #[.string ⟨st.how.toArray⟩, .int .i64 st.val, outv, .int .i64 st.tks, callv]) st from by rw [hst, hov, hcv]; exact doneR_stuck)
     have HBND := hidX (show BndR ans st from by rw [hst]; exact stS_bnd)
     have HWLK := hidX (show ∀ (Y : World), Below WT.heap.size WT Y → ∀ a1 a2 c1 c2, XRow (InH Y) Y (.slice a1 args.length c1) args.length (intsG args) → XRow (InH Y) Y (.slice a2 ans.length c2) ans.length (intsG ans) → Calls Tryd.prog 14 #[.agg #[.string ⟨nm.toArray⟩, .int .i64 P, .int .i64 V, .slice xa L.length xc], .slice a1 args.length c1, .slice a2 ans.length c2, .int .i64 ticks] Y fun e w' => Below Y.heap.size Y w' ∧ ∃ v, e = .returned v ∧ DoneV w' v st from fun Y hY a1 a2 c1 c2 _ _ => by
      have hwY := bl_trans HW4.out HW4.out.size (bl_trans HB4T.out HB4T.out.size hY)
      exact (alWalk_bad (HS.out Y hwY) (HT.out Y hwY) nm P V L (by omega) HLOW.out xa xc (HXC.out.imp (inH_up (bl_trans HB4T.out HB4T.out.size hY)) (keepH (bl_trans HB4T.out HB4T.out.size hY))) args.length a1 c1 (.slice a2 ans.length c2) ticks HBAD.out).mono (fun e w' h => ⟨h.1, _, h.2, by rw [hst]; exact doneV_stuck⟩))
     have tl : (st.how == [108, 111, 110, 103]) = false := by rw [hst]; decide
     have q0 : WT.cell? ⟨X9.heap.size, 0, none⟩ = some (.string ⟨st.how.toArray⟩) := cell_of_blk HXT.out 0
     clear hst hov hcv HB410 HX10
     go_wp2_with (rw [← hW10]; clear hW10)
     have HK9 := hidX (fun (W : World) (hW : Below WT.heap.size WT W) => (show W.cell? ⟨Wa.heap.size, 0, none⟩ = some (.string ⟨nm.toArray⟩) ∧ W.cell? ⟨Wa.heap.size, 1, none⟩ = some (.int .i64 P) ∧ W.cell? ⟨Wa.heap.size, 2, none⟩ = some (.int .i64 V) ∧ W.cell? ⟨Wa.heap.size, 3, none⟩ = some (.slice xa L.length xc) ∧ W.cell? ⟨X9.heap.size, 0, none⟩ = some (.string ⟨st.how.toArray⟩) ∧ W.cell? ⟨X9.heap.size, 1, none⟩ = some (.int .i64 st.val) ∧ W.cell? ⟨X9.heap.size, 2, none⟩ = some (outv) ∧ W.cell? ⟨X9.heap.size, 3, none⟩ = some (.int .i64 st.tks) ∧ W.cell? ⟨X9.heap.size, 4, none⟩ = some (callv) from by
      have h1 := ((bl_trans HB4T.out HB4T.out.size hW).block _ (heap_lt HX4.out)).trans HX4.out
      have h2 := (hW.block _ (heap_lt HXT.out)).trans HXT.out
      exact ⟨cell_of_blk h1 0, cell_of_blk h1 1, cell_of_blk h1 2, cell_of_blk h1 3, cell_of_blk h2 0, cell_of_blk h2 1, cell_of_blk h2 2, cell_of_blk h2 3, cell_of_blk h2 4⟩))
     obtain ⟨k0, k1, k2, k3, k4, k5, k6, k7, k8⟩ := HK9.out WT (Below.refl _ _)
     have HWT := hidX (bl_trans HW4.out HW4.out.size HB4T.out)
     have hm1' : args.length ≤ 5000 := by omega
     have hm2' : ans.length ≤ 5000 := by omega
     go_wp2_with fail
     go_region_held3 (fun W => W.cell? ⟨Wa.heap.size, 0, none⟩ = some (.string ⟨nm.toArray⟩) ∧ W.cell? ⟨Wa.heap.size, 1, none⟩ = some (.int .i64 P) ∧ W.cell? ⟨Wa.heap.size, 2, none⟩ = some (.int .i64 V) ∧ W.cell? ⟨Wa.heap.size, 3, none⟩ = some (.slice xa L.length xc) ∧ W.cell? ⟨X9.heap.size, 0, none⟩ = some (.string ⟨st.how.toArray⟩) ∧ W.cell? ⟨X9.heap.size, 1, none⟩ = some (.int .i64 st.val) ∧ W.cell? ⟨X9.heap.size, 2, none⟩ = some (outv) ∧ W.cell? ⟨X9.heap.size, 3, none⟩ = some (.int .i64 st.tks) ∧ W.cell? ⟨X9.heap.size, 4, none⟩ = some (callv))
      (first | with_reducible exact s9 | with_reducible exact s8 | with_reducible exact s7 | with_reducible exact s6 | with_reducible exact s5 | exact HK9.out _ (by (repeat (first | exact Below.refl _ _ | assumption | refine Below.drew ?_ | refine bT ?_ _ | refine bS ?_ _ | refine bA ?_ _))))
      (first
       | (refine step_append_intsG rfl (.tmp 60) (.tmp 61) rfl (by simp [Act.eval]) (.slice aad args.length acap) (by simp [Act.eval]) args hm1' (HAR.out WT.drew (bl_trans HWT.out HWT.out.size (Below.drew (Below.refl _ _)))) ?_; intro ad5 cap5 X5 ho5 hb5; have hb5' : Below WT.heap.size WT X5 := Below.trans (Below.drew (Below.refl _ _)) (show Below WT.heap.size WT.drew X5 from hb5); have s5 := HK9.out _ hb5'; have HB5 := hidX hb5'; have HO5 := hidX ho5; clear ho5 hb5 hb5')
       | (refine step_append_intsG rfl (.tmp 63) (.tmp 64) rfl (by simp [Act.eval]) (.slice nad ans.length ncap) (by simp [Act.eval]) ans hm2' (HAN.out X5 (bl_trans HWT.out HWT.out.size HB5.out)) ?_; intro ad6 cap6 X6 ho6 hb6; have hb6' := bl_trans HB5.out HB5.out.size hb6; have s6 := HK9.out _ hb6'; have HB6 := hidX hb6'; have HB56 := hidX hb6; have HO6 := hidX ho6; clear ho6 hb6 hb6')
       | (go_at_call 14; refine (HWLK.out X6 HB6.out ad5 ad6 cap5 cap6 ((xrow_own HO5.out).imp (fun b hb => (inH_up HB56.out) b hb.2) (fun b hb => HB56.out.block b hb.2)) ((xrow_own HO6.out).imp (fun b hb => hb.2) (fun _ _ => rfl))).mono ?_; rintro e X7 ⟨hb7, v7, rfl, hd7⟩; have hb7' := bl_trans HB6.out HB6.out.size hb7; have s7 := HK9.out _ hb7'; have HB7 := hidX hb7'; have HD7 := hidX hd7; clear hb7 hb7' hd7)
       | (go_at_call 13; refine (ofDone_any HD7.out (by have := HBND.out.calls; omega)).mono ?_; rintro e X8 ⟨hb8, v8, rfl, hd8⟩; have hb8' := bl_trans HB7.out HB7.out.size hb8; have s8 := HK9.out _ hb8'; have HB8 := hidX hb8'; have HD8 := hidX hd8; clear hb8 hb8' hd8)
       | (go_at_call 12; refine (sameDone_any HD8.out (HDR.out.below HB8.out) (by have := HBND.out.out; omega) (by have := HBND.out.calls; omega) (fun c hc => by have := HBND.out.args c hc; omega)).mono ?_; rintro e Y9 ⟨rfl, hb9⟩; have hb9' := bl_trans HB8.out HB8.out.size hb9; have s9 := HK9.out _ hb9'; have HB9 := hidX hb9'; clear hb9 hb9'))
     have HF9 := hidX (bl_trans HWT.out HWT.out.size HB9.out)
     clear k0 k1 k2 k3 k4 k5 k6 k7 k8 s5 s6 s7 s8 s9
     go_wp2
     go_ret
     exact ⟨rfl, HF9.out⟩
    ·have t1 : ((fc : Int) == 0) = false := by rw [beq_eq_false_iff_ne]; omega
     clear hc hf0
     obtain ⟨WT, hWT⟩ : ∃ WT, WT = W10 := ⟨_, rfl⟩
     subst hWT
     have HB4T := HB410
     obtain ⟨st, hst⟩ : ∃ st, st = stS := ⟨_, rfl⟩
     obtain ⟨outv, hov⟩ : ∃ v : Value, v = .slice none 0 0 := ⟨_, rfl⟩
     obtain ⟨callv, hcv⟩ : ∃ v : Value, v = .slice none 0 0 := ⟨_, rfl⟩
     have HXT := hidX (show WT.heap[X9.heap.size]? = some (.cells #[.string ⟨st.how.toArray⟩, .int .i64 st.val, outv, .int .i64 st.tks, callv] 42 (0, 0)) from by rw [hst, hov, hcv]; exact HX10.out)
     have HDR := hidX (show DoneR WT (.agg #[.string ⟨st.how.toArray⟩, .int .i64 st.val, outv, .int .i64 st.tks, callv]) st from by rw [hst, hov, hcv]; exact doneR_stuck)
     have HBND := hidX (show BndR ans st from by rw [hst]; exact stS_bnd)
     have HWLK := hidX (show ∀ (Y : World), Below WT.heap.size WT Y → ∀ a1 a2 c1 c2, XRow (InH Y) Y (.slice a1 args.length c1) args.length (intsG args) → XRow (InH Y) Y (.slice a2 ans.length c2) ans.length (intsG ans) → Calls Tryd.prog 14 #[.agg #[.string ⟨nm.toArray⟩, .int .i64 P, .int .i64 V, .slice xa L.length xc], .slice a1 args.length c1, .slice a2 ans.length c2, .int .i64 ticks] Y fun e w' => Below Y.heap.size Y w' ∧ ∃ v, e = .returned v ∧ DoneV w' v st from fun Y hY a1 a2 c1 c2 _ _ => by
      have hwY := bl_trans HW4.out HW4.out.size (bl_trans HB4T.out HB4T.out.size hY)
      exact (alWalk_bad (HS.out Y hwY) (HT.out Y hwY) nm P V L (by omega) HLOW.out xa xc (HXC.out.imp (inH_up (bl_trans HB4T.out HB4T.out.size hY)) (keepH (bl_trans HB4T.out HB4T.out.size hY))) args.length a1 c1 (.slice a2 ans.length c2) ticks HBAD.out).mono (fun e w' h => ⟨h.1, _, h.2, by rw [hst]; exact doneV_stuck⟩))
     have tl : (st.how == [108, 111, 110, 103]) = false := by rw [hst]; decide
     have q0 : WT.cell? ⟨X9.heap.size, 0, none⟩ = some (.string ⟨st.how.toArray⟩) := cell_of_blk HXT.out 0
     clear hst hov hcv HB410 HX10
     go_wp2_with (rw [← hW10]; clear hW10)
     have HK9 := hidX (fun (W : World) (hW : Below WT.heap.size WT W) => (show W.cell? ⟨Wa.heap.size, 0, none⟩ = some (.string ⟨nm.toArray⟩) ∧ W.cell? ⟨Wa.heap.size, 1, none⟩ = some (.int .i64 P) ∧ W.cell? ⟨Wa.heap.size, 2, none⟩ = some (.int .i64 V) ∧ W.cell? ⟨Wa.heap.size, 3, none⟩ = some (.slice xa L.length xc) ∧ W.cell? ⟨X9.heap.size, 0, none⟩ = some (.string ⟨st.how.toArray⟩) ∧ W.cell? ⟨X9.heap.size, 1, none⟩ = some (.int .i64 st.val) ∧ W.cell? ⟨X9.heap.size, 2, none⟩ = some (outv) ∧ W.cell? ⟨X9.heap.size, 3, none⟩ = some (.int .i64 st.tks) ∧ W.cell? ⟨X9.heap.size, 4, none⟩ = some (callv) from by
      have h1 := ((bl_trans HB4T.out HB4T.out.size hW).block _ (heap_lt HX4.out)).trans HX4.out
      have h2 := (hW.block _ (heap_lt HXT.out)).trans HXT.out
      exact ⟨cell_of_blk h1 0, cell_of_blk h1 1, cell_of_blk h1 2, cell_of_blk h1 3, cell_of_blk h2 0, cell_of_blk h2 1, cell_of_blk h2 2, cell_of_blk h2 3, cell_of_blk h2 4⟩))
     obtain ⟨k0, k1, k2, k3, k4, k5, k6, k7, k8⟩ := HK9.out WT (Below.refl _ _)
     have HWT := hidX (bl_trans HW4.out HW4.out.size HB4T.out)
     have hm1' : args.length ≤ 5000 := by omega
     have hm2' : ans.length ≤ 5000 := by omega
     go_wp2_with fail
     go_region_held3 (fun W => W.cell? ⟨Wa.heap.size, 0, none⟩ = some (.string ⟨nm.toArray⟩) ∧ W.cell? ⟨Wa.heap.size, 1, none⟩ = some (.int .i64 P) ∧ W.cell? ⟨Wa.heap.size, 2, none⟩ = some (.int .i64 V) ∧ W.cell? ⟨Wa.heap.size, 3, none⟩ = some (.slice xa L.length xc) ∧ W.cell? ⟨X9.heap.size, 0, none⟩ = some (.string ⟨st.how.toArray⟩) ∧ W.cell? ⟨X9.heap.size, 1, none⟩ = some (.int .i64 st.val) ∧ W.cell? ⟨X9.heap.size, 2, none⟩ = some (outv) ∧ W.cell? ⟨X9.heap.size, 3, none⟩ = some (.int .i64 st.tks) ∧ W.cell? ⟨X9.heap.size, 4, none⟩ = some (callv))
      (first | with_reducible exact s9 | with_reducible exact s8 | with_reducible exact s7 | with_reducible exact s6 | with_reducible exact s5 | exact HK9.out _ (by (repeat (first | exact Below.refl _ _ | assumption | refine Below.drew ?_ | refine bT ?_ _ | refine bS ?_ _ | refine bA ?_ _))))
      (first
       | (refine step_append_intsG rfl (.tmp 60) (.tmp 61) rfl (by simp [Act.eval]) (.slice aad args.length acap) (by simp [Act.eval]) args hm1' (HAR.out WT.drew (bl_trans HWT.out HWT.out.size (Below.drew (Below.refl _ _)))) ?_; intro ad5 cap5 X5 ho5 hb5; have hb5' : Below WT.heap.size WT X5 := Below.trans (Below.drew (Below.refl _ _)) (show Below WT.heap.size WT.drew X5 from hb5); have s5 := HK9.out _ hb5'; have HB5 := hidX hb5'; have HO5 := hidX ho5; clear ho5 hb5 hb5')
       | (refine step_append_intsG rfl (.tmp 63) (.tmp 64) rfl (by simp [Act.eval]) (.slice nad ans.length ncap) (by simp [Act.eval]) ans hm2' (HAN.out X5 (bl_trans HWT.out HWT.out.size HB5.out)) ?_; intro ad6 cap6 X6 ho6 hb6; have hb6' := bl_trans HB5.out HB5.out.size hb6; have s6 := HK9.out _ hb6'; have HB6 := hidX hb6'; have HB56 := hidX hb6; have HO6 := hidX ho6; clear ho6 hb6 hb6')
       | (go_at_call 14; refine (HWLK.out X6 HB6.out ad5 ad6 cap5 cap6 ((xrow_own HO5.out).imp (fun b hb => (inH_up HB56.out) b hb.2) (fun b hb => HB56.out.block b hb.2)) ((xrow_own HO6.out).imp (fun b hb => hb.2) (fun _ _ => rfl))).mono ?_; rintro e X7 ⟨hb7, v7, rfl, hd7⟩; have hb7' := bl_trans HB6.out HB6.out.size hb7; have s7 := HK9.out _ hb7'; have HB7 := hidX hb7'; have HD7 := hidX hd7; clear hb7 hb7' hd7)
       | (go_at_call 13; refine (ofDone_any HD7.out (by have := HBND.out.calls; omega)).mono ?_; rintro e X8 ⟨hb8, v8, rfl, hd8⟩; have hb8' := bl_trans HB7.out HB7.out.size hb8; have s8 := HK9.out _ hb8'; have HB8 := hidX hb8'; have HD8 := hidX hd8; clear hb8 hb8' hd8)
       | (go_at_call 12; refine (sameDone_any HD8.out (HDR.out.below HB8.out) (by have := HBND.out.out; omega) (by have := HBND.out.calls; omega) (fun c hc => by have := HBND.out.args c hc; omega)).mono ?_; rintro e Y9 ⟨rfl, hb9⟩; have hb9' := bl_trans HB8.out HB8.out.size hb9; have s9 := HK9.out _ hb9'; have HB9 := hidX hb9'; clear hb9 hb9'))
     have HF9 := hidX (bl_trans HWT.out HWT.out.size HB9.out)
     clear k0 k1 k2 k3 k4 k5 k6 k7 k8 s5 s6 s7 s8 s9
     go_wp2
     go_ret
     exact ⟨rfl, HF9.out⟩
end Go.Proofs.YtimccbilkjjakaaDoor
