/- Our own: texts joined: AlAs. -/
import Derived.Test.YtimccbilkjjakaaDoorZGrowAll
namespace Go.Proofs.YtimccbilkjjakaaDoor
open Go.RowKit
theorem AlC.push {w W0 X W3 W4 Z : World} {cs : Array Value} {nv lv lv' : Value} {K : List Lb} {x : Lb} {xs ys : List Value} (h : AlC w W0 X cs nv lv K) (hs : W0.heap.size = w.heap.size + 3) (ho : X.ownsRow W0.heap.size 55 4 lv K.length xs) (hx : YSs (XLB (KA W0.heap.size X lv) X) K xs)
  (h3 : Below X.heap.size X W3) (hi : XLB (Nw X W3) W3 x ys) (h4 : Below W3.heap.size W3 W4) (hg : W4.grownBy Z lv.ownBlock) (hz : Z.ownsRow W0.heap.size 55 4 lv' (K.length + 1) (xs ++ ys)) (hl : lv'.ownBlock = lv.ownBlock ∨ lv'.ownBlock = some W4.heap.size) :
  AlC w W0 (Z.setCell ⟨w.heap.size + 1 + 1, 3, none⟩ lv') cs nv lv' (K ++ [x]) := by
 have z0 := h.low.size
 have zX := h.grow.low.size
 have z3 := h3.size
 have z4 := h4.size
 have zz := hg.size
 have key : ∀ b, b < W0.heap.size → Z.heap[b]? = X.heap[b]? := fun b hb => by
  rw [hg.block b (by omega) (fun e => by have := (ho.lt b e.symm).1; omega), h4.block b (by omega), h3.block b (by omega)]
 refine ⟨?_, ?_, h.grow.push XLB.imp ho hx h3 hi h4 hg hz hl⟩
 ·have hbZ : Below w.heap.size w Z := ⟨hg.os.trans (h4.os.trans (h3.os.trans h.low.os)), hg.tape.trans (h4.tape.trans (h3.tape.trans h.low.tape)), hg.output.trans (h4.output.trans (h3.output.trans h.low.output)), by omega, fun b hb => (key b (by omega)).trans (h.low.block b hb)⟩
  exact hbZ.setCell (by show w.heap.size ≤ w.heap.size + 1 + 1; omega) _
 ·rw [Below.heap_setCell _ _ _ _ (by show w.heap.size ≠ w.heap.size + 1 + 1; omega), key _ (by omega)]
  exact h.src
set_option maxRecDepth 100000 in
set_option maxHeartbeats 2000000 in
theorem asLow_any {w : World} (nm : List UInt8) (P V : Int) (nv : Value) (L : List Lb) (hL : L.length ≤ 3001) (hF : ∀ b ∈ L, FewLb b) (hC : XLC (InH w) w nv L) :
  Calls Tryd.prog 7 #[.agg #[.string ⟨nm.toArray⟩, .int .i64 P, .int .i64 V, nv]] w fun e w' => ∃ v, e = .returned (.agg #[.string ⟨nm.toArray⟩, .int .i64 P, .int .i64 V, v]) ∧ XLC (InH w') w' v L ∧ Below w.heap.size w w' := by
 obtain ⟨ad, cap, rfl⟩ := hC.is
 have hL' : (L.length : Int) ≤ 3001 := by omega
 obtain ⟨W0, hW0⟩ : ∃ W0, W0 = (((w.alloc (.cells #[.string ⟨nm.toArray⟩, .int .i64 P, .int .i64 V, .slice ad L.length cap] 24)).alloc (.cells #[.string ⟨#[]⟩, .int .i64 0, .int .i64 0, .slice none 0 0] 31)).alloc (.cells #[.string ⟨nm.toArray⟩, .int .i64 P, .int .i64 V, .slice none 0 0] 31)) := ⟨_, rfl⟩
 have hs0 : W0.heap.size = w.heap.size + 3 := by rw [hW0]; simp
 have HRES := hidX (show W0.heap[w.heap.size + 1]? = some (.cells #[.string ⟨#[]⟩, .int .i64 0, .int .i64 0, .slice none 0 0] 31 (0, 0)) by rw [hW0]; exact (thr_blksL w _ _ _).2.1)
 have h0 : AlC w W0 W0 #[.string ⟨nm.toArray⟩, .int .i64 P, .int .i64 V, .slice none 0 0] (.slice ad L.length cap) (.slice none 0 0) (L.take 0) := by
  obtain ⟨t1, t2, t3⟩ := thr_blksL w (.cells #[.string ⟨nm.toArray⟩, .int .i64 P, .int .i64 V, .slice ad L.length cap] 24) (.cells #[.string ⟨#[]⟩, .int .i64 0, .int .i64 0, .slice none 0 0] 31) (.cells #[.string ⟨nm.toArray⟩, .int .i64 P, .int .i64 V, .slice none 0 0] 31)
  rw [← hW0] at t1 t2 t3
  exact ⟨by rw [hW0]; (repeat (first | exact Below.refl _ _ | assumption | refine Below.drew ?_ | refine bT ?_ _ | refine bS ?_ _ | refine bA ?_ _)), by simpa using t1, GrowAt.start t3 (by simp)⟩
 have HG := hidX hC
 have HF := hidX hF
 have H0 := hidX h0
 have HS0 := hidX hs0
 clear hC hF h0 hs0
 go_enter Tryd.func7, Tryd.ntmps7
 go_wp2_with fail
 try rw [← hW0]
 clear hW0
 go_loopw [4] (fun vi wr => ∃ (q : Nat) (lv : Value), q ≤ L.length ∧ vi = .int .i64 q ∧ Hid (AlC w W0 wr #[.string ⟨nm.toArray⟩, .int .i64 P, .int .i64 V, .slice none 0 0] (.slice ad L.length cap) lv (L.take q))) (fun vi _ => L.length - (intOf vi).toNat)
 case atStart => exact ⟨0, _, Nat.zero_le _, rfl, H0.out⟩
 case round =>
  obtain ⟨q, lv, hq, rfl, HA⟩ := hrel
  obtain ⟨wo, hwo⟩ : ∃ wo, wo = wr := ⟨_, rfl⟩
  subst hwo
  have b2 : wo.cell? ⟨w.heap.size, 3, none⟩ = some (.slice ad L.length cap) := by simpa using cell_of_blk HA.out.src 3
  by_cases hlt : q < L.length
  ·have hlt' : (q : Int) < (L.length : Int) := by omega
   obtain ⟨g, off, ia, ic, ta, tc, e1, hg, hI, ht, k0, k1, k2, k3⟩ := HG.out.blk hlt
   subst e1
   have hlowq := HA.out.low
   replace k0 := (hlowq.cell (p := ⟨g, _, none⟩) hg).trans k0
   replace k1 := (hlowq.cell (p := ⟨g, _, none⟩) hg).trans k1
   replace k2 := (hlowq.cell (p := ⟨g, _, none⟩) hg).trans k2
   replace k3 := (hlowq.cell (p := ⟨g, _, none⟩) hg).trans k3
   have htk : L.take (q + 1) = L.take q ++ [L[q]] := List.take_succ_eq_append_getElem hlt
   have hfb := HF.out _ (List.getElem_mem hlt)
   have hln : (L.take q).length = q := by rw [List.length_take]; omega
   have HLN := hidX hln
   have HTK := hidX htk
   have HFB := hidX hfb
   have HI := hidX hI
   have HT := hidX ht
   generalize L[q] = b at *
   clear hI ht htk hfb hln
   obtain ⟨Xq, hXq⟩ : ∃ Xq, Xq = wo.alloc (.cells #[.slice ia b.ins.length ic, .string ⟨b.fin.toArray⟩, .int .i64 b.a, .slice ta b.tos.length tc] 59) := ⟨_, rfl⟩
   have hbx : Below wo.heap.size wo Xq := by rw [hXq]; (repeat (first | exact Below.refl _ _ | assumption | refine Below.drew ?_ | refine bT ?_ _ | refine bS ?_ _ | refine bA ?_ _))
   have hnx : Xq.heap[wo.heap.size]? = some (.cells #[.slice ia b.ins.length ic, .string ⟨b.fin.toArray⟩, .int .i64 b.a, .slice ta b.tos.length tc] 59 (0, 0)) := by rw [hXq]; exact heap_alloc_new _ _
   have HNX := hidX hnx
   have HBX := hidX hbx
   clear hlowq hbx hnx
   go_wp2_with fail
   rw [← hXq]
   clear hXq k0 k1 k2 k3 b2
   have HK := hidX (show ∀ W : World, Below Xq.heap.size Xq W → W.cell? ⟨wo.heap.size, 1, none⟩ = some (.string ⟨b.fin.toArray⟩) ∧ W.cell? ⟨wo.heap.size, 2, none⟩ = some (.int .i64 b.a) ∧ W.cell? ⟨wo.heap.size, 3, none⟩ = some (.slice ta b.tos.length tc) from fun W hW => by
    have e1 := (hW.block _ (heap_lt HNX.out)).trans HNX.out
    exact ⟨cell_of_blk e1 1, cell_of_blk e1 2, cell_of_blk e1 3⟩)
   have HRT := hidX (fun (W : World) (hW : Below Xq.heap.size Xq W) => HT.out.imp (inH_up (bl_trans (bl_trans HA.out.low HA.out.low.size HBX.out) (by have := HA.out.low.size; have := HBX.out.size; omega) hW)) (keepH (bl_trans (bl_trans HA.out.low HA.out.low.size HBX.out) (by have := HA.out.low.size; have := HBX.out.size; omega) hW)))
   have htl := HFB.out.tos
   apply regL_cut3 (R := fun n a2 c2 W => Hid (BoxL Xq W b n a2 c2 (blV b a2 c2)))
   ·refine wp_region_until (fun W => W.cell? ⟨wo.heap.size, 1, none⟩ = some (.string ⟨b.fin.toArray⟩) ∧ W.cell? ⟨wo.heap.size, 2, none⟩ = some (.int .i64 b.a) ∧ W.cell? ⟨wo.heap.size, 3, none⟩ = some (.slice ta b.tos.length tc)) 10 (by kernel_rfl) (HK.out _ (by (repeat (first | exact Below.refl _ _ | assumption | refine Below.drew ?_ | refine bT ?_ _ | refine bS ?_ _ | refine bA ?_ _)))) (fun hHeld => ?_)
    refine wpAnyU_put 0 (some 29) (v := ?qv0) rfl rfl (by kernel_rfl) (by kernel_rfl) (by kernel_rfl) (by kernel_rfl) (fun _ _ _ h => h) (Or.inl ⟨by rfl, ?qy0⟩) hHeld ?qr0
    case qy0 => (intro w2 hSw; (try dsimp only at hSw); first | (go_simp; done) | (go_simp; with_reducible rfl))
    simp only [Act.put, List.setIfInBounds_toArray, List.set_cons_zero, List.set_cons_succ]
    refine wpAnyU_put 1 (some 30) (v := ?qv1) rfl rfl (by kernel_rfl) (by kernel_rfl) (by kernel_rfl) (by kernel_rfl) (fun _ _ _ h => h) (Or.inl ⟨by rfl, ?qy1⟩) hHeld ?qr1
    case qy1 => (intro w2 hSw; (try dsimp only at hSw); first | (go_simp; done) | (go_simp; with_reducible rfl))
    simp only [Act.put, List.setIfInBounds_toArray, List.set_cons_zero, List.set_cons_succ]
    refine wpAnyU_put 2 (some 31) (v := ?qv2) rfl rfl (by kernel_rfl) (by kernel_rfl) (by kernel_rfl) (by kernel_rfl) (fun _ _ _ h => h) (Or.inl ⟨by rfl, ?qy2⟩) hHeld ?qr2
    case qy2 => (intro w2 hSw; (try dsimp only at hSw); first | (go_simp; done) | (go_simp; with_reducible rfl))
    simp only [Act.put, List.setIfInBounds_toArray, List.set_cons_zero, List.set_cons_succ]
    refine wpAnyU_put 3 (some 32) (v := ?qv3) rfl rfl (by kernel_rfl) (by kernel_rfl) (by kernel_rfl) (by kernel_rfl) (fun _ _ _ h => h) (Or.inl ⟨by rfl, ?qy3⟩) hHeld ?qr3
    case qy3 => (intro w2 hSw; (try dsimp only at hSw); first | (go_simp; done) | (go_simp; with_reducible rfl))
    simp only [Act.put, List.setIfInBounds_toArray, List.set_cons_zero, List.set_cons_succ]
    refine wpAnyU_put 4 (some 33) (v := ?qv4) rfl rfl (by kernel_rfl) (by kernel_rfl) (by kernel_rfl) (by kernel_rfl) (fun _ _ _ h => h) (Or.inl ⟨by rfl, ?qy4⟩) hHeld ?qr4
    case qy4 => (intro w2 hSw; (try dsimp only at hSw); first | (go_simp; done) | (go_simp; with_reducible rfl))
    simp only [Act.put, List.setIfInBounds_toArray, List.set_cons_zero, List.set_cons_succ]
    refine wpAnyU_put 5 (some 34) (v := ?qv5) rfl rfl (by kernel_rfl) (by kernel_rfl) (by kernel_rfl) (by kernel_rfl) (fun _ _ _ h => h) (Or.inl ⟨by rfl, ?qy5⟩) hHeld ?qr5
    case qy5 => (intro w2 hSw; (try dsimp only at hSw); first | (go_simp; done) | (go_simp; with_reducible rfl))
    simp only [Act.put, List.setIfInBounds_toArray, List.set_cons_zero, List.set_cons_succ]
    refine wpAnyU_put 6 (some 35) (v := ?qv6) rfl rfl (by kernel_rfl) (by kernel_rfl) (by kernel_rfl) (by kernel_rfl) (fun _ _ _ h => h) (Or.inl ⟨by rfl, ?qy6⟩) hHeld ?qr6
    case qy6 => (intro w2 hSw; (try dsimp only at hSw); first | (go_simp; done) | (go_simp; with_reducible rfl))
    simp only [Act.put, List.setIfInBounds_toArray, List.set_cons_zero, List.set_cons_succ]
    refine wpAnyU_two (i := 7) (j := 9) (by kernel_rfl) rfl rfl (fun K7 hK7 => ?_) (fun K9 hK9 => ?_)
    ·refine step_append_intsG rfl (.tmp 33) (.tmp 35) rfl rfl (.slice ta b.tos.length tc) rfl b.tos (by omega) (HRT.out _ (by (repeat (first | exact Below.refl _ _ | assumption | refine Below.drew ?_ | refine bT ?_ _ | refine bS ?_ _ | refine bA ?_ _)))) ?_
     intro ad2 cap2 W2 ho2 hb2
     have hb2' : Below Xq.heap.size Xq W2 := bl_trans (Below.drew (Below.refl _ _)) (Nat.le_refl _) hb2
     have s2 := HK.out W2 hb2'
     change K7 (Act.put _ (some 36) _) W2
     refine hK7.out _ _ (fun _ => s2) (fun _ => ?_)
     clear hK7 hHeld K7
     have hHeld := s2
     clear s2
     simp only [Act.put, List.setIfInBounds_toArray, List.set_cons_zero, List.set_cons_succ]
     refine wpAnyU_put 8 (some 37) (v := ?av8) rfl rfl (by kernel_rfl) (by kernel_rfl) (by kernel_rfl) (by kernel_rfl) (fun _ _ _ h => h) (Or.inl ⟨by rfl, ?ay8⟩) hHeld ?ar8
     case ay8 => (intro w2 hSw; (try dsimp only at hSw); first | (go_simp; done) | (go_simp; with_reducible rfl))
     simp only [Act.put, List.setIfInBounds_toArray, List.set_cons_zero, List.set_cons_succ]
     refine wpAnyU_one (i := 9) (by kernel_rfl) rfl (fun K9 hK9 => ?_)
     have h9 := bl_trans hb2' hb2'.size (boxl_blk _ bl0 55)
     have s9 := HK.out _ h9
     go_simp
     refine hK9.out _ _ (fun _ => s9) (fun _ => ?_)
     clear hK9 hHeld K9
     (try simp only [Act.put, List.setIfInBounds_toArray, List.set_cons_zero, List.set_cons_succ])
     have hHeld := s9
     clear s9
     refine wpAnyU_one (i := 10) (by kernel_rfl) rfl (fun K10 hK10 => ?_)
     go_simp
     refine hK10.out _ _ (fun h => absurd rfl h) (fun _ => ?_)
     clear hK10 K10
     refine wpAnyU_done (by kernel_rfl) ?_ _
     (try simp only [Exit.then])
     have HY : Hid (BoxL Xq (W2.alloc (.cells (blV b ad2 cap2) 55)) b W2.heap.size ad2 cap2 (blV b ad2 cap2)) := hidX (BoxL.undrew (boxl_a (X := Xq.drew) (blV b ad2 cap2) ho2 hb2))
     (try simp only [show Xq.drew.heap.size = Xq.heap.size from rfl])
     (try simp only [show Xq.drew.heap.size = Xq.heap.size from rfl] at HY)
     obtain ⟨n, hn⟩ : ∃ n, n = W2.heap.size := ⟨_, rfl⟩
     rw [← hn] at HY ⊢
     clear hn
     exact ⟨n, ad2, cap2, rfl, HY⟩
    ·have h9 : Below Xq.heap.size Xq (Xq.drew.alloc (.cells bl0 55)) := bl_trans (Below.drew (Below.refl _ _)) (Nat.le_refl _) (boxl_blk Xq.drew bl0 55)
     have s9 := HK.out _ h9
     go_simp
     refine hK9.out _ _ (fun _ => s9) (fun _ => ?_)
     clear hK9 hHeld K9
     (try simp only [Act.put, List.setIfInBounds_toArray, List.set_cons_zero, List.set_cons_succ])
     have hHeld := s9
     clear s9
     refine wpAnyU_one (i := 7) (by kernel_rfl) rfl (fun K7 hK7 => ?_)
     refine step_append_intsG rfl (.tmp 33) (.tmp 35) rfl rfl (.slice ta b.tos.length tc) rfl b.tos (by omega) (HRT.out _ h9) ?_
     intro ad2 cap2 W2 ho2 hb2
     have hb2' : Below Xq.heap.size Xq W2 := bl_trans h9 h9.size hb2
     have s2 := HK.out W2 hb2'
     change K7 (Act.put _ (some 36) _) W2
     refine hK7.out _ _ (fun _ => s2) (fun _ => ?_)
     clear hK7 hHeld K7
     have hHeld := s2
     clear s2
     simp only [Act.put, List.setIfInBounds_toArray, List.set_cons_zero, List.set_cons_succ]
     refine wpAnyU_put 8 (some 37) (v := ?cv8) rfl rfl (by kernel_rfl) (by kernel_rfl) (by kernel_rfl) (by kernel_rfl) (fun _ _ _ h => h) (Or.inl ⟨by rfl, ?cy8⟩) hHeld ?cr8
     case cy8 => (intro w2 hSw; (try dsimp only at hSw); first | (go_simp; done) | (go_simp; with_reducible rfl))
     simp only [Act.put, List.setIfInBounds_toArray, List.set_cons_zero, List.set_cons_succ]
     have HX : Hid (BoxL Xq W2 b Xq.heap.size ad2 cap2 bl0) := hidX (BoxL.undrew (boxl_c ho2 hb2))
     have hX := HX.out.box
     have HY := hidX HX.out.fill
     have f0 := free_of_blk hX 0
     have f1 := free_of_blk hX 1
     have f2 := free_of_blk hX 2
     have f3 := free_of_blk hX 3
     have g0 := cell_of_blk hX 0
     have g1 := cell_of_blk hX 1
     have g2 := cell_of_blk hX 2
     have g3 := cell_of_blk hX 3
     simp only [bl0, List.getElem?_toArray, List.getElem?_cons_zero, List.getElem?_cons_succ] at g0 g1 g2 g3
     clear hX
     refine wpAnyU_one (i := 10) (by kernel_rfl) rfl (fun K10 hK10 => ?_)
     go_simp
     refine hK10.out _ _ (fun h => absurd rfl h) (fun _ => ?_)
     clear hK10 K10
     refine wpAnyU_done (by kernel_rfl) ?_ _
     (try simp only [Exit.then])
     (try simp only [show Xq.drew.heap.size = Xq.heap.size from rfl])
     (try simp only [show Xq.drew.heap.size = Xq.heap.size from rfl] at HY)
     obtain ⟨n, hn⟩ : ∃ n, n = Xq.heap.size := ⟨_, rfl⟩
     rw [← hn] at HY ⊢
     clear hn
     exact ⟨n, ad2, cap2, rfl, HY⟩
   ·intro n a2 c2 W HB
    have HG0 := hidX (GrowAt.start (Rep := XLi) (f := 0) (et := 52) (n := 6) HB.out.box (by simp [blV]))
    have hnq := HB.out.ge
    have hqw := heap_lt HNX.out
    have hnw := heap_lt HB.out.box
    have hbw : W.heap[wo.heap.size]? = _ := (HB.out.low.block _ hqw).trans HNX.out
    have HBW := hidX hbw
    clear hbw
    go_wp2_with fail
    go_loopw [8] (fun vk X => ∃ (k : Nat) (iv : Value), k ≤ b.ins.length ∧ vk = .int .i64 k ∧ Hid (GrowAt XLi W X n 0 (blV b a2 c2) 55 52 6 iv (b.ins.take k))) (fun vk _ => b.ins.length - (intOf vk).toNat)
    case atStart => exact ⟨0, _, Nat.zero_le _, rfl, HG0.out⟩
    case round =>
     obtain ⟨k, iv, hk, rfl, HR⟩ := hrel
     have hwn : wo.heap.size ≠ n := by omega
     have hbb := (HR.out.blk (b := wo.heap.size) (by omega) hwn).trans HBW.out
     have p0 : wr.cell? ⟨wo.heap.size, 0, none⟩ = some (.slice ia b.ins.length ic) := cell_of_blk hbb 0
     have HBB := hidX hbb
     clear hbb
     by_cases hkl : k < b.ins.length
     ·have hkl' : (k : Int) < (b.ins.length : Int) := by omega
      have hil := HFB.out.insl
      have hlo : Below w.heap.size w wr := (bl_trans (bl_trans HA.out.low HA.out.low.size HBX.out) (by have := HA.out.low.size; have := HBX.out.size; omega) HB.out.low).trans ⟨HR.out.low.os, HR.out.low.tape, HR.out.low.output, HR.out.low.size, fun c hc => HR.out.blk (by have := HA.out.low.size; have := HBX.out.size; omega) (by have := HA.out.low.size; have := HBX.out.size; omega)⟩
      obtain ⟨gi, offi, e1, hgi, m0, m1, m2, m3, m4, m5⟩ := HI.out.ins hkl
      subst e1
      replace m0 := (hlo.cell (p := ⟨gi, _, none⟩) hgi).trans m0
      replace m1 := (hlo.cell (p := ⟨gi, _, none⟩) hgi).trans m1
      replace m2 := (hlo.cell (p := ⟨gi, _, none⟩) hgi).trans m2
      replace m3 := (hlo.cell (p := ⟨gi, _, none⟩) hgi).trans m3
      replace m4 := (hlo.cell (p := ⟨gi, _, none⟩) hgi).trans m4
      replace m5 := (hlo.cell (p := ⟨gi, _, none⟩) hgi).trans m5
      have HTI := hidX (show b.ins.take (k + 1) = b.ins.take k ++ [b.ins[k]] from List.take_succ_eq_append_getElem hkl)
      have HLO := hidX hlo
      generalize b.ins[k] = x at *
      clear hlo
      have hlk : (b.ins.take k).length = k := by rw [List.length_take]; omega
      obtain ⟨xs, ho, hx⟩ := HR.out.row
      have hbxn := HR.out.box
      rw [hlk] at ho
      obtain ⟨lad, lcap, rfl⟩ := own_is ho
      obtain ⟨Xn, hXn⟩ : ∃ Xn, Xn = wr.alloc (.cells #[.string ⟨x.kind.toArray⟩, .int .i64 x.d, .int .i64 x.a, .int .i64 x.b, .int .i64 x.num, .string ⟨x.name.toArray⟩] 60) := ⟨_, rfl⟩
      have hbn : Below wr.heap.size wr Xn := by rw [hXn]; (repeat (first | exact Below.refl _ _ | assumption | refine Below.drew ?_ | refine bT ?_ _ | refine bS ?_ _ | refine bA ?_ _))
      have hnn : Xn.heap[wr.heap.size]? = some (.cells #[.string ⟨x.kind.toArray⟩, .int .i64 x.d, .int .i64 x.a, .int .i64 x.b, .int .i64 x.num, .string ⟨x.name.toArray⟩] 60 (0, 0)) := by rw [hXn]; exact heap_alloc_new _ _
      have hon : Xn.heap[n]? = some (.cells ((blV b a2 c2).setIfInBounds 0 (.slice lad k lcap)) 55 (0, 0)) := (hbn.block _ (heap_lt hbxn)).trans hbxn
      have HXW := hidX (owns_below ho hbn)
      have HPS := hidX (fun W3 W4 Z lv' cs h3 hi h4 hg hz hl => HR.out.push (x := x) (W3 := W3) (W4 := W4) (Z := Z) (lv' := lv') (cs := cs) XLi.imp (by rw [hlk]; exact ho) hx h3 hi h4 hg (by rw [hlk]; exact hz) hl)
      have HBN := hidX hbn
      have HNN := hidX hnn
      have HON := hidX hon
      have HO := hidX ho
      have HZR := hidX HR.out.low.size
      have hzn := heap_lt hon
      have hzb := heap_lt hbxn
      have c1 : Xn.cell? ⟨n, 0, none⟩ = some (.slice lad k lcap) := by simpa using cell_of_blk hon 0
      have y0 : Xn.cell? ⟨wr.heap.size, 0, none⟩ = some (.string ⟨x.kind.toArray⟩) := cell_of_blk hnn 0
      have y1 : Xn.cell? ⟨wr.heap.size, 1, none⟩ = some (.int .i64 x.d) := cell_of_blk hnn 1
      have y2 : Xn.cell? ⟨wr.heap.size, 2, none⟩ = some (.int .i64 x.a) := cell_of_blk hnn 2
      have y3 : Xn.cell? ⟨wr.heap.size, 3, none⟩ = some (.int .i64 x.b) := cell_of_blk hnn 3
      have y4 : Xn.cell? ⟨wr.heap.size, 4, none⟩ = some (.int .i64 x.num) := cell_of_blk hnn 4
      have y5 : Xn.cell? ⟨wr.heap.size, 5, none⟩ = some (.string ⟨x.name.toArray⟩) := cell_of_blk hnn 5
      obtain ⟨i0, hi0, iz0, iz1, iz2⟩ := info_parts al_info
      clear hbn hnn hon ho hx hbxn hlk
      go_wp2_with (first
       | (rw [← hXn]; clear hXn m0 m1 m2 m3 m4 m5 p0)
       | (at_builtin; refine wpList_append_lies _ rfl _ _ 53 rfl W.heap.size 52 i0 _ 6 64 Tryd.underlying53 hi0 iz0 iz1 iz2 rfl (by decide) (.slice lad k lcap) k xs rfl (owns_below HXW.out (box_blk _ _ _)) ⟨Xn.heap.size, 0, none⟩ 1 1 [.string ⟨x.kind.toArray⟩, .int .i64 x.d, .int .i64 x.a, .int .i64 x.b, .int .i64 x.num, .string ⟨x.name.toArray⟩] rfl rfl (World.news_of_block (heap_alloc_new Xn _)) (li_one x) (by decide) (by unfold maxLen; omega) (by omega) (by have := HZR.out; have := HBN.out.size; simp; omega) _ rfl ?_; intro g4 cap4 W4 ho4 hg4 hl4 _; have hq4 : W4.heap[n]? = _ := ((hg4.block _ (by simp; omega) (fun e => by have := (HO.out.lt _ e.symm).1; omega)).trans (Below.heap_alloc _ _ _ (by omega))).trans HON.out; have f5 := free_of_blk hq4 0; have s5 : W4.cell? ⟨n, 0, none⟩ = some (.slice lad k lcap) := (by simpa using cell_of_blk hq4 0); have hfin := HPS.out Xn _ W4 _ [.string ⟨x.kind.toArray⟩, .int .i64 x.d, .int .i64 x.a, .int .i64 x.b, .int .i64 x.num, .string ⟨x.name.toArray⟩] HBN.out rfl (box_blk Xn _ _) hg4 ho4 (by (rcases hl4 with e | e); (exact Or.inl e.symm); (right; simp only [Value.ownBlock]; rw [e])); rw [← HTI.out] at hfin; have HFIN := hidX hfin; clear hfin ho4 hg4 hl4 hq4))
      go_roundw
      case rel => exact ⟨k + 1, _, by omega, by go_num, HFIN.out⟩
      case measure => simp [intOf]; omega
     ·have hkn : k = b.ins.length := by omega
      subst hkn
      have hri := HR.out
      rw [List.take_length] at hri
      obtain ⟨xsI, hoI, hxI⟩ := hri.row
      obtain ⟨iad, icap, rfl⟩ := own_is hoI
      obtain ⟨ys, y1, y2⟩ := hri.xrow XLi.imp
      have hzw := hri.low.size
      have hzo := HBX.out.size
      have hzA := HA.out.low.size
      have hzB := HB.out.low.size
      have hbox : wr.heap[n]? = some (.cells #[.slice iad b.ins.length icap, .string ⟨b.fin.toArray⟩, .int .i64 b.a, .slice a2 b.tos.length c2] 55 (0, 0)) := by simpa [blV] using hri.box
      have hkeep : ∀ c, c < W.heap.size → c ≠ n → wr.heap[c]? = W.heap[c]? := fun c hc hn => hri.blk hc hn
      have hxb : XLB (Nw wo wr) wr b [.slice iad b.ins.length icap, .string ⟨b.fin.toArray⟩, .int .i64 b.a, .slice a2 b.tos.length c2] := ⟨iad, icap, a2, c2, rfl,
       ⟨ys, y1.imp (fun c hc => ⟨by have := hc.1; omega, hc.2⟩) (fun _ _ => rfl), y2.mono (fun _ _ h => h)⟩,
       HB.out.tos.imp (fun c hc => ⟨by have := hc.1.1; omega, by have := hc.1.2; omega⟩) (fun c hc => hkeep c hc.1.2 hc.2)⟩
      have hbo : Below wo.heap.size wo wr := ⟨hri.low.os.trans (HB.out.low.os.trans HBX.out.os), hri.low.tape.trans (HB.out.low.tape.trans HBX.out.tape), hri.low.output.trans (HB.out.low.output.trans HBX.out.output), by omega, fun c hc => (hkeep c (by omega) (by omega)).trans ((HB.out.low.block c (by omega)).trans (HBX.out.block c hc))⟩
      obtain ⟨xs, ho, hx⟩ := HA.out.grow.row
      obtain ⟨lad, lcap, rfl⟩ := own_is ho
      have hob := HA.out.grow.box
      have hln := HLN.out
      rw [hln] at ho hob
      have HPS := hidX (fun Z lv' W4 h4 hg hz hl => HA.out.push (W3 := wr) (W4 := W4) (Z := Z) (lv' := lv') (x := b) HS0.out (by rw [hln]; exact ho) hx hbo hxb h4 (by rw [hln]; exact hg) (by rw [hln]; exact hz) (by rw [hln]; exact hl))
      have hs0 := HS0.out
      have hoz := heap_lt hob
      have hob2 : wr.heap[w.heap.size + 1 + 1]? = _ := (hbo.block _ hoz).trans hob
      have o3 : wr.cell? ⟨w.heap.size + 1 + 1, 3, none⟩ = some (.slice lad q lcap) := by simpa using cell_of_blk hob2 3
      have HOB := hidX hob2
      have n0 : wr.cell? ⟨n, 0, none⟩ = some (.slice iad b.ins.length icap) := cell_of_blk hbox 0
      have n1 : wr.cell? ⟨n, 1, none⟩ = some (.string ⟨b.fin.toArray⟩) := cell_of_blk hbox 1
      have n2 : wr.cell? ⟨n, 2, none⟩ = some (.int .i64 b.a) := cell_of_blk hbox 2
      have n3 : wr.cell? ⟨n, 3, none⟩ = some (.slice a2 b.tos.length c2) := cell_of_blk hbox 3
      have HO := hidX ho
      have HBO := hidX hbo
      have HGZ := hidX HA.out.grow.low.size
      have hoz2 := heap_lt HOB.out
      have hzr : wo.heap.size ≤ wr.heap.size := hbo.size
      have hzn := heap_lt hbox
      have HHS := hidX hs0
      obtain ⟨i0, hi0, iz0, iz1, iz2⟩ := info_parts ab_info
      clear hri hoI hxI y1 y2 hzw hzo hzA hzB hbox hkeep hxb hbo ho hx hob hob2 hln hs0
      go_wp2_with (at_builtin; refine wpList_append_lies _ rfl _ _ 29 rfl W0.heap.size 55 i0 _ 4 72 Tryd.underlying29 hi0 iz0 iz1 iz2 rfl (by decide) (.slice lad q lcap) q xs rfl (owns_below (owns_below HO.out HBO.out) (box_blk _ _ _)) ⟨wr.heap.size, 0, none⟩ 1 1 [.slice iad b.ins.length icap, .string ⟨b.fin.toArray⟩, .int .i64 b.a, .slice a2 b.tos.length c2] rfl rfl (World.news_of_block (heap_alloc_new wr _)) (lb_one b _ _ _ _ _ _) (by decide) (by unfold maxLen; omega) (by omega) (by have := HGZ.out; simp; omega) _ rfl ?_; intro g4 cap4 W4 ho4 hg4 hl4 _; have hq4 : W4.heap[w.heap.size + 1 + 1]? = _ := ((hg4.block _ (by simp; omega) (fun e => by have := (HO.out.lt _ e.symm).1; have := HHS.out; omega)).trans (Below.heap_alloc _ _ _ (by omega))).trans HOB.out; have f3 := free_of_blk hq4 3; have s3 : W4.cell? ⟨w.heap.size + 1 + 1, 3, none⟩ = some (.slice lad q lcap) := (by simpa using cell_of_blk hq4 3); have hfin := HPS.out W4 _ _ (box_blk wr _ _) hg4 ho4 (by (rcases hl4 with e | e); (exact Or.inl e.symm); (right; simp only [Value.ownBlock]; rw [e])); rw [← HTK.out] at hfin; have HFIN := hidX hfin; clear hfin ho4 hg4 hl4 hq4)
      go_roundw
      case rel => exact ⟨q + 1, _, by omega, by go_num, HFIN.out⟩
      case measure => simp [intOf]; omega
  ·have hqn : q = L.length := by omega
   subst hqn
   have ha := HA.out
   rw [List.take_length] at ha
   have hs0 := HS0.out
   have hres : wo.heap[w.heap.size + 1]? = some (.cells #[.string ⟨#[]⟩, .int .i64 0, .int .i64 0, .slice none 0 0] 31 (0, 0)) := (ha.grow.blk (by omega) (by omega)).trans HRES.out
   have hout := ha.grow.box
   obtain ⟨xs, ho, hx⟩ := ha.grow.row
   obtain ⟨lad, lcap, rfl⟩ := own_is ho
   have c0 : wo.cell? ⟨w.heap.size + 1 + 1, 0, none⟩ = some (.string ⟨nm.toArray⟩) := by simpa using cell_of_blk hout 0
   have c1 : wo.cell? ⟨w.heap.size + 1 + 1, 1, none⟩ = some (.int .i64 P) := by simpa using cell_of_blk hout 1
   have c2 : wo.cell? ⟨w.heap.size + 1 + 1, 2, none⟩ = some (.int .i64 V) := by simpa using cell_of_blk hout 2
   have c3 : wo.cell? ⟨w.heap.size + 1 + 1, 3, none⟩ = some (.slice lad L.length lcap) := by simpa using cell_of_blk hout 3
   have e0 : wo.cell? ⟨w.heap.size + 1, 0, none⟩ = some (.string ⟨#[]⟩) := cell_of_blk hres 0
   have e1 : wo.cell? ⟨w.heap.size + 1, 1, none⟩ = some (.int .i64 0) := cell_of_blk hres 1
   have e2 : wo.cell? ⟨w.heap.size + 1, 2, none⟩ = some (.int .i64 0) := cell_of_blk hres 2
   have e3 : wo.cell? ⟨w.heap.size + 1, 3, none⟩ = some (.slice none 0 0) := cell_of_blk hres 3
   have f0 := free_of_blk hres 0
   have f1 := free_of_blk hres 1
   have f2 := free_of_blk hres 2
   have f3 := free_of_blk hres 3
   have hset := blk_setCell (blk_setCell (blk_setCell (blk_setCell hres 0 (.string ⟨nm.toArray⟩)) 1 (.int .i64 P)) 2 (.int .i64 V)) 3 (.slice lad L.length lcap)
   have hbl : Below w.heap.size w ((((wo.setCell ⟨w.heap.size + 1, 0, none⟩ (.string ⟨nm.toArray⟩)).setCell ⟨w.heap.size + 1, 1, none⟩ (.int .i64 P)).setCell ⟨w.heap.size + 1, 2, none⟩ (.int .i64 V)).setCell ⟨w.heap.size + 1, 3, none⟩ (.slice lad L.length lcap)) := ((((ha.low.setCell (by show w.heap.size ≤ w.heap.size + 1; omega) _).setCell (by show w.heap.size ≤ w.heap.size + 1; omega) _).setCell (by show w.heap.size ≤ w.heap.size + 1; omega) _).setCell (by show w.heap.size ≤ w.heap.size + 1; omega) _)
   have hcod : XLC (InH ((((wo.setCell ⟨w.heap.size + 1, 0, none⟩ (.string ⟨nm.toArray⟩)).setCell ⟨w.heap.size + 1, 1, none⟩ (.int .i64 P)).setCell ⟨w.heap.size + 1, 2, none⟩ (.int .i64 V)).setCell ⟨w.heap.size + 1, 3, none⟩ (.slice lad L.length lcap))) ((((wo.setCell ⟨w.heap.size + 1, 0, none⟩ (.string ⟨nm.toArray⟩)).setCell ⟨w.heap.size + 1, 1, none⟩ (.int .i64 P)).setCell ⟨w.heap.size + 1, 2, none⟩ (.int .i64 V)).setCell ⟨w.heap.size + 1, 3, none⟩ (.slice lad L.length lcap)) (.slice lad L.length lcap) L := by
    obtain ⟨ys, y1, y2⟩ := ha.grow.xrow XLB.imp
    refine XLC.imp (A := Nw W0 wo) (w := wo) ⟨ys, y1, y2⟩ (fun c hc => by show c < _; simp [World.setCell]; exact hc.2) (fun c hc => ?_)
    have hc1 := hc.1
    rw [Below.heap_setCell _ _ _ _ (by show c ≠ w.heap.size + 1; omega), Below.heap_setCell _ _ _ _ (by show c ≠ w.heap.size + 1; omega), Below.heap_setCell _ _ _ _ (by show c ≠ w.heap.size + 1; omega), Below.heap_setCell _ _ _ _ (by show c ≠ w.heap.size + 1; omega)]
   have HSET := hidX hset
   have HBL := hidX hbl
   have HCOD := hidX hcod
   clear ha ho hx HA hres hout hset hbl hcod hs0
   go_wp2
   exact ret_row (w.heap.size + 1) 2 #[.string ⟨nm.toArray⟩, .int .i64 P, .int .i64 V, .slice lad L.length lcap] 31 rfl rfl (by simpa using HSET.out) Tryd.underlying31 (by kernel_rfl) ⟨_, rfl, HCOD.out, HBL.out⟩
end Go.Proofs.YtimccbilkjjakaaDoor
