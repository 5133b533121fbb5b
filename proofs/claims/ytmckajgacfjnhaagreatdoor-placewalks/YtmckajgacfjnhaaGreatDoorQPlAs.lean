/- Our own: texts joined: PlAs. -/
import Derived.Test.YtmckajgacfjnhaaGreatDoorQGrowAll
namespace Go.Proofs.YtmckajgacfjnhaaGreatDoor
open Go.RowKit
theorem AsC.push {w W0 X W3 W4 Z : World} {cs : Array Value} {nv lv lv' : Value} {K : List Pb} {x : Pb} {xs ys : List Value} (h : AsC w W0 X cs nv lv K) (hs : W0.heap.size = w.heap.size + 3) (ho : X.ownsRow W0.heap.size 56 6 lv K.length xs) (hx : XSs (XB (KA W0.heap.size X lv) X) K xs)
  (h3 : Below X.heap.size X W3) (hi : XB (Nw X W3) W3 x ys) (h4 : Below W3.heap.size W3 W4) (hg : W4.grownBy Z lv.ownBlock) (hz : Z.ownsRow W0.heap.size 56 6 lv' (K.length + 1) (xs ++ ys)) (hl : lv'.ownBlock = lv.ownBlock ∨ lv'.ownBlock = some W4.heap.size) :
  AsC w W0 (Z.setCell ⟨w.heap.size + 1 + 1, 3, none⟩ lv') cs nv lv' (K ++ [x]) := by
 have z0 := h.low.size
 have zX := h.grow.low.size
 have z3 := h3.size
 have z4 := h4.size
 have zz := hg.size
 have key : ∀ b, b < W0.heap.size → Z.heap[b]? = X.heap[b]? := fun b hb => by
  rw [hg.block b (by omega) (fun e => by have := (ho.lt b e.symm).1; omega), h4.block b (by omega), h3.block b (by omega)]
 refine ⟨?_, ?_, h.grow.push XB.imp ho hx h3 hi h4 hg hz hl⟩
 ·have hbZ : Below w.heap.size w Z := ⟨hg.os.trans (h4.os.trans (h3.os.trans h.low.os)), hg.tape.trans (h4.tape.trans (h3.tape.trans h.low.tape)), hg.output.trans (h4.output.trans (h3.output.trans h.low.output)), by omega, fun b hb => (key b (by omega)).trans (h.low.block b hb)⟩
  exact hbZ.setCell (by show w.heap.size ≤ w.heap.size + 1 + 1; omega) _
 ·rw [Below.heap_setCell _ _ _ _ (by show w.heap.size ≠ w.heap.size + 1 + 1; omega), key _ (by omega)]
  exact h.src
theorem sl_one (a : Option Addr) (l c : Nat) : ∀ u ∈ ([.slice a l c] : List Value), u.oneCell' = true := by
 intro u hu
 simp only [List.mem_cons, List.not_mem_nil, or_false] at hu
 subst hu; rfl
set_option maxRecDepth 100000 in
set_option maxHeartbeats 2000000 in
theorem asCode_any {w : World} (nm : List UInt8) (P V : Int) (nv : Value) (L : List Pb) (hL : L.length ≤ 1001) (hF : ∀ b ∈ L, FewB b) (hC : XCo (InH w) w nv L) :
  Calls Tryz.prog 7 #[.agg #[.string ⟨nm.toArray⟩, .int .i64 P, .int .i64 V, nv]] w fun e w' => ∃ v, e = .returned (.agg #[.string ⟨nm.toArray⟩, .int .i64 P, .int .i64 V, v]) ∧ XCo (InH w') w' v L ∧ Below w.heap.size w w' := by
 obtain ⟨ad, cap, rfl⟩ := hC.is
 have hL' : (L.length : Int) ≤ 1001 := by omega
 obtain ⟨W0, hW0⟩ : ∃ W0, W0 = (((w.alloc (.cells #[.string ⟨nm.toArray⟩, .int .i64 P, .int .i64 V, .slice ad L.length cap] 24)).alloc (.cells #[.string ⟨#[]⟩, .int .i64 0, .int .i64 0, .slice none 0 0] 31)).alloc (.cells #[.string ⟨nm.toArray⟩, .int .i64 P, .int .i64 V, .slice none 0 0] 31)) := ⟨_, rfl⟩
 have hs0 : W0.heap.size = w.heap.size + 3 := by rw [hW0]; simp
 have HRES := hidX (show W0.heap[w.heap.size + 1]? = some (.cells #[.string ⟨#[]⟩, .int .i64 0, .int .i64 0, .slice none 0 0] 31 (0, 0)) by rw [hW0]; exact (thr_blksP w _ _ _).2.1)
 have h0 : AsC w W0 W0 #[.string ⟨nm.toArray⟩, .int .i64 P, .int .i64 V, .slice none 0 0] (.slice ad L.length cap) (.slice none 0 0) (L.take 0) := by
  obtain ⟨t1, t2, t3⟩ := thr_blksP w (.cells #[.string ⟨nm.toArray⟩, .int .i64 P, .int .i64 V, .slice ad L.length cap] 24) (.cells #[.string ⟨#[]⟩, .int .i64 0, .int .i64 0, .slice none 0 0] 31) (.cells #[.string ⟨nm.toArray⟩, .int .i64 P, .int .i64 V, .slice none 0 0] 31)
  rw [← hW0] at t1 t2 t3
  exact ⟨by rw [hW0]; (repeat (first | exact Below.refl _ _ | assumption | refine Below.drew ?_ | refine bT ?_ _ | refine bS ?_ _ | refine bA ?_ _)), by simpa using t1, GrowAt.start t3 (by simp)⟩
 have HG := hidX hC
 have HF := hidX hF
 have H0 := hidX h0
 have HS0 := hidX hs0
 clear hC hF h0 hs0
 go_enter Tryz.func7, Tryz.ntmps7
 go_wp2_with fail
 try rw [← hW0]
 clear hW0
 go_loopw [4] (fun vi wr => ∃ (q : Nat) (lv : Value), q ≤ L.length ∧ vi = .int .i64 q ∧ Hid (AsC w W0 wr #[.string ⟨nm.toArray⟩, .int .i64 P, .int .i64 V, .slice none 0 0] (.slice ad L.length cap) lv (L.take q))) (fun vi _ => L.length - (intOf vi).toNat)
 case atStart => exact ⟨0, _, Nat.zero_le _, rfl, H0.out⟩
 case round =>
  obtain ⟨q, lv, hq, rfl, HA⟩ := hrel
  obtain ⟨wo, hwo⟩ : ∃ wo, wo = wr := ⟨_, rfl⟩
  subst hwo
  have b2 : wo.cell? ⟨w.heap.size, 3, none⟩ = some (.slice ad L.length cap) := by simpa using cell_of_blk HA.out.src 3
  by_cases hlt : q < L.length
  ·have hlt' : (q : Int) < (L.length : Int) := by omega
   obtain ⟨g, off, pa, pc, ia, ic, ta, tc, wa, wc, e1, hg, hp, hI, ht, hwi, k0, k1, k2, k3, k4, k5⟩ := HG.out.blk hlt
   subst e1
   have hlowq := HA.out.low
   replace k0 := (hlowq.cell (p := ⟨g, _, none⟩) hg).trans k0
   replace k1 := (hlowq.cell (p := ⟨g, _, none⟩) hg).trans k1
   replace k2 := (hlowq.cell (p := ⟨g, _, none⟩) hg).trans k2
   replace k3 := (hlowq.cell (p := ⟨g, _, none⟩) hg).trans k3
   replace k4 := (hlowq.cell (p := ⟨g, _, none⟩) hg).trans k4
   replace k5 := (hlowq.cell (p := ⟨g, _, none⟩) hg).trans k5
   have htk : L.take (q + 1) = L.take q ++ [L[q]] := List.take_succ_eq_append_getElem hlt
   have hfb := HF.out _ (List.getElem_mem hlt)
   have hln : (L.take q).length = q := by rw [List.length_take]; omega
   have HLN := hidX hln
   have HTK := hidX htk
   have HFB := hidX hfb
   have HP := hidX hp
   have HI := hidX hI
   have HT := hidX ht
   have HW := hidX hwi
   generalize L[q] = b at *
   clear hp hI ht hwi htk hfb hln
   obtain ⟨Xq, hXq⟩ : ∃ Xq, Xq = wo.alloc (.cells #[.slice pa b.params.length pc, .slice ia b.ins.length ic, .string ⟨b.fin.toArray⟩, .int .i64 b.v, .slice ta b.tos.length tc, .slice wa b.wi.length wc] 60) := ⟨_, rfl⟩
   have hbx : Below wo.heap.size wo Xq := by rw [hXq]; (repeat (first | exact Below.refl _ _ | assumption | refine Below.drew ?_ | refine bT ?_ _ | refine bS ?_ _ | refine bA ?_ _))
   have hnx : Xq.heap[wo.heap.size]? = some (.cells #[.slice pa b.params.length pc, .slice ia b.ins.length ic, .string ⟨b.fin.toArray⟩, .int .i64 b.v, .slice ta b.tos.length tc, .slice wa b.wi.length wc] 60 (0, 0)) := by rw [hXq]; exact heap_alloc_new _ _
   have HNX := hidX hnx
   have HBX := hidX hbx
   clear hlowq hbx hnx
   go_wp2_with fail
   rw [← hXq]
   clear hXq k0 k1 k2 k3 k4 k5 b2
   have HK := hidX (show ∀ W : World, Below Xq.heap.size Xq W → W.cell? ⟨wo.heap.size, 0, none⟩ = some (.slice pa b.params.length pc) ∧ W.cell? ⟨wo.heap.size, 2, none⟩ = some (.string ⟨b.fin.toArray⟩) ∧ W.cell? ⟨wo.heap.size, 3, none⟩ = some (.int .i64 b.v) ∧ W.cell? ⟨wo.heap.size, 4, none⟩ = some (.slice ta b.tos.length tc) from fun W hW => by
    have e1 := (hW.block _ (heap_lt HNX.out)).trans HNX.out
    exact ⟨cell_of_blk e1 0, cell_of_blk e1 2, cell_of_blk e1 3, cell_of_blk e1 4⟩)
   have HRP := hidX (fun (W : World) (hW : Below Xq.heap.size Xq W) => HP.out.imp (inH_up (bl_trans (bl_trans HA.out.low HA.out.low.size HBX.out) (by have := HA.out.low.size; have := HBX.out.size; omega) hW)) (keepH (bl_trans (bl_trans HA.out.low HA.out.low.size HBX.out) (by have := HA.out.low.size; have := HBX.out.size; omega) hW)))
   have HRT := hidX (fun (W : World) (hW : Below Xq.heap.size Xq W) => HT.out.imp (inH_up (bl_trans (bl_trans HA.out.low HA.out.low.size HBX.out) (by have := HA.out.low.size; have := HBX.out.size; omega) hW)) (keepH (bl_trans (bl_trans HA.out.low HA.out.low.size HBX.out) (by have := HA.out.low.size; have := HBX.out.size; omega) hW)))
   have hpl := HFB.out.params
   have htl := HFB.out.tos
   apply reg_cut5 (R := fun n a1 c1 a2 c2 W => Hid (BoxAt Xq W b n a1 c1 a2 c2 (bxV b a1 c1 a2 c2)))
   ·refine wp_region_until (fun W => W.cell? ⟨wo.heap.size, 0, none⟩ = some (.slice pa b.params.length pc) ∧ W.cell? ⟨wo.heap.size, 2, none⟩ = some (.string ⟨b.fin.toArray⟩) ∧ W.cell? ⟨wo.heap.size, 3, none⟩ = some (.int .i64 b.v) ∧ W.cell? ⟨wo.heap.size, 4, none⟩ = some (.slice ta b.tos.length tc)) 14 (by kernel_rfl) (HK.out _ (by (repeat (first | exact Below.refl _ _ | assumption | refine Below.drew ?_ | refine bT ?_ _ | refine bS ?_ _ | refine bA ?_ _)))) (fun hHeld => ?_)
    refine wpAnyU_put 0 (some 33) (v := ?v0) rfl rfl (by kernel_rfl) (by kernel_rfl) (by kernel_rfl) (by kernel_rfl) (fun _ _ _ h => h) (Or.inl ⟨by rfl, ?hy0⟩) hHeld ?rest0
    case hy0 => (intro w2 hSw; (try dsimp only at hSw); first | (go_simp; done) | (go_simp; with_reducible rfl))
    simp only [Act.put, List.setIfInBounds_toArray, List.set_cons_zero, List.set_cons_succ]
    refine wpAnyU_put 1 (some 34) (v := ?v1) rfl rfl (by kernel_rfl) (by kernel_rfl) (by kernel_rfl) (by kernel_rfl) (fun _ _ _ h => h) (Or.inl ⟨by rfl, ?hy1⟩) hHeld ?rest1
    case hy1 => (intro w2 hSw; (try dsimp only at hSw); first | (go_simp; done) | (go_simp; with_reducible rfl))
    simp only [Act.put, List.setIfInBounds_toArray, List.set_cons_zero, List.set_cons_succ]
    refine wpAnyU_put 2 (some 35) (v := ?v2) rfl rfl (by kernel_rfl) (by kernel_rfl) (by kernel_rfl) (by kernel_rfl) (fun _ _ _ h => h) (Or.inl ⟨by rfl, ?hy2⟩) hHeld ?rest2
    case hy2 => (intro w2 hSw; (try dsimp only at hSw); first | (go_simp; done) | (go_simp; with_reducible rfl))
    simp only [Act.put, List.setIfInBounds_toArray, List.set_cons_zero, List.set_cons_succ]
    refine wpAnyU_put 4 (some 37) (v := ?v4) rfl rfl (by kernel_rfl) (by kernel_rfl) (by kernel_rfl) (by kernel_rfl) (fun _ _ _ h => h) (Or.inl ⟨by rfl, ?hy4⟩) hHeld ?rest4
    case hy4 => (intro w2 hSw; (try dsimp only at hSw); first | (go_simp; done) | (go_simp; with_reducible rfl))
    simp only [Act.put, List.setIfInBounds_toArray, List.set_cons_zero, List.set_cons_succ]
    refine wpAnyU_put 5 (some 38) (v := ?v5) rfl rfl (by kernel_rfl) (by kernel_rfl) (by kernel_rfl) (by kernel_rfl) (fun _ _ _ h => h) (Or.inl ⟨by rfl, ?hy5⟩) hHeld ?rest5
    case hy5 => (intro w2 hSw; (try dsimp only at hSw); first | (go_simp; done) | (go_simp; with_reducible rfl))
    simp only [Act.put, List.setIfInBounds_toArray, List.set_cons_zero, List.set_cons_succ]
    refine wpAnyU_put 6 (some 39) (v := ?v6) rfl rfl (by kernel_rfl) (by kernel_rfl) (by kernel_rfl) (by kernel_rfl) (fun _ _ _ h => h) (Or.inl ⟨by rfl, ?hy6⟩) hHeld ?rest6
    case hy6 => (intro w2 hSw; (try dsimp only at hSw); first | (go_simp; done) | (go_simp; with_reducible rfl))
    simp only [Act.put, List.setIfInBounds_toArray, List.set_cons_zero, List.set_cons_succ]
    refine wpAnyU_put 7 (some 40) (v := ?v7) rfl rfl (by kernel_rfl) (by kernel_rfl) (by kernel_rfl) (by kernel_rfl) (fun _ _ _ h => h) (Or.inl ⟨by rfl, ?hy7⟩) hHeld ?rest7
    case hy7 => (intro w2 hSw; (try dsimp only at hSw); first | (go_simp; done) | (go_simp; with_reducible rfl))
    simp only [Act.put, List.setIfInBounds_toArray, List.set_cons_zero, List.set_cons_succ]
    refine wpAnyU_put 8 (some 41) (v := ?v8) rfl rfl (by kernel_rfl) (by kernel_rfl) (by kernel_rfl) (by kernel_rfl) (fun _ _ _ h => h) (Or.inl ⟨by rfl, ?hy8⟩) hHeld ?rest8
    case hy8 => (intro w2 hSw; (try dsimp only at hSw); first | (go_simp; done) | (go_simp; with_reducible rfl))
    simp only [Act.put, List.setIfInBounds_toArray, List.set_cons_zero, List.set_cons_succ]
    refine wpAnyU_put 9 (some 42) (v := ?v9) rfl rfl (by kernel_rfl) (by kernel_rfl) (by kernel_rfl) (by kernel_rfl) (fun _ _ _ h => h) (Or.inl ⟨by rfl, ?hy9⟩) hHeld ?rest9
    case hy9 => (intro w2 hSw; (try dsimp only at hSw); first | (go_simp; done) | (go_simp; with_reducible rfl))
    simp only [Act.put, List.setIfInBounds_toArray, List.set_cons_zero, List.set_cons_succ]
    refine wpAnyU_put 10 (some 43) (v := ?v10) rfl rfl (by kernel_rfl) (by kernel_rfl) (by kernel_rfl) (by kernel_rfl) (fun _ _ _ h => h) (Or.inl ⟨by rfl, ?hy10⟩) hHeld ?rest10
    case hy10 => (intro w2 hSw; (try dsimp only at hSw); first | (go_simp; done) | (go_simp; with_reducible rfl))
    simp only [Act.put, List.setIfInBounds_toArray, List.set_cons_zero, List.set_cons_succ]
    refine wpAnyU_two (i := 3) (j := 13) (by kernel_rfl) rfl rfl (fun K3 hK3 => ?_) (fun K13 hK13 => ?_)
    ·refine step_append_intsG rfl (.tmp 33) (.tmp 35) rfl rfl (.slice pa b.params.length pc) rfl b.params (by omega) (HRP.out _ (by (repeat (first | exact Below.refl _ _ | assumption | refine Below.drew ?_ | refine bT ?_ _ | refine bS ?_ _ | refine bA ?_ _)))) ?_
     intro ad1 cap1 W1 ho1 hb1
     have hb1' : Below Xq.heap.size Xq W1 := bl_trans (Below.drew (Below.refl _ _)) (Nat.le_refl _) hb1
     have s1 := HK.out W1 hb1'
     change K3 (Act.put _ (some 36) _) W1
     refine hK3.out _ _ (fun _ => s1) (fun _ => ?_)
     clear hK3 hHeld K3
     have hHeld := s1
     clear s1
     simp only [Act.put, List.setIfInBounds_toArray, List.set_cons_zero, List.set_cons_succ]
     refine wpAnyU_two (i := 11) (j := 13) (by kernel_rfl) rfl rfl (fun K11 hK11 => ?_) (fun K13 hK13 => ?_)
     ·refine step_append_intsG rfl (.tmp 41) (.tmp 43) rfl rfl (.slice ta b.tos.length tc) rfl b.tos (by omega) (HRT.out _ hb1') ?_
      intro ad2 cap2 W2 ho2 hb2
      have hb2' : Below Xq.heap.size Xq W2 := bl_trans hb1' hb1'.size hb2
      have s2 := HK.out W2 hb2'
      change K11 (Act.put _ (some 44) _) W2
      refine hK11.out _ _ (fun _ => s2) (fun _ => ?_)
      clear hK11 hHeld K11
      have hHeld := s2
      clear s2
      simp only [Act.put, List.setIfInBounds_toArray, List.set_cons_zero, List.set_cons_succ]
      refine wpAnyU_put 12 (some 45) (v := ?v12a) rfl rfl (by kernel_rfl) (by kernel_rfl) (by kernel_rfl) (by kernel_rfl) (fun _ _ _ h => h) (Or.inl ⟨by rfl, ?hy12a⟩) hHeld ?rest12a
      case hy12a => (intro w2 hSw; (try dsimp only at hSw); first | (go_simp; done) | (go_simp; with_reducible rfl))
      simp only [Act.put, List.setIfInBounds_toArray, List.set_cons_zero, List.set_cons_succ]
      refine wpAnyU_one (i := 13) (by kernel_rfl) rfl (fun K13 hK13 => ?_)
      have h13 := bl_trans hb2' hb2'.size (box_blk _ bx0 56)
      have s13 := HK.out _ h13
      go_simp
      refine hK13.out _ _ (fun _ => s13) (fun _ => ?_)
      clear hK13 hHeld K13
      (try simp only [Act.put, List.setIfInBounds_toArray, List.set_cons_zero, List.set_cons_succ])
      have hHeld := s13
      clear s13
      refine wpAnyU_one (i := 14) (by kernel_rfl) rfl (fun K14 hK14 => ?_)
      go_simp
      refine hK14.out _ _ (fun h => absurd rfl h) (fun _ => ?_)
      clear hK14 K14
      refine wpAnyU_done (by kernel_rfl) ?_ _
      (try simp only [Exit.then])
      have HY := hidX (box_a (X := Xq) (bxV b ad1 cap1 ad2 cap2) ho1 hb1' ho2 hb2)
      (try simp only [show Xq.drew.heap.size = Xq.heap.size from rfl])
      (try simp only [show Xq.drew.heap.size = Xq.heap.size from rfl] at HY)
      obtain ⟨n, hn⟩ : ∃ n, n = W2.heap.size := ⟨_, rfl⟩
      rw [← hn] at HY ⊢
      clear hn
      exact ⟨n, ad1, cap1, ad2, cap2, rfl, HY⟩
     ·have h13 := bl_trans hb1' hb1'.size (box_blk _ bx0 56)
      have s13 := HK.out _ h13
      go_simp
      refine hK13.out _ _ (fun _ => s13) (fun _ => ?_)
      clear hK13 hHeld K13
      (try simp only [Act.put, List.setIfInBounds_toArray, List.set_cons_zero, List.set_cons_succ])
      have hHeld := s13
      clear s13
      refine wpAnyU_one (i := 11) (by kernel_rfl) rfl (fun K11 hK11 => ?_)
      refine step_append_intsG rfl (.tmp 41) (.tmp 43) rfl rfl (.slice ta b.tos.length tc) rfl b.tos (by omega) (HRT.out _ h13) ?_
      intro ad2 cap2 W2 ho2 hb2
      have hb2' : Below Xq.heap.size Xq W2 := bl_trans h13 h13.size hb2
      have s2 := HK.out W2 hb2'
      change K11 (Act.put _ (some 44) _) W2
      refine hK11.out _ _ (fun _ => s2) (fun _ => ?_)
      clear hK11 hHeld K11
      have hHeld := s2
      clear s2
      simp only [Act.put, List.setIfInBounds_toArray, List.set_cons_zero, List.set_cons_succ]
      refine wpAnyU_put 12 (some 45) (v := ?v12b) rfl rfl (by kernel_rfl) (by kernel_rfl) (by kernel_rfl) (by kernel_rfl) (fun _ _ _ h => h) (Or.inl ⟨by rfl, ?hy12b⟩) hHeld ?rest12b
      case hy12b => (intro w2 hSw; (try dsimp only at hSw); first | (go_simp; done) | (go_simp; with_reducible rfl))
      simp only [Act.put, List.setIfInBounds_toArray, List.set_cons_zero, List.set_cons_succ]
      have HX := hidX (box_b (X := Xq) ho1 hb1' ho2 hb2)
      have hX := HX.out.box
      have HY := hidX HX.out.fill
      have f0 := free_of_blk hX 0
      have f1 := free_of_blk hX 1
      have f2 := free_of_blk hX 2
      have f3 := free_of_blk hX 3
      have f4 := free_of_blk hX 4
      have f5 := free_of_blk hX 5
      have g0 := cell_of_blk hX 0
      have g1 := cell_of_blk hX 1
      have g2 := cell_of_blk hX 2
      have g3 := cell_of_blk hX 3
      have g4 := cell_of_blk hX 4
      have g5 := cell_of_blk hX 5
      simp only [bx0, List.getElem?_toArray, List.getElem?_cons_zero, List.getElem?_cons_succ] at g0 g1 g2 g3 g4 g5
      clear hX
      refine wpAnyU_one (i := 14) (by kernel_rfl) rfl (fun K14 hK14 => ?_)
      go_simp
      refine hK14.out _ _ (fun h => absurd rfl h) (fun _ => ?_)
      clear hK14 K14
      refine wpAnyU_done (by kernel_rfl) ?_ _
      (try simp only [Exit.then])
      (try simp only [show Xq.drew.heap.size = Xq.heap.size from rfl])
      (try simp only [show Xq.drew.heap.size = Xq.heap.size from rfl] at HY)
      obtain ⟨n, hn⟩ : ∃ n, n = W1.heap.size := ⟨_, rfl⟩
      rw [← hn] at HY ⊢
      clear hn
      exact ⟨n, ad1, cap1, ad2, cap2, rfl, HY⟩
    ·have h13 : Below Xq.heap.size Xq (Xq.drew.alloc (.cells bx0 56)) := bl_trans (Below.drew (Below.refl _ _)) (Nat.le_refl _) (box_blk Xq.drew bx0 56)
     have s13 := HK.out _ h13
     go_simp
     refine hK13.out _ _ (fun _ => s13) (fun _ => ?_)
     clear hK13 hHeld K13
     (try simp only [Act.put, List.setIfInBounds_toArray, List.set_cons_zero, List.set_cons_succ])
     have hHeld := s13
     clear s13
     refine wpAnyU_one (i := 3) (by kernel_rfl) rfl (fun K3 hK3 => ?_)
     refine step_append_intsG rfl (.tmp 33) (.tmp 35) rfl rfl (.slice pa b.params.length pc) rfl b.params (by omega) (HRP.out _ h13) ?_
     intro ad1 cap1 W1 ho1 hb1
     have hb1' : Below Xq.heap.size Xq W1 := bl_trans h13 h13.size hb1
     have s1 := HK.out W1 hb1'
     change K3 (Act.put _ (some 36) _) W1
     refine hK3.out _ _ (fun _ => s1) (fun _ => ?_)
     clear hK3 hHeld K3
     have hHeld := s1
     clear s1
     simp only [Act.put, List.setIfInBounds_toArray, List.set_cons_zero, List.set_cons_succ]
     refine wpAnyU_one (i := 11) (by kernel_rfl) rfl (fun K11 hK11 => ?_)
     refine step_append_intsG rfl (.tmp 41) (.tmp 43) rfl rfl (.slice ta b.tos.length tc) rfl b.tos (by omega) (HRT.out _ hb1') ?_
     intro ad2 cap2 W2 ho2 hb2
     have hb2' : Below Xq.heap.size Xq W2 := bl_trans hb1' hb1'.size hb2
     have s2 := HK.out W2 hb2'
     change K11 (Act.put _ (some 44) _) W2
     refine hK11.out _ _ (fun _ => s2) (fun _ => ?_)
     clear hK11 hHeld K11
     have hHeld := s2
     clear s2
     simp only [Act.put, List.setIfInBounds_toArray, List.set_cons_zero, List.set_cons_succ]
     refine wpAnyU_put 12 (some 45) (v := ?v12c) rfl rfl (by kernel_rfl) (by kernel_rfl) (by kernel_rfl) (by kernel_rfl) (fun _ _ _ h => h) (Or.inl ⟨by rfl, ?hy12c⟩) hHeld ?rest12c
     case hy12c => (intro w2 hSw; (try dsimp only at hSw); first | (go_simp; done) | (go_simp; with_reducible rfl))
     simp only [Act.put, List.setIfInBounds_toArray, List.set_cons_zero, List.set_cons_succ]
     have HX : Hid (BoxAt Xq W2 b Xq.heap.size ad1 cap1 ad2 cap2 bx0) := hidX (BoxAt.undrew (box_c ho1 hb1 ho2 hb2))
     have hX := HX.out.box
     have HY := hidX HX.out.fill
     have f0 := free_of_blk hX 0
     have f1 := free_of_blk hX 1
     have f2 := free_of_blk hX 2
     have f3 := free_of_blk hX 3
     have f4 := free_of_blk hX 4
     have f5 := free_of_blk hX 5
     have g0 := cell_of_blk hX 0
     have g1 := cell_of_blk hX 1
     have g2 := cell_of_blk hX 2
     have g3 := cell_of_blk hX 3
     have g4 := cell_of_blk hX 4
     have g5 := cell_of_blk hX 5
     simp only [bx0, List.getElem?_toArray, List.getElem?_cons_zero, List.getElem?_cons_succ] at g0 g1 g2 g3 g4 g5
     clear hX
     refine wpAnyU_one (i := 14) (by kernel_rfl) rfl (fun K14 hK14 => ?_)
     go_simp
     refine hK14.out _ _ (fun h => absurd rfl h) (fun _ => ?_)
     clear hK14 K14
     refine wpAnyU_done (by kernel_rfl) ?_ _
     (try simp only [Exit.then])
     (try simp only [show Xq.drew.heap.size = Xq.heap.size from rfl])
     (try simp only [show Xq.drew.heap.size = Xq.heap.size from rfl] at HY)
     obtain ⟨n, hn⟩ : ∃ n, n = Xq.heap.size := ⟨_, rfl⟩
     rw [← hn] at HY ⊢
     clear hn
     exact ⟨n, ad1, cap1, ad2, cap2, rfl, HY⟩
   ·intro n a1 c1 a2 c2 W HB
    have HG0 := hidX (GrowAt.start (Rep := XI) (f := 1) (et := 52) (n := 5) HB.out.box (by simp [bxV]))
    have hnq := HB.out.ge
    have hqw := heap_lt HNX.out
    have hnw := heap_lt HB.out.box
    have hbw : W.heap[wo.heap.size]? = _ := (HB.out.low.block _ hqw).trans HNX.out
    have HBW := hidX hbw
    clear hbw
    go_wp2_with fail
    go_loopw [9] (fun vk X => ∃ (k : Nat) (iv : Value), k ≤ b.ins.length ∧ vk = .int .i64 k ∧ Hid (GrowAt XI W X n 1 (bxV b a1 c1 a2 c2) 56 52 5 iv (b.ins.take k))) (fun vk _ => b.ins.length - (intOf vk).toNat)
    case atStart => exact ⟨0, _, Nat.zero_le _, rfl, HG0.out⟩
    case round =>
     obtain ⟨k, iv, hk, rfl, HR⟩ := hrel
     have hwn : wo.heap.size ≠ n := by omega
     have hbb := (HR.out.blk (b := wo.heap.size) (by omega) hwn).trans HBW.out
     have p0 : wr.cell? ⟨wo.heap.size, 1, none⟩ = some (.slice ia b.ins.length ic) := cell_of_blk hbb 1
     have HBB := hidX hbb
     clear hbb
     by_cases hkl : k < b.ins.length
     ·have hkl' : (k : Int) < (b.ins.length : Int) := by omega
      have hil := HFB.out.insl
      have hlo : Below w.heap.size w wr := (bl_trans (bl_trans HA.out.low HA.out.low.size HBX.out) (by have := HA.out.low.size; have := HBX.out.size; omega) HB.out.low).trans ⟨HR.out.low.os, HR.out.low.tape, HR.out.low.output, HR.out.low.size, fun c hc => HR.out.blk (by have := HA.out.low.size; have := HBX.out.size; omega) (by have := HA.out.low.size; have := HBX.out.size; omega)⟩
      obtain ⟨gi, offi, adi, capi, e1, hgi, hri, m0, m1, m2, m3, m4⟩ := HI.out.ins hkl
      subst e1
      replace m0 := (hlo.cell (p := ⟨gi, _, none⟩) hgi).trans m0
      replace m1 := (hlo.cell (p := ⟨gi, _, none⟩) hgi).trans m1
      replace m2 := (hlo.cell (p := ⟨gi, _, none⟩) hgi).trans m2
      replace m3 := (hlo.cell (p := ⟨gi, _, none⟩) hgi).trans m3
      replace m4 := (hlo.cell (p := ⟨gi, _, none⟩) hgi).trans m4
      have HTI := hidX (show b.ins.take (k + 1) = b.ins.take k ++ [b.ins[k]] from List.take_succ_eq_append_getElem hkl)
      have HFI := hidX (HFB.out.ins _ (List.getElem_mem hkl))
      have HRI := hidX hri
      have HLO := hidX hlo
      generalize b.ins[k] = x at *
      clear hri hlo
      have hlk : (b.ins.take k).length = k := by rw [List.length_take]; omega
      obtain ⟨xs, ho, hx⟩ := HR.out.row
      have hbxn := HR.out.box
      rw [hlk] at ho
      obtain ⟨lad, lcap, rfl⟩ := own_is ho
      obtain ⟨Xn, hXn⟩ : ∃ Xn, Xn = wr.alloc (.cells #[.string ⟨x.kind.toArray⟩, .int .i64 x.d, .slice adi x.args.length capi, .int .i64 x.num, .string ⟨x.name.toArray⟩] 61) := ⟨_, rfl⟩
      have hbn : Below wr.heap.size wr Xn := by rw [hXn]; (repeat (first | exact Below.refl _ _ | assumption | refine Below.drew ?_ | refine bT ?_ _ | refine bS ?_ _ | refine bA ?_ _))
      have hnn : Xn.heap[wr.heap.size]? = some (.cells #[.string ⟨x.kind.toArray⟩, .int .i64 x.d, .slice adi x.args.length capi, .int .i64 x.num, .string ⟨x.name.toArray⟩] 61 (0, 0)) := by rw [hXn]; exact heap_alloc_new _ _
      have hon : Xn.heap[n]? = some (.cells ((bxV b a1 c1 a2 c2).setIfInBounds 1 (.slice lad k lcap)) 56 (0, 0)) := (hbn.block _ (heap_lt hbxn)).trans hbxn
      have HROW := hidX (fun (W : World) (hW : Below Xn.heap.size Xn W) => HRI.out.imp (inH_up (bl_trans (bl_trans HLO.out HLO.out.size hbn) (by have := HLO.out.size; have := hbn.size; omega) hW)) (keepH (bl_trans (bl_trans HLO.out HLO.out.size hbn) (by have := HLO.out.size; have := hbn.size; omega) hW)))
      have HXW := hidX (owns_below ho hbn)
      have HKI := hidX (show ∀ W : World, Below Xn.heap.size Xn W → W.cell? ⟨wr.heap.size, 0, none⟩ = some (.string ⟨x.kind.toArray⟩) ∧ W.cell? ⟨wr.heap.size, 1, none⟩ = some (.int .i64 x.d) ∧ W.cell? ⟨wr.heap.size, 2, none⟩ = some (.slice adi x.args.length capi) ∧ W.cell? ⟨wr.heap.size, 3, none⟩ = some (.int .i64 x.num) ∧ W.cell? ⟨wr.heap.size, 4, none⟩ = some (.string ⟨x.name.toArray⟩) ∧ W.cell? ⟨n, 1, none⟩ = some (.slice lad k lcap) from fun W hW => by
       have e1 := (hW.block _ (heap_lt hnn)).trans hnn
       have e2 := (hW.block _ (heap_lt hon)).trans hon
       exact ⟨cell_of_blk e1 0, cell_of_blk e1 1, cell_of_blk e1 2, cell_of_blk e1 3, cell_of_blk e1 4, by simpa using cell_of_blk e2 1⟩)
      have HPS := hidX (fun W3 W4 Z lv' cs h3 hi h4 hg hz hl => HR.out.push (x := x) (W3 := W3) (W4 := W4) (Z := Z) (lv' := lv') (cs := cs) XI.imp (by rw [hlk]; exact ho) hx h3 hi h4 hg (by rw [hlk]; exact hz) hl)
      have HBN := hidX hbn
      have HNN := hidX hnn
      have HON := hidX hon
      have HO := hidX ho
      have hxa := HFI.out.args
      have hzn := heap_lt hon
      have hzb := heap_lt hbxn
      obtain ⟨i0, hi0, iz0, iz1, iz2⟩ := info_parts pi_info
      clear hbn hnn hon ho hx hbxn
      go_wp2_with fail
      rw [← hXn]
      clear hXn m0 m1 m2 m3 m4 p0
      refine wp_region_until (fun W => W.cell? ⟨wr.heap.size, 0, none⟩ = some (.string ⟨x.kind.toArray⟩) ∧ W.cell? ⟨wr.heap.size, 1, none⟩ = some (.int .i64 x.d) ∧ W.cell? ⟨wr.heap.size, 2, none⟩ = some (.slice adi x.args.length capi) ∧ W.cell? ⟨wr.heap.size, 3, none⟩ = some (.int .i64 x.num) ∧ W.cell? ⟨wr.heap.size, 4, none⟩ = some (.string ⟨x.name.toArray⟩) ∧ W.cell? ⟨n, 1, none⟩ = some (.slice lad k lcap)) 18 (by kernel_rfl) (HKI.out _ (by (repeat (first | exact Below.refl _ _ | assumption | refine Below.drew ?_ | refine bT ?_ _ | refine bS ?_ _ | refine bA ?_ _)))) (fun hHeld => ?_)
      refine wpAnyU_put 0 (some 58) (v := ?i0) rfl rfl (by kernel_rfl) (by kernel_rfl) (by kernel_rfl) (by kernel_rfl) (fun _ _ _ h => h) (Or.inl ⟨by rfl, ?iy0⟩) hHeld ?irest0
      case iy0 => (intro w2 hSw; (try dsimp only at hSw); first | (go_simp; done) | (go_simp; with_reducible rfl))
      simp only [Act.put, List.setIfInBounds_toArray, List.set_cons_zero, List.set_cons_succ]
      refine wpAnyU_put 1 (some 59) (v := ?i1) rfl rfl (by kernel_rfl) (by kernel_rfl) (by kernel_rfl) (by kernel_rfl) (fun _ _ _ h => h) (Or.inl ⟨by rfl, ?iy1⟩) hHeld ?irest1
      case iy1 => (intro w2 hSw; (try dsimp only at hSw); first | (go_simp; done) | (go_simp; with_reducible rfl))
      simp only [Act.put, List.setIfInBounds_toArray, List.set_cons_zero, List.set_cons_succ]
      refine wpAnyU_put 2 (some 60) (v := ?i2) rfl rfl (by kernel_rfl) (by kernel_rfl) (by kernel_rfl) (by kernel_rfl) (fun _ _ _ h => h) (Or.inl ⟨by rfl, ?iy2⟩) hHeld ?irest2
      case iy2 => (intro w2 hSw; (try dsimp only at hSw); first | (go_simp; done) | (go_simp; with_reducible rfl))
      simp only [Act.put, List.setIfInBounds_toArray, List.set_cons_zero, List.set_cons_succ]
      refine wpAnyU_put 3 (some 61) (v := ?i3) rfl rfl (by kernel_rfl) (by kernel_rfl) (by kernel_rfl) (by kernel_rfl) (fun _ _ _ h => h) (Or.inl ⟨by rfl, ?iy3⟩) hHeld ?irest3
      case iy3 => (intro w2 hSw; (try dsimp only at hSw); first | (go_simp; done) | (go_simp; with_reducible rfl))
      simp only [Act.put, List.setIfInBounds_toArray, List.set_cons_zero, List.set_cons_succ]
      refine wpAnyU_put 4 (some 62) (v := ?i4) rfl rfl (by kernel_rfl) (by kernel_rfl) (by kernel_rfl) (by kernel_rfl) (fun _ _ _ h => h) (Or.inl ⟨by rfl, ?iy4⟩) hHeld ?irest4
      case iy4 => (intro w2 hSw; (try dsimp only at hSw); first | (go_simp; done) | (go_simp; with_reducible rfl))
      simp only [Act.put, List.setIfInBounds_toArray, List.set_cons_zero, List.set_cons_succ]
      refine wpAnyU_put 5 (some 63) (v := ?i5) rfl rfl (by kernel_rfl) (by kernel_rfl) (by kernel_rfl) (by kernel_rfl) (fun _ _ _ h => h) (Or.inl ⟨by rfl, ?iy5⟩) hHeld ?irest5
      case iy5 => (intro w2 hSw; (try dsimp only at hSw); first | (go_simp; done) | (go_simp; with_reducible rfl))
      simp only [Act.put, List.setIfInBounds_toArray, List.set_cons_zero, List.set_cons_succ]
      refine wpAnyU_put 6 (some 64) (v := ?i6) rfl rfl (by kernel_rfl) (by kernel_rfl) (by kernel_rfl) (by kernel_rfl) (fun _ _ _ h => h) (Or.inl ⟨by rfl, ?iy6⟩) hHeld ?irest6
      case iy6 => (intro w2 hSw; (try dsimp only at hSw); first | (go_simp; done) | (go_simp; with_reducible rfl))
      simp only [Act.put, List.setIfInBounds_toArray, List.set_cons_zero, List.set_cons_succ]
      refine wpAnyU_put 7 (some 65) (v := ?i7) rfl rfl (by kernel_rfl) (by kernel_rfl) (by kernel_rfl) (by kernel_rfl) (fun _ _ _ h => h) (Or.inl ⟨by rfl, ?iy7⟩) hHeld ?irest7
      case iy7 => (intro w2 hSw; (try dsimp only at hSw); first | (go_simp; done) | (go_simp; with_reducible rfl))
      simp only [Act.put, List.setIfInBounds_toArray, List.set_cons_zero, List.set_cons_succ]
      refine wpAnyU_put 8 (some 66) (v := ?i8) rfl rfl (by kernel_rfl) (by kernel_rfl) (by kernel_rfl) (by kernel_rfl) (fun _ _ _ h => h) (Or.inl ⟨by rfl, ?iy8⟩) hHeld ?irest8
      case iy8 => (intro w2 hSw; (try dsimp only at hSw); first | (go_simp; done) | (go_simp; with_reducible rfl))
      simp only [Act.put, List.setIfInBounds_toArray, List.set_cons_zero, List.set_cons_succ]
      refine wpAnyU_put 10 (some 68) (v := ?i10) rfl rfl (by kernel_rfl) (by kernel_rfl) (by kernel_rfl) (by kernel_rfl) (fun _ _ _ h => h) (Or.inl ⟨by rfl, ?iy10⟩) hHeld ?irest10
      case iy10 => (intro w2 hSw; (try dsimp only at hSw); first | (go_simp; done) | (go_simp; with_reducible rfl))
      simp only [Act.put, List.setIfInBounds_toArray, List.set_cons_zero, List.set_cons_succ]
      refine wpAnyU_put 11 (some 69) (v := ?i11) rfl rfl (by kernel_rfl) (by kernel_rfl) (by kernel_rfl) (by kernel_rfl) (fun _ _ _ h => h) (Or.inl ⟨by rfl, ?iy11⟩) hHeld ?irest11
      case iy11 => (intro w2 hSw; (try dsimp only at hSw); first | (go_simp; done) | (go_simp; with_reducible rfl))
      simp only [Act.put, List.setIfInBounds_toArray, List.set_cons_zero, List.set_cons_succ]
      refine wpAnyU_put 12 (some 70) (v := ?i12) rfl rfl (by kernel_rfl) (by kernel_rfl) (by kernel_rfl) (by kernel_rfl) (fun _ _ _ h => h) (Or.inl ⟨by rfl, ?iy12⟩) hHeld ?irest12
      case iy12 => (intro w2 hSw; (try dsimp only at hSw); first | (go_simp; done) | (go_simp; with_reducible rfl))
      simp only [Act.put, List.setIfInBounds_toArray, List.set_cons_zero, List.set_cons_succ]
      refine wpAnyU_put 13 (some 71) (v := ?i13) rfl rfl (by kernel_rfl) (by kernel_rfl) (by kernel_rfl) (by kernel_rfl) (fun _ _ _ h => h) (Or.inl ⟨by rfl, ?iy13⟩) hHeld ?irest13
      case iy13 => (intro w2 hSw; (try dsimp only at hSw); first | (go_simp; done) | (go_simp; with_reducible rfl))
      simp only [Act.put, List.setIfInBounds_toArray, List.set_cons_zero, List.set_cons_succ]
      refine wpAnyU_one (i := 9) (by kernel_rfl) rfl (fun K9 hK9 => ?_)
      refine step_append_intsG rfl (.tmp 64) (.tmp 66) rfl rfl (.slice adi x.args.length capi) rfl x.args (by omega) (HROW.out _ (by (repeat (first | exact Below.refl _ _ | assumption | refine Below.drew ?_ | refine bT ?_ _ | refine bS ?_ _ | refine bA ?_ _)))) ?_
      intro ad3 cap3 W3 ho3 hb3
      have hb3' : Below Xn.heap.size Xn W3 := bl_trans (Below.drew (Below.refl _ _)) (Nat.le_refl _) hb3
      have s3 := HKI.out W3 hb3'
      change K9 (Act.put _ (some 67) _) W3
      refine hK9.out _ _ (fun _ => s3) (fun _ => ?_)
      clear hK9 hHeld K9
      have hHeld := s3
      clear s3
      simp only [Act.put, List.setIfInBounds_toArray, List.set_cons_zero, List.set_cons_succ]
      refine wpAnyU_put 14 (some 72) (v := ?i14) rfl rfl (by kernel_rfl) (by kernel_rfl) (by kernel_rfl) (by kernel_rfl) (fun _ _ _ h => h) (Or.inl ⟨by rfl, ?iy14⟩) hHeld ?irest14
      case iy14 => (intro w2 hSw; (try dsimp only at hSw); first | (go_simp; done) | (go_simp; with_reducible rfl))
      simp only [Act.put, List.setIfInBounds_toArray, List.set_cons_zero, List.set_cons_succ]
      have hbb : Below Xn.heap.size Xn (W3.alloc (.cells #[.string ⟨x.kind.toArray⟩, .int .i64 x.d, .slice ad3 x.args.length cap3, .int .i64 x.num, .string ⟨x.name.toArray⟩] 52)) := bl_trans hb3' hb3'.size (box_blk _ _ _)
      have s15 := HKI.out _ hbb
      refine wpAnyU_one (i := 15) (by kernel_rfl) rfl (fun K15 hK15 => ?_)
      go_simp
      refine hK15.out _ _ (fun _ => s15) (fun _ => ?_)
      clear hK15 hHeld K15
      refine wpAnyU_one (i := 16) (by kernel_rfl) rfl (fun K16 hK16 => ?_)
      refine step_append_lies _ rfl (.tmp 59) (.tmp 73) 53 rfl W.heap.size 52 i0 _ 5 72 Tryz.underlying53 hi0 iz0 iz1 iz2 rfl (by decide) (.slice lad k lcap) k xs rfl (owns_below HXW.out hbb) ⟨W3.heap.size, 0, none⟩ 1 1 [.string ⟨x.kind.toArray⟩, .int .i64 x.d, .slice ad3 x.args.length cap3, .int .i64 x.num, .string ⟨x.name.toArray⟩] rfl rfl (World.news_of_block (heap_alloc_new _ _)) (pi_one x ad3 x.args.length cap3) (by decide) (by unfold maxLen; omega) (by omega) (by have := hb3'.size; have := HR.out.low.size; have := HBN.out.size; simp; omega) _ rfl ?_
      intro g4 cap4 W4 ho4 hg4 hl4 _
      have hq4 : W4.heap[n]? = _ := ((hg4.block _ (by have := hb3'.size; simp; omega) (fun e => by have := (HO.out.lt _ e.symm).1; omega)).trans (hbb.block _ hzn)).trans HON.out
      have hn4 : W4.heap[wr.heap.size]? = _ := ((hg4.block _ (by have := hb3'.size; have := heap_lt HNN.out; simp; omega) (fun e => by have := (HO.out.lt _ e.symm).2; omega)).trans (hbb.block _ (heap_lt HNN.out))).trans HNN.out
      have f3 := free_of_blk hq4 1
      have s3 : W4.cell? ⟨n, 1, none⟩ = some (.slice lad k lcap) := by simpa using cell_of_blk hq4 1
      change K16 (Act.put _ (some 74) _) W4
      refine hK16.out _ _ (fun _ => ⟨cell_of_blk hn4 0, cell_of_blk hn4 1, cell_of_blk hn4 2, cell_of_blk hn4 3, cell_of_blk hn4 4, s3⟩) (fun hHeld => ?_)
      clear hK16 K16
      simp only [Act.put, List.setIfInBounds_toArray, List.set_cons_zero, List.set_cons_succ]
      refine wpAnyU_put 17 (some 75) (v := ?i17) rfl rfl (by kernel_rfl) (by kernel_rfl) (by kernel_rfl) (by kernel_rfl) (fun _ _ _ h => h) (Or.inl ⟨by rfl, ?iy17⟩) (hHeld (by decide)) ?irest17
      case iy17 => (intro w2 hSw; (try dsimp only at hSw); first | (go_simp; done) | (go_simp; with_reducible rfl))
      simp only [Act.put, List.setIfInBounds_toArray, List.set_cons_zero, List.set_cons_succ]
      have hfin := HPS.out W3 _ W4 _ [.string ⟨x.kind.toArray⟩, .int .i64 x.d, .slice ad3 x.args.length cap3, .int .i64 x.num, .string ⟨x.name.toArray⟩] (bl_trans HBN.out HBN.out.size hb3') ⟨ad3, cap3, rfl, (xrow_own ho3).imp (fun c hc => ⟨by have := hc.1; have := HBN.out.size; have e : Xn.drew.heap.size = Xn.heap.size := rfl; omega, hc.2⟩) (fun _ _ => rfl)⟩ (box_blk W3 _ _) hg4 ho4 (by rcases hl4 with e | e; exact Or.inl e.symm; right; simp only [Value.ownBlock]; rw [e])
      rw [← HTI.out] at hfin
      have HFIN := hidX hfin
      clear hfin hHeld ho3 hb3 hb3' hbb s15 ho4 hg4 hl4 hq4 hn4
      refine wpAnyU_one (i := 18) (by kernel_rfl) rfl (fun K18 hK18 => ?_)
      go_simp
      refine hK18.out _ _ (fun h => absurd rfl h) (fun _ => ?_)
      clear hK18 K18
      refine wpAnyU_done (by kernel_rfl) ?_ _
      go_wp2
      go_roundw
      case rel => exact ⟨k + 1, _, by omega, by go_num, HFIN.out⟩
      case measure => simp [intOf]; omega
     ·have hkn : k = b.ins.length := by omega
      subst hkn
      have hri := HR.out
      rw [List.take_length] at hri
      obtain ⟨xsI, hoI, hxI⟩ := hri.row
      obtain ⟨iad, icap, rfl⟩ := own_is hoI
      obtain ⟨wi, hwi⟩ : ∃ wi, wi = wr := ⟨_, rfl⟩
      subst hwi
      have HXI := hidX (hri.xrow XI.imp)
      have hbxi : wi.heap[n]? = some (.cells #[.slice a1 b.params.length c1, .slice iad b.ins.length icap, .string ⟨b.fin.toArray⟩, .int .i64 b.v, .slice a2 b.tos.length c2, .slice none 0 0] 56 (0, 0)) := by simpa [bxV] using hri.box
      have HG1 := hidX (GrowAt.start (Rep := XW) (f := 5) (et := 25) (n := 1) hbxi (by simp))
      have HRI := hidX hri
      have hni := heap_lt hbxi
      have hqi := heap_lt HBB.out
      have HLI := hidX (show Below w.heap.size w wi from (bl_trans (bl_trans HA.out.low HA.out.low.size HBX.out) (by have := HA.out.low.size; have := HBX.out.size; omega) HB.out.low).trans ⟨HRI.out.low.os, HRI.out.low.tape, HRI.out.low.output, HRI.out.low.size, fun c hc => HRI.out.blk (by have := HA.out.low.size; have := HBX.out.size; omega) (by have := HA.out.low.size; have := HBX.out.size; omega)⟩)
      have HWZ := hidX HRI.out.low.size
      clear hri hoI hxI HR HG0 hbxi
      go_wp2_with fail
      clear p0
      go_loopw [12] (fun vk X => ∃ (j : Nat) (jv : Value), j ≤ b.wi.length ∧ vk = .int .i64 j ∧ Hid (GrowAt XW wi X n 5 #[.slice a1 b.params.length c1, .slice iad b.ins.length icap, .string ⟨b.fin.toArray⟩, .int .i64 b.v, .slice a2 b.tos.length c2, .slice none 0 0] 56 25 1 jv (b.wi.take j))) (fun vk _ => b.wi.length - (intOf vk).toNat)
      case atStart => exact ⟨0, _, Nat.zero_le _, rfl, HG1.out⟩
      case round =>
       obtain ⟨j, jv, hj, rfl, HRJ⟩ := hrel
       have hbb := (HRJ.out.blk (b := wo.heap.size) (by omega) hwn).trans HBB.out
       have p5 : wr.cell? ⟨wo.heap.size, 5, none⟩ = some (.slice wa b.wi.length wc) := cell_of_blk hbb 5
       have HBJ := hidX hbb
       clear hbb
       by_cases hjl : j < b.wi.length
       ·have hjl' : (j : Int) < (b.wi.length : Int) := by omega
        have hwl := HFB.out.wil
        have hlo : Below w.heap.size w wr := HLI.out.trans ⟨HRJ.out.low.os, HRJ.out.low.tape, HRJ.out.low.output, HRJ.out.low.size, fun c hc => HRJ.out.blk (by have := HLI.out.size; omega) (by have := HA.out.low.size; have := HBX.out.size; omega)⟩
        obtain ⟨gi, offi, adj, capj, e1, hgi, hri, m0⟩ := HW.out.row hjl
        subst e1
        replace m0 := (hlo.cell (p := ⟨gi, _, none⟩) hgi).trans m0
        have HTJ := hidX (show b.wi.take (j + 1) = b.wi.take j ++ [b.wi[j]] from List.take_succ_eq_append_getElem hjl)
        have HFJ := hidX (HFB.out.wi _ (List.getElem_mem hjl))
        have HROW := hidX (hri.imp (inH_up hlo) (keepH hlo))
        generalize b.wi[j] = l at *
        clear hri hlo
        have hlk : (b.wi.take j).length = j := by rw [List.length_take]; omega
        obtain ⟨xs, ho, hx⟩ := HRJ.out.row
        have hbxn := HRJ.out.box
        rw [hlk] at ho
        obtain ⟨lad, lcap, rfl⟩ := own_is ho
        have hbxn2 : wr.heap[n]? = some (.cells #[.slice a1 b.params.length c1, .slice iad b.ins.length icap, .string ⟨b.fin.toArray⟩, .int .i64 b.v, .slice a2 b.tos.length c2, .slice lad j lcap] 56 (0, 0)) := by simpa using hbxn
        have HPS := hidX (fun W3 W4 Z lv' cs h3 hi h4 hg hz hl => HRJ.out.push (x := l) (W3 := W3) (W4 := W4) (Z := Z) (lv' := lv') (cs := cs) XW.imp (by rw [hlk]; exact ho) hx h3 hi h4 hg (by rw [hlk]; exact hz) hl)
        have HO := hidX ho
        have HBOX := hidX hbxn2
        have hxl := HFJ.out
        have hzn := heap_lt hbxn2
        have HZI := hidX HRJ.out.low.size
        obtain ⟨i0, hi0, iz0, iz1, iz2⟩ := info_parts pw_info
        clear ho hx hbxn hbxn2 hlk
        go_wp2_with (first
         | (at_builtin; refine wpList_append_intsG rfl _ _ rfl rfl (.slice adj l.length capj) rfl l (by omega) HROW.out ?_; intro v3 W3 ho3 hb3; obtain ⟨ad3, cap3, rfl⟩ := own_is ho3; have HO3 := hidX ho3; have HB3 := hidX hb3; have q5 : W3.cell? ⟨n, 5, none⟩ = some (.slice lad j lcap) := cell_of_blk ((hb3.block _ hzn).trans HBOX.out) 5; have hz3 := hb3.size; clear ho3 hb3)
         | (at_builtin; refine wpList_append_lies _ rfl _ _ 54 rfl wi.heap.size 25 i0 _ 1 24 Tryz.underlying54 hi0 iz0 iz1 iz2 rfl (by decide) (.slice lad j lcap) j xs rfl (owns_below (owns_below HO.out HB3.out) (box_blk _ _ _)) ⟨W3.heap.size, 0, none⟩ 1 1 [.slice ad3 l.length cap3] rfl rfl (World.news_of_block (heap_alloc_new W3 _)) (sl_one _ _ _) (by decide) (by unfold maxLen; omega) (by omega) (by have := HZI.out; simp; omega) _ rfl ?_; intro g4 cap4 W4 ho4 hg4 hl4 _; have hq4 : W4.heap[n]? = _ := ((hg4.block _ (by simp; omega) (fun e => by have := (HO.out.lt _ e.symm).1; omega)).trans (Below.heap_alloc _ _ _ (by omega))).trans ((HB3.out.block _ hzn).trans HBOX.out); have f5 := free_of_blk hq4 5; have s5 : W4.cell? ⟨n, 5, none⟩ = some (.slice lad j lcap) := cell_of_blk hq4 5; have hfin := HPS.out W3 _ W4 _ [.slice ad3 l.length cap3] HB3.out ⟨ad3, cap3, rfl, xrow_own HO3.out⟩ (box_blk W3 _ _) hg4 ho4 (by (rcases hl4 with e | e); (exact Or.inl e.symm); (right; simp only [Value.ownBlock]; rw [e])); rw [← HTJ.out] at hfin; have HFIN := hidX hfin; clear hfin ho4 hg4 hl4 hq4))
        go_roundw
        case rel => exact ⟨j + 1, _, by omega, by go_num, HFIN.out⟩
        case measure => simp [intOf]; omega
       ·have hjn : j = b.wi.length := by omega
        subst hjn
        have hrj := HRJ.out
        rw [List.take_length] at hrj
        obtain ⟨xsJ, hoJ, hxJ⟩ := hrj.row
        obtain ⟨jad, jcap, rfl⟩ := own_is hoJ
        have hxj := hrj.xrow XW.imp
        have hzj := hrj.low.size
        have hzw := HWZ.out
        have hzo := HBX.out.size
        have hzA := HA.out.low.size
        have hbox : wr.heap[n]? = some (.cells #[.slice a1 b.params.length c1, .slice iad b.ins.length icap, .string ⟨b.fin.toArray⟩, .int .i64 b.v, .slice a2 b.tos.length c2, .slice jad b.wi.length jcap] 56 (0, 0)) := by simpa using hrj.box
        have hkeep : ∀ c, c < W.heap.size → c ≠ n → wr.heap[c]? = W.heap[c]? := fun c hc hn => (hrj.blk (by omega) hn).trans (HRI.out.blk hc hn)
        have hxb : XB (Nw wo wr) wr b [.slice a1 b.params.length c1, .slice iad b.ins.length icap, .string ⟨b.fin.toArray⟩, .int .i64 b.v, .slice a2 b.tos.length c2, .slice jad b.wi.length jcap] := xb_of
         (HB.out.par.imp (fun c hc => ⟨by have := hc.1.1; omega, by have := hc.1.2; omega⟩) (fun c hc => hkeep c hc.1.2 hc.2))
         (XIs.imp (A := Nw W wi) (w := wi) HXI.out (fun c hc => ⟨by have := hc.1; omega, by have := hc.2; omega⟩) (fun c hc => hrj.blk hc.2 (by have := hc.1; omega)))
         (HB.out.tos.imp (fun c hc => ⟨by have := hc.1.1; omega, by have := hc.1.2; omega⟩) (fun c hc => hkeep c hc.1.2 hc.2))
         (XWs.imp (A := Nw wi wr) (w := wr) hxj (fun c hc => ⟨by have := hc.1; omega, hc.2⟩) (fun _ _ => rfl))
        have hbo : Below wo.heap.size wo wr := ⟨hrj.low.os.trans (HRI.out.low.os.trans (HB.out.low.os.trans HBX.out.os)), hrj.low.tape.trans (HRI.out.low.tape.trans (HB.out.low.tape.trans HBX.out.tape)), hrj.low.output.trans (HRI.out.low.output.trans (HB.out.low.output.trans HBX.out.output)), by omega, fun c hc => (hkeep c (by omega) (by omega)).trans ((HB.out.low.block c (by omega)).trans (HBX.out.block c hc))⟩
        obtain ⟨xs, ho, hx⟩ := HA.out.grow.row
        obtain ⟨lad, lcap, rfl⟩ := own_is ho
        have hob := HA.out.grow.box
        have hln := HLN.out
        rw [hln] at ho hob
        have HPS := hidX (fun Z lv' W4 h4 hg hz hl => HA.out.push (W3 := wr) (W4 := W4) (Z := Z) (lv' := lv') (x := b) HS0.out (by rw [hln]; exact ho) hx hbo hxb h4 (by rw [hln]; exact hg) (by rw [hln]; exact hz) (by rw [hln]; exact hl))
        have hs0 := HS0.out
        have hoz := heap_lt hob
        have hob2 : wr.heap[w.heap.size + 1 + 1]? = _ := (hbo.block _ hoz).trans hob
        have o3 : wr.cell? ⟨w.heap.size + 1 + 1, 3, none⟩ = some (.slice lad q lcap) := by simpa using cell_of_blk hob2 3
        have HOB := hidX hob2
        have n0 : wr.cell? ⟨n, 0, none⟩ = some (.slice a1 b.params.length c1) := cell_of_blk hbox 0
        have n1 : wr.cell? ⟨n, 1, none⟩ = some (.slice iad b.ins.length icap) := cell_of_blk hbox 1
        have n2 : wr.cell? ⟨n, 2, none⟩ = some (.string ⟨b.fin.toArray⟩) := cell_of_blk hbox 2
        have n3 : wr.cell? ⟨n, 3, none⟩ = some (.int .i64 b.v) := cell_of_blk hbox 3
        have n4 : wr.cell? ⟨n, 4, none⟩ = some (.slice a2 b.tos.length c2) := cell_of_blk hbox 4
        have n5 : wr.cell? ⟨n, 5, none⟩ = some (.slice jad b.wi.length jcap) := cell_of_blk hbox 5
        have HO := hidX ho
        have HBO := hidX hbo
        have HGZ := hidX HA.out.grow.low.size
        have hoz2 := heap_lt HOB.out
        have hzr : wo.heap.size ≤ wr.heap.size := hbo.size
        have hzn := heap_lt hbox
        have HHS := hidX hs0
        obtain ⟨i0, hi0, iz0, iz1, iz2⟩ := info_parts pb_info
        clear hrj hoJ hxJ hxj hzj hzw hzo hzA hbox hkeep hxb hbo ho hx hob hob2 hln hs0
        go_wp2_with (at_builtin; refine wpList_append_lies _ rfl _ _ 29 rfl W0.heap.size 56 i0 _ 6 120 Tryz.underlying29 hi0 iz0 iz1 iz2 rfl (by decide) (.slice lad q lcap) q xs rfl (owns_below (owns_below HO.out HBO.out) (box_blk _ _ _)) ⟨wr.heap.size, 0, none⟩ 1 1 [.slice a1 b.params.length c1, .slice iad b.ins.length icap, .string ⟨b.fin.toArray⟩, .int .i64 b.v, .slice a2 b.tos.length c2, .slice jad b.wi.length jcap] rfl rfl (World.news_of_block (heap_alloc_new wr _)) (pb_one b _ _ _ _ _ _ _ _ _ _ _ _) (by decide) (by unfold maxLen; omega) (by omega) (by have := HGZ.out; simp; omega) _ rfl ?_; intro g4 cap4 W4 ho4 hg4 hl4 _; have hq4 : W4.heap[w.heap.size + 1 + 1]? = _ := ((hg4.block _ (by simp; omega) (fun e => by have := (HO.out.lt _ e.symm).1; have := HHS.out; omega)).trans (Below.heap_alloc _ _ _ (by omega))).trans HOB.out; have f3 := free_of_blk hq4 3; have s3 : W4.cell? ⟨w.heap.size + 1 + 1, 3, none⟩ = some (.slice lad q lcap) := (by simpa using cell_of_blk hq4 3); have hfin := HPS.out W4 _ _ (box_blk wr _ _) hg4 ho4 (by (rcases hl4 with e | e); (exact Or.inl e.symm); (right; simp only [Value.ownBlock]; rw [e])); rw [← HTK.out] at hfin; have HFIN := hidX hfin; clear hfin ho4 hg4 hl4 hq4)
        go_roundw
        case rel => exact ⟨q + 1, _, by omega, by go_num, HFIN.out⟩
        case measure => simp [intOf]; omega
  ·have hqn : q = L.length := by omega
   subst hqn
   have ha := HA.out
   rw [List.take_length] at ha
   have hs0 := HS0.out
   have hres : wo.heap[w.heap.size + 1]? = some (.cells #[.string ⟨#[]⟩, .int .i64 0, .int .i64 0, .slice none 0 0] 31 (0, 0)) := (ha.grow.blk (by omega) (by omega)).trans HRES.out
   have hout := ha.grow.box
   obtain ⟨xs, ho, hx⟩ := ha.grow.row
   obtain ⟨lad, lcap, rfl⟩ := own_is ho
   have c0 : wo.cell? ⟨w.heap.size + 1 + 1, 0, none⟩ = some (.string ⟨nm.toArray⟩) := by simpa using cell_of_blk hout 0
   have c1 : wo.cell? ⟨w.heap.size + 1 + 1, 1, none⟩ = some (.int .i64 P) := by simpa using cell_of_blk hout 1
   have c2 : wo.cell? ⟨w.heap.size + 1 + 1, 2, none⟩ = some (.int .i64 V) := by simpa using cell_of_blk hout 2
   have c3 : wo.cell? ⟨w.heap.size + 1 + 1, 3, none⟩ = some (.slice lad L.length lcap) := by simpa using cell_of_blk hout 3
   have e0 : wo.cell? ⟨w.heap.size + 1, 0, none⟩ = some (.string ⟨#[]⟩) := cell_of_blk hres 0
   have e1 : wo.cell? ⟨w.heap.size + 1, 1, none⟩ = some (.int .i64 0) := cell_of_blk hres 1
   have e2 : wo.cell? ⟨w.heap.size + 1, 2, none⟩ = some (.int .i64 0) := cell_of_blk hres 2
   have e3 : wo.cell? ⟨w.heap.size + 1, 3, none⟩ = some (.slice none 0 0) := cell_of_blk hres 3
   have f0 := free_of_blk hres 0
   have f1 := free_of_blk hres 1
   have f2 := free_of_blk hres 2
   have f3 := free_of_blk hres 3
   have hset := blk_setCell (blk_setCell (blk_setCell (blk_setCell hres 0 (.string ⟨nm.toArray⟩)) 1 (.int .i64 P)) 2 (.int .i64 V)) 3 (.slice lad L.length lcap)
   have hbl : Below w.heap.size w ((((wo.setCell ⟨w.heap.size + 1, 0, none⟩ (.string ⟨nm.toArray⟩)).setCell ⟨w.heap.size + 1, 1, none⟩ (.int .i64 P)).setCell ⟨w.heap.size + 1, 2, none⟩ (.int .i64 V)).setCell ⟨w.heap.size + 1, 3, none⟩ (.slice lad L.length lcap)) := ((((ha.low.setCell (by show w.heap.size ≤ w.heap.size + 1; omega) _).setCell (by show w.heap.size ≤ w.heap.size + 1; omega) _).setCell (by show w.heap.size ≤ w.heap.size + 1; omega) _).setCell (by show w.heap.size ≤ w.heap.size + 1; omega) _)
   have hcod : XCo (InH ((((wo.setCell ⟨w.heap.size + 1, 0, none⟩ (.string ⟨nm.toArray⟩)).setCell ⟨w.heap.size + 1, 1, none⟩ (.int .i64 P)).setCell ⟨w.heap.size + 1, 2, none⟩ (.int .i64 V)).setCell ⟨w.heap.size + 1, 3, none⟩ (.slice lad L.length lcap))) ((((wo.setCell ⟨w.heap.size + 1, 0, none⟩ (.string ⟨nm.toArray⟩)).setCell ⟨w.heap.size + 1, 1, none⟩ (.int .i64 P)).setCell ⟨w.heap.size + 1, 2, none⟩ (.int .i64 V)).setCell ⟨w.heap.size + 1, 3, none⟩ (.slice lad L.length lcap)) (.slice lad L.length lcap) L := by
    obtain ⟨ys, y1, y2⟩ := ha.grow.xrow XB.imp
    refine XCo.imp (A := Nw W0 wo) (w := wo) ⟨ys, y1, y2⟩ (fun c hc => by show c < _; simp [World.setCell]; exact hc.2) (fun c hc => ?_)
    have hc1 := hc.1
    rw [Below.heap_setCell _ _ _ _ (by show c ≠ w.heap.size + 1; omega), Below.heap_setCell _ _ _ _ (by show c ≠ w.heap.size + 1; omega), Below.heap_setCell _ _ _ _ (by show c ≠ w.heap.size + 1; omega), Below.heap_setCell _ _ _ _ (by show c ≠ w.heap.size + 1; omega)]
   have HSET := hidX hset
   have HBL := hidX hbl
   have HCOD := hidX hcod
   clear ha ho hx HA hres hout hset hbl hcod hs0
   go_wp2
   exact ret_row (w.heap.size + 1) 2 #[.string ⟨nm.toArray⟩, .int .i64 P, .int .i64 V, .slice lad L.length lcap] 31 rfl rfl (by simpa using HSET.out) Tryz.underlying31 (by kernel_rfl) ⟨_, rfl, HCOD.out, HBL.out⟩
end Go.Proofs.YtmckajgacfjnhaaGreatDoor
