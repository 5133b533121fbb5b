/- Our own: texts joined: RunOf. -/
import Derived.Test.YtmckajgacfjnhaaGreatDoorQRunJ
import Derived.Test.YtmckajgacfjnhaaGreatDoorQAskAll
import Derived.Test.YtmckajgacfjnhaaGreatDoorQWalkMs
import Derived.Test.YtmckajgacfjnhaaGreatDoorQRets
import Derived.Test.YtmckajgacfjnhaaGreatDoorQSetS
import Derived.Deep.RegionHeld3
import Derived.Deep.OwnRows
import Derived.Test.YtmckajgacfjnhaaGreatDoorQTools
import Derived.Deep.AppendLies
import Derived.Deep.LoopGhost
namespace Go.Proofs.YtmckajgacfjnhaaGreatDoor
open Go.RowKit
set_option maxRecDepth 100000 in
set_option maxHeartbeats 16000000 in
theorem runOf_any {w : World} (nm : List UInt8) (P : Int) (vn : Nat) (hvn : vn ≤ 1000) (L : List Pb) (hl0 : 0 < L.length) (hl1 : L.length ≤ 1000) (hlow : ∀ b ∈ L, LowB b) (hle : ∀ b ∈ L, LeaveB vn L b) (ba : Option Addr) (bc : Nat) (hC : XCo (InH w) w (.slice ba L.length bc) L) (args : List Int) (hal : args.length ≤ 1000) (hin : ∀ b ∈ L, ∀ x ∈ b.ins, DoI vn args.length x) (hn64 : ∀ b ∈ L, ∀ x ∈ b.ins, In64 x.num) (hag : ∀ v ∈ args, In64 v) (aad : Option Addr) (acap : Nat) (hargs : XRow (InH w) w (.slice aad args.length acap) args.length (intsG args)) (ans : List Int) (han : ∀ v ∈ ans, In64 v) (nad : Option Addr) (ncap : Nat) (hans : XRow (InH w) w (.slice nad ans.length ncap) ans.length (intsG ans)) (hal2 : ans.length ≤ 100000) (ticks : Int) (htk : ticks ≤ 1000) (most : Nat) (hmo : most ≤ 100000) :
  Calls Tryz.prog 11 #[.agg #[.string ⟨nm.toArray⟩, .int .i64 P, .int .i64 (vn : Int), .slice ba L.length bc], .slice aad args.length acap, .slice nad ans.length ncap, .int .i64 ticks, .int .i64 (most : Int)] w fun e w' => Below w.heap.size w w' ∧ ∃ v, e = .returned v ∧ DoneP w.heap.size w' v (walkPL L args ans ticks most 0 st0 (fun _ => none)) := by
 have hmi := run_make_row' (P := Tryz.prog) 25 3 (.int .i64 0) 8 Tryz.underlying25 int_info rfl .i64 .i64 vn (by omega) (by omega)
 rw [made_intsR] at hmi
 obtain ⟨is0, his0⟩ : ∃ is0, is0 = intsG (List.replicate vn 0) := ⟨_, rfl⟩
 rw [← his0] at hmi
 have hmb := run_make_row' (P := Tryz.prog) 63 4 (.bool false) 1 Tryz.underlying63 bool_infoG rfl .i64 .i64 vn (by omega) (by omega)
 rw [made_bools] at hmb
 obtain ⟨bs0, hbs0⟩ : ∃ bs0, bs0 = boolsG (List.replicate vn false) := ⟨_, rfl⟩
 rw [← hbs0] at hmb
 have HI0 := hidX his0
 have HS0 := hidX hbs0
 clear his0 hbs0
 have hL' : (L.length : Int) ≤ 1000 := by omega
 have hvn' : (vn : Int) ≤ 1000 := by omega
 have HCO := hidX hC
 have HLW := hidX hlow
 have HLE := hidX hle
 have HIN := hidX hin
 have HN64 := hidX hn64
 have HAG := hidX hag
 have HAR := hidX hargs
 have HAN := hidX hans
 have HA64 := hidX han
 generalize hgoal : walkPL L args ans ticks most 0 st0 (fun _ => none) = goal
 have HGO := hidX hgoal
 obtain ⟨W0, hW0⟩ : ∃ W0, W0 = ((((w.alloc (.cells #[.string ⟨nm.toArray⟩, .int .i64 P, .int .i64 (vn : Int), .slice ba L.length bc] 24)).alloc (.cells dnZ 42)).alloc (.cells is0.toArray 3)).alloc (.cells bs0.toArray 4)).alloc (.cells dnZ 42) := ⟨_, rfl⟩
 have hJ0 : RnJ w #[.string ⟨nm.toArray⟩, .int .i64 P, .int .i64 (vn : Int), .slice ba L.length bc] (w.heap.size + 5) W0.heap[w.heap.size + 5]? W0 st0 (List.replicate vn 0) (List.replicate vn false) := by
  have h5 := five_at w (.cells #[.string ⟨nm.toArray⟩, .int .i64 P, .int .i64 (vn : Int), .slice ba L.length bc] 24) (.cells dnZ 42) (.cells is0.toArray 3) (.cells bs0.toArray 4) (.cells dnZ 42)
  rw [← hW0] at h5
  refine ⟨by rw [hW0]; (repeat (first | exact Below.refl _ _ | assumption | refine Below.drew ?_ | refine bT ?_ _ | refine bS ?_ _ | refine bA ?_ _)), h5.1, h5.2.1, by rw [← HI0.out]; exact h5.2.2.1, by rw [← HS0.out]; exact h5.2.2.2.1, ⟨fun _ => False, .slice none 0 0, .slice none 0 0, [], ⟨h5.2.2.2.2, World.ownsRow_nil _ _ _ _, fun b h => by simp [Value.ownBlock] at h, World.ownsRow_nil _ _ _ _, fun b h => by simp [Value.ownBlock] at h, rfl, fun b h => by simp [Value.ownBlock] at h, fun b h => h.elim⟩, fun b h => h.elim⟩, rfl, Nat.le_refl _⟩
 have HJ0 := hidX hJ0
 have HW0 := hidX hW0
 clear hC hlow hle hin hn64 hag hargs hans han hgoal hJ0 hW0
 go_enter Tryz.func11, Tryz.ntmps11
 go_wp2_with fail
 rw [← HW0.out]
 clear HW0 hmi hmb HI0 HS0
 go_loopg [14, 15] (most + 1) (fun k v14 v15 wr => ∃ (q x : Nat) (s : Rst) (gl : List Int) (hl : List Bool) (kb : Nat) (bo : Option Obj), v14 = .int .i64 (x : Int) ∧ v15 = .int .i64 (q : Int) ∧ q ≤ most ∧ most - q < k ∧ x < L.length ∧ Hid (gl.length = vn ∧ hl.length = vn ∧ s.how = [] ∧ BdT ticks s ∧ Got64 (valsG gl hl) ∧ walkPL L args ans ticks (most - q) x s (valsG gl hl) = goal) ∧ Hid (RnJ w #[.string ⟨nm.toArray⟩, .int .i64 P, .int .i64 (vn : Int), .slice ba L.length bc] kb bo wr s gl hl))
 case atStart => exact ⟨0, 0, st0, List.replicate vn 0, List.replicate vn false, _, _, rfl, rfl, by omega, by omega, hl0, ⟨List.length_replicate, List.length_replicate, rfl, ⟨Int.le_refl _, Or.inr (Int.le_refl _), by simp [st0]⟩, (fun i v h => by rw [valsG_none] at h; cases h), by rw [valsG_none]; exact HGO.out⟩, HJ0.out⟩
 case round =>
  obtain ⟨q, x, s, gl, hl, kb, bo, rfl, rfl, hq, hqk, hx, HM, HJ⟩ := hrel
  clear HJ0 HGO
  by_cases hqm : q < most
  ·obtain ⟨wo, hwo⟩ : ∃ wo, wo = wr := ⟨_, rfl⟩
   subst hwo
   have hqm' : (q : Int) < (most : Int) := by omega
   have hx' : (x : Int) < (L.length : Int) := by omega
   obtain ⟨g, off, pa, pc, ia, ic, ta, tc, wa, wc, e1, hg, r1, r2, r3, r4, k0, k1, k2, k3, k4, k5⟩ := HCO.out.blk hx
   subst e1
   have kc : ∀ o v, w.cell? ⟨g, o, none⟩ = some v → wo.cell? ⟨g, o, none⟩ = some v := fun o v hv => (HJ.out.low.cell (p := ⟨g, o, none⟩) hg).trans hv
   replace k0 := kc _ _ k0
   replace k1 := kc _ _ k1
   replace k2 := kc _ _ k2
   replace k3 := kc _ _ k3
   replace k4 := kc _ _ k4
   replace k5 := kc _ _ k5
   have d3 : wo.cell? ⟨w.heap.size, 3, none⟩ = some (.slice (some ⟨g, off, none⟩) L.length bc) := cell_of_blk HJ.out.code 3
   have hbm := List.getElem_mem hx
   have hbt : blkAt L ((x : Nat) : Int) = L[x] := by unfold blkAt; simp [hx]
   have hlb := HLW.out _ hbm
   have HLB := hidX (HLE.out _ hbm)
   have HIB := hidX (HIN.out _ hbm)
   have H6B := hidX (HN64.out _ hbm)
   have hwk6 : goal = if (blockP L args ans ticks L[x] s (valsG gl hl)).1.how ≠ [] then (blockP L args ans ticks L[x] s (valsG gl hl)).1 else walkPL L args ans ticks (most - (q + 1)) (blockP L args ans ticks L[x] s (valsG gl hl)).2.2 (blockP L args ans ticks L[x] s (valsG gl hl)).1 (blockP L args ans ticks L[x] s (valsG gl hl)).2.1 := by
    rw [← HM.out.2.2.2.2.2, show most - q = (most - (q + 1)) + 1 by omega, walkPL, hbt]
   generalize L[x] = b at *
   have HSTOP := hidX (show ∀ r, insPs args ans ticks b.ins s (valsG gl hl) = r → r.1.how ≠ [] → goal = r.1 from fun r hr hh => by
    rw [hwk6]
    have : blockP L args ans ticks b s (valsG gl hl) = (r.1, r.2, 0) := by unfold blockP; rw [hr, if_neg hh]
    rw [this, if_pos hh])
   have HGOON := hidX (show ∀ r, insPs args ans ticks b.ins s (valsG gl hl) = r → r.1.how = [] → goal = if (leaveP L b r.1 r.2).1.how ≠ [] then (leaveP L b r.1 r.2).1 else walkPL L args ans ticks (most - (q + 1)) (leaveP L b r.1 r.2).2.2 (leaveP L b r.1 r.2).1 (leaveP L b r.1 r.2).2.1 from fun r hr hh => by
    rw [hwk6]
    have : blockP L args ans ticks b s (valsG gl hl) = leaveP L b r.1 r.2 := by unfold blockP; rw [hr, if_pos hh]
    rw [this])
   have hil : (b.ins.length : Int) ≤ 1000 := by have := hlb.ins; omega
   have R1 := hidX r1
   have R2 := hidX r2
   have R3 := hidX r3
   have R4 := hidX r4
   have HLO := hidX hlb
   obtain ⟨Y1, hY1⟩ : ∃ Y1, Y1 = wo.alloc (.cells #[.slice pa b.params.length pc, .slice ia b.ins.length ic, .string ⟨b.fin.toArray⟩, .int .i64 b.v, .slice ta b.tos.length tc, .slice wa b.wi.length wc] 60) := ⟨_, rfl⟩
   have hJ1 := HJ.out.rebox (Y := Y1) (by rw [hY1]; exact box_blk _ _ _)
   rw [show Y1.heap[wo.heap.size]? = (some (Obj.cells #[.slice pa b.params.length pc, .slice ia b.ins.length ic, .string ⟨b.fin.toArray⟩, .int .i64 b.v, .slice ta b.tos.length tc, .slice wa b.wi.length wc] 60 (0, 0))) by rw [hY1]; exact heap_alloc_new _ _] at hJ1
   have HJ1 := hidX hJ1
   have hkb1 : wo.heap.size < Y1.heap.size := by rw [hY1]; simp
   have HY1 := hidX hY1
   have HM1 := hidX (show gl.length = vn ∧ hl.length = vn ∧ s.how = [] ∧ BdT ticks s ∧ Got64 (valsG gl hl) from ⟨HM.out.1, HM.out.2.1, HM.out.2.2.1, HM.out.2.2.2.1, HM.out.2.2.2.2.1⟩)
   clear hbm hbt hlb hwk6 r1 r2 r3 r4 kc hJ1 hY1 HM
   go_wp2_with fail
   rw [← HY1.out]
   clear HY1 k0 k1 k2 k3 k4 k5 d3
   go_loopw [17] (fun vi wm => ∃ (q2 : Nat) (s2 : Rst) (gl2 : List Int) (hl2 : List Bool), q2 ≤ b.ins.length ∧ vi = .int .i64 (q2 : Int) ∧ wo.heap.size < wm.heap.size ∧ Hid (gl2.length = vn ∧ hl2.length = vn ∧ s2.how = [] ∧ BdT ticks s2 ∧ Got64 (valsG gl2 hl2) ∧ insPs args ans ticks b.ins s (valsG gl hl) = insPs args ans ticks (b.ins.drop q2) s2 (valsG gl2 hl2)) ∧ Hid (RnJ w #[.string ⟨nm.toArray⟩, .int .i64 P, .int .i64 (vn : Int), .slice (some ⟨g, off, none⟩) L.length bc] wo.heap.size (some (Obj.cells #[.slice pa b.params.length pc, .slice ia b.ins.length ic, .string ⟨b.fin.toArray⟩, .int .i64 b.v, .slice ta b.tos.length tc, .slice wa b.wi.length wc] 60 (0, 0))) wm s2 gl2 hl2)) (fun vi _ => b.ins.length - (intOf vi).toNat)
   case atStart => exact ⟨0, s, gl, hl, by omega, rfl, hkb1, ⟨HM1.out.1, HM1.out.2.1, HM1.out.2.2.1, HM1.out.2.2.2.1, HM1.out.2.2.2.2, rfl⟩, HJ1.out⟩
   case round =>
    rename World => wm
    obtain ⟨q2, s2, gl2, hl2, hq2, rfl, hkm, HM2, HJ2⟩ := hrel
    clear HM1 HJ1 HJ hkb1
    have c1 : wm.cell? ⟨wo.heap.size, 1, none⟩ = some (.slice ia b.ins.length ic) := cell_of_blk HJ2.out.bx 1
    by_cases hlt : q2 < b.ins.length
    ·have hlt' : (q2 : Int) < (b.ins.length : Int) := by omega
     obtain ⟨gi, oi, xa, xc, e2, hgi, hrw, n0, n1, n2, n3, n4⟩ := R2.out.ins hlt
     subst e2
     have kc : ∀ o v, w.cell? ⟨gi, o, none⟩ = some v → wm.cell? ⟨gi, o, none⟩ = some v := fun o v hv => (HJ2.out.low.cell (p := ⟨gi, o, none⟩) hgi).trans hv
     replace n0 := kc _ _ n0
     replace n1 := kc _ _ n1
     replace n2 := kc _ _ n2
     replace n3 := kc _ _ n3
     replace n4 := kc _ _ n4
     have hdx := HIB.out _ (List.getElem_mem hlt)
     have h6x := H6B.out _ (List.getElem_mem hlt)
     have hst := insPs_drop (args := args) (ans := ans) (most := ticks) hlt (s := s2) (g := valsG gl2 hl2)
     rw [← HM2.out.2.2.2.2.2] at hst
     generalize b.ins[q2] = x at *
     have HST2 := hidX (show ∀ r3, insP args ans ticks x s2 (valsG gl2 hl2) = r3 → r3.1.how ≠ [] → goal = r3.1 from fun r3 h3 hh => HSTOP.out r3 (by rw [hst, h3, if_neg hh]) hh)
     have HGO2 := hidX (show ∀ r3, insP args ans ticks x s2 (valsG gl2 hl2) = r3 → r3.1.how = [] → insPs args ans ticks b.ins s (valsG gl hl) = insPs args ans ticks (b.ins.drop (q2 + 1)) r3.1 r3.2 from fun r3 h3 hh => by rw [hst, h3, if_pos hh])
     have hbd3 := insP_bd (args := args) (ans := ans) (x := x) (g := valsG gl2 hl2) HM2.out.2.2.2.1
     have HBD3 := hidX hbd3
     obtain ⟨Y2, hY2⟩ : ∃ Y2, Y2 = wm.alloc (.cells #[.string ⟨x.kind.toArray⟩, .int .i64 x.d, .slice xa x.args.length xc, .int .i64 x.num, .string ⟨x.name.toArray⟩] 61) := ⟨_, rfl⟩
     have hbY : Below wm.heap.size wm Y2 := by rw [hY2]; exact box_blk _ _ _
     have hNY : Y2.heap[wm.heap.size]? = some (.cells #[.string ⟨x.kind.toArray⟩, .int .i64 x.d, .slice xa x.args.length xc, .int .i64 x.num, .string ⟨x.name.toArray⟩] 61 (0, 0)) := by rw [hY2]; exact heap_alloc_new _ _
     have hzY : Y2.heap.size = wm.heap.size + 1 := by rw [hY2]; simp
     have hJY := HJ2.out.below hkm hbY
     have hgl2 : gl2.length = vn := HM2.out.1
     have hhl2 : hl2.length = vn := HM2.out.2.1
     have hpk := pick_any (w := Y2) (A := InH w) x.args hdx.argl xa (some ⟨w.heap.size + 1 + 1, 0, none⟩) (some ⟨w.heap.size + 1 + 1 + 1, 0, none⟩) xc vn vn (w.heap.size + 1 + 1) (w.heap.size + 1 + 1 + 1) gl2 hl2 (by rw [hgl2, hhl2]) (by omega) (fun b hb => Nat.lt_of_lt_of_le hb hJY.low.size) (hrw.imp (fun _ h => h) (fun k hk => hJY.low.block k hk)) rfl rfl hJY.got hJY.has (fun y hy => by have := hdx.args y hy; rw [hhl2]; exact this)
     rw [hgl2, hhl2] at hpk
     have HPK := hidX hpk
     have HJY := hidX hJY
     have HNY := hidX hNY
     have HZY := hidX hzY
     have HDX := hidX hdx
     have H6X := hidX h6x
     have HY2 := hidX hY2
     have HBY := hidX hbY
     clear hst hbd3 hbY hNY hzY hJY hgl2 hhl2 hpk hdx h6x hY2 kc hrw
     go_wp2_with fail
     rw [← HY2.out]
     clear HY2 n0 n1 n2 n3 n4
     refine HPK.out.mono ?_
     rintro e w3 ⟨hb3, ⟨hn, rfl⟩ | ⟨vs, v, hn, rfl, hov⟩⟩
     ·have hend : goal = { s2 with how := hStuck } := HST2.out _ (by unfold insP; rw [hn]) (by simp only; decide)
      subst hend
      have HJ3 := hidX (HJY.out.below (by have := HZY.out; omega) hb3)
      clear hb3 hn
      obtain ⟨S, outv, callv, xs, hd, hs⟩ := HJ3.out.dn
      obtain ⟨oad, ocap, rfl⟩ := own_is hd.out
      obtain ⟨cad, ccap, rfl⟩ := own_is hd.call
      have HZ := hidX (HJ3.out.fieldE hd hs (s' := { s2 with how := hStuck }) rfl rfl 0 (.string ⟨(hStuck).toArray⟩) rfl)
      have HDZ := hidX (hd.set (s' := { s2 with how := hStuck }) rfl rfl 0 (.string ⟨(hStuck).toArray⟩) rfl)
      have HSS := hidX hs
      have i0 := cell_of_blk HJ3.out.res 0
      have fi0 := free_of_blk HJ3.out.res 0
      have j0 := cell_of_blk hd.blk 0
      have i1 := cell_of_blk HJ3.out.res 1
      have fi1 := free_of_blk HJ3.out.res 1
      have j1 := cell_of_blk hd.blk 1
      have i2 := cell_of_blk HJ3.out.res 2
      have fi2 := free_of_blk HJ3.out.res 2
      have j2 := cell_of_blk hd.blk 2
      have i3 := cell_of_blk HJ3.out.res 3
      have fi3 := free_of_blk HJ3.out.res 3
      have j3 := cell_of_blk hd.blk 3
      have i4 := cell_of_blk HJ3.out.res 4
      have fi4 := free_of_blk HJ3.out.res 4
      have j4 := cell_of_blk hd.blk 4
      have fj0 := free_of_blk hd.blk 0
      simp only [List.getElem?_toArray, List.getElem?_cons_zero, List.getElem?_cons_succ] at i0 i1 i2 i3 i4 j0 j1 j2 j3 j4
      clear hd hs
      go_wp2
      (try simp only [Exit.inBlock, Exit.then])
      have hrf := run_fin HZ.out HDZ.out HSS.out
      exact ret_row (w.heap.size + 1) 10 _ 42 rfl rfl hrf.2.1 Tryz.underlying42 (by kernel_rfl) ⟨hrf.1, _, rfl, hrf.2.2⟩
     ·have hJ3 := HJY.out.below (by have := HZY.out; omega) hb3
      have HJ3 := hidX hJ3
      have hN3 := (hb3.block wm.heap.size (by have := HZY.out; omega)).trans HNY.out
      have y0 : w3.cell? ⟨wm.heap.size, 0, none⟩ = some (.string ⟨x.kind.toArray⟩) := cell_of_blk hN3 0
      have y1 : w3.cell? ⟨wm.heap.size, 1, none⟩ = some (.int .i64 x.d) := cell_of_blk hN3 1
      have y3 : w3.cell? ⟨wm.heap.size, 3, none⟩ = some (.int .i64 x.num) := cell_of_blk hN3 3
      have y4 : w3.cell? ⟨wm.heap.size, 4, none⟩ = some (.string ⟨x.name.toArray⟩) := cell_of_blk hN3 4
      have hvl : vs.length = x.args.length := (askX_len' hn).trans (by simp [natL])
      have hv64 := ask_64 HM2.out.2.2.2.2.1 hn
      obtain ⟨vad, vcap, rfl⟩ := own_is hov
      have hzY := HZY.out
      have hz3 : wm.heap.size + 1 ≤ w3.heap.size := by have := hb3.size; omega
      have HOV := hidX hov
      have HBW3 := hidX (show Below wm.heap.size wm w3 from bl_trans HBY.out HBY.out.size hb3)
      have HN3 := hidX hN3
      have HNA := hidX hn
      have HVL := hidX hvl
      have HV64 := hidX hv64
      have hsz := HJ2.out.size
      have ne1 : ¬ (wm.heap.size = w.heap.size + 1 + 1) := by omega
      have ne2 : ¬ (wm.heap.size = w.heap.size + 1 + 1 + 1) := by omega
      have ne3 : ¬ (wm.heap.size = w.heap.size + 1 + 1 + 1 + 1) := by omega
      have ne4 : ¬ (w.heap.size + 1 + 1 = wm.heap.size) := by omega
      have ne5 : ¬ (w.heap.size + 1 + 1 + 1 = wm.heap.size) := by omega
      have ne6 : ¬ (w.heap.size + 1 + 1 + 1 + 1 = wm.heap.size) := by omega
      clear hb3 hJ3 hN3 hn hvl hv64 hov hzY hsz
      rcases HDX.out.kind with hf | hf | hf | hf | hf | hf | hf
      ·as_aux_lemma =>
        have HRES := hidX (show insP args ans ticks x s2 (valsG gl2 hl2) = (s2, setP (valsG gl2 hl2) (x.d.toNat, args.getD x.num.toNat 0)) from by unfold insP; rw [HNA.out]; show (if x.kind = gTick then _ else _) = _; rw [if_neg (by rw [hf]; decide)]; rw [if_neg (by rw [hf]; decide)]; rw [if_neg (by rw [hf]; decide)]; unfold valP; rw [if_pos hf])
        have t0 : (x.kind == [112, 97, 114, 97, 109]) = true := by rw [hf]; rfl
        have t1 : (x.kind == [99, 111, 110, 115, 116]) = false := by rw [hf]; rfl
        have t2 : (x.kind == [111, 110, 101]) = false := by rw [hf]; rfl
        have t3 : (x.kind == [116, 119, 111]) = false := by rw [hf]; rfl
        have t4 : (x.kind == [116, 105, 99, 107]) = false := by rw [hf]; rfl
        have t5 : (x.kind == [112, 114, 105, 110, 116]) = false := by rw [hf]; rfl
        have t6 : (x.kind == [99, 97, 108, 108]) = false := by rw [hf]; rfl
        have hdr := HDX.out.d (by rw [hf]; decide) (by rw [hf]; decide)
        obtain ⟨dn, hdn⟩ : ∃ dn : Nat, x.d = (dn : Int) := ⟨x.d.toNat, by omega⟩
        have hdl : dn < vn := by omega
        have hdl' : (dn : Int) < (vn : Int) := by omega
        rw [hdn] at y1
        have HDN := hidX (show x.d.toNat = dn by omega)
        have g1 : w3.cell? ⟨w.heap.size + 1 + 1, dn, none⟩ = some (.int .i64 (gl2[dn]'(by rw [HM2.out.1]; exact hdl))) := by rw [cell_of_blk HJ3.out.got dn]; simp [intsG, show dn < gl2.length by rw [HM2.out.1]; exact hdl]
        have g2 := free_of_blk HJ3.out.got dn
        have g3 : w3.cell? ⟨w.heap.size + 1 + 1 + 1, dn, none⟩ = some (.bool (hl2[dn]'(by rw [HM2.out.2.1]; exact hdl))) := by rw [cell_of_blk HJ3.out.has dn]; simp [boolsG, show dn < hl2.length by rw [HM2.out.2.1]; exact hdl]
        have g4 := free_of_blk HJ3.out.has dn
        generalize gl2[dn]'(by rw [HM2.out.1]; exact hdl) = go1 at g1
        generalize hl2[dn]'(by rw [HM2.out.2.1]; exact hdl) = go2 at g3
        clear hdr hdn
        have hnr := HDX.out.num hf
        obtain ⟨pn, hpn⟩ : ∃ pn : Nat, x.num = (pn : Int) := ⟨x.num.toNat, by omega⟩
        have hpl : pn < args.length := by omega
        have hpl' : (pn : Int) < (args.length : Int) := by omega
        rw [hpn] at y3
        have HPN := hidX (show args.getD x.num.toNat 0 = args[pn] by rw [show x.num.toNat = pn by omega]; simp [List.getD, hpl])
        have H6Y := hidX (HAG.out _ (List.getElem_mem hpl))
        obtain ⟨ga, oa, e3, hga, ka⟩ := HAR.out.int hpl
        subst e3
        replace ka := (HJ3.out.low.cell (p := ⟨ga, _, none⟩) hga).trans ka
        have hgal : (args.length : Int) ≤ 1000 := by omega
        generalize args[pn] = y at ka HPN H6Y
        clear hnr hpn hf
        have HR3 := hidX (show insP args ans ticks x s2 (valsG gl2 hl2) = (s2, setP (valsG gl2 hl2) (dn, y)) from by rw [HRES.out, HDN.out, HPN.out])
        have HP3 := hidX (HJ3.out.put dn y)
        have HVG := hidX (valsG_set gl2 hl2 (by rw [HM2.out.1, HM2.out.2.1]) dn (by rw [HM2.out.2.1]; exact hdl) y)
        have H64 := hidX (show In64 y from H6Y.out)
        go_wp2
        go_roundw
        case rel => exact ⟨q2 + 1, s2, gl2.set dn y, hl2.set dn true, by omega, by go_num, by simp [World.setCell]; omega, ⟨by simpa using HM2.out.1, by simpa using HM2.out.2.1, HM2.out.2.2.1, HM2.out.2.2.2.1, by rw [HVG.out]; exact setP_64 HM2.out.2.2.2.2.1 H64.out, by rw [HVG.out]; exact HGO2.out _ HR3.out HM2.out.2.2.1⟩, HP3.out⟩
        case measure => simp [intOf]; omega
      ·as_aux_lemma =>
        have HRES := hidX (show insP args ans ticks x s2 (valsG gl2 hl2) = (s2, setP (valsG gl2 hl2) (x.d.toNat, x.num)) from by unfold insP; rw [HNA.out]; show (if x.kind = gTick then _ else _) = _; rw [if_neg (by rw [hf]; decide)]; rw [if_neg (by rw [hf]; decide)]; rw [if_neg (by rw [hf]; decide)]; unfold valP; rw [if_neg (by rw [hf]; decide)]; rw [if_pos hf])
        have t0 : (x.kind == [112, 97, 114, 97, 109]) = false := by rw [hf]; rfl
        have t1 : (x.kind == [99, 111, 110, 115, 116]) = true := by rw [hf]; rfl
        have t2 : (x.kind == [111, 110, 101]) = false := by rw [hf]; rfl
        have t3 : (x.kind == [116, 119, 111]) = false := by rw [hf]; rfl
        have t4 : (x.kind == [116, 105, 99, 107]) = false := by rw [hf]; rfl
        have t5 : (x.kind == [112, 114, 105, 110, 116]) = false := by rw [hf]; rfl
        have t6 : (x.kind == [99, 97, 108, 108]) = false := by rw [hf]; rfl
        have hdr := HDX.out.d (by rw [hf]; decide) (by rw [hf]; decide)
        obtain ⟨dn, hdn⟩ : ∃ dn : Nat, x.d = (dn : Int) := ⟨x.d.toNat, by omega⟩
        have hdl : dn < vn := by omega
        have hdl' : (dn : Int) < (vn : Int) := by omega
        rw [hdn] at y1
        have HDN := hidX (show x.d.toNat = dn by omega)
        have g1 : w3.cell? ⟨w.heap.size + 1 + 1, dn, none⟩ = some (.int .i64 (gl2[dn]'(by rw [HM2.out.1]; exact hdl))) := by rw [cell_of_blk HJ3.out.got dn]; simp [intsG, show dn < gl2.length by rw [HM2.out.1]; exact hdl]
        have g2 := free_of_blk HJ3.out.got dn
        have g3 : w3.cell? ⟨w.heap.size + 1 + 1 + 1, dn, none⟩ = some (.bool (hl2[dn]'(by rw [HM2.out.2.1]; exact hdl))) := by rw [cell_of_blk HJ3.out.has dn]; simp [boolsG, show dn < hl2.length by rw [HM2.out.2.1]; exact hdl]
        have g4 := free_of_blk HJ3.out.has dn
        generalize gl2[dn]'(by rw [HM2.out.1]; exact hdl) = go1 at g1
        generalize hl2[dn]'(by rw [HM2.out.2.1]; exact hdl) = go2 at g3
        clear hdr hdn
        clear hf
        have HR3 := hidX (show insP args ans ticks x s2 (valsG gl2 hl2) = (s2, setP (valsG gl2 hl2) (dn, x.num)) from by rw [HRES.out, HDN.out])
        have HP3 := hidX (HJ3.out.put dn x.num)
        have HVG := hidX (valsG_set gl2 hl2 (by rw [HM2.out.1, HM2.out.2.1]) dn (by rw [HM2.out.2.1]; exact hdl) x.num)
        have H64 := hidX (show In64 x.num from H6X.out)
        go_wp2
        go_roundw
        case rel => exact ⟨q2 + 1, s2, gl2.set dn x.num, hl2.set dn true, by omega, by go_num, by simp [World.setCell]; omega, ⟨by simpa using HM2.out.1, by simpa using HM2.out.2.1, HM2.out.2.2.1, HM2.out.2.2.2.1, by rw [HVG.out]; exact setP_64 HM2.out.2.2.2.2.1 H64.out, by rw [HVG.out]; exact HGO2.out _ HR3.out HM2.out.2.2.1⟩, HP3.out⟩
        case measure => simp [intOf]; omega
      ·as_aux_lemma =>
        have HRES := hidX (show insP args ans ticks x s2 (valsG gl2 hl2) = (s2, setP (valsG gl2 hl2) (x.d.toNat, sumV x.kind x.name vs)) from by unfold insP; rw [HNA.out]; show (if x.kind = gTick then _ else _) = _; rw [if_neg (by rw [hf]; decide)]; rw [if_neg (by rw [hf]; decide)]; rw [if_neg (by rw [hf]; decide)]; unfold valP; rw [if_neg (by rw [hf]; decide)]; rw [if_neg (by rw [hf]; decide)])
        have t0 : (x.kind == [112, 97, 114, 97, 109]) = false := by rw [hf]; rfl
        have t1 : (x.kind == [99, 111, 110, 115, 116]) = false := by rw [hf]; rfl
        have t2 : (x.kind == [111, 110, 101]) = true := by rw [hf]; rfl
        have t3 : (x.kind == [116, 119, 111]) = false := by rw [hf]; rfl
        have t4 : (x.kind == [116, 105, 99, 107]) = false := by rw [hf]; rfl
        have t5 : (x.kind == [112, 114, 105, 110, 116]) = false := by rw [hf]; rfl
        have t6 : (x.kind == [99, 97, 108, 108]) = false := by rw [hf]; rfl
        have hdr := HDX.out.d (by rw [hf]; decide) (by rw [hf]; decide)
        obtain ⟨dn, hdn⟩ : ∃ dn : Nat, x.d = (dn : Int) := ⟨x.d.toNat, by omega⟩
        have hdl : dn < vn := by omega
        have hdl' : (dn : Int) < (vn : Int) := by omega
        rw [hdn] at y1
        have HDN := hidX (show x.d.toNat = dn by omega)
        have g1 : w3.cell? ⟨w.heap.size + 1 + 1, dn, none⟩ = some (.int .i64 (gl2[dn]'(by rw [HM2.out.1]; exact hdl))) := by rw [cell_of_blk HJ3.out.got dn]; simp [intsG, show dn < gl2.length by rw [HM2.out.1]; exact hdl]
        have g2 := free_of_blk HJ3.out.got dn
        have g3 : w3.cell? ⟨w.heap.size + 1 + 1 + 1, dn, none⟩ = some (.bool (hl2[dn]'(by rw [HM2.out.2.1]; exact hdl))) := by rw [cell_of_blk HJ3.out.has dn]; simp [boolsG, show dn < hl2.length by rw [HM2.out.2.1]; exact hdl]
        have g4 := free_of_blk HJ3.out.has dn
        generalize gl2[dn]'(by rw [HM2.out.1]; exact hdl) = go1 at g1
        generalize hl2[dn]'(by rw [HM2.out.2.1]; exact hdl) = go2 at g3
        clear hdr hdn
        have hkk := HDX.out.one hf
        have hvn0 : vs.length = 1 := HVL.out.trans hkk.1
        obtain ⟨u0, hu⟩ : ∃ u0, vs = [u0] := by
         match vs, hvn0 with
         | [u0], _ => exact ⟨u0, rfl⟩
        subst hu
        have HSV := hidX (show sumV x.kind x.name [u0] = oneV x.name u0 from by unfold sumV; rw [if_pos hf]; rfl)
        have HCA := hidX fun W => rone_val x.name hkk.2 u0 W
        have H6Y := hidX (oneV_fit x.name u0)
        generalize oneV x.name u0 = y at HSV HCA H6Y
        obtain ⟨gv, ov, e3, _, kv⟩ := (xrow_own HOV.out).int (k := 0) (by simp)
        subst e3
        rw [Nat.add_zero] at kv
        have kv0 : w3.cell? ⟨gv, ov, none⟩ = some (.int .i64 u0) := kv
        clear kv
        have C0 := hidX (show w3.cell? ⟨wm.heap.size, 4, none⟩ = some (.string ⟨x.name.toArray⟩) ∧ w3.cell? ⟨gv, ov, none⟩ = some (.int .i64 u0) from ⟨y4, kv0⟩)
        have HR3 := hidX (show insP args ans ticks x s2 (valsG gl2 hl2) = (s2, setP (valsG gl2 hl2) (dn, y)) from by rw [HRES.out, HDN.out, HSV.out])
        have HP3 := hidX fun W (hW : Below w3.heap.size w3 W) => (HJ3.out.below (by omega) hW).put dn y
        have HP4 := hidX ((HJ3.out.put dn y).below (by simp [World.setCell]; omega) ((Below.refl _ _).drew))
        have HVG := hidX (valsG_set gl2 hl2 (by rw [HM2.out.1, HM2.out.2.1]) dn (by rw [HM2.out.2.1]; exact hdl) y)
        have H64 := H6Y
        clear hf hkk hvn0
        go_wp2_with fail
        go_region_held3 (fun W => W.cell? ⟨wm.heap.size, 4, none⟩ = some (.string ⟨x.name.toArray⟩) ∧ W.cell? ⟨gv, ov, none⟩ = some (.int .i64 u0))
         (first | exact C0.out)
         (first
          | (go_at_call 23; refine (HCA.out _).mono ?_; rintro e w4 ⟨rfl, hh⟩; replace hh := hh.symm; subst hh))
        all_goals go_wp2
        all_goals go_roundw
        case rel => exact ⟨q2 + 1, s2, gl2.set dn y, hl2.set dn true, by omega, by go_num, by simp [World.setCell]; omega, ⟨by simpa using HM2.out.1, by simpa using HM2.out.2.1, HM2.out.2.2.1, HM2.out.2.2.2.1, by rw [HVG.out]; exact setP_64 HM2.out.2.2.2.2.1 H64.out, by rw [HVG.out]; exact HGO2.out _ HR3.out HM2.out.2.2.1⟩, (by first | exact HP4.out | exact HP3.out _ (by (repeat (first | exact Below.refl _ _ | assumption | refine Below.drew ?_ | refine bT ?_ _ | refine bS ?_ _ | refine bA ?_ _))))⟩
        case measure => simp [intOf]; omega
      ·as_aux_lemma =>
        have HRES := hidX (show insP args ans ticks x s2 (valsG gl2 hl2) = (s2, setP (valsG gl2 hl2) (x.d.toNat, sumV x.kind x.name vs)) from by unfold insP; rw [HNA.out]; show (if x.kind = gTick then _ else _) = _; rw [if_neg (by rw [hf]; decide)]; rw [if_neg (by rw [hf]; decide)]; rw [if_neg (by rw [hf]; decide)]; unfold valP; rw [if_neg (by rw [hf]; decide)]; rw [if_neg (by rw [hf]; decide)])
        have t0 : (x.kind == [112, 97, 114, 97, 109]) = false := by rw [hf]; rfl
        have t1 : (x.kind == [99, 111, 110, 115, 116]) = false := by rw [hf]; rfl
        have t2 : (x.kind == [111, 110, 101]) = false := by rw [hf]; rfl
        have t3 : (x.kind == [116, 119, 111]) = true := by rw [hf]; rfl
        have t4 : (x.kind == [116, 105, 99, 107]) = false := by rw [hf]; rfl
        have t5 : (x.kind == [112, 114, 105, 110, 116]) = false := by rw [hf]; rfl
        have t6 : (x.kind == [99, 97, 108, 108]) = false := by rw [hf]; rfl
        have hdr := HDX.out.d (by rw [hf]; decide) (by rw [hf]; decide)
        obtain ⟨dn, hdn⟩ : ∃ dn : Nat, x.d = (dn : Int) := ⟨x.d.toNat, by omega⟩
        have hdl : dn < vn := by omega
        have hdl' : (dn : Int) < (vn : Int) := by omega
        rw [hdn] at y1
        have HDN := hidX (show x.d.toNat = dn by omega)
        have g1 : w3.cell? ⟨w.heap.size + 1 + 1, dn, none⟩ = some (.int .i64 (gl2[dn]'(by rw [HM2.out.1]; exact hdl))) := by rw [cell_of_blk HJ3.out.got dn]; simp [intsG, show dn < gl2.length by rw [HM2.out.1]; exact hdl]
        have g2 := free_of_blk HJ3.out.got dn
        have g3 : w3.cell? ⟨w.heap.size + 1 + 1 + 1, dn, none⟩ = some (.bool (hl2[dn]'(by rw [HM2.out.2.1]; exact hdl))) := by rw [cell_of_blk HJ3.out.has dn]; simp [boolsG, show dn < hl2.length by rw [HM2.out.2.1]; exact hdl]
        have g4 := free_of_blk HJ3.out.has dn
        generalize gl2[dn]'(by rw [HM2.out.1]; exact hdl) = go1 at g1
        generalize hl2[dn]'(by rw [HM2.out.2.1]; exact hdl) = go2 at g3
        clear hdr hdn
        have hkk := HDX.out.two hf
        have hvn0 : vs.length = 2 := HVL.out.trans hkk.1
        obtain ⟨u0, u1, hu⟩ : ∃ u0 u1, vs = [u0, u1] := by
         match vs, hvn0 with
         | [u0, u1], _ => exact ⟨u0, u1, rfl⟩
        subst hu
        have HSV := hidX (show sumV x.kind x.name [u0, u1] = twoV x.name u0 u1 from by unfold sumV; rw [if_neg (by rw [hf]; decide)]; rfl)
        have H6U := HV64.out u0 (by simp)
        have HCA := hidX fun W => rtwo_val x.name hkk.2 u0 u1 H6U W
        have H6Y := hidX (show In64 (twoV x.name u0 u1) from vOp_fit x.name u0 u1 H6U)
        generalize twoV x.name u0 u1 = y at HSV HCA H6Y
        obtain ⟨gv, ov, e3, _, kv⟩ := (xrow_own HOV.out).int (k := 0) (by simp)
        obtain ⟨gv', ov', e4, _, kv1⟩ := (xrow_own HOV.out).int (k := 1) (by simp)
        subst e3
        injection e4 with e4
        injection e4 with e5 e6
        subst e5 e6
        rw [Nat.add_zero] at kv
        have kv0 : w3.cell? ⟨gv, ov, none⟩ = some (.int .i64 u0) := kv
        have kv2 : w3.cell? ⟨gv, ov + 1, none⟩ = some (.int .i64 u1) := kv1
        clear kv kv1 H6U
        have C0 := hidX (show w3.cell? ⟨wm.heap.size, 4, none⟩ = some (.string ⟨x.name.toArray⟩) ∧ w3.cell? ⟨gv, ov, none⟩ = some (.int .i64 u0) ∧ w3.cell? ⟨gv, ov + 1, none⟩ = some (.int .i64 u1) from ⟨y4, kv0, kv2⟩)
        have HR3 := hidX (show insP args ans ticks x s2 (valsG gl2 hl2) = (s2, setP (valsG gl2 hl2) (dn, y)) from by rw [HRES.out, HDN.out, HSV.out])
        have HP3 := hidX fun W (hW : Below w3.heap.size w3 W) => (HJ3.out.below (by omega) hW).put dn y
        have HP4 := hidX ((HJ3.out.put dn y).below (by simp [World.setCell]; omega) ((Below.refl _ _).drew))
        have HVG := hidX (valsG_set gl2 hl2 (by rw [HM2.out.1, HM2.out.2.1]) dn (by rw [HM2.out.2.1]; exact hdl) y)
        have H64 := H6Y
        clear hf hkk hvn0
        go_wp2_with fail
        go_region_held3 (fun W => W.cell? ⟨wm.heap.size, 4, none⟩ = some (.string ⟨x.name.toArray⟩) ∧ W.cell? ⟨gv, ov, none⟩ = some (.int .i64 u0) ∧ W.cell? ⟨gv, ov + 1, none⟩ = some (.int .i64 u1))
         (first | exact C0.out)
         (first
          | (go_at_call 24; refine (HCA.out _).mono ?_; rintro e w4 ⟨rfl, hh⟩; replace hh := hh.symm; subst hh))
        all_goals go_wp2
        all_goals go_roundw
        case rel => exact ⟨q2 + 1, s2, gl2.set dn y, hl2.set dn true, by omega, by go_num, by simp [World.setCell]; omega, ⟨by simpa using HM2.out.1, by simpa using HM2.out.2.1, HM2.out.2.2.1, HM2.out.2.2.2.1, by rw [HVG.out]; exact setP_64 HM2.out.2.2.2.2.1 H64.out, by rw [HVG.out]; exact HGO2.out _ HR3.out HM2.out.2.2.1⟩, (by first | exact HP4.out | exact HP3.out _ (by (repeat (first | exact Below.refl _ _ | assumption | refine Below.drew ?_ | refine bT ?_ _ | refine bS ?_ _ | refine bA ?_ _))))⟩
        case measure => simp [intOf]; omega
      ·as_aux_lemma =>
        have HRES := hidX (show insP args ans ticks x s2 (valsG gl2 hl2) = (tickR ticks s2, valsG gl2 hl2) from by unfold insP; rw [HNA.out]; show (if x.kind = gTick then _ else _) = _; rw [if_pos hf])
        have t0 : (x.kind == [112, 97, 114, 97, 109]) = false := by rw [hf]; rfl
        have t1 : (x.kind == [99, 111, 110, 115, 116]) = false := by rw [hf]; rfl
        have t2 : (x.kind == [111, 110, 101]) = false := by rw [hf]; rfl
        have t3 : (x.kind == [116, 119, 111]) = false := by rw [hf]; rfl
        have t4 : (x.kind == [116, 105, 99, 107]) = true := by rw [hf]; rfl
        have t5 : (x.kind == [112, 114, 105, 110, 116]) = false := by rw [hf]; rfl
        have t6 : (x.kind == [99, 97, 108, 108]) = false := by rw [hf]; rfl
        have hlo := HM2.out.2.2.2.1.lo
        have hhi : s2.tks ≤ 1000 := by have := HM2.out.2.2.2.1.hi; omega
        clear hf
        by_cases hov : ticks ≤ s2.tks
        ·have hend : goal = { s2 with how := hOver } := HST2.out ({ s2 with how := hOver }, valsG gl2 hl2) (by rw [HRES.out]; unfold tickR; rw [if_pos hov]) (by show hOver ≠ []; decide)
         subst hend
         obtain ⟨S, outv, callv, xs, hd, hs⟩ := HJ3.out.dn
         obtain ⟨oad, ocap, rfl⟩ := own_is hd.out
         obtain ⟨cad, ccap, rfl⟩ := own_is hd.call
         have HZ := hidX (HJ3.out.fieldE hd hs (s' := { s2 with how := hOver }) rfl rfl 0 (.string ⟨(hOver).toArray⟩) rfl)
         have HDZ := hidX (hd.set (s' := { s2 with how := hOver }) rfl rfl 0 (.string ⟨(hOver).toArray⟩) rfl)
         have HSS := hidX hs
         have i0 := cell_of_blk HJ3.out.res 0
         have fi0 := free_of_blk HJ3.out.res 0
         have j0 := cell_of_blk hd.blk 0
         have i1 := cell_of_blk HJ3.out.res 1
         have fi1 := free_of_blk HJ3.out.res 1
         have j1 := cell_of_blk hd.blk 1
         have i2 := cell_of_blk HJ3.out.res 2
         have fi2 := free_of_blk HJ3.out.res 2
         have j2 := cell_of_blk hd.blk 2
         have i3 := cell_of_blk HJ3.out.res 3
         have fi3 := free_of_blk HJ3.out.res 3
         have j3 := cell_of_blk hd.blk 3
         have i4 := cell_of_blk HJ3.out.res 4
         have fi4 := free_of_blk HJ3.out.res 4
         have j4 := cell_of_blk hd.blk 4
         have fj0 := free_of_blk hd.blk 0
         simp only [List.getElem?_toArray, List.getElem?_cons_zero, List.getElem?_cons_succ] at i0 i1 i2 i3 i4 j0 j1 j2 j3 j4
         clear hd hs
         go_wp2
         (try simp only [Exit.inBlock, Exit.then])
         have hrf := run_fin HZ.out HDZ.out HSS.out
         exact ret_row (w.heap.size + 1) 10 _ 42 rfl rfl hrf.2.1 Tryz.underlying42 (by kernel_rfl) ⟨hrf.1, _, rfl, hrf.2.2⟩
        ·obtain ⟨S, outv, callv, xs, hd, hs⟩ := HJ3.out.dn
         have j3 : w3.cell? ⟨w.heap.size + 1 + 1 + 1 + 1, 3, none⟩ = some (.int .i64 s2.tks) := cell_of_blk hd.blk 3
         have fj3 := free_of_blk hd.blk 3
         have HR3 := hidX (show insP args ans ticks x s2 (valsG gl2 hl2) = ({ s2 with tks := s2.tks + 1 }, valsG gl2 hl2) from by rw [HRES.out]; unfold tickR; rw [if_neg hov])
         have HZ := hidX (HJ3.out.field hd hs (by omega) (s' := { s2 with tks := s2.tks + 1 }) rfl rfl 3 (.int .i64 (s2.tks + 1)) rfl)
         have HBZ := hidX (show BdT ticks { s2 with tks := s2.tks + 1 } from by have := HBD3.out; rw [HR3.out] at this; exact this)
         clear hd hs
         go_wp2
         go_roundw
         case rel => exact ⟨q2 + 1, { s2 with tks := s2.tks + 1 }, gl2, hl2, by omega, by go_num, by simp [World.setCell]; omega, ⟨HM2.out.1, HM2.out.2.1, HM2.out.2.2.1, HBZ.out, HM2.out.2.2.2.2.1, HGO2.out _ HR3.out HM2.out.2.2.1⟩, HZ.out⟩
         case measure => simp [intOf]; omega
      ·as_aux_lemma =>
        have HRES := hidX (show insP args ans ticks x s2 (valsG gl2 hl2) = (printR (vs.getD 0 0) s2, valsG gl2 hl2) from by unfold insP; rw [HNA.out]; show (if x.kind = gTick then _ else _) = _; rw [if_neg (by rw [hf]; decide)]; rw [if_pos hf])
        have t0 : (x.kind == [112, 97, 114, 97, 109]) = false := by rw [hf]; rfl
        have t1 : (x.kind == [99, 111, 110, 115, 116]) = false := by rw [hf]; rfl
        have t2 : (x.kind == [111, 110, 101]) = false := by rw [hf]; rfl
        have t3 : (x.kind == [116, 119, 111]) = false := by rw [hf]; rfl
        have t4 : (x.kind == [116, 105, 99, 107]) = false := by rw [hf]; rfl
        have t5 : (x.kind == [112, 114, 105, 110, 116]) = true := by rw [hf]; rfl
        have t6 : (x.kind == [99, 97, 108, 108]) = false := by rw [hf]; rfl
        have hvn0 : vs.length = 1 := HVL.out.trans (HDX.out.prt hf)
        obtain ⟨u0, hu⟩ : ∃ u0, vs = [u0] := by
         match vs, hvn0 with
         | [u0], _ => exact ⟨u0, rfl⟩
        subst hu
        obtain ⟨gv, ov, e3, hgv, kv⟩ := (xrow_own HOV.out).int (k := 0) (by simp)
        subst e3
        rw [Nat.add_zero] at kv
        have kv0 : w3.cell? ⟨gv, ov, none⟩ = some (.int .i64 u0) := kv
        have hol := HM2.out.2.2.2.1.out
        clear kv hf hvn0
        by_cases hov : s2.out.length = 1000
        ·have hend : goal = { s2 with how := hOver } := HST2.out ({ s2 with how := hOver }, valsG gl2 hl2) (by rw [HRES.out]; unfold printR; rw [if_pos hov]) (by show hOver ≠ []; decide)
         subst hend
         have hov' : (1000 : Int) ≤ (s2.out.length : Int) := by omega
         clear hov
         obtain ⟨S, outv, callv, xs, hd, hs⟩ := HJ3.out.dn
         obtain ⟨oad, ocap, rfl⟩ := own_is hd.out
         obtain ⟨cad, ccap, rfl⟩ := own_is hd.call
         have HZ := hidX (HJ3.out.fieldE hd hs (s' := { s2 with how := hOver }) rfl rfl 0 (.string ⟨(hOver).toArray⟩) rfl)
         have HDZ := hidX (hd.set (s' := { s2 with how := hOver }) rfl rfl 0 (.string ⟨(hOver).toArray⟩) rfl)
         have HSS := hidX hs
         have i0 := cell_of_blk HJ3.out.res 0
         have fi0 := free_of_blk HJ3.out.res 0
         have j0 := cell_of_blk hd.blk 0
         have i1 := cell_of_blk HJ3.out.res 1
         have fi1 := free_of_blk HJ3.out.res 1
         have j1 := cell_of_blk hd.blk 1
         have i2 := cell_of_blk HJ3.out.res 2
         have fi2 := free_of_blk HJ3.out.res 2
         have j2 := cell_of_blk hd.blk 2
         have i3 := cell_of_blk HJ3.out.res 3
         have fi3 := free_of_blk HJ3.out.res 3
         have j3 := cell_of_blk hd.blk 3
         have i4 := cell_of_blk HJ3.out.res 4
         have fi4 := free_of_blk HJ3.out.res 4
         have j4 := cell_of_blk hd.blk 4
         have fj0 := free_of_blk hd.blk 0
         simp only [List.getElem?_toArray, List.getElem?_cons_zero, List.getElem?_cons_succ] at i0 i1 i2 i3 i4 j0 j1 j2 j3 j4
         clear hd hs
         go_wp2
         (try simp only [Exit.inBlock, Exit.then])
         have hrf := run_fin HZ.out HDZ.out HSS.out
         exact ret_row (w.heap.size + 1) 10 _ 42 rfl rfl hrf.2.1 Tryz.underlying42 (by kernel_rfl) ⟨hrf.1, _, rfl, hrf.2.2⟩
        ·obtain ⟨S, outv, callv, xs, hd0, hs⟩ := HJ2.out.dn
         have hd := hd0.keep HBW3.out.size (fun k hk => HBW3.out.block k (hk.elim (fun e => e ▸ hd0.rl) (fun e => (hd0.sl k e).1)))
         have HSL := hidX (show ∀ b, S b → b < wm.heap.size from fun b e => (hd0.sl b e).1)
         clear hd0
         obtain ⟨oad, ocap, rfl⟩ := own_is hd.out
         have c2 : w3.cell? ⟨w.heap.size + 1 + 1 + 1 + 1, 2, none⟩ = some (.slice oad s2.out.length ocap) := cell_of_blk hd.blk 2
         have hov' : (s2.out.length : Int) < 1000 := by omega
         obtain ⟨ii0, hii, iz0, iz1, iz2⟩ := info_parts int_info
         have HR3 := hidX (show insP args ans ticks x s2 (valsG gl2 hl2) = ({ s2 with out := s2.out ++ [u0] }, valsG gl2 hl2) from by rw [HRES.out]; unfold printR; rw [if_neg hov]; rfl)
         have HBZ := hidX (show BdT ticks { s2 with out := s2.out ++ [u0] } from by have := HBD3.out; rw [HR3.out] at this; exact this)
         have hdl : w.heap.size + 1 + 1 + 1 + 1 < w3.heap.size := hd.rl
         have HK := hidX (fun (Y : World) (hY : Below w3.heap.size w3 Y) => (show Y.cell? ⟨w.heap.size + 1 + 1 + 1 + 1, 2, none⟩ = some (.slice oad s2.out.length ocap) ∧ Y.cell? ⟨gv, ov, none⟩ = some (.int .i64 u0) from ⟨(hY.cell (p := ⟨w.heap.size + 1 + 1 + 1 + 1, 2, none⟩) hdl).trans c2, (hY.cell (p := ⟨gv, _, none⟩) hgv.2).trans kv0⟩))
         have HDY := hidX hd
         have HSB := hidX hs
         have HKV := hidX kv0
         have HGV := hidX hgv
         clear hov hd hs kv0 hgv
         go_wp2_with fail
         refine wp_region_until (fun Y => Y.cell? ⟨w.heap.size + 1 + 1 + 1 + 1, 2, none⟩ = some (.slice oad s2.out.length ocap) ∧ Y.cell? ⟨gv, ov, none⟩ = some (.int .i64 u0)) 8 (by kernel_rfl) (HK.out _ (by (repeat (first | exact Below.refl _ _ | assumption | refine Below.drew ?_ | refine bT ?_ _ | refine bS ?_ _ | refine bA ?_ _)))) (fun hHeld => ?_)
         refine wpAnyU_put 0 (some 93) (v := ?v0) rfl rfl (by kernel_rfl) (by kernel_rfl) (by kernel_rfl) (by kernel_rfl) (fun _ _ _ h => h) (Or.inl ⟨by rfl, ?hy0⟩) hHeld ?rest0
         case hy0 => (intro w2 hSw; (try dsimp only at hSw); first | (go_simp; done) | (go_simp; with_reducible rfl))
         simp only [Act.put, List.setIfInBounds_toArray, List.set_cons_zero, List.set_cons_succ]
         refine wpAnyU_put 1 (some 94) (v := ?v1) rfl rfl (by kernel_rfl) (by kernel_rfl) (by kernel_rfl) (by kernel_rfl) (fun _ _ _ h => h) (Or.inl ⟨by rfl, ?hy1⟩) hHeld ?rest1
         case hy1 => (intro w2 hSw; (try dsimp only at hSw); first | (go_simp; done) | (go_simp; with_reducible rfl))
         simp only [Act.put, List.setIfInBounds_toArray, List.set_cons_zero, List.set_cons_succ]
         refine wpAnyU_put 2 (some 95) (v := ?v2) rfl rfl (by kernel_rfl) (by kernel_rfl) (by kernel_rfl) (by kernel_rfl) (fun _ _ _ h => h) (Or.inl ⟨by rfl, ?hy2⟩) hHeld ?rest2
         case hy2 => (intro w2 hSw; (try dsimp only at hSw); first | (go_simp; done) | (go_simp; with_reducible rfl))
         simp only [Act.put, List.setIfInBounds_toArray, List.set_cons_zero, List.set_cons_succ]
         refine wpAnyU_put 3 (some 96) (v := ?v3) rfl rfl (by kernel_rfl) (by kernel_rfl) (by kernel_rfl) (by kernel_rfl) (fun _ _ _ h => h) (Or.inl ⟨by rfl, ?hy3⟩) hHeld ?rest3
         case hy3 => (intro w2 hSw; (try dsimp only at hSw); first | (go_simp; done) | (go_simp; with_reducible rfl))
         simp only [Act.put, List.setIfInBounds_toArray, List.set_cons_zero, List.set_cons_succ]
         refine wpAnyU_put 4 (some 97) (v := ?v4) rfl rfl (by kernel_rfl) (by kernel_rfl) (by kernel_rfl) (by kernel_rfl) (fun _ _ _ h => h) (Or.inl ⟨by rfl, ?hy4⟩) hHeld ?rest4
         case hy4 => (intro w2 hSw; (try dsimp only at hSw); first | (go_simp; done) | (go_simp; with_reducible rfl))
         simp only [Act.put, List.setIfInBounds_toArray, List.set_cons_zero, List.set_cons_succ]
         have hbb : Below w3.heap.size w3 (w3.drew.alloc (.cells #[.int .i64 u0] 3)) := by (repeat (first | exact Below.refl _ _ | assumption | refine Below.drew ?_ | refine bT ?_ _ | refine bS ?_ _ | refine bA ?_ _))
         have s9' := HK.out _ hbb
         refine wpAnyU_one (i := 5) (by kernel_rfl) rfl (fun K5 hK5 => ?_)
         go_simp
         refine hK5.out _ _ (fun _ => s9') (fun _ => ?_)
         clear hK5 hHeld K5
         refine wpAnyU_one (i := 6) (by kernel_rfl) rfl (fun K6 hK6 => ?_)
         refine step_append_lies _ rfl (.tmp 94) (.tmp 98) 25 rfl 0 3 ii0 _ 1 8 Tryz.underlying25 hii iz0 iz1 iz2 rfl (by decide) (.slice oad s2.out.length ocap) s2.out.length (intsG s2.out) rfl (owns_below HDY.out.out hbb) ⟨w3.heap.size, 0, none⟩ 1 1 [.int .i64 u0] rfl rfl (World.news_of_block (heap_alloc_new w3.drew _)) (int_one u0) (by decide) (by unfold maxLen; omega) (by omega) (Nat.zero_le _) _ rfl ?_
         intro g4 cap4 W4 ho4 hg4 hl4 _
         have hpr := HDY.out.print (x := u0) hbb hg4 ho4 (by
          rcases hl4 with e | e
          ·exact Or.inl e.symm
          ·right; exact ⟨g4, by simp only [Value.ownBlock], by rw [e]; simp⟩)
         have hdb4 := (hpr.1 (w.heap.size + 1 + 1 + 1 + 1) hdl (fun e => by have := (HSB.out _ e).1; omega)).trans HDY.out.blk
         have hg74 := hpr.1 gv HGV.out.2 (fun e => by have := HGV.out.1; have := HZY.out; have := HSL.out _ e; omega)
         have HH4 := hidX (show W4.cell? ⟨w.heap.size + 1 + 1 + 1 + 1, 2, none⟩ = some (.slice oad s2.out.length ocap) ∧ W4.cell? ⟨gv, ov, none⟩ = some (.int .i64 u0) from ⟨cell_of_blk hdb4 2, (World.cell?_of_block (a := ⟨gv, ov, none⟩) hg74).trans HKV.out⟩)
         have s4 : W4.cell? ⟨w.heap.size + 1 + 1 + 1 + 1, 2, none⟩ = some (.slice oad s2.out.length ocap) := cell_of_blk hdb4 2
         have fr4 := free_of_blk hdb4 2
         obtain ⟨S', hS', o', c', x', hD'⟩ := hpr.2
         have hz44 : w3.heap.size ≤ W4.heap.size := Nat.le_trans hbb.size hg4.size
         have HJ9 := hidX (HJ3.out.again (Y := W4.setCell ⟨w.heap.size + 1 + 1 + 1 + 1, 2, none⟩ (.slice (some ⟨g4, 0, none⟩) (s2.out.length + 1) cap4)) HDY.out HSB.out (by omega) (hg4.os.trans hbb.os) (hg4.tape.trans hbb.tape) (hg4.output.trans hbb.output) (by simp [World.setCell]; omega) (fun b h1 h2 h3 => (Below.heap_setCell _ _ _ _ h2).trans (hpr.1 b h1 h3)) hD' (fun b e => (hS' b e).imp id (fun e => ⟨by omega, by omega⟩)))
         have hz4 : wo.heap.size < W4.heap.size := by omega
         change K6 (Act.put _ (some 99) _) W4
         refine hK6.out _ _ (fun _ => HH4.out) (fun _ => ?_)
         clear hK6 K6 hpr hdb4 hg74 hD' hS'
         simp only [Act.put, List.setIfInBounds_toArray, List.set_cons_zero, List.set_cons_succ]
         refine wpAnyU_one (i := 7) (by kernel_rfl) rfl (fun K7 hK7 => ?_)
         go_simp
         refine hK7.out _ _ (fun _ => HH4.out) (fun _ => ?_)
         clear hK7 K7 ho4 hg4 hl4 hbb s9'
         refine wpAnyU_one (i := 8) (by kernel_rfl) rfl (fun K8 hK8 => ?_)
         go_simp
         refine hK8.out _ _ (fun h => absurd rfl h) (fun _ => ?_)
         clear hK8 K8
         refine wpAnyU_done (by kernel_rfl) ?_ _
         go_wp2
         go_roundw
         case rel => exact ⟨q2 + 1, { s2 with out := s2.out ++ [u0] }, gl2, hl2, by omega, by go_num, by simp [World.setCell]; omega, ⟨HM2.out.1, HM2.out.2.1, HM2.out.2.2.1, HBZ.out, HM2.out.2.2.2.2.1, HGO2.out _ HR3.out HM2.out.2.2.1⟩, HJ9.out⟩
         case measure => simp [intOf]; omega
      ·as_aux_lemma =>
        have HRES := hidX (show insP args ans ticks x s2 (valsG gl2 hl2) = (callR ans x.name vs s2, if ans.length ≤ s2.calls.length then valsG gl2 hl2 else setP (valsG gl2 hl2) (x.d.toNat, ans.getD s2.calls.length 0)) from by unfold insP; rw [HNA.out]; show (if x.kind = gTick then _ else _) = _; rw [if_neg (by rw [hf]; decide)]; rw [if_neg (by rw [hf]; decide)]; rw [if_pos hf])
        have t0 : (x.kind == [112, 97, 114, 97, 109]) = false := by rw [hf]; rfl
        have t1 : (x.kind == [99, 111, 110, 115, 116]) = false := by rw [hf]; rfl
        have t2 : (x.kind == [111, 110, 101]) = false := by rw [hf]; rfl
        have t3 : (x.kind == [116, 119, 111]) = false := by rw [hf]; rfl
        have t4 : (x.kind == [116, 105, 99, 107]) = false := by rw [hf]; rfl
        have t5 : (x.kind == [112, 114, 105, 110, 116]) = false := by rw [hf]; rfl
        have t6 : (x.kind == [99, 97, 108, 108]) = true := by rw [hf]; rfl
        have hdr := HDX.out.d (by rw [hf]; decide) (by rw [hf]; decide)
        obtain ⟨dn, hdn⟩ : ∃ dn : Nat, x.d = (dn : Int) := ⟨x.d.toNat, by omega⟩
        have hdl : dn < vn := by omega
        have hdl' : (dn : Int) < (vn : Int) := by omega
        rw [hdn] at y1
        have HDN := hidX (show x.d.toNat = dn by omega)
        have g1 : w3.cell? ⟨w.heap.size + 1 + 1, dn, none⟩ = some (.int .i64 (gl2[dn]'(by rw [HM2.out.1]; exact hdl))) := by rw [cell_of_blk HJ3.out.got dn]; simp [intsG, show dn < gl2.length by rw [HM2.out.1]; exact hdl]
        have g2 := free_of_blk HJ3.out.got dn
        have g3 : w3.cell? ⟨w.heap.size + 1 + 1 + 1, dn, none⟩ = some (.bool (hl2[dn]'(by rw [HM2.out.2.1]; exact hdl))) := by rw [cell_of_blk HJ3.out.has dn]; simp [boolsG, show dn < hl2.length by rw [HM2.out.2.1]; exact hdl]
        have g4 := free_of_blk HJ3.out.has dn
        generalize gl2[dn]'(by rw [HM2.out.1]; exact hdl) = go1 at g1
        generalize hl2[dn]'(by rw [HM2.out.2.1]; exact hdl) = go2 at g3
        clear hdr hdn
        have hcl := HDX.out.argl
        have hvl1 : vs.length ≤ 1000 := by have := HVL.out; omega
        clear hf
        by_cases hov : ans.length ≤ s2.calls.length
        ·have hend : goal = { s2 with how := hOver } := HST2.out ({ s2 with how := hOver }, valsG gl2 hl2) (by rw [HRES.out]; unfold callR; rw [if_pos hov, if_pos hov]) (by show hOver ≠ []; decide)
         subst hend
         have hov' : (ans.length : Int) ≤ (s2.calls.length : Int) := by omega
         clear hov g1 g2 g3 g4
         obtain ⟨S, outv, callv, xs, hd, hs⟩ := HJ3.out.dn
         obtain ⟨oad, ocap, rfl⟩ := own_is hd.out
         obtain ⟨cad, ccap, rfl⟩ := own_is hd.call
         have HZ := hidX (HJ3.out.fieldE hd hs (s' := { s2 with how := hOver }) rfl rfl 0 (.string ⟨(hOver).toArray⟩) rfl)
         have HDZ := hidX (hd.set (s' := { s2 with how := hOver }) rfl rfl 0 (.string ⟨(hOver).toArray⟩) rfl)
         have HSS := hidX hs
         have i0 := cell_of_blk HJ3.out.res 0
         have fi0 := free_of_blk HJ3.out.res 0
         have j0 := cell_of_blk hd.blk 0
         have i1 := cell_of_blk HJ3.out.res 1
         have fi1 := free_of_blk HJ3.out.res 1
         have j1 := cell_of_blk hd.blk 1
         have i2 := cell_of_blk HJ3.out.res 2
         have fi2 := free_of_blk HJ3.out.res 2
         have j2 := cell_of_blk hd.blk 2
         have i3 := cell_of_blk HJ3.out.res 3
         have fi3 := free_of_blk HJ3.out.res 3
         have j3 := cell_of_blk hd.blk 3
         have i4 := cell_of_blk HJ3.out.res 4
         have fi4 := free_of_blk HJ3.out.res 4
         have j4 := cell_of_blk hd.blk 4
         have fj0 := free_of_blk hd.blk 0
         simp only [List.getElem?_toArray, List.getElem?_cons_zero, List.getElem?_cons_succ] at i0 i1 i2 i3 i4 j0 j1 j2 j3 j4
         clear hd hs
         go_wp2
         (try simp only [Exit.inBlock, Exit.then])
         have hrf := run_fin HZ.out HDZ.out HSS.out
         exact ret_row (w.heap.size + 1) 10 _ 42 rfl rfl hrf.2.1 Tryz.underlying42 (by kernel_rfl) ⟨hrf.1, _, rfl, hrf.2.2⟩
        ·obtain ⟨S, outv, callv, xs, hd0, hs⟩ := HJ2.out.dn
         have hd := hd0.keep HBW3.out.size (fun k hk => HBW3.out.block k (hk.elim (fun e => e ▸ hd0.rl) (fun e => (hd0.sl k e).1)))
         have HSL := hidX (show ∀ b, S b → b < wm.heap.size from fun b e => (hd0.sl b e).1)
         clear hd0
         obtain ⟨cad, ccap, rfl⟩ := own_is hd.call
         have c4 : w3.cell? ⟨w.heap.size + 1 + 1 + 1 + 1, 4, none⟩ = some (.slice cad s2.calls.length ccap) := cell_of_blk hd.blk 4
         have hov' : (s2.calls.length : Int) < (ans.length : Int) := by omega
         have hal2' : (ans.length : Int) ≤ 100000 := by omega
         obtain ⟨gn, offn, en, hgn, kn⟩ := HAN.out.int (k := s2.calls.length) (by omega)
         subst en
         replace kn := (HJ3.out.low.cell (p := ⟨gn, _, none⟩) hgn).trans kn
         have HYN := hidX (show ans.getD s2.calls.length 0 = ans[s2.calls.length]'(by omega) by simp [show s2.calls.length < ans.length by omega])
         have H64 := hidX (HA64.out _ (List.getElem_mem (show s2.calls.length < ans.length by omega)))
         generalize ans[s2.calls.length]'(by omega) = y at kn HYN H64
         have HR3 := hidX (show insP args ans ticks x s2 (valsG gl2 hl2) = ({ s2 with calls := s2.calls ++ [(x.name, vs)] }, setP (valsG gl2 hl2) (dn, y)) from by rw [HRES.out, HDN.out]; unfold callR; rw [if_neg hov, if_neg hov, HYN.out])
         have HBZ := hidX (show BdT ticks { s2 with calls := s2.calls ++ [(x.name, vs)] } from by have := HBD3.out; rw [HR3.out] at this; exact this)
         have HVG := hidX (valsG_set gl2 hl2 (by rw [HM2.out.1, HM2.out.2.1]) dn (by rw [HM2.out.2.1]; exact hdl) y)
         obtain ⟨ic0, hic, ic1, ic2, ic3⟩ := info_parts told_info
         have hdbl : w.heap.size + 1 + 1 + 1 + 1 < w3.heap.size := hd.rl
         have HDY := hidX hd
         have HSB := hidX hs
         have HQ := hidX (And.intro g1 (And.intro g2 (And.intro g3 (And.intro g4 y1))))
         clear hov hd hs g1 g2 g3 g4 y1
         have HNB := hidX (show wm.heap.size < w3.heap.size ∧ ¬ S wm.heap.size ∧ w.heap.size + 1 + 1 < w3.heap.size ∧ ¬ S (w.heap.size + 1 + 1) ∧ w.heap.size + 1 + 1 + 1 < w3.heap.size ∧ ¬ S (w.heap.size + 1 + 1 + 1) from ⟨by omega, fun e => by have := HSL.out _ e; omega, by omega, fun e => by have := (HSB.out _ e).1; omega, by omega, fun e => by have := (HSB.out _ e).1; omega⟩)
         go_wp2_with (at_builtin; refine wpList_append_lies _ rfl _ _ 40 rfl 0 82 ic0 _ 2 40 Tryz.underlying40 hic ic1 ic2 ic3 rfl (by decide) (.slice cad s2.calls.length ccap) s2.calls.length xs rfl (owns_below HDY.out.call (box_blk _ _ _)) ⟨w3.heap.size, 0, none⟩ 1 1 [.string ⟨x.name.toArray⟩, .slice vad vs.length vcap] rfl rfl (World.news_of_block (heap_alloc_new w3 _)) (cl_one x.name ⟨_, _, _, rfl⟩) (by decide) (by unfold maxLen; omega) (by omega) (Nat.zero_le _) _ rfl ?_; intro g5 cap5 W4 ho4 hg4 hl4 _; have HO4 := hidX ho4; have HG4 := hidX hg4; have HL4 := hidX hl4; have kk4 : ∀ b, b < w3.heap.size → ¬ S b → W4.heap[b]? = w3.heap[b]? := (fun b h1 h2 => (hg4.block b (by simp; omega) (fun e => h2 (HDY.out.callS b e.symm))).trans (Below.heap_alloc _ _ _ h1)); have KK4 := hidX kk4; have hdb4 : W4.heap[w.heap.size + 1 + 1 + 1 + 1]? = _ := (kk4 _ hdbl (fun e => by have := (HSB.out _ e).1; omega)).trans HDY.out.blk; have s4 : W4.cell? ⟨w.heap.size + 1 + 1 + 1 + 1, 4, none⟩ = some (.slice cad s2.calls.length ccap) := cell_of_blk hdb4 4; have fr4 := free_of_blk hdb4 4; have yb := keep_cell kk4 HNB.out.1 HNB.out.2.1 HQ.out.2.2.2.2; have q1 := keep_cell kk4 HNB.out.2.2.1 HNB.out.2.2.2.1 HQ.out.1; have q9 := keep_free kk4 HNB.out.2.2.1 HNB.out.2.2.2.1 HQ.out.2.1; have q3 := keep_cell kk4 HNB.out.2.2.2.2.1 HNB.out.2.2.2.2.2 HQ.out.2.2.1; have q4 := keep_free kk4 HNB.out.2.2.2.2.1 HNB.out.2.2.2.2.2 HQ.out.2.2.2.1; clear hdb4 ho4 hg4 hl4 kk4)
         have hbb : Below w3.heap.size w3 (w3.alloc (.cells #[.string ⟨x.name.toArray⟩, .slice vad vs.length vcap] 82)) := box_blk _ _ _
         have hav : XRow (fun b => Y2.heap.size ≤ b ∧ b < w3.heap.size) (w3.alloc (.cells #[.string ⟨x.name.toArray⟩, .slice vad vs.length vcap] 82)) (.slice vad vs.length vcap) vs.length (intsG vs) := (xrow_own HOV.out).imp (fun _ h => h) (fun b hb => Below.heap_alloc _ _ _ hb.2)
         have hzY := HZY.out
         have hszw := HJ2.out.size
         have hpr := HDY.out.called (nm := x.name) (vs := vs) (n0 := Y2.heap.size) (V := fun b => Y2.heap.size ≤ b ∧ b < w3.heap.size) hbb HG4.out HO4.out (by omega) (fun b hb => ⟨by have := hb.2; simp; omega, by have := hb.1; omega, fun e => by have := HSL.out _ e; have := hb.1; omega, hb.1⟩) hav (by
          rcases HL4.out with e | e
          ·exact Or.inl e.symm
          ·right; exact ⟨g5, by simp only [Value.ownBlock], by rw [e]; simp⟩)
         obtain ⟨S', hS', o', c', x', hD'⟩ := hpr.2
         have hz4 : w3.heap.size ≤ W4.heap.size := Nat.le_trans hbb.size HG4.out.size
         have HJ9 := hidX ((HJ3.out.again (Y := W4.setCell ⟨w.heap.size + 1 + 1 + 1 + 1, 4, none⟩ (.slice (some ⟨g5, 0, none⟩) (s2.calls.length + 1) cap5)) HDY.out HSB.out (by omega) (HG4.out.os.trans hbb.os) (HG4.out.tape.trans hbb.tape) (HG4.out.output.trans hbb.output) (by simp [World.setCell]; omega) (fun b h1 h2 h3 => (Below.heap_setCell _ _ _ _ h2).trans (hpr.1 b h1 h3)) hD' (fun b e => (hS' b e).imp id (fun e => ⟨by omega, by omega⟩))).put dn y)
         clear hpr hD' hS' hav hbb
         go_wp2
         go_roundw
         case rel => exact ⟨q2 + 1, { s2 with calls := s2.calls ++ [(x.name, vs)] }, gl2.set dn y, hl2.set dn true, by omega, by go_num, by simp [World.setCell]; omega, ⟨by simpa using HM2.out.1, by simpa using HM2.out.2.1, HM2.out.2.2.1, HBZ.out, by rw [HVG.out]; exact setP_64 HM2.out.2.2.2.2.1 H64.out, by rw [HVG.out]; exact HGO2.out _ HR3.out HM2.out.2.2.1⟩, HJ9.out⟩
         case measure => simp [intOf]; omega
    ·have hqn : q2 = b.ins.length := by omega
     subst hqn
     have hnl : ¬ ((b.ins.length : Int) < (b.ins.length : Int)) := by omega
     have hfin := HM2.out.2.2.2.2.2
     rw [List.drop_length] at hfin
     have HGL := hidX (show goal = if (leaveP L b s2 (valsG gl2 hl2)).1.how ≠ [] then (leaveP L b s2 (valsG gl2 hl2)).1 else walkPL L args ans ticks (most - (q + 1)) (leaveP L b s2 (valsG gl2 hl2)).2.2 (leaveP L b s2 (valsG gl2 hl2)).1 (leaveP L b s2 (valsG gl2 hl2)).2.1 from HGOON.out _ hfin HM2.out.2.2.1)
     have c2 : wm.cell? ⟨wo.heap.size, 2, none⟩ = some (.string ⟨b.fin.toArray⟩) := cell_of_blk HJ2.out.bx 2
     have c3 : wm.cell? ⟨wo.heap.size, 3, none⟩ = some (.int .i64 b.v) := cell_of_blk HJ2.out.bx 3
     have c4 : wm.cell? ⟨wo.heap.size, 4, none⟩ = some (.slice ta b.tos.length tc) := cell_of_blk HJ2.out.bx 4
     have c5 : wm.cell? ⟨wo.heap.size, 5, none⟩ = some (.slice wa b.wi.length wc) := cell_of_blk HJ2.out.bx 5
     clear hfin HSTOP HGOON
     by_cases hjp : b.fin = gJump
     ·have t1 : (b.fin == [106, 117, 109, 112]) = true := by rw [hjp]; rfl
      have t1' : (b.fin != [106, 117, 109, 112]) = false := by rw [hjp]; rfl
      have HLP := hidX (show leaveP L b s2 (valsG gl2 hl2) = enterP L (b.tos.getD 0 0) (b.wi.getD 0 []) s2 (valsG gl2 hl2) from by unfold leaveP; rw [if_pos hjp])
      have hw0 : b.tos.length = 1 := by have := HLB.out.ways; rw [if_pos hjp] at this; exact this
      have hway : 0 < b.tos.length := by omega
      clear hjp hw0
      as_aux_lemma =>
       have hi2 : 0 < b.wi.length := by rw [HLB.out.wil]; exact hway
       have hway' : (0 : Int) < (b.tos.length : Int) := by omega
       have hi2' : (0 : Int) < (b.wi.length : Int) := by omega
       obtain ⟨gw, ow, wad, wcap, e2, hgw, hrw, kw⟩ := R4.out.row hi2
       obtain ⟨gt, ot, e3, hgt, kt⟩ := R3.out.int hway
       subst e2 e3
       have htr := HLB.out.tos _ (List.getElem_mem hway)
       obtain ⟨t, htn⟩ : ∃ t : Nat, b.tos[0] = (t : Int) := ⟨b.tos[0].toNat, by omega⟩
       have htd : b.tos.getD 0 0 = (t : Int) := by simp [List.getD, hway, htn]
       have hwd : b.wi.getD 0 [] = b.wi[0] := by simp [List.getD, hi2]
       have htl : t < L.length := by omega
       have htl' : (t : Int) < (L.length : Int) := by omega
       have hbt : blkAt L (t : Int) = L[t] := by unfold blkAt; simp [htl]
       have hfit := HLB.out.fit 0 hway
       rw [htd, hwd, hbt] at hfit
       have hwir := HLB.out.wi _ (List.getElem_mem hi2)
       have hpar := HLB.out.par _ (List.getElem_mem htl)
       have hlp := HLP.out
       unfold enterP at hlp
       rw [htd, hwd, hbt] at hlp
       rw [htn] at kt
       obtain ⟨g', off', pa', pc', ia', ic', ta', tc', wa', wc', e4, hg', p1, _, _, _, k0, _⟩ := HCO.out.blk htl
       injection e4 with e4
       injection e4 with e5 e6
       subst e5 e6
       have hpl : (L[t].params.length : Int) ≤ 1000 := by have := (HLW.out _ (List.getElem_mem htl)).params; omega
       generalize b.wi[0] = wi at *
       generalize L[t] = T at *
       have hlow := HJ2.out.low
       replace kw := (hlow.cell (p := ⟨gw, _, none⟩) hgw).trans kw
       rw [Nat.add_zero] at kw kt
       have hgl2 : gl2.length = vn := HM2.out.1
       have hhl2 : hl2.length = vn := HM2.out.2.1
       have hpk := pick_any (w := wm) (A := InH w) wi hwir.1 wad (some ⟨w.heap.size + 1 + 1, 0, none⟩) (some ⟨w.heap.size + 1 + 1 + 1, 0, none⟩) wcap vn vn (w.heap.size + 1 + 1) (w.heap.size + 1 + 1 + 1) gl2 hl2 (by rw [hgl2, hhl2]) (by omega) (fun b hb => Nat.lt_of_lt_of_le hb hlow.size) (hrw.imp (fun _ h => h) (fun k hk => hlow.block k hk)) rfl rfl HJ2.out.got HJ2.out.has (fun y hy => by have := hwir.2 y hy; rw [hhl2]; exact this)
       rw [hgl2, hhl2] at hpk
       have HPK := hidX hpk
       have HLQ := hidX hlp
       have HKT := hidX kt
       have HK0 := hidX k0
       have HPR := hidX hpar
       have HP1 := hidX p1
       have HFIT := hidX hfit
       have hszw := HJ2.out.size
       clear hpk hlp hgl2 hhl2 hlow hrw htr htn htd hwd hbt hfit hwir hpar kt k0 p1
       go_wp2_with fail
       refine HPK.out.mono ?_
       rintro e w3 ⟨hb3, ⟨hn, rfl⟩ | ⟨vs, v, hn, rfl, hov⟩⟩
       ·have hend : goal = { s2 with how := hStuck } := by
         have hl : leaveP L b s2 (valsG gl2 hl2) = ({ s2 with how := hStuck }, valsG gl2 hl2, 0) := by rw [HLQ.out, hn]
         rw [HGL.out, hl, if_pos (by show hStuck ≠ []; decide)]
        subst hend
        have HJ3 := hidX (HJ2.out.below hkm hb3)
        clear hb3 hn
        obtain ⟨S, outv, callv, xs, hd, hs⟩ := HJ3.out.dn
        obtain ⟨oad, ocap, rfl⟩ := own_is hd.out
        obtain ⟨cad, ccap, rfl⟩ := own_is hd.call
        have HZ := hidX (HJ3.out.fieldE hd hs (s' := { s2 with how := hStuck }) rfl rfl 0 (.string ⟨(hStuck).toArray⟩) rfl)
        have HDZ := hidX (hd.set (s' := { s2 with how := hStuck }) rfl rfl 0 (.string ⟨(hStuck).toArray⟩) rfl)
        have HSS := hidX hs
        have i0 := cell_of_blk HJ3.out.res 0
        have fi0 := free_of_blk HJ3.out.res 0
        have j0 := cell_of_blk hd.blk 0
        have i1 := cell_of_blk HJ3.out.res 1
        have fi1 := free_of_blk HJ3.out.res 1
        have j1 := cell_of_blk hd.blk 1
        have i2 := cell_of_blk HJ3.out.res 2
        have fi2 := free_of_blk HJ3.out.res 2
        have j2 := cell_of_blk hd.blk 2
        have i3 := cell_of_blk HJ3.out.res 3
        have fi3 := free_of_blk HJ3.out.res 3
        have j3 := cell_of_blk hd.blk 3
        have i4 := cell_of_blk HJ3.out.res 4
        have fi4 := free_of_blk HJ3.out.res 4
        have j4 := cell_of_blk hd.blk 4
        have fj0 := free_of_blk hd.blk 0
        simp only [List.getElem?_toArray, List.getElem?_cons_zero, List.getElem?_cons_succ] at i0 i1 i2 i3 i4 j0 j1 j2 j3 j4
        clear hd hs
        go_wp2
        (try simp only [Exit.inBlock, Exit.then])
        have hrf := run_fin HZ.out HDZ.out HSS.out
        exact ret_row (w.heap.size + 1) 10 _ 42 rfl rfl hrf.2.1 Tryz.underlying42 (by kernel_rfl) ⟨hrf.1, _, rfl, hrf.2.2⟩
       ·have HJ3 := hidX (HJ2.out.below hkm hb3)
        have hlw := HJ3.out.low
        have HGN := hidX (show goal = walkPL L args ans ticks (most - (q + 1)) t s2 (setPs (valsG gl2 hl2) ((natL T.params).zip vs)) from by
         have hl : leaveP L b s2 (valsG gl2 hl2) = (s2, setPs (valsG gl2 hl2) ((natL T.params).zip vs), t) := by rw [HLQ.out, hn]; rfl
         rw [HGL.out, hl, if_neg (by rw [HM2.out.2.2.1]; simp)])
        have hvs : vs.length = T.params.length := by
         have := askX_len' hn
         simp only [natL, List.length_map] at this
         rw [this, HFIT.out]
        have HV64 := hidX (ask_64 HM2.out.2.2.2.2.1 hn)
        obtain ⟨vad, vcap, rfl⟩ := own_is hov
        have HXV := hidX (show XRow (fun b => wm.heap.size ≤ b) w3 (.slice vad vs.length vcap) vs.length (intsG vs) from (xrow_own hov).imp (fun _ h => h.1) (fun _ _ => rfl))
        have a4 : w3.cell? ⟨wo.heap.size, 4, none⟩ = some (.slice (some ⟨gt, ot, none⟩) b.tos.length tc) := cell_of_blk HJ3.out.bx 4
        have at1 : w3.cell? ⟨gt, ot, none⟩ = some (.int .i64 (t : Int)) := (hlw.cell (p := ⟨gt, _, none⟩) hgt).trans HKT.out
        have d3 : w3.cell? ⟨w.heap.size, 3, none⟩ = some (.slice (some ⟨g, off, none⟩) L.length bc) := cell_of_blk HJ3.out.code 3
        have k0' : w3.cell? ⟨g, off + t * 6, none⟩ = some (.slice pa' T.params.length pc') := (hlw.cell (p := ⟨g, _, none⟩) hg').trans HK0.out
        have hk3 : wo.heap.size < w3.heap.size := Nat.lt_of_lt_of_le hkm hb3.size
        have HVS := hidX hvs
        clear hb3 hn hlw hvs hov HPK
        go_wp2_with fail
        clear a4 at1 d3 k0'
        go_loopw [27] (fun vi wp => ∃ (q3 : Nat) (gl3 : List Int) (hl3 : List Bool), q3 ≤ T.params.length ∧ vi = .int .i64 (q3 : Int) ∧ wo.heap.size < wp.heap.size ∧ Hid (gl3.length = vn ∧ hl3.length = vn ∧ Got64 (valsG gl3 hl3) ∧ valsG gl3 hl3 = setPs (valsG gl2 hl2) (((natL T.params).zip vs).take q3)) ∧ Hid (RnJ w #[.string ⟨nm.toArray⟩, .int .i64 P, .int .i64 (vn : Int), .slice (some ⟨g, off, none⟩) L.length bc] wo.heap.size (some (Obj.cells #[.slice pa b.params.length pc, .slice ia b.ins.length ic, .string ⟨b.fin.toArray⟩, .int .i64 b.v, .slice (some ⟨gt, ot, none⟩) b.tos.length tc, .slice (some ⟨gw, ow, none⟩) b.wi.length wc] 60 (0, 0))) wp s2 gl3 hl3) ∧ Hid (XRow (fun b => wm.heap.size ≤ b) wp (.slice vad vs.length vcap) vs.length (intsG vs))) (fun vi _ => T.params.length - (intOf vi).toNat)
        case atStart => exact ⟨0, gl2, hl2, by omega, rfl, hk3, ⟨HM2.out.1, HM2.out.2.1, HM2.out.2.2.2.2.1, show valsG gl2 hl2 = setPs (valsG gl2 hl2) (((natL T.params).zip vs).take 0) from by simp [setPs]⟩, HJ3.out, HXV.out⟩
        case round =>
         rename World => wp
         obtain ⟨q3, gl3, hl3, hq3, rfl, hkp, HM3, HJP, HXP⟩ := hrel
         by_cases hlt3 : q3 < T.params.length
         ·have hlt3' : (q3 : Int) < (T.params.length : Int) := by omega
          obtain ⟨gp, op, e7, hgp, kp⟩ := HP1.out.int hlt3
          subst e7
          replace kp := (HJP.out.low.cell (p := ⟨gp, _, none⟩) hgp).trans kp
          have hqv : q3 < vs.length := by rw [HVS.out]; exact hlt3
          have hqv' : (q3 : Int) < (vs.length : Int) := by omega
          obtain ⟨gv, ov, e8, hgv, kv⟩ := HXP.out.int hqv
          subst e8
          have hxb := HPR.out _ (List.getElem_mem hlt3)
          obtain ⟨xn, hxn⟩ : ∃ xn : Nat, T.params[q3] = (xn : Int) := ⟨T.params[q3].toNat, by omega⟩
          have hx1 : xn < vn := by omega
          have hx1' : (xn : Int) < (vn : Int) := by omega
          have hz : ((natL T.params).zip vs).take (q3 + 1) = ((natL T.params).zip vs).take q3 ++ [(xn, vs[q3])] := by
           have hzl : q3 < ((natL T.params).zip vs).length := by simp [natL]; omega
           rw [List.take_succ_eq_append_getElem hzl]
           simp [natL, hxn]
          have hg3 : xn < gl3.length := by rw [HM3.out.1]; exact hx1
          have hh3 : xn < hl3.length := by rw [HM3.out.2.1]; exact hx1
          have HVG := hidX (valsG_set gl3 hl3 (by rw [HM3.out.1, HM3.out.2.1]) xn hh3 vs[q3])
          have HNV := hidX (show valsG (gl3.set xn vs[q3]) (hl3.set xn true) = setPs (valsG gl2 hl2) (((natL T.params).zip vs).take (q3 + 1)) from by rw [hz, setPs_snoc, ← HM3.out.2.2.2, HVG.out])
          have H6Y := hidX (HV64.out _ (List.getElem_mem hqv))
          have g1 : wp.cell? ⟨w.heap.size + 1 + 1, xn, none⟩ = some (.int .i64 gl3[xn]) := by rw [cell_of_blk HJP.out.got xn]; simp [intsG, hg3]
          have g2 := free_of_blk HJP.out.got xn
          have g3 : wp.cell? ⟨w.heap.size + 1 + 1 + 1, xn, none⟩ = some (.bool hl3[xn]) := by rw [cell_of_blk HJP.out.has xn]; simp [boolsG, hh3]
          have g4 := free_of_blk HJP.out.has xn
          rw [hxn] at kp
          generalize vs[q3] = y9 at *
          generalize gl3[xn] = go1 at g1
          generalize hl3[xn] = go2 at g3
          have HPA := hidX (HJP.out.put xn y9)
          have HPB := hidX ((HJP.out.put xn y9).below (by simp [World.setCell]; omega) ((Below.refl _ _).drew))
          have HPC := hidX ((HJP.out.below hkp ((Below.refl _ wp).drew)).put xn y9)
          have HXA := hidX (show ∀ Z : World, (∀ b, b ≠ w.heap.size + 1 + 1 → b ≠ w.heap.size + 1 + 1 + 1 → Z.heap[b]? = wp.heap[b]?) → XRow (fun b => wm.heap.size ≤ b) Z (.slice (some ⟨gv, ov, none⟩) vs.length vcap) vs.length (intsG vs) from fun Z hZ => HXP.out.imp (fun _ h => h) (fun b hb => hZ b (by have : wm.heap.size ≤ b := hb; omega) (by have : wm.heap.size ≤ b := hb; omega)))
          have ng1 : ¬ (gp = w.heap.size + 1 + 1) := by have : gp < w.heap.size := hgp; omega
          have ng2 : ¬ (w.heap.size + 1 + 1 = gp) := by have : gp < w.heap.size := hgp; omega
          have ng3 : ¬ (gv = w.heap.size + 1 + 1) := by have : wm.heap.size ≤ gv := hgv; omega
          have ng4 : ¬ (w.heap.size + 1 + 1 = gv) := by have : wm.heap.size ≤ gv := hgv; omega
          clear hxn hxb hz hg3 hh3
          go_wp2_with fail
          go_region
          all_goals go_wp2
          all_goals go_roundw
          all_goals first
           | (simp [intOf]; omega)
           | exact ⟨q3 + 1, gl3.set xn y9, hl3.set xn true, by omega, by go_num, by simp [World.setCell]; omega, ⟨by simpa using HM3.out.1, by simpa using HM3.out.2.1, by rw [HVG.out]; exact setP_64 HM3.out.2.2.1 H6Y.out, HNV.out⟩, (by first | exact HPB.out | exact HPC.out | exact HPA.out), HXA.out _ (fun b h1 h2 => (Below.heap_setCell _ _ _ _ h2).trans (Below.heap_setCell _ _ _ _ h1))⟩
         ·have hqn3 : q3 = T.params.length := by omega
          subst hqn3
          have hnl3 : ¬ ((T.params.length : Int) < (T.params.length : Int)) := by omega
          have HFV := hidX (show valsG gl3 hl3 = setPs (valsG gl2 hl2) ((natL T.params).zip vs) from by
           have := HM3.out.2.2.2
           rwa [List.take_of_length_le (by simp [natL]; omega)] at this)
          go_wp2
          go_roundg (most - (q + 1) + 1)
          case rel => exact ⟨q + 1, t, s2, gl3, hl3, _, _, rfl, by go_num, by omega, by omega, htl, ⟨HM3.out.1, HM3.out.2.1, HM2.out.2.2.1, HM2.out.2.2.2.1, HM3.out.2.2.1, by rw [HFV.out]; exact HGN.out.symm⟩, HJP.out⟩
          all_goals omega
     ·have t1 : (b.fin == [106, 117, 109, 112]) = false := by simpa [gJump] using hjp
      have t1' : (b.fin != [106, 117, 109, 112]) = true := by simpa [gJump] using hjp
      have hvr := HLB.out.v hjp
      obtain ⟨yn, hyn⟩ : ∃ yn : Nat, b.v = (yn : Int) := ⟨b.v.toNat, by omega⟩
      have hyl : yn < vn := by omega
      have hyl' : (yn : Int) < (vn : Int) := by omega
      have hg2 : yn < gl2.length := by rw [HM2.out.1]; exact hyl
      have hh2 : yn < hl2.length := by rw [HM2.out.2.1]; exact hyl
      rw [hyn] at c3
      have g1 : wm.cell? ⟨w.heap.size + 1 + 1, yn, none⟩ = some (.int .i64 gl2[yn]) := by rw [cell_of_blk HJ2.out.got yn]; simp [intsG, hg2]
      have g3 : wm.cell? ⟨w.heap.size + 1 + 1 + 1, yn, none⟩ = some (.bool hl2[yn]) := by rw [cell_of_blk HJ2.out.has yn]; simp [boolsG, hh2]
      have HVY := hidX (show valsG gl2 hl2 b.v.toNat = if hl2[yn] then some gl2[yn] else none from by rw [show b.v.toNat = yn by omega]; simp [valsG, List.getD, hg2, hh2])
      generalize gl2[yn] = y at g1 HVY
      generalize hl2[yn] = was at g3 HVY
      clear hyn hvr
      cases was
      ·have hend : goal = { s2 with how := hStuck } := by
        have hl : leaveP L b s2 (valsG gl2 hl2) = ({ s2 with how := hStuck }, valsG gl2 hl2, 0) := by unfold leaveP; rw [if_neg hjp, HVY.out]; rfl
        rw [HGL.out, hl, if_pos (by show hStuck ≠ []; decide)]
       subst hend
       clear hjp
       obtain ⟨S, outv, callv, xs, hd, hs⟩ := HJ2.out.dn
       obtain ⟨oad, ocap, rfl⟩ := own_is hd.out
       obtain ⟨cad, ccap, rfl⟩ := own_is hd.call
       have HZ := hidX (HJ2.out.fieldE hd hs (s' := { s2 with how := hStuck }) rfl rfl 0 (.string ⟨(hStuck).toArray⟩) rfl)
       have HDZ := hidX (hd.set (s' := { s2 with how := hStuck }) rfl rfl 0 (.string ⟨(hStuck).toArray⟩) rfl)
       have HSS := hidX hs
       have i0 := cell_of_blk HJ2.out.res 0
       have fi0 := free_of_blk HJ2.out.res 0
       have j0 := cell_of_blk hd.blk 0
       have i1 := cell_of_blk HJ2.out.res 1
       have fi1 := free_of_blk HJ2.out.res 1
       have j1 := cell_of_blk hd.blk 1
       have i2 := cell_of_blk HJ2.out.res 2
       have fi2 := free_of_blk HJ2.out.res 2
       have j2 := cell_of_blk hd.blk 2
       have i3 := cell_of_blk HJ2.out.res 3
       have fi3 := free_of_blk HJ2.out.res 3
       have j3 := cell_of_blk hd.blk 3
       have i4 := cell_of_blk HJ2.out.res 4
       have fi4 := free_of_blk HJ2.out.res 4
       have j4 := cell_of_blk hd.blk 4
       have fj0 := free_of_blk hd.blk 0
       simp only [List.getElem?_toArray, List.getElem?_cons_zero, List.getElem?_cons_succ] at i0 i1 i2 i3 i4 j0 j1 j2 j3 j4
       clear hd hs
       go_wp2
       (try simp only [Exit.inBlock, Exit.then])
       have hrf := run_fin HZ.out HDZ.out HSS.out
       exact ret_row (w.heap.size + 1) 10 _ 42 rfl rfl hrf.2.1 Tryz.underlying42 (by kernel_rfl) ⟨hrf.1, _, rfl, hrf.2.2⟩
      ·by_cases hrt : b.fin = gReturn
       ·have t2 : (b.fin == [114, 101, 116, 117, 114, 110]) = true := by rw [hrt]; rfl
        have hend : goal = retR y s2 := by
         have hl : leaveP L b s2 (valsG gl2 hl2) = (retR y s2, valsG gl2 hl2, 0) := by unfold leaveP; rw [if_neg hjp, HVY.out]; show (if b.fin = gReturn then _ else _) = _; rw [if_pos hrt]
         rw [HGL.out, hl, if_pos (by show hDone ≠ []; decide)]
        subst hend
        clear hjp hrt
        obtain ⟨S, outv, callv, xs, hd, hs⟩ := HJ2.out.dn
        obtain ⟨oad, ocap, rfl⟩ := own_is hd.out
        obtain ⟨cad, ccap, rfl⟩ := own_is hd.call
        have hZ1 := HJ2.out.fieldE hd hs (s' := { s2 with how := hDone }) rfl rfl 0 (.string ⟨hDone.toArray⟩) rfl
        have hD1 := hd.set (s' := { s2 with how := hDone }) rfl rfl 0 (.string ⟨hDone.toArray⟩) rfl
        have HZ := hidX (hZ1.fieldE hD1 hs (s' := (retR y s2)) rfl rfl 1 (.int .i64 y) rfl)
        have HDZ := hidX (hD1.set (s' := (retR y s2)) rfl rfl 1 (.int .i64 y) rfl)
        have HSS := hidX hs
        have i0 := cell_of_blk HJ2.out.res 0
        have fi0 := free_of_blk HJ2.out.res 0
        have j0 := cell_of_blk hd.blk 0
        have i1 := cell_of_blk HJ2.out.res 1
        have fi1 := free_of_blk HJ2.out.res 1
        have j1 := cell_of_blk hd.blk 1
        have i2 := cell_of_blk HJ2.out.res 2
        have fi2 := free_of_blk HJ2.out.res 2
        have j2 := cell_of_blk hd.blk 2
        have i3 := cell_of_blk HJ2.out.res 3
        have fi3 := free_of_blk HJ2.out.res 3
        have j3 := cell_of_blk hd.blk 3
        have i4 := cell_of_blk HJ2.out.res 4
        have fi4 := free_of_blk HJ2.out.res 4
        have j4 := cell_of_blk hd.blk 4
        have fj0 := free_of_blk hd.blk 0
        have fj1 := free_of_blk hd.blk 1
        simp only [List.getElem?_toArray, List.getElem?_cons_zero, List.getElem?_cons_succ] at i0 i1 i2 i3 i4 j0 j1 j2 j3 j4
        clear hd hs hZ1 hD1
        go_wp2
        (try simp only [Exit.inBlock, Exit.then])
        have hrf := run_fin HZ.out HDZ.out HSS.out
        exact ret_row (w.heap.size + 1) 10 _ 42 rfl rfl hrf.2.1 Tryz.underlying42 (by kernel_rfl) ⟨hrf.1, _, rfl, hrf.2.2⟩
       ·have t2 : (b.fin == [114, 101, 116, 117, 114, 110]) = false := by simpa [gReturn] using hrt
        have hif : b.fin = gIf := by
         rcases HLB.out.fin with h | h | h
         ·exact absurd h hjp
         ·exact h
         ·exact absurd h hrt
        have hw0 : b.tos.length = 2 := by have := HLB.out.ways; rw [if_neg hjp, if_pos hif] at this; exact this
        by_cases hy0 : y = 0
        ·have hyb : (y == 0) = true := by simpa using hy0
         have HLP := hidX (show leaveP L b s2 (valsG gl2 hl2) = enterP L (b.tos.getD 1 0) (b.wi.getD 1 []) s2 (valsG gl2 hl2) from by unfold leaveP; rw [if_neg hjp, HVY.out]; show (if b.fin = gReturn then _ else _) = _; rw [if_neg hrt, if_pos hy0])
         have hway : 1 < b.tos.length := by omega
         clear hjp hrt hif hw0 hy0
         as_aux_lemma =>
          have hi2 : 1 < b.wi.length := by rw [HLB.out.wil]; exact hway
          have hway' : (1 : Int) < (b.tos.length : Int) := by omega
          have hi2' : (1 : Int) < (b.wi.length : Int) := by omega
          obtain ⟨gw, ow, wad, wcap, e2, hgw, hrw, kw⟩ := R4.out.row hi2
          obtain ⟨gt, ot, e3, hgt, kt⟩ := R3.out.int hway
          subst e2 e3
          have htr := HLB.out.tos _ (List.getElem_mem hway)
          obtain ⟨t, htn⟩ : ∃ t : Nat, b.tos[1] = (t : Int) := ⟨b.tos[1].toNat, by omega⟩
          have htd : b.tos.getD 1 0 = (t : Int) := by simp [List.getD, hway, htn]
          have hwd : b.wi.getD 1 [] = b.wi[1] := by simp [List.getD, hi2]
          have htl : t < L.length := by omega
          have htl' : (t : Int) < (L.length : Int) := by omega
          have hbt : blkAt L (t : Int) = L[t] := by unfold blkAt; simp [htl]
          have hfit := HLB.out.fit 1 hway
          rw [htd, hwd, hbt] at hfit
          have hwir := HLB.out.wi _ (List.getElem_mem hi2)
          have hpar := HLB.out.par _ (List.getElem_mem htl)
          have hlp := HLP.out
          unfold enterP at hlp
          rw [htd, hwd, hbt] at hlp
          rw [htn] at kt
          obtain ⟨g', off', pa', pc', ia', ic', ta', tc', wa', wc', e4, hg', p1, _, _, _, k0, _⟩ := HCO.out.blk htl
          injection e4 with e4
          injection e4 with e5 e6
          subst e5 e6
          have hpl : (L[t].params.length : Int) ≤ 1000 := by have := (HLW.out _ (List.getElem_mem htl)).params; omega
          generalize b.wi[1] = wi at *
          generalize L[t] = T at *
          have hlow := HJ2.out.low
          replace kw := (hlow.cell (p := ⟨gw, _, none⟩) hgw).trans kw
          have hgl2 : gl2.length = vn := HM2.out.1
          have hhl2 : hl2.length = vn := HM2.out.2.1
          have hpk := pick_any (w := wm) (A := InH w) wi hwir.1 wad (some ⟨w.heap.size + 1 + 1, 0, none⟩) (some ⟨w.heap.size + 1 + 1 + 1, 0, none⟩) wcap vn vn (w.heap.size + 1 + 1) (w.heap.size + 1 + 1 + 1) gl2 hl2 (by rw [hgl2, hhl2]) (by omega) (fun b hb => Nat.lt_of_lt_of_le hb hlow.size) (hrw.imp (fun _ h => h) (fun k hk => hlow.block k hk)) rfl rfl HJ2.out.got HJ2.out.has (fun y hy => by have := hwir.2 y hy; rw [hhl2]; exact this)
          rw [hgl2, hhl2] at hpk
          have HPK := hidX hpk
          have HLQ := hidX hlp
          have HKT := hidX kt
          have HK0 := hidX k0
          have HPR := hidX hpar
          have HP1 := hidX p1
          have HFIT := hidX hfit
          have hszw := HJ2.out.size
          clear hpk hlp hgl2 hhl2 hlow hrw htr htn htd hwd hbt hfit hwir hpar kt k0 p1
          go_wp2_with fail
          refine HPK.out.mono ?_
          rintro e w3 ⟨hb3, ⟨hn, rfl⟩ | ⟨vs, v, hn, rfl, hov⟩⟩
          ·have hend : goal = { s2 with how := hStuck } := by
            have hl : leaveP L b s2 (valsG gl2 hl2) = ({ s2 with how := hStuck }, valsG gl2 hl2, 0) := by rw [HLQ.out, hn]
            rw [HGL.out, hl, if_pos (by show hStuck ≠ []; decide)]
           subst hend
           have HJ3 := hidX (HJ2.out.below hkm hb3)
           clear hb3 hn
           obtain ⟨S, outv, callv, xs, hd, hs⟩ := HJ3.out.dn
           obtain ⟨oad, ocap, rfl⟩ := own_is hd.out
           obtain ⟨cad, ccap, rfl⟩ := own_is hd.call
           have HZ := hidX (HJ3.out.fieldE hd hs (s' := { s2 with how := hStuck }) rfl rfl 0 (.string ⟨(hStuck).toArray⟩) rfl)
           have HDZ := hidX (hd.set (s' := { s2 with how := hStuck }) rfl rfl 0 (.string ⟨(hStuck).toArray⟩) rfl)
           have HSS := hidX hs
           have i0 := cell_of_blk HJ3.out.res 0
           have fi0 := free_of_blk HJ3.out.res 0
           have j0 := cell_of_blk hd.blk 0
           have i1 := cell_of_blk HJ3.out.res 1
           have fi1 := free_of_blk HJ3.out.res 1
           have j1 := cell_of_blk hd.blk 1
           have i2 := cell_of_blk HJ3.out.res 2
           have fi2 := free_of_blk HJ3.out.res 2
           have j2 := cell_of_blk hd.blk 2
           have i3 := cell_of_blk HJ3.out.res 3
           have fi3 := free_of_blk HJ3.out.res 3
           have j3 := cell_of_blk hd.blk 3
           have i4 := cell_of_blk HJ3.out.res 4
           have fi4 := free_of_blk HJ3.out.res 4
           have j4 := cell_of_blk hd.blk 4
           have fj0 := free_of_blk hd.blk 0
           simp only [List.getElem?_toArray, List.getElem?_cons_zero, List.getElem?_cons_succ] at i0 i1 i2 i3 i4 j0 j1 j2 j3 j4
           clear hd hs
           go_wp2
           (try simp only [Exit.inBlock, Exit.then])
           have hrf := run_fin HZ.out HDZ.out HSS.out
           exact ret_row (w.heap.size + 1) 10 _ 42 rfl rfl hrf.2.1 Tryz.underlying42 (by kernel_rfl) ⟨hrf.1, _, rfl, hrf.2.2⟩
          ·have HJ3 := hidX (HJ2.out.below hkm hb3)
           have hlw := HJ3.out.low
           have HGN := hidX (show goal = walkPL L args ans ticks (most - (q + 1)) t s2 (setPs (valsG gl2 hl2) ((natL T.params).zip vs)) from by
            have hl : leaveP L b s2 (valsG gl2 hl2) = (s2, setPs (valsG gl2 hl2) ((natL T.params).zip vs), t) := by rw [HLQ.out, hn]; rfl
            rw [HGL.out, hl, if_neg (by rw [HM2.out.2.2.1]; simp)])
           have hvs : vs.length = T.params.length := by
            have := askX_len' hn
            simp only [natL, List.length_map] at this
            rw [this, HFIT.out]
           have HV64 := hidX (ask_64 HM2.out.2.2.2.2.1 hn)
           obtain ⟨vad, vcap, rfl⟩ := own_is hov
           have HXV := hidX (show XRow (fun b => wm.heap.size ≤ b) w3 (.slice vad vs.length vcap) vs.length (intsG vs) from (xrow_own hov).imp (fun _ h => h.1) (fun _ _ => rfl))
           have a4 : w3.cell? ⟨wo.heap.size, 4, none⟩ = some (.slice (some ⟨gt, ot, none⟩) b.tos.length tc) := cell_of_blk HJ3.out.bx 4
           have at1 : w3.cell? ⟨gt, ot + 1, none⟩ = some (.int .i64 (t : Int)) := (hlw.cell (p := ⟨gt, _, none⟩) hgt).trans HKT.out
           have d3 : w3.cell? ⟨w.heap.size, 3, none⟩ = some (.slice (some ⟨g, off, none⟩) L.length bc) := cell_of_blk HJ3.out.code 3
           have k0' : w3.cell? ⟨g, off + t * 6, none⟩ = some (.slice pa' T.params.length pc') := (hlw.cell (p := ⟨g, _, none⟩) hg').trans HK0.out
           have hk3 : wo.heap.size < w3.heap.size := Nat.lt_of_lt_of_le hkm hb3.size
           have HVS := hidX hvs
           clear hb3 hn hlw hvs hov HPK
           go_wp2_with fail
           clear a4 at1 d3 k0'
           go_loopw [27] (fun vi wp => ∃ (q3 : Nat) (gl3 : List Int) (hl3 : List Bool), q3 ≤ T.params.length ∧ vi = .int .i64 (q3 : Int) ∧ wo.heap.size < wp.heap.size ∧ Hid (gl3.length = vn ∧ hl3.length = vn ∧ Got64 (valsG gl3 hl3) ∧ valsG gl3 hl3 = setPs (valsG gl2 hl2) (((natL T.params).zip vs).take q3)) ∧ Hid (RnJ w #[.string ⟨nm.toArray⟩, .int .i64 P, .int .i64 (vn : Int), .slice (some ⟨g, off, none⟩) L.length bc] wo.heap.size (some (Obj.cells #[.slice pa b.params.length pc, .slice ia b.ins.length ic, .string ⟨b.fin.toArray⟩, .int .i64 b.v, .slice (some ⟨gt, ot, none⟩) b.tos.length tc, .slice (some ⟨gw, ow, none⟩) b.wi.length wc] 60 (0, 0))) wp s2 gl3 hl3) ∧ Hid (XRow (fun b => wm.heap.size ≤ b) wp (.slice vad vs.length vcap) vs.length (intsG vs))) (fun vi _ => T.params.length - (intOf vi).toNat)
           case atStart => exact ⟨0, gl2, hl2, by omega, rfl, hk3, ⟨HM2.out.1, HM2.out.2.1, HM2.out.2.2.2.2.1, show valsG gl2 hl2 = setPs (valsG gl2 hl2) (((natL T.params).zip vs).take 0) from by simp [setPs]⟩, HJ3.out, HXV.out⟩
           case round =>
            rename World => wp
            obtain ⟨q3, gl3, hl3, hq3, rfl, hkp, HM3, HJP, HXP⟩ := hrel
            by_cases hlt3 : q3 < T.params.length
            ·have hlt3' : (q3 : Int) < (T.params.length : Int) := by omega
             obtain ⟨gp, op, e7, hgp, kp⟩ := HP1.out.int hlt3
             subst e7
             replace kp := (HJP.out.low.cell (p := ⟨gp, _, none⟩) hgp).trans kp
             have hqv : q3 < vs.length := by rw [HVS.out]; exact hlt3
             have hqv' : (q3 : Int) < (vs.length : Int) := by omega
             obtain ⟨gv, ov, e8, hgv, kv⟩ := HXP.out.int hqv
             subst e8
             have hxb := HPR.out _ (List.getElem_mem hlt3)
             obtain ⟨xn, hxn⟩ : ∃ xn : Nat, T.params[q3] = (xn : Int) := ⟨T.params[q3].toNat, by omega⟩
             have hx1 : xn < vn := by omega
             have hx1' : (xn : Int) < (vn : Int) := by omega
             have hz : ((natL T.params).zip vs).take (q3 + 1) = ((natL T.params).zip vs).take q3 ++ [(xn, vs[q3])] := by
              have hzl : q3 < ((natL T.params).zip vs).length := by simp [natL]; omega
              rw [List.take_succ_eq_append_getElem hzl]
              simp [natL, hxn]
             have hg3 : xn < gl3.length := by rw [HM3.out.1]; exact hx1
             have hh3 : xn < hl3.length := by rw [HM3.out.2.1]; exact hx1
             have HVG := hidX (valsG_set gl3 hl3 (by rw [HM3.out.1, HM3.out.2.1]) xn hh3 vs[q3])
             have HNV := hidX (show valsG (gl3.set xn vs[q3]) (hl3.set xn true) = setPs (valsG gl2 hl2) (((natL T.params).zip vs).take (q3 + 1)) from by rw [hz, setPs_snoc, ← HM3.out.2.2.2, HVG.out])
             have H6Y := hidX (HV64.out _ (List.getElem_mem hqv))
             have g1 : wp.cell? ⟨w.heap.size + 1 + 1, xn, none⟩ = some (.int .i64 gl3[xn]) := by rw [cell_of_blk HJP.out.got xn]; simp [intsG, hg3]
             have g2 := free_of_blk HJP.out.got xn
             have g3 : wp.cell? ⟨w.heap.size + 1 + 1 + 1, xn, none⟩ = some (.bool hl3[xn]) := by rw [cell_of_blk HJP.out.has xn]; simp [boolsG, hh3]
             have g4 := free_of_blk HJP.out.has xn
             rw [hxn] at kp
             generalize vs[q3] = y9 at *
             generalize gl3[xn] = go1 at g1
             generalize hl3[xn] = go2 at g3
             have HPA := hidX (HJP.out.put xn y9)
             have HPB := hidX ((HJP.out.put xn y9).below (by simp [World.setCell]; omega) ((Below.refl _ _).drew))
             have HPC := hidX ((HJP.out.below hkp ((Below.refl _ wp).drew)).put xn y9)
             have HXA := hidX (show ∀ Z : World, (∀ b, b ≠ w.heap.size + 1 + 1 → b ≠ w.heap.size + 1 + 1 + 1 → Z.heap[b]? = wp.heap[b]?) → XRow (fun b => wm.heap.size ≤ b) Z (.slice (some ⟨gv, ov, none⟩) vs.length vcap) vs.length (intsG vs) from fun Z hZ => HXP.out.imp (fun _ h => h) (fun b hb => hZ b (by have : wm.heap.size ≤ b := hb; omega) (by have : wm.heap.size ≤ b := hb; omega)))
             have ng1 : ¬ (gp = w.heap.size + 1 + 1) := by have : gp < w.heap.size := hgp; omega
             have ng2 : ¬ (w.heap.size + 1 + 1 = gp) := by have : gp < w.heap.size := hgp; omega
             have ng3 : ¬ (gv = w.heap.size + 1 + 1) := by have : wm.heap.size ≤ gv := hgv; omega
             have ng4 : ¬ (w.heap.size + 1 + 1 = gv) := by have : wm.heap.size ≤ gv := hgv; omega
             clear hxn hxb hz hg3 hh3
             go_wp2_with fail
             go_region
             all_goals go_wp2
             all_goals go_roundw
             all_goals first
              | (simp [intOf]; omega)
              | exact ⟨q3 + 1, gl3.set xn y9, hl3.set xn true, by omega, by go_num, by simp [World.setCell]; omega, ⟨by simpa using HM3.out.1, by simpa using HM3.out.2.1, by rw [HVG.out]; exact setP_64 HM3.out.2.2.1 H6Y.out, HNV.out⟩, (by first | exact HPB.out | exact HPC.out | exact HPA.out), HXA.out _ (fun b h1 h2 => (Below.heap_setCell _ _ _ _ h2).trans (Below.heap_setCell _ _ _ _ h1))⟩
            ·have hqn3 : q3 = T.params.length := by omega
             subst hqn3
             have hnl3 : ¬ ((T.params.length : Int) < (T.params.length : Int)) := by omega
             have HFV := hidX (show valsG gl3 hl3 = setPs (valsG gl2 hl2) ((natL T.params).zip vs) from by
              have := HM3.out.2.2.2
              rwa [List.take_of_length_le (by simp [natL]; omega)] at this)
             go_wp2
             go_roundg (most - (q + 1) + 1)
             case rel => exact ⟨q + 1, t, s2, gl3, hl3, _, _, rfl, by go_num, by omega, by omega, htl, ⟨HM3.out.1, HM3.out.2.1, HM2.out.2.2.1, HM2.out.2.2.2.1, HM3.out.2.2.1, by rw [HFV.out]; exact HGN.out.symm⟩, HJP.out⟩
             all_goals omega
        ·have hyb : (y == 0) = false := by simpa using hy0
         have HLP := hidX (show leaveP L b s2 (valsG gl2 hl2) = enterP L (b.tos.getD 0 0) (b.wi.getD 0 []) s2 (valsG gl2 hl2) from by unfold leaveP; rw [if_neg hjp, HVY.out]; show (if b.fin = gReturn then _ else _) = _; rw [if_neg hrt, if_neg hy0])
         have hway : 0 < b.tos.length := by omega
         clear hjp hrt hif hw0 hy0
         as_aux_lemma =>
          have hi2 : 0 < b.wi.length := by rw [HLB.out.wil]; exact hway
          have hway' : (0 : Int) < (b.tos.length : Int) := by omega
          have hi2' : (0 : Int) < (b.wi.length : Int) := by omega
          obtain ⟨gw, ow, wad, wcap, e2, hgw, hrw, kw⟩ := R4.out.row hi2
          obtain ⟨gt, ot, e3, hgt, kt⟩ := R3.out.int hway
          subst e2 e3
          have htr := HLB.out.tos _ (List.getElem_mem hway)
          obtain ⟨t, htn⟩ : ∃ t : Nat, b.tos[0] = (t : Int) := ⟨b.tos[0].toNat, by omega⟩
          have htd : b.tos.getD 0 0 = (t : Int) := by simp [List.getD, hway, htn]
          have hwd : b.wi.getD 0 [] = b.wi[0] := by simp [List.getD, hi2]
          have htl : t < L.length := by omega
          have htl' : (t : Int) < (L.length : Int) := by omega
          have hbt : blkAt L (t : Int) = L[t] := by unfold blkAt; simp [htl]
          have hfit := HLB.out.fit 0 hway
          rw [htd, hwd, hbt] at hfit
          have hwir := HLB.out.wi _ (List.getElem_mem hi2)
          have hpar := HLB.out.par _ (List.getElem_mem htl)
          have hlp := HLP.out
          unfold enterP at hlp
          rw [htd, hwd, hbt] at hlp
          rw [htn] at kt
          obtain ⟨g', off', pa', pc', ia', ic', ta', tc', wa', wc', e4, hg', p1, _, _, _, k0, _⟩ := HCO.out.blk htl
          injection e4 with e4
          injection e4 with e5 e6
          subst e5 e6
          have hpl : (L[t].params.length : Int) ≤ 1000 := by have := (HLW.out _ (List.getElem_mem htl)).params; omega
          generalize b.wi[0] = wi at *
          generalize L[t] = T at *
          have hlow := HJ2.out.low
          replace kw := (hlow.cell (p := ⟨gw, _, none⟩) hgw).trans kw
          rw [Nat.add_zero] at kw kt
          have hgl2 : gl2.length = vn := HM2.out.1
          have hhl2 : hl2.length = vn := HM2.out.2.1
          have hpk := pick_any (w := wm) (A := InH w) wi hwir.1 wad (some ⟨w.heap.size + 1 + 1, 0, none⟩) (some ⟨w.heap.size + 1 + 1 + 1, 0, none⟩) wcap vn vn (w.heap.size + 1 + 1) (w.heap.size + 1 + 1 + 1) gl2 hl2 (by rw [hgl2, hhl2]) (by omega) (fun b hb => Nat.lt_of_lt_of_le hb hlow.size) (hrw.imp (fun _ h => h) (fun k hk => hlow.block k hk)) rfl rfl HJ2.out.got HJ2.out.has (fun y hy => by have := hwir.2 y hy; rw [hhl2]; exact this)
          rw [hgl2, hhl2] at hpk
          have HPK := hidX hpk
          have HLQ := hidX hlp
          have HKT := hidX kt
          have HK0 := hidX k0
          have HPR := hidX hpar
          have HP1 := hidX p1
          have HFIT := hidX hfit
          have hszw := HJ2.out.size
          clear hpk hlp hgl2 hhl2 hlow hrw htr htn htd hwd hbt hfit hwir hpar kt k0 p1
          go_wp2_with fail
          refine HPK.out.mono ?_
          rintro e w3 ⟨hb3, ⟨hn, rfl⟩ | ⟨vs, v, hn, rfl, hov⟩⟩
          ·have hend : goal = { s2 with how := hStuck } := by
            have hl : leaveP L b s2 (valsG gl2 hl2) = ({ s2 with how := hStuck }, valsG gl2 hl2, 0) := by rw [HLQ.out, hn]
            rw [HGL.out, hl, if_pos (by show hStuck ≠ []; decide)]
           subst hend
           have HJ3 := hidX (HJ2.out.below hkm hb3)
           clear hb3 hn
           obtain ⟨S, outv, callv, xs, hd, hs⟩ := HJ3.out.dn
           obtain ⟨oad, ocap, rfl⟩ := own_is hd.out
           obtain ⟨cad, ccap, rfl⟩ := own_is hd.call
           have HZ := hidX (HJ3.out.fieldE hd hs (s' := { s2 with how := hStuck }) rfl rfl 0 (.string ⟨(hStuck).toArray⟩) rfl)
           have HDZ := hidX (hd.set (s' := { s2 with how := hStuck }) rfl rfl 0 (.string ⟨(hStuck).toArray⟩) rfl)
           have HSS := hidX hs
           have i0 := cell_of_blk HJ3.out.res 0
           have fi0 := free_of_blk HJ3.out.res 0
           have j0 := cell_of_blk hd.blk 0
           have i1 := cell_of_blk HJ3.out.res 1
           have fi1 := free_of_blk HJ3.out.res 1
           have j1 := cell_of_blk hd.blk 1
           have i2 := cell_of_blk HJ3.out.res 2
           have fi2 := free_of_blk HJ3.out.res 2
           have j2 := cell_of_blk hd.blk 2
           have i3 := cell_of_blk HJ3.out.res 3
           have fi3 := free_of_blk HJ3.out.res 3
           have j3 := cell_of_blk hd.blk 3
           have i4 := cell_of_blk HJ3.out.res 4
           have fi4 := free_of_blk HJ3.out.res 4
           have j4 := cell_of_blk hd.blk 4
           have fj0 := free_of_blk hd.blk 0
           simp only [List.getElem?_toArray, List.getElem?_cons_zero, List.getElem?_cons_succ] at i0 i1 i2 i3 i4 j0 j1 j2 j3 j4
           clear hd hs
           go_wp2
           (try simp only [Exit.inBlock, Exit.then])
           have hrf := run_fin HZ.out HDZ.out HSS.out
           exact ret_row (w.heap.size + 1) 10 _ 42 rfl rfl hrf.2.1 Tryz.underlying42 (by kernel_rfl) ⟨hrf.1, _, rfl, hrf.2.2⟩
          ·have HJ3 := hidX (HJ2.out.below hkm hb3)
           have hlw := HJ3.out.low
           have HGN := hidX (show goal = walkPL L args ans ticks (most - (q + 1)) t s2 (setPs (valsG gl2 hl2) ((natL T.params).zip vs)) from by
            have hl : leaveP L b s2 (valsG gl2 hl2) = (s2, setPs (valsG gl2 hl2) ((natL T.params).zip vs), t) := by rw [HLQ.out, hn]; rfl
            rw [HGL.out, hl, if_neg (by rw [HM2.out.2.2.1]; simp)])
           have hvs : vs.length = T.params.length := by
            have := askX_len' hn
            simp only [natL, List.length_map] at this
            rw [this, HFIT.out]
           have HV64 := hidX (ask_64 HM2.out.2.2.2.2.1 hn)
           obtain ⟨vad, vcap, rfl⟩ := own_is hov
           have HXV := hidX (show XRow (fun b => wm.heap.size ≤ b) w3 (.slice vad vs.length vcap) vs.length (intsG vs) from (xrow_own hov).imp (fun _ h => h.1) (fun _ _ => rfl))
           have a4 : w3.cell? ⟨wo.heap.size, 4, none⟩ = some (.slice (some ⟨gt, ot, none⟩) b.tos.length tc) := cell_of_blk HJ3.out.bx 4
           have at1 : w3.cell? ⟨gt, ot, none⟩ = some (.int .i64 (t : Int)) := (hlw.cell (p := ⟨gt, _, none⟩) hgt).trans HKT.out
           have d3 : w3.cell? ⟨w.heap.size, 3, none⟩ = some (.slice (some ⟨g, off, none⟩) L.length bc) := cell_of_blk HJ3.out.code 3
           have k0' : w3.cell? ⟨g, off + t * 6, none⟩ = some (.slice pa' T.params.length pc') := (hlw.cell (p := ⟨g, _, none⟩) hg').trans HK0.out
           have hk3 : wo.heap.size < w3.heap.size := Nat.lt_of_lt_of_le hkm hb3.size
           have HVS := hidX hvs
           clear hb3 hn hlw hvs hov HPK
           go_wp2_with fail
           clear a4 at1 d3 k0'
           go_loopw [27] (fun vi wp => ∃ (q3 : Nat) (gl3 : List Int) (hl3 : List Bool), q3 ≤ T.params.length ∧ vi = .int .i64 (q3 : Int) ∧ wo.heap.size < wp.heap.size ∧ Hid (gl3.length = vn ∧ hl3.length = vn ∧ Got64 (valsG gl3 hl3) ∧ valsG gl3 hl3 = setPs (valsG gl2 hl2) (((natL T.params).zip vs).take q3)) ∧ Hid (RnJ w #[.string ⟨nm.toArray⟩, .int .i64 P, .int .i64 (vn : Int), .slice (some ⟨g, off, none⟩) L.length bc] wo.heap.size (some (Obj.cells #[.slice pa b.params.length pc, .slice ia b.ins.length ic, .string ⟨b.fin.toArray⟩, .int .i64 b.v, .slice (some ⟨gt, ot, none⟩) b.tos.length tc, .slice (some ⟨gw, ow, none⟩) b.wi.length wc] 60 (0, 0))) wp s2 gl3 hl3) ∧ Hid (XRow (fun b => wm.heap.size ≤ b) wp (.slice vad vs.length vcap) vs.length (intsG vs))) (fun vi _ => T.params.length - (intOf vi).toNat)
           case atStart => exact ⟨0, gl2, hl2, by omega, rfl, hk3, ⟨HM2.out.1, HM2.out.2.1, HM2.out.2.2.2.2.1, show valsG gl2 hl2 = setPs (valsG gl2 hl2) (((natL T.params).zip vs).take 0) from by simp [setPs]⟩, HJ3.out, HXV.out⟩
           case round =>
            rename World => wp
            obtain ⟨q3, gl3, hl3, hq3, rfl, hkp, HM3, HJP, HXP⟩ := hrel
            by_cases hlt3 : q3 < T.params.length
            ·have hlt3' : (q3 : Int) < (T.params.length : Int) := by omega
             obtain ⟨gp, op, e7, hgp, kp⟩ := HP1.out.int hlt3
             subst e7
             replace kp := (HJP.out.low.cell (p := ⟨gp, _, none⟩) hgp).trans kp
             have hqv : q3 < vs.length := by rw [HVS.out]; exact hlt3
             have hqv' : (q3 : Int) < (vs.length : Int) := by omega
             obtain ⟨gv, ov, e8, hgv, kv⟩ := HXP.out.int hqv
             subst e8
             have hxb := HPR.out _ (List.getElem_mem hlt3)
             obtain ⟨xn, hxn⟩ : ∃ xn : Nat, T.params[q3] = (xn : Int) := ⟨T.params[q3].toNat, by omega⟩
             have hx1 : xn < vn := by omega
             have hx1' : (xn : Int) < (vn : Int) := by omega
             have hz : ((natL T.params).zip vs).take (q3 + 1) = ((natL T.params).zip vs).take q3 ++ [(xn, vs[q3])] := by
              have hzl : q3 < ((natL T.params).zip vs).length := by simp [natL]; omega
              rw [List.take_succ_eq_append_getElem hzl]
              simp [natL, hxn]
             have hg3 : xn < gl3.length := by rw [HM3.out.1]; exact hx1
             have hh3 : xn < hl3.length := by rw [HM3.out.2.1]; exact hx1
             have HVG := hidX (valsG_set gl3 hl3 (by rw [HM3.out.1, HM3.out.2.1]) xn hh3 vs[q3])
             have HNV := hidX (show valsG (gl3.set xn vs[q3]) (hl3.set xn true) = setPs (valsG gl2 hl2) (((natL T.params).zip vs).take (q3 + 1)) from by rw [hz, setPs_snoc, ← HM3.out.2.2.2, HVG.out])
             have H6Y := hidX (HV64.out _ (List.getElem_mem hqv))
             have g1 : wp.cell? ⟨w.heap.size + 1 + 1, xn, none⟩ = some (.int .i64 gl3[xn]) := by rw [cell_of_blk HJP.out.got xn]; simp [intsG, hg3]
             have g2 := free_of_blk HJP.out.got xn
             have g3 : wp.cell? ⟨w.heap.size + 1 + 1 + 1, xn, none⟩ = some (.bool hl3[xn]) := by rw [cell_of_blk HJP.out.has xn]; simp [boolsG, hh3]
             have g4 := free_of_blk HJP.out.has xn
             rw [hxn] at kp
             generalize vs[q3] = y9 at *
             generalize gl3[xn] = go1 at g1
             generalize hl3[xn] = go2 at g3
             have HPA := hidX (HJP.out.put xn y9)
             have HPB := hidX ((HJP.out.put xn y9).below (by simp [World.setCell]; omega) ((Below.refl _ _).drew))
             have HPC := hidX ((HJP.out.below hkp ((Below.refl _ wp).drew)).put xn y9)
             have HXA := hidX (show ∀ Z : World, (∀ b, b ≠ w.heap.size + 1 + 1 → b ≠ w.heap.size + 1 + 1 + 1 → Z.heap[b]? = wp.heap[b]?) → XRow (fun b => wm.heap.size ≤ b) Z (.slice (some ⟨gv, ov, none⟩) vs.length vcap) vs.length (intsG vs) from fun Z hZ => HXP.out.imp (fun _ h => h) (fun b hb => hZ b (by have : wm.heap.size ≤ b := hb; omega) (by have : wm.heap.size ≤ b := hb; omega)))
             have ng1 : ¬ (gp = w.heap.size + 1 + 1) := by have : gp < w.heap.size := hgp; omega
             have ng2 : ¬ (w.heap.size + 1 + 1 = gp) := by have : gp < w.heap.size := hgp; omega
             have ng3 : ¬ (gv = w.heap.size + 1 + 1) := by have : wm.heap.size ≤ gv := hgv; omega
             have ng4 : ¬ (w.heap.size + 1 + 1 = gv) := by have : wm.heap.size ≤ gv := hgv; omega
             clear hxn hxb hz hg3 hh3
             go_wp2_with fail
             go_region
             all_goals go_wp2
             all_goals go_roundw
             all_goals first
              | (simp [intOf]; omega)
              | exact ⟨q3 + 1, gl3.set xn y9, hl3.set xn true, by omega, by go_num, by simp [World.setCell]; omega, ⟨by simpa using HM3.out.1, by simpa using HM3.out.2.1, by rw [HVG.out]; exact setP_64 HM3.out.2.2.1 H6Y.out, HNV.out⟩, (by first | exact HPB.out | exact HPC.out | exact HPA.out), HXA.out _ (fun b h1 h2 => (Below.heap_setCell _ _ _ _ h2).trans (Below.heap_setCell _ _ _ _ h1))⟩
            ·have hqn3 : q3 = T.params.length := by omega
             subst hqn3
             have hnl3 : ¬ ((T.params.length : Int) < (T.params.length : Int)) := by omega
             have HFV := hidX (show valsG gl3 hl3 = setPs (valsG gl2 hl2) ((natL T.params).zip vs) from by
              have := HM3.out.2.2.2
              rwa [List.take_of_length_le (by simp [natL]; omega)] at this)
             go_wp2
             go_roundg (most - (q + 1) + 1)
             case rel => exact ⟨q + 1, t, s2, gl3, hl3, _, _, rfl, by go_num, by omega, by omega, htl, ⟨HM3.out.1, HM3.out.2.1, HM2.out.2.2.1, HM2.out.2.2.2.1, HM3.out.2.2.1, by rw [HFV.out]; exact HGN.out.symm⟩, HJP.out⟩
             all_goals omega
  ·have hqe : q = most := by omega
   subst hqe
   have hend : goal = { s with how := hLongP } := by
    have := HM.out.2.2.2.2.2
    rw [Nat.sub_self] at this
    exact this.symm
   subst hend
   have hnlt : ¬ ((q : Int) < (q : Int)) := by omega
   obtain ⟨S, outv, callv, xs, hd, hs⟩ := HJ.out.dn
   obtain ⟨oad, ocap, rfl⟩ := own_is hd.out
   obtain ⟨cad, ccap, rfl⟩ := own_is hd.call
   have HZ := hidX (HJ.out.fieldE hd hs (s' := { s with how := hLongP }) rfl rfl 0 (.string ⟨(hLongP).toArray⟩) rfl)
   have HDZ := hidX (hd.set (s' := { s with how := hLongP }) rfl rfl 0 (.string ⟨(hLongP).toArray⟩) rfl)
   have HSS := hidX hs
   have i0 := cell_of_blk HJ.out.res 0
   have fi0 := free_of_blk HJ.out.res 0
   have j0 := cell_of_blk hd.blk 0
   have i1 := cell_of_blk HJ.out.res 1
   have fi1 := free_of_blk HJ.out.res 1
   have j1 := cell_of_blk hd.blk 1
   have i2 := cell_of_blk HJ.out.res 2
   have fi2 := free_of_blk HJ.out.res 2
   have j2 := cell_of_blk hd.blk 2
   have i3 := cell_of_blk HJ.out.res 3
   have fi3 := free_of_blk HJ.out.res 3
   have j3 := cell_of_blk hd.blk 3
   have i4 := cell_of_blk HJ.out.res 4
   have fi4 := free_of_blk HJ.out.res 4
   have j4 := cell_of_blk hd.blk 4
   have fj0 := free_of_blk hd.blk 0
   simp only [List.getElem?_toArray, List.getElem?_cons_zero, List.getElem?_cons_succ] at i0 i1 i2 i3 i4 j0 j1 j2 j3 j4
   clear hd hs
   go_wp2
   (try simp only [Exit.inBlock, Exit.then])
   have hrf := run_fin HZ.out HDZ.out HSS.out
   exact ret_row (w.heap.size + 1) 10 _ 42 rfl rfl hrf.2.1 Tryz.underlying42 (by kernel_rfl) ⟨hrf.1, _, rfl, hrf.2.2⟩
end Go.Proofs.YtmckajgacfjnhaaGreatDoor
