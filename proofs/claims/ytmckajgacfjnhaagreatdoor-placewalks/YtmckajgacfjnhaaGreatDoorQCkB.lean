/- Our own: texts joined: PlCk4, PlCk5. -/
import Derived.Test.YtmckajgacfjnhaaGreatDoorQCkA
import Derived.Test.YtmckajgacfjnhaaGreatDoorQPlRef4
namespace Go.Proofs.YtmckajgacfjnhaaGreatDoor
open Go.RowKit
theorem allInts_look {w : World} {f0 : FuncId} {bnd caps : Array Value} {ad : Option Addr} {cap : Nat} {L : List Int} (hn : L.length ≤ 100000) (hrow : XRow (InH w) w (.slice ad L.length cap) L.length (intsG L)) (ent : ∀ args X, (callFunc f0 args).run Tryz.prog X = .ok (.enter f0 args) X) (p : Int → Bool)
  (hc : ∀ x ∈ L, ∀ X, Below w.heap.size w X → Calls Tryz.prog f0 (bnd.push (.int .i64 x) ++ caps) X fun e w' => e = .returned (.bool (p x)) ∧ Below X.heap.size X w') :
  Calls Tryz.prog 60 #[.slice ad L.length cap, .func (.func f0) bnd caps] w fun e w' => e = .returned (.bool (L.all p)) ∧ Below w.heap.size w w' := by
 have hso : SoC w L.length (fun _ => False) f0 bnd caps (fun q => .int .i64 (L.getD q 0)) (fun q => p (L.getD q 0)) (fun _ X => Below w.heap.size w X) (fun X => Below w.heap.size w X) := by
  refine ⟨ent, fun _ h => h.elim, fun _ X Y h k => bl_trans h h.size k, fun q X hq hJ _ => ?_⟩
  refine (hc (L.getD q 0) (by simp [List.getD, hq]) X hJ).mono ?_
  rintro e w' ⟨rfl, hb⟩
  have hb2 := bl_trans hJ hJ.size hb
  exact ⟨rfl, ButP.of hb, fun _ => hb2, fun _ => hb2⟩
 refine (allI_any (ad := ad) (cap := cap) hso hn (Below.refl _ _) hrow (fun b hb => ⟨hb, fun h => h.elim⟩) ⟨rfl, fun q hq => by simp [List.getD, hq]⟩).mono ?_
 rintro e W' ⟨r, rfl, h⟩
 obtain ⟨h1, h2⟩ := all_bl h
 rw [range_all p 0 L] at h1
 exact ⟨by rw [h1], h2⟩
theorem allRows_look {w : World} {f0 : FuncId} {bnd caps : Array Value} {ad : Option Addr} {cap : Nat} {L : List (List Int)} (hn : L.length ≤ 100000) (hrow : XWs (InH w) w (.slice ad L.length cap) L) (ent : ∀ args X, (callFunc f0 args).run Tryz.prog X = .ok (.enter f0 args) X) (p : List Int → Bool)
  (hc : ∀ x ∈ L, ∀ X, Below w.heap.size w X → ∀ ad1 cap1, XRow (InH X) X (.slice ad1 x.length cap1) x.length (intsG x) → Calls Tryz.prog f0 (bnd.push (.slice ad1 x.length cap1) ++ caps) X fun e w' => e = .returned (.bool (p x)) ∧ Below X.heap.size X w') :
  Calls Tryz.prog 62 #[.slice ad L.length cap, .func (.func f0) bnd caps] w fun e w' => e = .returned (.bool (L.all p)) ∧ Below w.heap.size w w' := by
 obtain ⟨el, hel⟩ := hrow.els
 have hso : SoC w L.length (fun _ => False) f0 bnd caps el (fun q => p (L.getD q [])) (fun _ X => Below w.heap.size w X) (fun X => Below w.heap.size w X) := by
  refine ⟨ent, fun _ h => h.elim, fun _ X Y h k => bl_trans h h.size k, fun q X hq hJ _ => ?_⟩
  obtain ⟨g, off, ad1, cap1, _, _, hr, _, hv⟩ := hel q hq
  rw [hv, show L.getD q [] = L[q] from by simp [List.getD, hq]]
  refine (hc _ (List.getElem_mem hq) X hJ ad1 cap1 (hr.imp (inH_up hJ) (keepH hJ))).mono ?_
  rintro e w' ⟨rfl, hb⟩
  have hb2 := bl_trans hJ hJ.size hb
  exact ⟨rfl, ButP.of hb, fun _ => hb2, fun _ => hb2⟩
 refine (allW_any (ad := ad) (cap := cap) hso hn (Below.refl _ _) (l := L) rfl (A := InH w) (fun b hb => ⟨hb, fun h => h.elim⟩) (fun q hq => by
  obtain ⟨g, off, ad1, cap1, e, hg, _, k0, hv⟩ := hel q hq
  exact ⟨g, off, ad1, cap1, e, hg, k0, hv⟩)).mono ?_
 rintro e W' ⟨r, rfl, h⟩
 obtain ⟨h1, h2⟩ := all_bl h
 rw [range_all p [] L] at h1
 exact ⟨by rw [h1], h2⟩
set_option maxRecDepth 100000 in
set_option maxHeartbeats 8000000 in
theorem bounded_any {w : World} (hT : TabP w) (hE : TabE w) {cp : Nat} {nm : List UInt8} {P V : Int} {ba : Option Addr} {N bc : Nat} {mv : Value} (hN : N ≤ 100000) (hk : w.heap[cp]? = some (.cells (ckV nm P V (.slice ba N bc) mv) 72 (0, 0))) (b : Pb) (hlow : LowB b) (pa ia ta wa : Option Addr) (pc ic tc wq : Nat)
  (hP : XRow (InH w) w (.slice pa b.params.length pc) b.params.length (intsG b.params)) (hI : XIs (InH w) w (.slice ia b.ins.length ic) b.ins) (hTo : XRow (InH w) w (.slice ta b.tos.length tc) b.tos.length (intsG b.tos)) (hW : XWs (InH w) w (.slice wa b.wi.length wq) b.wi) :
  Calls Tryz.prog 35 #[.pointer (some ⟨cp, 0, none⟩), .agg #[.slice pa b.params.length pc, .slice ia b.ins.length ic, .string ⟨b.fin.toArray⟩, .int .i64 b.v, .slice ta b.tos.length tc, .slice wa b.wi.length wq]] w fun e w' => e = .returned (.bool (bBound V P N b)) ∧ Below w.heap.size w w' := by
 obtain ⟨W1, hW1⟩ : ∃ W1, W1 = (w.alloc (.cells #[.pointer (some ⟨cp, 0, none⟩)] 69)).alloc (.cells #[.slice pa b.params.length pc, .slice ia b.ins.length ic, .string ⟨b.fin.toArray⟩, .int .i64 b.v, .slice ta b.tos.length tc, .slice wa b.wi.length wq] 56) := ⟨_, rfl⟩
 have hb1 : Below w.heap.size w W1 := by rw [hW1]; (repeat (first | exact Below.refl _ _ | assumption | refine Below.drew ?_ | refine bT ?_ _ | refine bS ?_ _ | refine bA ?_ _))
 have hx0 : W1.heap[w.heap.size]? = some (.cells #[.pointer (some ⟨cp, 0, none⟩)] 69 (0, 0)) := by
  rw [hW1, Below.heap_alloc _ _ _ (by simp)]; exact heap_alloc_new _ _
 have hx1 : W1.heap[w.heap.size + 1]? = some (.cells #[.slice pa b.params.length pc, .slice ia b.ins.length ic, .string ⟨b.fin.toArray⟩, .int .i64 b.v, .slice ta b.tos.length tc, .slice wa b.wi.length wq] 56 (0, 0)) := by
  rw [hW1]
  have := heap_alloc_new (w.alloc (.cells #[.pointer (some ⟨cp, 0, none⟩)] 69)) (.cells #[.slice pa b.params.length pc, .slice ia b.ins.length ic, .string ⟨b.fin.toArray⟩, .int .i64 b.v, .slice ta b.tos.length tc, .slice wa b.wi.length wq] 56)
  rwa [World.size_alloc] at this
 have HUP := hidX (fun (Y : World) (hY : Below W1.heap.size W1 Y) => bl_trans hb1 hb1.size hY)
 have HCK := hidX (fun (Y : World) (hY : Below W1.heap.size W1 Y) => show Y.heap[cp]? = some (.cells (ckV nm P V (.slice ba N bc) mv) 72 (0, 0)) from ((bl_trans hb1 hb1.size hY).block _ (heap_lt hk)).trans hk)
 have HKB := hidX (fun (Y : World) (hY : Below W1.heap.size W1 Y) => (hY.block _ (heap_lt hx0)).trans hx0)
 have HX := hidX (fun (Y : World) (hY : Below W1.heap.size W1 Y) => (show Y.cell? ⟨w.heap.size, 0, none⟩ = some (.pointer (some ⟨cp, 0, none⟩)) ∧ Y.cell? ⟨w.heap.size + 1, 0, none⟩ = some (.slice pa b.params.length pc) ∧ Y.cell? ⟨w.heap.size + 1, 1, none⟩ = some (.slice ia b.ins.length ic) ∧ Y.cell? ⟨w.heap.size + 1, 2, none⟩ = some (.string ⟨b.fin.toArray⟩) ∧ Y.cell? ⟨w.heap.size + 1, 3, none⟩ = some (.int .i64 b.v) ∧ Y.cell? ⟨w.heap.size + 1, 4, none⟩ = some (.slice ta b.tos.length tc) ∧ Y.cell? ⟨w.heap.size + 1, 5, none⟩ = some (.slice wa b.wi.length wq) from by
  have h0 := (hY.block _ (heap_lt hx0)).trans hx0
  have h := (hY.block _ (heap_lt hx1)).trans hx1
  exact ⟨cell_of_blk h0 0, cell_of_blk h 0, cell_of_blk h 1, cell_of_blk h 2, cell_of_blk h 3, cell_of_blk h 4, cell_of_blk h 5⟩))
 have H1 := hidX (fun (Y : World) (hY : Below W1.heap.size W1 Y) => areValues_any (HCK.out Y hY) b.params (by have := hlow.params; omega) (hP.imp (inH_up (HUP.out Y hY)) (keepH (HUP.out Y hY))))
 have H2 := hidX (fun (Y : World) (hY : Below W1.heap.size W1 Y) => allIns_look (bnd := #[.pointer (some ⟨cp, 0, none⟩)]) (f0 := 58) (by have := hlow.ins; omega) (hI.imp (inH_up (HUP.out Y hY)) (keepH (HUP.out Y hY))) (enters_of Tryz.func58 (by kernel_rfl) rfl) (pBound V P) (fun x hx X hX ad1 cap1 hr => by
  have hYX := bl_trans hY hY.size hX
  have h := boundedIns_any (hT.below (HUP.out X hYX)) (HCK.out X hYX) x (by have := hlow.args x hx; omega) ad1 cap1 hr
  simpa using h))
 have H3 := hidX (fun (Y : World) (hY : Below W1.heap.size W1 Y) => endingOf_val b.fin Y (hE.below (HUP.out Y hY)))
 have H3b := hidX (fun (Y : World) (hY : Below W1.heap.size W1 Y) => isValue_any (HCK.out Y hY) b.v)
 have H4 := hidX (fun (Y : World) (hY : Below W1.heap.size W1 Y) => allInts_look (bnd := #[]) (caps := #[.pointer (some ⟨w.heap.size, 0, none⟩)]) (f0 := 61) (by have := hlow.tos; omega) (hTo.imp (inH_up (HUP.out Y hY)) (keepH (HUP.out Y hY))) (enters_of Tryz.func61 (by kernel_rfl) rfl) (inV (N : Int)) (fun x hx X hX => by
  have hYX := bl_trans hY hY.size hX
  have h : Calls Tryz.prog 61 #[.int .i64 x, .pointer (some ⟨w.heap.size, 0, none⟩)] X (fun e w' => e = .returned (.bool (inV (N : Int) x)) ∧ Below X.heap.size X w') := (bounded1_any hN (HCK.out X hYX) (HKB.out X hYX) x).mono (fun e w' h => ⟨h.1, by rw [h.2]; exact Below.refl _ _⟩)
  simpa using h))
 have H5 := hidX (fun (Y : World) (hY : Below W1.heap.size W1 Y) => allRows_look (bnd := #[.pointer (some ⟨cp, 0, none⟩)]) (caps := #[]) (f0 := 57) (by have := hlow.wi; omega) (hW.imp (inH_up (HUP.out Y hY)) (keepH (HUP.out Y hY))) (enters_of Tryz.func57 (by kernel_rfl) rfl) (fun l => l.all (inV V)) (fun x hx X hX ad1 cap1 hr => by
  have hYX := bl_trans hY hY.size hX
  have h := areValues_any (HCK.out X hYX) x (by have := hlow.each x hx; omega) hr
  simpa using h))
 have hbb : bBound V P N b = (b.params.all (inV V) && b.ins.all (pBound V P) && (!(pen b.fin).v || inV V b.v) && b.tos.all (inV (N : Int)) && b.wi.all (fun l => l.all (inV V))) := rfl
 rw [hbb]
 have hf := fen2 (pen b.fin).kind ((pen b.fin).ways : Int) (pen b.fin).v
 generalize (pen b.fin).kind = sk at *
 generalize ((pen b.fin).ways : Int) = sa at *
 generalize (pen b.fin).v = sv at *
 generalize b.params.all (inV V) = p1 at *
 generalize b.ins.all (pBound V P) = p2 at *
 generalize inV V b.v = p3 at *
 generalize b.tos.all (inV (N : Int)) = p4 at *
 generalize b.wi.all (fun l => l.all (inV V)) = p5 at *
 obtain ⟨k0, b0, b1, b2, b3, b4, b5⟩ := HX.out W1 (Below.refl _ _)
 clear hb1 hx0 hx1 hT hE hk hP hI hTo hW hlow hbb
 go_enter Tryz.func35, Tryz.ntmps35
 go_wp2_with fail
 rw [← hW1]
 clear hW1
 refine (H1.out W1 (Below.refl _ _)).mono ?_
 rintro e Y1 ⟨rfl, hy1⟩
 have HY1 := hidX hy1
 clear k0 b0 b1 b2 b3 b4 b5 hy1
 obtain ⟨k0, b0, b1, b2, b3, b4, b5⟩ := HX.out Y1 HY1.out
 cases p1
 ·have HF := hidX (HUP.out Y1 HY1.out)
  go_wp2
  go_ret
  exact ⟨by first | rfl | (simp; done), HF.out⟩
 ·go_wp2_with fail
  refine (H2.out Y1 HY1.out).mono ?_
  rintro e Y2 ⟨rfl, hy2'⟩
  have hy2 := bl_trans HY1.out HY1.out.size hy2'
  clear hy2'
  have HY2 := hidX hy2
  clear k0 b0 b1 b2 b3 b4 b5 hy2
  obtain ⟨k0, b0, b1, b2, b3, b4, b5⟩ := HX.out Y2 HY2.out
  cases p2
  ·have HF := hidX (HUP.out Y2 HY2.out)
   go_wp2
   go_ret
   exact ⟨by first | rfl | (simp; done), HF.out⟩
  ·go_wp2_with fail
   refine (H3.out Y2 HY2.out).mono ?_
   rintro e Y3 ⟨rfl, hy3'⟩
   have hy3 := bl_trans HY2.out HY2.out.size hy3'
   clear hy3'
   have HY3 := hidX hy3
   clear k0 b0 b1 b2 b3 b4 b5 hy3
   obtain ⟨k0, b0, b1, b2, b3, b4, b5⟩ := HX.out Y3 HY3.out
   cases sv
   ·go_wp2_with fail
    refine (H4.out Y3 HY3.out).mono ?_
    rintro e Y4 ⟨rfl, hy4'⟩
    have hy4 := bl_trans HY3.out HY3.out.size hy4'
    clear hy4'
    have HY4 := hidX hy4
    clear k0 b0 b1 b2 b3 b4 b5 hy4
    obtain ⟨k0, b0, b1, b2, b3, b4, b5⟩ := HX.out Y4 HY4.out
    cases p4
    ·have HF := hidX (HUP.out Y4 HY4.out)
     go_wp2
     go_ret
     exact ⟨by first | rfl | (simp; done), HF.out⟩
    ·go_wp2_with fail
     refine (H5.out Y4 HY4.out).mono ?_
     rintro e Y5 ⟨rfl, hy5'⟩
     have hy5 := bl_trans HY4.out HY4.out.size hy5'
     clear hy5'
     have HY5 := hidX hy5
     clear k0 b0 b1 b2 b3 b4 b5 hy5
     obtain ⟨k0, b0, b1, b2, b3, b4, b5⟩ := HX.out Y5 HY5.out
     have HF := hidX (HUP.out Y5 HY5.out)
     go_wp2
     go_ret
     exact ⟨by first | rfl | (simp; done), HF.out⟩
   ·go_wp2_with fail
    refine (H3b.out Y3 HY3.out).mono ?_
    rintro e Y4 ⟨rfl, hh⟩
    replace hh := hh.symm
    subst hh
    cases p3
    ·have HF := hidX (HUP.out Y3 HY3.out)
     go_wp2
     go_ret
     exact ⟨by first | rfl | (simp; done), HF.out⟩
    ·go_wp2_with fail
     refine (H4.out Y3 HY3.out).mono ?_
     rintro e Y4 ⟨rfl, hy4'⟩
     have hy4 := bl_trans HY3.out HY3.out.size hy4'
     clear hy4'
     have HY4 := hidX hy4
     clear k0 b0 b1 b2 b3 b4 b5 hy4
     obtain ⟨k0, b0, b1, b2, b3, b4, b5⟩ := HX.out Y4 HY4.out
     cases p4
     ·have HF := hidX (HUP.out Y4 HY4.out)
      go_wp2
      go_ret
      exact ⟨by first | rfl | (simp; done), HF.out⟩
     ·go_wp2_with fail
      refine (H5.out Y4 HY4.out).mono ?_
      rintro e Y5 ⟨rfl, hy5'⟩
      have hy5 := bl_trans HY4.out HY4.out.size hy5'
      clear hy5'
      have HY5 := hidX hy5
      clear k0 b0 b1 b2 b3 b4 b5 hy5
      obtain ⟨k0, b0, b1, b2, b3, b4, b5⟩ := HX.out Y5 HY5.out
      have HF := hidX (HUP.out Y5 HY5.out)
      go_wp2
      go_ret
      exact ⟨by first | rfl | (simp; done), HF.out⟩
end Go.Proofs.YtmckajgacfjnhaaGreatDoor
namespace Go.Proofs.YtmckajgacfjnhaaGreatDoor
open Go.RowKit
set_option maxRecDepth 100000 in
set_option maxHeartbeats 8000000 in
theorem fitWith_any {w : World} {cp : Nat} {nm : List UInt8} {P V : Int} {ba : Option Addr} {bc : Nat} {mv : Value} (L : List Pb) (_hN : L.length ≤ 100000) (hk : w.heap[cp]? = some (.cells (ckV nm P V (.slice ba L.length bc) mv) 72 (0, 0))) (hC : XCo (InH w) w (.slice ba L.length bc) L) (b : Pb) (hlow : LowB b) (hto : ∀ t ∈ b.tos, 0 ≤ t ∧ t < (L.length : Int)) (pa ia ta wa : Option Addr) (pc ic tc wq : Nat)
  (hTo : XRow (InH w) w (.slice ta b.tos.length tc) b.tos.length (intsG b.tos)) (hW : XWs (InH w) w (.slice wa b.wi.length wq) b.wi) :
  Calls Tryz.prog 64 #[.pointer (some ⟨cp, 0, none⟩), .agg #[.slice pa b.params.length pc, .slice ia b.ins.length ic, .string ⟨b.fin.toArray⟩, .int .i64 b.v, .slice ta b.tos.length tc, .slice wa b.wi.length wq]] w fun e w' => e = .returned (.bool (bFit L b)) ∧ Below w.heap.size w w' := by
 obtain ⟨W1, hW1⟩ : ∃ W1, W1 = w.alloc (.cells #[.slice pa b.params.length pc, .slice ia b.ins.length ic, .string ⟨b.fin.toArray⟩, .int .i64 b.v, .slice ta b.tos.length tc, .slice wa b.wi.length wq] 56) := ⟨_, rfl⟩
 have hb1 : Below w.heap.size w W1 := by rw [hW1]; (repeat (first | exact Below.refl _ _ | assumption | refine Below.drew ?_ | refine bT ?_ _ | refine bS ?_ _ | refine bA ?_ _))
 have hx1 : W1.heap[w.heap.size]? = some (.cells #[.slice pa b.params.length pc, .slice ia b.ins.length ic, .string ⟨b.fin.toArray⟩, .int .i64 b.v, .slice ta b.tos.length tc, .slice wa b.wi.length wq] 56 (0, 0)) := by rw [hW1]; exact heap_alloc_new _ _
 have HUP := hidX (fun (Y : World) (hY : Below W1.heap.size W1 Y) => bl_trans hb1 hb1.size hY)
 have HX := hidX (fun (Y : World) (hY : Below W1.heap.size W1 Y) => (show Y.cell? ⟨w.heap.size, 4, none⟩ = some (.slice ta b.tos.length tc) ∧ Y.cell? ⟨w.heap.size, 5, none⟩ = some (.slice wa b.wi.length wq) ∧ Y.cell? ⟨cp, 3, none⟩ = some (.slice ba L.length bc) from by
  have h := (hY.block _ (heap_lt hx1)).trans hx1
  have h2 := ((bl_trans hb1 hb1.size hY).block _ (heap_lt hk)).trans hk
  exact ⟨cell_of_blk h 4, cell_of_blk h 5, cell_of_blk h2 3⟩))
 obtain ⟨res, hres⟩ : ∃ r, r = bFit L b := ⟨_, rfl⟩
 rw [← hres]
 have HRES := hidX hres
 have HC := hidX hC
 have HT := hidX hTo
 have HW := hidX hW
 have HTO := hidX hto
 obtain ⟨d4, d5, d3⟩ := HX.out W1 (Below.refl _ _)
 have hl1 : (b.tos.length : Int) ≤ 1000 := by have := hlow.tos; omega
 have hl2 : (b.wi.length : Int) ≤ 1000 := by have := hlow.wi; omega
 clear hb1 hx1 hk hC hTo hW hto hlow hres
 by_cases hll : b.wi.length = b.tos.length
 ·have t0 : ((b.wi.length : Int) != (b.tos.length : Int)) = false := by simp [hll]
  have HLL := hidX hll
  have HR2 := hidX (show res = (List.range b.tos.length).all fun i => decide ((b.wi.getD i []).length = (blkAt L (b.tos.getD i 0)).params.length) from by rw [HRES.out]; unfold bFit; rw [decide_eq_true hll]; rfl)
  clear hll
  go_enter Tryz.func64, Tryz.ntmps64
  go_wp2_with fail
  rw [← hW1]
  clear hW1
  go_loopw [5, 6, 17] (fun _ _ i wr => ∃ q : Nat, q ≤ b.tos.length ∧ i = .int .i64 (q : Int) ∧ Hid (Below W1.heap.size W1 wr) ∧ Hid (∀ j, j < q → (b.wi.getD j []).length = (blkAt L (b.tos.getD j 0)).params.length)) (fun _ _ i _ => b.tos.length - (intOf i).toNat)
  case atStart => exact ⟨0, by omega, rfl, Below.refl _ _, fun j hj => absurd hj (by omega)⟩
  case round =>
   obtain ⟨q, hq, rfl, HB, HA⟩ := hrel
   obtain ⟨e4, e5, e3⟩ := HX.out wr HB.out
   by_cases hlt : q < b.tos.length
   ·have hlt' : (q : Int) < (b.tos.length : Int) := by omega
    have hq2 : q < b.wi.length := by rw [HLL.out]; exact hlt
    have hq2' : (q : Int) < (b.wi.length : Int) := by omega
    have hup := HUP.out wr HB.out
    obtain ⟨g, off, ad1, cap1, e1, hg, hr, k0⟩ := (HW.out.imp (inH_up hup) (keepH hup)).row hq2
    obtain ⟨gt, offt, et, hgt, kt⟩ := (HT.out.imp (inH_up hup) (keepH hup)).int hlt
    have htb := HTO.out _ (List.getElem_mem hlt)
    obtain ⟨tn, htn⟩ : ∃ tn : Nat, b.tos[q] = (tn : Int) := ⟨b.tos[q].toNat, by omega⟩
    have htl : tn < L.length := by omega
    have htl' : (tn : Int) < (L.length : Int) := by omega
    obtain ⟨gb, offb, pa', pc', ia', ic', ta', tc', wa', wc', eb, hgb, -, -, -, -, kb, -⟩ := (HC.out.imp (inH_up hup) (keepH hup)).blk htl
    subst e1 et eb
    rw [htn] at kt
    have HLE := hidX (show (b.wi.getD q []).length = b.wi[q].length from by simp [List.getD, hq2])
    have HLP := hidX (show (blkAt L (b.tos.getD q 0)).params.length = L[tn].params.length from by
     rw [show b.tos.getD q 0 = (tn : Int) from by simp [List.getD, hlt, htn]]; simp [blkAt, htl])
    have HBD := hidX (fun (n : Nat) => bT HB.out n)
    generalize b.wi[q].length = x1 at *
    generalize L[tn].params.length = x2 at *
    clear hr htb htn hup
    by_cases hxx : x1 = x2
    ·have tx : ((x1 : Int) == (x2 : Int)) = true := by simp [hxx]
     have ty : ((x1 : Int) != (x2 : Int)) = false := by simp [hxx]
     have HS2 := hidX (show ∀ j, j < q + 1 → (b.wi.getD j []).length = (blkAt L (b.tos.getD j 0)).params.length from fun j hj => by
      by_cases e : j = q
      ·subst e; rw [HLE.out, HLP.out]; exact hxx
      ·exact HA.out j (by omega))
     clear hxx
     go_wp2_with fail
     go_quiet (fail)
     go_wp2
     go_roundw
     case rel => exact ⟨q + 1, by omega, by go_num, HBD.out _, HS2.out⟩
     case measure => simp [intOf]; omega
    ·have tx : ((x1 : Int) == (x2 : Int)) = false := by rw [beq_eq_false_iff_ne]; omega
     have ty : ((x1 : Int) != (x2 : Int)) = true := by rw [bne, tx]; rfl
     have hr : res = false := by
      rw [HR2.out, List.all_eq_false]
      exact ⟨q, List.mem_range.2 hlt, by rw [HLE.out, HLP.out]; simpa using hxx⟩
     subst hr
     have HF := hidX (fun (n : Nat) => HUP.out _ (bT HB.out n))
     clear hxx
     go_wp2_with fail
     go_quiet (fail)
     go_wp2
     go_ret
     exact ⟨rfl, HF.out _⟩
   ·have hqn : q = b.tos.length := by omega
    have hr : res = true := by
     rw [HR2.out, List.all_eq_true]
     intro j hj
     have := HA.out j (by have := List.mem_range.1 hj; omega)
     simpa using this
    subst hr hqn
    have HF := hidX (HUP.out wr HB.out)
    go_wp2
    go_ret
    exact ⟨rfl, HF.out⟩
 ·have t0 : ((b.wi.length : Int) != (b.tos.length : Int)) = true := by rw [bne, beq_eq_false_iff_ne.2 (by omega)]; rfl
  have hr : res = false := by rw [HRES.out]; unfold bFit; rw [decide_eq_false hll]; rfl
  subst hr
  clear hll
  have HF := hidX (HUP.out W1 (Below.refl _ _))
  go_enter Tryz.func64, Tryz.ntmps64
  go_wp2_with (rw [← hW1]; clear hW1)
  go_ret
  exact ⟨rfl, HF.out⟩
set_option maxRecDepth 100000 in
set_option maxHeartbeats 8000000 in
theorem shaped_any {w : World} (hT : TabP w) (hE : TabE w) {cp : Nat} {nm : List UInt8} {P V : Int} {ba : Option Addr} {bc : Nat} {mv : Value} (L : List Pb) (hN : L.length ≤ 100000) (hk : w.heap[cp]? = some (.cells (ckV nm P V (.slice ba L.length bc) mv) 72 (0, 0))) (hC : XCo (InH w) w (.slice ba L.length bc) L) (b : Pb) (hlow : LowB b) (hto : ∀ t ∈ b.tos, 0 ≤ t ∧ t < (L.length : Int)) (pa ia ta wa : Option Addr) (pc ic tc wq : Nat)
  (hI : XIs (InH w) w (.slice ia b.ins.length ic) b.ins) (hTo : XRow (InH w) w (.slice ta b.tos.length tc) b.tos.length (intsG b.tos)) (hW : XWs (InH w) w (.slice wa b.wi.length wq) b.wi) :
  Calls Tryz.prog 36 #[.pointer (some ⟨cp, 0, none⟩), .agg #[.slice pa b.params.length pc, .slice ia b.ins.length ic, .string ⟨b.fin.toArray⟩, .int .i64 b.v, .slice ta b.tos.length tc, .slice wa b.wi.length wq]] w fun e w' => e = .returned (.bool (bShape L b)) ∧ Below w.heap.size w w' := by
 obtain ⟨W1, hW1⟩ : ∃ W1, W1 = w.alloc (.cells #[.slice pa b.params.length pc, .slice ia b.ins.length ic, .string ⟨b.fin.toArray⟩, .int .i64 b.v, .slice ta b.tos.length tc, .slice wa b.wi.length wq] 56) := ⟨_, rfl⟩
 have hb1 : Below w.heap.size w W1 := by rw [hW1]; (repeat (first | exact Below.refl _ _ | assumption | refine Below.drew ?_ | refine bT ?_ _ | refine bS ?_ _ | refine bA ?_ _))
 have hx1 : W1.heap[w.heap.size]? = some (.cells #[.slice pa b.params.length pc, .slice ia b.ins.length ic, .string ⟨b.fin.toArray⟩, .int .i64 b.v, .slice ta b.tos.length tc, .slice wa b.wi.length wq] 56 (0, 0)) := by rw [hW1]; exact heap_alloc_new _ _
 have HUP := hidX (fun (Y : World) (hY : Below W1.heap.size W1 Y) => bl_trans hb1 hb1.size hY)
 have HX := hidX (fun (Y : World) (hY : Below W1.heap.size W1 Y) => (show Y.cell? ⟨w.heap.size, 0, none⟩ = some (.slice pa b.params.length pc) ∧ Y.cell? ⟨w.heap.size, 1, none⟩ = some (.slice ia b.ins.length ic) ∧ Y.cell? ⟨w.heap.size, 2, none⟩ = some (.string ⟨b.fin.toArray⟩) ∧ Y.cell? ⟨w.heap.size, 3, none⟩ = some (.int .i64 b.v) ∧ Y.cell? ⟨w.heap.size, 4, none⟩ = some (.slice ta b.tos.length tc) ∧ Y.cell? ⟨w.heap.size, 5, none⟩ = some (.slice wa b.wi.length wq) from by
  have h := (hY.block _ (heap_lt hx1)).trans hx1
  exact ⟨cell_of_blk h 0, cell_of_blk h 1, cell_of_blk h 2, cell_of_blk h 3, cell_of_blk h 4, cell_of_blk h 5⟩))
 have H1 := hidX (endingOf_val b.fin W1 (hE.below hb1))
 have H2 := hidX (fun (Y : World) (hY : Below W1.heap.size W1 Y) => allIns_look (bnd := #[]) (f0 := 63) (by have := hlow.ins; omega) (hI.imp (inH_up (HUP.out Y hY)) (keepH (HUP.out Y hY))) (enters_of Tryz.func63 (by kernel_rfl) rfl) pShape (fun x hx X hX ad1 cap1 hr => by
  have hYX := bl_trans hY hY.size hX
  have h := shapedIns_any (hT.below (HUP.out X hYX)) x ad1 cap1
  simpa using h))
 have H3 := hidX (fun (Y : World) (hY : Below W1.heap.size W1 Y) => fitWith_any L hN (((HUP.out Y hY).block _ (heap_lt hk)).trans hk) (hC.imp (inH_up (HUP.out Y hY)) (keepH (HUP.out Y hY))) b hlow hto pa ia ta wa pc ic tc wq (hTo.imp (inH_up (HUP.out Y hY)) (keepH (HUP.out Y hY))) (hW.imp (inH_up (HUP.out Y hY)) (keepH (HUP.out Y hY))))
 obtain ⟨b1, t1⟩ : ∃ x, ((b.tos.length : Int) == ((pen b.fin).ways : Int)) = x := ⟨_, rfl⟩
 obtain ⟨b2, t2⟩ : ∃ x, (b.v == 0) = x := ⟨_, rfl⟩
 have hbb : bShape L b = (b.ins.all pShape && b1 && ((pen b.fin).v || b2) && bFit L b) := by
  rw [← t1, ← t2]
  unfold bShape
  rw [show decide (b.tos.length = (pen b.fin).ways) = ((b.tos.length : Int) == ((pen b.fin).ways : Int)) from by rw [Bool.eq_iff_iff]; simp; omega]
 rw [hbb]
 generalize (pen b.fin).kind = sk at *
 generalize ((pen b.fin).ways : Int) = sa at *
 generalize (pen b.fin).v = sv at *
 generalize b.ins.all pShape = p1 at *
 generalize bFit L b = p2 at *
 obtain ⟨-, -, c2, -⟩ := HX.out W1 (Below.refl _ _)
 clear hb1 hx1 hT hE hk hC hI hTo hW hlow hto hbb
 go_enter Tryz.func36, Tryz.ntmps36
 go_wp2_with fail
 rw [← hW1]
 clear hW1
 refine H1.out.mono ?_
 rintro e Y1 ⟨rfl, hy1⟩
 obtain ⟨Y2, hY2⟩ : ∃ Y2, Y2 = Y1.alloc (.cells #[.string ⟨sk.toArray⟩, .int .i64 sa, .bool sv] 120) := ⟨_, rfl⟩
 have hy12 : Below Y1.heap.size Y1 Y2 := by rw [hY2]; (repeat (first | exact Below.refl _ _ | assumption | refine Below.drew ?_ | refine bT ?_ _ | refine bS ?_ _ | refine bA ?_ _))
 have hx2 : Y2.heap[Y1.heap.size]? = some (.cells #[.string ⟨sk.toArray⟩, .int .i64 sa, .bool sv] 120 (0, 0)) := by rw [hY2]; exact heap_alloc_new _ _
 have hy2 := bl_trans hy1 hy1.size hy12
 have HY2 := hidX hy2
 have HX2 := hidX (fun (Y : World) (hY : Below Y2.heap.size Y2 Y) => (show Y.cell? ⟨Y1.heap.size, 1, none⟩ = some (.int .i64 sa) ∧ Y.cell? ⟨Y1.heap.size, 2, none⟩ = some (.bool sv) from by
  have h := (hY.block _ (heap_lt hx2)).trans hx2
  exact ⟨cell_of_blk h 1, cell_of_blk h 2⟩))
 obtain ⟨d0, d1, d2, d3, d4, d5⟩ := HX.out Y1 hy1
 have hlt1 : w.heap.size < Y1.heap.size := cell_lt d0
 clear d0 d2 d3 d4 d5 c2 hy12 hx2 hy1 hy2
 go_wp2_with fail
 rw [← hY2]
 clear hY2 d1
 refine (H2.out Y2 HY2.out).mono ?_
 rintro e Y3 ⟨rfl, hy3⟩
 have HY3 := hidX (bl_trans HY2.out HY2.out.size hy3)
 obtain ⟨d0, d1, d2, d3, d4, d5⟩ := HX.out Y3 HY3.out
 obtain ⟨s1, s2⟩ := HX2.out Y3 hy3
 have HF := hidX (HUP.out Y3 HY3.out)
 clear hy3
 cases p1
 ·go_wp2
  go_ret
  exact ⟨by first | rfl | (simp; done), HF.out⟩
 cases b1
 ·go_wp2
  go_ret
  exact ⟨by first | rfl | (simp; done), HF.out⟩
 rcases three_ways sv b2 with rfl | ⟨rfl, rfl⟩ | ⟨rfl, rfl⟩
 ·go_wp2_with fail
  refine (H3.out Y3 HY3.out).mono ?_
  rintro e Y4 ⟨rfl, hy4⟩
  have HF4 := hidX (HUP.out Y4 (bl_trans HY3.out HY3.out.size hy4))
  clear hy4
  go_wp2
  go_ret
  exact ⟨by first | rfl | (simp; done), HF4.out⟩
 ·go_wp2_with fail
  refine (H3.out Y3 HY3.out).mono ?_
  rintro e Y4 ⟨rfl, hy4⟩
  have HF4 := hidX (HUP.out Y4 (bl_trans HY3.out HY3.out.size hy4))
  clear hy4
  go_wp2
  go_ret
  exact ⟨by first | rfl | (simp; done), HF4.out⟩
 ·go_wp2
  go_ret
  exact ⟨by first | rfl | (simp; done), HF.out⟩
end Go.Proofs.YtmckajgacfjnhaaGreatDoor
