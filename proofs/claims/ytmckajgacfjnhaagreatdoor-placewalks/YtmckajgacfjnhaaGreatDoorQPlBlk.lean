/- Our own: texts joined: PlBlk. -/
import Derived.Test.YtmckajgacfjnhaaGreatDoorQNewAll
namespace Go.Proofs.YtmckajgacfjnhaaGreatDoor
open Go.RowKit Go.Maps
def errC (a : Nat → Addr) (c : Nat) : Value := if c = 0 then .nilIface else sentV (a (c - 1))
set_option maxRecDepth 100000 in
set_option maxHeartbeats 8000000 in
theorem block_any {w : World} {a : Nat → Addr} (hS : Sents w a) (hT : TabP w) (hE : TabE w) {cp mb : Nat} (hmb : 13 ≤ mb) {nm : List UInt8} {P V : Int} {ba : Option Addr} {bc : Nat} (hV : V ≤ 1000) (L : List Pb) (hN : L.length ≤ 100000) (hk : w.heap[cp]? = some (.cells (ckV nm P V (.slice ba L.length bc) (.map (some mb))) 72 (0, 0))) (hcm : cp ≠ mb) (prev : List Int) (hp0 : ∀ y ∈ prev, 0 ≤ y) (hpl : prev.length ≤ 400000) (hM : HangAt w mb (natL prev).reverse) {A : Nat → Prop} (hA : ∀ b, A b → b < w.heap.size ∧ b ≠ mb) (hC : XCo A w (.slice ba L.length bc) L) (b : Pb) (hlow : LowB b) (pa ia ta wa : Option Addr) (pc ic tc wq : Nat)
  (hP : XRow A w (.slice pa b.params.length pc) b.params.length (intsG b.params)) (hI : XIs A w (.slice ia b.ins.length ic) b.ins) (hTo : XRow A w (.slice ta b.tos.length tc) b.tos.length (intsG b.tos)) (hW : XWs A w (.slice wa b.wi.length wq) b.wi) :
  Calls Tryz.prog 21 #[.pointer (some ⟨cp, 0, none⟩), .agg #[.slice pa b.params.length pc, .slice ia b.ins.length ic, .string ⟨b.fin.toArray⟩, .int .i64 b.v, .slice ta b.tos.length tc, .slice wa b.wi.length wq]] w fun e w' => e = .returned (errC a (blockC onesE twosE V P L prev b)) ∧ ButP (fun k => k = mb) w w' ∧ (blockC onesE twosE V P L prev b = 0 → HangAt w' mb (natL (prev ++ defsB b)).reverse) := by
 obtain ⟨W1, hW1⟩ : ∃ W1, W1 = w.alloc (.cells #[.slice pa b.params.length pc, .slice ia b.ins.length ic, .string ⟨b.fin.toArray⟩, .int .i64 b.v, .slice ta b.tos.length tc, .slice wa b.wi.length wq] 56) := ⟨_, rfl⟩
 have hb1 : Below w.heap.size w W1 := by rw [hW1]; (repeat (first | exact Below.refl _ _ | assumption | refine Below.drew ?_ | refine bT ?_ _ | refine bS ?_ _ | refine bA ?_ _))
 have hx1 : W1.heap[w.heap.size]? = some (.cells #[.slice pa b.params.length pc, .slice ia b.ins.length ic, .string ⟨b.fin.toArray⟩, .int .i64 b.v, .slice ta b.tos.length tc, .slice wa b.wi.length wq] 56 (0, 0)) := by rw [hW1]; exact heap_alloc_new _ _
 have HUP := hidX (fun (Y : World) (hY : Below W1.heap.size W1 Y) => bl_trans hb1 hb1.size hY)
 have HX := hidX (fun (Y : World) (hY : Below W1.heap.size W1 Y) => (show Y.cell? ⟨w.heap.size, 0, none⟩ = some (.slice pa b.params.length pc) ∧ Y.cell? ⟨w.heap.size, 1, none⟩ = some (.slice ia b.ins.length ic) ∧ Y.cell? ⟨w.heap.size, 2, none⟩ = some (.string ⟨b.fin.toArray⟩) ∧ Y.cell? ⟨w.heap.size, 3, none⟩ = some (.int .i64 b.v) ∧ Y.cell? ⟨w.heap.size, 4, none⟩ = some (.slice ta b.tos.length tc) ∧ Y.cell? ⟨w.heap.size, 5, none⟩ = some (.slice wa b.wi.length wq) from by
  have h := (hY.block _ (heap_lt hx1)).trans hx1
  exact ⟨cell_of_blk h 0, cell_of_blk h 1, cell_of_blk h 2, cell_of_blk h 3, cell_of_blk h 4, cell_of_blk h 5⟩))
 have hAY : ∀ Y : World, Below w.heap.size w Y → (∀ b, A b → InH Y b) ∧ KeepA A w Y := fun Y hY => ⟨fun b hb => by have := (hA b hb).1; have := hY.size; show b < Y.heap.size; omega, fun b hb => hY.block b (hA b hb).1⟩
 have hcY : ∀ Y : World, Below w.heap.size w Y → Y.heap[cp]? = some (.cells (ckV nm P V (.slice ba L.length bc) (.map (some mb))) 72 (0, 0)) := fun Y hY => (hY.block _ (heap_lt hk)).trans hk
 have H1 := hidX (hasKinds_any (hS.below hb1) (hT.below hb1) (hE.below hb1) b (.slice pa b.params.length pc) (.slice ta b.tos.length tc) (.slice wa b.wi.length wq) ⟨_, _, _, rfl⟩ ⟨_, _, _, rfl⟩ ⟨_, _, _, rfl⟩ ia ic (by have := hlow.ins; omega) (hI.imp (hAY _ hb1).1 (hAY _ hb1).2))
 have H2 := hidX (fun (Y : World) (hY : Below W1.heap.size W1 Y) => bounded_any (hT.below (HUP.out Y hY)) (hE.below (HUP.out Y hY)) hN (hcY Y (HUP.out Y hY)) b hlow pa ia ta wa pc ic tc wq (hP.imp (hAY _ (HUP.out Y hY)).1 (hAY _ (HUP.out Y hY)).2) (hI.imp (hAY _ (HUP.out Y hY)).1 (hAY _ (HUP.out Y hY)).2) (hTo.imp (hAY _ (HUP.out Y hY)).1 (hAY _ (HUP.out Y hY)).2) (hW.imp (hAY _ (HUP.out Y hY)).1 (hAY _ (HUP.out Y hY)).2))
 have H3 := hidX (fun (Y : World) (hY : Below W1.heap.size W1 Y) (hto : ∀ t ∈ b.tos, 0 ≤ t ∧ t < (L.length : Int)) => shaped_any (hT.below (HUP.out Y hY)) (hE.below (HUP.out Y hY)) L hN (hcY Y (HUP.out Y hY)) (hC.imp (hAY _ (HUP.out Y hY)).1 (hAY _ (HUP.out Y hY)).2) b hlow hto pa ia ta wa pc ic tc wq (hI.imp (hAY _ (HUP.out Y hY)).1 (hAY _ (HUP.out Y hY)).2) (hTo.imp (hAY _ (HUP.out Y hY)).1 (hAY _ (HUP.out Y hY)).2) (hW.imp (hAY _ (HUP.out Y hY)).1 (hAY _ (HUP.out Y hY)).2))
 have H4 := hidX (fun (Y : World) (hY : Below W1.heap.size W1 Y) (hbp : ∀ x ∈ b.params, 0 ≤ x ∧ x ≤ 1000000) (hbi : ∀ x ∈ b.ins, (psh x.kind).d = true → 0 ≤ x.d ∧ x.d ≤ 1000000) => makesNew_any (hT.below (HUP.out Y hY)) (show 12 ≠ mb from by omega) (hcY Y (HUP.out Y hY)) hcm prev hp0 hpl (hM.keep ((HUP.out Y hY).block _ hM.lt)) b hlow hbp hbi pa ia ta wa pc ic tc wq (A := A) (fun c hc => ⟨by have := (hA c hc).1; have := (HUP.out Y hY).size; omega, (hA c hc).2⟩) (hP.imp (fun _ h => h) (hAY _ (HUP.out Y hY)).2) (hI.imp (fun _ h => h) (hAY _ (HUP.out Y hY)).2))
 have HBP := hidX (show bBound V P L.length b = true → (∀ x ∈ b.params, 0 ≤ x ∧ x ≤ 1000000) ∧ (∀ x ∈ b.ins, (psh x.kind).d = true → 0 ≤ x.d ∧ x.d ≤ 1000000) ∧ ∀ t ∈ b.tos, 0 ≤ t ∧ t < (L.length : Int) from fun h => ⟨fun x hx => by have := bound_params h x hx; omega, fun x hx hd => by have := bound_d h x hx hd; omega, fun t ht => by
  unfold bBound at h
  simp only [Bool.and_eq_true] at h
  have h2 := List.all_eq_true.1 h.1.2 t ht
  simpa [inV] using h2⟩)
 have hbC : blockC onesE twosE V P L prev b = if bKind onesE twosE b = false then 4 else if bBound V P L.length b = false then 2 else if bShape L b = false then 3 else if newB prev (defsB b) = false then 7 else 0 := rfl
 obtain ⟨res, hres⟩ : ∃ r, r = blockC onesE twosE V P L prev b := ⟨_, rfl⟩
 rw [← hres]
 rw [← hres] at hbC
 generalize bKind onesE twosE b = n1 at *
 generalize bBound V P L.length b = n2 at *
 generalize bShape L b = n3 at *
 generalize newB prev (defsB b) = n4 at *
 have HBC := hidX hbC
 have HGE := hidX (fun (Y : World) (hY : ButP (fun k => k = mb) w Y) => (World.cell?_of_block (w := w) (a := ⟨8, 0, none⟩) (hY.block _ (cell_lt (hS.glob 6 (by omega))) (show 8 ≠ mb from by omega))).trans (hS.glob 6 (by omega)))
 obtain ⟨f0, f1, f2, f3, f4, f5⟩ := HX.out W1 (Below.refl _ _)
 clear hb1 hx1 hT hE hk hC hP hI hTo hW hlow hM hA hAY hcY hbC hres hp0 hpl hcm
 go_enter Tryz.func21, Tryz.ntmps21
 go_wp2_with fail
 rw [← hW1]
 clear hW1
 refine H1.out.mono ?_
 rintro e Y1 ⟨rfl, hy1⟩
 have HY1 := hidX hy1
 clear f0 f1 f2 f3 f4 f5 hy1
 obtain ⟨f0, f1, f2, f3, f4, f5⟩ := HX.out Y1 HY1.out
 have HR1 := hidX (show n1 = false → res = 4 from fun h => by rw [HBC.out, if_pos h])
 cases n1
 ·have hr : res = 4 := HR1.out rfl
  subst hr
  have gc : Y1.cell? ⟨5, 0, none⟩ = _ := (hS.below (HUP.out Y1 HY1.out)).glob 3 (by omega)
  have HF := hidX (HUP.out Y1 HY1.out)
  clear hS
  go_wp2
  go_ret
  exact ⟨rfl, ButP.of HF.out, fun h => absurd h (by decide)⟩
 go_wp2_with fail
 refine (H2.out Y1 HY1.out).mono ?_
 rintro e Y2 ⟨rfl, hy2'⟩
 have hy2 := bl_trans HY1.out HY1.out.size hy2'
 clear hy2'
 have HY2 := hidX hy2
 clear f0 f1 f2 f3 f4 f5 hy2
 obtain ⟨f0, f1, f2, f3, f4, f5⟩ := HX.out Y2 HY2.out
 have HR2 := hidX (show n2 = false → res = 2 from fun h => by rw [HBC.out, if_neg (by simp), if_pos h])
 cases n2
 ·have hr : res = 2 := HR2.out rfl
  subst hr
  have gc : Y2.cell? ⟨4, 0, none⟩ = _ := (hS.below (HUP.out Y2 HY2.out)).glob 1 (by omega)
  have HF := hidX (HUP.out Y2 HY2.out)
  clear hS
  go_wp2
  go_ret
  exact ⟨rfl, ButP.of HF.out, fun h => absurd h (by decide)⟩
 obtain ⟨hq1, hq2, hq3⟩ := HBP.out rfl
 go_wp2_with fail
 refine (H3.out Y2 HY2.out hq3).mono ?_
 rintro e Y3 ⟨rfl, hy3'⟩
 have hy3 := bl_trans HY2.out HY2.out.size hy3'
 clear hy3'
 have HY3 := hidX hy3
 clear f0 f1 f2 f3 f4 f5 hy3
 obtain ⟨f0, f1, f2, f3, f4, f5⟩ := HX.out Y3 HY3.out
 have HR3 := hidX (show n3 = false → res = 3 from fun h => by rw [HBC.out, if_neg (by simp), if_neg (by simp), if_pos h])
 cases n3
 ·have hr : res = 3 := HR3.out rfl
  subst hr
  have gc : Y3.cell? ⟨1, 0, none⟩ = _ := (hS.below (HUP.out Y3 HY3.out)).glob 2 (by omega)
  have HF := hidX (HUP.out Y3 HY3.out)
  clear hS
  go_wp2
  go_ret
  exact ⟨rfl, ButP.of HF.out, fun h => absurd h (by decide)⟩
 have H5 := hidX (H4.out Y3 HY3.out hq1 hq2)
 clear hq1 hq2 hq3
 go_wp2_with fail
 refine H5.out.mono ?_
 rintro e Y4 ⟨rfl, hy4, hm4⟩
 have HB4 := hidX ((ButP.of (S := fun k => k = mb) (HUP.out Y3 HY3.out)).trans hy4 (fun x hx => Or.inl hx))
 have HM4 := hidX hm4
 clear hy4 hm4 f0 f1 f2 f3 f4 f5
 cases n4
 ·have hr : res = 7 := by rw [HBC.out]; rfl
  subst hr
  have gc := HGE.out Y4 HB4.out
  clear hS
  go_wp2
  go_ret
  exact ⟨rfl, HB4.out, fun h => absurd h (by decide)⟩
 ·have hr : res = 0 := by rw [HBC.out]; rfl
  subst hr
  go_wp2
  go_ret
  exact ⟨rfl, HB4.out, HM4.out (by trivial)⟩
end Go.Proofs.YtmckajgacfjnhaaGreatDoor
