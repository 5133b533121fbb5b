/- Our own: texts joined: PlRef5. -/
import Derived.Test.YtmckajgacfjnhaaGreatDoorQPlCode
import Derived.Test.YtmckajgacfjnhaaGreatDoorQNewAll
import Derived.Deep.OwnRows
namespace Go.Proofs.YtmckajgacfjnhaaGreatDoor
open Go.RowKit
theorem two_at (w : World) (x y : Obj) : ((w.alloc x).alloc y).heap[w.heap.size]? = some x ∧ ((w.alloc x).alloc y).heap[w.heap.size + 1]? = some y := by
 refine ⟨(Below.heap_alloc (w.alloc x) y _ (by simp)).trans (heap_alloc_new w x), ?_⟩
 have := heap_alloc_new (w.alloc x) y
 rwa [World.size_alloc] at this
theorem codeF_is (ones twos : List (List UInt8)) (V P : Int) (L : List Pb) : codeF ones twos V P L = if 1000 < L.length ∨ 1000 < V then (8, -1) else if L.length = 0 ∨ (blkAt L 0).params ≠ [] ∨ V < 0 then (3, -1) else if P < 0 ∨ 4 < P then (9, -1) else codeFrom ones twos V P L 0 [] L := rfl
set_option maxRecDepth 100000 in
set_option maxHeartbeats 8000000 in
theorem codeFault_any {w : World} (nm : List UInt8) (P V : Int) (L : List Pb) (hL : L.length ≤ 100000) (hlow : ∀ b ∈ L, LowB b) (ba : Option Addr) (bc : Nat) (hC : XCo (InH w) w (.slice ba L.length bc) L) :
  Calls Tryz.prog 8 #[.agg #[.string ⟨nm.toArray⟩, .int .i64 P, .int .i64 V, .slice ba L.length bc]] w fun e w' => e = .returned (.agg #[.int .i64 (((codeF onesE twosE V P L).1 : Nat) : Int), .int .i64 (codeF onesE twosE V P L).2]) ∧ Below w.heap.size w w' := by
 obtain ⟨W0, hW0⟩ : ∃ W0, W0 = (w.alloc (.cells #[.string ⟨nm.toArray⟩, .int .i64 P, .int .i64 V, .slice ba L.length bc] 24)).alloc (.cells #[.int .i64 0, .int .i64 0] 34) := ⟨_, rfl⟩
 have hF0 : Rc w W0 nm P V (.slice ba L.length bc) := ⟨by rw [hW0]; (repeat (first | exact Below.refl _ _ | assumption | refine Below.drew ?_ | refine bT ?_ _ | refine bS ?_ _ | refine bA ?_ _)), by rw [hW0]; exact (two_at w _ _).1, by rw [hW0]; exact (two_at w _ _).2⟩
 have hL' : (L.length : Int) ≤ 100000 := by omega
 have hfw := codeF_is onesE twosE V P L
 generalize codeF onesE twosE V P L = res at hfw ⊢
 have HFW := hidX hfw
 have HF0 := hidX hF0
 have HC := hidX hC
 have HLW := hidX hlow
 clear hfw hF0 hC hlow
 by_cases c1 : 1000 < L.length
 ·have hr : res = (8, -1) := by rw [HFW.out, if_pos (Or.inl c1)]
  subst hr
  have c1' : (1000 : Int) < (L.length : Int) := by omega
  go_enter Tryz.func8, Tryz.ntmps8
  go_wp2_with fail
  rw [← hW0]
  refine (bareG 8 W0).mono ?_
  rintro e X ⟨rfl, hb⟩
  have HFX := hidX (HF0.out.below hb)
  have x0 := cell_of_blk HFX.out.res 0
  have x1 := cell_of_blk HFX.out.res 1
  have x2 := free_of_blk HFX.out.res 0
  have x3 := free_of_blk HFX.out.res 1
  simp only [List.getElem?_toArray, List.getElem?_cons_zero, List.getElem?_cons_succ] at x0 x1
  clear hW0 hb
  go_wp2
  exact ret_row (w.heap.size + 1) 2 _ 34 rfl rfl (set2_blk HFX.out.res _ _) Tryz.underlying34 (by kernel_rfl) ⟨rfl, set2_low HFX.out.low (Nat.le_succ _) _ _⟩
 by_cases c2 : 1000 < V
 ·have hr : res = (8, -1) := by rw [HFW.out, if_pos (Or.inr c2)]
  subst hr
  have c1' : ¬ (1000 : Int) < (L.length : Int) := by omega
  clear c1
  go_enter Tryz.func8, Tryz.ntmps8
  go_wp2_with fail
  rw [← hW0]
  refine (bareG 8 W0).mono ?_
  rintro e X ⟨rfl, hb⟩
  have HFX := hidX (HF0.out.below hb)
  have x0 := cell_of_blk HFX.out.res 0
  have x1 := cell_of_blk HFX.out.res 1
  have x2 := free_of_blk HFX.out.res 0
  have x3 := free_of_blk HFX.out.res 1
  simp only [List.getElem?_toArray, List.getElem?_cons_zero, List.getElem?_cons_succ] at x0 x1
  clear hW0 hb
  go_wp2
  exact ret_row (w.heap.size + 1) 2 _ 34 rfl rfl (set2_blk HFX.out.res _ _) Tryz.underlying34 (by kernel_rfl) ⟨rfl, set2_low HFX.out.low (Nat.le_succ _) _ _⟩
 have c1' : ¬ (1000 : Int) < (L.length : Int) := by omega
 have HF1 := hidX (show res = if L.length = 0 ∨ (blkAt L 0).params ≠ [] ∨ V < 0 then (3, -1) else if P < 0 ∨ 4 < P then (9, -1) else codeFrom onesE twosE V P L 0 [] L from by rw [HFW.out, if_neg]; rintro (h | h); exact c1 h; exact c2 h)
 clear c1
 by_cases c3 : L.length = 0
 ·have hr : res = (3, -1) := by rw [HF1.out, if_pos (Or.inl c3)]
  subst hr
  have hL0 : L = [] := List.length_eq_zero_iff.1 c3
  subst hL0
  simp only [List.length_nil] at hW0 HF0 HC c1' hL'
  clear c1' c3 hL'
  go_enter Tryz.func8, Tryz.ntmps8
  go_wp2_with fail
  rw [← hW0]
  refine (bareG 3 W0).mono ?_
  rintro e X ⟨rfl, hb⟩
  have HFX := hidX (HF0.out.below hb)
  have x0 := cell_of_blk HFX.out.res 0
  have x1 := cell_of_blk HFX.out.res 1
  have x2 := free_of_blk HFX.out.res 0
  have x3 := free_of_blk HFX.out.res 1
  simp only [List.getElem?_toArray, List.getElem?_cons_zero, List.getElem?_cons_succ] at x0 x1
  clear hW0 hb
  go_wp2
  exact ret_row (w.heap.size + 1) 2 _ 34 rfl rfl (set2_blk HFX.out.res _ _) Tryz.underlying34 (by kernel_rfl) ⟨rfl, set2_low HFX.out.low (Nat.le_succ _) _ _⟩
 have c3' : ((L.length : Int) == 0) = false := by rw [beq_eq_false_iff_ne]; omega
 by_cases c4 : V < 0
 ·have hr : res = (3, -1) := by rw [HF1.out, if_pos (Or.inr (Or.inr c4))]
  subst hr
  clear c3
  go_enter Tryz.func8, Tryz.ntmps8
  go_wp2_with fail
  rw [← hW0]
  refine (bareG 3 W0).mono ?_
  rintro e X ⟨rfl, hb⟩
  have HFX := hidX (HF0.out.below hb)
  have x0 := cell_of_blk HFX.out.res 0
  have x1 := cell_of_blk HFX.out.res 1
  have x2 := free_of_blk HFX.out.res 0
  have x3 := free_of_blk HFX.out.res 1
  simp only [List.getElem?_toArray, List.getElem?_cons_zero, List.getElem?_cons_succ] at x0 x1
  clear hW0 hb
  go_wp2
  exact ret_row (w.heap.size + 1) 2 _ 34 rfl rfl (set2_blk HFX.out.res _ _) Tryz.underlying34 (by kernel_rfl) ⟨rfl, set2_low HFX.out.low (Nat.le_succ _) _ _⟩
 have hl0 : 0 < L.length := by omega
 have hl0' : (0 : Int) < (L.length : Int) := by omega
 obtain ⟨g, off, pa, pc, ia, ic, ta, tc, wa, wc, eb, hgb, -, -, -, -, kb, -⟩ := HC.out.blk hl0
 subst eb
 have HB0 := hidX (show (blkAt L 0).params.length = L[0].params.length from by simp [blkAt, hl0])
 have kb' : w.cell? ⟨g, off, none⟩ = some (.slice pa L[0].params.length pc) := by simpa using kb
 have hgl : g < w.heap.size := hgb
 have hgl1 : g < w.heap.size + 1 := by omega
 clear kb
 generalize L[0].params.length = pl at *
 by_cases c5 : 0 < pl
 ·have hr : res = (3, -1) := by rw [HF1.out, if_pos (Or.inr (Or.inl (fun e => by have := HB0.out; rw [e] at this; simp at this; omega)))]
  subst hr
  have c5' : (0 : Int) < (pl : Int) := by omega
  clear c3 c5
  go_enter Tryz.func8, Tryz.ntmps8
  go_wp2_with fail
  rw [← hW0]
  refine (bareG 3 W0).mono ?_
  rintro e X ⟨rfl, hb⟩
  have HFX := hidX (HF0.out.below hb)
  have x0 := cell_of_blk HFX.out.res 0
  have x1 := cell_of_blk HFX.out.res 1
  have x2 := free_of_blk HFX.out.res 0
  have x3 := free_of_blk HFX.out.res 1
  simp only [List.getElem?_toArray, List.getElem?_cons_zero, List.getElem?_cons_succ] at x0 x1
  clear hW0 hb
  go_wp2
  exact ret_row (w.heap.size + 1) 2 _ 34 rfl rfl (set2_blk HFX.out.res _ _) Tryz.underlying34 (by kernel_rfl) ⟨rfl, set2_low HFX.out.low (Nat.le_succ _) _ _⟩
 have hpl : pl = 0 := by omega
 subst hpl
 have HF2 := hidX (show res = if P < 0 ∨ 4 < P then (9, -1) else codeFrom onesE twosE V P L 0 [] L from by
  rw [HF1.out, if_neg]
  rintro (h | h | h)
  ·exact c3 h
  ·exact h (List.length_eq_zero_iff.1 HB0.out)
  ·exact c4 h)
 clear c5 c3
 by_cases c6 : P < 0
 ·have hr : res = (9, -1) := by rw [HF2.out, if_pos (Or.inl c6)]
  subst hr
  go_enter Tryz.func8, Tryz.ntmps8
  go_wp2_with fail
  rw [← hW0]
  refine (bareG 9 W0).mono ?_
  rintro e X ⟨rfl, hb⟩
  have HFX := hidX (HF0.out.below hb)
  have x0 := cell_of_blk HFX.out.res 0
  have x1 := cell_of_blk HFX.out.res 1
  have x2 := free_of_blk HFX.out.res 0
  have x3 := free_of_blk HFX.out.res 1
  simp only [List.getElem?_toArray, List.getElem?_cons_zero, List.getElem?_cons_succ] at x0 x1
  clear hW0 hb
  go_wp2
  exact ret_row (w.heap.size + 1) 2 _ 34 rfl rfl (set2_blk HFX.out.res _ _) Tryz.underlying34 (by kernel_rfl) ⟨rfl, set2_low HFX.out.low (Nat.le_succ _) _ _⟩
 by_cases c7 : 4 < P
 ·have hr : res = (9, -1) := by rw [HF2.out, if_pos (Or.inr c7)]
  subst hr
  go_enter Tryz.func8, Tryz.ntmps8
  go_wp2_with fail
  rw [← hW0]
  refine (bareG 9 W0).mono ?_
  rintro e X ⟨rfl, hb⟩
  have HFX := hidX (HF0.out.below hb)
  have x0 := cell_of_blk HFX.out.res 0
  have x1 := cell_of_blk HFX.out.res 1
  have x2 := free_of_blk HFX.out.res 0
  have x3 := free_of_blk HFX.out.res 1
  simp only [List.getElem?_toArray, List.getElem?_cons_zero, List.getElem?_cons_succ] at x0 x1
  clear hW0 hb
  go_wp2
  exact ret_row (w.heap.size + 1) 2 _ 34 rfl rfl (set2_blk HFX.out.res _ _) Tryz.underlying34 (by kernel_rfl) ⟨rfl, set2_low HFX.out.low (Nat.le_succ _) _ _⟩
 have HF3 := hidX (show res = codeFrom onesE twosE V P L 0 [] L from by rw [HF2.out, if_neg]; rintro (h | h); exact c6 h; exact c7 h)
 obtain ⟨vn, rfl⟩ : ∃ vn : Nat, V = (vn : Int) := ⟨V.toNat, by omega⟩
 clear HF1 HF2 HFW
 have hmk := run_make_row' (P := Tryz.prog) 63 4 (.bool false) 1 Tryz.underlying63 bool_infoG rfl .i64 .i64 vn (by omega) (by omega)
 rw [made_bools] at hmk
 have hvl : (vn : Int) ≤ 1000 := by omega
 obtain ⟨W1, hW1⟩ : ∃ W1, W1 = ((w.alloc (.cells #[.string ⟨nm.toArray⟩, .int .i64 P, .int .i64 (vn : Int), .slice (some ⟨g, off, none⟩) L.length bc] 24)).alloc (.cells #[.int .i64 0, .int .i64 0] 34)).alloc (.cells (boolsG (List.replicate vn false)).toArray 4) := ⟨_, rfl⟩
 obtain ⟨t1, t2, t3⟩ := threeG w (.cells #[.string ⟨nm.toArray⟩, .int .i64 P, .int .i64 (vn : Int), .slice (some ⟨g, off, none⟩) L.length bc] 24) (.cells #[.int .i64 0, .int .i64 0] 34) (.cells (boolsG (List.replicate vn false)).toArray 4)
 rw [← hW1] at t1 t2 t3
 have HM1 := hidX (show Mc w W1 nm P (vn : Int) (.slice (some ⟨g, off, none⟩) L.length bc) (List.replicate vn false) from ⟨⟨by rw [hW1]; (repeat (first | exact Below.refl _ _ | assumption | refine Below.drew ?_ | refine bT ?_ _ | refine bS ?_ _ | refine bA ?_ _)), t1, t2⟩, t3⟩)
 clear t1 t2 t3 hW0 HF0 c4 HB0 hgb
 go_enter Tryz.func8, Tryz.ntmps8
 go_wp2_with fail
 rw [← hW1]
 clear hW1 hmk kb' c2 c6 c7
 go_loopw [4, 5, 6, 7, 8, 9] (fun i _ _ _ _ _ wr => ∃ (q : Nat) (sn : List Bool), q ≤ L.length ∧ i = .int .i64 q ∧ Hid (Mc w wr nm P (vn : Int) (.slice (some ⟨g, off, none⟩) L.length bc) sn) ∧ Hid (Sn vn sn ((L.take q).flatMap defsB)) ∧ Hid (res = codeFrom onesE twosE (vn : Int) P L q ((L.take q).flatMap defsB) (L.drop q))) (fun i _ _ _ _ _ _ => L.length - (intOf i).toNat)
 case atStart => exact ⟨0, _, by omega, rfl, HM1.out, Sn.none vn, by rw [HF3.out]; rfl⟩
 case round =>
  obtain ⟨q, sn, hq, rfl, HM, HSN, HRS⟩ := hrel
  have c0 : wr.cell? ⟨w.heap.size, 0, none⟩ = some (.string ⟨nm.toArray⟩) := cell_of_blk HM.out.rc.box 0
  have c1 : wr.cell? ⟨w.heap.size, 1, none⟩ = some (.int .i64 P) := cell_of_blk HM.out.rc.box 1
  have c2 : wr.cell? ⟨w.heap.size, 2, none⟩ = some (.int .i64 (vn : Int)) := cell_of_blk HM.out.rc.box 2
  have c3 : wr.cell? ⟨w.heap.size, 3, none⟩ = some (.slice (some ⟨g, off, none⟩) L.length bc) := cell_of_blk HM.out.rc.box 3
  have hwr : w.heap.size + 2 < wr.heap.size := heap_lt HM.out.mad
  by_cases hlt : q < L.length
  ·have hlt' : (q : Int) < (L.length : Int) := by omega
   have hup := HM.out.rc.low
   have HCW := hidX (HC.out.imp (inH_up hup) (keepH hup))
   obtain ⟨g', off', pa, pc, ia, ic, ta, tc, wa, wq, eb, hgb, rP, rI, rT, rW, k0, k1, k2, k3, k4, k5⟩ := HC.out.blk hlt
   injection eb with eb
   injection eb with eb1 eb2
   subst eb1 eb2
   replace k0 := (hup.cell (p := ⟨g, _, none⟩) hgb).trans k0
   replace k1 := (hup.cell (p := ⟨g, _, none⟩) hgb).trans k1
   replace k2 := (hup.cell (p := ⟨g, _, none⟩) hgb).trans k2
   replace k3 := (hup.cell (p := ⟨g, _, none⟩) hgb).trans k3
   replace k4 := (hup.cell (p := ⟨g, _, none⟩) hgb).trans k4
   replace k5 := (hup.cell (p := ⟨g, _, none⟩) hgb).trans k5
   have HLB := hidX (HLW.out _ (List.getElem_mem hlt))
   have HDR := hidX (show L.drop q = L[q] :: L.drop (q + 1) from List.drop_eq_getElem_cons hlt)
   have HTK := hidX (show (L.take (q + 1)).flatMap defsB = (L.take q).flatMap defsB ++ defsB L[q] from by rw [List.take_succ_eq_append_getElem hlt, List.flatMap_append]; simp)
   generalize L[q] = b at *
   generalize (L.take q).flatMap defsB = prev at *
   obtain ⟨Wb, hWb⟩ : ∃ Wb, Wb = wr.alloc (.cells #[.slice pa b.params.length pc, .slice ia b.ins.length ic, .string ⟨b.fin.toArray⟩, .int .i64 b.v, .slice ta b.tos.length tc, .slice wa b.wi.length wq] 60) := ⟨_, rfl⟩
   have hwb : Below wr.heap.size wr Wb := by rw [hWb]; (repeat (first | exact Below.refl _ _ | assumption | refine Below.drew ?_ | refine bT ?_ _ | refine bS ?_ _ | refine bA ?_ _))
   have hxb : Wb.heap[wr.heap.size]? = some (.cells #[.slice pa b.params.length pc, .slice ia b.ins.length ic, .string ⟨b.fin.toArray⟩, .int .i64 b.v, .slice ta b.tos.length tc, .slice wa b.wi.length wq] 60 (0, 0)) := by rw [hWb]; exact heap_alloc_new _ _
   have hub : Below w.heap.size w Wb := bl_trans hup hup.size hwb
   have HBE := hidX (blockError_any (w := Wb) nm P (vn : Int) L b hL HLB.out (some ⟨g, off, none⟩) pa ia ta wa bc pc ic tc wq (HCW.out.imp (inH_up hwb) (keepH hwb)) (rP.imp (inH_up hub) (keepH hub)) (rI.imp (inH_up hub) (keepH hub)) (rT.imp (inH_up hub) (keepH hub)) (rW.imp (inH_up hub) (keepH hub)))
   have HBC := hidX (blockC_is (ones := onesE) (twos := twosE) (V := (vn : Int)) (P := P) (L := L) (prev := prev) (b := b))
   have HBZ := hidX (show blockR onesE twosE (vn : Int) P L b = 0 → (∀ x ∈ b.params, 0 ≤ x ∧ x < (vn : Int)) ∧ (∀ x ∈ b.ins, (psh x.kind).d = true → 0 ≤ x.d ∧ x.d < (vn : Int)) ∧ ∀ x ∈ b.ins, (psh x.kind).kind ≠ [] from fun h => ⟨bound_params (blockR_zero h).2.1, bound_d (blockR_zero h).2.1, kind_known (blockR_zero h).1⟩)
   have HNX := hidX (show res = if blockC onesE twosE (vn : Int) P L prev b = 0 then codeFrom onesE twosE (vn : Int) P L (q + 1) (prev ++ defsB b) (L.drop (q + 1)) else (blockC onesE twosE (vn : Int) P L prev b, (q : Int)) from by rw [HRS.out, HDR.out]; rfl)
   have HRP := hidX (fun (Y : World) (hY : Below w.heap.size w Y) => rP.imp (inH_up hY) (keepH hY))
   have HRI := hidX (fun (Y : World) (hY : Below w.heap.size w Y) => rI.imp (inH_up hY) (keepH hY))
   obtain ⟨bb, hbb⟩ : ∃ bb, bb = wr.heap.size := ⟨_, rfl⟩
   have HMB := hidX (show Mi w Wb nm P (vn : Int) (.slice (some ⟨g, off, none⟩) L.length bc) sn bb (.cells #[.slice pa b.params.length pc, .slice ia b.ins.length ic, .string ⟨b.fin.toArray⟩, .int .i64 b.v, .slice ta b.tos.length tc, .slice wa b.wi.length wq] 60 (0, 0)) from ⟨HM.out.below hwb, by rw [hbb]; exact hxb, by omega⟩)
   have HBW := hidX (show ∀ k, k < bb → k < wr.heap.size from fun k hk => by omega)
   generalize blockR onesE twosE (vn : Int) P L b = e0 at *
   generalize blockC onesE twosE (vn : Int) P L prev b = bC at *
   have hlp : (b.params.length : Int) ≤ 1000 := by have := HLB.out.params; omega
   have hli : (b.ins.length : Int) ≤ 1000 := by have := HLB.out.ins; omega
   clear rP rI rT rW hwb hxb hup hub
   go_upto_region 14 with fail
   rw [← hWb]
   clear hWb k0 k1 k2 k3 k4 k5 c0 c1 c2 c3
   rw [← hbb]
   clear hbb
   have d0 : Wb.cell? ⟨w.heap.size, 0, none⟩ = some (.string ⟨nm.toArray⟩) := cell_of_blk HMB.out.mc.rc.box 0
   have d1 : Wb.cell? ⟨w.heap.size, 1, none⟩ = some (.int .i64 P) := cell_of_blk HMB.out.mc.rc.box 1
   have d2 : Wb.cell? ⟨w.heap.size, 2, none⟩ = some (.int .i64 (vn : Int)) := cell_of_blk HMB.out.mc.rc.box 2
   have d3 : Wb.cell? ⟨w.heap.size, 3, none⟩ = some (.slice (some ⟨g, off, none⟩) L.length bc) := cell_of_blk HMB.out.mc.rc.box 3
   have f0 : Wb.cell? ⟨bb, 0, none⟩ = some (.slice pa b.params.length pc) := cell_of_blk HMB.out.bbx 0
   have f1 : Wb.cell? ⟨bb, 1, none⟩ = some (.slice ia b.ins.length ic) := cell_of_blk HMB.out.bbx 1
   have f2 : Wb.cell? ⟨bb, 2, none⟩ = some (.string ⟨b.fin.toArray⟩) := cell_of_blk HMB.out.bbx 2
   have f3 : Wb.cell? ⟨bb, 3, none⟩ = some (.int .i64 b.v) := cell_of_blk HMB.out.bbx 3
   have f4 : Wb.cell? ⟨bb, 4, none⟩ = some (.slice ta b.tos.length tc) := cell_of_blk HMB.out.bbx 4
   have f5 : Wb.cell? ⟨bb, 5, none⟩ = some (.slice wa b.wi.length wq) := cell_of_blk HMB.out.bbx 5
   go_cut [6] (fun v6 wc => v6 = .int .i64 (e0 : Int) ∧ Hid (Mi w wc nm P (vn : Int) (.slice (some ⟨g, off, none⟩) L.length bc) sn bb (.cells #[.slice pa b.params.length pc, .slice ia b.ins.length ic, .string ⟨b.fin.toArray⟩, .int .i64 b.v, .slice ta b.tos.length tc, .slice wa b.wi.length wq] 60 (0, 0))))
   case first =>
    as_aux_lemma =>
     go_wp2_with fail
     refine HBE.out.mono ?_
     rintro e X2 ⟨rfl, hb2⟩
     have HM2 := hidX (HMB.out.below hb2)
     clear hb2
     go_wp2_with fail
     go_meet
     case rel => exact ⟨rfl, HM2.out⟩
   case rest =>
   obtain ⟨rfl, HMX⟩ := hcut
   obtain ⟨Wi, hWi⟩ : ∃ Wi, Wi = wc := ⟨_, rfl⟩
   subst hWi
   clear d0 d1 d2 d3 f0 f1 f2 f3 f4 f5 HBE
   go_step
   go_step
   go_cut [6, 7] (fun v6 _ wc => ∃ (e : Nat) (sn : List Bool), v6 = .int .i64 (e : Int) ∧ Hid (Mi w wc nm P (vn : Int) (.slice (some ⟨g, off, none⟩) L.length bc) sn bb (.cells #[.slice pa b.params.length pc, .slice ia b.ins.length ic, .string ⟨b.fin.toArray⟩, .int .i64 b.v, .slice ta b.tos.length tc, .slice wa b.wi.length wq] 60 (0, 0))) ∧ Hid ((e = 0 ∧ e0 = 0 ∧ Sn vn sn (prev ++ b.params) ∧ newB prev (defsB b) = newB (prev ++ b.params) (insD b.ins)) ∨ (e ≠ 0 ∧ e = bC)))
   case first =>
    as_aux_lemma =>
     go_wp2_with fail
     go_loopw [6, 7] (fun v6 v7 wr => ∃ (k e : Nat) (sn : List Bool), k ≤ b.params.length ∧ v7 = .int .i64 (k : Int) ∧ v6 = .int .i64 (e : Int) ∧ Hid (Mi w wr nm P (vn : Int) (.slice (some ⟨g, off, none⟩) L.length bc) sn bb (.cells #[.slice pa b.params.length pc, .slice ia b.ins.length ic, .string ⟨b.fin.toArray⟩, .int .i64 b.v, .slice ta b.tos.length tc, .slice wa b.wi.length wq] 60 (0, 0))) ∧ Hid ((e = 0 ∧ e0 = 0 ∧ Sn vn sn (prev ++ b.params.take k) ∧ newB prev (defsB b) = newB (prev ++ b.params.take k) (b.params.drop k ++ insD b.ins)) ∨ (e ≠ 0 ∧ e = bC))) (fun _ v7 _ => b.params.length - (intOf v7).toNat)
     case atStart => exact ⟨0, e0, sn, by omega, rfl, rfl, HMX.out, by
      by_cases h0 : e0 = 0
      ·exact Or.inl ⟨h0, h0, by simpa using HSN.out, by simp [defs_is]⟩
      ·exact Or.inr ⟨h0, by rw [HBC.out, if_neg h0]⟩⟩
     case round =>
      obtain ⟨k, e, sn2, hk, rfl, rfl, HMi, HSt⟩ := hrel
      have f0 : wr.cell? ⟨bb, 0, none⟩ = some (.slice pa b.params.length pc) := cell_of_blk HMi.out.bbx 0
      by_cases hkl : k < b.params.length
      ·have hkl' : (k : Int) < (b.params.length : Int) := by omega
       by_cases he : e = 0
       ·have te : ((e : Int) == 0) = true := by simp [he]
        have HE := hidX he
        clear he
        rcases HSt.out with ⟨-, hz, hs, hn⟩ | ⟨h, -⟩
        ·obtain ⟨gp, offp, ep, hgp, kp⟩ := (HRP.out wr HMi.out.mc.rc.low).int hkl
         subst ep
         have hxb := (HBZ.out hz).1 _ (List.getElem_mem hkl)
         obtain ⟨xn, hxn⟩ : ∃ xn : Nat, b.params[k] = (xn : Int) := ⟨b.params[k].toNat, by omega⟩
         have hxs : xn < sn2.length := by rw [hs.1]; omega
         have hxv : (xn : Int) < (vn : Int) := by omega
         have hdr : b.params.drop k = (xn : Int) :: b.params.drop (k + 1) := by rw [← hxn]; exact List.drop_eq_getElem_cons hkl
         have htk : b.params.take (k + 1) = b.params.take k ++ [(xn : Int)] := by rw [← hxn]; exact List.take_succ_eq_append_getElem hkl
         have m0 : wr.cell? ⟨w.heap.size + 2, xn, none⟩ = some (.bool sn2[xn]) := by rw [cell_of_blk HMi.out.mc.mad xn]; simp [boolsG, hxs]
         have m1 := free_of_blk HMi.out.mc.mad xn
         have hcn := hs.2 xn hxs
         rw [hdr, List.cons_append, newB] at hn
         have HMM := hidX (HMi.out.mark xn)
         have HSM := hidX (hs.mark xn)
         have HN := hidX hn
         have HTK2 := hidX htk
         have HCN := hidX hcn
         have HZ := hidX hz
         rw [hxn] at kp
         generalize sn2[xn] = was at *
         clear hs hn htk hdr hcn hxn hxb hz
         cases was
         ·have HRL := hidX (show (e = 0 ∧ e0 = 0 ∧ Sn vn (sn2.set xn true) (prev ++ b.params.take (k + 1)) ∧ newB prev (defsB b) = newB (prev ++ b.params.take (k + 1)) (b.params.drop (k + 1) ++ insD b.ins)) ∨ (e ≠ 0 ∧ e = bC) from Or.inl ⟨HE.out, HZ.out, by rw [HTK2.out, ← List.append_assoc]; exact HSM.out, by rw [HN.out, ← HCN.out, HTK2.out, ← List.append_assoc]; rfl⟩)
          go_wp2
          go_roundw
          case rel => exact ⟨k + 1, e, _, by omega, by go_num, rfl, HMM.out, HRL.out⟩
          case measure => simp [intOf]; omega
         ·have hbc : bC = 7 := by rw [HBC.out, if_pos HZ.out, if_pos]; rw [HN.out, ← HCN.out]; rfl
          have HRL := hidX (show ((7 : Nat) = 0 ∧ e0 = 0 ∧ Sn vn (sn2.set xn true) (prev ++ b.params.take (k + 1)) ∧ newB prev (defsB b) = newB (prev ++ b.params.take (k + 1)) (b.params.drop (k + 1) ++ insD b.ins)) ∨ ((7 : Nat) ≠ 0 ∧ 7 = bC) from Or.inr ⟨by decide, hbc.symm⟩)
          clear hbc
          go_wp2
          go_roundw
          case rel => exact ⟨k + 1, 7, _, by omega, by go_num, rfl, HMM.out, HRL.out⟩
          case measure => simp [intOf]; omega
        ·exact absurd HE.out h
       ·have te : ((e : Int) == 0) = false := by rw [beq_eq_false_iff_ne]; omega
        have HRL := hidX (show (e = 0 ∧ e0 = 0 ∧ Sn vn sn2 (prev ++ b.params) ∧ newB prev (defsB b) = newB (prev ++ b.params) (insD b.ins)) ∨ (e ≠ 0 ∧ e = bC) from by
         rcases HSt.out with ⟨h, -⟩ | h
         ·exact absurd h he
         ·exact Or.inr h)
        clear he
        go_wp2_with fail
        go_meet
        case rel => exact ⟨e, sn2, rfl, HMi.out, HRL.out⟩
      ·have hkn : k = b.params.length := by omega
       subst hkn
       have HRL := hidX (show (e = 0 ∧ e0 = 0 ∧ Sn vn sn2 (prev ++ b.params) ∧ newB prev (defsB b) = newB (prev ++ b.params) (insD b.ins)) ∨ (e ≠ 0 ∧ e = bC) from by
        rcases HSt.out with ⟨h1, h2, h3, h4⟩ | h
        ·rw [List.take_length] at h3 h4
         rw [List.drop_length, List.nil_append] at h4
         exact Or.inl ⟨h1, h2, h3, h4⟩
        ·exact Or.inr h)
       go_wp2_with fail
       go_meet
       case rel => exact ⟨e, sn2, rfl, HMi.out, HRL.out⟩
   case rest =>
   obtain ⟨e1, sn1, rfl, HMY, HST1⟩ := hcut
   obtain ⟨Wj, hWj⟩ : ∃ Wj, Wj = wc := ⟨_, rfl⟩
   subst hWj
   go_step
   go_step
   go_cut [6, 8, 9] (fun v6 _ _ wc => ∃ (e : Nat) (sn : List Bool), v6 = .int .i64 (e : Int) ∧ Hid (Mi w wc nm P (vn : Int) (.slice (some ⟨g, off, none⟩) L.length bc) sn bb (.cells #[.slice pa b.params.length pc, .slice ia b.ins.length ic, .string ⟨b.fin.toArray⟩, .int .i64 b.v, .slice ta b.tos.length tc, .slice wa b.wi.length wq] 60 (0, 0))) ∧ Hid ((e = 0 ∧ bC = 0 ∧ Sn vn sn (prev ++ defsB b)) ∨ (e ≠ 0 ∧ e = bC)))
   case first =>
    as_aux_lemma =>
     go_wp2_with fail
     go_loopw [6, 8, 9] (fun v6 v8 _ wr => ∃ (k e : Nat) (sn : List Bool), k ≤ b.ins.length ∧ v8 = .int .i64 (k : Int) ∧ v6 = .int .i64 (e : Int) ∧ Hid (Mi w wr nm P (vn : Int) (.slice (some ⟨g, off, none⟩) L.length bc) sn bb (.cells #[.slice pa b.params.length pc, .slice ia b.ins.length ic, .string ⟨b.fin.toArray⟩, .int .i64 b.v, .slice ta b.tos.length tc, .slice wa b.wi.length wq] 60 (0, 0))) ∧ Hid ((e = 0 ∧ e0 = 0 ∧ Sn vn sn (prev ++ (b.params ++ insD (b.ins.take k))) ∧ newB prev (defsB b) = newB (prev ++ (b.params ++ insD (b.ins.take k))) (insD (b.ins.drop k))) ∨ (e ≠ 0 ∧ e = bC))) (fun _ v8 _ _ => b.ins.length - (intOf v8).toNat)
     case atStart => exact ⟨0, e1, sn1, by omega, rfl, rfl, HMY.out, by
      rcases HST1.out with ⟨h1, h2, h3, h4⟩ | h
      ·exact Or.inl ⟨h1, h2, by simpa [insD] using h3, by simpa [insD] using h4⟩
      ·exact Or.inr h⟩
     case round =>
      obtain ⟨k, e, sn2, hk, rfl, rfl, HMi, HSt⟩ := hrel
      have f1 : wr.cell? ⟨bb, 1, none⟩ = some (.slice ia b.ins.length ic) := cell_of_blk HMi.out.bbx 1
      by_cases hkl : k < b.ins.length
      ·have hkl' : (k : Int) < (b.ins.length : Int) := by omega
       by_cases he : e = 0
       ·have te : ((e : Int) == 0) = true := by simp [he]
        have HE := hidX he
        clear he
        rcases HSt.out with ⟨-, hz, hs, hn⟩ | ⟨h, -⟩
        ·obtain ⟨gp, offp, ad1, cap1, ep, hgp, -, k0, k1, -, -, -⟩ := (HRI.out wr HMi.out.mc.rc.low).ins hkl
         subst ep
         have hxb := (HBZ.out hz).2.1 _ (List.getElem_mem hkl)
         have hkn := (HBZ.out hz).2.2 _ (List.getElem_mem hkl)
         have hdr : b.ins.drop k = b.ins[k] :: b.ins.drop (k + 1) := List.drop_eq_getElem_cons hkl
         have htk : b.ins.take (k + 1) = b.ins.take k ++ [b.ins[k]] := List.take_succ_eq_append_getElem hkl
         have hmd := makes_d hkn
         have HMK := hidX (makesValue_any b.ins[k].kind wr)
         generalize b.ins[k] = x at *
         rw [← hmd] at HMK
         rw [hdr, insD_cons] at hn
         have his := insD_snoc (b.ins.take k) x
         rw [← htk] at his
         have HIS := hidX his
         have HN := hidX hn
         have HS := hidX hs
         have HZ := hidX hz
         generalize (psh x.kind).d = mk at *
         clear hmd hkn hdr htk his hn hs hz
         cases mk
         ·have HRL := hidX (show (e = 0 ∧ e0 = 0 ∧ Sn vn sn2 (prev ++ (b.params ++ insD (b.ins.take (k + 1)))) ∧ newB prev (defsB b) = newB (prev ++ (b.params ++ insD (b.ins.take (k + 1)))) (insD (b.ins.drop (k + 1)))) ∨ (e ≠ 0 ∧ e = bC) from Or.inl ⟨HE.out, HZ.out, by rw [HIS.out]; exact HS.out, by rw [HIS.out]; exact HN.out⟩)
          go_wp2_with fail
          refine HMK.out.mono ?_
          rintro e' W' ⟨rfl, hh⟩
          replace hh := hh.symm
          subst hh
          go_wp2
          go_roundw
          case rel => exact ⟨k + 1, e, _, by omega, by go_num, rfl, HMi.out, HRL.out⟩
          case measure => simp [intOf]; omega
         ·replace hxb := hxb rfl
          obtain ⟨xn, hxn⟩ : ∃ xn : Nat, x.d = (xn : Int) := ⟨x.d.toNat, by omega⟩
          have hxs : xn < sn2.length := by rw [HS.out.1]; omega
          have hxv : (xn : Int) < (vn : Int) := by omega
          have m0 : wr.cell? ⟨w.heap.size + 2, xn, none⟩ = some (.bool sn2[xn]) := by rw [cell_of_blk HMi.out.mc.mad xn]; simp [boolsG, hxs]
          have m1 := free_of_blk HMi.out.mc.mad xn
          have hcn := HS.out.2 xn hxs
          have hn := HN.out
          have his := HIS.out
          rw [if_pos rfl, hxn, newB] at hn
          rw [if_pos rfl, hxn] at his
          rw [hxn] at k1
          have HMM := hidX (HMi.out.mark xn)
          have HSM := hidX (HS.out.mark xn)
          have HN2 := hidX hn
          have HIS2 := hidX his
          have HCN := hidX hcn
          generalize sn2[xn] = was at *
          clear hn his hcn hxn hxb
          cases was
          ·have HRL := hidX (show (e = 0 ∧ e0 = 0 ∧ Sn vn (sn2.set xn true) (prev ++ (b.params ++ insD (b.ins.take (k + 1)))) ∧ newB prev (defsB b) = newB (prev ++ (b.params ++ insD (b.ins.take (k + 1)))) (insD (b.ins.drop (k + 1)))) ∨ (e ≠ 0 ∧ e = bC) from Or.inl ⟨HE.out, HZ.out, by
            have h := HSM.out
            rw [HIS2.out]
            simpa [List.append_assoc] using h, by
            rw [HN2.out, ← HCN.out, HIS2.out]
            simp [List.append_assoc]⟩)
           go_wp2_with fail
           refine HMK.out.mono ?_
           rintro e' W' ⟨rfl, hh⟩
           replace hh := hh.symm
           subst hh
           go_wp2
           go_roundw
           case rel => exact ⟨k + 1, e, _, by omega, by go_num, rfl, HMM.out, HRL.out⟩
           case measure => simp [intOf]; omega
          ·have hbc : bC = 7 := by rw [HBC.out, if_pos HZ.out, if_pos]; rw [HN2.out, ← HCN.out]; rfl
           have HRL := hidX (show ((7 : Nat) = 0 ∧ e0 = 0 ∧ Sn vn (sn2.set xn true) (prev ++ (b.params ++ insD (b.ins.take (k + 1)))) ∧ newB prev (defsB b) = newB (prev ++ (b.params ++ insD (b.ins.take (k + 1)))) (insD (b.ins.drop (k + 1)))) ∨ ((7 : Nat) ≠ 0 ∧ 7 = bC) from Or.inr ⟨by decide, hbc.symm⟩)
           clear hbc
           go_wp2_with fail
           refine HMK.out.mono ?_
           rintro e' W' ⟨rfl, hh⟩
           replace hh := hh.symm
           subst hh
           go_wp2
           go_roundw
           case rel => exact ⟨k + 1, 7, _, by omega, by go_num, rfl, HMM.out, HRL.out⟩
           case measure => simp [intOf]; omega
        ·exact absurd HE.out h
       ·have te : ((e : Int) == 0) = false := by rw [beq_eq_false_iff_ne]; omega
        have HRL := hidX (show (e = 0 ∧ bC = 0 ∧ Sn vn sn2 (prev ++ defsB b)) ∨ (e ≠ 0 ∧ e = bC) from by
         rcases HSt.out with ⟨h, -⟩ | h
         ·exact absurd h he
         ·exact Or.inr h)
        clear he
        go_wp2_with fail
        go_meet
        case rel => exact ⟨e, sn2, rfl, HMi.out, HRL.out⟩
      ·have hkn : k = b.ins.length := by omega
       subst hkn
       have HRL := hidX (show (e = 0 ∧ bC = 0 ∧ Sn vn sn2 (prev ++ defsB b)) ∨ (e ≠ 0 ∧ e = bC) from by
        rcases HSt.out with ⟨h1, h2, h3, h4⟩ | h
        ·rw [List.take_length] at h3 h4
         rw [List.drop_length] at h4
         exact Or.inl ⟨h1, by rw [HBC.out, if_pos h2, h4]; simp [insD, newB], by rw [defs_is]; exact h3⟩
        ·exact Or.inr h)
       go_wp2_with fail
       go_meet
       case rel => exact ⟨e, sn2, rfl, HMi.out, HRL.out⟩
   case rest =>
   obtain ⟨e2, sn2, rfl, HMZ, HST2⟩ := hcut
   obtain ⟨Wk, hWk⟩ : ∃ Wk, Wk = wc := ⟨_, rfl⟩
   subst hWk
   by_cases hez : e2 = 0
   ·have tz : ¬ (0 : Int) < (e2 : Int) := by omega
    have tz2 : decide (0 < e2) = false := by simp [hez]
    have HNS := hidX (show Sn vn sn2 ((L.take (q + 1)).flatMap defsB) ∧ res = codeFrom onesE twosE (vn : Int) P L (q + 1) ((L.take (q + 1)).flatMap defsB) (L.drop (q + 1)) from by
     rcases HST2.out with ⟨-, h2, h3⟩ | ⟨h, -⟩
     ·rw [HTK.out]; exact ⟨h3, by rw [HNX.out, if_pos h2]⟩
     ·exact absurd hez h)
    clear hez tz
    go_wp2
    go_roundw
    case rel => exact ⟨q + 1, sn2, by omega, by go_num, HMZ.out.mc, HNS.out.1, HNS.out.2⟩
    case measure => simp [intOf]; omega
   ·have tz2 : decide (0 < e2) = true := by simp; omega
    have hre : res = (e2, (q : Int)) := by
     rcases HST2.out with ⟨h, -⟩ | ⟨h1, h2⟩
     ·exact absurd h hez
     ·rw [HNX.out, if_neg (by rw [← h2]; exact h1), ← h2]
    have HMR := hidX HMZ.out.mc.rc
    have x0 := cell_of_blk HMR.out.res 0
    have x1 := cell_of_blk HMR.out.res 1
    have x2 := free_of_blk HMR.out.res 0
    have x3 := free_of_blk HMR.out.res 1
    simp only [List.getElem?_toArray, List.getElem?_cons_zero, List.getElem?_cons_succ] at x0 x1
    subst hre
    clear hez
    go_wp2
    exact ret_row (w.heap.size + 1) 2 _ 34 rfl rfl (set2_blk HMR.out.res _ _) Tryz.underlying34 (by kernel_rfl) ⟨rfl, set2_low HMR.out.low (Nat.le_succ _) _ _⟩
  ·have hqn : q = L.length := by omega
   subst hqn
   have hre : res = (0, -1) := by rw [HRS.out, List.drop_length]; rfl
   subst hre
   go_wp2_with fail
   refine (fineG wr).mono ?_
   rintro e X ⟨rfl, hb⟩
   have HMR := hidX (HM.out.rc.below hb)
   have x0 := cell_of_blk HMR.out.res 0
   have x1 := cell_of_blk HMR.out.res 1
   have x2 := free_of_blk HMR.out.res 0
   have x3 := free_of_blk HMR.out.res 1
   simp only [List.getElem?_toArray, List.getElem?_cons_zero, List.getElem?_cons_succ] at x0 x1
   clear hb
   go_wp2
   exact ret_row (w.heap.size + 1) 2 _ 34 rfl rfl (set2_blk HMR.out.res _ _) Tryz.underlying34 (by kernel_rfl) ⟨rfl, set2_low HMR.out.low (Nat.le_succ _) _ _⟩
end Go.Proofs.YtmckajgacfjnhaaGreatDoor
