/- Our own: texts joined: PlCheck. -/
import Derived.Test.YtmckajgacfjnhaaGreatDoorQPlBlk
import Derived.Test.YtmckajgacfjnhaaGreatDoorQPlRef5
import Derived.Test.YtmckajgacfjnhaaGreatDoorQTold
namespace Go.Proofs.YtmckajgacfjnhaaGreatDoor
open Go.RowKit Go.Maps
theorem low_of_but {w W1 Y : World} {mb : Nat} (h1 : Below w.heap.size w W1) (h2 : ButP (fun k => k = mb) W1 Y) (hm : w.heap.size ≤ mb) : Below w.heap.size w Y :=
 ⟨h2.os.trans h1.os, h2.tape.trans h1.tape, h2.output.trans h1.output, Nat.le_trans h1.size h2.size, fun k hk => (h2.block k (by have := h1.size; omega) (fun e => by have e' : k = mb := e; omega)).trans (h1.block k hk)⟩
theorem defs_len (b : Pb) : (defsB b).length ≤ b.params.length + b.ins.length := by
 rw [defs_is, List.length_append]; have := insD_len b.ins; omega
set_option maxRecDepth 100000 in
set_option maxHeartbeats 8000000 in
theorem plCheck_any {w : World} {a : Nat → Addr} (hS : Sents w a) (hT : TabP w) (hE : TabE w) (hgs : 13 ≤ w.heap.size) (nm : List UInt8) (P V : Int) (L : List Pb) (hL : L.length ≤ 100000) (hlow : ∀ b ∈ L, LowB b) (hfew : ∀ b ∈ L, b.params.length ≤ 100 ∧ b.ins.length ≤ 100) (ba : Option Addr) (bc : Nat) (hC : XCo (InH w) w (.slice ba L.length bc) L) :
  Calls Tryz.prog 10 #[.agg #[.string ⟨nm.toArray⟩, .int .i64 P, .int .i64 V, .slice ba L.length bc]] w (FtTo w a (codeF onesE twosE V P L)) := by
 obtain ⟨W0, hW0⟩ : ∃ W0, W0 = w.alloc (.cells #[.string ⟨nm.toArray⟩, .int .i64 P, .int .i64 V, .slice ba L.length bc] 31) := ⟨_, rfl⟩
 have hb0 : Below w.heap.size w W0 := by rw [hW0]; (repeat (first | exact Below.refl _ _ | assumption | refine Below.drew ?_ | refine bT ?_ _ | refine bS ?_ _ | refine bA ?_ _))
 have hx0 : W0.heap[w.heap.size]? = some (.cells #[.string ⟨nm.toArray⟩, .int .i64 P, .int .i64 V, .slice ba L.length bc] 31 (0, 0)) := by rw [hW0]; exact heap_alloc_new _ _
 have hz0 : W0.heap.size = w.heap.size + 1 := by rw [hW0]; simp
 have hL' : (L.length : Int) ≤ 100000 := by omega
 have hfw := codeF_is onesE twosE V P L
 generalize codeF onesE twosE V P L = res at hfw ⊢
 have HFW := hidX hfw
 have HC := hidX hC
 have HLW := hidX hlow
 have HFEW := hidX hfew
 have HB0 := hidX hb0
 have HX0 := hidX hx0
 have HZ0 := hidX hz0
 have d0 : W0.cell? ⟨w.heap.size, 0, none⟩ = some (.string ⟨nm.toArray⟩) := cell_of_blk hx0 0
 have d1 : W0.cell? ⟨w.heap.size, 1, none⟩ = some (.int .i64 P) := cell_of_blk hx0 1
 have d2 : W0.cell? ⟨w.heap.size, 2, none⟩ = some (.int .i64 V) := cell_of_blk hx0 2
 have d3 : W0.cell? ⟨w.heap.size, 3, none⟩ = some (.slice ba L.length bc) := cell_of_blk hx0 3
 clear hfw hC hlow hfew hb0 hx0 hz0
 go_enter Tryz.func10, Tryz.ntmps10
 go_upto_region 1 with fail
 rw [← hW0]
 clear hW0
 by_cases c1 : 1000 < L.length
 ·have hr : res = (8, -1) := by rw [HFW.out, if_pos (Or.inl c1)]
  subst hr
  have c1' : (1000 : Int) < (L.length : Int) := by omega
  have gc : W0.cell? ⟨0, 0, none⟩ = _ := (hS.below HB0.out).glob 7 (by omega)
  clear hS
  go_wp2
  go_ret
  exact ft_bare (by decide) rfl HB0.out rfl
 have c1' : ¬ (1000 : Int) < (L.length : Int) := by omega
 by_cases c2 : 1000 < V
 ·have hr : res = (8, -1) := by rw [HFW.out, if_pos (Or.inr c2)]
  subst hr
  have gc : W0.cell? ⟨0, 0, none⟩ = _ := (hS.below HB0.out).glob 7 (by omega)
  clear hS
  go_wp2
  go_ret
  exact ft_bare (by decide) rfl HB0.out rfl
 have HF1 := hidX (show res = if L.length = 0 ∨ (blkAt L 0).params ≠ [] ∨ V < 0 then (3, -1) else if P < 0 ∨ 4 < P then (9, -1) else codeFrom onesE twosE V P L 0 [] L from by rw [HFW.out, if_neg]; rintro (h | h); exact c1 h; exact c2 h)
 by_cases c3 : L.length = 0
 ·have hr : res = (3, -1) := by rw [HF1.out, if_pos (Or.inl c3)]
  subst hr
  have c3' : ((L.length : Int) == 0) = true := by simp [c3]
  have gc : W0.cell? ⟨1, 0, none⟩ = _ := (hS.below HB0.out).glob 2 (by omega)
  clear hS
  go_wp2
  go_ret
  exact ft_bare (by decide) rfl HB0.out rfl
 have c3' : ((L.length : Int) == 0) = false := by rw [beq_eq_false_iff_ne]; omega
 have hl0 : 0 < L.length := by omega
 have hl0' : (0 : Int) < (L.length : Int) := by omega
 obtain ⟨g, off, pa, pc, ia, ic, ta, tc, wa, wq, eb, hgb, -, -, -, -, kb, -⟩ := (HC.out.imp (inH_up HB0.out) (keepH HB0.out)).blk hl0
 subst eb
 have HBL := hidX (show (blkAt L 0).params.length = L[0].params.length from by simp [blkAt, hl0])
 have kb' : W0.cell? ⟨g, off, none⟩ = some (.slice pa L[0].params.length pc) := by simpa using kb
 have hpb := (HLW.out _ (List.getElem_mem hl0)).params
 clear kb
 generalize L[0].params.length = pl at *
 have hpb' : (pl : Int) ≤ 1000 := by omega
 by_cases c5 : 0 < pl
 ·have hr : res = (3, -1) := by rw [HF1.out, if_pos (Or.inr (Or.inl (fun e => by have := HBL.out; rw [e] at this; simp at this; omega)))]
  subst hr
  have c5' : (0 : Int) < (pl : Int) := by omega
  have gc : W0.cell? ⟨1, 0, none⟩ = _ := (hS.below HB0.out).glob 2 (by omega)
  clear hS
  go_wp2
  go_ret
  exact ft_bare (by decide) rfl HB0.out rfl
 have hpl : pl = 0 := by omega
 subst hpl
 by_cases c4 : V < 0
 ·have hr : res = (3, -1) := by rw [HF1.out, if_pos (Or.inr (Or.inr c4))]
  subst hr
  have gc : W0.cell? ⟨1, 0, none⟩ = _ := (hS.below HB0.out).glob 2 (by omega)
  clear hS
  go_wp2
  go_ret
  exact ft_bare (by decide) rfl HB0.out rfl
 have HF2 := hidX (show res = if P < 0 ∨ 4 < P then (9, -1) else codeFrom onesE twosE V P L 0 [] L from by
  rw [HF1.out, if_neg]
  rintro (h | h | h)
  ·exact c3 h
  ·exact h (List.length_eq_zero_iff.1 HBL.out)
  ·exact c4 h)
 by_cases c6 : P < 0
 ·have hr : res = (9, -1) := by rw [HF2.out, if_pos (Or.inl c6)]
  subst hr
  have gc : W0.cell? ⟨2, 0, none⟩ = _ := (hS.below HB0.out).glob 8 (by omega)
  clear hS
  go_wp2
  go_ret
  exact ft_bare (by decide) rfl HB0.out rfl
 by_cases c7 : 4 < P
 ·have hr : res = (9, -1) := by rw [HF2.out, if_pos (Or.inr c7)]
  subst hr
  have gc : W0.cell? ⟨2, 0, none⟩ = _ := (hS.below HB0.out).glob 8 (by omega)
  clear hS
  go_wp2
  go_ret
  exact ft_bare (by decide) rfl HB0.out rfl
 have HF3 := hidX (show res = codeFrom onesE twosE V P L 0 [] L from by rw [HF2.out, if_neg]; rintro (h | h); exact c6 h; exact c7 h)
 clear HF1 HF2 HFW
 obtain ⟨W1, hW1⟩ : ∃ W1, W1 = (W0.alloc (.map #[] 0)).alloc (.cells (ckV nm P V (.slice (some ⟨g, off, none⟩) L.length bc) (.map (some W0.heap.size))) 72) := ⟨_, rfl⟩
 obtain ⟨x1, x2⟩ := two_at W0 (.map #[] 0) (.cells (ckV nm P V (.slice (some ⟨g, off, none⟩) L.length bc) (.map (some W0.heap.size))) 72)
 rw [← hW1] at x1 x2
 have hb1 : Below W0.heap.size W0 W1 := by rw [hW1]; (repeat (first | exact Below.refl _ _ | assumption | refine Below.drew ?_ | refine bT ?_ _ | refine bS ?_ _ | refine bA ?_ _))
 have hM1 : HangAt W1 W0.heap.size [] := by
  have h := hang_made W0
  refine h.keep ?_
  rw [x1]; exact (heap_alloc_new W0 _).symm
 obtain ⟨mb, hmb⟩ : ∃ mb, mb = W0.heap.size := ⟨_, rfl⟩
 have hwm : w.heap.size + 1 = mb := by rw [hmb, HZ0.out]
 have HMB := hidX hwm
 have HX2 := hidX x2
 have HM1 := hidX hM1
 have HW1 := hidX (bl_trans HB0.out HB0.out.size hb1)
 have HX0W := hidX (show W1.cell? ⟨w.heap.size, 3, none⟩ = some (.slice (some ⟨g, off, none⟩) L.length bc) from cell_of_blk ((hb1.block _ (heap_lt HX0.out)).trans HX0.out) 3)
 rw [← hmb] at HM1 HX2
 have e3 := HX0W.out
 have hcl := heap_lt x2
 clear x1 x2 hb1 hM1
 have hmm := @run_makeMap Tryz.prog
 have hw0 : w.heap.size < W0.heap.size := heap_lt HX0.out
 have hw01 : w.heap.size < W0.heap.size + 1 := by omega
 clear e3
 go_wp2_with fail
 rw [← hW1]
 clear hW1 kb' d0 d1 d2 d3 hmm
 rw [← hmb] at hcl ⊢
 clear hmb hw01
 go_loopw [4, 5, 6, 55] (fun _ _ _ i wr => ∃ q : Nat, q ≤ L.length ∧ i = .int .i64 (q : Int) ∧ Hid (ButP (fun k => k = mb) W1 wr) ∧ Hid (HangAt wr mb (natL ((L.take q).flatMap defsB)).reverse) ∧ Hid (∀ y ∈ (L.take q).flatMap defsB, 0 ≤ y) ∧ Hid (((L.take q).flatMap defsB).length ≤ q * 200) ∧ Hid (res = codeFrom onesE twosE V P L q ((L.take q).flatMap defsB) (L.drop q))) (fun _ _ _ i _ => L.length - (intOf i).toNat)
 case atStart => exact ⟨0, by omega, rfl, ButP.refl' _ _, (show HangAt W1 mb (natL ((L.take 0).flatMap defsB)).reverse from HM1.out), (show ∀ y ∈ (L.take 0).flatMap defsB, 0 ≤ y from fun y hy => by simp at hy), (show ((L.take 0).flatMap defsB).length ≤ 0 * 200 from by simp), by rw [HF3.out]; rfl⟩
 case round =>
  obtain ⟨q, hq, rfl, HB, HM, HP0, HPL, HRS⟩ := hrel
  have hlow := low_of_but HW1.out HB.out (by have := HMB.out; omega)
  have HLWR := hidX hlow
  by_cases hlt : q < L.length
  ·have hlt' : (q : Int) < (L.length : Int) := by omega
   obtain ⟨g', off', pa, pc, ia, ic, ta, tc, wa, wq, eb, hgb, rP, rI, rT, rW, k0, k1, k2, k3, k4, k5⟩ := HC.out.blk hlt
   injection eb with eb
   injection eb with eb1 eb2
   subst eb1 eb2
   replace k0 := (hlow.cell (p := ⟨g, _, none⟩) hgb).trans k0
   replace k1 := (hlow.cell (p := ⟨g, _, none⟩) hgb).trans k1
   replace k2 := (hlow.cell (p := ⟨g, _, none⟩) hgb).trans k2
   replace k3 := (hlow.cell (p := ⟨g, _, none⟩) hgb).trans k3
   replace k4 := (hlow.cell (p := ⟨g, _, none⟩) hgb).trans k4
   replace k5 := (hlow.cell (p := ⟨g, _, none⟩) hgb).trans k5
   have HLB := hidX (HLW.out _ (List.getElem_mem hlt))
   have HFB := hidX (HFEW.out _ (List.getElem_mem hlt))
   have HDR := hidX (show L.drop q = L[q] :: L.drop (q + 1) from List.drop_eq_getElem_cons hlt)
   have HTK := hidX (show (L.take (q + 1)).flatMap defsB = (L.take q).flatMap defsB ++ defsB L[q] from by rw [List.take_succ_eq_append_getElem hlt, List.flatMap_append]; simp)
   generalize L[q] = b at *
   generalize (L.take q).flatMap defsB = prev at *
   obtain ⟨Wb, hWb⟩ : ∃ Wb, Wb = wr.alloc (.cells #[.slice pa b.params.length pc, .slice ia b.ins.length ic, .string ⟨b.fin.toArray⟩, .int .i64 b.v, .slice ta b.tos.length tc, .slice wa b.wi.length wq] 56) := ⟨_, rfl⟩
   have hwb : Below wr.heap.size wr Wb := by rw [hWb]; (repeat (first | exact Below.refl _ _ | assumption | refine Below.drew ?_ | refine bT ?_ _ | refine bS ?_ _ | refine bA ?_ _))
   have hxb : Wb.heap[wr.heap.size]? = some (.cells #[.slice pa b.params.length pc, .slice ia b.ins.length ic, .string ⟨b.fin.toArray⟩, .int .i64 b.v, .slice ta b.tos.length tc, .slice wa b.wi.length wq] 56 (0, 0)) := by rw [hWb]; exact heap_alloc_new _ _
   have hub : Below w.heap.size w Wb := bl_trans hlow hlow.size hwb
   have hcp : mb + 1 ≠ mb := by have := HMB.out; have := HZ0.out; omega
   have hck : Wb.heap[mb + 1]? = _ := (hwb.block _ (by have := HB.out.size; omega)).trans ((HB.out.block _ hcl hcp).trans HX2.out)
   have HBK := hidX (block_any (hS.below hub) (hT.below hub) (hE.below hub) (mb := mb) (by have := HMB.out; omega) (by omega) L hL hck hcp prev HP0.out (by have := HPL.out; omega) (HM.out.keep (hwb.block _ HM.out.lt)) (A := InH w) (fun c hc => ⟨by have hc' : c < w.heap.size := hc; have := hub.size; omega, fun e => by have hc' : c < w.heap.size := hc; have := HMB.out; omega⟩) (HC.out.imp (fun _ h => h) (fun c hc => hub.block c hc)) b HLB.out pa ia ta wa pc ic tc wq (rP.imp (fun _ h => h) (fun c hc => hub.block c hc)) (rI.imp (fun _ h => h) (fun c hc => hub.block c hc)) (rT.imp (fun _ h => h) (fun c hc => hub.block c hc)) (rW.imp (fun _ h => h) (fun c hc => hub.block c hc)))
   have HNX := hidX (show res = if blockC onesE twosE V P L prev b = 0 then codeFrom onesE twosE V P L (q + 1) (prev ++ defsB b) (L.drop (q + 1)) else (blockC onesE twosE V P L prev b, (q : Int)) from by rw [HRS.out, HDR.out]; rfl)
   have HBZ := hidX (show blockC onesE twosE V P L prev b = 0 → ∀ y ∈ prev ++ defsB b, 0 ≤ y from fun h y hy => by
    rw [blockC_is] at h
    have hz : blockR onesE twosE V P L b = 0 := by
     by_cases e : blockR onesE twosE V P L b = 0
     ·exact e
     ·rw [if_neg e] at h; exact h
    have hbd := (blockR_zero hz).2.1
    rcases List.mem_append.1 hy with h | h
    ·exact HP0.out y h
    ·rw [defs_is] at h
     rcases List.mem_append.1 h with h | h
     ·exact (bound_params hbd y h).1
     ·obtain ⟨x, hx, hd, rfl⟩ := insD_mem h
      exact (bound_d hbd x hx hd).1)
   have HLN := hidX (show (prev ++ defsB b).length ≤ (q + 1) * 200 from by
    have h1 := HPL.out
    have h2 := defs_len b
    have h3 := HFB.out
    rw [List.length_append]
    omega)
   have HWB := hidX hwb
   have m0 : Wb.cell? ⟨wr.heap.size, 0, none⟩ = some (.slice pa b.params.length pc) := cell_of_blk hxb 0
   generalize blockC onesE twosE V P L prev b = bC at *
   clear rP rI rT rW hwb hxb hub hck hlow
   by_cases hz : bC = 0
   ·rw [hz] at HBK
    have HMN := hidX (show HangAt Wb mb (natL prev).reverse from HM.out.keep (HWB.out.block _ HM.out.lt))
    have HB2 := hidX (show ButP (fun k => k = mb) W1 Wb from HB.out.trans (ButP.of (S := fun k => k = mb) HWB.out) (fun x hx => Or.inl hx))
    have HNX2 := hidX (show res = codeFrom onesE twosE V P L (q + 1) (prev ++ defsB b) (L.drop (q + 1)) from by rw [HNX.out, if_pos hz])
    have HBZ2 := hidX (HBZ.out hz)
    clear hz
    go_wp2_with fail
    rw [← hWb]
    clear hWb k0 k1 k2 k3 k4 k5 m0
    refine HBK.out.mono ?_
    rintro e Y ⟨he, hy, hm⟩
    have he' : e = .returned .nilIface := he
    subst he'
    have HY := hidX (HB2.out.trans hy (fun x hx => Or.inl hx))
    have HMY := hidX (hm (by trivial))
    clear hy hm he
    go_wp2
    go_roundw
    case rel => exact ⟨q + 1, by omega, by go_num, HY.out, by rw [HTK.out]; exact HMY.out, (show ∀ y ∈ (L.take (q + 1)).flatMap defsB, 0 ≤ y from by rw [HTK.out]; exact HBZ2.out), by rw [HTK.out]; exact HLN.out, by rw [HTK.out]; exact HNX2.out⟩
    case measure => simp [intOf]; omega
   ·have hres : res = (bC, (q : Int)) := by rw [HNX.out, if_neg hz]
    have hec : errC a bC = sentV (a (bC - 1)) := if_neg hz
    rw [hec] at HBK
    have HZ := hidX hz
    have HB2 := hidX (show ButP (fun k => k = mb) W1 Wb from HB.out.trans (ButP.of (S := fun k => k = mb) HWB.out) (fun x hx => Or.inl hx))
    subst hres
    clear hz hec
    go_wp2_with fail
    rw [← hWb]
    clear hWb k0 k1 k2 k3 k4 k5 m0
    refine HBK.out.mono ?_
    rintro e Y ⟨rfl, hy, -⟩
    have HY := hidX (HB2.out.trans hy (fun x hx => Or.inl hx))
    have HLY := hidX (low_of_but HW1.out HY.out (by have := HMB.out; omega))
    clear hy
    go_wp2
    go_ret
    exact ft_bad HZ.out (by omega) (HLY.out.alloc HLY.out.size _) rfl HLY.out.size (heap_alloc_new _ _)
  ·have hqn : q = L.length := by omega
   subst hqn
   have hres : res = (0, -1) := by rw [HRS.out, List.drop_length]; rfl
   subst hres
   clear hlow
   go_wp2
   go_ret
   exact ft_well rfl HLWR.out rfl
end Go.Proofs.YtmckajgacfjnhaaGreatDoor
