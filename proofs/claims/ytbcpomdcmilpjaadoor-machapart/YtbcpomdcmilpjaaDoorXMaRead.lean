/- Our own: texts joined: MaRead. -/
import Derived.Test.YtbcpomdcmilpjaaDoorXChkRun
import Derived.Test.YtbcpomdcmilpjaaDoorXUntM
import Derived.Deep.OwnRows
import Derived.Deep.RegionHeld3
import Derived.Deep.Cut
namespace Go.Proofs.YtbcpomdcmilpjaaDoor
open Go.RowKit
theorem word_info : (Tryd.prog.info? 95).map (fun i => (i.zero, i.size, i.bytes)) = some (some (.agg #[.string ⟨#[]⟩, .int .i64 0, .int .i64 0, .int .i64 0, .int .i64 0, .string ⟨#[]⟩]), 6, 64) := by kernel_rfl
theorem run_make_words (n : Nat) (hn : n ≤ 8000) (w : World) : ∃ mc : Array Value, mc.size = n * 6 ∧ (Instr.makeSlice 63 (.int .i64 (n : Int)) (.int .i64 (n : Int))).run Tryd.prog w = .ok (.slice (some ⟨w.heap.size, 0, none⟩) n n) (w.alloc (.cells mc 95)) := by
 obtain ⟨i, hi, hzz⟩ := Option.map_eq_some_iff.1 word_info
 simp only [Prod.mk.injEq] at hzz
 obtain ⟨hz, hs, hb⟩ := hzz
 have hr := run_make (P := Tryd.prog) w 63 95 i _ Tryd.underlying63 hi hz .i64 .i64 n n (by omega) (Int.le_refl _) (by rw [hb]; omega) (by omega)
 simp only [Int.toNat_natCast] at hr
 exact ⟨_, by rw [size_madeCells, hs], hr⟩
theorem set6_blk {w : World} {b p : Nat} {cs : Array Value} {t : TypeId} (h : w.heap[b]? = some (.cells cs t (0, 0))) (u0 u1 u2 u3 u4 u5 : Value) :
  ((((((w.setCell ⟨b, p, none⟩ u0).setCell ⟨b, p + 1, none⟩ u1).setCell ⟨b, p + 2, none⟩ u2).setCell ⟨b, p + 3, none⟩ u3).setCell ⟨b, p + 4, none⟩ u4).setCell ⟨b, p + 5, none⟩ u5).heap[b]? = some (.cells ((((((cs.setIfInBounds p u0).setIfInBounds (p + 1) u1).setIfInBounds (p + 2) u2).setIfInBounds (p + 3) u3).setIfInBounds (p + 4) u4).setIfInBounds (p + 5) u5) t (0, 0)) :=
 blk_setCell (blk_setCell (blk_setCell (blk_setCell (blk_setCell (blk_setCell h p u0) (p + 1) u1) (p + 2) u2) (p + 3) u3) (p + 4) u4) (p + 5) u5
theorem set6_low {B : Nat} {a w : World} {r : Nat} (h : Below B a w) (hr : B ≤ r) (p : Nat) (u0 u1 u2 u3 u4 u5 : Value) : Below B a ((((((w.setCell ⟨r, p, none⟩ u0).setCell ⟨r, p + 1, none⟩ u1).setCell ⟨r, p + 2, none⟩ u2).setCell ⟨r, p + 3, none⟩ u3).setCell ⟨r, p + 4, none⟩ u4).setCell ⟨r, p + 5, none⟩ u5) := (((((h.setCell hr _).setCell hr _).setCell hr _).setCell hr _).setCell hr _).setCell hr _
def RdAt (L : List Nat) (k : Nat) (cs : Array Value) : Prop := cs.size = L.length * 6 ∧ ∀ i (hi : i < L.length), i < k → ∀ j, j < 6 → cs[i * 6 + j]? = (wdC L[i])[j]?
theorem RdAt.step {L : List Nat} {k : Nat} {cs : Array Value} (h : RdAt L k cs) (hk : k < L.length) (u0 u1 u2 u3 u4 u5 : Value) (hu : wdC L[k] = [u0, u1, u2, u3, u4, u5]) :
  RdAt L (k + 1) ((((((cs.setIfInBounds (k * 6) u0).setIfInBounds (k * 6 + 1) u1).setIfInBounds (k * 6 + 2) u2).setIfInBounds (k * 6 + 3) u3).setIfInBounds (k * 6 + 4) u4).setIfInBounds (k * 6 + 5) u5) := by
 refine ⟨by simpa using h.1, fun i hi hik j hj => ?_⟩
 have hs := h.1
 by_cases e : i = k
 ·subst e
  rw [hu]
  have hb : i * 6 + 5 < cs.size := by rw [hs]; omega
  rcases (by omega : j = 0 ∨ j = 1 ∨ j = 2 ∨ j = 3 ∨ j = 4 ∨ j = 5) with rfl | rfl | rfl | rfl | rfl | rfl
  all_goals (simp [Array.getElem?_setIfInBounds]; omega)
 ·rw [← h.2 i hi (by omega) j hj]
  have : ∀ m, m < 6 → i * 6 + j ≠ k * 6 + m := fun m hm e2 => e (by omega)
  have t0 := this 0 (by omega)
  have t1 := this 1 (by omega)
  have t2 := this 2 (by omega)
  have t3 := this 3 (by omega)
  have t4 := this 4 (by omega)
  have t5 := this 5 (by omega)
  rw [Array.getElem?_setIfInBounds_ne (Ne.symm t5), Array.getElem?_setIfInBounds_ne (Ne.symm t4), Array.getElem?_setIfInBounds_ne (Ne.symm t3), Array.getElem?_setIfInBounds_ne (Ne.symm t2), Array.getElem?_setIfInBounds_ne (Ne.symm t1), Array.getElem?_setIfInBounds_ne (by simpa using Ne.symm t0)]
set_option maxRecDepth 100000 in
set_option maxHeartbeats 8000000 in
theorem readAll_any {w : World} {a : Nat → Addr} (hS : SenM w a) (hT : TabC w) (L : List Nat) (hwv : ∀ v ∈ L, v < 18446744073709551616) (hwl : L.length ≤ 8000) (adw : Option Addr) (cw : Nat) (hW : XRow (InH w) w (.slice adw L.length cw) L.length (wosV L)) :
  Calls Tryd.prog 22 #[.slice adw L.length cw] w fun e w' => ∃ b, e = .returned (.slice (some ⟨b, 0, none⟩) L.length L.length) ∧ Below w.heap.size w w' ∧ w.heap.size ≤ b ∧ b < w'.heap.size ∧ XWd (fun c => c = b) w' (.slice (some ⟨b, 0, none⟩) L.length L.length) L := by
 obtain ⟨mc, hmc, hmk⟩ := run_make_words L.length hwl w
 have hwl' : (L.length : Int) ≤ 8000 := by omega
 obtain ⟨W1, hW1⟩ : ∃ W1, W1 = w.alloc (.cells mc 95) := ⟨_, rfl⟩
 have hb1 : Below w.heap.size w W1 := by rw [hW1]; (repeat (first | exact Below.refl _ _ | assumption | refine Below.drew ?_ | refine bT ?_ _ | refine bS ?_ _ | refine bA ?_ _))
 have hx1 : W1.heap[w.heap.size]? = some (.cells mc 95 (0, 0)) := by rw [hW1]; exact heap_alloc_new _ _
 rw [← hW1] at hmk
 have HB1 := hidX hb1
 have HX1 := hidX hx1
 have HS := hidX hS
 have HT := hidX hT
 have HWV := hidX hwv
 have HWR := hidX hW
 have HMC := hidX hmc
 clear hb1 hx1 hS hT hwv hW hW1 hmc
 go_enter Tryd.func22, Tryd.ntmps22
 go_wp2_with fail
 clear hmk
 go_loopw [4, 5, 7, 13] (fun _ _ _ i wr => ∃ (q : Nat) (cs : Array Value), q ≤ L.length ∧ i = .int .i64 (q : Int) ∧ Hid (Below w.heap.size w wr) ∧ Hid (wr.heap[w.heap.size]? = some (.cells cs 95 (0, 0))) ∧ Hid (RdAt L q cs)) (fun _ _ _ i _ => L.length - (intOf i).toNat)
 case atStart => exact ⟨0, mc, by omega, rfl, HB1.out, HX1.out, HMC.out, fun i _ h => absurd h (by omega)⟩
 case round =>
  obtain ⟨q, cs, hq, rfl, HB, HX, HRD⟩ := hrel
  by_cases hlt : q < L.length
  ·have hlt' : (q : Int) < (L.length : Int) := by omega
   obtain ⟨gw, offw, eb, _, hgw, hcw⟩ := HWR.out.get (by omega)
   subst eb
   have k0 : wr.cell? ⟨gw, offw + q, none⟩ = some (.int .u64 (L[q] : Nat)) := (HB.out.cell (p := ⟨gw, _, none⟩) hgw).trans (hcw q _ (by simp [wosV, hlt]))
   have HDE := hidX (dec_any L[q] (HWV.out _ (List.getElem_mem hlt)) (fun c => a (errM c - 1)) wr (HT.out.below HB.out) (HS.out.below HB.out).code)
   have HWU := hidX (show wdC L[q] = [.string ⟨(decR L[q]).op.toArray⟩, .int .i64 (decR L[q]).d, .int .i64 (decR L[q]).a, .int .i64 (decR L[q]).b, .int .i64 (decR L[q]).imm, .string ⟨(coNamed (decR L[q]).op).2.sg.toArray⟩] from rfl)
   have HSG := hidX (fun (X : World) (hX : Below w.heap.size w X) => sign_any (decR L[q]).op X (HT.out.below hX))
   have HST := hidX (fun u0 u1 u2 u3 u4 u5 hu => HRD.out.step hlt u0 u1 u2 u3 u4 u5 hu)
   have hcs : cs.size = L.length * 6 := HRD.out.1
   generalize erV (fun c => a (errM c - 1)) (coChk (coNum (L[q] / 72057594037927936)) (decC L[q])) = ev at HDE
   generalize decR L[q] = di at HDE HWU HSG
   generalize L[q] = u at k0 HDE HWU HST
   obtain ⟨op, D, A, B, imm⟩ := di
   clear hcw
   go_wp2_with fail
   refine HDE.out.mono ?_
   rintro e Y ⟨rfl, hbY⟩
   have hxY := (hbY.block _ (heap_lt HX.out)).trans HX.out
   have hBY := bl_trans HB.out HB.out.size hbY
   obtain ⟨lb, hlb⟩ : ∃ lb, lb = Y.heap.size := ⟨_, rfl⟩
   obtain ⟨Z, hZ⟩ : ∃ Z, Z = Y.alloc (.cells #[.string ⟨op.toArray⟩, .int .i64 D, .int .i64 A, .int .i64 B, .int .i64 imm] 91) := ⟨_, rfl⟩
   have hbZ : Below Y.heap.size Y Z := by rw [hZ]; (repeat (first | exact Below.refl _ _ | assumption | refine Below.drew ?_ | refine bT ?_ _ | refine bS ?_ _ | refine bA ?_ _))
   have hxl : Z.heap[lb]? = some (.cells #[.string ⟨op.toArray⟩, .int .i64 D, .int .i64 A, .int .i64 B, .int .i64 imm] 91 (0, 0)) := by rw [hZ, hlb]; exact heap_alloc_new _ _
   have hxZ := (hbZ.block _ (heap_lt hxY)).trans hxY
   have hne : w.heap.size ≠ lb := by have := heap_lt hxY; omega
   have HBZ := hidX (bl_trans hBY hBY.size hbZ)
   have HXZ := hidX hxZ
   have HXL := hidX hxl
   have hcl : ∀ j, j < 6 → ∃ v, cs[q * 6 + j]? = some v := fun j hj => ⟨_, Array.getElem?_eq_getElem (by rw [hcs]; omega)⟩
   obtain ⟨v0, hv0⟩ := hcl 0 (by omega)
   obtain ⟨v1, hv1⟩ := hcl 1 (by omega)
   obtain ⟨v2, hv2⟩ := hcl 2 (by omega)
   obtain ⟨v3, hv3⟩ := hcl 3 (by omega)
   obtain ⟨v4, hv4⟩ := hcl 4 (by omega)
   obtain ⟨v5, hv5⟩ := hcl 5 (by omega)
   have HV := hidX (And.intro hv0 (And.intro hv1 (And.intro hv2 (And.intro hv3 (And.intro hv4 hv5)))))
   have HCS := hidX (show ∀ W : World, W.heap[lb]? = Z.heap[lb]? → W.cell? ⟨lb, 0, none⟩ = some (.string ⟨op.toArray⟩) ∧ W.cell? ⟨lb, 1, none⟩ = some (.int .i64 D) ∧ W.cell? ⟨lb, 2, none⟩ = some (.int .i64 A) ∧ W.cell? ⟨lb, 3, none⟩ = some (.int .i64 B) ∧ W.cell? ⟨lb, 4, none⟩ = some (.int .i64 imm) from fun W h => ⟨cell_of_blk (h.trans HXL.out) 0, cell_of_blk (h.trans HXL.out) 1, cell_of_blk (h.trans HXL.out) 2, cell_of_blk (h.trans HXL.out) 3, cell_of_blk (h.trans HXL.out) 4⟩)
   have HLB := hidX (heap_lt HXL.out)
   clear hbY hxY hBY hbZ hxl hxZ hcl hv0 hv1 hv2 hv3 hv4 hv5 hcs
   go_upto_region 6 with fail
   rw [← hlb]
   rw [← hZ]
   clear hZ hlb k0
   have s1 := HCS.out Z rfl
   refine wp_region_V (fun W => W.cell? ⟨lb, 0, none⟩ = some (.string ⟨op.toArray⟩) ∧ W.cell? ⟨lb, 1, none⟩ = some (.int .i64 D) ∧ W.cell? ⟨lb, 2, none⟩ = some (.int .i64 A) ∧ W.cell? ⟨lb, 3, none⟩ = some (.int .i64 B) ∧ W.cell? ⟨lb, 4, none⟩ = some (.int .i64 imm)) 8 (by kernel_rfl) (HCS.out _ rfl) (fun hHeld => ?_)
   refine wpAnyV_put 0 (some 23) (v := ?v0) rfl rfl (by kernel_rfl) (by kernel_rfl) (by kernel_rfl) (by kernel_rfl) (by kernel_rfl) (fun _ _ _ h => h) (Or.inl ⟨by rfl, ?hy0⟩) hHeld ?rest0
   case hy0 => (intro w2 hSw; (try dsimp only at hSw); first | (go_simp; done) | (go_simp; with_reducible rfl))
   simp only [Act.put, List.setIfInBounds_toArray, List.set_cons_zero, List.set_cons_succ]
   refine wpAnyV_put 1 (some 24) (v := ?v1) rfl rfl (by kernel_rfl) (by kernel_rfl) (by kernel_rfl) (by kernel_rfl) (by kernel_rfl) (fun _ _ _ h => h) (Or.inl ⟨by rfl, ?hy1⟩) hHeld ?rest1
   case hy1 => (intro w2 hSw; (try dsimp only at hSw); first | (go_simp; done) | (go_simp; with_reducible rfl))
   simp only [Act.put, List.setIfInBounds_toArray, List.set_cons_zero, List.set_cons_succ]
   refine wpAnyV_put 2 (some 25) (v := ?v2) rfl rfl (by kernel_rfl) (by kernel_rfl) (by kernel_rfl) (by kernel_rfl) (by kernel_rfl) (fun _ _ _ h => h) (Or.inl ⟨by rfl, ?hy2⟩) hHeld ?rest2
   case hy2 => (intro w2 hSw; (try dsimp only at hSw); first | (go_simp; done) | (go_simp; with_reducible rfl))
   simp only [Act.put, List.setIfInBounds_toArray, List.set_cons_zero, List.set_cons_succ]
   refine wpAnyV_put 3 (some 26) (v := ?v3) rfl rfl (by kernel_rfl) (by kernel_rfl) (by kernel_rfl) (by kernel_rfl) (by kernel_rfl) (fun _ _ _ h => h) (Or.inl ⟨by rfl, ?hy3⟩) hHeld ?rest3
   case hy3 => (intro w2 hSw; (try dsimp only at hSw); first | (go_simp; done) | (go_simp; with_reducible rfl))
   simp only [Act.put, List.setIfInBounds_toArray, List.set_cons_zero, List.set_cons_succ]
   refine wpAnyV_put 4 (some 27) (v := ?v4) rfl rfl (by kernel_rfl) (by kernel_rfl) (by kernel_rfl) (by kernel_rfl) (by kernel_rfl) (fun _ _ _ h => h) (Or.inl ⟨by rfl, ?hy4⟩) hHeld ?rest4
   case hy4 => (intro w2 hSw; (try dsimp only at hSw); first | (go_simp; done) | (go_simp; with_reducible rfl))
   simp only [Act.put, List.setIfInBounds_toArray, List.set_cons_zero, List.set_cons_succ]
   refine wpAnyV_one (i := 5) (by kernel_rfl) rfl (fun K5 hK5 => ?_)
   go_simp
   refine (HSG.out _ (HBZ.out.trans (by (repeat (first | exact Below.refl _ _ | assumption | refine Below.drew ?_ | refine bT ?_ _ | refine bS ?_ _ | refine bA ?_ _))))).mono ?_
   rintro e X ⟨rfl, hbX⟩
   have hXl := (hbX.block lb HLB.out).trans (show _ = Z.heap[lb]? from rfl)
   replace hHeld := HCS.out X hXl
   have hxX := (hbX.block _ (heap_lt HXZ.out)).trans HXZ.out
   have w0 : X.cell? ⟨w.heap.size, q * 6, none⟩ = some v0 := (cell_of_blk hxX _).trans HV.out.1
   have w1 : X.cell? ⟨w.heap.size, q * 6 + 1, none⟩ = some v1 := (cell_of_blk hxX _).trans HV.out.2.1
   have w2 : X.cell? ⟨w.heap.size, q * 6 + 2, none⟩ = some v2 := (cell_of_blk hxX _).trans HV.out.2.2.1
   have w3 : X.cell? ⟨w.heap.size, q * 6 + 3, none⟩ = some v3 := (cell_of_blk hxX _).trans HV.out.2.2.2.1
   have w4 : X.cell? ⟨w.heap.size, q * 6 + 4, none⟩ = some v4 := (cell_of_blk hxX _).trans HV.out.2.2.2.2.1
   have w5 : X.cell? ⟨w.heap.size, q * 6 + 5, none⟩ = some v5 := (cell_of_blk hxX _).trans HV.out.2.2.2.2.2
   have g0 := free_of_blk hxX (q * 6)
   have g1 := free_of_blk hxX (q * 6 + 1)
   have g2 := free_of_blk hxX (q * 6 + 2)
   have g3 := free_of_blk hxX (q * 6 + 3)
   have g4 := free_of_blk hxX (q * 6 + 4)
   have g5 := free_of_blk hxX (q * 6 + 5)
   have HXX := hidX hxX
   have HBX := hidX hbX
   clear hxX hbX hXl
   refine hK5.out _ _ (fun _ => hHeld) (fun _ => ?_)
   clear hK5 K5
   try simp only [Act.put, List.setIfInBounds_toArray, List.set_cons_zero, List.set_cons_succ]
   refine wpAnyV_put 6 (some 29) (v := ?v6) rfl rfl (by kernel_rfl) (by kernel_rfl) (by kernel_rfl) (by kernel_rfl) (by kernel_rfl) (fun _ _ _ h => h) (Or.inl ⟨by rfl, ?hy6⟩) hHeld ?rest6
   case hy6 => (intro w2 hSw; (try dsimp only at hSw); first | (go_simp; done) | (go_simp; with_reducible rfl))
   simp only [Act.put, List.setIfInBounds_toArray, List.set_cons_zero, List.set_cons_succ]
   refine wpAnyV_put 7 (some 30) (v := ?v7) rfl rfl (by kernel_rfl) (by kernel_rfl) (by kernel_rfl) (by kernel_rfl) (by kernel_rfl) (fun _ _ _ h => h) (Or.inl ⟨by rfl, ?hy7⟩) hHeld ?rest7
   case hy7 => (intro w2 hSw; (try dsimp only at hSw); first | (go_simp; done) | (go_simp; with_reducible rfl))
   simp only [Act.put, List.setIfInBounds_toArray, List.set_cons_zero, List.set_cons_succ]
   refine wpAnyV_one (i := 8) (by kernel_rfl) rfl (fun K8 hK8 => ?_)
   go_simp
   refine hK8.out _ _ (fun h => absurd rfl h) (fun _ => ?_)
   clear hK8 K8 hHeld
   refine wpAnyV_done (by kernel_rfl) ?_ _
   have hbX : Below w.heap.size w X := (HBZ.out.trans (show Below w.heap.size Z Z.drew by (repeat (first | exact Below.refl _ _ | assumption | refine Below.drew ?_ | refine bT ?_ _ | refine bS ?_ _ | refine bA ?_ _)))).trans (HBX.out.mono (by have := HBZ.out.size; simpa using this))
   have HBF := hidX (set6_low hbX (Nat.le_refl _) (q * 6) (.string ⟨op.toArray⟩) (.int .i64 D) (.int .i64 A) (.int .i64 B) (.int .i64 imm) (.string ⟨(coNamed op).2.sg.toArray⟩))
   clear hbX w0 w1 w2 w3 w4 w5 g0 g1 g2 g3 g4 g5
   go_wp2
   go_roundw
   case rel => exact ⟨q + 1, _, by omega, by go_num, HBF.out, set6_blk HXX.out _ _ _ _ _ _, HST.out _ _ _ _ _ _ HWU.out⟩
   case measure => simp [intOf]; omega
  ·have hqn : q = L.length := by omega
   subst hqn
   have hx : XWd (fun c => c = w.heap.size) wr (.slice (some ⟨w.heap.size, 0, none⟩) L.length L.length) L := by
    refine ⟨_, _, rfl, fun hn => ⟨w.heap.size, 0, rfl, rfl, fun j u hu => ?_⟩⟩
    rw [Nat.zero_add, cell_of_blk HX.out]
    have hfl : (L.flatMap wdC).length = L.length * 6 := by
     have : ∀ l : List Nat, (l.flatMap wdC).length = l.length * 6 := fun l => by
      induction l with
      | nil => rfl
      | cons x r ih => rw [List.flatMap_cons, List.length_append, ih]; simp [wdC]; omega
     exact this L
    have hj : j < L.length * 6 := by
     rcases Nat.lt_or_ge j (L.length * 6) with h | h
     ·exact h
     ·rw [List.getElem?_eq_none (by omega)] at hu; cases hu
    have hi : j / 6 < L.length := by omega
    have := flat_at wdC 6 (fun _ => rfl) hi (j % 6) (by omega)
    rw [show j / 6 * 6 + j % 6 = j from by omega] at this
    rw [this] at hu
    have h2 := HRD.out.2 (j / 6) hi hi (j % 6) (by omega)
    rw [show j / 6 * 6 + j % 6 = j from by omega] at h2
    rw [h2]; exact hu
   have HXW := hidX hx
   clear hx
   go_wp2
   go_ret
   exact ⟨_, rfl, HB.out, Nat.le_refl _, heap_lt HX.out, HXW.out⟩
end Go.Proofs.YtbcpomdcmilpjaaDoor
