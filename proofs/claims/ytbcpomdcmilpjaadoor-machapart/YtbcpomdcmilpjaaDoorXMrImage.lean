/- Our own: texts joined: MrImage. -/
import Derived.Test.YtbcpomdcmilpjaaDoorXMrE
import Derived.Test.YtbcpomdcmilpjaaDoorXChkRun
import Derived.Test.YtbcpomdcmilpjaaDoorXRunBM
namespace Go.Proofs.YtbcpomdcmilpjaaDoor
open Go.RowKit
theorem two_atM (w : World) (x y : Obj) : ((w.alloc x).alloc y).heap[w.heap.size]? = some x ∧ ((w.alloc x).alloc y).heap[w.heap.size + 1]? = some y := by
 refine ⟨(Below.heap_alloc (w.alloc x) y _ (by simp)).trans (heap_alloc_new w x), ?_⟩
 have := heap_alloc_new (w.alloc x) y
 rwa [World.size_alloc] at this
structure Ri (w X : World) (fv wv : Value) : Prop where
 low : Below w.heap.size w X
 box : X.heap[w.heap.size]? = some (.cells #[fv, wv] 25 (0, 0))
 res : X.heap[w.heap.size + 1]? = some (.cells #[.int .i64 0, .int .i64 0] 30 (0, 0))
theorem Ri.below {w X Y : World} {fv wv : Value} (h : Ri w X fv wv) (hb : Below X.heap.size X Y) : Ri w Y fv wv :=
 ⟨bl_trans h.low h.low.size hb, (hb.block _ (heap_lt h.box)).trans h.box, (hb.block _ (heap_lt h.res)).trans h.res⟩
theorem ri_ret {w Y : World} {fv wv : Value} (h : Ri w Y fv wv) (x y : Value) (o : Obj) : (((Y.setCell ⟨w.heap.size + 1, 0, none⟩ x).setCell ⟨w.heap.size + 1, 1, none⟩ y).alloc o).heap[w.heap.size + 1]? = some (.cells #[x, y] 30 (0, 0)) ∧ Below w.heap.size w (((Y.setCell ⟨w.heap.size + 1, 0, none⟩ x).setCell ⟨w.heap.size + 1, 1, none⟩ y).alloc o) := by
 have hz : ((Y.setCell ⟨w.heap.size + 1, 0, none⟩ x).setCell ⟨w.heap.size + 1, 1, none⟩ y).heap.size = Y.heap.size := by simp [World.setCell]
 have hl := heap_lt h.res
 have hlw := h.low.size
 exact ⟨(Below.heap_alloc _ o (w.heap.size + 1) (by rw [hz]; exact hl)).trans (set2_blk h.res x y), (set2_low h.low (Nat.le_succ _) x y).alloc (by rw [hz]; exact hlw) _⟩
def prevE (nm : List UInt8) (ks : List (List UInt8)) : Nat := if nm = [] ∨ nm ∈ ks then 5 else 0
theorem fun_is (I : Im) (i : Nat) (f : Mf) : funN I i f = if prevE f.name ((I.funs.take i).map Mf.name) = 5 then 5 else if f.params < 0 ∨ 4 < f.params then 9 else if f.slots < 0 ∨ 1000 < f.slots ∨ f.entry < 0 ∨ (I.words.length : Int) ≤ f.entry then 2 else 0 := by
 unfold funN prevE
 by_cases h : f.name = [] ∨ f.name ∈ (I.funs.take i).map Mf.name
 ·rw [if_pos h, if_pos h, if_pos rfl]
 ·rw [if_neg h, if_neg h, if_neg (show ¬ (0 : Nat) = 5 by decide)]
set_option maxRecDepth 100000 in
set_option maxHeartbeats 16000000 in
theorem rImage_any {w : World} (I : Im) (hwv : ∀ v ∈ I.words, v < 18446744073709551616) (hfl : I.funs.length ≤ 100000) (hwl : I.words.length ≤ 100000) (adf adw : Option Addr) (cf cw : Nat) (hF : XMf (InH w) w (.slice adf I.funs.length cf) I.funs) (hW : XRow (InH w) w (.slice adw I.words.length cw) I.words.length (wosV I.words)) :
  Calls Tryd.prog 8 #[.agg #[.slice adf I.funs.length cf, .slice adw I.words.length cw]] w fun e w' => e = .returned (.agg #[.int .i64 (((imF I).1 : Nat) : Int), .int .i64 (imF I).2]) ∧ Below w.heap.size w w' := by
 obtain ⟨W0, hW0⟩ : ∃ W0, W0 = (w.alloc (.cells #[.slice adf I.funs.length cf, .slice adw I.words.length cw] 25)).alloc (.cells #[.int .i64 0, .int .i64 0] 30) := ⟨_, rfl⟩
 have hR0 : Ri w W0 (.slice adf I.funs.length cf) (.slice adw I.words.length cw) := ⟨by rw [hW0]; (repeat (first | exact Below.refl _ _ | assumption | refine Below.drew ?_ | refine bT ?_ _ | refine bS ?_ _ | refine bA ?_ _)), by rw [hW0]; exact (two_atM w _ _).1, by rw [hW0]; exact (two_atM w _ _).2⟩
 have hfl' : (I.funs.length : Int) ≤ 100000 := by omega
 have hwl' : (I.words.length : Int) ≤ 100000 := by omega
 generalize hres : imF I = res
 have hr : res = if 8 < I.funs.length ∨ 8000 < I.words.length then (8, -1) else if (mfFrom I 0 I.funs).1 ≠ 0 then mfFrom I 0 I.funs else wdFrom I 0 I.words := by rw [← hres]; rfl
 have HR := hidX hr
 have HF := hidX hF
 have HWR := hidX hW
 have HR0 := hidX hR0
 have d0 : W0.cell? ⟨w.heap.size, 0, none⟩ = some (.slice adf I.funs.length cf) := cell_of_blk hR0.box 0
 have d1 : W0.cell? ⟨w.heap.size, 1, none⟩ = some (.slice adw I.words.length cw) := cell_of_blk hR0.box 1
 clear hres hr hF hW hR0
 by_cases c1 : 8 < I.funs.length
 ·have c1' : (8 : Int) < (I.funs.length : Int) := by omega
  have hr : res = (8, -1) := by rw [HR.out, if_pos (by omega)]
  subst hr
  rw [hW0] at d0 d1
  go_enter Tryd.func8, Tryd.ntmps8
  go_wp2_with fail
  rw [← hW0]
  refine (bareG 8 W0).mono ?_
  rintro e X ⟨rfl, hb⟩
  have HFX := hidX (HR0.out.below hb)
  have x0 := cell_of_blk HFX.out.res 0
  have x1 := cell_of_blk HFX.out.res 1
  have x2 := free_of_blk HFX.out.res 0
  have x3 := free_of_blk HFX.out.res 1
  simp only [List.getElem?_toArray, List.getElem?_cons_zero, List.getElem?_cons_succ] at x0 x1
  clear hW0 hb
  go_wp2
  exact ret_row (w.heap.size + 1) 2 _ 30 rfl rfl (set2_blk HFX.out.res _ _) Tryd.underlying30 (by kernel_rfl) ⟨rfl, set2_low HFX.out.low (Nat.le_succ _) _ _⟩
 have c1' : ¬ (8 : Int) < (I.funs.length : Int) := by omega
 by_cases c2 : 8000 < I.words.length
 ·have c2' : (8000 : Int) < (I.words.length : Int) := by omega
  have hr : res = (8, -1) := by rw [HR.out, if_pos (by omega)]
  subst hr
  rw [hW0] at d0 d1
  go_enter Tryd.func8, Tryd.ntmps8
  go_wp2_with fail
  rw [← hW0]
  refine (bareG 8 W0).mono ?_
  rintro e X ⟨rfl, hb⟩
  have HFX := hidX (HR0.out.below hb)
  have x0 := cell_of_blk HFX.out.res 0
  have x1 := cell_of_blk HFX.out.res 1
  have x2 := free_of_blk HFX.out.res 0
  have x3 := free_of_blk HFX.out.res 1
  simp only [List.getElem?_toArray, List.getElem?_cons_zero, List.getElem?_cons_succ] at x0 x1
  clear hW0 hb
  go_wp2
  exact ret_row (w.heap.size + 1) 2 _ 30 rfl rfl (set2_blk HFX.out.res _ _) Tryd.underlying30 (by kernel_rfl) ⟨rfl, set2_low HFX.out.low (Nat.le_succ _) _ _⟩
 have c2' : ¬ (8000 : Int) < (I.words.length : Int) := by omega
 have HR1 := hidX (show res = if (mfFrom I 0 I.funs).1 ≠ 0 then mfFrom I 0 I.funs else wdFrom I 0 I.words from by rw [HR.out, if_neg (by omega)])
 clear HR
 have HWV := hidX hwv
 have hW00 := hW0.symm
 clear hwv hW0
 go_enter Tryd.func8, Tryd.ntmps8
 go_wp2_with fail
 clear hW00 d0 d1
 go_loopw [3, 4, 5, 6] (fun i _ _ _ wr => ∃ q : Nat, q ≤ I.funs.length ∧ i = .int .i64 (q : Int) ∧ Hid (Ri w wr (.slice adf I.funs.length cf) (.slice adw I.words.length cw)) ∧ Hid (mfFrom I 0 I.funs = mfFrom I q (I.funs.drop q))) (fun i _ _ _ _ => I.funs.length - (intOf i).toNat)
 case atStart => exact ⟨0, by omega, rfl, HR0.out, rfl⟩
 case round =>
  obtain ⟨q, hq, rfl, HB, HRS⟩ := hrel
  have hwr : w.heap.size + 1 < wr.heap.size := heap_lt HB.out.res
  have i0 : wr.cell? ⟨w.heap.size, 0, none⟩ = some (.slice adf I.funs.length cf) := cell_of_blk HB.out.box 0
  have i1 : wr.cell? ⟨w.heap.size, 1, none⟩ = some (.slice adw I.words.length cw) := cell_of_blk HB.out.box 1
  by_cases hlt : q < I.funs.length
  ·have hlt' : (q : Int) < (I.funs.length : Int) := by omega
   obtain ⟨g, off, eb, hgb, k0, k1, k2, k3⟩ := HF.out.at hlt
   subst eb
   replace k0 := (HB.out.low.cell (p := ⟨g, _, none⟩) hgb).trans k0
   replace k1 := (HB.out.low.cell (p := ⟨g, _, none⟩) hgb).trans k1
   replace k2 := (HB.out.low.cell (p := ⟨g, _, none⟩) hgb).trans k2
   replace k3 := (HB.out.low.cell (p := ⟨g, _, none⟩) hgb).trans k3
   have HNM := hidX (show ∀ (X : World), Ri w X (.slice (some ⟨g, off, none⟩) I.funs.length cf) (.slice adw I.words.length cw) → ∀ j (hj : j < I.funs.length), X.cell? ⟨g, off + j * 4, none⟩ = some (.string ⟨(I.funs[j]).name.toArray⟩) from fun X hX j hj => by
    obtain ⟨g', off', eb', _, n0, _⟩ := HF.out.at hj
    injection eb' with eb'
    injection eb' with e1 e2
    subst e1 e2
    exact (hX.low.cell (p := ⟨g, _, none⟩) hgb).trans n0)
   have hdr : I.funs.drop q = I.funs[q] :: I.funs.drop (q + 1) := List.drop_eq_getElem_cons hlt
   have HNX := hidX (show mfFrom I 0 I.funs = if funN I q I.funs[q] = 0 then mfFrom I (q + 1) (I.funs.drop (q + 1)) else (funN I q I.funs[q], (q : Int)) from by rw [HRS.out, hdr]; rfl)
   have HFN := hidX (fun_is I q I.funs[q])
   have hfq : I.funs[q] = I.funs[q] := rfl
   generalize I.funs[q] = f at *
   obtain ⟨nm, P, S, E⟩ := f
   simp only at k0 k1 k2 k3
   obtain ⟨Wb, hWb⟩ : ∃ Wb, Wb = wr.alloc (.cells #[.string ⟨nm.toArray⟩, .int .i64 P, .int .i64 S, .int .i64 E] 33) := ⟨_, rfl⟩
   have hwb : Below wr.heap.size wr Wb := by rw [hWb]; (repeat (first | exact Below.refl _ _ | assumption | refine Below.drew ?_ | refine bT ?_ _ | refine bS ?_ _ | refine bA ?_ _))
   have hxb : Wb.heap[wr.heap.size]? = some (.cells #[.string ⟨nm.toArray⟩, .int .i64 P, .int .i64 S, .int .i64 E] 33 (0, 0)) := by rw [hWb]; exact heap_alloc_new _ _
   have HBB := hidX (HB.out.below hwb)
   obtain ⟨lb, hlb⟩ : ∃ lb, lb = wr.heap.size := ⟨_, rfl⟩
   rw [← hlb] at hxb
   have HXB := hidX hxb
   have HZB := hidX (heap_lt hxb)
   have b0 : Wb.cell? ⟨lb, 0, none⟩ = some (.string ⟨nm.toArray⟩) := cell_of_blk hxb 0
   generalize funN I q ⟨nm, P, S, E⟩ = fc at *
   obtain ⟨e0, he0⟩ : ∃ e0 : Nat, e0 = prevE nm [] := ⟨_, rfl⟩
   have HE0 := hidX he0
   clear hwb hxb hdr hfq he0
   go_upto_region 7 with fail
   rw [← hWb, ← hlb]
   clear hWb hlb k0 k1 k2 k3 i0 i1 hwr
   by_cases hnm : nm = []
   ·subst hnm
    go_wp2_with fail
    go_loopw [5, 6] (fun ev kv wr => ∃ (k e : Nat), k ≤ q ∧ ev = .int .i64 (e : Int) ∧ kv = .int .i64 (k : Int) ∧ Hid (e = prevE ([] : List UInt8) ((I.funs.take k).map Mf.name)) ∧ Hid (Below Wb.heap.size Wb wr)) (fun _ kv _ => q - (intOf kv).toNat)
    case atStart => exact ⟨0, 5, by omega, rfl, rfl, by (unfold Hid prevE; simp), Below.refl _ _⟩
    case round =>
     obtain ⟨k, e, hk, rfl, rfl, HEV, HB2⟩ := hrel
     have HRI := hidX (HBB.out.below HB2.out)
     have hx2 := (HB2.out.block _ HZB.out).trans HXB.out
     have c0 : wr.cell? ⟨lb, 0, none⟩ = some (.string ⟨([] : List UInt8).toArray⟩) := cell_of_blk hx2 0
     have i0 : wr.cell? ⟨w.heap.size, 0, none⟩ = some (.slice (some ⟨g, off, none⟩) I.funs.length cf) := cell_of_blk HRI.out.box 0
     by_cases hkq : k < q
     ·have hkq' : (k : Int) < (q : Int) := by omega
      have hkn : (k : Int) < (I.funs.length : Int) := by omega
      have n0 := HNM.out wr HRI.out k (by omega)
      have HTK := hidX (show (I.funs.take (k + 1)).map Mf.name = (I.funs.take k).map Mf.name ++ [(I.funs[k]'(by omega)).name] from by rw [List.take_succ_eq_append_getElem (by omega), List.map_append]; rfl)
      generalize (I.funs[k]'(by omega)).name = nk at n0 HTK
      clear hx2
      by_cases he : nk = ([] : List UInt8)
      ·have he' : (nk == ([] : List UInt8)) = true := by simp [he]
       have HN5 := hidX (show (5 : Nat) = prevE ([] : List UInt8) ((I.funs.take (k + 1)).map Mf.name) from by rw [HTK.out]; unfold prevE; rw [if_pos (Or.inr (by simp [he]))])
       clear he
       go_wp2_with fail
       go_quiet (fail)
       go_wp2
       go_roundw
       case rel => exact ⟨k + 1, 5, by omega, rfl, by go_num, HN5.out, HB2.out.trans (by (repeat (first | exact Below.refl _ _ | assumption | refine Below.drew ?_ | refine bT ?_ _ | refine bS ?_ _ | refine bA ?_ _)))⟩
       case measure => simp [intOf]; omega
      ·have he' : (nk == ([] : List UInt8)) = false := ne_lit he
       have HN5 := hidX (show e = prevE ([] : List UInt8) ((I.funs.take (k + 1)).map Mf.name) from by
        rw [HTK.out, HEV.out]
        have hm : ([] : List UInt8) ∈ (I.funs.take k).map Mf.name ++ [nk] ↔ ([] : List UInt8) ∈ (I.funs.take k).map Mf.name := by
         rw [List.mem_append, List.mem_singleton]
         exact ⟨fun h => h.elim id (fun h => absurd h.symm he), Or.inl⟩
        unfold prevE
        simp only [hm])
       clear he
       go_wp2_with fail
       go_quiet (fail)
       go_wp2
       go_roundw
       case rel => exact ⟨k + 1, e, by omega, rfl, by go_num, HN5.out, HB2.out.trans (by (repeat (first | exact Below.refl _ _ | assumption | refine Below.drew ?_ | refine bT ?_ _ | refine bS ?_ _ | refine bA ?_ _)))⟩
       case measure => simp [intOf]; omega
     ·have hkq2 : k = q := by omega
      subst hkq2
      have c1 : wr.cell? ⟨lb, 1, none⟩ = some (.int .i64 P) := cell_of_blk hx2 1
      have c2 : wr.cell? ⟨lb, 2, none⟩ = some (.int .i64 S) := cell_of_blk hx2 2
      have c3 : wr.cell? ⟨lb, 3, none⟩ = some (.int .i64 E) := cell_of_blk hx2 3
      have i1 : wr.cell? ⟨w.heap.size, 1, none⟩ = some (.slice adw I.words.length cw) := cell_of_blk HRI.out.box 1
      have r0 : wr.cell? ⟨w.heap.size + 1, 0, none⟩ = some (.int .i64 0) := cell_of_blk HRI.out.res 0
      have r1 : wr.cell? ⟨w.heap.size + 1, 1, none⟩ = some (.int .i64 0) := cell_of_blk HRI.out.res 1
      have s0 := free_of_blk HRI.out.res 0
      have s1 := free_of_blk HRI.out.res 1
      have HFC := hidX (show fc = if e = 5 then 5 else if P < 0 ∨ 4 < P then 9 else if S < 0 ∨ 1000 < S ∨ E < 0 ∨ (I.words.length : Int) ≤ E then 2 else 0 from by rw [HEV.out]; exact HFN.out)
      have HEC := hidX (show e = 5 ∨ e = 0 from by rw [HEV.out]; unfold prevE; split; exact Or.inl rfl; exact Or.inr rfl)
      clear hx2 i0
      by_cases h5 : e = 5
      ·subst h5
       have hf : fc = 5 := by rw [HFC.out]; rw [if_pos rfl]
       have hres : res = (5, (k : Int)) := by
        have h1 : mfFrom I 0 I.funs = (5, (k : Int)) := by rw [HNX.out, hf, if_neg (by decide)]
        rw [HR1.out, h1, if_pos (show (5 : Nat) ≠ 0 by decide)]
       clear HFC hf HR1 HNX HFN HRS
       subst hres
       go_wp2
       exact ret_row (w.heap.size + 1) 2 _ 30 rfl rfl (set2_blk HRI.out.res _ _) Tryd.underlying30 (by kernel_rfl) ⟨rfl, set2_low HRI.out.low (Nat.le_succ _) _ _⟩
      have h0 : e = 0 := HEC.out.resolve_left h5
      subst h0
      clear h5 c0
      by_cases h1 : P < 0
      ·have hf : fc = 9 := by rw [HFC.out]; rw [if_neg (by decide), if_pos (by omega)]
       have hres : res = (9, (k : Int)) := by
        have h1 : mfFrom I 0 I.funs = (9, (k : Int)) := by rw [HNX.out, hf, if_neg (by decide)]
        rw [HR1.out, h1, if_pos (show (9 : Nat) ≠ 0 by decide)]
       clear HFC hf HR1 HNX HFN HRS
       subst hres
       go_wp2
       exact ret_row (w.heap.size + 1) 2 _ 30 rfl rfl (set2_blk HRI.out.res _ _) Tryd.underlying30 (by kernel_rfl) ⟨rfl, set2_low HRI.out.low (Nat.le_succ _) _ _⟩
      by_cases h2 : 4 < P
      ·have hf : fc = 9 := by rw [HFC.out]; rw [if_neg (by decide), if_pos (by omega)]
       have hres : res = (9, (k : Int)) := by
        have h1 : mfFrom I 0 I.funs = (9, (k : Int)) := by rw [HNX.out, hf, if_neg (by decide)]
        rw [HR1.out, h1, if_pos (show (9 : Nat) ≠ 0 by decide)]
       clear HFC hf HR1 HNX HFN HRS
       subst hres
       go_wp2
       exact ret_row (w.heap.size + 1) 2 _ 30 rfl rfl (set2_blk HRI.out.res _ _) Tryd.underlying30 (by kernel_rfl) ⟨rfl, set2_low HRI.out.low (Nat.le_succ _) _ _⟩
      by_cases h3 : S < 0
      ·have hf : fc = 2 := by rw [HFC.out]; rw [if_neg (by decide), if_neg (by omega), if_pos (by omega)]
       have hres : res = (2, (k : Int)) := by
        have h1 : mfFrom I 0 I.funs = (2, (k : Int)) := by rw [HNX.out, hf, if_neg (by decide)]
        rw [HR1.out, h1, if_pos (show (2 : Nat) ≠ 0 by decide)]
       clear HFC hf HR1 HNX HFN HRS
       subst hres
       go_wp2
       exact ret_row (w.heap.size + 1) 2 _ 30 rfl rfl (set2_blk HRI.out.res _ _) Tryd.underlying30 (by kernel_rfl) ⟨rfl, set2_low HRI.out.low (Nat.le_succ _) _ _⟩
      by_cases h4 : 1000 < S
      ·have hf : fc = 2 := by rw [HFC.out]; rw [if_neg (by decide), if_neg (by omega), if_pos (by omega)]
       have hres : res = (2, (k : Int)) := by
        have h1 : mfFrom I 0 I.funs = (2, (k : Int)) := by rw [HNX.out, hf, if_neg (by decide)]
        rw [HR1.out, h1, if_pos (show (2 : Nat) ≠ 0 by decide)]
       clear HFC hf HR1 HNX HFN HRS
       subst hres
       go_wp2
       exact ret_row (w.heap.size + 1) 2 _ 30 rfl rfl (set2_blk HRI.out.res _ _) Tryd.underlying30 (by kernel_rfl) ⟨rfl, set2_low HRI.out.low (Nat.le_succ _) _ _⟩
      by_cases h6 : E < 0
      ·have hf : fc = 2 := by rw [HFC.out]; rw [if_neg (by decide), if_neg (by omega), if_pos (by omega)]
       have hres : res = (2, (k : Int)) := by
        have h1 : mfFrom I 0 I.funs = (2, (k : Int)) := by rw [HNX.out, hf, if_neg (by decide)]
        rw [HR1.out, h1, if_pos (show (2 : Nat) ≠ 0 by decide)]
       clear HFC hf HR1 HNX HFN HRS
       subst hres
       go_wp2
       exact ret_row (w.heap.size + 1) 2 _ 30 rfl rfl (set2_blk HRI.out.res _ _) Tryd.underlying30 (by kernel_rfl) ⟨rfl, set2_low HRI.out.low (Nat.le_succ _) _ _⟩
      by_cases h7 : (I.words.length : Int) ≤ E
      ·have hf : fc = 2 := by rw [HFC.out]; rw [if_neg (by decide), if_neg (by omega), if_pos (by omega)]
       have hres : res = (2, (k : Int)) := by
        have h1 : mfFrom I 0 I.funs = (2, (k : Int)) := by rw [HNX.out, hf, if_neg (by decide)]
        rw [HR1.out, h1, if_pos (show (2 : Nat) ≠ 0 by decide)]
       clear HFC hf HR1 HNX HFN HRS
       subst hres
       go_wp2
       exact ret_row (w.heap.size + 1) 2 _ 30 rfl rfl (set2_blk HRI.out.res _ _) Tryd.underlying30 (by kernel_rfl) ⟨rfl, set2_low HRI.out.low (Nat.le_succ _) _ _⟩
      have hf : fc = 0 := by rw [HFC.out, if_neg (by decide), if_neg (by omega), if_neg (by omega)]
      have HN2 := hidX (show mfFrom I 0 I.funs = mfFrom I (k + 1) (I.funs.drop (k + 1)) from by rw [HNX.out, if_pos hf])
      clear hf HFC HNX HFN
      go_wp2
      go_roundw
      case rel => exact ⟨k + 1, by omega, by go_num, HRI.out, HN2.out⟩
      case measure => simp [intOf]; omega
   ·have hnm' : nm.isEmpty = false := nil_lit hnm
    have HNM0 := hidX hnm
    clear hnm
    go_wp2_with fail
    go_loopw [5, 6] (fun ev kv wr => ∃ (k e : Nat), k ≤ q ∧ ev = .int .i64 (e : Int) ∧ kv = .int .i64 (k : Int) ∧ Hid (e = prevE nm ((I.funs.take k).map Mf.name)) ∧ Hid (Below Wb.heap.size Wb wr)) (fun _ kv _ => q - (intOf kv).toNat)
    case atStart => exact ⟨0, 0, by omega, rfl, rfl, by (unfold Hid prevE; simp [HNM0.out]), Below.refl _ _⟩
    case round =>
     obtain ⟨k, e, hk, rfl, rfl, HEV, HB2⟩ := hrel
     have HRI := hidX (HBB.out.below HB2.out)
     have hx2 := (HB2.out.block _ HZB.out).trans HXB.out
     have c0 : wr.cell? ⟨lb, 0, none⟩ = some (.string ⟨nm.toArray⟩) := cell_of_blk hx2 0
     have i0 : wr.cell? ⟨w.heap.size, 0, none⟩ = some (.slice (some ⟨g, off, none⟩) I.funs.length cf) := cell_of_blk HRI.out.box 0
     by_cases hkq : k < q
     ·have hkq' : (k : Int) < (q : Int) := by omega
      have hkn : (k : Int) < (I.funs.length : Int) := by omega
      have n0 := HNM.out wr HRI.out k (by omega)
      have HTK := hidX (show (I.funs.take (k + 1)).map Mf.name = (I.funs.take k).map Mf.name ++ [(I.funs[k]'(by omega)).name] from by rw [List.take_succ_eq_append_getElem (by omega), List.map_append]; rfl)
      generalize (I.funs[k]'(by omega)).name = nk at n0 HTK
      clear hx2
      by_cases he : nk = nm
      ·have he' : (nk == nm) = true := by simp [he]
       have HN5 := hidX (show (5 : Nat) = prevE nm ((I.funs.take (k + 1)).map Mf.name) from by rw [HTK.out]; unfold prevE; rw [if_pos (Or.inr (by simp [he]))])
       clear he
       go_wp2_with fail
       go_quiet (fail)
       go_wp2
       go_roundw
       case rel => exact ⟨k + 1, 5, by omega, rfl, by go_num, HN5.out, HB2.out.trans (by (repeat (first | exact Below.refl _ _ | assumption | refine Below.drew ?_ | refine bT ?_ _ | refine bS ?_ _ | refine bA ?_ _)))⟩
       case measure => simp [intOf]; omega
      ·have he' : (nk == nm) = false := ne_lit he
       have HN5 := hidX (show e = prevE nm ((I.funs.take (k + 1)).map Mf.name) from by
        rw [HTK.out, HEV.out]
        have hm : nm ∈ (I.funs.take k).map Mf.name ++ [nk] ↔ nm ∈ (I.funs.take k).map Mf.name := by
         rw [List.mem_append, List.mem_singleton]
         exact ⟨fun h => h.elim id (fun h => absurd h.symm he), Or.inl⟩
        unfold prevE
        simp only [hm])
       clear he
       go_wp2_with fail
       go_quiet (fail)
       go_wp2
       go_roundw
       case rel => exact ⟨k + 1, e, by omega, rfl, by go_num, HN5.out, HB2.out.trans (by (repeat (first | exact Below.refl _ _ | assumption | refine Below.drew ?_ | refine bT ?_ _ | refine bS ?_ _ | refine bA ?_ _)))⟩
       case measure => simp [intOf]; omega
     ·have hkq2 : k = q := by omega
      subst hkq2
      have c1 : wr.cell? ⟨lb, 1, none⟩ = some (.int .i64 P) := cell_of_blk hx2 1
      have c2 : wr.cell? ⟨lb, 2, none⟩ = some (.int .i64 S) := cell_of_blk hx2 2
      have c3 : wr.cell? ⟨lb, 3, none⟩ = some (.int .i64 E) := cell_of_blk hx2 3
      have i1 : wr.cell? ⟨w.heap.size, 1, none⟩ = some (.slice adw I.words.length cw) := cell_of_blk HRI.out.box 1
      have r0 : wr.cell? ⟨w.heap.size + 1, 0, none⟩ = some (.int .i64 0) := cell_of_blk HRI.out.res 0
      have r1 : wr.cell? ⟨w.heap.size + 1, 1, none⟩ = some (.int .i64 0) := cell_of_blk HRI.out.res 1
      have s0 := free_of_blk HRI.out.res 0
      have s1 := free_of_blk HRI.out.res 1
      have HFC := hidX (show fc = if e = 5 then 5 else if P < 0 ∨ 4 < P then 9 else if S < 0 ∨ 1000 < S ∨ E < 0 ∨ (I.words.length : Int) ≤ E then 2 else 0 from by rw [HEV.out]; exact HFN.out)
      have HEC := hidX (show e = 5 ∨ e = 0 from by rw [HEV.out]; unfold prevE; split; exact Or.inl rfl; exact Or.inr rfl)
      clear hx2 i0
      by_cases h5 : e = 5
      ·subst h5
       have hf : fc = 5 := by rw [HFC.out]; rw [if_pos rfl]
       have hres : res = (5, (k : Int)) := by
        have h1 : mfFrom I 0 I.funs = (5, (k : Int)) := by rw [HNX.out, hf, if_neg (by decide)]
        rw [HR1.out, h1, if_pos (show (5 : Nat) ≠ 0 by decide)]
       clear HFC hf HR1 HNX HFN HRS
       subst hres
       go_wp2
       exact ret_row (w.heap.size + 1) 2 _ 30 rfl rfl (set2_blk HRI.out.res _ _) Tryd.underlying30 (by kernel_rfl) ⟨rfl, set2_low HRI.out.low (Nat.le_succ _) _ _⟩
      have h0 : e = 0 := HEC.out.resolve_left h5
      subst h0
      clear h5 c0
      by_cases h1 : P < 0
      ·have hf : fc = 9 := by rw [HFC.out]; rw [if_neg (by decide), if_pos (by omega)]
       have hres : res = (9, (k : Int)) := by
        have h1 : mfFrom I 0 I.funs = (9, (k : Int)) := by rw [HNX.out, hf, if_neg (by decide)]
        rw [HR1.out, h1, if_pos (show (9 : Nat) ≠ 0 by decide)]
       clear HFC hf HR1 HNX HFN HRS
       subst hres
       go_wp2
       exact ret_row (w.heap.size + 1) 2 _ 30 rfl rfl (set2_blk HRI.out.res _ _) Tryd.underlying30 (by kernel_rfl) ⟨rfl, set2_low HRI.out.low (Nat.le_succ _) _ _⟩
      by_cases h2 : 4 < P
      ·have hf : fc = 9 := by rw [HFC.out]; rw [if_neg (by decide), if_pos (by omega)]
       have hres : res = (9, (k : Int)) := by
        have h1 : mfFrom I 0 I.funs = (9, (k : Int)) := by rw [HNX.out, hf, if_neg (by decide)]
        rw [HR1.out, h1, if_pos (show (9 : Nat) ≠ 0 by decide)]
       clear HFC hf HR1 HNX HFN HRS
       subst hres
       go_wp2
       exact ret_row (w.heap.size + 1) 2 _ 30 rfl rfl (set2_blk HRI.out.res _ _) Tryd.underlying30 (by kernel_rfl) ⟨rfl, set2_low HRI.out.low (Nat.le_succ _) _ _⟩
      by_cases h3 : S < 0
      ·have hf : fc = 2 := by rw [HFC.out]; rw [if_neg (by decide), if_neg (by omega), if_pos (by omega)]
       have hres : res = (2, (k : Int)) := by
        have h1 : mfFrom I 0 I.funs = (2, (k : Int)) := by rw [HNX.out, hf, if_neg (by decide)]
        rw [HR1.out, h1, if_pos (show (2 : Nat) ≠ 0 by decide)]
       clear HFC hf HR1 HNX HFN HRS
       subst hres
       go_wp2
       exact ret_row (w.heap.size + 1) 2 _ 30 rfl rfl (set2_blk HRI.out.res _ _) Tryd.underlying30 (by kernel_rfl) ⟨rfl, set2_low HRI.out.low (Nat.le_succ _) _ _⟩
      by_cases h4 : 1000 < S
      ·have hf : fc = 2 := by rw [HFC.out]; rw [if_neg (by decide), if_neg (by omega), if_pos (by omega)]
       have hres : res = (2, (k : Int)) := by
        have h1 : mfFrom I 0 I.funs = (2, (k : Int)) := by rw [HNX.out, hf, if_neg (by decide)]
        rw [HR1.out, h1, if_pos (show (2 : Nat) ≠ 0 by decide)]
       clear HFC hf HR1 HNX HFN HRS
       subst hres
       go_wp2
       exact ret_row (w.heap.size + 1) 2 _ 30 rfl rfl (set2_blk HRI.out.res _ _) Tryd.underlying30 (by kernel_rfl) ⟨rfl, set2_low HRI.out.low (Nat.le_succ _) _ _⟩
      by_cases h6 : E < 0
      ·have hf : fc = 2 := by rw [HFC.out]; rw [if_neg (by decide), if_neg (by omega), if_pos (by omega)]
       have hres : res = (2, (k : Int)) := by
        have h1 : mfFrom I 0 I.funs = (2, (k : Int)) := by rw [HNX.out, hf, if_neg (by decide)]
        rw [HR1.out, h1, if_pos (show (2 : Nat) ≠ 0 by decide)]
       clear HFC hf HR1 HNX HFN HRS
       subst hres
       go_wp2
       exact ret_row (w.heap.size + 1) 2 _ 30 rfl rfl (set2_blk HRI.out.res _ _) Tryd.underlying30 (by kernel_rfl) ⟨rfl, set2_low HRI.out.low (Nat.le_succ _) _ _⟩
      by_cases h7 : (I.words.length : Int) ≤ E
      ·have hf : fc = 2 := by rw [HFC.out]; rw [if_neg (by decide), if_neg (by omega), if_pos (by omega)]
       have hres : res = (2, (k : Int)) := by
        have h1 : mfFrom I 0 I.funs = (2, (k : Int)) := by rw [HNX.out, hf, if_neg (by decide)]
        rw [HR1.out, h1, if_pos (show (2 : Nat) ≠ 0 by decide)]
       clear HFC hf HR1 HNX HFN HRS
       subst hres
       go_wp2
       exact ret_row (w.heap.size + 1) 2 _ 30 rfl rfl (set2_blk HRI.out.res _ _) Tryd.underlying30 (by kernel_rfl) ⟨rfl, set2_low HRI.out.low (Nat.le_succ _) _ _⟩
      have hf : fc = 0 := by rw [HFC.out, if_neg (by decide), if_neg (by omega), if_neg (by omega)]
      have HN2 := hidX (show mfFrom I 0 I.funs = mfFrom I (k + 1) (I.funs.drop (k + 1)) from by rw [HNX.out, if_pos hf])
      clear hf HFC HNX HFN
      go_wp2
      go_roundw
      case rel => exact ⟨k + 1, by omega, by go_num, HRI.out, HN2.out⟩
      case measure => simp [intOf]; omega
  ·have hqn : q = I.funs.length := by omega
   have hz : mfFrom I 0 I.funs = (0, -1) := by rw [HRS.out, hqn, List.drop_length]; rfl
   have HR2 := hidX (show res = wdFrom I 0 I.words from by rw [HR1.out, hz]; rfl)
   subst hqn
   clear hz HRS HR1
   go_wp2_with fail
   go_loopw [7, 8, 9, 10] (fun i _ _ _ wr => ∃ q : Nat, q ≤ I.words.length ∧ i = .int .i64 (q : Int) ∧ Hid (Ri w wr (.slice adf I.funs.length cf) (.slice adw I.words.length cw)) ∧ Hid (res = wdFrom I q (I.words.drop q))) (fun i _ _ _ _ => I.words.length - (intOf i).toNat)
   case atStart => exact ⟨0, by omega, rfl, HB.out, HR2.out⟩
   case round =>
    obtain ⟨q, hq, rfl, HBQ, HRS⟩ := hrel
    have i0 : wr.cell? ⟨w.heap.size, 0, none⟩ = some (.slice adf I.funs.length cf) := cell_of_blk HBQ.out.box 0
    have i1 : wr.cell? ⟨w.heap.size, 1, none⟩ = some (.slice adw I.words.length cw) := cell_of_blk HBQ.out.box 1
    by_cases hlt : q < I.words.length
    ·have hlt' : (q : Int) < (I.words.length : Int) := by omega
     obtain ⟨gw, offw, eb, _, hgw, hcw⟩ := HWR.out.get (by omega)
     subst eb
     have k0 : wr.cell? ⟨gw, offw + q, none⟩ = some (.int .u64 (I.words[q] : Nat)) := (HBQ.out.low.cell (p := ⟨gw, _, none⟩) hgw).trans (hcw q _ (by simp [wosV, hlt]))
     have hdr : I.words.drop q = I.words[q] :: I.words.drop (q + 1) := List.drop_eq_getElem_cons hlt
     have HNX := hidX (show res = if wdN I I.words[q] = 0 then wdFrom I (q + 1) (I.words.drop (q + 1)) else (wdN I I.words[q], (q : Int)) from by rw [HRS.out, hdr]; rfl)
     have HIO := hidX (rInsOf_any I.words[q] (HWV.out _ (List.getElem_mem hlt)) wr)
     have HWD := hidX (show wdN I I.words[q] = if insN I.words[q] ≠ 0 then insN I.words[q] else if outM (mostOf I (decR I.words[q]).op) (decR I.words[q]).imm then 2 else 0 from rfl)
     have HDZ := hidX (show insN I.words[q] ≠ 0 → decR I.words[q] = ⟨[], 0, 0, 0, 0⟩ from fun h => by
      unfold decR
      rw [if_neg]
      intro h2
      exact h (by unfold insN; rw [h2]; rfl))
     generalize wdN I I.words[q] = wc at *
     generalize insN I.words[q] = ic at *
     generalize decR I.words[q] = di at *
     generalize I.words[q] = u at *
     obtain ⟨op, D, A, B, imm⟩ := di
     clear hcw hdr
     go_wp2_with fail
     refine HIO.out.mono ?_
     rintro e Y ⟨rfl, hbY⟩
     have HRY := hidX (HBQ.out.below hbY)
     clear hbY i0 i1 k0
     have i0 : Y.cell? ⟨w.heap.size, 0, none⟩ = some (.slice adf I.funs.length cf) := cell_of_blk HRY.out.box 0
     have i1 : Y.cell? ⟨w.heap.size, 1, none⟩ = some (.slice (some ⟨gw, offw, none⟩) I.words.length cw) := cell_of_blk HRY.out.box 1
     have r0 : Y.cell? ⟨w.heap.size + 1, 0, none⟩ = some (.int .i64 0) := cell_of_blk HRY.out.res 0
     have r1 : Y.cell? ⟨w.heap.size + 1, 1, none⟩ = some (.int .i64 0) := cell_of_blk HRY.out.res 1
     have s0 := free_of_blk HRY.out.res 0
     have s1 := free_of_blk HRY.out.res 1
     have hY1 : w.heap.size + 1 < Y.heap.size := heap_lt HRY.out.res
     have hY0 : w.heap.size < Y.heap.size := by omega
     by_cases hc : ic = 0
     ·subst hc
      have HW2 := hidX (show wc = if outM (mostOf I op) imm then 2 else 0 from by rw [HWD.out, if_neg (by decide)])
      clear HWD HDZ
      by_cases e0 : op = mJump
      ·have HW3 := hidX (show wc = if outM (some (I.words.length : Int)) imm then 2 else 0 from by rw [HW2.out, e0]; rfl)
       have e0 : op = [106, 117, 109, 112] := e0
       subst e0
       clear HW2
       go_upto_region 38 with fail
       by_cases h1 : imm < 0
       ·have hw : wc = 2 := by rw [HW3.out, if_pos (by simp only [outM, decide_eq_true_eq]; omega)]
        have hres : res = (2, (q : Int)) := by rw [HNX.out, hw, if_neg (by decide)]
        clear HW3 HNX HRS HR2 hw
        subst hres
        go_wp2
        exact ret_row (w.heap.size + 1) 2 _ 30 rfl rfl (ri_ret HRY.out _ _ _).1 Tryd.underlying30 (by kernel_rfl) ⟨rfl, (ri_ret HRY.out _ _ _).2⟩
       ·by_cases h2 : (I.words.length : Int) ≤ imm
        ·have hw : wc = 2 := by rw [HW3.out, if_pos (by simp only [outM, decide_eq_true_eq]; omega)]
         have hres : res = (2, (q : Int)) := by rw [HNX.out, hw, if_neg (by decide)]
         clear HW3 HNX HRS HR2 hw
         subst hres
         go_wp2
         exact ret_row (w.heap.size + 1) 2 _ 30 rfl rfl (ri_ret HRY.out _ _ _).1 Tryd.underlying30 (by kernel_rfl) ⟨rfl, (ri_ret HRY.out _ _ _).2⟩
        ·have hw : wc = 0 := by rw [HW3.out, if_neg (by simp only [outM, decide_eq_true_eq]; omega)]
         have HN2 := hidX (show res = wdFrom I (q + 1) (I.words.drop (q + 1)) from by rw [HNX.out, if_pos hw])
         clear hw
         clear HW3 HNX HRS HR2
         go_wp2
         go_roundw
         case rel => exact ⟨q + 1, by omega, by go_num, HRY.out.below (box_blk _ _ _), HN2.out⟩
         case measure => simp [intOf]; omega
      by_cases e1 : op = mIf
      ·have HW3 := hidX (show wc = if outM (some (I.words.length : Int)) imm then 2 else 0 from by rw [HW2.out, e1]; rfl)
       have e1 : op = [105, 102] := e1
       subst e1
       clear HW2
       go_upto_region 38 with fail
       by_cases h1 : imm < 0
       ·have hw : wc = 2 := by rw [HW3.out, if_pos (by simp only [outM, decide_eq_true_eq]; omega)]
        have hres : res = (2, (q : Int)) := by rw [HNX.out, hw, if_neg (by decide)]
        clear HW3 HNX HRS HR2 hw
        subst hres
        go_wp2
        exact ret_row (w.heap.size + 1) 2 _ 30 rfl rfl (ri_ret HRY.out _ _ _).1 Tryd.underlying30 (by kernel_rfl) ⟨rfl, (ri_ret HRY.out _ _ _).2⟩
       ·by_cases h2 : (I.words.length : Int) ≤ imm
        ·have hw : wc = 2 := by rw [HW3.out, if_pos (by simp only [outM, decide_eq_true_eq]; omega)]
         have hres : res = (2, (q : Int)) := by rw [HNX.out, hw, if_neg (by decide)]
         clear HW3 HNX HRS HR2 hw
         subst hres
         go_wp2
         exact ret_row (w.heap.size + 1) 2 _ 30 rfl rfl (ri_ret HRY.out _ _ _).1 Tryd.underlying30 (by kernel_rfl) ⟨rfl, (ri_ret HRY.out _ _ _).2⟩
        ·have hw : wc = 0 := by rw [HW3.out, if_neg (by simp only [outM, decide_eq_true_eq]; omega)]
         have HN2 := hidX (show res = wdFrom I (q + 1) (I.words.drop (q + 1)) from by rw [HNX.out, if_pos hw])
         clear hw
         clear HW3 HNX HRS HR2
         go_wp2
         go_roundw
         case rel => exact ⟨q + 1, by omega, by go_num, HRY.out.below (box_blk _ _ _), HN2.out⟩
         case measure => simp [intOf]; omega
      by_cases e2 : op = mCall
      ·have HW3 := hidX (show wc = if outM (some (I.funs.length : Int)) imm then 2 else 0 from by rw [HW2.out, e2]; rfl)
       have e2 : op = [99, 97, 108, 108] := e2
       subst e2
       clear HW2
       go_upto_region 38 with fail
       by_cases h1 : imm < 0
       ·have hw : wc = 2 := by rw [HW3.out, if_pos (by simp only [outM, decide_eq_true_eq]; omega)]
        have hres : res = (2, (q : Int)) := by rw [HNX.out, hw, if_neg (by decide)]
        clear HW3 HNX HRS HR2 hw
        subst hres
        go_wp2
        exact ret_row (w.heap.size + 1) 2 _ 30 rfl rfl (ri_ret HRY.out _ _ _).1 Tryd.underlying30 (by kernel_rfl) ⟨rfl, (ri_ret HRY.out _ _ _).2⟩
       ·by_cases h2 : (I.funs.length : Int) ≤ imm
        ·have hw : wc = 2 := by rw [HW3.out, if_pos (by simp only [outM, decide_eq_true_eq]; omega)]
         have hres : res = (2, (q : Int)) := by rw [HNX.out, hw, if_neg (by decide)]
         clear HW3 HNX HRS HR2 hw
         subst hres
         go_wp2
         exact ret_row (w.heap.size + 1) 2 _ 30 rfl rfl (ri_ret HRY.out _ _ _).1 Tryd.underlying30 (by kernel_rfl) ⟨rfl, (ri_ret HRY.out _ _ _).2⟩
        ·have hw : wc = 0 := by rw [HW3.out, if_neg (by simp only [outM, decide_eq_true_eq]; omega)]
         have HN2 := hidX (show res = wdFrom I (q + 1) (I.words.drop (q + 1)) from by rw [HNX.out, if_pos hw])
         clear hw
         clear HW3 HNX HRS HR2
         go_wp2
         go_roundw
         case rel => exact ⟨q + 1, by omega, by go_num, HRY.out.below (box_blk _ _ _), HN2.out⟩
         case measure => simp [intOf]; omega
      by_cases e3 : op = mLoad
      ·have HW3 := hidX (show wc = if outM (some 1000) imm then 2 else 0 from by rw [HW2.out, e3]; rfl)
       have e3 : op = [108, 111, 97, 100] := e3
       subst e3
       clear HW2
       go_upto_region 38 with fail
       by_cases h1 : imm < 0
       ·have hw : wc = 2 := by rw [HW3.out, if_pos (by simp only [outM, decide_eq_true_eq]; omega)]
        have hres : res = (2, (q : Int)) := by rw [HNX.out, hw, if_neg (by decide)]
        clear HW3 HNX HRS HR2 hw
        subst hres
        go_wp2
        exact ret_row (w.heap.size + 1) 2 _ 30 rfl rfl (ri_ret HRY.out _ _ _).1 Tryd.underlying30 (by kernel_rfl) ⟨rfl, (ri_ret HRY.out _ _ _).2⟩
       ·by_cases h2 : 1000 ≤ imm
        ·have hw : wc = 2 := by rw [HW3.out, if_pos (by simp only [outM, decide_eq_true_eq]; omega)]
         have hres : res = (2, (q : Int)) := by rw [HNX.out, hw, if_neg (by decide)]
         clear HW3 HNX HRS HR2 hw
         subst hres
         go_wp2
         exact ret_row (w.heap.size + 1) 2 _ 30 rfl rfl (ri_ret HRY.out _ _ _).1 Tryd.underlying30 (by kernel_rfl) ⟨rfl, (ri_ret HRY.out _ _ _).2⟩
        ·have hw : wc = 0 := by rw [HW3.out, if_neg (by simp only [outM, decide_eq_true_eq]; omega)]
         have HN2 := hidX (show res = wdFrom I (q + 1) (I.words.drop (q + 1)) from by rw [HNX.out, if_pos hw])
         clear hw
         clear HW3 HNX HRS HR2
         go_wp2
         go_roundw
         case rel => exact ⟨q + 1, by omega, by go_num, HRY.out.below (box_blk _ _ _), HN2.out⟩
         case measure => simp [intOf]; omega
      by_cases e4 : op = mStore
      ·have HW3 := hidX (show wc = if outM (some 1000) imm then 2 else 0 from by rw [HW2.out, e4]; rfl)
       have e4 : op = [115, 116, 111, 114, 101] := e4
       subst e4
       clear HW2
       go_upto_region 38 with fail
       by_cases h1 : imm < 0
       ·have hw : wc = 2 := by rw [HW3.out, if_pos (by simp only [outM, decide_eq_true_eq]; omega)]
        have hres : res = (2, (q : Int)) := by rw [HNX.out, hw, if_neg (by decide)]
        clear HW3 HNX HRS HR2 hw
        subst hres
        go_wp2
        exact ret_row (w.heap.size + 1) 2 _ 30 rfl rfl (ri_ret HRY.out _ _ _).1 Tryd.underlying30 (by kernel_rfl) ⟨rfl, (ri_ret HRY.out _ _ _).2⟩
       ·by_cases h2 : 1000 ≤ imm
        ·have hw : wc = 2 := by rw [HW3.out, if_pos (by simp only [outM, decide_eq_true_eq]; omega)]
         have hres : res = (2, (q : Int)) := by rw [HNX.out, hw, if_neg (by decide)]
         clear HW3 HNX HRS HR2 hw
         subst hres
         go_wp2
         exact ret_row (w.heap.size + 1) 2 _ 30 rfl rfl (ri_ret HRY.out _ _ _).1 Tryd.underlying30 (by kernel_rfl) ⟨rfl, (ri_ret HRY.out _ _ _).2⟩
        ·have hw : wc = 0 := by rw [HW3.out, if_neg (by simp only [outM, decide_eq_true_eq]; omega)]
         have HN2 := hidX (show res = wdFrom I (q + 1) (I.words.drop (q + 1)) from by rw [HNX.out, if_pos hw])
         clear hw
         clear HW3 HNX HRS HR2
         go_wp2
         go_roundw
         case rel => exact ⟨q + 1, by omega, by go_num, HRY.out.below (box_blk _ _ _), HN2.out⟩
         case measure => simp [intOf]; omega
      by_cases e5 : op = mParam
      ·have HW3 := hidX (show wc = if outM (some 4) imm then 2 else 0 from by rw [HW2.out, e5]; rfl)
       have e5 : op = [112, 97, 114, 97, 109] := e5
       subst e5
       clear HW2
       go_upto_region 38 with fail
       by_cases h1 : imm < 0
       ·have hw : wc = 2 := by rw [HW3.out, if_pos (by simp only [outM, decide_eq_true_eq]; omega)]
        have hres : res = (2, (q : Int)) := by rw [HNX.out, hw, if_neg (by decide)]
        clear HW3 HNX HRS HR2 hw
        subst hres
        go_wp2
        exact ret_row (w.heap.size + 1) 2 _ 30 rfl rfl (ri_ret HRY.out _ _ _).1 Tryd.underlying30 (by kernel_rfl) ⟨rfl, (ri_ret HRY.out _ _ _).2⟩
       ·by_cases h2 : 4 ≤ imm
        ·have hw : wc = 2 := by rw [HW3.out, if_pos (by simp only [outM, decide_eq_true_eq]; omega)]
         have hres : res = (2, (q : Int)) := by rw [HNX.out, hw, if_neg (by decide)]
         clear HW3 HNX HRS HR2 hw
         subst hres
         go_wp2
         exact ret_row (w.heap.size + 1) 2 _ 30 rfl rfl (ri_ret HRY.out _ _ _).1 Tryd.underlying30 (by kernel_rfl) ⟨rfl, (ri_ret HRY.out _ _ _).2⟩
        ·have hw : wc = 0 := by rw [HW3.out, if_neg (by simp only [outM, decide_eq_true_eq]; omega)]
         have HN2 := hidX (show res = wdFrom I (q + 1) (I.words.drop (q + 1)) from by rw [HNX.out, if_pos hw])
         clear hw
         clear HW3 HNX HRS HR2
         go_wp2
         go_roundw
         case rel => exact ⟨q + 1, by omega, by go_num, HRY.out.below (box_blk _ _ _), HN2.out⟩
         case measure => simp [intOf]; omega
      by_cases e6 : op = mArg
      ·have HW3 := hidX (show wc = if outM (some 4) imm then 2 else 0 from by rw [HW2.out, e6]; rfl)
       have e6 : op = [97, 114, 103] := e6
       subst e6
       clear HW2
       go_upto_region 38 with fail
       by_cases h1 : imm < 0
       ·have hw : wc = 2 := by rw [HW3.out, if_pos (by simp only [outM, decide_eq_true_eq]; omega)]
        have hres : res = (2, (q : Int)) := by rw [HNX.out, hw, if_neg (by decide)]
        clear HW3 HNX HRS HR2 hw
        subst hres
        go_wp2
        exact ret_row (w.heap.size + 1) 2 _ 30 rfl rfl (ri_ret HRY.out _ _ _).1 Tryd.underlying30 (by kernel_rfl) ⟨rfl, (ri_ret HRY.out _ _ _).2⟩
       ·by_cases h2 : 4 ≤ imm
        ·have hw : wc = 2 := by rw [HW3.out, if_pos (by simp only [outM, decide_eq_true_eq]; omega)]
         have hres : res = (2, (q : Int)) := by rw [HNX.out, hw, if_neg (by decide)]
         clear HW3 HNX HRS HR2 hw
         subst hres
         go_wp2
         exact ret_row (w.heap.size + 1) 2 _ 30 rfl rfl (ri_ret HRY.out _ _ _).1 Tryd.underlying30 (by kernel_rfl) ⟨rfl, (ri_ret HRY.out _ _ _).2⟩
        ·have hw : wc = 0 := by rw [HW3.out, if_neg (by simp only [outM, decide_eq_true_eq]; omega)]
         have HN2 := hidX (show res = wdFrom I (q + 1) (I.words.drop (q + 1)) from by rw [HNX.out, if_pos hw])
         clear hw
         clear HW3 HNX HRS HR2
         go_wp2
         go_roundw
         case rel => exact ⟨q + 1, by omega, by go_num, HRY.out.below (box_blk _ _ _), HN2.out⟩
         case measure => simp [intOf]; omega
      have hm : mostOf I op = none := by
       unfold mostOf
       rw [if_neg (by rintro (h | h); exact e0 h; exact e1 h), if_neg e2, if_neg (by rintro (h | h); exact e3 h; exact e4 h), if_neg (by rintro (h | h); exact e5 h; exact e6 h)]
      have HW3 := hidX (show wc = 0 from by rw [HW2.out, hm]; rfl)
      have HN2 := hidX (show res = wdFrom I (q + 1) (I.words.drop (q + 1)) from by rw [HNX.out, if_pos HW3.out])
      have t0 : (op == [106, 117, 109, 112]) = false := ne_lit e0
      have t1 : (op == [105, 102]) = false := ne_lit e1
      have t2 : (op == [99, 97, 108, 108]) = false := ne_lit e2
      have t3 : (op == [108, 111, 97, 100]) = false := ne_lit e3
      have t4 : (op == [115, 116, 111, 114, 101]) = false := ne_lit e4
      have t5 : (op == [112, 97, 114, 97, 109]) = false := ne_lit e5
      have t6 : (op == [97, 114, 103]) = false := ne_lit e6
      clear HW2 hm e0 e1 e2 e3 e4 e5 e6
      clear HW3 HNX HRS HR2
      go_wp2
      go_roundw
      case rel => exact ⟨q + 1, by omega, by go_num, HRY.out.below (box_blk _ _ _), HN2.out⟩
      case measure => simp [intOf]; omega
     ·have hz := HDZ.out hc
      injection hz with z1 z2 z3 z4 z5
      have hw : wc = ic := by rw [HWD.out, if_pos hc]
      have hres : res = (ic, (q : Int)) := by rw [HNX.out, hw, if_neg hc]
      have hpos : (0 : Int) < (ic : Int) := by omega
      have hne : ((ic : Int) == 0) = false := by simp; omega
      clear HWD HDZ HNX HRS HR2 hw hc
      subst hres z1 z2 z3 z4 z5
      go_wp2
      exact ret_row (w.heap.size + 1) 2 _ 30 rfl rfl (ri_ret HRY.out _ _ _).1 Tryd.underlying30 (by kernel_rfl) ⟨rfl, (ri_ret HRY.out _ _ _).2⟩
    ·have hqn : q = I.words.length := by omega
     have hres : res = (0, -1) := by rw [HRS.out, hqn, List.drop_length]; rfl
     clear HRS HR2
     subst hres hqn
     go_wp2_with fail
     refine (fineG wr).mono ?_
     rintro e X ⟨rfl, hb⟩
     have HFX := hidX (HBQ.out.below hb)
     have x0 := cell_of_blk HFX.out.res 0
     have x1 := cell_of_blk HFX.out.res 1
     have x2 := free_of_blk HFX.out.res 0
     have x3 := free_of_blk HFX.out.res 1
     simp only [List.getElem?_toArray, List.getElem?_cons_zero, List.getElem?_cons_succ] at x0 x1
     clear hb
     go_wp2
     exact ret_row (w.heap.size + 1) 2 _ 30 rfl rfl (set2_blk HFX.out.res _ _) Tryd.underlying30 (by kernel_rfl) ⟨rfl, set2_low HFX.out.low (Nat.le_succ _) _ _⟩
end Go.Proofs.YtbcpomdcmilpjaaDoor
