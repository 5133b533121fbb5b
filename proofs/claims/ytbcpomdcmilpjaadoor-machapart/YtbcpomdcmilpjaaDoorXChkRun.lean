/- Our own: texts joined: MaChk, MaRun0. -/
import Derived.Test.YtbcpomdcmilpjaaDoorXChkM
import Derived.Test.YtbcpomdcmilpjaaDoorXCodeM
import Derived.Deep.Cut
import Derived.Shelf.Abstract
namespace Go.Proofs.YtbcpomdcmilpjaaDoor
open Go.RowKit Go.Maps
def wosV (l : List Nat) : List Value := l.map fun (v : Nat) => Value.int .u64 (v : Int)
theorem NmAt.congr {w : World} {b : Nat} {ks : List (List UInt8)} {f f' : List UInt8 → Int} (h : NmAt w b ks f) (hf : ∀ s ∈ ks, f s = f' s) : NmAt w b ks f' := by
 obtain ⟨D, h1, h2, h3, h4, h5⟩ := h
 exact ⟨D, h1, h2, h3, h4, fun s hs z => by rw [h5 s hs z, hf s hs]⟩
theorem NmAt.more {w : World} {b : Nat} {ks : List (List UInt8)} {f : List UInt8 → Int} (h : NmAt w b ks f) (hks : ks.length ≤ 1000) (m : List UInt8) (hm : m.length ≤ 4000) (hn : m ∉ ks) (v : Int) (hv : -9223372036854775808 ≤ v ∧ v ≤ 9223372036854775807) (X : World) (hX : X.heap[b]? = w.heap[b]?) :
  ∃ w', (Instr.mapUpdate 84 (.map (some b)) (.string ⟨m.toArray⟩) (.int .i64 v)).run Tryd.prog X = .ok () w' ∧ (∃ f', NmAt w' b (ks ++ [m]) f') ∧ X.grownBy w' (some b) := by
 have h' := h.congr (f' := fun s => if s = m then v else f s) (fun s hs => by rw [if_neg (fun e : s = m => hn (by rw [← e]; exact hs))])
 obtain ⟨w', h1, h2, h3⟩ := h'.put hks m hm hn v hv (if_pos rfl) X hX
 exact ⟨w', h1, ⟨_, h2⟩, h3⟩
set_option maxRecDepth 100000 in
set_option maxHeartbeats 8000000 in
theorem emCheck_any {w : World} {a : Nat → Addr} (hS : SenM w a) (hT : TabC w) (I : Im) (hnl : ∀ f ∈ I.funs, f.name.length ≤ 4000) (hwv : ∀ v ∈ I.words, v < 18446744073709551616) (hfl : I.funs.length ≤ 100000) (hwl : I.words.length ≤ 100000) (adf adw : Option Addr) (cf cw : Nat) (hF : XMf (InH w) w (.slice adf I.funs.length cf) I.funs) (hW : XRow (InH w) w (.slice adw I.words.length cw) I.words.length (wosV I.words)) :
  Calls Tryd.prog 19 #[.agg #[.slice adf I.funs.length cf, .slice adw I.words.length cw]] w (FtTo w a (imF I)) := by
 obtain ⟨W0, hW0⟩ : ∃ W0, W0 = w.alloc (.cells #[.slice adf I.funs.length cf, .slice adw I.words.length cw] 37) := ⟨_, rfl⟩
 have hb0 : Below w.heap.size w W0 := by rw [hW0]; (repeat (first | exact Below.refl _ _ | assumption | refine Below.drew ?_ | refine bT ?_ _ | refine bS ?_ _ | refine bA ?_ _))
 have hx0 : W0.heap[w.heap.size]? = some (.cells #[.slice adf I.funs.length cf, .slice adw I.words.length cw] 37 (0, 0)) := by rw [hW0]; exact heap_alloc_new _ _
 have hz0 : W0.heap.size = w.heap.size + 1 := by rw [hW0]; simp
 have hfl' : (I.funs.length : Int) ≤ 100000 := by omega
 have hwl' : (I.words.length : Int) ≤ 100000 := by omega
 generalize hres : imF I = res
 have hr : res = if 8 < I.funs.length ∨ 8000 < I.words.length then (8, -1) else if (mfFrom I 0 I.funs).1 ≠ 0 then mfFrom I 0 I.funs else wdFrom I 0 I.words := by rw [← hres]; rfl
 have HR := hidX hr
 have HF := hidX hF
 have HWR := hidX hW
 have HB0 := hidX hb0
 have HX0 := hidX hx0
 have HS := hidX hS
 have HT := hidX hT
 have d0 : W0.cell? ⟨w.heap.size, 0, none⟩ = some (.slice adf I.funs.length cf) := cell_of_blk hx0 0
 have d1 : W0.cell? ⟨w.heap.size, 1, none⟩ = some (.slice adw I.words.length cw) := cell_of_blk hx0 1
 clear hres hr hF hW hb0 hx0 hS hT
 by_cases c1 : 8 < I.funs.length
 ·have hr : res = (8, -1) := by rw [HR.out, if_pos (Or.inl c1)]
  subst hr
  have c1' : (8 : Int) < (I.funs.length : Int) := by omega
  have gc := (HS.out.below HB0.out).full
  rw [hW0] at gc d0 d1
  go_enter Tryd.func19, Tryd.ntmps19
  go_wp2
  go_ret
  exact ft_bare (by decide) rfl (by rw [← hW0]; exact HB0.out) rfl
 have c1' : ¬ (8 : Int) < (I.funs.length : Int) := by omega
 by_cases c2 : 8000 < I.words.length
 ·have hr : res = (8, -1) := by rw [HR.out, if_pos (Or.inr c2)]
  subst hr
  have c2' : (8000 : Int) < (I.words.length : Int) := by omega
  have gc := (HS.out.below HB0.out).full
  rw [hW0] at gc d0 d1
  go_enter Tryd.func19, Tryd.ntmps19
  go_wp2
  go_ret
  exact ft_bare (by decide) rfl (by rw [← hW0]; exact HB0.out) rfl
 have c2' : ¬ (8000 : Int) < (I.words.length : Int) := by omega
 have HR1 := hidX (show res = if (mfFrom I 0 I.funs).1 ≠ 0 then mfFrom I 0 I.funs else wdFrom I 0 I.words from by rw [HR.out, if_neg (by omega)])
 clear HR
 obtain ⟨W1, hW1⟩ : ∃ W1, W1 = W0.alloc (.map #[] 0) := ⟨_, rfl⟩
 have hb1 : Below w.heap.size w W1 := bl_trans HB0.out HB0.out.size (by rw [hW1]; (repeat (first | exact Below.refl _ _ | assumption | refine Below.drew ?_ | refine bT ?_ _ | refine bS ?_ _ | refine bA ?_ _)))
 have hx1 : W1.heap[w.heap.size]? = some (.cells #[.slice adf I.funs.length cf, .slice adw I.words.length cw] 37 (0, 0)) := by rw [hW1]; exact (Below.heap_alloc _ _ _ (by omega)).trans HX0.out
 have hz1 : W1.heap.size = w.heap.size + 2 := by rw [hW1]; simp [hz0]
 have hm1 : NmAt W1 (w.heap.size + 1) [] (fun _ => 0) := by
  have := nmAt_made W0 (fun _ => 0)
  rw [hz0] at this
  rw [hW1]; exact this
 have hmm := @run_makeMap Tryd.prog
 have HB1 := hidX hb1
 have HX1 := hidX hx1
 have HM1 := hidX hm1
 have HNL := hidX hnl
 have HWV := hidX hwv
 have hW01 : W0.alloc (.map #[] 0) = W1 := hW1.symm
 have hz0' : W0.heap.size = w.heap.size + 1 := hz0
 have e1 : W1.cell? ⟨w.heap.size, 0, none⟩ = some (.slice adf I.funs.length cf) := cell_of_blk hx1 0
 have e0 : w.heap.size + 1 < W1.heap.size := by omega
 clear hb1 hx1 hm1 hnl hwv hW1
 go_enter Tryd.func19, Tryd.ntmps19
 go_upto_region 4 with fail
 rw [← hW0, hW01]
 clear hW0 hW01 d0 d1 hmm
 go_wp2_with fail
 clear e1
 go_loopw [4, 5, 6, 26] (fun _ _ _ i wr => ∃ q : Nat, q ≤ I.funs.length ∧ i = .int .i64 (q : Int) ∧ Hid (Below w.heap.size w wr) ∧ Hid (wr.heap[w.heap.size]? = some (.cells #[.slice adf I.funs.length cf, .slice adw I.words.length cw] 37 (0, 0))) ∧ Hid (∃ g, NmAt wr (w.heap.size + 1) ((I.funs.take q).map Mf.name) g) ∧ Hid (mfFrom I 0 I.funs = mfFrom I q (I.funs.drop q))) (fun _ _ _ i _ => I.funs.length - (intOf i).toNat)
 case atStart => exact ⟨0, by omega, rfl, HB1.out, HX1.out, ⟨_, HM1.out⟩, rfl⟩
 case round =>
  obtain ⟨q, hq, rfl, HB, HX, HM, HRS⟩ := hrel
  have hwr : w.heap.size < wr.heap.size := heap_lt HX.out
  by_cases hlt : q < I.funs.length
  ·have hlt' : (q : Int) < (I.funs.length : Int) := by omega
   obtain ⟨g, off, eb, hgb, k0, k1, k2, k3⟩ := HF.out.at hlt
   subst eb
   replace k0 := (HB.out.cell (p := ⟨g, _, none⟩) hgb).trans k0
   replace k1 := (HB.out.cell (p := ⟨g, _, none⟩) hgb).trans k1
   replace k2 := (HB.out.cell (p := ⟨g, _, none⟩) hgb).trans k2
   replace k3 := (HB.out.cell (p := ⟨g, _, none⟩) hgb).trans k3
   have HNF := hidX (HNL.out _ (List.getElem_mem hlt))
   have hdr : I.funs.drop q = I.funs[q] :: I.funs.drop (q + 1) := List.drop_eq_getElem_cons hlt
   have HTK := hidX (show (I.funs.take (q + 1)).map Mf.name = (I.funs.take q).map Mf.name ++ [I.funs[q].name] from by rw [List.take_succ_eq_append_getElem hlt, List.map_append]; rfl)
   have HNX := hidX (show mfFrom I 0 I.funs = if funN I q I.funs[q] = 0 then mfFrom I (q + 1) (I.funs.drop (q + 1)) else (funN I q I.funs[q], (q : Int)) from by rw [HRS.out, hdr]; rfl)
   have HKN := hidX (show funN I q I.funs[q] = 0 → I.funs[q].name ∉ (I.funs.take q).map Mf.name from fun h hm => by
    unfold funN at h
    rw [if_pos (Or.inr hm)] at h
    cases h)
   generalize I.funs[q] = f at *
   obtain ⟨Wb, hWb⟩ : ∃ Wb, Wb = wr.alloc (.cells #[.string ⟨f.name.toArray⟩, .int .i64 f.params, .int .i64 f.slots, .int .i64 f.entry] 51) := ⟨_, rfl⟩
   have hwb : Below wr.heap.size wr Wb := by rw [hWb]; (repeat (first | exact Below.refl _ _ | assumption | refine Below.drew ?_ | refine bT ?_ _ | refine bS ?_ _ | refine bA ?_ _))
   have hub : Below w.heap.size w Wb := bl_trans HB.out HB.out.size hwb
   have hxb : Wb.heap[wr.heap.size]? = some (.cells #[.string ⟨f.name.toArray⟩, .int .i64 f.params, .int .i64 f.slots, .int .i64 f.entry] 51 (0, 0)) := by rw [hWb]; exact heap_alloc_new _ _
   have hxi : Wb.heap[w.heap.size]? = _ := (hwb.block _ hwr).trans HX.out
   obtain ⟨gm, hgm⟩ := HM.out
   have hgm := hgm.keep (hwb.block _ hgm.lt)
   have HGM := hidX hgm
   have HCF := hidX (checkFun_any (HS.out.below hub) I q f HNF.out (by omega) _ (some ⟨g, off, none⟩) I.funs.length cf rfl adw cw (w.heap.size + 1) gm hgm)
   have i0 : Wb.cell? ⟨w.heap.size, 0, none⟩ = some (.slice (some ⟨g, off, none⟩) I.funs.length cf) := cell_of_blk hxi 0
   have i1 : Wb.cell? ⟨w.heap.size, 1, none⟩ = some (.slice adw I.words.length cw) := cell_of_blk hxi 1
   have b0 : Wb.cell? ⟨wr.heap.size, 0, none⟩ = some (.string ⟨f.name.toArray⟩) := cell_of_blk hxb 0
   have b1 : Wb.cell? ⟨wr.heap.size, 1, none⟩ = some (.int .i64 f.params) := cell_of_blk hxb 1
   have b2 : Wb.cell? ⟨wr.heap.size, 2, none⟩ = some (.int .i64 f.slots) := cell_of_blk hxb 2
   have b3 : Wb.cell? ⟨wr.heap.size, 3, none⟩ = some (.int .i64 f.entry) := cell_of_blk hxb 3
   have HXB := hidX hxb
   have HXI := hidX hxi
   have HUB := hidX hub
   generalize funN I q f = fc at *
   clear hwb hub hxb hxi hgm hdr
   go_upto_region 7 with fail
   rw [← hWb]
   clear hWb k0 k1 k2 k3
   go_wp2_with fail
   refine HCF.out.mono ?_
   rintro e Y ⟨rfl, hbY⟩
   have hbW : Below w.heap.size w Y := bl_trans HUB.out HUB.out.size hbY
   have HXY := hidX ((hbY.block _ (heap_lt HXI.out)).trans HXI.out)
   have c0 : Y.cell? ⟨wr.heap.size, 0, none⟩ = some (.string ⟨f.name.toArray⟩) := cell_of_blk ((hbY.block _ (heap_lt HXB.out)).trans HXB.out) 0
   have hgY := HGM.out.keep (hbY.block _ HGM.out.lt)
   have HBW := hidX hbW
   clear b0 b1 b2 b3 i0 i1 hbY hbW
   by_cases hz : fc = 0
   ·obtain ⟨W3, hup, hm3, hg3⟩ := hgY.more (by rw [List.length_map, List.length_take]; omega) f.name HNF.out (HKN.out hz) (q : Int) (by omega) Y rfl
    have HM3 := hidX hm3
    have HG3 := hidX hg3
    rw [show errS a fc = .nilIface from if_pos hz]
    have HN2 := hidX (show mfFrom I 0 I.funs = mfFrom I (q + 1) (I.funs.drop (q + 1)) from by rw [HNX.out, if_pos hz])
    clear hm3 hg3 hgY hz
    go_wp2
    have hg := HG3.out
    go_roundw
    case rel => exact ⟨q + 1, by omega, by go_num, ⟨hg.os.trans HBW.out.os, hg.tape.trans HBW.out.tape, hg.output.trans HBW.out.output, Nat.le_trans HBW.out.size hg.size, fun c hc => (hg.block c (by have := HBW.out.size; omega) (fun e => by injection e with e; omega)).trans (HBW.out.block c hc)⟩, (hg.block _ (heap_lt HXY.out) (fun e => by injection e with e; omega)).trans HXY.out, by rw [HTK.out]; exact HM3.out, HN2.out⟩
    case measure => simp [intOf]; omega
   ·have he : errS a fc = sentV (a (fc - 1)) := if_neg hz
    rw [he]
    have hres : res = (fc, (q : Int)) := by
     have h1 : mfFrom I 0 I.funs = (fc, (q : Int)) := by rw [HNX.out, if_neg hz]
     rw [HR1.out, h1, if_pos hz]
    have HZ := hidX hz
    clear hgY hz he HR1 HNX HKN HRS
    subst hres
    go_wp2
    go_ret
    exact ft_bad HZ.out (by omega) (HBW.out.alloc HBW.out.size _) rfl HBW.out.size (heap_alloc_new _ _)
  ·have hqn : q = I.funs.length := by omega
   have hz : mfFrom I 0 I.funs = (0, -1) := by rw [HRS.out, hqn, List.drop_length]; rfl
   have HR2 := hidX (show res = wdFrom I 0 I.words from by rw [HR1.out, hz]; rfl)
   have i0 : wr.cell? ⟨w.heap.size, 0, none⟩ = some (.slice adf I.funs.length cf) := cell_of_blk HX.out 0
   have i1 : wr.cell? ⟨w.heap.size, 1, none⟩ = some (.slice adw I.words.length cw) := cell_of_blk HX.out 1
   subst hqn
   clear hz HRS HM HR1
   go_wp2_with fail
   refine (bounds_any I.funs.length I.words.length (by omega) (by omega) adf adw cf cw).mono ?_
   rintro e Y ⟨bm, rfl, hbY, hbm, hmY⟩
   have hbW : Below w.heap.size w Y := bl_trans HB.out HB.out.size hbY
   have j1 : Y.cell? ⟨w.heap.size, 1, none⟩ = some (.slice adw I.words.length cw) := cell_of_blk ((hbY.block _ hwr).trans HX.out) 1
   have HBW := hidX hbW
   have HMY := hidX hmY
   clear i0 i1 hbY hbW hmY
   go_wp2_with fail
   clear j1
   go_loopw [8, 9, 10, 52] (fun _ _ _ i wr => ∃ q : Nat, q ≤ I.words.length ∧ i = .int .i64 (q : Int) ∧ Hid (Below w.heap.size w wr) ∧ Hid (NmAt wr bm bndK (bndF I.funs.length I.words.length)) ∧ Hid (res = wdFrom I q (I.words.drop q))) (fun _ _ _ i _ => I.words.length - (intOf i).toNat)
   case atStart => exact ⟨0, by omega, rfl, HBW.out, HMY.out, HR2.out⟩
   case round =>
    obtain ⟨q, hq, rfl, HB, HMQ, HRS⟩ := hrel
    by_cases hlt : q < I.words.length
    ·have hlt' : (q : Int) < (I.words.length : Int) := by omega
     obtain ⟨gw, offw, eb, _, hgw, hcw⟩ := HWR.out.get (by omega)
     subst eb
     have k0 : wr.cell? ⟨gw, offw + q, none⟩ = some (.int .u64 (I.words[q] : Nat)) := (HB.out.cell (p := ⟨gw, _, none⟩) hgw).trans (hcw q _ (by simp [wosV, hlt]))
     have hdr : I.words.drop q = I.words[q] :: I.words.drop (q + 1) := List.drop_eq_getElem_cons hlt
     have HNX := hidX (show res = if wdN I I.words[q] = 0 then wdFrom I (q + 1) (I.words.drop (q + 1)) else (wdN I I.words[q], (q : Int)) from by rw [HRS.out, hdr]; rfl)
     have HCW := hidX (checkWord_any (HS.out.below HB.out) (HT.out.below HB.out) I I.words[q] (HWV.out _ (List.getElem_mem hlt)) bm HMQ.out)
     generalize wdN I I.words[q] = wc at *
     generalize I.words[q] = u at *
     clear hcw hdr
     go_wp2_with fail
     refine HCW.out.mono ?_
     rintro e Y2 ⟨rfl, hbY⟩
     have HBY := hidX (bl_trans HB.out HB.out.size hbY)
     have HMY2 := hidX (HMQ.out.keep (hbY.block _ HMQ.out.lt))
     clear hbY
     by_cases hz : wc = 0
     ·rw [show errS a wc = .nilIface from if_pos hz]
      have HN2 := hidX (show res = wdFrom I (q + 1) (I.words.drop (q + 1)) from by rw [HNX.out, if_pos hz])
      clear hz
      go_wp2
      go_roundw
      case rel => exact ⟨q + 1, by omega, by go_num, HBY.out, HMY2.out, HN2.out⟩
      case measure => simp [intOf]; omega
     ·have he : errS a wc = sentV (a (wc - 1)) := if_neg hz
      rw [he]
      have hres : res = (wc, (q : Int)) := by rw [HNX.out, if_neg hz]
      have HZ := hidX hz
      clear hz he HNX HRS HR2
      subst hres
      go_wp2
      go_ret
      exact ft_bad HZ.out (by omega) (HBY.out.alloc HBY.out.size _) rfl HBY.out.size (heap_alloc_new _ _)
    ·have hqn : q = I.words.length := by omega
     have hres : res = (0, -1) := by rw [HRS.out, hqn, List.drop_length]; rfl
     clear HRS HR2
     subst hres hqn
     go_wp2
     go_ret
     exact ft_well rfl HB.out rfl
end Go.Proofs.YtbcpomdcmilpjaaDoor
namespace Go.Proofs.YtbcpomdcmilpjaaDoor
open Go.RowKit
set_option maxRecDepth 100000 in
set_option maxHeartbeats 2000000 in
theorem sign_any (k : List UInt8) (w : World) (hT : TabC w) : Calls Tryd.prog 35 #[.string ⟨k.toArray⟩] w fun e w' => e = .returned (.string ⟨(coNamed k).2.sg.toArray⟩) ∧ Below w.heap.size w w' := by
 have HN := hidX (named_any k w hT)
 generalize coNamed k = r at HN ⊢
 obtain ⟨n, s⟩ := r
 clear hT
 go_enter Tryd.func35, Tryd.ntmps35
 go_wp2_with fail
 refine HN.out.mono ?_
 rintro e w2 ⟨rfl, hb2⟩
 have HB := hidX hb2
 clear hb2
 go_wp2
 go_ret
 exact ⟨rfl, HB.out.alloc HB.out.size _⟩
def whichM (l : List Mf) (nm : List UInt8) : Int := match l.findIdx? (fun f => f.name == nm) with
 | some i => i
 | none => -1
set_option maxRecDepth 100000 in
set_option maxHeartbeats 2000000 in
theorem isName_any (nm : List UInt8) (w : World) (np : Addr) (hnp : w.cell? np = some (.string ⟨nm.toArray⟩)) (f : Mf) : Calls Tryd.prog 21 #[mfV f, .pointer (some np)] w fun e w' => e = .returned (.bool (f.name == nm)) ∧ Below w.heap.size w w' := by
 obtain ⟨nf, P, S, E⟩ := f
 have hlt := cell_lt hnp
 have h2 : (w.alloc (.cells #[.string ⟨nf.toArray⟩, .int .i64 P, .int .i64 S, .int .i64 E] 51)).cell? np = some (.string ⟨nm.toArray⟩) := ((box_blk w _ _).cell hlt).trans hnp
 clear hnp
 go_enter Tryd.func21, Tryd.ntmps21
 go_wp2
 go_ret
 exact ⟨rfl, by (repeat (first | exact Below.refl _ _ | assumption | refine Below.drew ?_ | refine bT ?_ _ | refine bS ?_ _ | refine bA ?_ _))⟩
set_option maxRecDepth 100000 in
set_option maxHeartbeats 4000000 in
theorem index_anyM (nm : List UInt8) {w : World} (np : Addr) (hnp : w.cell? np = some (.string ⟨nm.toArray⟩)) (L : List Mf) (hL : L.length ≤ 100000) (ad : Option Addr) (cap : Nat) (hF : XMf (InH w) w (.slice ad L.length cap) L) :
  Calls Tryd.prog 20 #[.slice ad L.length cap, .func (.func 21) #[] #[.pointer (some np)]] w fun e w' => e = .returned (.int .i64 (whichM L nm)) ∧ Below w.heap.size w w' := by
 have hL' : (L.length : Int) ≤ 100000 := by omega
 have hent := enters_of Tryd.func21 (by kernel_rfl) rfl
 have hnl := cell_lt hnp
 have HNP := hidX hnp
 have HF := hidX hF
 have hw : whichM L nm = match L.findIdx? (fun f => f.name == nm) with | some i => (i : Int) | none => -1 := rfl
 generalize whichM L nm = r at hw ⊢
 have HW := hidX hw
 clear hnp hF hw
 go_enter Tryd.func20, Tryd.ntmps20
 go_wp2_with fail
 go_loopw [5, 8] (fun _ i wr => ∃ q : Nat, q ≤ L.length ∧ i = .int .i64 (q : Int) ∧ Hid (Below w.heap.size w wr) ∧ Hid (∀ j (hj : j < L.length), j < q → (L[j].name == nm) = false)) (fun _ i _ => L.length - (intOf i).toNat)
 case atStart => exact ⟨0, by omega, rfl, Below.refl _ _, fun j _ h => absurd h (by omega)⟩
 case round =>
  obtain ⟨q, hq, rfl, HB, HN⟩ := hrel
  by_cases hlt : q < L.length
  ·have hlt' : (q : Int) < (L.length : Int) := by omega
   obtain ⟨g, off, eb, hgb, k0, k1, k2, k3⟩ := HF.out.at hlt
   subst eb
   replace k0 := (HB.out.cell (p := ⟨g, _, none⟩) hgb).trans k0
   replace k1 := (HB.out.cell (p := ⟨g, _, none⟩) hgb).trans k1
   replace k2 := (HB.out.cell (p := ⟨g, _, none⟩) hgb).trans k2
   replace k3 := (HB.out.cell (p := ⟨g, _, none⟩) hgb).trans k3
   have HC := hidX (isName_any nm wr np ((HB.out.cell hnl).trans HNP.out) L[q])
   have hfi : (L[q].name == nm) = true → r = (q : Int) := fun h => by
    have : L.findIdx? (fun f => f.name == nm) = some q := by
     rw [List.findIdx?_eq_some_iff_getElem]
     exact ⟨hlt, h, fun j hj => by rw [HN.out j (by omega) hj]; decide⟩
    rw [HW.out, this]
   have hnx : (L[q].name == nm) = false → ∀ j (hj : j < L.length), j < q + 1 → (L[j].name == nm) = false := fun h j hj hjq => by
    by_cases e : j = q
    ·subst e; exact h
    ·exact HN.out j hj (by omega)
   have HFI := hidX hfi
   have HNX := hidX hnx
   clear hfi hnx
   generalize hf : L[q] = f at HC HFI HNX k0 k1 k2 k3
   obtain ⟨nf, P, S, E⟩ := f
   simp only at HC HFI HNX k0 k1 k2 k3
   clear hf
   cases hb : (nf == nm) with
   | true =>
    rw [hb] at HC
    have hr := HFI.out hb
    clear HW HFI HNX hb
    subst hr
    go_wp2_with fail
    refine HC.out.mono ?_
    rintro e Y ⟨rfl, hbY⟩
    have HBY := hidX (bl_trans HB.out HB.out.size hbY)
    clear hbY
    go_wp2
    go_ret
    exact ⟨rfl, HBY.out⟩
   | false =>
    rw [hb] at HC
    have HN2 := hidX (HNX.out hb)
    clear HFI HNX hb
    go_wp2_with fail
    refine HC.out.mono ?_
    rintro e Y ⟨rfl, hbY⟩
    have HBY := hidX (bl_trans HB.out HB.out.size hbY)
    clear hbY
    go_wp2
    go_roundw
    case rel => exact ⟨q + 1, by omega, by go_num, HBY.out, HN2.out⟩
    case measure => simp [intOf]; omega
  ·have hqn : q = L.length := by omega
   have hr : r = -1 := by
    have : L.findIdx? (fun f => f.name == nm) = none := by
     rw [List.findIdx?_eq_none_iff]
     intro x hx
     obtain ⟨j, hj, rfl⟩ := List.getElem_of_mem hx
     exact HN.out j hj (by omega)
    rw [HW.out, this]
   clear HW
   subst hr hqn
   go_wp2
   go_ret
   exact ⟨rfl, HB.out⟩
end Go.Proofs.YtbcpomdcmilpjaaDoor
