/- Our own: texts joined: Steps, MaCall. -/
import Derived.Test.YtbcpomdcmilpjaaDoorXBaseM
import Derived.Deep.RegionLaw
import Derived.Maps.AppendAt
import Derived.Shelf.Abstract
import Derived.Test.YtbcpomdcmilpjaaDoorXWellM
import Derived.Test.YtbcpomdcmilpjaaDoorXTickM
import Derived.Deep.OwnRows
namespace Go.Proofs.YtbcpomdcmilpjaaDoor
open Go.RowKit
end Go.Proofs.YtbcpomdcmilpjaaDoor
namespace Go.Proofs.YtbcpomdcmilpjaaDoor
open Go.RowKit
theorem made_intsM (n : Nat) : madeCells #[.int .i64 0] n = (intsG (List.replicate n 0)).toArray := by
 apply Array.ext'
 apply List.ext_getElem?
 intro i
 simp [madeCells, intsG, List.getElem?_replicate]
 by_cases h : i < n <;> simp [h, Nat.mod_one]
theorem four_list {l : List Int} (h : l.length = 4) : ∃ a b c d, l = [a, b, c, d] := by
 match l, h with
 | [a, b, c, d], _ => exact ⟨a, b, c, d, rfl⟩
set_option maxRecDepth 100000 in
set_option maxHeartbeats 8000000 in
theorem mcall_of {I : Im} {most : Nat} {fs : List Fm} (hW : WellI I) (hG : fs.length < 40 → GoC I most fs) : CallC I most fs := by
 intro w B mb fv wv ov g t which args dd hM hw0 hw1 hal
 obtain ⟨a0, a1, a2, a3, rfl⟩ := four_list hal
 obtain ⟨n, rfl⟩ : ∃ n : Nat, which = (n : Int) := ⟨which.toNat, by omega⟩
 have hn : n < I.funs.length := by omega
 have hfn : funAt I (n : Int) = I.funs[n] := by simp [funAt, hn]
 have hok := hW.funs _ (List.getElem_mem hn)
 have hfl : (I.funs.length : Int) ≤ 8 := by have := hW.fl; omega
 have hdl := hM.dl
 have hml := hM.mlt
 have hmp := hM.hp
 obtain ⟨adf, cf, rfl⟩ := hM.fs.is
 obtain ⟨gf, off, rfl, hgf, k0, k1, k2, k3⟩ := hM.fs.at hn
 obtain ⟨W0, hW0⟩ : ∃ W0, W0 = w.alloc (.cells #[.int .i64 a0, .int .i64 a1, .int .i64 a2, .int .i64 a3] 67) := ⟨_, rfl⟩
 have hb0 : Below w.heap.size w W0 := by rw [hW0]; (repeat (first | exact Below.refl _ _ | assumption | refine Below.drew ?_ | refine bT ?_ _ | refine bS ?_ _ | refine bA ?_ _))
 have hx0 : W0.heap[w.heap.size]? = some (.cells #[.int .i64 a0, .int .i64 a1, .int .i64 a2, .int .i64 a3] 67 (0, 0)) := by rw [hW0]; exact heap_alloc_new _ _
 have hz0 : W0.heap.size = w.heap.size + 1 := by rw [hW0]; simp
 generalize hS : enterM I most g fs (n : Int) [a0, a1, a2, a3] dd = S
 have HS := hidX hS
 have HM := hidX hM
 have HM0 := hidX (hM.below hb0)
 have HOK := hidX hok
 have HFN := hidX hfn
 have HB0 := hidX hb0
 have HX0 := hidX hx0
 have HG := hidX hG
 generalize I.funs[n] = F at *
 generalize hfl2 : I.funs.length = fl at *
 have HK := hidX (And.intro k0 (And.intro k1 (And.intro k2 k3)))
 clear hS hM hok hfn hb0 hx0 hal hG k0 k1 k2 k3
 show Calls Tryd.prog _ #[_, _, .agg #[.int .i64 a0, .int .i64 a1, .int .i64 a2, .int .i64 a3]] _ _
 go_enter Tryd.func23, Tryd.ntmps23
 go_wp2_with fail
 rw [← hW0]
 refine (mtick_any HM0.out).mono ?_
 rintro e X1 ⟨hf1, h1⟩
 have hz1 := hf1.size
 have HF1 := hidX (show Fr (Sx mb ov.ownBlock) w X1 from (Fr.of HB0.out).trans hf1 (fun _ _ h => h))
 have hx1 := (hf1.block w.heap.size (by omega) (by rintro (e | e); omega; have := (HM.out.own.lt _ e).2; omega)).trans HX0.out
 have HX1 := hidX hx1
 clear hf1 hx1
 by_cases ht : most ≤ g.ticks
 ·rw [if_pos ht] at h1
  obtain ⟨he, hm1⟩ := h1
  subst he
  have HM1 := hidX hm1
  have HE := hidX (show S = .halt hTired 0 g from by rw [← HS.out]; exact if_pos ht)
  clear hm1 ht
  go_wp2
  exact bodyPost_ret (v := .tuple #[.int .i64 0, .bool false]) (by simp [results, Tryd.results23, go_sem]) rfl ⟨HF1.out, 0, ov, g, RowB.refl _ _, Or.inr ⟨hTired, rfl, HM1.out, Or.inl ⟨0, HE.out⟩⟩⟩
 ·rw [if_neg ht] at h1
  obtain ⟨he, hm1⟩ := h1
  subst he
  have HM1 := hidX hm1
  have c7 : X1.cell? ⟨mb, 7, none⟩ = some (.int .i64 (fs.length : Int)) := cell_of_blk hm1.blk 7
  by_cases hd : fs.length = 40
  ·have hd' : ((fs.length : Int) == 40) = true := by simp; omega
   have HE := hidX (show S = .halt hDeep 0 ⟨g.out, g.ticks + 1⟩ from by rw [← HS.out]; unfold enterM; rw [if_neg ht, if_pos (by omega)])
   generalize fs.length = fsl at *
   subst hd
   clear hm1 ht
   go_wp2_with fail
   refine (mstop_any HM1.out hDeep).mono ?_
   rintro e X2 ⟨rfl, hm2, hf2⟩
   have HM2 := hidX hm2
   have HF2 := hidX (show Fr (Sx mb ov.ownBlock) w X2 from HF1.out.trans hf2 (fun _ _ h => h))
   clear hm2 hf2
   go_wp2
   exact bodyPost_ret (v := .tuple #[.int .i64 0, .bool false]) (by simp [results, Tryd.results23, go_sem]) rfl ⟨HF2.out, 0, ov, _, RowB.refl _ _, Or.inr ⟨hDeep, rfl, HM2.out, Or.inl ⟨0, HE.out⟩⟩⟩
  ·have hd' : ((fs.length : Int) == 40) = false := by simp; omega
   have hdlt : fs.length < 40 := by omega
   obtain ⟨ns, hns⟩ : ∃ ns : Nat, F.slots = (ns : Int) := ⟨F.slots.toNat, by have := HOK.out.slots; omega⟩
   obtain ⟨ne, hne⟩ : ∃ ne : Nat, F.entry = (ne : Int) := ⟨F.entry.toNat, by have := HOK.out.entry; omega⟩
   have hns1 : ns ≤ 1000 := by have := HOK.out.slots; omega
   have HE := hidX (show S = .run ⟨g.out, g.ticks + 1⟩ (newF F [a0, a1, a2, a3] dd) fs from by rw [← HS.out]; unfold enterM; rw [if_neg ht, if_neg (by omega), HFN.out])
   have HGC := hidX (HG.out hdlt)
   have c4 : X1.cell? ⟨mb, 4, none⟩ = some (.slice (some ⟨gf, off, none⟩) fl cf) := by have := cell_of_blk hm1.blk 4; simpa [hfl2] using this
   have hlow1 := HF1.out.lowX HM.out
   obtain ⟨j0, j1, j2, j3⟩ := HK.out
   have k0 := (hlow1.cell (p := ⟨gf, _, none⟩) hgf).trans j0
   have k1 := (hlow1.cell (p := ⟨gf, _, none⟩) hgf).trans j1
   have k2 := (hlow1.cell (p := ⟨gf, _, none⟩) hgf).trans j2
   have k3 := (hlow1.cell (p := ⟨gf, _, none⟩) hgf).trans j3
   rw [hns] at k2
   rw [hne] at k3
   have x0 : X1.cell? ⟨w.heap.size, 0, none⟩ = some (.int .i64 a0) := cell_of_blk HX1.out 0
   have x1 : X1.cell? ⟨w.heap.size, 1, none⟩ = some (.int .i64 a1) := cell_of_blk HX1.out 1
   have x2 : X1.cell? ⟨w.heap.size, 2, none⟩ = some (.int .i64 a2) := cell_of_blk HX1.out 2
   have x3 : X1.cell? ⟨w.heap.size, 3, none⟩ = some (.int .i64 a3) := cell_of_blk HX1.out 3
   have hmk := run_make_row' (P := Tryd.prog) 26 3 (.int .i64 0) 8 Tryd.underlying26 int_info rfl .i64 .i64 ns (by omega) (by omega)
   rw [made_intsM] at hmk
   have hgfl : gf < X1.heap.size := by have := hm1.mlt; omega
   have hwl : w.heap.size < X1.heap.size := heap_lt HX1.out
   have hn' : (n : Int) < (fl : Int) := by omega
   obtain ⟨X2, hX2⟩ : ∃ X2, X2 = X1.alloc (.cells #[.string ⟨F.name.toArray⟩, .int .i64 F.params, .int .i64 (ns : Int), .int .i64 (ne : Int)] 51) := ⟨_, rfl⟩
   have hb2 : Below X1.heap.size X1 X2 := by rw [hX2]; (repeat (first | exact Below.refl _ _ | assumption | refine Below.drew ?_ | refine bT ?_ _ | refine bS ?_ _ | refine bA ?_ _))
   have hz2 : X2.heap.size = X1.heap.size + 1 := by rw [hX2]; simp
   have hx2 : X2.heap[X1.heap.size]? = some (.cells #[.string ⟨F.name.toArray⟩, .int .i64 F.params, .int .i64 (ns : Int), .int .i64 (ne : Int)] 51 (0, 0)) := by rw [hX2]; exact heap_alloc_new _ _
   have HB2 := hidX hb2
   have HX2 := hidX hx2
   have HZ2 := hidX hz2
   have hwx : w.heap.size < X2.heap.size := by omega
   have hxx : X1.heap.size < X2.heap.size := by omega
   clear hm1 ht hd hlow1 j0 j1 j2 j3 hz2
   go_wp2_with fail
   rw [← hX2]
   clear hX2 c4 c7 k0 k1 k2 k3
   replace x0 := (HB2.out.cell (p := ⟨w.heap.size, 0, none⟩) hwl).trans x0
   replace x1 := (HB2.out.cell (p := ⟨w.heap.size, 1, none⟩) hwl).trans x1
   replace x2 := (HB2.out.cell (p := ⟨w.heap.size, 2, none⟩) hwl).trans x2
   replace x3 := (HB2.out.cell (p := ⟨w.heap.size, 3, none⟩) hwl).trans x3
   have y1 : X2.cell? ⟨X1.heap.size, 1, none⟩ = some (.int .i64 F.params) := cell_of_blk hx2 1
   have y2 : X2.cell? ⟨X1.heap.size, 2, none⟩ = some (.int .i64 (ns : Int)) := cell_of_blk hx2 2
   have y3 : X2.cell? ⟨X1.heap.size, 3, none⟩ = some (.int .i64 (ne : Int)) := cell_of_blk hx2 3
   have hns' : (ns : Int) ≤ 1000 := by omega
   clear hx2 hb2
   go_region
   obtain ⟨X3, hX3⟩ : ∃ X3, X3 = ((X2.alloc (.cells (intsG (List.replicate ns 0)).toArray 3)).alloc (.cells (fmL mb (newF F [a0, a1, a2, a3] dd) (.slice (some ⟨X2.heap.size, 0, none⟩) ns ns)).toArray 99)).drew := ⟨_, rfl⟩
   have hb3 : Below X2.heap.size X2 X3 := by rw [hX3]; (repeat (first | exact Below.refl _ _ | assumption | refine Below.drew ?_ | refine bT ?_ _ | refine bS ?_ _ | refine bA ?_ _))
   have hz3 : X3.heap.size = X2.heap.size + 2 := by rw [hX3]; simp
   have hsl3 : X3.heap[X2.heap.size]? = some (.cells (intsG (List.replicate ns 0)).toArray 3 (0, 0)) := by
    rw [hX3]
    exact (Below.heap_alloc (X2.alloc _) _ _ (by simp)).trans (heap_alloc_new X2 _)
   have hfm3 : X3.heap[X2.heap.size + 1]? = some (.cells (fmL mb (newF F [a0, a1, a2, a3] dd) (.slice (some ⟨X2.heap.size, 0, none⟩) ns ns)).toArray 99 (0, 0)) := by
    rw [hX3]
    have := heap_alloc_new (X2.alloc (.cells (intsG (List.replicate ns 0)).toArray 3)) (.cells (fmL mb (newF F [a0, a1, a2, a3] dd) (.slice (some ⟨X2.heap.size, 0, none⟩) ns ns)).toArray 99)
    rwa [World.size_alloc] at this
   have hB3 := bl_trans HB2.out HB2.out.size hb3
   have hm3 := HM1.out.below hB3
   have hsn : F.slots.toNat = ns := by omega
   have hpc : (newF F [a0, a1, a2, a3] dd).pc = ne := by show F.entry.toNat = ne; omega
   have hmb2 : mb < X1.heap.size := HM1.out.mlt
   have hf3 : FM X3 B mb (X2.heap.size + 1) X2.heap.size (newF F [a0, a1, a2, a3] dd) := by
    refine ⟨by omega, by omega, by omega, by omega, by omega, ?_, ?_, by simp [newF, zeros], rfl, by simp [newF, zeros], by simp [newF, zeros, hsn]; omega⟩
    ·show _ = some (Obj.cells (fmL mb _ (.slice _ (zeros F.slots.toNat).length (zeros F.slots.toNat).length)).toArray _ _)
     rw [hsn, zeros, List.length_replicate]
     exact hfm3
    ·show _ = some (Obj.cells (intsG (zeros F.slots.toNat)).toArray _ _)
     rw [hsn]
     exact hsl3
   have c7 : X3.cell? ⟨mb, 7, none⟩ = some (.int .i64 (fs.length : Int)) := cell_of_blk hm3.blk 7
   have f7 := free_of_blk hm3.blk 7
   obtain ⟨hm4, hf4⟩ := hm3.put (j := 7) (u := .int .i64 ((fs.length : Int) + 1)) (how' := []) (g' := ⟨g.out, g.ticks + 1⟩) (d' := fs.length + 1) (t' := t) rfl hm3.tl (by omega) hm3.kl (by simp)
   have hoth4 : ∀ c, c ≠ mb → (X3.setCell ⟨mb, 7, none⟩ (.int .i64 ((fs.length : Int) + 1))).heap[c]? = X3.heap[c]? := fun c hc => Below.heap_setCell _ _ _ _ (show c ≠ mb from hc)
   have hno : ∀ b, X1.heap.size ≤ b → ov.ownBlock ≠ some b := fun b hb e => by have := (HM1.out.own.lt b e).2; omega
   have HGO := hidX (HGC.out _ B mb (X2.heap.size + 1) X2.heap.size _ wv ov _ t _ hm4 (hf3.keep (hoth4 _ (by omega)) (hoth4 _ (by omega))) (hno _ (by omega)) (hno _ (by omega)) (by rw [hpc]; have := HOK.out.entry; omega))
   rw [hpc] at HGO
   have y3 : (X3.setCell ⟨mb, 7, none⟩ (.int .i64 ((fs.length : Int) + 1))).cell? ⟨X1.heap.size, 3, none⟩ = some (.int .i64 (ne : Int)) := cell_of_blk ((hoth4 X1.heap.size (by omega)).trans ((hb3.block _ hxx).trans HX2.out)) 3
   have HX4 := hidX (show Fr (Sx mb ov.ownBlock) w (X3.setCell ⟨mb, 7, none⟩ (.int .i64 ((fs.length : Int) + 1))) from (HF1.out.trans (Fr.of (S := Sx mb ov.ownBlock) hB3) (fun _ _ h => h)).trans hf4 (fun _ _ h => h))
   have hz4 : (X3.setCell ⟨mb, 7, none⟩ (.int .i64 ((fs.length : Int) + 1))).heap.size = X3.heap.size := by simp [World.setCell]
   have hx3 : ((X2.alloc (.cells (intsG (List.replicate ns 0)).toArray 3)).alloc (.cells #[.pointer (some ⟨mb, 0, none⟩), .int .i64 0, .int .i64 0, .int .i64 0, .int .i64 0, .int .i64 0, .int .i64 0, .int .i64 0, .int .i64 0, .int .i64 a0, .int .i64 a1, .int .i64 a2, .int .i64 a3, .int .i64 0, .int .i64 0, .int .i64 0, .int .i64 0, .int .i64 F.params, .slice (some ⟨X2.heap.size, 0, none⟩) ns ns] 99)).drew = X3 := hX3.symm
   have HWL := hidX (show w.heap.size ≤ X1.heap.size ∧ X1.heap.size < X2.heap.size from ⟨by omega, by omega⟩)
   have hfsl : (fs.length : Int) + 1 ≤ 41 := by omega
   have HDL := hidX hdlt
   clear hb3 hsl3 hfm3 hB3 hm3 hf3 hm4 hf4 hoth4 hX3 x0 x1 x2 x3 y1 y2 hpc hno hwx hxx
   rw [hx3]
   clear hx3
   go_wp2_with fail
   refine HGO.out.mono ?_
   intro e Y hY
   obtain ⟨v, bb, rfl⟩ := hY.e
   obtain ⟨hfY, k, ov', g', hrY, hY⟩ := hY
   have hfin : ∃ how, MM Y B mb (.slice (some ⟨gf, off, none⟩) fl cf) wv ov' I how g' most (fs.length + 1) (t + k) ∧ ∀ Y', MM Y' B mb (.slice (some ⟨gf, off, none⟩) fl cf) wv ov' I how g' most fs.length (t + k) →
     ((∃ v', itM I most k S = retM g' fs dd v' ∧ Ending.returned (.tuple #[.int .i64 v, .bool bb]) = .returned (.tuple #[.int .i64 v', .bool true]) ∧ MM Y' B mb (.slice (some ⟨gf, off, none⟩) fl cf) wv ov' I [] g' most fs.length (t + k))
      ∨ (∃ how, Ending.returned (.tuple #[.int .i64 v, .bool bb]) = .returned (.tuple #[.int .i64 0, .bool false]) ∧ MM Y' B mb (.slice (some ⟨gf, off, none⟩) fl cf) wv ov' I how g' most fs.length (t + k) ∧ StopM I most k t S how g')) := by
    rcases hY with ⟨v', q1, q2, q3⟩ | ⟨how, q1, q2, q3⟩
    ·exact ⟨[], q3, fun Y' h => Or.inl ⟨v', by rw [HE.out]; exact q1, q2, h⟩⟩
    ·exact ⟨how, q2, fun Y' h => Or.inr ⟨how, q1, h, by rw [HE.out]; exact q3⟩⟩
   obtain ⟨how, hmY, hfin⟩ := hfin
   have d7 : Y.cell? ⟨mb, 7, none⟩ = some (.int .i64 ((fs.length : Int) + 1)) := by have := cell_of_blk hmY.blk 7; simpa using this
   have g7 := free_of_blk hmY.blk 7
   have HMY := hidX hmY
   have HFY := hidX hfY
   have HRY := hidX hrY
   have HFIN := hidX hfin
   clear hY hmY hfY hrY hfin y3 c7 f7
   go_wp2
   obtain ⟨hm5, hf5⟩ := HMY.out.put (j := 7) (u := .int .i64 (fs.length : Int)) (how' := how) (g' := g') (d' := fs.length) (t' := t + k) rfl HMY.out.tl (by have := HDL.out; omega) HMY.out.kl (by simp)
   refine bodyPost_ret (v := .tuple #[.int .i64 v, .bool bb]) (by simp [results, Tryd.results23, go_sem]) rfl ⟨?_, k, ov', g', HRY.out.mono HX4.out.size, HFIN.out _ hm5⟩
   have hw1 := HWL.out
   refine (HX4.out.trans HFY.out (fun i hi hs => ?_)).trans hf5 (fun i hi hs => Sx.next (HRY.out.mono HX4.out.size) hi hs)
   rcases hs with hs | hs | hs | hs
   ·exact Or.inl hs
   ·omega
   ·omega
   ·exact Or.inr hs
end Go.Proofs.YtbcpomdcmilpjaaDoor
