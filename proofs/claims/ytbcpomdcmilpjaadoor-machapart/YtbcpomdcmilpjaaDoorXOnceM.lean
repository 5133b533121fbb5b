/- Our own: texts joined: MaWord, MaOne, MaOnce. -/
import Derived.Test.YtbcpomdcmilpjaaDoorXMrHs
import Derived.Deep.Cut
import Derived.Test.YtbcpomdcmilpjaaDoorXUntM
import Derived.Deep.DeepCutAuto
import Derived.Deep.RegionHeld3
import Derived.Test.YtbcpomdcmilpjaaDoorXMaRun
import Derived.Test.YtbcpomdcmilpjaaDoorXSameM
namespace Go.Proofs.YtbcpomdcmilpjaaDoor
open Go.RowKit
set_option maxRecDepth 100000 in
set_option maxHeartbeats 4000000 in
theorem rWordOf_any (op : List UInt8) (k m : Nat) (hk : (coNamed op).1 = k) (hk1 : k ≤ 100) (hm : m ≤ 1000) (w : World) :
  Calls Tryd.prog 16 #[.agg #[.string ⟨op.toArray⟩, .int .i64 0, .int .i64 0, .int .i64 0, .int .i64 (m : Int)]] w fun e w' => e = .returned (.int .u64 ((k * 72057594037927936 + m : Nat) : Int)) ∧ Below w.heap.size w w' := by
 obtain ⟨W0, hW0⟩ : ∃ W0, W0 = w.alloc (.cells #[.string ⟨op.toArray⟩, .int .i64 0, .int .i64 0, .int .i64 0, .int .i64 (m : Int)] 55) := ⟨_, rfl⟩
 have hb0 : Below w.heap.size w W0 := by rw [hW0]; (repeat (first | exact Below.refl _ _ | assumption | refine Below.drew ?_ | refine bT ?_ _ | refine bS ?_ _ | refine bA ?_ _))
 have hx0 : W0.heap[w.heap.size]? = some (.cells #[.string ⟨op.toArray⟩, .int .i64 0, .int .i64 0, .int .i64 0, .int .i64 (m : Int)] 55 (0, 0)) := by rw [hW0]; exact heap_alloc_new _ _
 have HC := hidX (fun X => rNumber_any op X)
 rw [hk] at HC
 have HB0 := hidX hb0
 have HX0 := hidX hx0
 have HD := hidX (show ∀ X : World, Below W0.heap.size W0 X → X.cell? ⟨w.heap.size, 0, none⟩ = some (.string ⟨op.toArray⟩) ∧ X.cell? ⟨w.heap.size, 1, none⟩ = some (.int .i64 0) ∧ X.cell? ⟨w.heap.size, 2, none⟩ = some (.int .i64 0) ∧ X.cell? ⟨w.heap.size, 3, none⟩ = some (.int .i64 0) ∧ X.cell? ⟨w.heap.size, 4, none⟩ = some (.int .i64 (m : Int)) from fun X hX => by
  have h := (hX.block _ (heap_lt hx0)).trans hx0
  exact ⟨cell_of_blk h 0, cell_of_blk h 1, cell_of_blk h 2, cell_of_blk h 3, cell_of_blk h 4⟩)
 have d := HD.out W0 (Below.refl _ _)
 obtain ⟨d0, d1, d2, d3, d4⟩ := d
 clear hk hb0 hx0
 go_enter Tryd.func16, Tryd.ntmps16
 go_upto_region 1 with fail
 rw [← hW0]
 clear hW0
 refine wp_region_V (fun W => W.cell? ⟨w.heap.size, 0, none⟩ = some (.string ⟨op.toArray⟩) ∧ W.cell? ⟨w.heap.size, 1, none⟩ = some (.int .i64 0) ∧ W.cell? ⟨w.heap.size, 2, none⟩ = some (.int .i64 0) ∧ W.cell? ⟨w.heap.size, 3, none⟩ = some (.int .i64 0) ∧ W.cell? ⟨w.heap.size, 4, none⟩ = some (.int .i64 (m : Int))) 15 (by kernel_rfl) (HD.out _ (by (repeat (first | exact Below.refl _ _ | assumption | refine Below.drew ?_ | refine bT ?_ _ | refine bS ?_ _ | refine bA ?_ _)))) (fun hHeld => ?_)
 refine wpAnyV_put 0 (some 5) (v := ?v0) rfl rfl (by kernel_rfl) (by kernel_rfl) (by kernel_rfl) (by kernel_rfl) (by kernel_rfl) (fun _ _ _ h => h) (Or.inl ⟨by rfl, ?hy0⟩) hHeld ?rest0
 case hy0 => (intro w2 hSw; (try dsimp only at hSw); first | (go_simp; done) | (go_simp; with_reducible rfl))
 simp only [Act.put, List.setIfInBounds_toArray, List.set_cons_zero, List.set_cons_succ]
 refine wpAnyV_put 1 (some 6) (v := ?v1) rfl rfl (by kernel_rfl) (by kernel_rfl) (by kernel_rfl) (by kernel_rfl) (by kernel_rfl) (fun _ _ _ h => h) (Or.inl ⟨by rfl, ?hy1⟩) hHeld ?rest1
 case hy1 => (intro w2 hSw; (try dsimp only at hSw); first | (go_simp; done) | (go_simp; with_reducible rfl))
 simp only [Act.put, List.setIfInBounds_toArray, List.set_cons_zero, List.set_cons_succ]
 refine wpAnyV_put 4 (some 9) (v := ?v4) rfl rfl (by kernel_rfl) (by kernel_rfl) (by kernel_rfl) (by kernel_rfl) (by kernel_rfl) (fun _ _ _ h => h) (Or.inl ⟨by rfl, ?hy4⟩) hHeld ?rest4
 case hy4 => (intro w2 hSw; (try dsimp only at hSw); first | (go_simp; done) | (go_simp; with_reducible rfl))
 simp only [Act.put, List.setIfInBounds_toArray, List.set_cons_zero, List.set_cons_succ]
 refine wpAnyV_put 5 (some 10) (v := ?v5) rfl rfl (by kernel_rfl) (by kernel_rfl) (by kernel_rfl) (by kernel_rfl) (by kernel_rfl) (fun _ _ _ h => h) (Or.inl ⟨by rfl, ?hy5⟩) hHeld ?rest5
 case hy5 => (intro w2 hSw; (try dsimp only at hSw); first | (go_simp; done) | (go_simp; with_reducible rfl))
 simp only [Act.put, List.setIfInBounds_toArray, List.set_cons_zero, List.set_cons_succ]
 refine wpAnyV_put 6 (some 11) (v := ?v6) rfl rfl (by kernel_rfl) (by kernel_rfl) (by kernel_rfl) (by kernel_rfl) (by kernel_rfl) (fun _ _ _ h => h) (Or.inl ⟨by rfl, ?hy6⟩) hHeld ?rest6
 case hy6 => (intro w2 hSw; (try dsimp only at hSw); first | (go_simp; done) | (go_simp; with_reducible rfl))
 simp only [Act.put, List.setIfInBounds_toArray, List.set_cons_zero, List.set_cons_succ]
 refine wpAnyV_put 8 (some 13) (v := ?v8) rfl rfl (by kernel_rfl) (by kernel_rfl) (by kernel_rfl) (by kernel_rfl) (by kernel_rfl) (fun _ _ _ h => h) (Or.inl ⟨by rfl, ?hy8⟩) hHeld ?rest8
 case hy8 => (intro w2 hSw; (try dsimp only at hSw); first | (go_simp; done) | (go_simp; with_reducible rfl))
 simp only [Act.put, List.setIfInBounds_toArray, List.set_cons_zero, List.set_cons_succ]
 refine wpAnyV_put 9 (some 14) (v := ?v9) rfl rfl (by kernel_rfl) (by kernel_rfl) (by kernel_rfl) (by kernel_rfl) (by kernel_rfl) (fun _ _ _ h => h) (Or.inl ⟨by rfl, ?hy9⟩) hHeld ?rest9
 case hy9 => (intro w2 hSw; (try dsimp only at hSw); first | (go_simp; done) | (go_simp; with_reducible rfl))
 simp only [Act.put, List.setIfInBounds_toArray, List.set_cons_zero, List.set_cons_succ]
 refine wpAnyV_put 10 (some 15) (v := ?v10) rfl rfl (by kernel_rfl) (by kernel_rfl) (by kernel_rfl) (by kernel_rfl) (by kernel_rfl) (fun _ _ _ h => h) (Or.inl ⟨by rfl, ?hy10⟩) hHeld ?rest10
 case hy10 => (intro w2 hSw; (try dsimp only at hSw); first | (go_simp; done) | (go_simp; with_reducible rfl))
 simp only [Act.put, List.setIfInBounds_toArray, List.set_cons_zero, List.set_cons_succ]
 refine wpAnyV_put 12 (some 17) (v := ?v12) rfl rfl (by kernel_rfl) (by kernel_rfl) (by kernel_rfl) (by kernel_rfl) (by kernel_rfl) (fun _ _ _ h => h) (Or.inl ⟨by rfl, ?hy12⟩) hHeld ?rest12
 case hy12 => (intro w2 hSw; (try dsimp only at hSw); first | (go_simp; done) | (go_simp; with_reducible rfl))
 simp only [Act.put, List.setIfInBounds_toArray, List.set_cons_zero, List.set_cons_succ]
 refine wpAnyV_put 13 (some 18) (v := ?v13) rfl rfl (by kernel_rfl) (by kernel_rfl) (by kernel_rfl) (by kernel_rfl) (by kernel_rfl) (fun _ _ _ h => h) (Or.inl ⟨by rfl, ?hy13⟩) hHeld ?rest13
 case hy13 => (intro w2 hSw; (try dsimp only at hSw); first | (go_simp; done) | (go_simp; with_reducible rfl))
 simp only [Act.put, List.setIfInBounds_toArray, List.set_cons_zero, List.set_cons_succ]
 refine wpAnyV_one (i := 2) (by kernel_rfl) rfl (fun K2 hK2 => ?_)
 go_simp
 refine (HC.out _).mono ?_
 rintro e X ⟨rfl, hbX⟩
 have hX0 : Below W0.heap.size W0 X := (show Below W0.heap.size W0 W0.drew by (repeat (first | exact Below.refl _ _ | assumption | refine Below.drew ?_ | refine bT ?_ _ | refine bS ?_ _ | refine bA ?_ _))).trans hbX
 replace hHeld := HD.out X hX0
 have HBX := hidX hX0
 clear hbX hX0
 refine hK2.out _ _ (fun _ => hHeld) (fun _ => ?_)
 clear hK2 K2
 try simp only [Act.put, List.setIfInBounds_toArray, List.set_cons_zero, List.set_cons_succ]
 refine wpAnyV_put 3 (some 8) (v := ?v3) rfl rfl (by kernel_rfl) (by kernel_rfl) (by kernel_rfl) (by kernel_rfl) (by kernel_rfl) (fun _ _ _ h => h) (Or.inl ⟨by rfl, ?hy3⟩) hHeld ?rest3
 case hy3 => (intro w2 hSw; (try dsimp only at hSw); first | (go_simp; done) | (go_simp; with_reducible rfl))
 simp only [Act.put, List.setIfInBounds_toArray, List.set_cons_zero, List.set_cons_succ]
 refine wpAnyV_put 7 (some 12) (v := ?v7) rfl rfl (by kernel_rfl) (by kernel_rfl) (by kernel_rfl) (by kernel_rfl) (by kernel_rfl) (fun _ _ _ h => h) (Or.inl ⟨by rfl, ?hy7⟩) hHeld ?rest7
 case hy7 => (intro w2 hSw; (try dsimp only at hSw); first | (go_simp; done) | (go_simp; with_reducible rfl))
 simp only [Act.put, List.setIfInBounds_toArray, List.set_cons_zero, List.set_cons_succ]
 refine wpAnyV_put 11 (some 16) (v := ?v11) rfl rfl (by kernel_rfl) (by kernel_rfl) (by kernel_rfl) (by kernel_rfl) (by kernel_rfl) (fun _ _ _ h => h) (Or.inl ⟨by rfl, ?hy11⟩) hHeld ?rest11
 case hy11 => (intro w2 hSw; (try dsimp only at hSw); first | (go_simp; done) | (go_simp; with_reducible rfl))
 simp only [Act.put, List.setIfInBounds_toArray, List.set_cons_zero, List.set_cons_succ]
 refine wpAnyV_put 14 (some 19) (v := ?v14) rfl rfl (by kernel_rfl) (by kernel_rfl) (by kernel_rfl) (by kernel_rfl) (by kernel_rfl) (fun _ _ _ h => h) (Or.inl ⟨by rfl, ?hy14⟩) hHeld ?rest14
 case hy14 => (intro w2 hSw; (try dsimp only at hSw); first | (go_simp; done) | (go_simp; with_reducible rfl))
 simp only [Act.put, List.setIfInBounds_toArray, List.set_cons_zero, List.set_cons_succ]
 refine wpAnyV_one (i := 15) (by kernel_rfl) rfl (fun K15 hK15 => ?_)
 go_simp
 refine hK15.out _ _ (fun h => absurd rfl h) (fun _ => ?_)
 clear hK15 K15 hHeld
 refine wpAnyV_done (by kernel_rfl) ?_ _
 obtain ⟨d0, d1, d2, d3, d4⟩ := HD.out X HBX.out
 go_wp2
 go_ret
 have hv : ((k * 72057594037927936 + m : Nat) : Int) = (k : Int) * 16777216 * 4294967296 + (m : Int) := by omega
 rw [hv]
 exact ⟨rfl, bl_trans HB0.out HB0.out.size HBX.out⟩
end Go.Proofs.YtbcpomdcmilpjaaDoor
namespace Go.Proofs.YtbcpomdcmilpjaaDoor
open Go.RowKit
def fOne : Mf := ⟨[102], 0, 0, 0⟩
def iOne : Im := ⟨[fOne], [(coNamed mConst).1 * 72057594037927936 + 7, (coNamed mRet).1 * 72057594037927936]⟩
theorem one_run : (runF iOne [102] 0 5).1 = 0 := by kernel_rfl
theorem one_end : itM iOne 5 2 (startM iOne [102] [] 5) = .halt hDone 7 ⟨[], 1⟩ := by kernel_rfl
theorem one_how {how : List UInt8} {v : Int} {g : Gm} (h : EndM iOne 5 (startM iOne [102] [] 5) how v g) : how = hDone ∧ v = 7 ∧ g = ⟨[], 1⟩ := by
 rcases h with ⟨n, h⟩ | ⟨_, _, g1, f1, fs1, h⟩
 ·have := itM_same h one_end
  exact this
 ·rw [itM_stay one_end (by decide)] at h
  cases h
end Go.Proofs.YtbcpomdcmilpjaaDoor
namespace Go.Proofs.YtbcpomdcmilpjaaDoor
open Go.RowKit
set_option maxRecDepth 100000 in
set_option maxHeartbeats 4000000 in
theorem machined_any {w : World} {a : Nat → Addr} (hS : SenM w a) (hT : TabC w) :
  Calls Tryd.prog 6 #[] w fun e w' => e = .returned (.bool true) ∧ Below w.heap.size w w' := by
 have HS := hidX hS
 have HT := hidX hT
 obtain ⟨n1, hn1⟩ : ∃ n1 : Nat, n1 = (coNamed mConst).1 * 72057594037927936 + 7 := ⟨_, rfl⟩
 obtain ⟨n2, hn2⟩ : ∃ n2 : Nat, n2 = (coNamed mRet).1 * 72057594037927936 + 0 := ⟨_, rfl⟩
 have HC1 := hidX (fun X => rWordOf_any mConst (coNamed mConst).1 7 rfl (by decide) (by decide) X)
 have HC2 := hidX (fun X => rWordOf_any mRet (coNamed mRet).1 0 rfl (by decide) (by decide) X)
 rw [← hn1] at HC1
 rw [← hn2] at HC2
 have hio : iOne = ⟨[fOne], [n1, n2]⟩ := by rw [hn1, hn2]; rfl
 have hw1 : n1 < 18446744073709551616 := by rw [hn1]; decide
 have hw2 : n2 < 18446744073709551616 := by rw [hn2]; decide
 have HIO := hidX hio
 have HW12 := hidX (And.intro hw1 hw2)
 clear hn1 hn2 hio hw1 hw2
 obtain ⟨F0, hF0⟩ : ∃ F0, w.alloc (.cells #[.string ⟨#[102]⟩, .int .i64 0, .int .i64 0, .int .i64 0] 51) = F0 := ⟨_, rfl⟩
 have hbF : Below w.heap.size w F0 := by rw [← hF0]; (repeat (first | exact Below.refl _ _ | assumption | refine Below.drew ?_ | refine bT ?_ _ | refine bS ?_ _ | refine bA ?_ _))
 have hxF : F0.heap[w.heap.size]? = some (.cells #[.string ⟨#[102]⟩, .int .i64 0, .int .i64 0, .int .i64 0] 51 (0, 0)) := by rw [← hF0]; exact heap_alloc_new _ _
 have HBF := hidX hbF
 have HXF := hidX hxF
 clear hS hT hbF hxF
 go_enter Tryd.func6, Tryd.ntmps6
 go_wp2_with fail
 refine (HC1.out _).mono ?_
 rintro e X1 ⟨rfl, hb1⟩
 have HX1 := hidX hb1
 clear hb1
 go_wp2_with fail
 refine (HC2.out _).mono ?_
 rintro e X2 ⟨rfl, hb2⟩
 have HX2 := hidX hb2
 clear hb2
 obtain ⟨Y, hY⟩ : ∃ Y, (X2.alloc (.cells #[.int .u64 (n1 : Int), .int .u64 (n2 : Int)] 52)).alloc (.cells #[.slice (some ⟨w.heap.size, 0, none⟩) 1 1, .slice (some ⟨X2.heap.size, 0, none⟩) 2 2] 37) = Y := ⟨_, rfl⟩
 have h2Y : Below X2.heap.size X2 Y := by rw [← hY]; (repeat (first | exact Below.refl _ _ | assumption | refine Below.drew ?_ | refine bT ?_ _ | refine bS ?_ _ | refine bA ?_ _))
 have hxW : Y.heap[X2.heap.size]? = some (.cells #[.int .u64 (n1 : Int), .int .u64 (n2 : Int)] 52 (0, 0)) := by rw [← hY]; exact (Below.heap_alloc (X2.alloc _) _ _ (by simp)).trans (heap_alloc_new X2 _)
 have hxI : Y.heap[X2.heap.size + 1]? = some (.cells #[.slice (some ⟨w.heap.size, 0, none⟩) 1 1, .slice (some ⟨X2.heap.size, 0, none⟩) 2 2] 37 (0, 0)) := by
  rw [← hY]
  have := heap_alloc_new (X2.alloc (.cells #[.int .u64 (n1 : Int), .int .u64 (n2 : Int)] 52)) (.cells #[.slice (some ⟨w.heap.size, 0, none⟩) 1 1, .slice (some ⟨X2.heap.size, 0, none⟩) 2 2] 37)
  rwa [World.size_alloc] at this
 have h0Y : Below F0.heap.size F0 Y := bl_trans HX1.out HX1.out.size (bl_trans HX2.out HX2.out.size h2Y)
 have hwY : Below w.heap.size w Y := bl_trans HBF.out HBF.out.size h0Y
 have hxF := (h0Y.block _ (heap_lt HXF.out)).trans HXF.out
 have hF : XMf (InH Y) Y (.slice (some ⟨w.heap.size, 0, none⟩) iOne.funs.length 1) iOne.funs := by
  rw [HIO.out]
  exact ⟨_, _, rfl, fun _ => ⟨w.heap.size, 0, rfl, heap_lt hxF, fun j u hu => by rw [Nat.zero_add, cell_of_blk hxF, List.getElem?_toArray]; exact hu⟩⟩
 have hWd : XRow (InH Y) Y (.slice (some ⟨X2.heap.size, 0, none⟩) iOne.words.length 2) iOne.words.length (wosV iOne.words) := by
  rw [HIO.out]
  exact ⟨_, _, rfl, fun _ => ⟨X2.heap.size, 0, rfl, heap_lt hxW, fun j u hu => by rw [Nat.zero_add, cell_of_blk hxW, List.getElem?_toArray]; exact hu⟩⟩
 have hrun := mrun_any (HS.out.below hwY) (HT.out.below hwY) iOne (by rw [HIO.out]; intro f hf; simp only [List.mem_singleton] at hf; subst hf; decide) (by rw [HIO.out]; intro v hv; simp only [List.mem_cons, List.not_mem_nil, or_false] at hv; rcases hv with rfl | rfl; exact HW12.out.1; exact HW12.out.2) (by rw [HIO.out]; exact (by decide : (1 : Nat) ≤ 100000)) (by rw [HIO.out]; exact (by decide : (2 : Nat) ≤ 100000)) _ _ 1 2 hF hWd [102] [] none 0 ⟨_, _, rfl, fun h => absurd rfl h⟩ 5 one_run
 have HRUN := hidX hrun
 have HWY := hidX hwY
 have i0 : Y.cell? ⟨X2.heap.size + 1, 0, none⟩ = _ := cell_of_blk hxI 0
 have i1 : Y.cell? ⟨X2.heap.size + 1, 1, none⟩ = _ := cell_of_blk hxI 1
 clear h2Y hxW hxI h0Y hwY hxF hF hWd hrun
 go_wp2_with fail
 refine HRUN.out.mono ?_
 rintro e Z ⟨hbZ, how, v, ov, g, rfl, hown, hol, hend⟩
 obtain ⟨rfl, rfl, rfl⟩ := one_how hend
 obtain ⟨ad, c, rfl⟩ := own_is hown
 have HZ := hidX (bl_trans HWY.out HWY.out.size hbZ)
 have hrow : XRow (InH Z) Z (.slice ad ([] : List Int).length c) ([] : List Int).length (intsG []) := ⟨_, _, rfl, fun h => absurd rfl h⟩
 have HSO := hidX (show ∀ V : World, _ from fun V => sameOut_m hDone 7 1 [] (by decide) V ad none c 0 ⟨_, _, rfl, fun h => absurd rfl h⟩ ⟨_, _, rfl, fun h => absurd rfl h⟩)
 clear hbZ hown hol hend hrow i0 i1 HRUN
 go_wp2_with fail
 refine (HSO.out _).mono ?_
 rintro e V ⟨rfl, hbV⟩
 have HV := hidX (bl_trans (show Below w.heap.size w _ from HZ.out.alloc HZ.out.size _) (by simp; have := HZ.out.size; omega) hbV)
 clear hbV
 go_wp2
 go_ret
 exact ⟨rfl, HV.out⟩
end Go.Proofs.YtbcpomdcmilpjaaDoor
