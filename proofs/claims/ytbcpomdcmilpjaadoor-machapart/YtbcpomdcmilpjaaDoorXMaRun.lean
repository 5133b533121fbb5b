/- Our own: texts joined: MaRun. -/
import Derived.Test.YtbcpomdcmilpjaaDoorXRunBM
import Derived.Test.YtbcpomdcmilpjaaDoorXMaGo
import Derived.Test.YtbcpomdcmilpjaaDoorXUntM
import Derived.Laws.CopyOwn
namespace Go.Proofs.YtbcpomdcmilpjaaDoor
open Go.RowKit
def EndM (I : Im) (most : Nat) (S : Sm) (how : List UInt8) (v : Int) (g : Gm) : Prop :=
 (∃ n, itM I most n S = .halt how v g) ∨ (how = hStuck ∧ v = 0 ∧ ∃ g1 f1 fs1, itM I most 100000000 S = .run g1 f1 fs1)
def four (l : List Int) : List Int := l ++ zeros (4 - l.length)
def startM (I : Im) (nm : List UInt8) (args : List Int) (most : Nat) : Sm := enterM I most ⟨[], 0⟩ [] (whichM I.funs nm) (four args) 0
theorem own_slice {B n size : Nat} {t : TypeId} {w : World} {v : Value} {xs : List Value} (h : w.ownsRow B t size v n xs) : ∃ ad l c, v = .slice ad l c := by
 rcases h with ⟨h1, h2 | ⟨g, cap, cur, h3, h4⟩⟩
 ·exact ⟨_, _, _, h2.1⟩
 ·exact ⟨_, _, _, h3⟩
theorem four_len {l : List Int} (h : l.length ≤ 4) : (four l).length = 4 := by simp [four, zeros]; omega
theorem splice_four {l : List Int} (h : l.length ≤ 4) : splice [.int .i64 0, .int .i64 0, .int .i64 0, .int .i64 0] 0 (intsG l) = intsG (four l) := by
 match l, h with
 | [], _ => rfl
 | [_], _ => rfl
 | [_, _], _ => rfl
 | [_, _, _], _ => rfl
 | [_, _, _, _], _ => rfl
 | _ :: _ :: _ :: _ :: _ :: _, h => exact absurd h (by simp)
theorem runF_good {I : Im} {nm : List UInt8} {na : Nat} {ticks : Int} (h : (runF I nm na ticks).1 = 0) : (imF I).1 = 0 ∧ ¬ whichM I.funs nm < 0 ∧ (funAt I (whichM I.funs nm)).params = (na : Int) ∧ 0 ≤ ticks ∧ ticks ≤ 5000 := by
 unfold runF at h
 split at h
 ·next c => exact absurd h c
 ·next c =>
  split at h
  ·exact absurd h (by decide)
  ·next d =>
   split at h
   ·exact absurd h (by decide)
   ·next d2 =>
    split at h
    ·exact absurd h (by decide)
    ·next d3 => exact ⟨by omega, d, by simpa using d2, by omega, by omega⟩
set_option maxRecDepth 100000 in
set_option maxHeartbeats 8000000 in
theorem mrun_any {w : World} {a : Nat → Addr} (hS : SenM w a) (hT : TabC w) (I : Im) (hnl : ∀ f ∈ I.funs, f.name.length ≤ 4000) (hwv : ∀ v ∈ I.words, v < 18446744073709551616) (hfl : I.funs.length ≤ 100000) (hwl : I.words.length ≤ 100000) (adf adw : Option Addr) (cf cw : Nat) (hF : XMf (InH w) w (.slice adf I.funs.length cf) I.funs) (hW : XRow (InH w) w (.slice adw I.words.length cw) I.words.length (wosV I.words)) (nm : List UInt8) (args : List Int) (aad : Option Addr) (ac : Nat) (hargs : XRow (InH w) w (.slice aad args.length ac) args.length (intsG args)) (ticks : Int) (hgood : (runF I nm args.length ticks).1 = 0) :
  Calls Tryd.prog 11 #[.agg #[.slice adf I.funs.length cf, .slice adw I.words.length cw], .string ⟨nm.toArray⟩, .slice aad args.length ac, .int .i64 ticks] w fun e w' => Below w.heap.size w w' ∧ ∃ how v ov g, e = .returned (.tuple #[.agg #[.string ⟨(how : List UInt8).toArray⟩, .int .i64 v, ov, .int .i64 (g.ticks : Int)], .nilIface]) ∧ w'.ownsRow w.heap.size 3 1 ov g.out.length (intsG g.out) ∧ g.out.length ≤ 1000 ∧ EndM I ticks.toNat (startM I nm args ticks.toNat) how v g := by
 obtain ⟨hi0, hk, hpar, ht0, ht1⟩ := runF_good hgood
 have hWell := well_of hi0
 obtain ⟨n, hn, hnl2⟩ := which_lt hk
 obtain ⟨W0, hW0⟩ : ∃ W0, W0 = ((w.alloc (.cells #[.slice adf I.funs.length cf, .slice adw I.words.length cw] 37)).alloc (.cells #[.string ⟨nm.toArray⟩] 9)).alloc (.cells #[.string ⟨#[]⟩, .int .i64 0, .slice none 0 0, .int .i64 0] 40) := ⟨_, rfl⟩
 have hb0 : Below w.heap.size w W0 := by rw [hW0]; (repeat (first | exact Below.refl _ _ | assumption | refine Below.drew ?_ | refine bT ?_ _ | refine bS ?_ _ | refine bA ?_ _))
 have hR0 : RuJ w W0 nm (.slice adf I.funs.length cf) (.slice adw I.words.length cw) := ⟨hb0, by rw [hW0]; exact (three_allocM w _ _ _).1, by rw [hW0]; exact (three_allocM w _ _ _).2.1, by rw [hW0]; exact (three_allocM w _ _ _).2.2⟩
 have hfl' : (I.funs.length : Int) ≤ 100000 := by omega
 have HCK := hidX (emCheck_any (hS.below hb0) (hT.below hb0) I hnl hwv hfl hwl adf adw cf cw (hF.imp (inH_up hb0) (keepH hb0)) (hW.imp (inH_up hb0) (keepH hb0)))
 have d0 : W0.cell? ⟨w.heap.size, 0, none⟩ = some (.slice adf I.funs.length cf) := cell_of_blk hR0.img 0
 have d1 : W0.cell? ⟨w.heap.size, 1, none⟩ = some (.slice adw I.words.length cw) := cell_of_blk hR0.img 1
 have HR0 := hidX hR0
 have HS := hidX hS
 have HT := hidX hT
 have HF := hidX hF
 have hz0 : W0.heap.size = w.heap.size + 3 := by rw [hW0]; simp
 rw [hW0] at d0 d1
 have HWV := hidX hwv
 have HW := hidX hW
 have HAR := hidX hargs
 clear hb0 hR0 hS hT hnl hwv hF hW hgood hargs
 go_enter Tryd.func11, Tryd.ntmps11
 go_wp2_with fail
 rw [← hW0]
 clear hW0 d0 d1
 refine HCK.out.mono ?_
 intro e W1 hft
 obtain ⟨v, rfl, hft2⟩ := ft_val hft
 have HFT := hidX hft2
 have HR1 := hidX (HR0.out.below hft2.1)
 have hc := ft_codeM hft2
 have o0 := cell_of_blk HR1.out.out 0
 have o1 := cell_of_blk HR1.out.out 1
 have o2 := cell_of_blk HR1.out.out 2
 have o3 := cell_of_blk HR1.out.out 3
 have f0 := free_of_blk HR1.out.out 0
 have f1 := free_of_blk HR1.out.out 1
 have f2 := free_of_blk HR1.out.out 2
 have f3 := free_of_blk HR1.out.out 3
 clear hft hft2 HCK
 have hv : v = .nilIface := by
  rcases hc with ⟨_, h⟩ | ⟨h, _⟩
  ·exact h
  ·exact absurd hi0 h
 subst hv
 have HB1 := hidX (bl_trans HR0.out.low HR0.out.low.size HFT.out.1)
 have HIX := hidX (index_anyM nm (w := W1) ⟨w.heap.size + 1, 0, none⟩ (cell_of_blk HR1.out.name 0) I.funs hfl adf cf (HF.out.imp (inH_up HB1.out) (keepH HB1.out)))
 have d0 : W1.cell? ⟨w.heap.size, 0, none⟩ = some (.slice adf I.funs.length cf) := cell_of_blk HR1.out.img 0
 clear hc HFT o0 o1 o2 o3 f0 f1 f2 f3
 go_wp2_with fail
 refine HIX.out.mono ?_
 rintro e W2 ⟨rfl, hb2⟩
 have HR2 := hidX (HR1.out.below hb2)
 have d0 : W2.cell? ⟨w.heap.size, 0, none⟩ = some (.slice adf I.funs.length cf) := cell_of_blk HR2.out.img 0
 clear hb2 HIX HR1 HB1 HR0
 have hfn : funAt I (n : Int) = I.funs[n] := by simp [funAt, hnl2]
 obtain ⟨gf, off, rfl, hgf, k0, k1, k2, k3⟩ := HF.out.at hnl2
 replace k1 := (HR2.out.low.cell (p := ⟨gf, _, none⟩) hgf).trans k1
 have hnl' : (n : Int) < (I.funs.length : Int) := by omega
 rw [hn] at hpar
 rw [hfn] at hpar
 rw [hpar] at k1
 rw [hn]
 obtain ⟨most, rfl⟩ : ∃ m : Nat, ticks = (m : Int) := ⟨ticks.toNat, by omega⟩
 have HD := hidX (show ∀ X : World, Below W2.heap.size W2 X → X.cell? ⟨w.heap.size, 0, none⟩ = some (.slice (some ⟨gf, off, none⟩) I.funs.length cf) ∧ X.cell? ⟨w.heap.size, 1, none⟩ = some (.slice adw I.words.length cw) from fun X hX => ⟨cell_of_blk (HR2.out.below hX).img 0, cell_of_blk (HR2.out.below hX).img 1⟩)
 have HRA := hidX (show ∀ X : World, Below W2.heap.size W2 X → _ from fun X hX => readAll_any (HS.out.below (HR2.out.below hX).low) (HT.out.below (HR2.out.below hX).low) I.words HWV.out hWell.wl adw cw (HW.out.imp (inH_up (HR2.out.below hX).low) (keepH (HR2.out.below hX).low)))
 have HWE := hidX hWell
 have hal : args.length ≤ 4 := by
  have := (hWell.funs _ (List.getElem_mem hnl2)).params.2
  rw [hpar] at this
  omega
 obtain ⟨a0, a1, a2, a3, h4⟩ := four_list (four_len hal)
 have hsp := splice_four hal
 rw [h4] at hsp
 have hst : startM I nm args ((most : Nat) : Int).toNat = enterM I most ⟨[], 0⟩ [] (n : Int) [a0, a1, a2, a3] 0 := by unfold startM; rw [hn, h4, Int.toNat_natCast]
 have HST := hidX hst
 have HSP := hidX hsp
 clear hpar hfn hi0 hk hWell k0 k2 k3 h4 hsp hst
 go_wp2_with fail
 refine wp_region_V (fun W => W.cell? ⟨w.heap.size, 0, none⟩ = some (.slice (some ⟨gf, off, none⟩) I.funs.length cf) ∧ W.cell? ⟨w.heap.size, 1, none⟩ = some (.slice adw I.words.length cw)) 8 (by kernel_rfl) (HD.out _ (by (repeat (first | exact Below.refl _ _ | assumption | refine Below.drew ?_ | refine bT ?_ _ | refine bS ?_ _ | refine bA ?_ _)))) (fun hHeld => ?_)
 refine wpAnyV_put 0 (some 52) (v := ?v0) rfl rfl (by kernel_rfl) (by kernel_rfl) (by kernel_rfl) (by kernel_rfl) (by kernel_rfl) (fun _ _ _ h => h) (Or.inl ⟨by rfl, ?hy0⟩) hHeld ?rest0
 case hy0 => (intro w2 hSw; (try dsimp only at hSw); first | (go_simp; done) | (go_simp; with_reducible rfl))
 simp only [Act.put, List.setIfInBounds_toArray, List.set_cons_zero, List.set_cons_succ]
 refine wpAnyV_put 1 (some 53) (v := ?v1) rfl rfl (by kernel_rfl) (by kernel_rfl) (by kernel_rfl) (by kernel_rfl) (by kernel_rfl) (fun _ _ _ h => h) (Or.inl ⟨by rfl, ?hy1⟩) hHeld ?rest1
 case hy1 => (intro w2 hSw; (try dsimp only at hSw); first | (go_simp; done) | (go_simp; with_reducible rfl))
 simp only [Act.put, List.setIfInBounds_toArray, List.set_cons_zero, List.set_cons_succ]
 refine wpAnyV_put 2 (some 54) (v := ?v2) rfl rfl (by kernel_rfl) (by kernel_rfl) (by kernel_rfl) (by kernel_rfl) (by kernel_rfl) (fun _ _ _ h => h) (Or.inl ⟨by rfl, ?hy2⟩) hHeld ?rest2
 case hy2 => (intro w2 hSw; (try dsimp only at hSw); first | (go_simp; done) | (go_simp; with_reducible rfl))
 simp only [Act.put, List.setIfInBounds_toArray, List.set_cons_zero, List.set_cons_succ]
 refine wpAnyV_put 3 (some 55) (v := ?v3) rfl rfl (by kernel_rfl) (by kernel_rfl) (by kernel_rfl) (by kernel_rfl) (by kernel_rfl) (fun _ _ _ h => h) (Or.inl ⟨by rfl, ?hy3⟩) hHeld ?rest3
 case hy3 => (intro w2 hSw; (try dsimp only at hSw); first | (go_simp; done) | (go_simp; with_reducible rfl))
 simp only [Act.put, List.setIfInBounds_toArray, List.set_cons_zero, List.set_cons_succ]
 refine wpAnyV_put 5 (some 57) (v := ?v5) rfl rfl (by kernel_rfl) (by kernel_rfl) (by kernel_rfl) (by kernel_rfl) (by kernel_rfl) (fun _ _ _ h => h) (Or.inl ⟨by rfl, ?hy5⟩) hHeld ?rest5
 case hy5 => (intro w2 hSw; (try dsimp only at hSw); first | (go_simp; done) | (go_simp; with_reducible rfl))
 simp only [Act.put, List.setIfInBounds_toArray, List.set_cons_zero, List.set_cons_succ]
 refine wpAnyV_one (i := 4) (by kernel_rfl) rfl (fun K4 hK4 => ?_)
 go_simp
 refine (HRA.out _ (by (repeat (first | exact Below.refl _ _ | assumption | refine Below.drew ?_ | refine bT ?_ _ | refine bS ?_ _ | refine bA ?_ _)))).mono ?_
 rintro e X ⟨b, rfl, hbX, hlb, hbs, hxw⟩
 have hbX : Below W2.heap.size W2 X := (show Below W2.heap.size W2 W2.drew by (repeat (first | exact Below.refl _ _ | assumption | refine Below.drew ?_ | refine bT ?_ _ | refine bS ?_ _ | refine bA ?_ _))).trans hbX
 replace hHeld := HD.out X hbX
 have HBX := hidX hbX
 have HXW := hidX hxw
 clear hbX hxw
 refine hK4.out _ _ (fun _ => hHeld) (fun _ => ?_)
 clear hK4 K4
 try simp only [Act.put, List.setIfInBounds_toArray, List.set_cons_zero, List.set_cons_succ]
 refine wpAnyV_put 6 (some 58) (v := ?v6) rfl rfl (by kernel_rfl) (by kernel_rfl) (by kernel_rfl) (by kernel_rfl) (by kernel_rfl) (fun _ _ _ h => h) (Or.inl ⟨by rfl, ?hy6⟩) hHeld ?rest6
 case hy6 => (intro w2 hSw; (try dsimp only at hSw); first | (go_simp; done) | (go_simp; with_reducible rfl))
 simp only [Act.put, List.setIfInBounds_toArray, List.set_cons_zero, List.set_cons_succ]
 refine wpAnyV_one (i := 7) (by kernel_rfl) rfl (fun K7 hK7 => ?_)
 go_simp
 obtain ⟨Y, hY⟩ : ∃ Y, Y = X.alloc (.cells #[.string ⟨#[]⟩, .int .i64 0, .slice none 0 0, .int .i64 0, .slice (some ⟨gf, off, none⟩) I.funs.length cf, .slice (some ⟨b, 0, none⟩) I.words.length I.words.length, .int .i64 (most : Int), .int .i64 0, .int .i64 0] 66) := ⟨_, rfl⟩
 have hbY : Below X.heap.size X Y := by rw [hY]; (repeat (first | exact Below.refl _ _ | assumption | refine Below.drew ?_ | refine bT ?_ _ | refine bS ?_ _ | refine bA ?_ _))
 have hxY : Y.heap[X.heap.size]? = some (.cells #[.string ⟨#[]⟩, .int .i64 0, .slice none 0 0, .int .i64 0, .slice (some ⟨gf, off, none⟩) I.funs.length cf, .slice (some ⟨b, 0, none⟩) I.words.length I.words.length, .int .i64 (most : Int), .int .i64 0, .int .i64 0] 66 (0, 0)) := by rw [hY]; exact heap_alloc_new _ _
 have hzY : Y.heap.size = X.heap.size + 1 := by rw [hY]; simp
 have hXY : Below W2.heap.size W2 Y := bl_trans HBX.out HBX.out.size hbY
 rw [← hY]
 refine hK7.out _ _ (fun _ => HD.out Y hXY) (fun _ => ?_)
 clear hK7 K7 hY
 try simp only [Act.put, List.setIfInBounds_toArray, List.set_cons_zero, List.set_cons_succ]
 refine wpAnyV_one (i := 8) (by kernel_rfl) rfl (fun K8 hK8 => ?_)
 go_simp
 refine hK8.out _ _ (fun h => absurd rfl h) (fun _ => ?_)
 clear hK8 K8 hHeld
 refine wpAnyV_done (by kernel_rfl) ?_ _
 have HRY := hidX (HR2.out.below hXY)
 have hMM : MM Y X.heap.size X.heap.size (.slice (some ⟨gf, off, none⟩) I.funs.length cf) (.slice (some ⟨b, 0, none⟩) I.words.length I.words.length) (.slice none 0 0) I [] ⟨[], 0⟩ most 0 0 :=
  ⟨Nat.le_refl _, hxY, HF.out.imp (fun c hc => by have h : c < w.heap.size := hc; have := HR2.out.low.size; have := HBX.out.size; omega) (fun c hc => HRY.out.low.block c hc), HXW.out.imp (fun c hc => by have h : c = b := hc; omega) (fun c hc => by have h : c = b := hc; subst h; exact hbY.block _ hbs), World.ownsRow_nil _ _ _ _, (fun h => by simp [Value.ownBlock] at h), Nat.zero_le _, by omega, by simp, by decide, by omega⟩
 have HMM := hidX hMM
 have hXs : w.heap.size + 3 ≤ X.heap.size := by have := heap_lt HR2.out.out; have := HBX.out.size; omega
 have HRW := hidX (HAR.out.imp (inH_up HRY.out.low) (keepH HRY.out.low))
 clear hbY hxY hXY hMM HR2 HXW HBX HD HRA d0 k1
 obtain ⟨Y1, hY1⟩ : ∃ Y1, Y.alloc (.cells #[.int .i64 0, .int .i64 0, .int .i64 0, .int .i64 0] 67) = Y1 := ⟨_, rfl⟩
 have HBO := hidX (show Below Y.heap.size Y Y1 by rw [← hY1]; (repeat (first | exact Below.refl _ _ | assumption | refine Below.drew ?_ | refine bT ?_ _ | refine bS ?_ _ | refine bA ?_ _)))
 have HOB := hidX (show Y1.heap[X.heap.size + 1]? = some (.cells [.int .i64 0, .int .i64 0, .int .i64 0, .int .i64 0].toArray 67 (0, 0)) by rw [← hY1, ← hzY]; exact heap_alloc_new _ _)
 have HCN := hidX (show (intsG args).length = Nat.min args.length 4 by rw [intsG_len]; exact (Nat.min_eq_left hal).symm)
 have HPOS := hidX (show 0 < (intsG args).length → some (Addr.mk (X.heap.size + 1) 0 none) = some ⟨X.heap.size + 1, 0, none⟩ ∧ ∃ ad, aad = some ad ∧ ∀ j v, (intsG args)[j]? = some v → Y1.cell? (ad.add j) = some v from fun h => by
  rw [intsG_len] at h
  obtain ⟨g, off, eb, hgb, hgl, hc⟩ := HRW.out.get (by omega)
  exact ⟨rfl, _, eb, fun j v hj => (by
   have e : (Addr.mk g off none).add j = ⟨g, off + j, none⟩ := by unfold Addr.add; (split <;> simp_all)
   rw [e]
   exact (HBO.out.cell (p := ⟨g, off + j, none⟩) hgl).trans (hc j v hj))⟩)
 have HFIT := hidX (show 0 + (intsG args).length ≤ [Value.int .i64 0, .int .i64 0, .int .i64 0, .int .i64 0].length by rw [intsG_len]; simp; omega)
 have HONE := hidX (show ∀ v ∈ intsG args, v.oneCell' = true from fun v hv => by
  obtain ⟨x, _, rfl⟩ := List.mem_map.1 hv
  rfl)
 have hYl : Y.heap.size ≤ X.heap.size + 1 := by omega
 have HYL := hidX hYl
 clear hYl
 go_upto_region 13 with fail
 go_wp2_with (show Go.wpList _ _ _ (Oper.mk (some 62) _ _ _ _ _ :: _) _ _; refine wpList_copy_splice rfl (.tmp 60) (.tmp 61) 26 26 rfl 3 Tryd.underlying26 (by kernel_rfl) (some ⟨X.heap.size + 1, 0, none⟩) aad 4 4 args.length ac rfl rfl (X.heap.size + 1) 0 [.int .i64 0, .int .i64 0, .int .i64 0, .int .i64 0] 67 HOB.out (intsG args) HCN.out HPOS.out HFIT.out HONE.out Y.heap.size Y HBO.out HYL.out ?_; intro Y2 HG2 hB2; have HB2 := hidX hB2; clear hB2; have c0 : Y2.cell? ⟨X.heap.size + 1, 0, none⟩ = some (.int .i64 a0) := (cell_of_blk HG2.out 0).trans (by rw [HSP.out]; rfl); have c1 : Y2.cell? ⟨X.heap.size + 1, 1, none⟩ = some (.int .i64 a1) := (cell_of_blk HG2.out 1).trans (by rw [HSP.out]; rfl); have c2 : Y2.cell? ⟨X.heap.size + 1, 2, none⟩ = some (.int .i64 a2) := (cell_of_blk HG2.out 2).trans (by rw [HSP.out]; rfl); have c3 : Y2.cell? ⟨X.heap.size + 1, 3, none⟩ = some (.int .i64 a3) := (cell_of_blk HG2.out 3).trans (by rw [HSP.out]; rfl))
 refine (call_any most HWE.out 40 [] (by simp) Y2 X.heap.size X.heap.size _ _ _ ⟨[], 0⟩ 0 (n : Int) [a0, a1, a2, a3] 0 (HMM.out.below HB2.out) (by omega) (by omega) rfl).mono ?_
 rintro e Z ⟨hfr, k, ov', g', hrow, hres⟩
 have hlow2 : Below w.heap.size w Y2 := bl_trans HRY.out.low HRY.out.low.size HB2.out
 have hlow : Below w.heap.size w Z := hlow2.trans ⟨hfr.os, hfr.tape, hfr.output, hfr.size, fun c hc => hfr.block c (Nat.lt_of_lt_of_le hc hlow2.size) (by
  rintro (e | e)
  ·omega
  ·simp [Value.ownBlock] at e)⟩
 have hyo : Y2.heap[w.heap.size + 1 + 1]? = some (.cells #[.string ⟨#[]⟩, .int .i64 0, .slice none 0 0, .int .i64 0] 40 (0, 0)) := (HRY.out.below HB2.out).out
 have hzo : Z.heap[w.heap.size + 1 + 1]? = some (.cells #[.string ⟨#[]⟩, .int .i64 0, .slice none 0 0, .int .i64 0] 40 (0, 0)) := (hfr.block _ (heap_lt hyo) (by
  rintro (e | e)
  ·omega
  ·simp [Value.ownBlock] at e)).trans hyo
 have o0 := cell_of_blk hzo 0
 have o1 := cell_of_blk hzo 1
 have o2 := cell_of_blk hzo 2
 have o3 := cell_of_blk hzo 3
 have f0 := free_of_blk hzo 0
 have f1 := free_of_blk hzo 1
 have f2 := free_of_blk hzo 2
 have f3 := free_of_blk hzo 3
 have HLW := hidX hlow
 have HZO := hidX hzo
 clear hfr hlow2 hlow hyo hzo c0 c1 c2 c3 HG2 HB2 HRY HMM HRW HOB HCN HPOS HFIT HONE HYL HBO hY1 hrow HSP
 obtain ⟨ad, l, c, rfl⟩ : ∃ ad l c, ov' = .slice ad l c := by
  rcases hres with ⟨v, hit, rfl, hmm⟩ | ⟨how, rfl, hmm, hstop⟩
  ·exact own_slice hmm.own
  ·exact own_slice hmm.own
 rcases hres with ⟨v, hit, rfl, hmm⟩ | ⟨how, rfl, hmm, hstop⟩
 ·have m0 := cell_of_blk hmm.blk 0
  have m1 := cell_of_blk hmm.blk 1
  have m2 := cell_of_blk hmm.blk 2
  have m3 := cell_of_blk hmm.blk 3
  have n0 := free_of_blk hmm.blk 0
  have n1 := free_of_blk hmm.blk 1
  have HM := hidX hmm
  have HIT := hidX hit
  clear hmm hit
  go_wp2
  refine ret_row_tmp (w.heap.size + 1 + 1) 9 8 _ 40 _ rfl rfl rfl (set4_blkM (((Below.heap_setCell _ _ _ _ (show w.heap.size + 1 + 1 ≠ X.heap.size by omega)).trans (Below.heap_setCell _ _ _ _ (show w.heap.size + 1 + 1 ≠ X.heap.size by omega))).trans HZO.out) _ _ _ _) Tryd.underlying40 (by kernel_rfl) ?_
  refine ⟨set4_lowM ((HLW.out.setCell (show w.heap.size ≤ X.heap.size by omega) _).setCell (show w.heap.size ≤ X.heap.size by omega) _) (by omega) _ _ _ _, hDone, v, _, g', rfl, ?_, HM.out.ol, Or.inl ⟨k, by rw [HST.out, Int.toNat_natCast]; exact HIT.out⟩⟩
  refine own_same (own_base HM.out.own (by omega)) (fun c hc => ?_)
  have hcl := (HM.out.own.lt c hc).1
  have hcm : c ≠ X.heap.size := fun h => HM.out.n1 (h ▸ hc)
  exact (set4_othM (by omega) _ _ _ _).trans ((Below.heap_setCell _ _ _ _ (show c ≠ X.heap.size from hcm)).trans (Below.heap_setCell _ _ _ _ (show c ≠ X.heap.size from hcm)))
 ·have m0 := cell_of_blk hmm.blk 0
  have m1 := cell_of_blk hmm.blk 1
  have m2 := cell_of_blk hmm.blk 2
  have m3 := cell_of_blk hmm.blk 3
  have HM := hidX hmm
  have HIT := hidX hstop
  clear hmm hstop
  go_wp2
  refine ret_row_tmp (w.heap.size + 1 + 1) 9 8 _ 40 _ rfl rfl rfl (set4_blkM HZO.out _ _ _ _) Tryd.underlying40 (by kernel_rfl) ?_
  refine ⟨set4_lowM HLW.out (by omega) _ _ _ _, how, 0, _, g', rfl, ?_, HM.out.ol, ?_⟩
  ·refine own_same (own_base HM.out.own (by omega)) (fun c hc => ?_)
   have hcl := (HM.out.own.lt c hc).1
   exact set4_othM (by omega) _ _ _ _
  ·rw [HST.out, Int.toNat_natCast]
   rcases HIT.out with ⟨m, h⟩ | ⟨h1, h2, h3⟩
   ·exact Or.inl ⟨m, h⟩
   ·exact Or.inr ⟨h1, rfl, by rw [show (100000000 : Nat) = k by omega]; exact h3⟩
end Go.Proofs.YtbcpomdcmilpjaaDoor
