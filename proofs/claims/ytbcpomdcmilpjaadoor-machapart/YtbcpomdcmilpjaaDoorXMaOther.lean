/- Our own: texts joined: MaOther. -/
import Derived.Test.YtbcpomdcmilpjaaDoorXCallM
import Derived.Test.YtbcpomdcmilpjaaDoorXDoBC
import Derived.Deep.RegionHeld3
namespace Go.Proofs.YtbcpomdcmilpjaaDoor
open Go.RowKit
section
variable {w : World} {B mb fb sb wb wo : Nat} {fv wv ov : Value} {I : Im} {g : Gm} {most t : Nat} {f : Fm} {i : Ci} {fs : List Fm}
set_option maxRecDepth 100000 in
set_option maxHeartbeats 8000000 in
theorem other_any (hC : CallC I most ({ f with next := zeros 4 } :: fs)) (h : MM w B mb fv wv ov I [] g most (fs.length + 1) t) (hf : FM w B mb fb sb f) (hof : ov.ownBlock ≠ some fb) (hos : ov.ownBlock ≠ some sb) (hw : WordAt w wb wo i) (hwB : wb < B) (hi : OkI i) (hk : i.op = mCall) (hm : 0 ≤ i.imm ∧ i.imm < (I.funs.length : Int)) (hfl : I.funs.length ≤ 8) :
  Calls Tryd.prog 62 #[.pointer (some ⟨fb, 0, none⟩), .pointer (some ⟨wb, wo, none⟩)] w (DoTo w B mb fb sb fv wv ov I most (fs.length + 1) t f fs (doM I most g f fs i)) := by
 obtain ⟨op, D, a, b, imm⟩ := i
 have hk : op = _ := hk
 subst hk
 obtain ⟨D, rfl⟩ : ∃ n : Nat, D = (n : Int) := ⟨D.toNat, by have := hi.d; simp only at this; omega⟩
 have hD : D < 8 := by have := hi.d; simp only at this; omega
 have hD' : (D : Int) < 8 := by omega
 obtain ⟨m, rfl⟩ : ∃ n : Nat, imm = (n : Int) := ⟨imm.toNat, by have := hm.1; simp only at this; omega⟩
 have hml : m < I.funs.length := by have := hm.2; simp only at this; omega
 have q1 : w.cell? ⟨wb, wo + 1, none⟩ = some (.int .i64 (D : Int)) := hw.d
 have q3 : w.cell? ⟨wb, wo + 3, none⟩ = some (.int .i64 b) := hw.b
 have q4 : w.cell? ⟨wb, wo + 4, none⟩ = some (.int .i64 (m : Int)) := hw.imm
 have p0 := hf.ptr
 obtain ⟨adf, cf, rfl⟩ := h.fs.is
 obtain ⟨gf, off, rfl, hgf, k0, k1, k2, k3⟩ := h.fs.at hml
 have c4 : w.cell? ⟨mb, 4, none⟩ = some (.slice (some ⟨gf, off, none⟩) I.funs.length cf) := cell_of_blk h.blk 4
 have hfn : funAt I (m : Int) = I.funs[m] := by simp [funAt, hml]
 have hS := hidX (show doM I most g f fs ⟨mCall, (D : Int), a, b, (m : Int)⟩ = if b = I.funs[m].params then enterM I most g ({ f with next := zeros 4 } :: fs) (m : Int) f.next D else .halt hStuck 0 g from by rw [← hfn]; rfl)
 have hfl' : (I.funs.length : Int) ≤ 8 := by omega
 have hml' : (m : Int) < (I.funs.length : Int) := by omega
 have HM := hidX h
 have HF := hidX hf
 have HO := hidX hof
 have HOS := hidX hos
 generalize I.funs[m] = F at *
 generalize hfln : I.funs.length = fl at *
 generalize hSS : doM I most g f fs ⟨mCall, (D : Int), a, b, (m : Int)⟩ = S at *
 clear hSS k0 k2 k3 hi hm hfn
 by_cases hb : b = F.params
 ·have hb' : (b != F.params) = false := by simp [hb]
  have HE := hidX (hS.out.trans (if_pos hb))
  obtain ⟨n0, n1, n2, n3, hnx⟩ := four_list hf.nl
  have e0 : w.cell? ⟨fb, 13, none⟩ = some (.int .i64 n0) := by have := fmL_next (mb := mb) (sv := .slice (some ⟨sb, 0, none⟩) f.slots.length f.slots.length) hf.rl hf.al hf.nl (k := 0) (by omega); rw [cell_of_blk hf.blk, List.getElem?_toArray, this, hnx]; rfl
  have e1 : w.cell? ⟨fb, 14, none⟩ = some (.int .i64 n1) := by have := fmL_next (mb := mb) (sv := .slice (some ⟨sb, 0, none⟩) f.slots.length f.slots.length) hf.rl hf.al hf.nl (k := 1) (by omega); rw [cell_of_blk hf.blk, List.getElem?_toArray, this, hnx]; rfl
  have e2 : w.cell? ⟨fb, 15, none⟩ = some (.int .i64 n2) := by have := fmL_next (mb := mb) (sv := .slice (some ⟨sb, 0, none⟩) f.slots.length f.slots.length) hf.rl hf.al hf.nl (k := 2) (by omega); rw [cell_of_blk hf.blk, List.getElem?_toArray, this, hnx]; rfl
  have e3 : w.cell? ⟨fb, 16, none⟩ = some (.int .i64 n3) := by have := fmL_next (mb := mb) (sv := .slice (some ⟨sb, 0, none⟩) f.slots.length f.slots.length) hf.rl hf.al hf.nl (k := 3) (by omega); rw [cell_of_blk hf.blk, List.getElem?_toArray, this, hnx]; rfl
  have hfbl := hf.flt
  have hwl := hw.lt
  have HCC := hidX hC
  clear h hf hof hos hw hS hb hC
  go_enter Tryd.func62, Tryd.ntmps62
  go_wp2_with fail
  go_quiet (fail)
  obtain ⟨X, hX⟩ : ∃ X, X = w.drewN nq := ⟨_, rfl⟩
  have hbX : Below w.heap.size w X := by rw [hX]; (repeat (first | exact Below.refl _ _ | assumption | refine Below.drew ?_ | refine bT ?_ _ | refine bS ?_ _ | refine bA ?_ _))
  have hzX : X.heap.size = w.heap.size := by rw [hX]; rfl
  rw [← hX]
  clear hX
  replace q1 := (hbX.cell (p := ⟨wb, _, none⟩) hwl).trans q1
  replace q4 := (hbX.cell (p := ⟨wb, _, none⟩) hwl).trans q4
  replace p0 := (hbX.cell (p := ⟨fb, _, none⟩) hfbl).trans p0
  replace e0 := (hbX.cell (p := ⟨fb, _, none⟩) hfbl).trans e0
  replace e1 := (hbX.cell (p := ⟨fb, _, none⟩) hfbl).trans e1
  replace e2 := (hbX.cell (p := ⟨fb, _, none⟩) hfbl).trans e2
  replace e3 := (hbX.cell (p := ⟨fb, _, none⟩) hfbl).trans e3
  have hFX := HF.out.below hbX
  have r0 := free_of_blk hFX.blk 13
  have r1 := free_of_blk hFX.blk 14
  have r2 := free_of_blk hFX.blk 15
  have r3 := free_of_blk hFX.blk 16
  have hfbX : fb < X.heap.size := by omega
  have hwlX : wb < X.heap.size := by omega
  obtain ⟨Z, hZ⟩ : ∃ Z, Z = (((X.setCell ⟨fb, 13, none⟩ (.int .i64 0)).setCell ⟨fb, 14, none⟩ (.int .i64 0)).setCell ⟨fb, 15, none⟩ (.int .i64 0)).setCell ⟨fb, 16, none⟩ (.int .i64 0) := ⟨_, rfl⟩
  have hn4 : (((f.next.set 0 0).set 1 0).set 2 0).set 3 0 = zeros 4 := by rw [hnx]; rfl
  have hFZ : FM Z B mb fb sb { f with next := zeros 4 } := by
   have := (((hFX.told (k := 0) (by omega) 0).told (k := 1) (by omega) 0).told (k := 2) (by omega) 0).told (k := 3) (by omega) 0
   rw [hZ, ← hn4]
   exact this
  have hothZ : ∀ c, c ≠ fb → Z.heap[c]? = X.heap[c]? := fun c hc => by
   rw [hZ]
   exact (((Below.heap_setCell _ _ _ _ (show c ≠ fb from hc)).trans (Below.heap_setCell _ _ _ _ (show c ≠ fb from hc))).trans (Below.heap_setCell _ _ _ _ (show c ≠ fb from hc))).trans (Below.heap_setCell _ _ _ _ (show c ≠ fb from hc))
  have hzZ : Z.heap.size = X.heap.size := by rw [hZ]; simp [World.setCell]
  have hos4 : Z.os = X.os ∧ Z.tape = X.tape ∧ Z.output = X.output := by rw [hZ]; exact ⟨rfl, rfl, rfl⟩
  have hfbB := HF.out.hp
  have hMZ := (HM.out.below hbX).stay (w' := Z) ⟨hos4.1, hos4.2.1, hos4.2.2, by omega, fun b hb => hothZ b (by omega)⟩ (hothZ mb HF.out.nm.symm) (fun b e => hothZ b (fun e' => HO.out (e' ▸ e)))
  obtain ⟨Y0, hY0⟩ : ∃ Y0, Y0 = Z.alloc (.cells #[.int .i64 n0, .int .i64 n1, .int .i64 n2, .int .i64 n3] 67) := ⟨_, rfl⟩
  have hbY : Below Z.heap.size Z Y0 := by rw [hY0]; (repeat (first | exact Below.refl _ _ | assumption | refine Below.drew ?_ | refine bT ?_ _ | refine bS ?_ _ | refine bA ?_ _))
  have hzY : Y0.heap.size = X.heap.size + 1 := by rw [hY0, ← hzZ]; simp
  have hxY : Y0.heap[X.heap.size]? = some (.cells #[.int .i64 n0, .int .i64 n1, .int .i64 n2, .int .i64 n3] 67 (0, 0)) := by rw [hY0, ← hzZ]; exact heap_alloc_new _ _
  have hFY := hFZ.below hbY
  have hMY := hMZ.below hbY
  have hfr : Fr (Sw mb fb sb ov.ownBlock) w Y0 := by
   refine (Fr.of (S := Sw mb fb sb ov.ownBlock) hbX).trans (T := Sw mb fb sb ov.ownBlock) (b := X) ?_ (fun _ _ h => h)
   exact ⟨hbY.os.trans hos4.1, hbY.tape.trans hos4.2.1, hbY.output.trans hos4.2.2, by omega, fun b hb hs => (hbY.block b (by omega)).trans (hothZ b (fun e => hs (Or.inr (Or.inl e))))⟩
  have HCALL := hidX (fun W (hb : Below Y0.heap.size Y0 W) => HCC.out W B mb _ wv ov g t (m : Int) f.next D (hMY.below hb) (by omega) (by rw [hfln]; exact hml') HF.out.nl)
  rw [hnx] at HCALL HE
  have q4Y : Y0.cell? ⟨wb, wo + 4, none⟩ = some (.int .i64 (m : Int)) := ((World.cell?_of_block (w := X) (a := ⟨wb, _, none⟩) ((hbY.block wb (by omega)).trans (hothZ wb (by omega)))).trans q4)
  have q1Y : Y0.cell? ⟨wb, wo + 1, none⟩ = some (.int .i64 (D : Int)) := ((World.cell?_of_block (w := X) (a := ⟨wb, _, none⟩) ((hbY.block wb (by omega)).trans (hothZ wb (by omega)))).trans q1)
  have hcs : ∀ W : World, W.heap[fb]? = Y0.heap[fb]? → W.heap[wb]? = Y0.heap[wb]? → W.heap[X.heap.size]? = Y0.heap[X.heap.size]? → W.cell? ⟨fb, 0, none⟩ = some (.pointer (some ⟨mb, 0, none⟩)) ∧ W.cell? ⟨wb, wo + 4, none⟩ = some (.int .i64 (m : Int)) ∧ W.cell? ⟨X.heap.size, 0, none⟩ = some (.int .i64 n0) ∧ W.cell? ⟨X.heap.size, 1, none⟩ = some (.int .i64 n1) ∧ W.cell? ⟨X.heap.size, 2, none⟩ = some (.int .i64 n2) ∧ W.cell? ⟨X.heap.size, 3, none⟩ = some (.int .i64 n3) := fun W w1 w2 w3 =>
   ⟨(World.cell?_of_block (w := Y0) (a := ⟨fb, _, none⟩) w1).trans hFY.ptr, (World.cell?_of_block (w := Y0) (a := ⟨wb, _, none⟩) w2).trans q4Y, cell_of_blk (w3.trans hxY) 0, cell_of_blk (w3.trans hxY) 1, cell_of_blk (w3.trans hxY) 2, cell_of_blk (w3.trans hxY) 3⟩
  have HCS := hidX hcs
  have HFY := hidX hFY
  have HMY := hidX hMY
  have HFR := hidX hfr
  have HZY := hidX hzY
  have HQ1 := hidX q1Y
  have HLT := hidX (And.intro hfbX (And.intro hwlX HF.out.slt))
  have HXW := hidX (show w.heap.size ≤ X.heap.size by omega)
  have HY0 := hidX hY0
  have HZZ := hidX hZ
  clear q3 c4 k1 hbX hFX hzX hFZ hMZ hothZ hzZ hos4 hbY hzY hxY hFY hMY hfr q4Y q1Y hcs hY0 hZ hn4 hnx
  go_wp2_with fail
  rw [← HZZ.out, ← HY0.out]
  clear q1 q4 p0 e0 e1 e2 e3 r0 r1 r2 r3 HZZ
  go_region_held3 (fun W => W.cell? ⟨fb, 0, none⟩ = some (.pointer (some ⟨mb, 0, none⟩)) ∧ W.cell? ⟨wb, wo + 4, none⟩ = some (.int .i64 (m : Int)) ∧ W.cell? ⟨X.heap.size, 0, none⟩ = some (.int .i64 n0) ∧ W.cell? ⟨X.heap.size, 1, none⟩ = some (.int .i64 n1) ∧ W.cell? ⟨X.heap.size, 2, none⟩ = some (.int .i64 n2) ∧ W.cell? ⟨X.heap.size, 3, none⟩ = some (.int .i64 n3))
   (first | with_reducible exact s1 | exact HCS.out _ rfl rfl rfl)
   (first | (go_at_call 23; refine (HCALL.out _ (by (repeat (first | exact Below.refl _ _ | assumption | refine Below.drew ?_ | refine bT ?_ _ | refine bS ?_ _ | refine bA ?_ _)))).mono ?_; intro e Y hY; obtain ⟨v, bb, he⟩ := hY.e; subst he; have hzl := HZY.out; have hlt := HLT.out; have s1 := HCS.out Y (hY.1.block fb (by simp; omega) (by rintro (e | e); exact HF.out.nm e; exact HO.out e)) (hY.1.block wb (by simp; omega) (by rintro (e | e); have := HM.out.hp; omega; have := (HM.out.own.lt _ e).1; omega)) (hY.1.block X.heap.size (by simp; omega) (by rintro (e | e); have := HM.out.mlt; have := HXW.out; omega; have := (HM.out.own.lt _ e).2; have := HXW.out; omega)); have HY := hidX hY; clear hY hzl hlt))
  obtain ⟨hfY, k, ov', g', hrY, hY⟩ := HY.out
  have hzl := HZY.out
  have hlt := HLT.out
  have hb0 : Below Y0.heap.size Y0 Y0.drew := by (repeat (first | exact Below.refl _ _ | assumption | refine Below.drew ?_ | refine bT ?_ _ | refine bS ?_ _ | refine bA ?_ _))
  have hfYw : Fr (Sw mb fb sb ov.ownBlock) w Y := HFR.out.trans ((Fr.of (S := Sx mb ov.ownBlock) hb0).trans hfY (fun _ _ h => h)) (fun _ _ h => h.toSw)
  have hrW : RowB w ov.ownBlock ov'.ownBlock := hrY.mono HFR.out.size
  have hofY : ov'.ownBlock ≠ some fb := hrW.ne HF.out.flt HO.out
  have hFMY : FM Y B mb fb sb { f with next := zeros 4 } := HFY.out.keep (hfY.block fb (by simp; omega) (by rintro (e | e); exact HF.out.nm e; exact HO.out e)) (hfY.block sb (by have := HFR.out.size; simp; omega) (by rintro (e | e); exact HF.out.ns e; exact HOS.out e))
  rcases hY with ⟨v', z1, z2, z3⟩ | ⟨how, z1, z2, z3⟩
  ·have hv : v = v' ∧ bb = true := by simpa using z2
   obtain ⟨hv1, hv2⟩ := hv
   subst hv1 hv2
   have q1 : Y.cell? ⟨wb, wo + 1, none⟩ = some (.int .i64 (D : Int)) := (World.cell?_of_block (w := Y0) (a := ⟨wb, _, none⟩) (hfY.block wb (by simp; omega) (by rintro (e | e); have := HM.out.hp; omega; have := (HM.out.own.lt _ e).1; omega))).trans HQ1.out
   have rd := hFMY.reg hD
   have fr := free_of_blk hFMY.blk (1 + D)
   have HP := hidX (hFMY.put hD v)
   have HZ3 := hidX z3
   have HZ1 := hidX (show itM I most k S = .run g' (({ f with next := zeros 4 } : Fm).put D v) fs from by rw [HE.out]; exact z1)
   have HFW := hidX hfYw
   have HRW := hidX hrW
   have HOY := hidX hofY
   generalize ({ f with next := zeros 4 } : Fm).regs.getD D 0 = vd at rd
   have HFF := hidX hFMY
   clear z1 z2 z3 hfY hrY hfYw hrW hofY hFMY hb0 hzl hlt HY HCALL HCS HQ1 s1
   go_wp2_with fail
   go_region
   go_wp2
   go_ret
   have hoth : ∀ b, b ≠ fb → (Y.setCell ⟨fb, 1 + D, none⟩ (.int .i64 v)).heap[b]? = Y.heap[b]? := fun b hb => Below.heap_setCell _ _ _ _ (show b ≠ fb from hb)
   have hp := HF.out.hp
   have hb1 : Below Y.heap.size Y Y := Below.refl _ _
   exact DoTo.drew ⟨HFW.out.trans (fr_set hb1 fb _ _ (Or.inr (Or.inl rfl)) : Fr (Sw mb fb sb ov.ownBlock) Y _) (fun _ _ h => h), k, ov', g', HRW.out, Or.inl ⟨({ f with next := zeros 4 } : Fm).put D v, ⟨rfl, rfl⟩, HZ1.out, rfl, HZ3.out.stay ⟨rfl, rfl, rfl, by simp [World.setCell], fun b hb => hoth b (by omega)⟩ (hoth mb HF.out.nm.symm) (fun b e => hoth b (fun e' => HOY.out (e' ▸ e))), HP.out⟩⟩
  ·have hv : v = 0 ∧ bb = false := by simpa using z1
   obtain ⟨hv1, hv2⟩ := hv
   subst hv1 hv2
   have HZ2 := hidX z2
   have HZ3 := hidX (show StopM I most k t S how g' from by rw [HE.out]; exact z3)
   have HFW := hidX hfYw
   have HRW := hidX hrW
   clear z1 z2 z3 hfY hrY hfYw hrW hofY hFMY hb0 hzl hlt HY HCALL HCS HQ1 s1
   go_wp2
   go_ret
   exact ⟨HFW.out, k, ov', g', HRW.out, Or.inr ⟨how, rfl, HZ2.out, HZ3.out⟩⟩
 ·have hb' : (b != F.params) = true := by simp [hb]
  have HE := hidX (hS.out.trans (if_neg hb))
  clear h hf hof hos hw hS hb hC
  go_enter Tryd.func62, Tryd.ntmps62
  go_wp2_with fail
  go_quiet (fail)
  go_wp2_with fail
  refine (mstop_any (HM.out.below (by (repeat (first | exact Below.refl _ _ | assumption | refine Below.drew ?_ | refine bT ?_ _ | refine bS ?_ _ | refine bA ?_ _)))) hStuck).mono ?_
  rintro e X ⟨rfl, h1, h2⟩
  have H1 := hidX h1
  have H2 := hidX (show Fr (Sx mb ov.ownBlock) w X from (Fr.of (by (repeat (first | exact Below.refl _ _ | assumption | refine Below.drew ?_ | refine bT ?_ _ | refine bS ?_ _ | refine bA ?_ _)))).trans h2 (fun _ _ h => h))
  clear h1 h2
  go_wp2
  go_ret
  exact do_halt H2.out H1.out (RowB.refl _ _) fs HE.out
end
end Go.Proofs.YtbcpomdcmilpjaaDoor
