/- Our own: texts joined: GrBare, MaRunB. -/
import Derived.Test.YtbcpomdcmilpjaaDoorZCdM
import Derived.Test.YtbcpomdcmilpjaaDoorZBaseM
import Derived.Test.YtbcpomdcmilpjaaDoorZMaRead
namespace Go.Proofs.YtbcpomdcmilpjaaDoor
open Go.RowKit
theorem bareG (c : Int) (w : World) : Calls Tryd.prog 9 #[.int .i64 c] w fun e w' => e = .returned (.agg #[.int .i64 c, .int .i64 (-1)]) ∧ Below w.heap.size w w' := by
 go_enter Tryd.func9, Tryd.ntmps9
 go_wp2
 exact bodyPost_ret (v := .agg #[.int .i64 c, .int .i64 (-1)]) (by simp [results, Tryd.results9, go_sem]) rfl ⟨rfl, by (repeat (first | exact Below.refl _ _ | assumption | refine Below.drew ?_ | refine bT ?_ _ | refine bS ?_ _ | refine bA ?_ _))⟩
theorem fineG (w : World) : Calls Tryd.prog 18 #[] w fun e w' => e = .returned (.agg #[.int .i64 0, .int .i64 (-1)]) ∧ Below w.heap.size w w' := by
 go_enter Tryd.func18, Tryd.ntmps18
 go_wp2
 exact bodyPost_ret (v := .agg #[.int .i64 0, .int .i64 (-1)]) (by simp [results, Tryd.results18, go_sem]) rfl ⟨rfl, by (repeat (first | exact Below.refl _ _ | assumption | refine Below.drew ?_ | refine bT ?_ _ | refine bS ?_ _ | refine bA ?_ _))⟩
theorem set2_blk {w : World} {r : Nat} {x0 x1 : Value} {t : TypeId} (h : w.heap[r]? = some (.cells #[x0, x1] t (0, 0))) (u0 u1 : Value) : ((w.setCell ⟨r, 0, none⟩ u0).setCell ⟨r, 1, none⟩ u1).heap[r]? = some (.cells #[u0, u1] t (0, 0)) := by
 have := blk_setCell (blk_setCell h 0 u0) 1 u1
 simpa using this
theorem set2_low {B : Nat} {a w : World} {r : Nat} (h : Below B a w) (hr : B ≤ r) (u0 u1 : Value) : Below B a ((w.setCell ⟨r, 0, none⟩ u0).setCell ⟨r, 1, none⟩ u1) := (h.setCell hr _).setCell hr _
end Go.Proofs.YtbcpomdcmilpjaaDoor
namespace Go.Proofs.YtbcpomdcmilpjaaDoor
open Go.RowKit
def runF (I : Im) (nm : List UInt8) (na : Nat) (ticks : Int) : Nat × Int :=
 if (imF I).1 ≠ 0 then imF I else if whichM I.funs nm < 0 then (6, -1) else if (funAt I (whichM I.funs nm)).params ≠ (na : Int) then (9, -1) else if ticks < 0 ∨ 5000 < ticks then (2, -1) else (0, -1)
theorem three_allocM (w : World) (x y z : Obj) : (((w.alloc x).alloc y).alloc z).heap[w.heap.size]? = some x ∧ (((w.alloc x).alloc y).alloc z).heap[w.heap.size + 1]? = some y ∧ (((w.alloc x).alloc y).alloc z).heap[w.heap.size + 2]? = some z := by
 have e1 : (w.alloc x).heap.size = w.heap.size + 1 := by simp
 have e2 : ((w.alloc x).alloc y).heap.size = w.heap.size + 2 := by simp
 refine ⟨(Below.heap_alloc _ z _ (by omega)).trans ((Below.heap_alloc _ y _ (by omega)).trans (heap_alloc_new w x)), ?_, ?_⟩
 ·refine (Below.heap_alloc _ z _ (by omega)).trans ?_
  have := heap_alloc_new (w.alloc x) y
  rwa [e1] at this
 ·have := heap_alloc_new ((w.alloc x).alloc y) z
  rwa [e2] at this
theorem set4_blkM {w : World} {b : Nat} {v0 v1 v2 v3 : Value} {t : TypeId} (h : w.heap[b]? = some (.cells #[v0, v1, v2, v3] t (0, 0))) (u0 u1 u2 u3 : Value) :
  ((((w.setCell ⟨b, 0, none⟩ u0).setCell ⟨b, 1, none⟩ u1).setCell ⟨b, 2, none⟩ u2).setCell ⟨b, 3, none⟩ u3).heap[b]? = some (.cells #[u0, u1, u2, u3] t (0, 0)) :=
 blk_setCell (blk_setCell (blk_setCell (blk_setCell h 0 u0) 1 u1) 2 u2) 3 u3
theorem set4_lowM {B : Nat} {a w : World} {r : Nat} (h : Below B a w) (hr : B ≤ r) (u0 u1 u2 u3 : Value) : Below B a ((((w.setCell ⟨r, 0, none⟩ u0).setCell ⟨r, 1, none⟩ u1).setCell ⟨r, 2, none⟩ u2).setCell ⟨r, 3, none⟩ u3) := (((h.setCell hr _).setCell hr _).setCell hr _).setCell hr _
theorem set4_othM {w : World} {r b : Nat} (h : b ≠ r) (u0 u1 u2 u3 : Value) : ((((w.setCell ⟨r, 0, none⟩ u0).setCell ⟨r, 1, none⟩ u1).setCell ⟨r, 2, none⟩ u2).setCell ⟨r, 3, none⟩ u3).heap[b]? = w.heap[b]? := by
 rw [Below.heap_setCell _ _ _ _ h, Below.heap_setCell _ _ _ _ h, Below.heap_setCell _ _ _ _ h, Below.heap_setCell _ _ _ _ h]
theorem ft_up {w W0 W1 W2 : World} {a : Nat → Addr} {r : Nat × Int} {v : Value} (h : FtTo W0 a r (.returned v) W1) (hb : Below w.heap.size w W2) (hz : w.heap.size ≤ W0.heap.size) (hk : ∀ b, W0.heap.size ≤ b → W2.heap[b]? = W1.heap[b]?) : FtTo w a r (.returned v) W2 := by
 obtain ⟨_, h⟩ := h
 refine ⟨hb, ?_⟩
 split at h
 ·next c => rw [if_pos c]; exact h
 ·next c =>
  rw [if_neg c]
  split at h
  ·next d => rw [if_pos d]; exact h
  ·next d =>
   rw [if_neg d]
   obtain ⟨b, h1, h2, h3⟩ := h
   exact ⟨b, h1, by omega, (hk b h2).trans h3⟩
theorem ft_codeM {w w' : World} {a : Nat → Addr} {r : Nat × Int} {v : Value} (h : FtTo w a r (.returned v) w') : (r.1 = 0 ∧ v = .nilIface) ∨ (r.1 ≠ 0 ∧ ∃ t u, v = .iface t u) := by
 obtain ⟨_, h⟩ := h
 split at h
 ·next c => injection h with h; exact Or.inl ⟨c, h⟩
 ·next c =>
  split at h
  ·injection h with h; exact Or.inr ⟨c, _, _, h⟩
  ·obtain ⟨b, h, _⟩ := h
   injection h with h; exact Or.inr ⟨c, _, _, h⟩
theorem which_lt {l : List Mf} {nm : List UInt8} (h : ¬ whichM l nm < 0) : ∃ n : Nat, whichM l nm = (n : Int) ∧ n < l.length := by
 unfold whichM at h ⊢
 cases hf : l.findIdx? (fun f => f.name == nm) with
 | none => rw [hf] at h; exact absurd (by decide) h
 | some i => exact ⟨i, rfl, (List.findIdx?_eq_some_iff_getElem.1 hf).1⟩
structure RuJ (w X : World) (nm : List UInt8) (fv wv : Value) : Prop where
 low : Below w.heap.size w X
 img : X.heap[w.heap.size]? = some (.cells #[fv, wv] 37 (0, 0))
 name : X.heap[w.heap.size + 1]? = some (.cells #[.string ⟨nm.toArray⟩] 9 (0, 0))
 out : X.heap[w.heap.size + 2]? = some (.cells #[.string ⟨#[]⟩, .int .i64 0, .slice none 0 0, .int .i64 0] 40 (0, 0))
theorem RuJ.below {w X Y : World} {nm : List UInt8} {fv wv : Value} (h : RuJ w X nm fv wv) (hb : Below X.heap.size X Y) : RuJ w Y nm fv wv :=
 ⟨bl_trans h.low h.low.size hb, (hb.block _ (heap_lt h.img)).trans h.img, (hb.block _ (heap_lt h.name)).trans h.name, (hb.block _ (heap_lt h.out)).trans h.out⟩
set_option maxRecDepth 100000 in
set_option maxHeartbeats 8000000 in
theorem mrun_bad {w : World} {a : Nat → Addr} (hS : SenM w a) (hT : TabC w) (I : Im) (hnl : ∀ f ∈ I.funs, f.name.length ≤ 4000) (hwv : ∀ v ∈ I.words, v < 18446744073709551616) (hfl : I.funs.length ≤ 100000) (hwl : I.words.length ≤ 100000) (adf adw : Option Addr) (cf cw : Nat) (hF : XMf (InH w) w (.slice adf I.funs.length cf) I.funs) (hW : XRow (InH w) w (.slice adw I.words.length cw) I.words.length (wosV I.words)) (nm : List UInt8) (aad : Option Addr) (na ac : Nat) (ticks : Int) (hbad : (runF I nm na ticks).1 ≠ 0) :
  Calls Tryd.prog 11 #[.agg #[.slice adf I.funs.length cf, .slice adw I.words.length cw], .string ⟨nm.toArray⟩, .slice aad na ac, .int .i64 ticks] w fun e w' => ∃ v, e = .returned (.tuple #[.agg #[.string ⟨#[]⟩, .int .i64 0, .slice none 0 0, .int .i64 0], v]) ∧ FtTo w a (runF I nm na ticks) (.returned v) w' := by
 obtain ⟨W0, hW0⟩ : ∃ W0, W0 = ((w.alloc (.cells #[.slice adf I.funs.length cf, .slice adw I.words.length cw] 37)).alloc (.cells #[.string ⟨nm.toArray⟩] 9)).alloc (.cells #[.string ⟨#[]⟩, .int .i64 0, .slice none 0 0, .int .i64 0] 40) := ⟨_, rfl⟩
 have hb0 : Below w.heap.size w W0 := by rw [hW0]; (repeat (first | exact Below.refl _ _ | assumption | refine Below.drew ?_ | refine bT ?_ _ | refine bS ?_ _ | refine bA ?_ _))
 have hR0 : RuJ w W0 nm (.slice adf I.funs.length cf) (.slice adw I.words.length cw) := ⟨hb0, by rw [hW0]; exact (three_allocM w _ _ _).1, by rw [hW0]; exact (three_allocM w _ _ _).2.1, by rw [hW0]; exact (three_allocM w _ _ _).2.2⟩
 have hfl' : (I.funs.length : Int) ≤ 100000 := by omega
 have HCK := hidX (emCheck_any (hS.below hb0) (hT.below hb0) I hnl hwv hfl hwl adf adw cf cw (hF.imp (inH_up hb0) (keepH hb0)) (hW.imp (inH_up hb0) (keepH hb0)))
 have d0 : W0.cell? ⟨w.heap.size, 0, none⟩ = some (.slice adf I.funs.length cf) := cell_of_blk hR0.img 0
 have d1 : W0.cell? ⟨w.heap.size, 1, none⟩ = some (.slice adw I.words.length cw) := cell_of_blk hR0.img 1
 have HR0 := hidX hR0
 have HS := hidX hS
 have HT := hidX hT
 have HF := hidX hF
 have HBAD := hidX hbad
 have hz0 : W0.heap.size = w.heap.size + 3 := by rw [hW0]; simp
 rw [hW0] at d0 d1
 clear hb0 hR0 hS hT hnl hwv hF hW hbad
 go_enter Tryd.func11, Tryd.ntmps11
 go_wp2_with fail
 rw [← hW0]
 clear hW0 d0 d1
 refine HCK.out.mono ?_
 intro e W1 hft
 obtain ⟨v, rfl, hft2⟩ := ft_val hft
 have HFT := hidX hft2
 have HR1 := hidX (HR0.out.below hft2.1)
 have hc := ft_codeM hft2
 have o0 := cell_of_blk HR1.out.out 0
 have o1 := cell_of_blk HR1.out.out 1
 have o2 := cell_of_blk HR1.out.out 2
 have o3 := cell_of_blk HR1.out.out 3
 have f0 := free_of_blk HR1.out.out 0
 have f1 := free_of_blk HR1.out.out 1
 have f2 := free_of_blk HR1.out.out 2
 have f3 := free_of_blk HR1.out.out 3
 clear hft hft2 HCK
 rcases hc with ⟨hc, rfl⟩ | ⟨hc, t, u, rfl⟩
 ·have HB1 := hidX (bl_trans HR0.out.low HR0.out.low.size HFT.out.1)
  have HIX := hidX (index_anyM nm (w := W1) ⟨w.heap.size + 1, 0, none⟩ (cell_of_blk HR1.out.name 0) I.funs hfl adf cf (HF.out.imp (inH_up HB1.out) (keepH HB1.out)))
  have hcz : ¬ (imF I).1 ≠ 0 := fun h => h hc
  have HR9 := hidX (show runF I nm na ticks = _ from if_neg hcz)
  have d0 : W1.cell? ⟨w.heap.size, 0, none⟩ = some (.slice adf I.funs.length cf) := cell_of_blk HR1.out.img 0
  clear hcz hc HFT o0 o1 o2 o3 f0 f1 f2 f3
  go_wp2_with fail
  refine HIX.out.mono ?_
  rintro e W2 ⟨rfl, hb2⟩
  have HR2 := hidX (HR1.out.below hb2)
  have HS2 := hidX (HS.out.below HR2.out.low)
  have d0 : W2.cell? ⟨w.heap.size, 0, none⟩ = some (.slice adf I.funs.length cf) := cell_of_blk HR2.out.img 0
  have o0 := cell_of_blk HR2.out.out 0
  have o1 := cell_of_blk HR2.out.out 1
  have o2 := cell_of_blk HR2.out.out 2
  have o3 := cell_of_blk HR2.out.out 3
  have f0 := free_of_blk HR2.out.out 0
  have f1 := free_of_blk HR2.out.out 1
  have f2 := free_of_blk HR2.out.out 2
  have f3 := free_of_blk HR2.out.out 3
  clear hb2 HIX HR1 HB1 HR0
  by_cases hk : whichM I.funs nm < 0
  ·have HRX := hidX (HR9.out.trans (if_pos hk))
   have g0 := HS2.out.gone
   generalize whichM I.funs nm = wk at hk HR9
   have hgl := cell_lt g0
   clear HR9
   have HRF := HRX
   go_wp2_with fail
   go_region
   go_wp2
   refine ret_row_tmp (w.heap.size + 1 + 1) 9 8 _ 40 _ rfl rfl rfl (set4_blkM HR2.out.out _ _ _ _) Tryd.underlying40 (by kernel_rfl) ⟨_, rfl, ?_⟩
   rw [HRF.out]
   exact ft_bare (by decide) rfl (set4_lowM HR2.out.low (by omega) _ _ _ _).drew rfl
  ·obtain ⟨n, hn, hnl⟩ := which_lt hk
   have HR8 := hidX (show runF I nm na ticks = if (funAt I (n : Int)).params ≠ (na : Int) then (9, -1) else if ticks < 0 ∨ 5000 < ticks then (2, -1) else (0, -1) from by rw [HR9.out, if_neg hk, hn])
   have hfn : funAt I (n : Int) = I.funs[n] := by simp [funAt, hnl]
   obtain ⟨gf, off, rfl, hgf, k0, k1, k2, k3⟩ := HF.out.at hnl
   replace k1 := (HR2.out.low.cell (p := ⟨gf, _, none⟩) hgf).trans k1
   have hnl' : (n : Int) < (I.funs.length : Int) := by omega
   rw [hfn] at HR8
   rw [hn]
   generalize I.funs[n] = fn at HR8 k1
   clear HR9 hk hn hfn k0 k2 k3
   by_cases hp : fn.params = (na : Int)
   ·have hp' : (fn.params != (na : Int)) = false := by simpa using hp
    by_cases ht : ticks < 0
    ·have HRX := hidX (show runF I nm na ticks = (2, -1) from by rw [HR8.out, if_neg (fun h => h hp), if_pos (Or.inl ht)])
     have g0 := HS2.out.bound
     have hgl := cell_lt g0
     clear HR8
     have HRF := HRX
     go_wp2_with fail
     go_region
     go_wp2
     refine ret_row_tmp (w.heap.size + 1 + 1) 9 8 _ 40 _ rfl rfl rfl (set4_blkM HR2.out.out _ _ _ _) Tryd.underlying40 (by kernel_rfl) ⟨_, rfl, ?_⟩
     rw [HRF.out]
     exact ft_bare (by decide) rfl (set4_lowM HR2.out.low (by omega) _ _ _ _).drew rfl
    ·by_cases ht2 : 5000 < ticks
     ·have HRX := hidX (show runF I nm na ticks = (2, -1) from by rw [HR8.out, if_neg (fun h => h hp), if_pos (Or.inr ht2)])
      have g0 := HS2.out.bound
      have hgl := cell_lt g0
      clear HR8
      have HRF := HRX
      go_wp2_with fail
      go_region
      go_wp2
      refine ret_row_tmp (w.heap.size + 1 + 1) 9 8 _ 40 _ rfl rfl rfl (set4_blkM HR2.out.out _ _ _ _) Tryd.underlying40 (by kernel_rfl) ⟨_, rfl, ?_⟩
      rw [HRF.out]
      exact ft_bare (by decide) rfl (set4_lowM HR2.out.low (by omega) _ _ _ _).drew rfl
     ·exact absurd (by rw [HR8.out, if_neg (fun h => h hp), if_neg (by omega)]) HBAD.out
   ·have hp' : (fn.params != (na : Int)) = true := by simpa using hp
    have HRX := hidX (show runF I nm na ticks = (9, -1) from by rw [HR8.out, if_pos hp])
    have g0 := HS2.out.args
    have hgl := cell_lt g0
    clear HR8
    have HRF := HRX
    go_wp2_with fail
    go_region
    go_wp2
    refine ret_row_tmp (w.heap.size + 1 + 1) 9 8 _ 40 _ rfl rfl rfl (set4_blkM HR2.out.out _ _ _ _) Tryd.underlying40 (by kernel_rfl) ⟨_, rfl, ?_⟩
    rw [HRF.out]
    exact ft_bare (by decide) rfl (set4_lowM HR2.out.low (by omega) _ _ _ _).drew rfl
 ·have hr : runF I nm na ticks = imF I := if_pos hc
  have HRF := hidX hr
  clear hr hc
  go_wp2
  refine ret_row_tmp (w.heap.size + 1 + 1) 9 8 _ 40 _ rfl rfl rfl (set4_blkM HR1.out.out _ _ _ _) Tryd.underlying40 (by kernel_rfl) ⟨_, rfl, ?_⟩
  rw [HRF.out]
  exact ft_up HFT.out (set4_lowM HR1.out.low (by omega) _ _ _ _) (by omega) (fun b hb => set4_othM (by omega) _ _ _ _)
end Go.Proofs.YtbcpomdcmilpjaaDoor
