/-
  Our own: texts joined: CheckAs, CheckAs2, CheckAs3.
-/
import Derived.Test.YtcebpmaggnephacGreatDoorCheckLarge
import Derived.Test.YtcebpmaggnephacGreatDoorCheckIss
import Derived.Deep.RegionHeld3
import Derived.Test.YtcebpmaggnephacGreatDoorCheckExSt

/-
  Our own: trees of the reference's make, as the package has them.
-/
namespace Go.Proofs.YtcebpmaggnephacGreatDoor
open Go.RowKit

/-- Blocks from B on, but for a row's own. -/
abbrev KA (B : Nat) (w : World) (v : Value) (b : Nat) : Prop := B ≤ b ∧ b < w.heap.size ∧ v.ownBlock ≠ some b
/-- Blocks that came between two worlds. -/
abbrev Nw (w w' : World) (b : Nat) : Prop := w.heap.size ≤ b ∧ b < w'.heap.size
theorem app_keep {α : Type} {Rep : (Nat → Prop) → World → α → List Value → Prop} {Reps : (Nat → Prop) → World → List α → List Value → Prop}
    (imp : ∀ {A C : Nat → Prop} {w w' : World}, (∀ b, A b → C b) → KeepA A w w' → ∀ l xs, Reps A w l xs → Reps C w' l xs) (impR : ∀ {A C : Nat → Prop} {w w' : World}, (∀ b, A b → C b) → KeepA A w w' → ∀ l xs, Rep A w l xs → Rep C w' l xs)
    (snoc : ∀ {A : Nat → Prop} {w : World} {l : List α} {xs : List Value} {e : α} {cs : List Value}, Reps A w l xs → Rep A w e cs → Reps A w (l ++ [e]) (xs ++ cs))
    {B n size : Nat} {t : TypeId} {w w1 w2 w3 : World} {v v' : Value} {l : List α} {xs cs : List Value} {x : α}
    (ho : w.ownsRow B t size v n xs) (hk : Reps (KA B w v) w l xs) (h1 : Below w.heap.size w w1) (hx : Rep (Nw w w1) w1 x cs) (h2 : Below w1.heap.size w1 w2) (hB : B ≤ w.heap.size) (hg : w2.grownBy w3 v.ownBlock) (hl : v'.ownBlock = v.ownBlock ∨ v'.ownBlock = some w2.heap.size) :
    Reps (KA B w3 v') w3 (l ++ [x]) (xs ++ cs) := by
  have z1 := h1.size
  have z2 := h2.size
  have z3 := hg.size
  have hown : ∀ b, v.ownBlock = some b → b < w.heap.size := fun b hb => (ho.lt b hb).2
  refine snoc (imp (fun b hb => ?_) (fun b hb => ?_) _ _ hk) (impR (fun b hb => ?_) (fun b hb => ?_) _ _ hx)
  · refine ⟨hb.1, by have := hb.2.1; omega, ?_⟩
    rcases hl with e | e
    · rw [e]; exact hb.2.2
    · rw [e]; intro e'; injection e' with e'; have := hb.2.1; omega
  · have hbl := hb.2.1
    rw [hg.block b (by omega) (fun e => hb.2.2 e.symm), h2.block b (by omega), h1.block b hbl]
  · have hb1 := hb.1
    refine ⟨by omega, by have := hb.2; omega, ?_⟩
    rcases hl with e | e
    · rw [e]; intro e'; have := hown b e'; omega
    · rw [e]; intro e'; injection e' with e'; have := hb.2; omega
  · have hb1 := hb.1
    have hb2 := hb.2
    rw [hg.block b (by omega) (fun e => by have := hown b e.symm; omega), h2.block b hb2]
theorem three_blks (w : World) (a b c : Obj) : (((w.alloc a).alloc b).alloc c).heap[w.heap.size]? = some a ∧ (((w.alloc a).alloc b).alloc c).heap[w.heap.size + 1]? = some b ∧ (((w.alloc a).alloc b).alloc c).heap[w.heap.size + 1 + 1]? = some c ∧ (((w.alloc a).alloc b).alloc c).heap.size = w.heap.size + 3 := by
  refine ⟨?_, ?_, ?_, by simp⟩
  · rw [Below.heap_alloc _ _ _ (by simp; omega), Below.heap_alloc _ _ _ (by simp), heap_alloc_new]
  · rw [Below.heap_alloc _ _ _ (by simp)]
    have := heap_alloc_new (w.alloc a) b
    rwa [show (w.alloc a).heap.size = w.heap.size + 1 by simp] at this
  · have := heap_alloc_new ((w.alloc a).alloc b) c
    rwa [show ((w.alloc a).alloc b).heap.size = w.heap.size + 1 + 1 by simp] at this
theorem setX4_blk {w : World} {r : Nat} {x0 x1 x2 x3 : Value} {t : TypeId} (h : w.heap[r]? = some (.cells #[x0, x1, x2, x3] t (0, 0))) (u0 u1 u2 u3 : Value) :
    ((((w.setCell ⟨r, 0, none⟩ u0).setCell ⟨r, 1, none⟩ u1).setCell ⟨r, 2, none⟩ u2).setCell ⟨r, 3, none⟩ u3).heap[r]? = some (.cells #[u0, u1, u2, u3] t (0, 0)) := by
  have := blk_setCell (blk_setCell (blk_setCell (blk_setCell h 0 u0) 1 u1) 2 u2) 3 u3
  simpa using this
theorem setX4_far {w : World} {r k : Nat} {u0 u1 u2 u3 : Value} (h : k ≠ r) : ((((w.setCell ⟨r, 0, none⟩ u0).setCell ⟨r, 1, none⟩ u1).setCell ⟨r, 2, none⟩ u2).setCell ⟨r, 3, none⟩ u3).heap[k]? = w.heap[k]? := by
  rw [Below.heap_setCell _ _ _ _ h, Below.heap_setCell _ _ _ _ h, Below.heap_setCell _ _ _ _ h, Below.heap_setCell _ _ _ _ h]
theorem setX4_size {w : World} {r : Nat} {u0 u1 u2 u3 : Value} : ((((w.setCell ⟨r, 0, none⟩ u0).setCell ⟨r, 1, none⟩ u1).setCell ⟨r, 2, none⟩ u2).setCell ⟨r, 3, none⟩ u3).heap.size = w.heap.size := by simp [World.setCell]
/-- The end of a function that hands back an Expr out of block r. -/
theorem retX4 {fn : Func} {R : Ending → World → Prop} {tmps : Array Value} {w : World} {r sl : Nat} {x0 x1 x2 x3 : Value} (hres : fn.results = #[ResultVar.cell sl 60]) (hsl : tmps[sl]? = some (.pointer (some ⟨r, 0, none⟩)))
    (hx : w.heap[r]? = some (.cells #[x0, x1, x2, x3] 60 (0, 0))) (k : ByteArray) (n : Int) (m : ByteArray) (v : Value)
    (h : R (.returned (.agg #[.string k, .int .i64 n, .string m, v])) ((((w.setCell ⟨r, 0, none⟩ (.string k)).setCell ⟨r, 1, none⟩ (.int .i64 n)).setCell ⟨r, 2, none⟩ (.string m)).setCell ⟨r, 3, none⟩ v)) :
    bodyPost Tryz.prog fn R Exit.ret { tmps := tmps, defers := [] } ((((w.setCell ⟨r, 0, none⟩ (.string k)).setCell ⟨r, 1, none⟩ (.int .i64 n)).setCell ⟨r, 2, none⟩ (.string m)).setCell ⟨r, 3, none⟩ v) := by
  have h4 := setX4_blk hx (.string k) (.int .i64 n) (.string m) v
  generalize ((((w.setCell ⟨r, 0, none⟩ (.string k)).setCell ⟨r, 1, none⟩ (.int .i64 n)).setCell ⟨r, 2, none⟩ (.string m)).setCell ⟨r, 3, none⟩ v) = W at h h4 ⊢
  have s0 : W.cell? ⟨r, 0, none⟩ = some (.string k) := cell_of_blk h4 0
  have s1 : W.cell? ⟨r, 1, none⟩ = some (.int .i64 n) := cell_of_blk h4 1
  have s2 : W.cell? ⟨r, 2, none⟩ = some (.string m) := cell_of_blk h4 2
  have s3 : W.cell? ⟨r, 3, none⟩ = some v := cell_of_blk h4 3
  refine bodyPost_ret (v := .agg #[.string k, .int .i64 n, .string m, v]) ?_ rfl h
  simp [results, hres, hsl, go_sem, s0, s1, s2, s3]
theorem own_sl {w : World} {B size : Nat} {t : TypeId} {v : Value} {n : Nat} {xs : List Value} (h : w.ownsRow B t size v n xs) : ∃ a cap, v = .slice a n cap := by
  rcases id h with ⟨_, ⟨rfl, rfl⟩ | ⟨g, cap, cur, rfl, _⟩⟩
  · exact ⟨_, _, rfl⟩
  · exact ⟨_, _, rfl⟩
theorem own_someX {w : World} {B size n : Nat} {t : TypeId} {v : Value} {xs : List Value} (h : w.ownsRow B t size v (n + 1) xs) : ∃ g cap, v = .slice (some ⟨g, 0, none⟩) (n + 1) cap := by
  rcases id h with ⟨_, ⟨_, h0⟩ | ⟨g, cap, cur, rfl, _⟩⟩
  · omega
  · exact ⟨g, cap, rfl⟩
theorem grown_blk {w w' : World} {row : Option Nat} (h : w.grownBy w' row) {b : Nat} {o : Obj} (hb : w.heap[b]? = some o) (hne : some b ≠ row) : w'.heap[b]? = some o := (h.block b (heap_lt hb) hne).trans hb
/-- Cells that were laid twice: the second ones. -/
theorem new_two (w : World) (o : Obj) (cs : Array Value) (t : TypeId) : ∀ j u, cs.toList[j]? = some u → ((w.alloc o).alloc (.cells cs t)).cell? ((⟨w.heap.size + 1, 0, none⟩ : Addr).add j) = some u := by
  intro j u hu
  have := new_cells (w.alloc o) cs t j u hu
  rwa [show (w.alloc o).heap.size = w.heap.size + 1 by simp] at this
def AsE (e : Ex) : Prop := ∀ (w : World) (cs : List Value), XE (InH w) w e cs → LowE e →
  Calls Tryz.prog 95 #[.agg cs.toArray] w fun ev w' => Below w.heap.size w w' ∧ ∃ cs', ev = .returned (.agg cs'.toArray) ∧ XE (Nw w w') w' e cs'
theorem expr_info : (Tryz.prog.info? 60).map (fun i => (i.zero, i.size, i.bytes)) = some (some (.agg #[.string ⟨#[]⟩, .int .i64 0, .string ⟨#[]⟩, .slice none 0 0]), 4, 64) := by kernel_rfl
theorem expr_one (k m : List UInt8) (n : Int) (ad : Option Addr) (l c : Nat) : ∀ u ∈ ([.string ⟨k.toArray⟩, .int .i64 n, .string ⟨m.toArray⟩, .slice ad l c] : List Value), u.oneCell' = true := by
  intro u hu
  simp only [List.mem_cons, List.not_mem_nil, or_false] at hu
  rcases hu with rfl | rfl | rfl | rfl <;> rfl
set_option maxRecDepth 100000 in
set_option maxHeartbeats 4000000 in
theorem as_mk (k : List UInt8) (n : Int) (mm : List UInt8) (ks : List Ex) (ih : ∀ e ∈ ks, AsE e) : AsE (.mk k n mm ks) := by
  intro w cs hX hL
  obtain ⟨v, xs, rfl, hr, hk⟩ := hX
  obtain ⟨ad, cap, rfl⟩ := hr.is
  obtain ⟨i0, hi, hy0, hy1, hy2⟩ := info_parts expr_info
  obtain ⟨l1, l2, l3⟩ := hL
  have l2' : (ks.length : Int) ≤ 8 := by omega
  have IH := hidX ih
  have R := hidX hr
  have KK := hidX hk
  have LL := hidX l3
  clear ih hr hk l3
  go_enter Tryz.func95, Tryz.ntmps95
  go_wp2_with fail
  obtain ⟨t0, t1, t2, t3⟩ := three_blks w (.cells #[.string ⟨k.toArray⟩, .int .i64 n, .string ⟨mm.toArray⟩, .slice ad ks.length cap] 116) (.cells #[.string ⟨#[]⟩, .int .i64 0, .string ⟨#[]⟩, .slice none 0 0] 60) (.cells #[.string ⟨k.toArray⟩, .int .i64 n, .string ⟨mm.toArray⟩, .slice none 0 0] 60)
  have T0 := hidX t0
  have T1 := hidX t1
  have T2 := hidX t2
  have T3 := hidX t3
  clear t0 t1 t2 t3
  go_loopw [4] (fun vi wr => ∃ (q : Nat) (vs : Value) (xs : List Value), q ≤ ks.length ∧ vi = .int .i64 q ∧ Below w.heap.size w wr ∧ w.heap.size + 3 ≤ wr.heap.size ∧ wr.heap[w.heap.size]? = some (.cells #[.string ⟨k.toArray⟩, .int .i64 n, .string ⟨mm.toArray⟩, .slice ad ks.length cap] 116 (0, 0)) ∧ wr.heap[w.heap.size + 1]? = some (.cells #[.string ⟨#[]⟩, .int .i64 0, .string ⟨#[]⟩, .slice none 0 0] 60 (0, 0)) ∧ wr.heap[w.heap.size + 1 + 1]? = some (.cells #[.string ⟨k.toArray⟩, .int .i64 n, .string ⟨mm.toArray⟩, vs] 60 (0, 0)) ∧ wr.ownsRow (w.heap.size + 3) 60 4 vs q xs ∧ Hid (XEs (KA (w.heap.size + 3) wr vs) wr (ks.take q) xs)) (fun vi _ => ks.length - (intOf vi).toNat)
  case atStart => exact ⟨0, .slice none 0 0, [], Nat.zero_le _, rfl, by (repeat (first | exact Below.refl _ _ | assumption | refine Below.drew ?_ | refine Below.trans ?_ (drewN_below' _ _ _) | refine Below.setCell ?_ (by first | (simp; done) | (simp; omega)) _ | refine Below.alloc ?_ (by first | (simp; done) | (simp; omega)) _)), by rw [T3.out]; exact Nat.le_refl _, T0.out, T1.out, T2.out, World.ownsRow_nil _ _ _ _, rfl⟩
  case round =>
    obtain ⟨q, vs, ys, hq, rfl, hbl, hz, hk0, hk1, hk2, hown, HXS⟩ := hrel
    obtain ⟨advs, capvs, rfl⟩ := own_sl hown
    have d3 : wr.cell? ⟨w.heap.size, 3, none⟩ = some (.slice ad ks.length cap) := cell_of_blk hk0 3
    have HK0 := hidX hk0
    have HK1 := hidX hk1
    have HK2 := hidX hk2
    have HOW := hidX hown
    clear hk0 hk1 hk2 hown T0 T1 T2 T3
    by_cases hlt : q < ks.length
    · have hlt' : (q : Int) < (ks.length : Int) := by omega
      obtain ⟨ka, e1, e2⟩ := KK.out.at hlt
      obtain ⟨ga, off, rfl, hga, g1⟩ := R.out.el 4 hlt e2
      have hx := IH.out _ (List.getElem_mem hlt)
      have hlx := LL.out.mem _ (List.getElem_mem hlt)
      have htk : ks.take (q + 1) = ks.take q ++ [ks[q]] := List.take_succ_eq_append_getElem hlt
      generalize ks[q] = x at e1 hx hlx htk
      have hcall := hx wr ka (XE.imp (inH_up hbl) (keepH hbl) _ _ e1) hlx
      obtain ⟨xk, xn, xm, xks⟩ := x
      obtain ⟨ya, za, rfl, ra, _⟩ := e1
      obtain ⟨ad1, cap1, rfl⟩ := ra.is
      have a0 := (hbl.cell (p := ⟨ga, _, none⟩) hga).trans (g1 0 _ (by decide) rfl)
      have a1 := (hbl.cell (p := ⟨ga, _, none⟩) hga).trans (g1 1 _ (by decide) rfl)
      have a2 := (hbl.cell (p := ⟨ga, _, none⟩) hga).trans (g1 2 _ (by decide) rfl)
      have a3 := (hbl.cell (p := ⟨ga, _, none⟩) hga).trans (g1 3 _ (by decide) rfl)
      rw [Nat.add_zero] at a0
      simp only [← Nat.add_assoc] at a1 a2 a3
      have HCL := hidX hcall
      have HTK := hidX htk
      clear g1 e2 ra hcall hx hlx htk
      go_wp2_with fail
      refine HCL.out.mono ?_
      rintro e w2 ⟨hb2, cs', rfl, hx2⟩
      have hz2 := hb2.size
      have b3 : w2.cell? ⟨w.heap.size + 1 + 1, 3, none⟩ = some (.slice advs q capvs) := cell_of_blk ((hb2.block _ (by omega)).trans HK2.out) 3
      obtain ⟨yv, yx, rfl, yr, ye⟩ := hx2
      obtain ⟨ad2, cap2, rfl⟩ := yr.is
      have HX2 : Hid (XE (Nw wr w2) w2 (.mk xk xn xm xks) [.string ⟨xk.toArray⟩, .int .i64 xn, .string ⟨xm.toArray⟩, .slice ad2 xks.length cap2]) := ⟨_, yx, rfl, yr, ye⟩
      have f2 := (hb2.block _ (show w.heap.size + 1 + 1 < wr.heap.size by omega)).trans HK2.out
      have F2 := hidX f2
      have hlt2 : w.heap.size + 1 + 1 < w2.heap.size := by omega
      clear a0 a1 a2 a3 d3 yr ye HCL f2
      have hbb : Below w2.heap.size w2 ((w2.alloc (.cells #[.string ⟨xk.toArray⟩, .int .i64 xn, .string ⟨xm.toArray⟩, .slice ad2 xks.length cap2] 60)).alloc (.cells #[.string ⟨xk.toArray⟩, .int .i64 xn, .string ⟨xm.toArray⟩, .slice ad2 xks.length cap2] 60)) := bl_trans (box_blk _ _ _) (by simp) (box_blk _ _ _)
      have HBB := hidX hbb
      have hnc := new_two w2 (.cells #[.string ⟨xk.toArray⟩, .int .i64 xn, .string ⟨xm.toArray⟩, .slice ad2 xks.length cap2] 60) #[.string ⟨xk.toArray⟩, .int .i64 xn, .string ⟨xm.toArray⟩, .slice ad2 xks.length cap2] 60
      have HNC := hidX hnc
      clear hbb hnc
      go_wp2_with (at_builtin; refine wpList_append_own_at _ rfl _ _ 58 rfl (w.heap.size + 3) 60 i0 _ 4 64 Tryz.underlying58 hi hy0 hy1 hy2 rfl (by decide) (.slice advs q capvs) q ys rfl (owns_below HOW.out (bl_trans hb2 hb2.size HBB.out)) ⟨w2.heap.size + 1, 0, none⟩ 1 1 [.string ⟨xk.toArray⟩, .int .i64 xn, .string ⟨xm.toArray⟩, .slice ad2 xks.length cap2] rfl rfl HNC.out (expr_one xk xm xn ad2 xks.length cap2) (by unfold maxLen; omega) (by omega) (by simp; omega) ?_; intro v' w3 hown' hgrow _ hloc; obtain ⟨gb, capb, hvb⟩ := own_someX hown'; subst hvb; have f3 := grown_blk hgrow ((HBB.out.block _ hlt2).trans F2.out) (fun e => (by have := (HOW.out.lt _ e.symm).1; omega)); have F3 := hidX f3; have g3 : w3.cell? ⟨w.heap.size + 1 + 1, 3, none⟩ = some (.slice advs q capvs) := cell_of_blk f3 3; have z3 := free_of_blk f3 3; clear f3)
      have hn1 : ∀ b, b < w.heap.size + 3 → b ≠ w.heap.size + 1 + 1 → (w3.setCell ⟨w.heap.size + 1 + 1, 3, none⟩ (.slice (some ⟨gb, 0, none⟩) (q + 1) capb)).heap[b]? = wr.heap[b]? := fun b hb hne => by
        rw [Below.heap_setCell _ _ _ _ hne, hgrow.block b (by have := HBB.out.size; omega) (fun e => by have := (HOW.out.lt _ e.symm).1; omega), HBB.out.block b (by omega), hb2.block b (by omega)]
      have hbr : Below w.heap.size w (w3.setCell ⟨w.heap.size + 1 + 1, 3, none⟩ (.slice (some ⟨gb, 0, none⟩) (q + 1) capb)) := by
        refine ⟨hgrow.os.trans (HBB.out.os.trans (hb2.os.trans hbl.os)), hgrow.tape.trans (HBB.out.tape.trans (hb2.tape.trans hbl.tape)), hgrow.output.trans (HBB.out.output.trans (hb2.output.trans hbl.output)), ?_, fun b hb => (hn1 b (by omega) (by omega)).trans (hbl.block b hb)⟩
        have := hgrow.size
        have := HBB.out.size
        simp only [World.setCell, Array.size_modify]
        omega
      have hxs := app_keep (Rep := XE) (Reps := XEs) XEs.imp XE.imp XEs.snoc HOW.out HXS.out hb2 HX2.out HBB.out (by omega) hgrow (by simpa using hloc)
      have hsz3 : w.heap.size + 3 ≤ w3.heap.size := by have := hgrow.size; have := HBB.out.size; omega
      have hfin : XEs (KA (w.heap.size + 3) (w3.setCell ⟨w.heap.size + 1 + 1, 3, none⟩ (.slice (some ⟨gb, 0, none⟩) (q + 1) capb)) (.slice (some ⟨gb, 0, none⟩) (q + 1) capb)) (w3.setCell ⟨w.heap.size + 1 + 1, 3, none⟩ (.slice (some ⟨gb, 0, none⟩) (q + 1) capb)) (ks.take (q + 1)) (ys ++ [.string ⟨xk.toArray⟩, .int .i64 xn, .string ⟨xm.toArray⟩, .slice ad2 xks.length cap2]) := by
        rw [HTK.out]
        exact XEs.imp (fun b hb => ⟨hb.1, by simpa [World.setCell] using hb.2.1, hb.2.2⟩) (fun b hb => Below.heap_setCell _ _ _ _ (by have := hb.1; show b ≠ w.heap.size + 1 + 1; omega)) _ _ hxs
      have hkk := blk_setCell F3.out 3 (.slice (some ⟨gb, 0, none⟩) (q + 1) capb)
      have HFIN := hidX hfin
      have HKK := hidX hkk
      have HN1 := hidX hn1
      have hos : (w3.setCell ⟨w.heap.size + 1 + 1, 3, none⟩ (.slice (some ⟨gb, 0, none⟩) (q + 1) capb)).ownsRow (w.heap.size + 3) 60 4 (.slice (some ⟨gb, 0, none⟩) (q + 1) capb) (q + 1) (ys ++ [.string ⟨xk.toArray⟩, .int .i64 xn, .string ⟨xm.toArray⟩, .slice ad2 xks.length cap2]) := by
        rcases hown' with ⟨o1, o2 | ⟨gg, cc, cur, o3, o4, o5, o6⟩⟩
        · exact ⟨o1, Or.inl o2⟩
        · exact ⟨o1, Or.inr ⟨gg, cc, cur, o3, o4, (Below.heap_setCell _ _ _ _ (by show gg ≠ w.heap.size + 1 + 1; omega)).trans o5, o6⟩⟩
      have HOS := hidX hos
      clear hfin hkk hn1 hos hxs hown' hgrow hloc b3 g3 z3 hlt2
      go_roundw
      case rel => exact ⟨q + 1, _, _, by omega, by go_num, hbr, by simpa [World.setCell] using hsz3, (HN1.out _ (by omega) (by omega)).trans HK0.out, (HN1.out _ (by omega) (by omega)).trans HK1.out, by simpa using HKK.out, HOS.out, HFIN.out⟩
      case measure => simp [intOf]; omega
    · have hqn : q = ks.length := by omega
      subst hqn
      have c0 : wr.cell? ⟨w.heap.size + 1 + 1, 0, none⟩ = some (.string ⟨k.toArray⟩) := cell_of_blk HK2.out 0
      have c1 : wr.cell? ⟨w.heap.size + 1 + 1, 1, none⟩ = some (.int .i64 n) := cell_of_blk HK2.out 1
      have c2 : wr.cell? ⟨w.heap.size + 1 + 1, 2, none⟩ = some (.string ⟨mm.toArray⟩) := cell_of_blk HK2.out 2
      have c3 : wr.cell? ⟨w.heap.size + 1 + 1, 3, none⟩ = some (.slice advs ks.length capvs) := cell_of_blk HK2.out 3
      have e0 : wr.cell? ⟨w.heap.size + 1, 0, none⟩ = some (.string ⟨#[]⟩) := cell_of_blk HK1.out 0
      have e1 : wr.cell? ⟨w.heap.size + 1, 1, none⟩ = some (.int .i64 0) := cell_of_blk HK1.out 1
      have e2 : wr.cell? ⟨w.heap.size + 1, 2, none⟩ = some (.string ⟨#[]⟩) := cell_of_blk HK1.out 2
      have e3 : wr.cell? ⟨w.heap.size + 1, 3, none⟩ = some (.slice none 0 0) := cell_of_blk HK1.out 3
      have f0 := free_of_blk HK1.out 0
      have f1 := free_of_blk HK1.out 1
      have f2 := free_of_blk HK1.out 2
      have f3 := free_of_blk HK1.out 3
      have hxs := HXS.out
      rw [List.take_length] at hxs
      have hxr := xrow_own HOW.out
      have HXS2 := hidX hxs
      have HXR := hidX hxr
      clear hxs hxr
      go_wp2
      refine retX4 (sl := 2) (by kernel_rfl) rfl HK1.out _ _ _ _ ?_
      refine ⟨?_, [_, _, _, _], rfl, _, ys, rfl, HXR.out.imp (fun b hb => ⟨by have := hb.1; omega, by rw [setX4_size]; exact hb.2⟩) (fun b hb => setX4_far (by have := hb.1; omega)), XEs.imp (fun b hb => ⟨by have := hb.1; omega, by rw [setX4_size]; exact hb.2.1⟩) (fun b hb => setX4_far (by have := hb.1; omega)) _ _ HXS2.out⟩
      exact (((hbl.setCell (by show w.heap.size ≤ w.heap.size + 1; omega) _).setCell (by show w.heap.size ≤ w.heap.size + 1; omega) _).setCell (by show w.heap.size ≤ w.heap.size + 1; omega) _).setCell (by show w.heap.size ≤ w.heap.size + 1; omega) _
mutual
theorem as_ex : ∀ e : Ex, AsE e
  | .mk k n m ks => as_mk k n m ks (as_exs ks)
theorem as_exs : ∀ l : List Ex, ∀ e ∈ l, AsE e
  | [], _, h => absurd h (by simp)
  | e :: r, x, h => by
    rcases List.mem_cons.1 h with h | h
    · rw [h]; exact as_ex e
    · exact as_exs r x h
end
end Go.Proofs.YtcebpmaggnephacGreatDoor

/-
  Our own: statements of the reference's make, as the package has them.
-/
namespace Go.Proofs.YtcebpmaggnephacGreatDoor
open Go.RowKit

def AsL (l : List Sm) : Prop := ∀ (w : World) (v : Value), XLS (InH w) w v l → l.length ≤ 30 → LowSs l →
  Calls Tryz.prog 56 #[v] w fun ev w' => Below w.heap.size w w' ∧ ∃ ad c, ev = .returned (.slice ad l.length c) ∧ XLS (Nw w w') w' (.slice ad l.length c) l
def AsSm : Sm → Prop
  | .mk _ _ _ t o => AsL t ∧ AsL o
theorem stmt_info : (Tryz.prog.info? 63).map (fun i => (i.zero, i.size, i.bytes)) = some (some (.agg #[.string ⟨#[]⟩, .string ⟨#[]⟩, .string ⟨#[]⟩, .int .i64 0, .string ⟨#[]⟩, .slice none 0 0, .slice none 0 0, .slice none 0 0]), 8, 144) := by kernel_rfl
/-- The cells of a statement of a row. -/
abbrev Cells8 (g o : Nat) (k m ek em : ByteArray) (en : Int) (v1 v2 v3 : Value) (W : World) : Prop :=
  W.cell? ⟨g, o, none⟩ = some (.string k) ∧ W.cell? ⟨g, o + 1, none⟩ = some (.string m) ∧ W.cell? ⟨g, o + 2, none⟩ = some (.string ek) ∧ W.cell? ⟨g, o + 3, none⟩ = some (.int .i64 en) ∧ W.cell? ⟨g, o + 4, none⟩ = some (.string em) ∧ W.cell? ⟨g, o + 5, none⟩ = some v1 ∧ W.cell? ⟨g, o + 6, none⟩ = some v2 ∧ W.cell? ⟨g, o + 7, none⟩ = some v3
theorem Cells8.keep {g o : Nat} {k m ek em : ByteArray} {en : Int} {v1 v2 v3 : Value} {W W' : World} (h : Cells8 g o k m ek em en v1 v2 v3 W) (hk : W'.heap[g]? = W.heap[g]?) : Cells8 g o k m ek em en v1 v2 v3 W' := by
  have e : ∀ j, W'.cell? ⟨g, j, none⟩ = W.cell? ⟨g, j, none⟩ := fun j => World.cell?_of_block (w := W) (a := ⟨g, j, none⟩) hk
  obtain ⟨h0, h1, h2, h3, h4, h5, h6, h7⟩ := h
  exact ⟨(e _).trans h0, (e _).trans h1, (e _).trans h2, (e _).trans h3, (e _).trans h4, (e _).trans h5, (e _).trans h6, (e _).trans h7⟩
theorem setX8_far {w : World} {r k : Nat} {u0 u1 u2 u3 u4 u5 u6 u7 : Value} (h : k ≠ r) : ((((((((w.setCell ⟨r, 0, none⟩ u0).setCell ⟨r, 1, none⟩ u1).setCell ⟨r, 2, none⟩ u2).setCell ⟨r, 3, none⟩ u3).setCell ⟨r, 4, none⟩ u4).setCell ⟨r, 5, none⟩ u5).setCell ⟨r, 6, none⟩ u6).setCell ⟨r, 7, none⟩ u7).heap[k]? = w.heap[k]? := by
  rw [Below.heap_setCell _ _ _ _ h, Below.heap_setCell _ _ _ _ h, Below.heap_setCell _ _ _ _ h, Below.heap_setCell _ _ _ _ h, Below.heap_setCell _ _ _ _ h, Below.heap_setCell _ _ _ _ h, Below.heap_setCell _ _ _ _ h, Below.heap_setCell _ _ _ _ h]
theorem stmt_one (k m ek em : List UInt8) (en : Int) (a1 a2 a3 : Option Addr) (l1 c1 l2 c2 l3 c3 : Nat) : ∀ u ∈ ([.string ⟨k.toArray⟩, .string ⟨m.toArray⟩, .string ⟨ek.toArray⟩, .int .i64 en, .string ⟨em.toArray⟩, .slice a1 l1 c1, .slice a2 l2 c2, .slice a3 l3 c3] : List Value), u.oneCell' = true := by
  intro u hu
  simp only [List.mem_cons, List.not_mem_nil, or_false] at hu
  rcases hu with rfl | rfl | rfl | rfl | rfl | rfl | rfl | rfl <;> rfl
theorem reg_cut7 {P : Program} {c : Code} {Q : Exit → Act → World → Prop} {a : Act} {w : World} (F : Nat → Option Addr → Nat → Option Addr → Nat → Option Addr → Nat → Act) (R : Nat → Option Addr → Nat → Option Addr → Nat → Option Addr → Nat → World → Prop) (h : c.wp P (Exit.then (fun a' w' => ∃ n a1 c1 a2 c2 a3 c3, a' = F n a1 c1 a2 c2 a3 c3 ∧ R n a1 c1 a2 c2 a3 c3 w') (fun _ _ _ => False)) a w)
    (k : ∀ n a1 c1 a2 c2 a3 c3 w', R n a1 c1 a2 c2 a3 c3 w' → Q .normal (F n a1 c1 a2 c2 a3 c3) w') : c.wp P Q a w :=
  Code.wp_mono (fun e a w g => by
    cases e with
    | normal => obtain ⟨n, a1, c1, a2, c2, a3, c3, rfl, g⟩ := g; exact k _ _ _ _ _ _ _ _ g
    | _ => exact g.elim) h
theorem fin_as {wr X1 w2 X2 w3 X3 w4 W : World} {k m : List UInt8} {xe : Ex} {xt xo : List Sm} {es : List Value} {tv ov : Value} (hX1 : wr.heap.size ≤ X1.heap.size) (h1 : Below X1.heap.size X1 w2) (e2 : Below w2.heap.size w2 X2) (h2 : Below X2.heap.size X2 w3) (e3 : Below w3.heap.size w3 X3) (h3 : Below X3.heap.size X3 w4)
    (hE : XE (Nw X1 w2) w2 xe es) (hT : XLS (Nw X2 w3) w3 tv xt) (hO : XLS (Nw X3 w4) w4 ov xo) (n : Nat) (hn : n < X1.heap.size ∨ (w2.heap.size ≤ n ∧ n < X2.heap.size) ∨ (w3.heap.size ≤ n ∧ n < X3.heap.size) ∨ w4.heap.size ≤ n) (hk : ∀ b, b < w4.heap.size → b ≠ n → W.heap[b]? = w4.heap[b]?) (hs : w4.heap.size ≤ W.heap.size) :
    XS (fun b => wr.heap.size ≤ b ∧ b < W.heap.size ∧ b ≠ n) W (.mk k m xe xt xo) (.string ⟨k.toArray⟩ :: .string ⟨m.toArray⟩ :: (es ++ [tv, ov])) := by
  have z1 := h1.size
  have z2 := e2.size
  have z3 := h2.size
  have z4 := e3.size
  have z5 := h3.size
  have k34 : ∀ b, b < w3.heap.size → w4.heap[b]? = w3.heap[b]? := fun b hb => (h3.block b (by omega)).trans (e3.block b hb)
  have k24 : ∀ b, b < w2.heap.size → w4.heap[b]? = w2.heap[b]? := fun b hb => (k34 b (by omega)).trans ((h2.block b (by omega)).trans (e2.block b hb))
  obtain ⟨ts, t1, t2⟩ := hT
  obtain ⟨os, o1, o2⟩ := hO
  have A1 : ∀ b, Nw X1 w2 b → wr.heap.size ≤ b ∧ b < W.heap.size ∧ b ≠ n := fun b hb => ⟨by have := hb.1; omega, by have := hb.2; omega, by have := hb.1; have := hb.2; omega⟩
  have A2 : ∀ b, Nw X2 w3 b → wr.heap.size ≤ b ∧ b < W.heap.size ∧ b ≠ n := fun b hb => ⟨by have := hb.1; omega, by have := hb.2; omega, by have := hb.1; have := hb.2; omega⟩
  have A3 : ∀ b, Nw X3 w4 b → wr.heap.size ≤ b ∧ b < W.heap.size ∧ b ≠ n := fun b hb => ⟨by have := hb.1; omega, by have := hb.2; omega, by have := hb.1; have := hb.2; omega⟩
  have K1 : KeepA (Nw X1 w2) w2 W := fun b hb => (hk b (by have := hb.2; omega) (A1 b hb).2.2).trans (k24 b hb.2)
  have K2 : KeepA (Nw X2 w3) w3 W := fun b hb => (hk b (by have := hb.2; omega) (A2 b hb).2.2).trans (k34 b hb.2)
  have K3 : KeepA (Nw X3 w4) w4 W := fun b hb => hk b hb.2 (A3 b hb).2.2
  exact ⟨es, tv, ts, ov, os, rfl, XE.imp A1 K1 _ _ hE, t1.imp A2 K2, XSs.imp A2 K2 _ _ t2, o1.imp A3 K3, XSs.imp A3 K3 _ _ o2⟩
theorem setX8_blk {w : World} {r : Nat} {x0 x1 x2 x3 x4 x5 x6 x7 : Value} {t : TypeId} (h : w.heap[r]? = some (.cells #[x0, x1, x2, x3, x4, x5, x6, x7] t (0, 0))) (u0 u1 u2 u3 u4 u5 u6 u7 : Value) :
    ((((((((w.setCell ⟨r, 0, none⟩ u0).setCell ⟨r, 1, none⟩ u1).setCell ⟨r, 2, none⟩ u2).setCell ⟨r, 3, none⟩ u3).setCell ⟨r, 4, none⟩ u4).setCell ⟨r, 5, none⟩ u5).setCell ⟨r, 6, none⟩ u6).setCell ⟨r, 7, none⟩ u7).heap[r]? = some (.cells #[u0, u1, u2, u3, u4, u5, u6, u7] t (0, 0)) := by
  have := blk_setCell (blk_setCell (blk_setCell (blk_setCell (blk_setCell (blk_setCell (blk_setCell (blk_setCell h 0 u0) 1 u1) 2 u2) 3 u3) 4 u4) 5 u5) 6 u6) 7 u7
  simpa using this
theorem setX8_size {w : World} {r : Nat} {u0 u1 u2 u3 u4 u5 u6 u7 : Value} : ((((((((w.setCell ⟨r, 0, none⟩ u0).setCell ⟨r, 1, none⟩ u1).setCell ⟨r, 2, none⟩ u2).setCell ⟨r, 3, none⟩ u3).setCell ⟨r, 4, none⟩ u4).setCell ⟨r, 5, none⟩ u5).setCell ⟨r, 6, none⟩ u6).setCell ⟨r, 7, none⟩ u7).heap.size = w.heap.size := by simp [World.setCell]
theorem setX8_below {B : Nat} {v w : World} {r : Nat} {u0 u1 u2 u3 u4 u5 u6 u7 : Value} (h : Below B v w) (hr : B ≤ r) : Below B v ((((((((w.setCell ⟨r, 0, none⟩ u0).setCell ⟨r, 1, none⟩ u1).setCell ⟨r, 2, none⟩ u2).setCell ⟨r, 3, none⟩ u3).setCell ⟨r, 4, none⟩ u4).setCell ⟨r, 5, none⟩ u5).setCell ⟨r, 6, none⟩ u6).setCell ⟨r, 7, none⟩ u7) :=
  (((((((h.setCell hr _).setCell hr _).setCell hr _).setCell hr _).setCell hr _).setCell hr _).setCell hr _).setCell hr _
theorem drew_size (w : World) (O : Obj) : w.heap.size ≤ (w.alloc O).drew.heap.size := by show w.heap.size ≤ (w.alloc O).heap.size; simp
theorem drew_lt (w : World) (O : Obj) : w.heap.size < (w.alloc O).drew.heap.size := by show w.heap.size < (w.alloc O).heap.size; simp
theorem bz_drew {w w2 : World} {O : Obj} (hb : Below (w.alloc O).drew.heap.size (w.alloc O).drew w2) : w2.heap[w.heap.size]? = some O :=
  (hb.block w.heap.size (by show w.heap.size < (w.alloc O).heap.size; simp)).trans (heap_alloc_new w O)
/-- A new Stmt's cells may be written. -/
theorem zero8 {w : World} {b : Nat} (h : w.heap[b]? = some (.cells #[.string ⟨#[]⟩, .string ⟨#[]⟩, .string ⟨#[]⟩, .int .i64 0, .string ⟨#[]⟩, .slice none 0 0, .slice none 0 0, .slice none 0 0] 63 (0, 0))) :
    (w.cell? ⟨b, 0, none⟩ = some (.string ⟨#[]⟩) ∧ w.cell? ⟨b, 1, none⟩ = some (.string ⟨#[]⟩) ∧ w.cell? ⟨b, 2, none⟩ = some (.string ⟨#[]⟩) ∧ w.cell? ⟨b, 3, none⟩ = some (.int .i64 0) ∧ w.cell? ⟨b, 4, none⟩ = some (.string ⟨#[]⟩) ∧ w.cell? ⟨b, 5, none⟩ = some (.slice none 0 0) ∧ w.cell? ⟨b, 6, none⟩ = some (.slice none 0 0) ∧ w.cell? ⟨b, 7, none⟩ = some (.slice none 0 0)) ∧
    (w.frozen? ⟨b, 0, none⟩ = false ∧ w.frozen? ⟨b, 1, none⟩ = false ∧ w.frozen? ⟨b, 2, none⟩ = false ∧ w.frozen? ⟨b, 3, none⟩ = false ∧ w.frozen? ⟨b, 4, none⟩ = false ∧ w.frozen? ⟨b, 5, none⟩ = false ∧ w.frozen? ⟨b, 6, none⟩ = false ∧ w.frozen? ⟨b, 7, none⟩ = false) :=
  ⟨⟨cell_of_blk h 0, cell_of_blk h 1, cell_of_blk h 2, cell_of_blk h 3, cell_of_blk h 4, cell_of_blk h 5, cell_of_blk h 6, cell_of_blk h 7⟩, free_of_blk h 0, free_of_blk h 1, free_of_blk h 2, free_of_blk h 3, free_of_blk h 4, free_of_blk h 5, free_of_blk h 6, free_of_blk h 7⟩
set_option maxRecDepth 100000 in
set_option maxHeartbeats 4000000 in
theorem as_list (l : List Sm) (ih : ∀ s ∈ l, AsSm s) : AsL l := by
  intro w v hX hl hL
  obtain ⟨xs, hr, hk⟩ := hX
  obtain ⟨ad, cap, rfl⟩ := hr.is
  obtain ⟨i0, hi, hy0, hy1, hy2⟩ := info_parts stmt_info
  have hl' : (l.length : Int) ≤ 30 := by omega
  have IH := hidX ih
  have R := hidX hr
  have KK := hidX hk
  have LL := hidX hL
  clear ih hr hk hL
  go_enter Tryz.func56, Tryz.ntmps56
  go_wp2_with fail
  go_loopw [3, 4] (fun vo vi wr => ∃ (q : Nat) (ys : List Value), q ≤ l.length ∧ vi = .int .i64 q ∧ Below w.heap.size w wr ∧ wr.ownsRow w.heap.size 63 8 vo q ys ∧ Hid (XSs (KA w.heap.size wr vo) wr (l.take q) ys)) (fun _ vi _ => l.length - (intOf vi).toNat)
  case atStart => exact ⟨0, [], Nat.zero_le _, rfl, by (repeat (first | exact Below.refl _ _ | assumption | refine Below.drew ?_ | refine Below.trans ?_ (drewN_below' _ _ _) | refine Below.setCell ?_ (by first | (simp; done) | (simp; omega)) _ | refine Below.alloc ?_ (by first | (simp; done) | (simp; omega)) _)), World.ownsRow_nil _ _ _ _, rfl⟩
  case round =>
    obtain ⟨q, ys, hq, rfl, hbl, hown, HXS⟩ := hrel
    obtain ⟨advs, capvs, rfl⟩ := own_sl hown
    have HOW := hidX hown
    have hzr := hbl.size
    clear hown
    by_cases hlt : q < l.length
    · have hlt' : (q : Int) < (l.length : Int) := by omega
      obtain ⟨ka, e1, e2⟩ := KK.out.at hlt
      have hx := IH.out _ (List.getElem_mem hlt)
      have hlx := LL.out.mem _ (List.getElem_mem hlt)
      have htk : l.take (q + 1) = l.take q ++ [l[q]] := List.take_succ_eq_append_getElem hlt
      generalize l[q] = x at e1 hx hlx htk
      obtain ⟨xk, xm, xe, xt, xo⟩ := x
      obtain ⟨ea, ta, tsa, oa, osa, rfl, r1, r2, r3, r4, r5⟩ := e1
      obtain ⟨ga, off, rfl, hga, g1⟩ := x8_at R.out hlt r1.len e2
      obtain ⟨l1, l2, l3, l4, l5, l6, l7⟩ := hlx
      have hE : ∀ X, Below wr.heap.size wr X → Calls Tryz.prog 95 #[.agg ea.toArray] X fun ev w' => Below wr.heap.size wr w' ∧ Below X.heap.size X w' ∧ ∃ cs', ev = .returned (.agg cs'.toArray) ∧ XE (Nw X w') w' xe cs' := fun X hX => by
        have hb := bl_trans hbl hbl.size hX
        refine (as_ex xe X ea (XE.imp (inH_up hb) (keepH hb) _ _ r1) l3).mono ?_
        rintro ev w' ⟨h1, h2⟩
        exact ⟨bl_trans hX hX.size h1, h1, h2⟩
      have hT : ∀ X, Below wr.heap.size wr X → Calls Tryz.prog 56 #[ta] X fun ev w' => Below wr.heap.size wr w' ∧ Below X.heap.size X w' ∧ ∃ ad c, ev = .returned (.slice ad xt.length c) ∧ XLS (Nw X w') w' (.slice ad xt.length c) xt := fun X hX => by
        have hb := bl_trans hbl hbl.size hX
        refine (hx.1 X ta ⟨tsa, r2.imp (inH_up hb) (keepH hb), XSs.imp (inH_up hb) (keepH hb) _ _ r3⟩ l4 l5).mono ?_
        rintro ev w' ⟨h1, h2⟩
        exact ⟨bl_trans hX hX.size h1, h1, h2⟩
      have hO : ∀ X, Below wr.heap.size wr X → Calls Tryz.prog 56 #[oa] X fun ev w' => Below wr.heap.size wr w' ∧ Below X.heap.size X w' ∧ ∃ ad c, ev = .returned (.slice ad xo.length c) ∧ XLS (Nw X w') w' (.slice ad xo.length c) xo := fun X hX => by
        have hb := bl_trans hbl hbl.size hX
        refine (hx.2 X oa ⟨osa, r4.imp (inH_up hb) (keepH hb), XSs.imp (inH_up hb) (keepH hb) _ _ r5⟩ l6 l7).mono ?_
        rintro ev w' ⟨h1, h2⟩
        exact ⟨bl_trans hX hX.size h1, h1, h2⟩
      obtain ⟨adt, ct, rfl⟩ := r2.is
      obtain ⟨ado, co, rfl⟩ := r4.is
      obtain ⟨xek, xen, xem, xes⟩ := xe
      obtain ⟨ya, za, rfl, ra, _⟩ := r1
      obtain ⟨ad1, cap1, rfl⟩ := ra.is
      have k1 := g1.keep (hbl.block ga hga)
      have c8 : Cells8 ga (off + q * 8) ⟨xk.toArray⟩ ⟨xm.toArray⟩ ⟨xek.toArray⟩ ⟨xem.toArray⟩ xen (.slice ad1 xes.length cap1) (.slice adt xt.length ct) (.slice ado xo.length co) wr := by
        have a2 := k1.c2 0 _ (by decide) rfl
        have a3 := k1.c2 1 _ (by decide) rfl
        have a4 := k1.c2 2 _ (by decide) rfl
        have a5 := k1.c2 3 _ (by decide) rfl
        exact ⟨k1.c0, k1.c1, a2, a3, a4, a5, k1.c6, k1.c7⟩
      have HE := hidX hE
      have HT := hidX hT
      have HO := hidX hO
      have HTK := hidX htk
      have hgr : ga < wr.heap.size := by have : ga < w.heap.size := hga; omega
      have C8 := hidX c8
      obtain ⟨a0, a1, a2, a3, a4, a5, a6, a7⟩ := c8
      clear hE hT hO r2 r3 r4 r5 e2 g1 k1 hx ra htk l3 l5 l7
      go_wp2_with fail
      apply reg_cut7 (F := fun n a1 c1 a2 c2 a3 c3 => { tmps := #[.slice (some ⟨ga, off, none⟩) l.length cap, undef, .slice none 0 0, .slice advs q capvs, .int .i64 q, .pointer (some ⟨n, 0, none⟩), .int .i64 q, .slice (some ⟨ga, off, none⟩) l.length cap, .int .i64 l.length, .bool true, u10, u11, .slice (some ⟨ga, off, none⟩) l.length cap, .int .i64 q, .pointer (some ⟨ga, off + q * 8, none⟩), .pointer (some ⟨ga, off + q * 8, none⟩), .string ⟨xk.toArray⟩, .slice (some ⟨ga, off, none⟩) l.length cap, .int .i64 q, .pointer (some ⟨ga, off + q * 8, none⟩), .pointer (some ⟨ga, off + q * 8 + 1, none⟩), .string ⟨xm.toArray⟩, .slice (some ⟨ga, off, none⟩) l.length cap, .int .i64 q, .pointer (some ⟨ga, off + q * 8, none⟩), .pointer (some ⟨ga, off + q * 8 + 2, none⟩), .agg #[.string ⟨xek.toArray⟩, .int .i64 xen, .string ⟨xem.toArray⟩, .slice ad1 xes.length cap1], .agg #[.string ⟨xek.toArray⟩, .int .i64 xen, .string ⟨xem.toArray⟩, .slice a1 xes.length c1], .slice (some ⟨ga, off, none⟩) l.length cap, .int .i64 q, .pointer (some ⟨ga, off + q * 8, none⟩), .pointer (some ⟨ga, off + q * 8 + 6, none⟩), .slice adt xt.length ct, .slice a2 xt.length c2, .slice (some ⟨ga, off, none⟩) l.length cap, .int .i64 q, .pointer (some ⟨ga, off + q * 8, none⟩), .pointer (some ⟨ga, off + q * 8 + 7, none⟩), .slice ado xo.length co, .slice a3 xo.length c3, .agg #[.string ⟨xk.toArray⟩, .string ⟨xm.toArray⟩, .string ⟨xek.toArray⟩, .int .i64 xen, .string ⟨xem.toArray⟩, .slice a1 xes.length c1, .slice a2 xt.length c2, .slice a3 xo.length c3], u41, u42, u43, u44, undef], defers := [] }) (R := fun n a1 c1 a2 c2 a3 c3 W => Below wr.heap.size wr W ∧ wr.heap.size ≤ n ∧ n < W.heap.size ∧ W.heap[n]? = some (.cells #[.string ⟨xk.toArray⟩, .string ⟨xm.toArray⟩, .string ⟨xek.toArray⟩, .int .i64 xen, .string ⟨xem.toArray⟩, .slice a1 xes.length c1, .slice a2 xt.length c2, .slice a3 xo.length c3] 63 (0, 0)) ∧ XS (fun b => wr.heap.size ≤ b ∧ b < W.heap.size ∧ b ≠ n) W (.mk xk xm (.mk xek xen xem xes) xt xo) [.string ⟨xk.toArray⟩, .string ⟨xm.toArray⟩, .string ⟨xek.toArray⟩, .int .i64 xen, .string ⟨xem.toArray⟩, .slice a1 xes.length c1, .slice a2 xt.length c2, .slice a3 xo.length c3])
      · go_region_held3 (fun W => W.cell? ⟨ga, off + q * 8, none⟩ = some (.string ⟨xk.toArray⟩) ∧ W.cell? ⟨ga, off + q * 8 + 1, none⟩ = some (.string ⟨xm.toArray⟩) ∧ W.cell? ⟨ga, off + q * 8 + 2, none⟩ = some (.string ⟨xek.toArray⟩) ∧ W.cell? ⟨ga, off + q * 8 + 3, none⟩ = some (.int .i64 xen) ∧ W.cell? ⟨ga, off + q * 8 + 4, none⟩ = some (.string ⟨xem.toArray⟩) ∧ W.cell? ⟨ga, off + q * 8 + 5, none⟩ = some (.slice ad1 xes.length cap1) ∧ W.cell? ⟨ga, off + q * 8 + 6, none⟩ = some (.slice adt xt.length ct) ∧ W.cell? ⟨ga, off + q * 8 + 7, none⟩ = some (.slice ado xo.length co)) (first | with_reducible exact s4 | with_reducible exact s3 | with_reducible exact s2 | (with_reducible refine s4.keep ?_; first | with_reducible exact Below.heap_alloc _ _ _ (by omega) | with_reducible exact setX8_far (by omega)) | (with_reducible refine s3.keep ?_; with_reducible exact Below.heap_alloc _ _ _ (by omega)) | (with_reducible refine s2.keep ?_; with_reducible exact Below.heap_alloc _ _ _ (by omega)) | exact C8.out | exact C8.out.keep (Below.heap_alloc _ _ _ hgr))
          (first
            | (go_at_call 95; refine (HE.out _ (by (repeat (first | exact Below.refl _ _ | assumption | refine Below.drew ?_ | refine Below.trans ?_ (drewN_below' _ _ _) | refine Below.setCell ?_ (by first | (simp; done) | (simp; omega)) _ | refine Below.alloc ?_ (by first | (simp; done) | (simp; omega)) _)))).mono ?_; rintro e w2 ⟨hw2, hb2, cs', rfl, hx2⟩; obtain ⟨yv, yx, rfl, yr, ye⟩ := hx2; obtain ⟨ad2, cap2, rfl⟩ := yr.is; have s2 := C8.out.keep (W' := w2) (hw2.block _ hgr); have z2 := hw2.size; first | (have bz2 := bz_drew hb2) | skip)
            | (have hprev := hw3; clear hprev; go_at_call 56; refine (HO.out _ (by first | exact hw3 | exact hw3.alloc z3 _)).mono ?_; rintro e w4 ⟨hw4, hb4, ad4, c4, rfl, hx4⟩; have s4 := C8.out.keep (W' := w4) (hw4.block _ hgr); have z4 := hw4.size; first | (have hprv := bz3; clear hprv; have bz4 := (hb4.block _ (heap_lt bz3)).trans bz3; obtain ⟨⟨p0, p1, p2, p3, p4, p5, p6, p7⟩, f0, f1, f2, f3, f4, f5, f6, f7⟩ := zero8 bz4) | (have bz4 : w4.heap[w3.heap.size]? = some (.cells #[.string ⟨#[]⟩, .string ⟨#[]⟩, .string ⟨#[]⟩, .int .i64 0, .string ⟨#[]⟩, .slice none 0 0, .slice none 0 0, .slice none 0 0] 63 (0, 0)) := (by rw [hb4.block w3.heap.size (by simp; done)]; exact heap_alloc_new w3 _); obtain ⟨⟨p0, p1, p2, p3, p4, p5, p6, p7⟩, f0, f1, f2, f3, f4, f5, f6, f7⟩ := zero8 bz4) | skip)
            | (go_at_call 56; refine (HT.out _ (by first | exact hw2 | exact hw2.alloc z2 _)).mono ?_; rintro e w3 ⟨hw3, hb3, ad3, c3, rfl, hx3⟩; have s3 := C8.out.keep (W' := w3) (hw3.block _ hgr); have z3 := hw3.size; first | (have hprv := bz2; clear hprv; have bz3 := (hb3.block _ (heap_lt bz2)).trans bz2) | (have bz3 : w3.heap[w2.heap.size]? = some (.cells #[.string ⟨#[]⟩, .string ⟨#[]⟩, .string ⟨#[]⟩, .int .i64 0, .string ⟨#[]⟩, .slice none 0 0, .slice none 0 0, .slice none 0 0] 63 (0, 0)) := (by rw [hb3.block w2.heap.size (by simp; done)]; exact heap_alloc_new w2 _)) | skip))
        · exact ⟨_, _, _, _, _, _, _, rfl, hw4.alloc z4 _, z4, by simp, heap_alloc_new _ _, fin_as (xe := .mk xek xen xem xes) (es := [_, _, _, _]) (Nat.le_refl _) hb2 (Below.refl _ _) hb3 (Below.refl _ _) hb4 ⟨_, yx, rfl, yr, ye⟩ hx3 hx4 _ (Or.inr (Or.inr (Or.inr (Nat.le_refl _)))) (fun b hb _ => Below.heap_alloc _ _ _ hb) (by simp)⟩
        · exact ⟨_, _, _, _, _, _, _, rfl, setX8_below hw4 z3, z3, by rw [setX8_size]; exact heap_lt bz4, setX8_blk bz4 _ _ _ _ _ _ _ _, fin_as (xe := .mk xek xen xem xes) (es := [_, _, _, _]) (Nat.le_refl _) hb2 (Below.refl _ _) hb3 (box_blk _ _ _) hb4 ⟨_, yx, rfl, yr, ye⟩ hx3 hx4 _ (Or.inr (Or.inr (Or.inl ⟨Nat.le_refl _, by simp⟩))) (fun b _ hb => setX8_far hb) (by rw [setX8_size]; exact Nat.le_refl _)⟩
        · exact ⟨_, _, _, _, _, _, _, rfl, setX8_below hw4 z2, z2, by rw [setX8_size]; exact heap_lt bz4, setX8_blk bz4 _ _ _ _ _ _ _ _, fin_as (xe := .mk xek xen xem xes) (es := [_, _, _, _]) (Nat.le_refl _) hb2 (box_blk _ _ _) hb3 (Below.refl _ _) hb4 ⟨_, yx, rfl, yr, ye⟩ hx3 hx4 _ (Or.inr (Or.inl ⟨Nat.le_refl _, by simp⟩)) (fun b _ hb => setX8_far hb) (by rw [setX8_size]; exact Nat.le_refl _)⟩
        · exact ⟨_, _, _, _, _, _, _, rfl, setX8_below hw4 (Nat.le_refl _), Nat.le_refl _, by rw [setX8_size]; exact heap_lt bz4, setX8_blk bz4 _ _ _ _ _ _ _ _, fin_as (xe := .mk xek xen xem xes) (es := [_, _, _, _]) (drew_size _ _) hb2 (Below.refl _ _) hb3 (Below.refl _ _) hb4 ⟨_, yx, rfl, yr, ye⟩ hx3 hx4 _ (Or.inl (drew_lt _ _)) (fun b _ hb => setX8_far hb) (by rw [setX8_size]; exact Nat.le_refl _)⟩
      · rintro n b1 d1 b2 d2 b3 d3 W ⟨hbW, hn1, hn2, hkn, hxW⟩
        have c0 : W.cell? ⟨n, 0, none⟩ = some (.string ⟨xk.toArray⟩) := cell_of_blk hkn 0
        have c1 : W.cell? ⟨n, 1, none⟩ = some (.string ⟨xm.toArray⟩) := cell_of_blk hkn 1
        have c2 : W.cell? ⟨n, 2, none⟩ = some (.string ⟨xek.toArray⟩) := cell_of_blk hkn 2
        have c3 : W.cell? ⟨n, 3, none⟩ = some (.int .i64 xen) := cell_of_blk hkn 3
        have c4 : W.cell? ⟨n, 4, none⟩ = some (.string ⟨xem.toArray⟩) := cell_of_blk hkn 4
        have c5 : W.cell? ⟨n, 5, none⟩ = some (.slice b1 xes.length d1) := cell_of_blk hkn 5
        have c6 : W.cell? ⟨n, 6, none⟩ = some (.slice b2 xt.length d2) := cell_of_blk hkn 6
        have c7 : W.cell? ⟨n, 7, none⟩ = some (.slice b3 xo.length d3) := cell_of_blk hkn 7
        have hzW := hbW.size
        have hoW := owns_below HOW.out hbW
        have HXW := hidX hxW
        have HOW2 := hidX hoW
        have hnc := new_cells W #[.string ⟨xk.toArray⟩, .string ⟨xm.toArray⟩, .string ⟨xek.toArray⟩, .int .i64 xen, .string ⟨xem.toArray⟩, .slice b1 xes.length d1, .slice b2 xt.length d2, .slice b3 xo.length d3] 63
        have HNC := hidX hnc
        have hbB := box_blk W #[.string ⟨xk.toArray⟩, .string ⟨xm.toArray⟩, .string ⟨xek.toArray⟩, .int .i64 xen, .string ⟨xem.toArray⟩, .slice b1 xes.length d1, .slice b2 xt.length d2, .slice b3 xo.length d3] 63
        have HBB := hidX hbB
        clear hkn hxW hoW hnc hbB a0 a1 a2 a3 a4 a5 a6 a7
        go_wp2_with (at_builtin; refine wpList_append_own_at _ rfl _ _ 61 rfl w.heap.size 63 i0 _ 8 144 Tryz.underlying61 hi hy0 hy1 hy2 rfl (by decide) (.slice advs q capvs) q ys rfl (HOW2.out.alloc _) ⟨W.heap.size, 0, none⟩ 1 1 [.string ⟨xk.toArray⟩, .string ⟨xm.toArray⟩, .string ⟨xek.toArray⟩, .int .i64 xen, .string ⟨xem.toArray⟩, .slice b1 xes.length d1, .slice b2 xt.length d2, .slice b3 xo.length d3] rfl rfl HNC.out (stmt_one xk xm xek xem xen b1 b2 b3 xes.length d1 xt.length d2 xo.length d3) (by unfold maxLen; omega) (by omega) (by simp; omega) ?_; intro v' w5 hown' hgrow _ hloc)
        have hxs := app_keep (Rep := XS) (Reps := XSs) XSs.imp XS.imp XSs.snoc HOW.out HXS.out hbW (XS.imp (fun b hb => ⟨hb.1, hb.2.1⟩) (fun _ _ => rfl) _ _ HXW.out) HBB.out hzr hgrow (by simpa using hloc)
        rw [← HTK.out] at hxs
        have hb5 : Below w.heap.size w w5 := grown_below (bl_trans (bl_trans hbl hbl.size hbW) (Nat.le_trans hbl.size hbW.size) HBB.out) (Nat.le_refl _) HOW.out hgrow
        have HX5 := hidX hxs
        have HO5 := hidX hown'
        clear hxs hown' hgrow hloc c0 c1 c2 c3 c4 c5 c6 c7
        go_roundw
        case rel => exact ⟨q + 1, _, by omega, by go_num, hb5, HO5.out, HX5.out⟩
        case measure => simp [intOf]; omega
    · have hqn : q = l.length := by omega
      subst hqn
      have hxs := HXS.out
      rw [List.take_length] at hxs
      have hxr := xrow_own HOW.out
      have HXS2 := hidX hxs
      have HXR := hidX hxr
      clear hxs hxr
      go_wp2
      go_ret
      exact ⟨hbl, advs, capvs, rfl, ys, HXR.out.imp (fun b hb => hb) (fun b hb => rfl), XSs.imp (fun b hb => ⟨hb.1, hb.2.1⟩) (fun b hb => rfl) _ _ HXS2.out⟩
mutual
theorem as_sm : ∀ e : Sm, AsSm e
  | .mk _ _ _ t o => ⟨as_list t (as_sms t), as_list o (as_sms o)⟩
theorem as_sms : ∀ l : List Sm, ∀ e ∈ l, AsSm e
  | [], _, h => absurd h (by simp)
  | e :: r, x, h => by
    rcases List.mem_cons.1 h with h | h
    · rw [h]; exact as_sm e
    · exact as_sms r x h
end
theorem asStmts_any (l : List Sm) : AsL l := as_list l (as_sms l)
end Go.Proofs.YtcebpmaggnephacGreatDoor

/-
  Our own: functions of the reference's make, as the package has them.
-/
namespace Go.Proofs.YtcebpmaggnephacGreatDoor
open Go.RowKit

theorem textsC_one (l : List (List UInt8)) : ∀ u ∈ textsC l, u.oneCell' = true := by
  intro u hu
  obtain ⟨x, _, rfl⟩ := List.mem_map.1 hu
  rfl
theorem textsC_len (l : List (List UInt8)) : (textsC l).length = l.length * 1 := by simp [textsC]
theorem xrow_cells {A : Nat → Prop} {w : World} {a : Addr} {c : Nat} {l : List (List UInt8)} (h : XRow A w (.slice (some a) l.length c) l.length (textsC l)) : ∀ j u, (textsC l)[j]? = some u → w.cell? (a.add j) = some u := by
  intro j u hu
  have hj : j < l.length := by
    rcases Nat.lt_or_ge j (textsC l).length with h' | h'
    · simpa [textsC] using h'
    · rw [List.getElem?_eq_none h'] at hu; cases hu
  obtain ⟨g, off, e, _, _, hc⟩ := h.get (by omega)
  injection e with e
  subst e
  rw [← hc j u hu]
  congr 1
  unfold Addr.add
  split
  · next h0 => rw [h0, Nat.add_zero]
  · rfl
/-- What append(p, texts...) of no list leaves: a list of the same texts. -/
theorem run_append_texts (w : World) (ty : TypeId) (sv : Value) (l : List (List UInt8)) (hl : l.length ≤ 5000) (h : XRow (InH w) w sv l.length (textsC l)) :
    ∃ ad c w', (Builtin.append_ #[37, 37] ty #[.slice none 0 0, sv]).run Tryz.prog w = .ok (.slice ad l.length c) w' ∧ w'.ownsRow w.heap.size 9 1 (.slice ad l.length c) l.length (textsC l) ∧ Below w.heap.size w w' := by
  obtain ⟨i0, hi, hz0, hz1, hz2⟩ := info_parts text_info
  obtain ⟨ad, cap, rfl⟩ := h.is
  cases ad with
  | some a =>
    obtain ⟨v', w', hrun, hown, hg, _, _⟩ := run_append_own_at (P := Tryz.prog) w w.heap.size 37 ty 9 i0 _ 1 16 Tryz.underlying37 hi hz0 hz1 hz2 rfl (by decide) (.slice none 0 0) 0 [] (World.ownsRow_nil _ _ _ _) a l.length cap (textsC l) (textsC_len l) (xrow_cells h) (textsC_one l) (by unfold maxLen; omega) (by omega) (Nat.le_refl _)
    rw [Nat.zero_add, List.nil_append] at hown
    obtain ⟨ad', c', rfl⟩ := own_is hown
    exact ⟨ad', c', w', hrun, hown, (Below.refl w.heap.size w).grown hg (Nat.le_refl _) (fun k hk => by cases hk)⟩
  | none =>
    have h0 : l = [] := by
      rcases Nat.eq_zero_or_pos l.length with h' | h'
      · exact List.length_eq_zero_iff.1 h'
      · obtain ⟨g, off, e, _⟩ := h.get (by omega); cases e
    subst h0
    refine ⟨none, 0, w, ?_, World.ownsRow_nil _ _ _ _, Below.refl _ _⟩
    simp [Builtin.append_, run_underlying Tryz.underlying37, sizeOf, typeInfo, hi, Builtin.lenOf, Builtin.firstCells]
/-- .. as one step of a region that draws its order. -/
theorem step_append_texts {ops : Array Oper} {o : Oper} {a : Act} {w : World} {K : Act → World → Prop} {Q : Exit → Act → World → Prop} {E : Prop} (hgd : o.guard = none) (s x : Operand)
    (ho : o.op = .call { callee := .builtin .append, args := #[s, x], argTypes := #[37, 37] }) (hs : a.eval s = .slice none 0 0) (sv : Value) (hx : a.eval x = sv) (l : List (List UInt8)) (hl : l.length ≤ 5000) (h : XRow (InH w) w sv l.length (textsC l))
    (hk : ∀ ad c w', w'.ownsRow w.heap.size 9 1 (.slice ad l.length c) l.length (textsC l) → Below w.heap.size w w' → K (a.put o.dst (.slice ad l.length c)) w') :
    if Region.wanted o (yielded ops a.tmps) = true then Oper.wp Tryz.prog o a w K Q else E := by
  have hw : Region.wanted o (yielded ops a.tmps) = true := by simp [Region.wanted, hgd]
  rw [if_pos hw]
  obtain ⟨ad, c, w', hr, h1, h2⟩ := run_append_texts w o.type sv l hl h
  unfold Oper.wp execOp
  simp only [ho, resolve, invoke, builtin, Sem.run_bind, Sem.run_pure, Result.andThen_ok, List.map_toArray, List.map_cons, List.map_nil, hs, hx, hr]
  exact hk _ _ _ h1 h2
/-- .. in the walk. -/
theorem wpList_append_texts {ops : Array Oper} {rest : List Oper} {o : Oper} {a : Act} {w : World} {Q : Exit → Act → World → Prop} (hgd : o.guard = none) (s x : Operand)
    (ho : o.op = .call { callee := .builtin .append, args := #[s, x], argTypes := #[37, 37] }) (hs : a.eval s = .slice none 0 0) (sv : Value) (hx : a.eval x = sv) (l : List (List UInt8)) (hl : l.length ≤ 5000) (h : XRow (InH w) w sv l.length (textsC l))
    (hk : ∀ ad c w', w'.ownsRow w.heap.size 9 1 (.slice ad l.length c) l.length (textsC l) → Below w.heap.size w w' → wpList Tryz.prog ops Q rest (a.put o.dst (.slice ad l.length c)) w') :
    wpList Tryz.prog ops Q (o :: rest) a w := by
  refine wpList_plain hgd fun K hK => ?_
  obtain ⟨ad, c, w', hr, h1, h2⟩ := run_append_texts w o.type sv l hl h
  unfold Oper.wp execOp
  simp only [ho, resolve, invoke, builtin, Sem.run_bind, Sem.run_pure, Result.andThen_ok, List.map_toArray, List.map_cons, List.map_nil, hs, hx, hr]
  exact hK _ _ (hk _ _ _ h1 h2)
theorem setX3_blk {w : World} {r : Nat} {x0 x1 x2 : Value} {t : TypeId} (h : w.heap[r]? = some (.cells #[x0, x1, x2] t (0, 0))) (u0 u1 u2 : Value) :
    (((w.setCell ⟨r, 0, none⟩ u0).setCell ⟨r, 1, none⟩ u1).setCell ⟨r, 2, none⟩ u2).heap[r]? = some (.cells #[u0, u1, u2] t (0, 0)) := by
  have := blk_setCell (blk_setCell (blk_setCell h 0 u0) 1 u1) 2 u2
  simpa using this
theorem setX3_far {w : World} {r k : Nat} {u0 u1 u2 : Value} (h : k ≠ r) : (((w.setCell ⟨r, 0, none⟩ u0).setCell ⟨r, 1, none⟩ u1).setCell ⟨r, 2, none⟩ u2).heap[k]? = w.heap[k]? := by
  rw [Below.heap_setCell _ _ _ _ h, Below.heap_setCell _ _ _ _ h, Below.heap_setCell _ _ _ _ h]
theorem setX3_size {w : World} {r : Nat} {u0 u1 u2 : Value} : (((w.setCell ⟨r, 0, none⟩ u0).setCell ⟨r, 1, none⟩ u1).setCell ⟨r, 2, none⟩ u2).heap.size = w.heap.size := by simp [World.setCell]
/-- The end of a function that hands back a Fun out of block r. -/
theorem retX3 {fn : Func} {R : Ending → World → Prop} {tmps : Array Value} {w : World} {r sl : Nat} {x0 x1 x2 : Value} (hres : fn.results = #[ResultVar.cell sl 65]) (hsl : tmps[sl]? = some (.pointer (some ⟨r, 0, none⟩)))
    (hx : w.heap[r]? = some (.cells #[x0, x1, x2] 65 (0, 0))) (k : ByteArray) (u v : Value)
    (h : R (.returned (.agg #[.string k, u, v])) (((w.setCell ⟨r, 0, none⟩ (.string k)).setCell ⟨r, 1, none⟩ u).setCell ⟨r, 2, none⟩ v)) :
    bodyPost Tryz.prog fn R Exit.ret { tmps := tmps, defers := [] } (((w.setCell ⟨r, 0, none⟩ (.string k)).setCell ⟨r, 1, none⟩ u).setCell ⟨r, 2, none⟩ v) := by
  have h4 := setX3_blk hx (.string k) u v
  generalize (((w.setCell ⟨r, 0, none⟩ (.string k)).setCell ⟨r, 1, none⟩ u).setCell ⟨r, 2, none⟩ v) = W at h h4 ⊢
  have s0 : W.cell? ⟨r, 0, none⟩ = some (.string k) := cell_of_blk h4 0
  have s1 : W.cell? ⟨r, 1, none⟩ = some u := cell_of_blk h4 1
  have s2 : W.cell? ⟨r, 2, none⟩ = some v := cell_of_blk h4 2
  refine bodyPost_ret (v := .agg #[.string k, u, v]) ?_ rfl h
  simp [results, hres, hsl, go_sem, s0, s1, s2]
theorem two_drew {w w2 : World} {A B : Obj} (hb : Below ((w.alloc A).alloc B).drew.heap.size ((w.alloc A).alloc B).drew w2) : w2.heap[w.heap.size]? = some A ∧ w2.heap[w.heap.size + 1]? = some B ∧ Below w.heap.size w w2 ∧ w.heap.size + 2 ≤ w2.heap.size := by
  have hs : ((w.alloc A).alloc B).drew.heap.size = w.heap.size + 2 := by show ((w.alloc A).alloc B).heap.size = _; simp
  have h0 : Below w.heap.size w ((w.alloc A).alloc B).drew := (((Below.refl w.heap.size w).alloc (Nat.le_refl _) _).alloc (by simp) _).drew
  have hz := hb.size
  have e1 : ((w.alloc A).alloc B).drew.heap[w.heap.size]? = some A := (Below.heap_alloc (w.alloc A) B _ (by simp)).trans (heap_alloc_new w A)
  have e2 : ((w.alloc A).alloc B).drew.heap[w.heap.size + 1]? = some B := by
    have := heap_alloc_new (w.alloc A) B
    rw [show (w.alloc A).heap.size = w.heap.size + 1 by simp] at this
    exact this
  exact ⟨(hb.block _ (by omega)).trans e1, (hb.block _ (by omega)).trans e2, bl_trans h0 h0.size hb, by omega⟩
theorem three_cells {w : World} {b : Nat} {x y z : Value} {t : TypeId} (h : w.heap[b]? = some (.cells #[x, y, z] t (0, 0))) : w.cell? ⟨b, 0, none⟩ = some x ∧ w.cell? ⟨b, 1, none⟩ = some y ∧ w.cell? ⟨b, 2, none⟩ = some z ∧ w.frozen? ⟨b, 0, none⟩ = false ∧ w.frozen? ⟨b, 1, none⟩ = false ∧ w.frozen? ⟨b, 2, none⟩ = false :=
  ⟨cell_of_blk h 0, cell_of_blk h 1, cell_of_blk h 2, free_of_blk h 0, free_of_blk h 1, free_of_blk h 2⟩
set_option maxRecDepth 100000 in
set_option maxHeartbeats 4000000 in
theorem asFun_any (x : Fu) (w : World) (cs : List Value) (hX : XF (InH w) w x cs) (hL : LowF x) :
    Calls Tryz.prog 26 #[.agg cs.toArray] w fun ev w' => Below w.heap.size w w' ∧ ∃ u v, ev = .returned (.agg #[.string ⟨x.name.toArray⟩, u, v]) ∧ XF (Nw w w') w' x [.string ⟨x.name.toArray⟩, u, v] := by
  obtain ⟨xn, xp, xb⟩ := x
  obtain ⟨pv, bv, bs, rfl, r2, r3, r4⟩ := hX
  obtain ⟨l1, l2, l3, l4, l5⟩ := hL
  simp only at r2 r3 r4 l1 l2 l3 l4 l5
  obtain ⟨adp, cp, rfl⟩ := r2.is
  obtain ⟨adb, cb, rfl⟩ := r3.is
  have hB : ∀ X, Below w.heap.size w X → Calls Tryz.prog 56 #[.slice adb xb.length cb] X fun ev w' => Below X.heap.size X w' ∧ ∃ ad c, ev = .returned (.slice ad xb.length c) ∧ XLS (Nw X w') w' (.slice ad xb.length c) xb := fun X hX =>
    asStmts_any xb X _ ⟨bs, r3.imp (inH_up hX) (keepH hX), XSs.imp (inH_up hX) (keepH hX) _ _ r4⟩ l4 l5
  have hP : ∀ X, Below w.heap.size w X → XRow (InH X) X (.slice adp xp.length cp) xp.length (textsC xp) := fun X hX => r2.imp (inH_up hX) (keepH hX)
  have HB := hidX hB
  have HP := hidX hP
  clear hB hP r2 r3 r4 l5 l3
  go_enter Tryz.func26, Tryz.ntmps26
  go_wp2_with fail
  go_region_held3 (fun W => W.cell? ⟨w.heap.size, 0, none⟩ = some (.string ⟨xn.toArray⟩) ∧ W.cell? ⟨w.heap.size, 1, none⟩ = some (.slice adp xp.length cp) ∧ W.cell? ⟨w.heap.size, 2, none⟩ = some (.slice adb xb.length cb)) (go_keep)
    (first
      | (refine step_append_texts rfl (.tmp 6) (.tmp 8) rfl (by simp [Act.eval]) (.slice adp xp.length cp) (by simp [Act.eval]) xp (by omega) (HP.out _ (by (repeat (first | exact Below.refl _ _ | assumption | refine Below.drew ?_ | refine Below.trans ?_ (drewN_below' _ _ _) | refine Below.setCell ?_ (by first | (simp; done) | (simp; omega)) _ | refine Below.alloc ?_ (by first | (simp; done) | (simp; omega)) _)))) ?_; intro ad2 c2 w2 ho2 hb2; obtain ⟨t0, t1, t2, t3⟩ := two_drew hb2; obtain ⟨p0, p1, p2, _⟩ := three_cells t0; have HO2 := hidX ho2; have T0 := hidX t0; have T1 := hidX t1; clear ho2 t0 t1)
      | (go_at_call 56; refine (HB.out _ t2).mono ?_; rintro e w3 ⟨hb3, ad3, c3, rfl, hx3⟩; have z3 := hb3.size; have T3 := hidX ((hb3.block _ (by omega)).trans T0.out); obtain ⟨q0, q1, q2, _⟩ := three_cells T3.out; have T4 := hidX ((hb3.block _ (by omega)).trans T1.out); obtain ⟨y0, y1, y2, g0, g1, g2⟩ := three_cells T4.out; have HX3 := hidX hx3; clear hx3))
  clear p0 p1 p2 q0 q1 q2
  have hs2 : w.heap.size + 2 ≤ ((w.alloc (.cells #[.string ⟨xn.toArray⟩, .slice adp xp.length cp, .slice adb xb.length cb] 40)).alloc (.cells #[.string ⟨#[]⟩, .slice none 0 0, .slice none 0 0] 65)).drew.heap.size := by
    show w.heap.size + 2 ≤ ((w.alloc _).alloc _).heap.size; simp
  have hxr := xrow_own HO2.out
  have HXR := hidX hxr
  have HS2 := hidX hs2
  clear hxr hs2 hb2
  go_wp2
  refine retX3 (sl := 2) (by kernel_rfl) rfl T4.out _ _ _ ?_
  obtain ⟨ys, y4, y5⟩ := HX3.out
  have hs2 := HS2.out
  refine ⟨?_, _, _, rfl, _, _, ys, rfl, HXR.out.imp (fun b hb => ⟨by have := hb.1; omega, by rw [setX3_size]; have := hb.2; omega⟩) (fun b hb => (setX3_far (by have := hb.1; omega)).trans (hb3.block b hb.2)), y4.imp (fun b hb => ⟨by have := hb.1; omega, by rw [setX3_size]; exact hb.2⟩) (fun b hb => setX3_far (by have := hb.1; omega)), XSs.imp (fun b hb => ⟨by have := hb.1; omega, by rw [setX3_size]; exact hb.2⟩) (fun b hb => setX3_far (by have := hb.1; omega)) _ _ y5⟩
  exact (((bl_trans t2 t2.size hb3).setCell (by show w.heap.size ≤ w.heap.size + 1; omega) _).setCell (by show w.heap.size ≤ w.heap.size + 1; omega) _).setCell (by show w.heap.size ≤ w.heap.size + 1; omega) _
theorem fun_info : (Tryz.prog.info? 65).map (fun i => (i.zero, i.size, i.bytes)) = some (some (.agg #[.string ⟨#[]⟩, .slice none 0 0, .slice none 0 0]), 3, 64) := by kernel_rfl
theorem fun_one (k : List UInt8) (a1 a2 : Option Addr) (l1 c1 l2 c2 : Nat) : ∀ u ∈ ([.string ⟨k.toArray⟩, .slice a1 l1 c1, .slice a2 l2 c2] : List Value), u.oneCell' = true := by
  intro u hu
  simp only [List.mem_cons, List.not_mem_nil, or_false] at hu
  rcases hu with rfl | rfl | rfl <;> rfl
set_option maxRecDepth 100000 in
set_option maxHeartbeats 4000000 in
theorem asFuns_any (l : List Fu) (hl : l.length ≤ 10) (hL : ∀ f ∈ l, LowF f) (w : World) (v : Value) (hX : XLF (InH w) w v l) :
    Calls Tryz.prog 8 #[v] w fun ev w' => Below w.heap.size w w' ∧ ∃ v' ys, ev = .returned v' ∧ w'.ownsRow w.heap.size 65 3 v' l.length ys ∧ XFs (KA w.heap.size w' v') w' l ys := by
  obtain ⟨xs, hr, hk⟩ := hX
  obtain ⟨ad, cap, rfl⟩ := hr.is
  obtain ⟨i0, hi, hy0, hy1, hy2⟩ := info_parts fun_info
  have hl' : (l.length : Int) ≤ 10 := by omega
  have R := hidX hr
  have KK := hidX hk
  have LL := hidX hL
  clear hr hk hL
  go_enter Tryz.func8, Tryz.ntmps8
  go_wp2_with fail
  go_loopw [3, 4] (fun vo vi wr => ∃ (q : Nat) (ys : List Value), q ≤ l.length ∧ vi = .int .i64 q ∧ Below w.heap.size w wr ∧ wr.ownsRow w.heap.size 65 3 vo q ys ∧ Hid (XFs (KA w.heap.size wr vo) wr (l.take q) ys)) (fun _ vi _ => l.length - (intOf vi).toNat)
  case atStart => exact ⟨0, [], Nat.zero_le _, rfl, by (repeat (first | exact Below.refl _ _ | assumption | refine Below.drew ?_ | refine Below.trans ?_ (drewN_below' _ _ _) | refine Below.setCell ?_ (by first | (simp; done) | (simp; omega)) _ | refine Below.alloc ?_ (by first | (simp; done) | (simp; omega)) _)), World.ownsRow_nil _ _ _ _, rfl⟩
  case round =>
    obtain ⟨q, ys, hq, rfl, hbl, hown, HXS⟩ := hrel
    obtain ⟨advs, capvs, rfl⟩ := own_sl hown
    have HOW := hidX hown
    have hzr := hbl.size
    clear hown
    by_cases hlt : q < l.length
    · have hlt' : (q : Int) < (l.length : Int) := by omega
      obtain ⟨ka, e1, e2⟩ := KK.out.at hlt
      have hlx := LL.out _ (List.getElem_mem hlt)
      have htk : l.take (q + 1) = l.take q ++ [l[q]] := List.take_succ_eq_append_getElem hlt
      generalize l[q] = x at e1 hlx htk
      have hcall := asFun_any x wr ka (XF.imp (inH_up hbl) (keepH hbl) _ _ e1) hlx
      obtain ⟨xn, xp, xb⟩ := x
      obtain ⟨pv, bv, bs, rfl, r2, r3, r4⟩ := e1
      simp only at r2 r3 r4 hcall e2
      obtain ⟨ga, off, rfl, hga, g1⟩ := x3_at R.out hlt e2
      obtain ⟨adp, cp, rfl⟩ := r2.is
      obtain ⟨adb, cb, rfl⟩ := r3.is
      have k1 := g1.keep (hbl.block ga hga)
      have a0 := k1.c0
      have a1' := k1.c1
      have a2' := k1.c2
      have HCL := hidX hcall
      have HTK := hidX htk
      clear hcall r2 r3 r4 e2 g1 k1 hlx htk
      go_wp2_with fail
      refine HCL.out.mono ?_
      rintro e W ⟨hbW, u, u', rfl, hxW⟩
      obtain ⟨pv2, bv2, bs2, e3, s2, s3, s4⟩ := hxW
      injection e3 with _ e3
      injection e3 with e4 e3
      injection e3 with e5 _
      subst e4 e5
      simp only at s2 s3 s4
      obtain ⟨a1, c1, rfl⟩ := s2.is
      obtain ⟨a2, c2, rfl⟩ := s3.is
      have HXW : Hid (XF (Nw wr W) W ⟨xn, xp, xb⟩ [.string ⟨xn.toArray⟩, .slice a1 xp.length c1, .slice a2 xb.length c2]) := ⟨_, _, bs2, rfl, s2, s3, s4⟩
      have hzW := hbW.size
      have HOW2 := hidX (owns_below HOW.out hbW)
      have hnc := new_two W (.cells #[.string ⟨xn.toArray⟩, .slice a1 xp.length c1, .slice a2 xb.length c2] 65) #[.string ⟨xn.toArray⟩, .slice a1 xp.length c1, .slice a2 xb.length c2] 65
      have HNC := hidX hnc
      have hbB : Below W.heap.size W ((W.alloc (.cells #[.string ⟨xn.toArray⟩, .slice a1 xp.length c1, .slice a2 xb.length c2] 65)).alloc (.cells #[.string ⟨xn.toArray⟩, .slice a1 xp.length c1, .slice a2 xb.length c2] 65)) := bl_trans (box_blk _ _ _) (by simp) (box_blk _ _ _)
      have HBB := hidX hbB
      clear hnc hbB a0 a1' a2' s2 s3 s4 HCL
      go_wp2_with (at_builtin; refine wpList_append_own_at _ rfl _ _ 32 rfl w.heap.size 65 i0 _ 3 64 Tryz.underlying32 hi hy0 hy1 hy2 rfl (by decide) (.slice advs q capvs) q ys rfl (owns_below HOW2.out HBB.out) ⟨W.heap.size + 1, 0, none⟩ 1 1 [.string ⟨xn.toArray⟩, .slice a1 xp.length c1, .slice a2 xb.length c2] rfl rfl HNC.out (fun_one xn a1 a2 xp.length c1 xb.length c2) (by unfold maxLen; omega) (by omega) (by simp; omega) ?_; intro v' w5 hown' hgrow _ hloc)
      have hxs := app_keep (Rep := XF) (Reps := XFs) XFs.imp XF.imp XFs.snoc HOW.out HXS.out hbW HXW.out HBB.out hzr hgrow (by simpa using hloc)
      rw [← HTK.out] at hxs
      have hb5 : Below w.heap.size w w5 := grown_below (bl_trans (bl_trans hbl hbl.size hbW) (Nat.le_trans hbl.size hbW.size) HBB.out) (Nat.le_refl _) HOW.out hgrow
      have HX5 := hidX hxs
      have HO5 := hidX hown'
      clear hxs hown' hgrow hloc
      go_roundw
      case rel => exact ⟨q + 1, _, by omega, by go_num, hb5, HO5.out, HX5.out⟩
      case measure => simp [intOf]; omega
    · have hqn : q = l.length := by omega
      subst hqn
      have hxs := HXS.out
      rw [List.take_length] at hxs
      have HXS2 := hidX hxs
      clear hxs
      go_wp2
      go_ret
      exact ⟨hbl, _, ys, rfl, HOW.out, HXS2.out⟩
end Go.Proofs.YtcebpmaggnephacGreatDoor
