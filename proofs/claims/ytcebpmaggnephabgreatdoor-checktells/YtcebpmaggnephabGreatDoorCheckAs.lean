/-
  Our own: trees of the reference's make, as the package has them.
-/
import Derived.Test.YtcebpmaggnephabGreatDoorCheckLarge
import Derived.Test.YtcebpmaggnephabGreatDoorCheckIs
namespace Go.Proofs.YtcebpmaggnephabGreatDoor
open Go.RowKit

/-- Blocks from B on, but for a row's own. -/
abbrev KA (B : Nat) (w : World) (v : Value) (b : Nat) : Prop := B ≤ b ∧ b < w.heap.size ∧ v.ownBlock ≠ some b
/-- Blocks that came between two worlds. -/
abbrev Nw (w w' : World) (b : Nat) : Prop := w.heap.size ≤ b ∧ b < w'.heap.size
theorem app_keep {α : Type} {Rep : (Nat → Prop) → World → α → List Value → Prop} {Reps : (Nat → Prop) → World → List α → List Value → Prop}
    (imp : ∀ {A C : Nat → Prop} {w w' : World}, (∀ b, A b → C b) → KeepA A w w' → ∀ l xs, Reps A w l xs → Reps C w' l xs) (impR : ∀ {A C : Nat → Prop} {w w' : World}, (∀ b, A b → C b) → KeepA A w w' → ∀ l xs, Rep A w l xs → Rep C w' l xs)
    (snoc : ∀ {A : Nat → Prop} {w : World} {l : List α} {xs : List Value} {e : α} {cs : List Value}, Reps A w l xs → Rep A w e cs → Reps A w (l ++ [e]) (xs ++ cs))
    {B n size : Nat} {t : TypeId} {w w1 w2 w3 : World} {v v' : Value} {l : List α} {xs cs : List Value} {x : α}
    (ho : w.ownsRow B t size v n xs) (hk : Reps (KA B w v) w l xs) (h1 : Below w.heap.size w w1) (hx : Rep (Nw w w1) w1 x cs) (h2 : Below w1.heap.size w1 w2) (hB : B ≤ w.heap.size) (hg : w2.grownBy w3 v.ownBlock) (hl : v'.ownBlock = v.ownBlock ∨ v'.ownBlock = some w2.heap.size) :
    Reps (KA B w3 v') w3 (l ++ [x]) (xs ++ cs) := by
  have z1 := h1.size
  have z2 := h2.size
  have z3 := hg.size
  have hown : ∀ b, v.ownBlock = some b → b < w.heap.size := fun b hb => (ho.lt b hb).2
  refine snoc (imp (fun b hb => ?_) (fun b hb => ?_) _ _ hk) (impR (fun b hb => ?_) (fun b hb => ?_) _ _ hx)
  · refine ⟨hb.1, by have := hb.2.1; omega, ?_⟩
    rcases hl with e | e
    · rw [e]; exact hb.2.2
    · rw [e]; intro e'; injection e' with e'; have := hb.2.1; omega
  · have hbl := hb.2.1
    rw [hg.block b (by omega) (fun e => hb.2.2 e.symm), h2.block b (by omega), h1.block b hbl]
  · have hb1 := hb.1
    refine ⟨by omega, by have := hb.2; omega, ?_⟩
    rcases hl with e | e
    · rw [e]; intro e'; have := hown b e'; omega
    · rw [e]; intro e'; injection e' with e'; have := hb.2; omega
  · have hb1 := hb.1
    have hb2 := hb.2
    rw [hg.block b (by omega) (fun e => by have := hown b e.symm; omega), h2.block b hb2]
theorem three_blks (w : World) (a b c : Obj) : (((w.alloc a).alloc b).alloc c).heap[w.heap.size]? = some a ∧ (((w.alloc a).alloc b).alloc c).heap[w.heap.size + 1]? = some b ∧ (((w.alloc a).alloc b).alloc c).heap[w.heap.size + 1 + 1]? = some c ∧ (((w.alloc a).alloc b).alloc c).heap.size = w.heap.size + 3 := by
  refine ⟨?_, ?_, ?_, by simp⟩
  · rw [Below.heap_alloc _ _ _ (by simp; omega), Below.heap_alloc _ _ _ (by simp), heap_alloc_new]
  · rw [Below.heap_alloc _ _ _ (by simp)]
    have := heap_alloc_new (w.alloc a) b
    rwa [show (w.alloc a).heap.size = w.heap.size + 1 by simp] at this
  · have := heap_alloc_new ((w.alloc a).alloc b) c
    rwa [show ((w.alloc a).alloc b).heap.size = w.heap.size + 1 + 1 by simp] at this
theorem setX4_blk {w : World} {r : Nat} {x0 x1 x2 x3 : Value} {t : TypeId} (h : w.heap[r]? = some (.cells #[x0, x1, x2, x3] t (0, 0))) (u0 u1 u2 u3 : Value) :
    ((((w.setCell ⟨r, 0, none⟩ u0).setCell ⟨r, 1, none⟩ u1).setCell ⟨r, 2, none⟩ u2).setCell ⟨r, 3, none⟩ u3).heap[r]? = some (.cells #[u0, u1, u2, u3] t (0, 0)) := by
  have := blk_setCell (blk_setCell (blk_setCell (blk_setCell h 0 u0) 1 u1) 2 u2) 3 u3
  simpa using this
theorem setX4_far {w : World} {r k : Nat} {u0 u1 u2 u3 : Value} (h : k ≠ r) : ((((w.setCell ⟨r, 0, none⟩ u0).setCell ⟨r, 1, none⟩ u1).setCell ⟨r, 2, none⟩ u2).setCell ⟨r, 3, none⟩ u3).heap[k]? = w.heap[k]? := by
  rw [Below.heap_setCell _ _ _ _ h, Below.heap_setCell _ _ _ _ h, Below.heap_setCell _ _ _ _ h, Below.heap_setCell _ _ _ _ h]
theorem setX4_size {w : World} {r : Nat} {u0 u1 u2 u3 : Value} : ((((w.setCell ⟨r, 0, none⟩ u0).setCell ⟨r, 1, none⟩ u1).setCell ⟨r, 2, none⟩ u2).setCell ⟨r, 3, none⟩ u3).heap.size = w.heap.size := by simp [World.setCell]
/-- The end of a function that hands back an Expr out of block r. -/
theorem retX4 {fn : Func} {R : Ending → World → Prop} {tmps : Array Value} {w : World} {r sl : Nat} {x0 x1 x2 x3 : Value} (hres : fn.results = #[ResultVar.cell sl 60]) (hsl : tmps[sl]? = some (.pointer (some ⟨r, 0, none⟩)))
    (hx : w.heap[r]? = some (.cells #[x0, x1, x2, x3] 60 (0, 0))) (k : ByteArray) (n : Int) (m : ByteArray) (v : Value)
    (h : R (.returned (.agg #[.string k, .int .i64 n, .string m, v])) ((((w.setCell ⟨r, 0, none⟩ (.string k)).setCell ⟨r, 1, none⟩ (.int .i64 n)).setCell ⟨r, 2, none⟩ (.string m)).setCell ⟨r, 3, none⟩ v)) :
    bodyPost Tryz.prog fn R Exit.ret { tmps := tmps, defers := [] } ((((w.setCell ⟨r, 0, none⟩ (.string k)).setCell ⟨r, 1, none⟩ (.int .i64 n)).setCell ⟨r, 2, none⟩ (.string m)).setCell ⟨r, 3, none⟩ v) := by
  have h4 := setX4_blk hx (.string k) (.int .i64 n) (.string m) v
  generalize ((((w.setCell ⟨r, 0, none⟩ (.string k)).setCell ⟨r, 1, none⟩ (.int .i64 n)).setCell ⟨r, 2, none⟩ (.string m)).setCell ⟨r, 3, none⟩ v) = W at h h4 ⊢
  have s0 : W.cell? ⟨r, 0, none⟩ = some (.string k) := cell_of_blk h4 0
  have s1 : W.cell? ⟨r, 1, none⟩ = some (.int .i64 n) := cell_of_blk h4 1
  have s2 : W.cell? ⟨r, 2, none⟩ = some (.string m) := cell_of_blk h4 2
  have s3 : W.cell? ⟨r, 3, none⟩ = some v := cell_of_blk h4 3
  refine bodyPost_ret (v := .agg #[.string k, .int .i64 n, .string m, v]) ?_ rfl h
  simp [results, hres, hsl, go_sem, s0, s1, s2, s3]
theorem own_sl {w : World} {B size : Nat} {t : TypeId} {v : Value} {n : Nat} {xs : List Value} (h : w.ownsRow B t size v n xs) : ∃ a cap, v = .slice a n cap := by
  rcases id h with ⟨_, ⟨rfl, rfl⟩ | ⟨g, cap, cur, rfl, _⟩⟩
  · exact ⟨_, _, rfl⟩
  · exact ⟨_, _, rfl⟩
theorem own_someX {w : World} {B size n : Nat} {t : TypeId} {v : Value} {xs : List Value} (h : w.ownsRow B t size v (n + 1) xs) : ∃ g cap, v = .slice (some ⟨g, 0, none⟩) (n + 1) cap := by
  rcases id h with ⟨_, ⟨_, h0⟩ | ⟨g, cap, cur, rfl, _⟩⟩
  · omega
  · exact ⟨g, cap, rfl⟩
theorem grown_blk {w w' : World} {row : Option Nat} (h : w.grownBy w' row) {b : Nat} {o : Obj} (hb : w.heap[b]? = some o) (hne : some b ≠ row) : w'.heap[b]? = some o := (h.block b (heap_lt hb) hne).trans hb
/-- Cells that were laid twice: the second ones. -/
theorem new_two (w : World) (o : Obj) (cs : Array Value) (t : TypeId) : ∀ j u, cs.toList[j]? = some u → ((w.alloc o).alloc (.cells cs t)).cell? ((⟨w.heap.size + 1, 0, none⟩ : Addr).add j) = some u := by
  intro j u hu
  have := new_cells (w.alloc o) cs t j u hu
  rwa [show (w.alloc o).heap.size = w.heap.size + 1 by simp] at this
def AsE (e : Ex) : Prop := ∀ (w : World) (cs : List Value), XE (InH w) w e cs → LowE e →
  Calls Tryz.prog 92 #[.agg cs.toArray] w fun ev w' => Below w.heap.size w w' ∧ ∃ cs', ev = .returned (.agg cs'.toArray) ∧ XE (Nw w w') w' e cs'
theorem expr_info : (Tryz.prog.info? 60).map (fun i => (i.zero, i.size, i.bytes)) = some (some (.agg #[.string ⟨#[]⟩, .int .i64 0, .string ⟨#[]⟩, .slice none 0 0]), 4, 64) := by kernel_rfl
theorem expr_one (k m : List UInt8) (n : Int) (ad : Option Addr) (l c : Nat) : ∀ u ∈ ([.string ⟨k.toArray⟩, .int .i64 n, .string ⟨m.toArray⟩, .slice ad l c] : List Value), u.oneCell' = true := by
  intro u hu
  simp only [List.mem_cons, List.not_mem_nil, or_false] at hu
  rcases hu with rfl | rfl | rfl | rfl <;> rfl
set_option maxRecDepth 100000 in
set_option maxHeartbeats 4000000 in
theorem as_mk (k : List UInt8) (n : Int) (mm : List UInt8) (ks : List Ex) (ih : ∀ e ∈ ks, AsE e) : AsE (.mk k n mm ks) := by
  intro w cs hX hL
  obtain ⟨v, xs, rfl, hr, hk⟩ := hX
  obtain ⟨ad, cap, rfl⟩ := hr.is
  obtain ⟨i0, hi, hy0, hy1, hy2⟩ := info_parts expr_info
  obtain ⟨l1, l2, l3⟩ := hL
  have l2' : (ks.length : Int) ≤ 8 := by omega
  have IH := hidX ih
  have R := hidX hr
  have KK := hidX hk
  have LL := hidX l3
  clear ih hr hk l3
  go_enter Tryz.func92, Tryz.ntmps92
  go_wp2_with fail
  obtain ⟨t0, t1, t2, t3⟩ := three_blks w (.cells #[.string ⟨k.toArray⟩, .int .i64 n, .string ⟨mm.toArray⟩, .slice ad ks.length cap] 112) (.cells #[.string ⟨#[]⟩, .int .i64 0, .string ⟨#[]⟩, .slice none 0 0] 60) (.cells #[.string ⟨k.toArray⟩, .int .i64 n, .string ⟨mm.toArray⟩, .slice none 0 0] 60)
  have T0 := hidX t0
  have T1 := hidX t1
  have T2 := hidX t2
  have T3 := hidX t3
  clear t0 t1 t2 t3
  go_loopw [4] (fun vi wr => ∃ (q : Nat) (vs : Value) (xs : List Value), q ≤ ks.length ∧ vi = .int .i64 q ∧ Below w.heap.size w wr ∧ w.heap.size + 3 ≤ wr.heap.size ∧ wr.heap[w.heap.size]? = some (.cells #[.string ⟨k.toArray⟩, .int .i64 n, .string ⟨mm.toArray⟩, .slice ad ks.length cap] 112 (0, 0)) ∧ wr.heap[w.heap.size + 1]? = some (.cells #[.string ⟨#[]⟩, .int .i64 0, .string ⟨#[]⟩, .slice none 0 0] 60 (0, 0)) ∧ wr.heap[w.heap.size + 1 + 1]? = some (.cells #[.string ⟨k.toArray⟩, .int .i64 n, .string ⟨mm.toArray⟩, vs] 60 (0, 0)) ∧ wr.ownsRow (w.heap.size + 3) 60 4 vs q xs ∧ Hid (XEs (KA (w.heap.size + 3) wr vs) wr (ks.take q) xs)) (fun vi _ => ks.length - (intOf vi).toNat)
  case atStart => exact ⟨0, .slice none 0 0, [], Nat.zero_le _, rfl, by (repeat (first | exact Below.refl _ _ | assumption | refine Below.drew ?_ | refine Below.trans ?_ (drewN_below' _ _ _) | refine Below.setCell ?_ (by first | (simp; done) | (simp; omega)) _ | refine Below.alloc ?_ (by first | (simp; done) | (simp; omega)) _)), by rw [T3.out]; exact Nat.le_refl _, T0.out, T1.out, T2.out, World.ownsRow_nil _ _ _ _, rfl⟩
  case round =>
    obtain ⟨q, vs, ys, hq, rfl, hbl, hz, hk0, hk1, hk2, hown, HXS⟩ := hrel
    obtain ⟨advs, capvs, rfl⟩ := own_sl hown
    have d3 : wr.cell? ⟨w.heap.size, 3, none⟩ = some (.slice ad ks.length cap) := cell_of_blk hk0 3
    have HK0 := hidX hk0
    have HK1 := hidX hk1
    have HK2 := hidX hk2
    have HOW := hidX hown
    clear hk0 hk1 hk2 hown T0 T1 T2 T3
    by_cases hlt : q < ks.length
    · have hlt' : (q : Int) < (ks.length : Int) := by omega
      obtain ⟨ka, e1, e2⟩ := KK.out.at hlt
      obtain ⟨ga, off, rfl, hga, g1⟩ := R.out.el 4 hlt e2
      have hx := IH.out _ (List.getElem_mem hlt)
      have hlx := LL.out.mem _ (List.getElem_mem hlt)
      have htk : ks.take (q + 1) = ks.take q ++ [ks[q]] := List.take_succ_eq_append_getElem hlt
      generalize ks[q] = x at e1 hx hlx htk
      have hcall := hx wr ka (XE.imp (inH_up hbl) (keepH hbl) _ _ e1) hlx
      obtain ⟨xk, xn, xm, xks⟩ := x
      obtain ⟨ya, za, rfl, ra, _⟩ := e1
      obtain ⟨ad1, cap1, rfl⟩ := ra.is
      have a0 := (hbl.cell (p := ⟨ga, _, none⟩) hga).trans (g1 0 _ (by decide) rfl)
      have a1 := (hbl.cell (p := ⟨ga, _, none⟩) hga).trans (g1 1 _ (by decide) rfl)
      have a2 := (hbl.cell (p := ⟨ga, _, none⟩) hga).trans (g1 2 _ (by decide) rfl)
      have a3 := (hbl.cell (p := ⟨ga, _, none⟩) hga).trans (g1 3 _ (by decide) rfl)
      rw [Nat.add_zero] at a0
      simp only [← Nat.add_assoc] at a1 a2 a3
      have HCL := hidX hcall
      have HTK := hidX htk
      clear g1 e2 ra hcall hx hlx htk
      go_wp2_with fail
      refine HCL.out.mono ?_
      rintro e w2 ⟨hb2, cs', rfl, hx2⟩
      have hz2 := hb2.size
      have b3 : w2.cell? ⟨w.heap.size + 1 + 1, 3, none⟩ = some (.slice advs q capvs) := cell_of_blk ((hb2.block _ (by omega)).trans HK2.out) 3
      obtain ⟨yv, yx, rfl, yr, ye⟩ := hx2
      obtain ⟨ad2, cap2, rfl⟩ := yr.is
      have HX2 : Hid (XE (Nw wr w2) w2 (.mk xk xn xm xks) [.string ⟨xk.toArray⟩, .int .i64 xn, .string ⟨xm.toArray⟩, .slice ad2 xks.length cap2]) := ⟨_, yx, rfl, yr, ye⟩
      have f2 := (hb2.block _ (show w.heap.size + 1 + 1 < wr.heap.size by omega)).trans HK2.out
      have F2 := hidX f2
      have hlt2 : w.heap.size + 1 + 1 < w2.heap.size := by omega
      clear a0 a1 a2 a3 d3 yr ye HCL f2
      have hbb : Below w2.heap.size w2 ((w2.alloc (.cells #[.string ⟨xk.toArray⟩, .int .i64 xn, .string ⟨xm.toArray⟩, .slice ad2 xks.length cap2] 60)).alloc (.cells #[.string ⟨xk.toArray⟩, .int .i64 xn, .string ⟨xm.toArray⟩, .slice ad2 xks.length cap2] 60)) := bl_trans (box_blk _ _ _) (by simp) (box_blk _ _ _)
      have HBB := hidX hbb
      have hnc := new_two w2 (.cells #[.string ⟨xk.toArray⟩, .int .i64 xn, .string ⟨xm.toArray⟩, .slice ad2 xks.length cap2] 60) #[.string ⟨xk.toArray⟩, .int .i64 xn, .string ⟨xm.toArray⟩, .slice ad2 xks.length cap2] 60
      have HNC := hidX hnc
      clear hbb hnc
      go_wp2_with (at_builtin; refine wpList_append_own_at _ rfl _ _ 58 rfl (w.heap.size + 3) 60 i0 _ 4 64 Tryz.underlying58 hi hy0 hy1 hy2 rfl (by decide) (.slice advs q capvs) q ys rfl (owns_below HOW.out (bl_trans hb2 hb2.size HBB.out)) ⟨w2.heap.size + 1, 0, none⟩ 1 1 [.string ⟨xk.toArray⟩, .int .i64 xn, .string ⟨xm.toArray⟩, .slice ad2 xks.length cap2] rfl rfl HNC.out (expr_one xk xm xn ad2 xks.length cap2) (by unfold maxLen; omega) (by omega) (by simp; omega) ?_; intro v' w3 hown' hgrow _ hloc; obtain ⟨gb, capb, hvb⟩ := own_someX hown'; subst hvb; have f3 := grown_blk hgrow ((HBB.out.block _ hlt2).trans F2.out) (fun e => (by have := (HOW.out.lt _ e.symm).1; omega)); have F3 := hidX f3; have g3 : w3.cell? ⟨w.heap.size + 1 + 1, 3, none⟩ = some (.slice advs q capvs) := cell_of_blk f3 3; have z3 := free_of_blk f3 3; clear f3)
      have hn1 : ∀ b, b < w.heap.size + 3 → b ≠ w.heap.size + 1 + 1 → (w3.setCell ⟨w.heap.size + 1 + 1, 3, none⟩ (.slice (some ⟨gb, 0, none⟩) (q + 1) capb)).heap[b]? = wr.heap[b]? := fun b hb hne => by
        rw [Below.heap_setCell _ _ _ _ hne, hgrow.block b (by have := HBB.out.size; omega) (fun e => by have := (HOW.out.lt _ e.symm).1; omega), HBB.out.block b (by omega), hb2.block b (by omega)]
      have hbr : Below w.heap.size w (w3.setCell ⟨w.heap.size + 1 + 1, 3, none⟩ (.slice (some ⟨gb, 0, none⟩) (q + 1) capb)) := by
        refine ⟨hgrow.os.trans (HBB.out.os.trans (hb2.os.trans hbl.os)), hgrow.tape.trans (HBB.out.tape.trans (hb2.tape.trans hbl.tape)), hgrow.output.trans (HBB.out.output.trans (hb2.output.trans hbl.output)), ?_, fun b hb => (hn1 b (by omega) (by omega)).trans (hbl.block b hb)⟩
        have := hgrow.size
        have := HBB.out.size
        simp only [World.setCell, Array.size_modify]
        omega
      have hxs := app_keep (Rep := XE) (Reps := XEs) XEs.imp XE.imp XEs.snoc HOW.out HXS.out hb2 HX2.out HBB.out (by omega) hgrow (by simpa using hloc)
      have hsz3 : w.heap.size + 3 ≤ w3.heap.size := by have := hgrow.size; have := HBB.out.size; omega
      have hfin : XEs (KA (w.heap.size + 3) (w3.setCell ⟨w.heap.size + 1 + 1, 3, none⟩ (.slice (some ⟨gb, 0, none⟩) (q + 1) capb)) (.slice (some ⟨gb, 0, none⟩) (q + 1) capb)) (w3.setCell ⟨w.heap.size + 1 + 1, 3, none⟩ (.slice (some ⟨gb, 0, none⟩) (q + 1) capb)) (ks.take (q + 1)) (ys ++ [.string ⟨xk.toArray⟩, .int .i64 xn, .string ⟨xm.toArray⟩, .slice ad2 xks.length cap2]) := by
        rw [HTK.out]
        exact XEs.imp (fun b hb => ⟨hb.1, by simpa [World.setCell] using hb.2.1, hb.2.2⟩) (fun b hb => Below.heap_setCell _ _ _ _ (by have := hb.1; show b ≠ w.heap.size + 1 + 1; omega)) _ _ hxs
      have hkk := blk_setCell F3.out 3 (.slice (some ⟨gb, 0, none⟩) (q + 1) capb)
      have HFIN := hidX hfin
      have HKK := hidX hkk
      have HN1 := hidX hn1
      have hos : (w3.setCell ⟨w.heap.size + 1 + 1, 3, none⟩ (.slice (some ⟨gb, 0, none⟩) (q + 1) capb)).ownsRow (w.heap.size + 3) 60 4 (.slice (some ⟨gb, 0, none⟩) (q + 1) capb) (q + 1) (ys ++ [.string ⟨xk.toArray⟩, .int .i64 xn, .string ⟨xm.toArray⟩, .slice ad2 xks.length cap2]) := by
        rcases hown' with ⟨o1, o2 | ⟨gg, cc, cur, o3, o4, o5, o6⟩⟩
        · exact ⟨o1, Or.inl o2⟩
        · exact ⟨o1, Or.inr ⟨gg, cc, cur, o3, o4, (Below.heap_setCell _ _ _ _ (by show gg ≠ w.heap.size + 1 + 1; omega)).trans o5, o6⟩⟩
      have HOS := hidX hos
      clear hfin hkk hn1 hos hxs hown' hgrow hloc b3 g3 z3 hlt2
      go_roundw
      case rel => exact ⟨q + 1, _, _, by omega, by go_num, hbr, by simpa [World.setCell] using hsz3, (HN1.out _ (by omega) (by omega)).trans HK0.out, (HN1.out _ (by omega) (by omega)).trans HK1.out, by simpa using HKK.out, HOS.out, HFIN.out⟩
      case measure => simp [intOf]; omega
    · have hqn : q = ks.length := by omega
      subst hqn
      have c0 : wr.cell? ⟨w.heap.size + 1 + 1, 0, none⟩ = some (.string ⟨k.toArray⟩) := cell_of_blk HK2.out 0
      have c1 : wr.cell? ⟨w.heap.size + 1 + 1, 1, none⟩ = some (.int .i64 n) := cell_of_blk HK2.out 1
      have c2 : wr.cell? ⟨w.heap.size + 1 + 1, 2, none⟩ = some (.string ⟨mm.toArray⟩) := cell_of_blk HK2.out 2
      have c3 : wr.cell? ⟨w.heap.size + 1 + 1, 3, none⟩ = some (.slice advs ks.length capvs) := cell_of_blk HK2.out 3
      have e0 : wr.cell? ⟨w.heap.size + 1, 0, none⟩ = some (.string ⟨#[]⟩) := cell_of_blk HK1.out 0
      have e1 : wr.cell? ⟨w.heap.size + 1, 1, none⟩ = some (.int .i64 0) := cell_of_blk HK1.out 1
      have e2 : wr.cell? ⟨w.heap.size + 1, 2, none⟩ = some (.string ⟨#[]⟩) := cell_of_blk HK1.out 2
      have e3 : wr.cell? ⟨w.heap.size + 1, 3, none⟩ = some (.slice none 0 0) := cell_of_blk HK1.out 3
      have f0 := free_of_blk HK1.out 0
      have f1 := free_of_blk HK1.out 1
      have f2 := free_of_blk HK1.out 2
      have f3 := free_of_blk HK1.out 3
      have hxs := HXS.out
      rw [List.take_length] at hxs
      have hxr := xrow_own HOW.out
      have HXS2 := hidX hxs
      have HXR := hidX hxr
      clear hxs hxr
      go_wp2
      refine retX4 (sl := 2) (by kernel_rfl) rfl HK1.out _ _ _ _ ?_
      refine ⟨?_, [_, _, _, _], rfl, _, ys, rfl, HXR.out.imp (fun b hb => ⟨by have := hb.1; omega, by rw [setX4_size]; exact hb.2⟩) (fun b hb => setX4_far (by have := hb.1; omega)), XEs.imp (fun b hb => ⟨by have := hb.1; omega, by rw [setX4_size]; exact hb.2.1⟩) (fun b hb => setX4_far (by have := hb.1; omega)) _ _ HXS2.out⟩
      exact (((hbl.setCell (by show w.heap.size ≤ w.heap.size + 1; omega) _).setCell (by show w.heap.size ≤ w.heap.size + 1; omega) _).setCell (by show w.heap.size ≤ w.heap.size + 1; omega) _).setCell (by show w.heap.size ≤ w.heap.size + 1; omega) _
mutual
theorem as_ex : ∀ e : Ex, AsE e
  | .mk k n m ks => as_mk k n m ks (as_exs ks)
theorem as_exs : ∀ l : List Ex, ∀ e ∈ l, AsE e
  | [], _, h => absurd h (by simp)
  | e :: r, x, h => by
    rcases List.mem_cons.1 h with h | h
    · rw [h]; exact as_ex e
    · exact as_exs r x h
end
end Go.Proofs.YtcebpmaggnephabGreatDoor
