/-
  Our own: statements of the reference's make, as the package has them.
-/
import Derived.Test.YtcebpmaggnephabGreatDoorCheckAs
import Derived.Deep.RegionHeld3
namespace Go.Proofs.YtcebpmaggnephabGreatDoor
open Go.RowKit

def AsL (l : List Sm) : Prop := ∀ (w : World) (v : Value), XLS (InH w) w v l → l.length ≤ 30 → LowSs l →
  Calls Tryz.prog 65 #[v] w fun ev w' => Below w.heap.size w w' ∧ ∃ ad c, ev = .returned (.slice ad l.length c) ∧ XLS (Nw w w') w' (.slice ad l.length c) l
def AsSm : Sm → Prop
  | .mk _ _ _ t o => AsL t ∧ AsL o
theorem stmt_info : (Tryz.prog.info? 62).map (fun i => (i.zero, i.size, i.bytes)) = some (some (.agg #[.string ⟨#[]⟩, .string ⟨#[]⟩, .string ⟨#[]⟩, .int .i64 0, .string ⟨#[]⟩, .slice none 0 0, .slice none 0 0, .slice none 0 0]), 8, 144) := by kernel_rfl
/-- The cells of a statement of a row. -/
abbrev Cells8 (g o : Nat) (k m ek em : ByteArray) (en : Int) (v1 v2 v3 : Value) (W : World) : Prop :=
  W.cell? ⟨g, o, none⟩ = some (.string k) ∧ W.cell? ⟨g, o + 1, none⟩ = some (.string m) ∧ W.cell? ⟨g, o + 2, none⟩ = some (.string ek) ∧ W.cell? ⟨g, o + 3, none⟩ = some (.int .i64 en) ∧ W.cell? ⟨g, o + 4, none⟩ = some (.string em) ∧ W.cell? ⟨g, o + 5, none⟩ = some v1 ∧ W.cell? ⟨g, o + 6, none⟩ = some v2 ∧ W.cell? ⟨g, o + 7, none⟩ = some v3
theorem Cells8.keep {g o : Nat} {k m ek em : ByteArray} {en : Int} {v1 v2 v3 : Value} {W W' : World} (h : Cells8 g o k m ek em en v1 v2 v3 W) (hk : W'.heap[g]? = W.heap[g]?) : Cells8 g o k m ek em en v1 v2 v3 W' := by
  have e : ∀ j, W'.cell? ⟨g, j, none⟩ = W.cell? ⟨g, j, none⟩ := fun j => World.cell?_of_block (w := W) (a := ⟨g, j, none⟩) hk
  obtain ⟨h0, h1, h2, h3, h4, h5, h6, h7⟩ := h
  exact ⟨(e _).trans h0, (e _).trans h1, (e _).trans h2, (e _).trans h3, (e _).trans h4, (e _).trans h5, (e _).trans h6, (e _).trans h7⟩
theorem setX8_far {w : World} {r k : Nat} {u0 u1 u2 u3 u4 u5 u6 u7 : Value} (h : k ≠ r) : ((((((((w.setCell ⟨r, 0, none⟩ u0).setCell ⟨r, 1, none⟩ u1).setCell ⟨r, 2, none⟩ u2).setCell ⟨r, 3, none⟩ u3).setCell ⟨r, 4, none⟩ u4).setCell ⟨r, 5, none⟩ u5).setCell ⟨r, 6, none⟩ u6).setCell ⟨r, 7, none⟩ u7).heap[k]? = w.heap[k]? := by
  rw [Below.heap_setCell _ _ _ _ h, Below.heap_setCell _ _ _ _ h, Below.heap_setCell _ _ _ _ h, Below.heap_setCell _ _ _ _ h, Below.heap_setCell _ _ _ _ h, Below.heap_setCell _ _ _ _ h, Below.heap_setCell _ _ _ _ h, Below.heap_setCell _ _ _ _ h]
theorem stmt_one (k m ek em : List UInt8) (en : Int) (a1 a2 a3 : Option Addr) (l1 c1 l2 c2 l3 c3 : Nat) : ∀ u ∈ ([.string ⟨k.toArray⟩, .string ⟨m.toArray⟩, .string ⟨ek.toArray⟩, .int .i64 en, .string ⟨em.toArray⟩, .slice a1 l1 c1, .slice a2 l2 c2, .slice a3 l3 c3] : List Value), u.oneCell' = true := by
  intro u hu
  simp only [List.mem_cons, List.not_mem_nil, or_false] at hu
  rcases hu with rfl | rfl | rfl | rfl | rfl | rfl | rfl | rfl <;> rfl
theorem reg_cut7 {P : Program} {c : Code} {Q : Exit → Act → World → Prop} {a : Act} {w : World} (F : Nat → Option Addr → Nat → Option Addr → Nat → Option Addr → Nat → Act) (R : Nat → Option Addr → Nat → Option Addr → Nat → Option Addr → Nat → World → Prop) (h : c.wp P (Exit.then (fun a' w' => ∃ n a1 c1 a2 c2 a3 c3, a' = F n a1 c1 a2 c2 a3 c3 ∧ R n a1 c1 a2 c2 a3 c3 w') (fun _ _ _ => False)) a w)
    (k : ∀ n a1 c1 a2 c2 a3 c3 w', R n a1 c1 a2 c2 a3 c3 w' → Q .normal (F n a1 c1 a2 c2 a3 c3) w') : c.wp P Q a w :=
  Code.wp_mono (fun e a w g => by
    cases e with
    | normal => obtain ⟨n, a1, c1, a2, c2, a3, c3, rfl, g⟩ := g; exact k _ _ _ _ _ _ _ _ g
    | _ => exact g.elim) h
theorem fin_as {wr X1 w2 X2 w3 X3 w4 W : World} {k m : List UInt8} {xe : Ex} {xt xo : List Sm} {es : List Value} {tv ov : Value} (hX1 : wr.heap.size ≤ X1.heap.size) (h1 : Below X1.heap.size X1 w2) (e2 : Below w2.heap.size w2 X2) (h2 : Below X2.heap.size X2 w3) (e3 : Below w3.heap.size w3 X3) (h3 : Below X3.heap.size X3 w4)
    (hE : XE (Nw X1 w2) w2 xe es) (hT : XLS (Nw X2 w3) w3 tv xt) (hO : XLS (Nw X3 w4) w4 ov xo) (n : Nat) (hn : n < X1.heap.size ∨ (w2.heap.size ≤ n ∧ n < X2.heap.size) ∨ (w3.heap.size ≤ n ∧ n < X3.heap.size) ∨ w4.heap.size ≤ n) (hk : ∀ b, b < w4.heap.size → b ≠ n → W.heap[b]? = w4.heap[b]?) (hs : w4.heap.size ≤ W.heap.size) :
    XS (fun b => wr.heap.size ≤ b ∧ b < W.heap.size ∧ b ≠ n) W (.mk k m xe xt xo) (.string ⟨k.toArray⟩ :: .string ⟨m.toArray⟩ :: (es ++ [tv, ov])) := by
  have z1 := h1.size
  have z2 := e2.size
  have z3 := h2.size
  have z4 := e3.size
  have z5 := h3.size
  have k34 : ∀ b, b < w3.heap.size → w4.heap[b]? = w3.heap[b]? := fun b hb => (h3.block b (by omega)).trans (e3.block b hb)
  have k24 : ∀ b, b < w2.heap.size → w4.heap[b]? = w2.heap[b]? := fun b hb => (k34 b (by omega)).trans ((h2.block b (by omega)).trans (e2.block b hb))
  obtain ⟨ts, t1, t2⟩ := hT
  obtain ⟨os, o1, o2⟩ := hO
  have A1 : ∀ b, Nw X1 w2 b → wr.heap.size ≤ b ∧ b < W.heap.size ∧ b ≠ n := fun b hb => ⟨by have := hb.1; omega, by have := hb.2; omega, by have := hb.1; have := hb.2; omega⟩
  have A2 : ∀ b, Nw X2 w3 b → wr.heap.size ≤ b ∧ b < W.heap.size ∧ b ≠ n := fun b hb => ⟨by have := hb.1; omega, by have := hb.2; omega, by have := hb.1; have := hb.2; omega⟩
  have A3 : ∀ b, Nw X3 w4 b → wr.heap.size ≤ b ∧ b < W.heap.size ∧ b ≠ n := fun b hb => ⟨by have := hb.1; omega, by have := hb.2; omega, by have := hb.1; have := hb.2; omega⟩
  have K1 : KeepA (Nw X1 w2) w2 W := fun b hb => (hk b (by have := hb.2; omega) (A1 b hb).2.2).trans (k24 b hb.2)
  have K2 : KeepA (Nw X2 w3) w3 W := fun b hb => (hk b (by have := hb.2; omega) (A2 b hb).2.2).trans (k34 b hb.2)
  have K3 : KeepA (Nw X3 w4) w4 W := fun b hb => hk b hb.2 (A3 b hb).2.2
  exact ⟨es, tv, ts, ov, os, rfl, XE.imp A1 K1 _ _ hE, t1.imp A2 K2, XSs.imp A2 K2 _ _ t2, o1.imp A3 K3, XSs.imp A3 K3 _ _ o2⟩
theorem setX8_blk {w : World} {r : Nat} {x0 x1 x2 x3 x4 x5 x6 x7 : Value} {t : TypeId} (h : w.heap[r]? = some (.cells #[x0, x1, x2, x3, x4, x5, x6, x7] t (0, 0))) (u0 u1 u2 u3 u4 u5 u6 u7 : Value) :
    ((((((((w.setCell ⟨r, 0, none⟩ u0).setCell ⟨r, 1, none⟩ u1).setCell ⟨r, 2, none⟩ u2).setCell ⟨r, 3, none⟩ u3).setCell ⟨r, 4, none⟩ u4).setCell ⟨r, 5, none⟩ u5).setCell ⟨r, 6, none⟩ u6).setCell ⟨r, 7, none⟩ u7).heap[r]? = some (.cells #[u0, u1, u2, u3, u4, u5, u6, u7] t (0, 0)) := by
  have := blk_setCell (blk_setCell (blk_setCell (blk_setCell (blk_setCell (blk_setCell (blk_setCell (blk_setCell h 0 u0) 1 u1) 2 u2) 3 u3) 4 u4) 5 u5) 6 u6) 7 u7
  simpa using this
theorem setX8_size {w : World} {r : Nat} {u0 u1 u2 u3 u4 u5 u6 u7 : Value} : ((((((((w.setCell ⟨r, 0, none⟩ u0).setCell ⟨r, 1, none⟩ u1).setCell ⟨r, 2, none⟩ u2).setCell ⟨r, 3, none⟩ u3).setCell ⟨r, 4, none⟩ u4).setCell ⟨r, 5, none⟩ u5).setCell ⟨r, 6, none⟩ u6).setCell ⟨r, 7, none⟩ u7).heap.size = w.heap.size := by simp [World.setCell]
theorem setX8_below {B : Nat} {v w : World} {r : Nat} {u0 u1 u2 u3 u4 u5 u6 u7 : Value} (h : Below B v w) (hr : B ≤ r) : Below B v ((((((((w.setCell ⟨r, 0, none⟩ u0).setCell ⟨r, 1, none⟩ u1).setCell ⟨r, 2, none⟩ u2).setCell ⟨r, 3, none⟩ u3).setCell ⟨r, 4, none⟩ u4).setCell ⟨r, 5, none⟩ u5).setCell ⟨r, 6, none⟩ u6).setCell ⟨r, 7, none⟩ u7) :=
  (((((((h.setCell hr _).setCell hr _).setCell hr _).setCell hr _).setCell hr _).setCell hr _).setCell hr _).setCell hr _
theorem drew_size (w : World) (O : Obj) : w.heap.size ≤ (w.alloc O).drew.heap.size := by show w.heap.size ≤ (w.alloc O).heap.size; simp
theorem drew_lt (w : World) (O : Obj) : w.heap.size < (w.alloc O).drew.heap.size := by show w.heap.size < (w.alloc O).heap.size; simp
theorem bz_drew {w w2 : World} {O : Obj} (hb : Below (w.alloc O).drew.heap.size (w.alloc O).drew w2) : w2.heap[w.heap.size]? = some O :=
  (hb.block w.heap.size (by show w.heap.size < (w.alloc O).heap.size; simp)).trans (heap_alloc_new w O)
/-- A new Stmt's cells may be written. -/
theorem zero8 {w : World} {b : Nat} (h : w.heap[b]? = some (.cells #[.string ⟨#[]⟩, .string ⟨#[]⟩, .string ⟨#[]⟩, .int .i64 0, .string ⟨#[]⟩, .slice none 0 0, .slice none 0 0, .slice none 0 0] 62 (0, 0))) :
    (w.cell? ⟨b, 0, none⟩ = some (.string ⟨#[]⟩) ∧ w.cell? ⟨b, 1, none⟩ = some (.string ⟨#[]⟩) ∧ w.cell? ⟨b, 2, none⟩ = some (.string ⟨#[]⟩) ∧ w.cell? ⟨b, 3, none⟩ = some (.int .i64 0) ∧ w.cell? ⟨b, 4, none⟩ = some (.string ⟨#[]⟩) ∧ w.cell? ⟨b, 5, none⟩ = some (.slice none 0 0) ∧ w.cell? ⟨b, 6, none⟩ = some (.slice none 0 0) ∧ w.cell? ⟨b, 7, none⟩ = some (.slice none 0 0)) ∧
    (w.frozen? ⟨b, 0, none⟩ = false ∧ w.frozen? ⟨b, 1, none⟩ = false ∧ w.frozen? ⟨b, 2, none⟩ = false ∧ w.frozen? ⟨b, 3, none⟩ = false ∧ w.frozen? ⟨b, 4, none⟩ = false ∧ w.frozen? ⟨b, 5, none⟩ = false ∧ w.frozen? ⟨b, 6, none⟩ = false ∧ w.frozen? ⟨b, 7, none⟩ = false) :=
  ⟨⟨cell_of_blk h 0, cell_of_blk h 1, cell_of_blk h 2, cell_of_blk h 3, cell_of_blk h 4, cell_of_blk h 5, cell_of_blk h 6, cell_of_blk h 7⟩, free_of_blk h 0, free_of_blk h 1, free_of_blk h 2, free_of_blk h 3, free_of_blk h 4, free_of_blk h 5, free_of_blk h 6, free_of_blk h 7⟩
set_option maxRecDepth 100000 in
set_option maxHeartbeats 4000000 in
theorem as_list (l : List Sm) (ih : ∀ s ∈ l, AsSm s) : AsL l := by
  intro w v hX hl hL
  obtain ⟨xs, hr, hk⟩ := hX
  obtain ⟨ad, cap, rfl⟩ := hr.is
  obtain ⟨i0, hi, hy0, hy1, hy2⟩ := info_parts stmt_info
  have hl' : (l.length : Int) ≤ 30 := by omega
  have IH := hidX ih
  have R := hidX hr
  have KK := hidX hk
  have LL := hidX hL
  clear ih hr hk hL
  go_enter Tryz.func65, Tryz.ntmps65
  go_wp2_with fail
  go_loopw [3, 4] (fun vo vi wr => ∃ (q : Nat) (ys : List Value), q ≤ l.length ∧ vi = .int .i64 q ∧ Below w.heap.size w wr ∧ wr.ownsRow w.heap.size 62 8 vo q ys ∧ Hid (XSs (KA w.heap.size wr vo) wr (l.take q) ys)) (fun _ vi _ => l.length - (intOf vi).toNat)
  case atStart => exact ⟨0, [], Nat.zero_le _, rfl, by (repeat (first | exact Below.refl _ _ | assumption | refine Below.drew ?_ | refine Below.trans ?_ (drewN_below' _ _ _) | refine Below.setCell ?_ (by first | (simp; done) | (simp; omega)) _ | refine Below.alloc ?_ (by first | (simp; done) | (simp; omega)) _)), World.ownsRow_nil _ _ _ _, rfl⟩
  case round =>
    obtain ⟨q, ys, hq, rfl, hbl, hown, HXS⟩ := hrel
    obtain ⟨advs, capvs, rfl⟩ := own_sl hown
    have HOW := hidX hown
    have hzr := hbl.size
    clear hown
    by_cases hlt : q < l.length
    · have hlt' : (q : Int) < (l.length : Int) := by omega
      obtain ⟨ka, e1, e2⟩ := KK.out.at hlt
      have hx := IH.out _ (List.getElem_mem hlt)
      have hlx := LL.out.mem _ (List.getElem_mem hlt)
      have htk : l.take (q + 1) = l.take q ++ [l[q]] := List.take_succ_eq_append_getElem hlt
      generalize l[q] = x at e1 hx hlx htk
      obtain ⟨xk, xm, xe, xt, xo⟩ := x
      obtain ⟨ea, ta, tsa, oa, osa, rfl, r1, r2, r3, r4, r5⟩ := e1
      obtain ⟨ga, off, rfl, hga, g1⟩ := x8_at R.out hlt r1.len e2
      obtain ⟨l1, l2, l3, l4, l5, l6, l7⟩ := hlx
      have hE : ∀ X, Below wr.heap.size wr X → Calls Tryz.prog 92 #[.agg ea.toArray] X fun ev w' => Below wr.heap.size wr w' ∧ Below X.heap.size X w' ∧ ∃ cs', ev = .returned (.agg cs'.toArray) ∧ XE (Nw X w') w' xe cs' := fun X hX => by
        have hb := bl_trans hbl hbl.size hX
        refine (as_ex xe X ea (XE.imp (inH_up hb) (keepH hb) _ _ r1) l3).mono ?_
        rintro ev w' ⟨h1, h2⟩
        exact ⟨bl_trans hX hX.size h1, h1, h2⟩
      have hT : ∀ X, Below wr.heap.size wr X → Calls Tryz.prog 65 #[ta] X fun ev w' => Below wr.heap.size wr w' ∧ Below X.heap.size X w' ∧ ∃ ad c, ev = .returned (.slice ad xt.length c) ∧ XLS (Nw X w') w' (.slice ad xt.length c) xt := fun X hX => by
        have hb := bl_trans hbl hbl.size hX
        refine (hx.1 X ta ⟨tsa, r2.imp (inH_up hb) (keepH hb), XSs.imp (inH_up hb) (keepH hb) _ _ r3⟩ l4 l5).mono ?_
        rintro ev w' ⟨h1, h2⟩
        exact ⟨bl_trans hX hX.size h1, h1, h2⟩
      have hO : ∀ X, Below wr.heap.size wr X → Calls Tryz.prog 65 #[oa] X fun ev w' => Below wr.heap.size wr w' ∧ Below X.heap.size X w' ∧ ∃ ad c, ev = .returned (.slice ad xo.length c) ∧ XLS (Nw X w') w' (.slice ad xo.length c) xo := fun X hX => by
        have hb := bl_trans hbl hbl.size hX
        refine (hx.2 X oa ⟨osa, r4.imp (inH_up hb) (keepH hb), XSs.imp (inH_up hb) (keepH hb) _ _ r5⟩ l6 l7).mono ?_
        rintro ev w' ⟨h1, h2⟩
        exact ⟨bl_trans hX hX.size h1, h1, h2⟩
      obtain ⟨adt, ct, rfl⟩ := r2.is
      obtain ⟨ado, co, rfl⟩ := r4.is
      obtain ⟨xek, xen, xem, xes⟩ := xe
      obtain ⟨ya, za, rfl, ra, _⟩ := r1
      obtain ⟨ad1, cap1, rfl⟩ := ra.is
      have k1 := g1.keep (hbl.block ga hga)
      have c8 : Cells8 ga (off + q * 8) ⟨xk.toArray⟩ ⟨xm.toArray⟩ ⟨xek.toArray⟩ ⟨xem.toArray⟩ xen (.slice ad1 xes.length cap1) (.slice adt xt.length ct) (.slice ado xo.length co) wr := by
        have a2 := k1.c2 0 _ (by decide) rfl
        have a3 := k1.c2 1 _ (by decide) rfl
        have a4 := k1.c2 2 _ (by decide) rfl
        have a5 := k1.c2 3 _ (by decide) rfl
        exact ⟨k1.c0, k1.c1, a2, a3, a4, a5, k1.c6, k1.c7⟩
      have HE := hidX hE
      have HT := hidX hT
      have HO := hidX hO
      have HTK := hidX htk
      have hgr : ga < wr.heap.size := by have : ga < w.heap.size := hga; omega
      have C8 := hidX c8
      obtain ⟨a0, a1, a2, a3, a4, a5, a6, a7⟩ := c8
      clear hE hT hO r2 r3 r4 r5 e2 g1 k1 hx ra htk l3 l5 l7
      go_wp2_with fail
      apply reg_cut7 (F := fun n a1 c1 a2 c2 a3 c3 => { tmps := #[.slice (some ⟨ga, off, none⟩) l.length cap, undef, .slice none 0 0, .slice advs q capvs, .int .i64 q, .pointer (some ⟨n, 0, none⟩), .int .i64 q, .slice (some ⟨ga, off, none⟩) l.length cap, .int .i64 l.length, .bool true, u10, u11, .slice (some ⟨ga, off, none⟩) l.length cap, .int .i64 q, .pointer (some ⟨ga, off + q * 8, none⟩), .pointer (some ⟨ga, off + q * 8, none⟩), .string ⟨xk.toArray⟩, .slice (some ⟨ga, off, none⟩) l.length cap, .int .i64 q, .pointer (some ⟨ga, off + q * 8, none⟩), .pointer (some ⟨ga, off + q * 8 + 1, none⟩), .string ⟨xm.toArray⟩, .slice (some ⟨ga, off, none⟩) l.length cap, .int .i64 q, .pointer (some ⟨ga, off + q * 8, none⟩), .pointer (some ⟨ga, off + q * 8 + 2, none⟩), .agg #[.string ⟨xek.toArray⟩, .int .i64 xen, .string ⟨xem.toArray⟩, .slice ad1 xes.length cap1], .agg #[.string ⟨xek.toArray⟩, .int .i64 xen, .string ⟨xem.toArray⟩, .slice a1 xes.length c1], .slice (some ⟨ga, off, none⟩) l.length cap, .int .i64 q, .pointer (some ⟨ga, off + q * 8, none⟩), .pointer (some ⟨ga, off + q * 8 + 6, none⟩), .slice adt xt.length ct, .slice a2 xt.length c2, .slice (some ⟨ga, off, none⟩) l.length cap, .int .i64 q, .pointer (some ⟨ga, off + q * 8, none⟩), .pointer (some ⟨ga, off + q * 8 + 7, none⟩), .slice ado xo.length co, .slice a3 xo.length c3, .agg #[.string ⟨xk.toArray⟩, .string ⟨xm.toArray⟩, .string ⟨xek.toArray⟩, .int .i64 xen, .string ⟨xem.toArray⟩, .slice a1 xes.length c1, .slice a2 xt.length c2, .slice a3 xo.length c3], u41, u42, u43, u44, undef], defers := [] }) (R := fun n a1 c1 a2 c2 a3 c3 W => Below wr.heap.size wr W ∧ wr.heap.size ≤ n ∧ n < W.heap.size ∧ W.heap[n]? = some (.cells #[.string ⟨xk.toArray⟩, .string ⟨xm.toArray⟩, .string ⟨xek.toArray⟩, .int .i64 xen, .string ⟨xem.toArray⟩, .slice a1 xes.length c1, .slice a2 xt.length c2, .slice a3 xo.length c3] 62 (0, 0)) ∧ XS (fun b => wr.heap.size ≤ b ∧ b < W.heap.size ∧ b ≠ n) W (.mk xk xm (.mk xek xen xem xes) xt xo) [.string ⟨xk.toArray⟩, .string ⟨xm.toArray⟩, .string ⟨xek.toArray⟩, .int .i64 xen, .string ⟨xem.toArray⟩, .slice a1 xes.length c1, .slice a2 xt.length c2, .slice a3 xo.length c3])
      · go_region_held3 (fun W => W.cell? ⟨ga, off + q * 8, none⟩ = some (.string ⟨xk.toArray⟩) ∧ W.cell? ⟨ga, off + q * 8 + 1, none⟩ = some (.string ⟨xm.toArray⟩) ∧ W.cell? ⟨ga, off + q * 8 + 2, none⟩ = some (.string ⟨xek.toArray⟩) ∧ W.cell? ⟨ga, off + q * 8 + 3, none⟩ = some (.int .i64 xen) ∧ W.cell? ⟨ga, off + q * 8 + 4, none⟩ = some (.string ⟨xem.toArray⟩) ∧ W.cell? ⟨ga, off + q * 8 + 5, none⟩ = some (.slice ad1 xes.length cap1) ∧ W.cell? ⟨ga, off + q * 8 + 6, none⟩ = some (.slice adt xt.length ct) ∧ W.cell? ⟨ga, off + q * 8 + 7, none⟩ = some (.slice ado xo.length co)) (first | with_reducible exact s4 | with_reducible exact s3 | with_reducible exact s2 | (with_reducible refine s4.keep ?_; first | with_reducible exact Below.heap_alloc _ _ _ (by omega) | with_reducible exact setX8_far (by omega)) | (with_reducible refine s3.keep ?_; with_reducible exact Below.heap_alloc _ _ _ (by omega)) | (with_reducible refine s2.keep ?_; with_reducible exact Below.heap_alloc _ _ _ (by omega)) | exact C8.out | exact C8.out.keep (Below.heap_alloc _ _ _ hgr))
          (first
            | (go_at_call 92; refine (HE.out _ (by (repeat (first | exact Below.refl _ _ | assumption | refine Below.drew ?_ | refine Below.trans ?_ (drewN_below' _ _ _) | refine Below.setCell ?_ (by first | (simp; done) | (simp; omega)) _ | refine Below.alloc ?_ (by first | (simp; done) | (simp; omega)) _)))).mono ?_; rintro e w2 ⟨hw2, hb2, cs', rfl, hx2⟩; obtain ⟨yv, yx, rfl, yr, ye⟩ := hx2; obtain ⟨ad2, cap2, rfl⟩ := yr.is; have s2 := C8.out.keep (W' := w2) (hw2.block _ hgr); have z2 := hw2.size; first | (have bz2 := bz_drew hb2) | skip)
            | (have hprev := hw3; clear hprev; go_at_call 65; refine (HO.out _ (by first | exact hw3 | exact hw3.alloc z3 _)).mono ?_; rintro e w4 ⟨hw4, hb4, ad4, c4, rfl, hx4⟩; have s4 := C8.out.keep (W' := w4) (hw4.block _ hgr); have z4 := hw4.size; first | (have hprv := bz3; clear hprv; have bz4 := (hb4.block _ (heap_lt bz3)).trans bz3; obtain ⟨⟨p0, p1, p2, p3, p4, p5, p6, p7⟩, f0, f1, f2, f3, f4, f5, f6, f7⟩ := zero8 bz4) | (have bz4 : w4.heap[w3.heap.size]? = some (.cells #[.string ⟨#[]⟩, .string ⟨#[]⟩, .string ⟨#[]⟩, .int .i64 0, .string ⟨#[]⟩, .slice none 0 0, .slice none 0 0, .slice none 0 0] 62 (0, 0)) := (by rw [hb4.block w3.heap.size (by simp; done)]; exact heap_alloc_new w3 _); obtain ⟨⟨p0, p1, p2, p3, p4, p5, p6, p7⟩, f0, f1, f2, f3, f4, f5, f6, f7⟩ := zero8 bz4) | skip)
            | (go_at_call 65; refine (HT.out _ (by first | exact hw2 | exact hw2.alloc z2 _)).mono ?_; rintro e w3 ⟨hw3, hb3, ad3, c3, rfl, hx3⟩; have s3 := C8.out.keep (W' := w3) (hw3.block _ hgr); have z3 := hw3.size; first | (have hprv := bz2; clear hprv; have bz3 := (hb3.block _ (heap_lt bz2)).trans bz2) | (have bz3 : w3.heap[w2.heap.size]? = some (.cells #[.string ⟨#[]⟩, .string ⟨#[]⟩, .string ⟨#[]⟩, .int .i64 0, .string ⟨#[]⟩, .slice none 0 0, .slice none 0 0, .slice none 0 0] 62 (0, 0)) := (by rw [hb3.block w2.heap.size (by simp; done)]; exact heap_alloc_new w2 _)) | skip))
        · exact ⟨_, _, _, _, _, _, _, rfl, hw4.alloc z4 _, z4, by simp, heap_alloc_new _ _, fin_as (xe := .mk xek xen xem xes) (es := [_, _, _, _]) (Nat.le_refl _) hb2 (Below.refl _ _) hb3 (Below.refl _ _) hb4 ⟨_, yx, rfl, yr, ye⟩ hx3 hx4 _ (Or.inr (Or.inr (Or.inr (Nat.le_refl _)))) (fun b hb _ => Below.heap_alloc _ _ _ hb) (by simp)⟩
        · exact ⟨_, _, _, _, _, _, _, rfl, setX8_below hw4 z3, z3, by rw [setX8_size]; exact heap_lt bz4, setX8_blk bz4 _ _ _ _ _ _ _ _, fin_as (xe := .mk xek xen xem xes) (es := [_, _, _, _]) (Nat.le_refl _) hb2 (Below.refl _ _) hb3 (box_blk _ _ _) hb4 ⟨_, yx, rfl, yr, ye⟩ hx3 hx4 _ (Or.inr (Or.inr (Or.inl ⟨Nat.le_refl _, by simp⟩))) (fun b _ hb => setX8_far hb) (by rw [setX8_size]; exact Nat.le_refl _)⟩
        · exact ⟨_, _, _, _, _, _, _, rfl, setX8_below hw4 z2, z2, by rw [setX8_size]; exact heap_lt bz4, setX8_blk bz4 _ _ _ _ _ _ _ _, fin_as (xe := .mk xek xen xem xes) (es := [_, _, _, _]) (Nat.le_refl _) hb2 (box_blk _ _ _) hb3 (Below.refl _ _) hb4 ⟨_, yx, rfl, yr, ye⟩ hx3 hx4 _ (Or.inr (Or.inl ⟨Nat.le_refl _, by simp⟩)) (fun b _ hb => setX8_far hb) (by rw [setX8_size]; exact Nat.le_refl _)⟩
        · exact ⟨_, _, _, _, _, _, _, rfl, setX8_below hw4 (Nat.le_refl _), Nat.le_refl _, by rw [setX8_size]; exact heap_lt bz4, setX8_blk bz4 _ _ _ _ _ _ _ _, fin_as (xe := .mk xek xen xem xes) (es := [_, _, _, _]) (drew_size _ _) hb2 (Below.refl _ _) hb3 (Below.refl _ _) hb4 ⟨_, yx, rfl, yr, ye⟩ hx3 hx4 _ (Or.inl (drew_lt _ _)) (fun b _ hb => setX8_far hb) (by rw [setX8_size]; exact Nat.le_refl _)⟩
      · rintro n b1 d1 b2 d2 b3 d3 W ⟨hbW, hn1, hn2, hkn, hxW⟩
        have c0 : W.cell? ⟨n, 0, none⟩ = some (.string ⟨xk.toArray⟩) := cell_of_blk hkn 0
        have c1 : W.cell? ⟨n, 1, none⟩ = some (.string ⟨xm.toArray⟩) := cell_of_blk hkn 1
        have c2 : W.cell? ⟨n, 2, none⟩ = some (.string ⟨xek.toArray⟩) := cell_of_blk hkn 2
        have c3 : W.cell? ⟨n, 3, none⟩ = some (.int .i64 xen) := cell_of_blk hkn 3
        have c4 : W.cell? ⟨n, 4, none⟩ = some (.string ⟨xem.toArray⟩) := cell_of_blk hkn 4
        have c5 : W.cell? ⟨n, 5, none⟩ = some (.slice b1 xes.length d1) := cell_of_blk hkn 5
        have c6 : W.cell? ⟨n, 6, none⟩ = some (.slice b2 xt.length d2) := cell_of_blk hkn 6
        have c7 : W.cell? ⟨n, 7, none⟩ = some (.slice b3 xo.length d3) := cell_of_blk hkn 7
        have hzW := hbW.size
        have hoW := owns_below HOW.out hbW
        have HXW := hidX hxW
        have HOW2 := hidX hoW
        have hnc := new_cells W #[.string ⟨xk.toArray⟩, .string ⟨xm.toArray⟩, .string ⟨xek.toArray⟩, .int .i64 xen, .string ⟨xem.toArray⟩, .slice b1 xes.length d1, .slice b2 xt.length d2, .slice b3 xo.length d3] 62
        have HNC := hidX hnc
        have hbB := box_blk W #[.string ⟨xk.toArray⟩, .string ⟨xm.toArray⟩, .string ⟨xek.toArray⟩, .int .i64 xen, .string ⟨xem.toArray⟩, .slice b1 xes.length d1, .slice b2 xt.length d2, .slice b3 xo.length d3] 62
        have HBB := hidX hbB
        clear hkn hxW hoW hnc hbB a0 a1 a2 a3 a4 a5 a6 a7
        go_wp2_with (at_builtin; refine wpList_append_own_at _ rfl _ _ 48 rfl w.heap.size 62 i0 _ 8 144 Tryz.underlying48 hi hy0 hy1 hy2 rfl (by decide) (.slice advs q capvs) q ys rfl (HOW2.out.alloc _) ⟨W.heap.size, 0, none⟩ 1 1 [.string ⟨xk.toArray⟩, .string ⟨xm.toArray⟩, .string ⟨xek.toArray⟩, .int .i64 xen, .string ⟨xem.toArray⟩, .slice b1 xes.length d1, .slice b2 xt.length d2, .slice b3 xo.length d3] rfl rfl HNC.out (stmt_one xk xm xek xem xen b1 b2 b3 xes.length d1 xt.length d2 xo.length d3) (by unfold maxLen; omega) (by omega) (by simp; omega) ?_; intro v' w5 hown' hgrow _ hloc)
        have hxs := app_keep (Rep := XS) (Reps := XSs) XSs.imp XS.imp XSs.snoc HOW.out HXS.out hbW (XS.imp (fun b hb => ⟨hb.1, hb.2.1⟩) (fun _ _ => rfl) _ _ HXW.out) HBB.out hzr hgrow (by simpa using hloc)
        rw [← HTK.out] at hxs
        have hb5 : Below w.heap.size w w5 := grown_below (bl_trans (bl_trans hbl hbl.size hbW) (Nat.le_trans hbl.size hbW.size) HBB.out) (Nat.le_refl _) HOW.out hgrow
        have HX5 := hidX hxs
        have HO5 := hidX hown'
        clear hxs hown' hgrow hloc c0 c1 c2 c3 c4 c5 c6 c7
        go_roundw
        case rel => exact ⟨q + 1, _, by omega, by go_num, hb5, HO5.out, HX5.out⟩
        case measure => simp [intOf]; omega
    · have hqn : q = l.length := by omega
      subst hqn
      have hxs := HXS.out
      rw [List.take_length] at hxs
      have hxr := xrow_own HOW.out
      have HXS2 := hidX hxs
      have HXR := hidX hxr
      clear hxs hxr
      go_wp2
      go_ret
      exact ⟨hbl, advs, capvs, rfl, ys, HXR.out.imp (fun b hb => hb) (fun b hb => rfl), XSs.imp (fun b hb => ⟨hb.1, hb.2.1⟩) (fun b hb => rfl) _ _ HXS2.out⟩
mutual
theorem as_sm : ∀ e : Sm, AsSm e
  | .mk _ _ _ t o => ⟨as_list t (as_sms t), as_list o (as_sms o)⟩
theorem as_sms : ∀ l : List Sm, ∀ e ∈ l, AsSm e
  | [], _, h => absurd h (by simp)
  | e :: r, x, h => by
    rcases List.mem_cons.1 h with h | h
    · rw [h]; exact as_sm e
    · exact as_sms r x h
end
theorem asStmts_any (l : List Sm) : AsL l := as_list l (as_sms l)
end Go.Proofs.YtcebpmaggnephabGreatDoor
