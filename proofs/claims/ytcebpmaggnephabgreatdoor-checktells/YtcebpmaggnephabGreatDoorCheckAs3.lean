/-
  Our own: functions of the reference's make, as the package has them.
-/
import Derived.Test.YtcebpmaggnephabGreatDoorCheckAs2
import Derived.Test.YtcebpmaggnephabGreatDoorCheckBlock
namespace Go.Proofs.YtcebpmaggnephabGreatDoor
open Go.RowKit

theorem textsC_one (l : List (List UInt8)) : ∀ u ∈ textsC l, u.oneCell' = true := by
  intro u hu
  obtain ⟨x, _, rfl⟩ := List.mem_map.1 hu
  rfl
theorem textsC_len (l : List (List UInt8)) : (textsC l).length = l.length * 1 := by simp [textsC]
theorem xrow_cells {A : Nat → Prop} {w : World} {a : Addr} {c : Nat} {l : List (List UInt8)} (h : XRow A w (.slice (some a) l.length c) l.length (textsC l)) : ∀ j u, (textsC l)[j]? = some u → w.cell? (a.add j) = some u := by
  intro j u hu
  have hj : j < l.length := by
    rcases Nat.lt_or_ge j (textsC l).length with h' | h'
    · simpa [textsC] using h'
    · rw [List.getElem?_eq_none h'] at hu; cases hu
  obtain ⟨g, off, e, _, _, hc⟩ := h.get (by omega)
  injection e with e
  subst e
  rw [← hc j u hu]
  congr 1
  unfold Addr.add
  split
  · next h0 => rw [h0, Nat.add_zero]
  · rfl
/-- What append(p, texts...) of no list leaves: a list of the same texts. -/
theorem run_append_texts (w : World) (ty : TypeId) (sv : Value) (l : List (List UInt8)) (hl : l.length ≤ 5000) (h : XRow (InH w) w sv l.length (textsC l)) :
    ∃ ad c w', (Builtin.append_ #[46, 46] ty #[.slice none 0 0, sv]).run Tryz.prog w = .ok (.slice ad l.length c) w' ∧ w'.ownsRow w.heap.size 9 1 (.slice ad l.length c) l.length (textsC l) ∧ Below w.heap.size w w' := by
  obtain ⟨i0, hi, hz0, hz1, hz2⟩ := info_parts text_info
  obtain ⟨ad, cap, rfl⟩ := h.is
  cases ad with
  | some a =>
    obtain ⟨v', w', hrun, hown, hg, _, _⟩ := run_append_own_at (P := Tryz.prog) w w.heap.size 46 ty 9 i0 _ 1 16 Tryz.underlying46 hi hz0 hz1 hz2 rfl (by decide) (.slice none 0 0) 0 [] (World.ownsRow_nil _ _ _ _) a l.length cap (textsC l) (textsC_len l) (xrow_cells h) (textsC_one l) (by unfold maxLen; omega) (by omega) (Nat.le_refl _)
    rw [Nat.zero_add, List.nil_append] at hown
    obtain ⟨ad', c', rfl⟩ := own_is hown
    exact ⟨ad', c', w', hrun, hown, (Below.refl w.heap.size w).grown hg (Nat.le_refl _) (fun k hk => by cases hk)⟩
  | none =>
    have h0 : l = [] := by
      rcases Nat.eq_zero_or_pos l.length with h' | h'
      · exact List.length_eq_zero_iff.1 h'
      · obtain ⟨g, off, e, _⟩ := h.get (by omega); cases e
    subst h0
    refine ⟨none, 0, w, ?_, World.ownsRow_nil _ _ _ _, Below.refl _ _⟩
    simp [Builtin.append_, run_underlying Tryz.underlying46, sizeOf, typeInfo, hi, Builtin.lenOf, Builtin.firstCells]
/-- .. as one step of a region that draws its order. -/
theorem step_append_texts {ops : Array Oper} {o : Oper} {a : Act} {w : World} {K : Act → World → Prop} {Q : Exit → Act → World → Prop} {E : Prop} (hgd : o.guard = none) (s x : Operand)
    (ho : o.op = .call { callee := .builtin .append, args := #[s, x], argTypes := #[46, 46] }) (hs : a.eval s = .slice none 0 0) (sv : Value) (hx : a.eval x = sv) (l : List (List UInt8)) (hl : l.length ≤ 5000) (h : XRow (InH w) w sv l.length (textsC l))
    (hk : ∀ ad c w', w'.ownsRow w.heap.size 9 1 (.slice ad l.length c) l.length (textsC l) → Below w.heap.size w w' → K (a.put o.dst (.slice ad l.length c)) w') :
    if Region.wanted o (yielded ops a.tmps) = true then Oper.wp Tryz.prog o a w K Q else E := by
  have hw : Region.wanted o (yielded ops a.tmps) = true := by simp [Region.wanted, hgd]
  rw [if_pos hw]
  obtain ⟨ad, c, w', hr, h1, h2⟩ := run_append_texts w o.type sv l hl h
  unfold Oper.wp execOp
  simp only [ho, resolve, invoke, builtin, Sem.run_bind, Sem.run_pure, Result.andThen_ok, List.map_toArray, List.map_cons, List.map_nil, hs, hx, hr]
  exact hk _ _ _ h1 h2
/-- .. in the walk. -/
theorem wpList_append_texts {ops : Array Oper} {rest : List Oper} {o : Oper} {a : Act} {w : World} {Q : Exit → Act → World → Prop} (hgd : o.guard = none) (s x : Operand)
    (ho : o.op = .call { callee := .builtin .append, args := #[s, x], argTypes := #[46, 46] }) (hs : a.eval s = .slice none 0 0) (sv : Value) (hx : a.eval x = sv) (l : List (List UInt8)) (hl : l.length ≤ 5000) (h : XRow (InH w) w sv l.length (textsC l))
    (hk : ∀ ad c w', w'.ownsRow w.heap.size 9 1 (.slice ad l.length c) l.length (textsC l) → Below w.heap.size w w' → wpList Tryz.prog ops Q rest (a.put o.dst (.slice ad l.length c)) w') :
    wpList Tryz.prog ops Q (o :: rest) a w := by
  refine wpList_plain hgd fun K hK => ?_
  obtain ⟨ad, c, w', hr, h1, h2⟩ := run_append_texts w o.type sv l hl h
  unfold Oper.wp execOp
  simp only [ho, resolve, invoke, builtin, Sem.run_bind, Sem.run_pure, Result.andThen_ok, List.map_toArray, List.map_cons, List.map_nil, hs, hx, hr]
  exact hK _ _ (hk _ _ _ h1 h2)
theorem setX3_blk {w : World} {r : Nat} {x0 x1 x2 : Value} {t : TypeId} (h : w.heap[r]? = some (.cells #[x0, x1, x2] t (0, 0))) (u0 u1 u2 : Value) :
    (((w.setCell ⟨r, 0, none⟩ u0).setCell ⟨r, 1, none⟩ u1).setCell ⟨r, 2, none⟩ u2).heap[r]? = some (.cells #[u0, u1, u2] t (0, 0)) := by
  have := blk_setCell (blk_setCell (blk_setCell h 0 u0) 1 u1) 2 u2
  simpa using this
theorem setX3_far {w : World} {r k : Nat} {u0 u1 u2 : Value} (h : k ≠ r) : (((w.setCell ⟨r, 0, none⟩ u0).setCell ⟨r, 1, none⟩ u1).setCell ⟨r, 2, none⟩ u2).heap[k]? = w.heap[k]? := by
  rw [Below.heap_setCell _ _ _ _ h, Below.heap_setCell _ _ _ _ h, Below.heap_setCell _ _ _ _ h]
theorem setX3_size {w : World} {r : Nat} {u0 u1 u2 : Value} : (((w.setCell ⟨r, 0, none⟩ u0).setCell ⟨r, 1, none⟩ u1).setCell ⟨r, 2, none⟩ u2).heap.size = w.heap.size := by simp [World.setCell]
/-- The end of a function that hands back a Fun out of block r. -/
theorem retX3 {fn : Func} {R : Ending → World → Prop} {tmps : Array Value} {w : World} {r sl : Nat} {x0 x1 x2 : Value} (hres : fn.results = #[ResultVar.cell sl 50]) (hsl : tmps[sl]? = some (.pointer (some ⟨r, 0, none⟩)))
    (hx : w.heap[r]? = some (.cells #[x0, x1, x2] 50 (0, 0))) (k : ByteArray) (u v : Value)
    (h : R (.returned (.agg #[.string k, u, v])) (((w.setCell ⟨r, 0, none⟩ (.string k)).setCell ⟨r, 1, none⟩ u).setCell ⟨r, 2, none⟩ v)) :
    bodyPost Tryz.prog fn R Exit.ret { tmps := tmps, defers := [] } (((w.setCell ⟨r, 0, none⟩ (.string k)).setCell ⟨r, 1, none⟩ u).setCell ⟨r, 2, none⟩ v) := by
  have h4 := setX3_blk hx (.string k) u v
  generalize (((w.setCell ⟨r, 0, none⟩ (.string k)).setCell ⟨r, 1, none⟩ u).setCell ⟨r, 2, none⟩ v) = W at h h4 ⊢
  have s0 : W.cell? ⟨r, 0, none⟩ = some (.string k) := cell_of_blk h4 0
  have s1 : W.cell? ⟨r, 1, none⟩ = some u := cell_of_blk h4 1
  have s2 : W.cell? ⟨r, 2, none⟩ = some v := cell_of_blk h4 2
  refine bodyPost_ret (v := .agg #[.string k, u, v]) ?_ rfl h
  simp [results, hres, hsl, go_sem, s0, s1, s2]
theorem two_drew {w w2 : World} {A B : Obj} (hb : Below ((w.alloc A).alloc B).drew.heap.size ((w.alloc A).alloc B).drew w2) : w2.heap[w.heap.size]? = some A ∧ w2.heap[w.heap.size + 1]? = some B ∧ Below w.heap.size w w2 ∧ w.heap.size + 2 ≤ w2.heap.size := by
  have hs : ((w.alloc A).alloc B).drew.heap.size = w.heap.size + 2 := by show ((w.alloc A).alloc B).heap.size = _; simp
  have h0 : Below w.heap.size w ((w.alloc A).alloc B).drew := (((Below.refl w.heap.size w).alloc (Nat.le_refl _) _).alloc (by simp) _).drew
  have hz := hb.size
  have e1 : ((w.alloc A).alloc B).drew.heap[w.heap.size]? = some A := (Below.heap_alloc (w.alloc A) B _ (by simp)).trans (heap_alloc_new w A)
  have e2 : ((w.alloc A).alloc B).drew.heap[w.heap.size + 1]? = some B := by
    have := heap_alloc_new (w.alloc A) B
    rw [show (w.alloc A).heap.size = w.heap.size + 1 by simp] at this
    exact this
  exact ⟨(hb.block _ (by omega)).trans e1, (hb.block _ (by omega)).trans e2, bl_trans h0 h0.size hb, by omega⟩
theorem three_cells {w : World} {b : Nat} {x y z : Value} {t : TypeId} (h : w.heap[b]? = some (.cells #[x, y, z] t (0, 0))) : w.cell? ⟨b, 0, none⟩ = some x ∧ w.cell? ⟨b, 1, none⟩ = some y ∧ w.cell? ⟨b, 2, none⟩ = some z ∧ w.frozen? ⟨b, 0, none⟩ = false ∧ w.frozen? ⟨b, 1, none⟩ = false ∧ w.frozen? ⟨b, 2, none⟩ = false :=
  ⟨cell_of_blk h 0, cell_of_blk h 1, cell_of_blk h 2, free_of_blk h 0, free_of_blk h 1, free_of_blk h 2⟩
set_option maxRecDepth 100000 in
set_option maxHeartbeats 4000000 in
theorem asFun_any (x : Fu) (w : World) (cs : List Value) (hX : XF (InH w) w x cs) (hL : LowF x) :
    Calls Tryz.prog 38 #[.agg cs.toArray] w fun ev w' => Below w.heap.size w w' ∧ ∃ u v, ev = .returned (.agg #[.string ⟨x.name.toArray⟩, u, v]) ∧ XF (Nw w w') w' x [.string ⟨x.name.toArray⟩, u, v] := by
  obtain ⟨xn, xp, xb⟩ := x
  obtain ⟨pv, bv, bs, rfl, r2, r3, r4⟩ := hX
  obtain ⟨l1, l2, l3, l4, l5⟩ := hL
  simp only at r2 r3 r4 l1 l2 l3 l4 l5
  obtain ⟨adp, cp, rfl⟩ := r2.is
  obtain ⟨adb, cb, rfl⟩ := r3.is
  have hB : ∀ X, Below w.heap.size w X → Calls Tryz.prog 65 #[.slice adb xb.length cb] X fun ev w' => Below X.heap.size X w' ∧ ∃ ad c, ev = .returned (.slice ad xb.length c) ∧ XLS (Nw X w') w' (.slice ad xb.length c) xb := fun X hX =>
    asStmts_any xb X _ ⟨bs, r3.imp (inH_up hX) (keepH hX), XSs.imp (inH_up hX) (keepH hX) _ _ r4⟩ l4 l5
  have hP : ∀ X, Below w.heap.size w X → XRow (InH X) X (.slice adp xp.length cp) xp.length (textsC xp) := fun X hX => r2.imp (inH_up hX) (keepH hX)
  have HB := hidX hB
  have HP := hidX hP
  clear hB hP r2 r3 r4 l5 l3
  go_enter Tryz.func38, Tryz.ntmps38
  go_wp2_with fail
  go_region_held3 (fun W => W.cell? ⟨w.heap.size, 0, none⟩ = some (.string ⟨xn.toArray⟩) ∧ W.cell? ⟨w.heap.size, 1, none⟩ = some (.slice adp xp.length cp) ∧ W.cell? ⟨w.heap.size, 2, none⟩ = some (.slice adb xb.length cb)) (go_keep)
    (first
      | (refine step_append_texts rfl (.tmp 6) (.tmp 8) rfl (by simp [Act.eval]) (.slice adp xp.length cp) (by simp [Act.eval]) xp (by omega) (HP.out _ (by (repeat (first | exact Below.refl _ _ | assumption | refine Below.drew ?_ | refine Below.trans ?_ (drewN_below' _ _ _) | refine Below.setCell ?_ (by first | (simp; done) | (simp; omega)) _ | refine Below.alloc ?_ (by first | (simp; done) | (simp; omega)) _)))) ?_; intro ad2 c2 w2 ho2 hb2; obtain ⟨t0, t1, t2, t3⟩ := two_drew hb2; obtain ⟨p0, p1, p2, _⟩ := three_cells t0; have HO2 := hidX ho2; have T0 := hidX t0; have T1 := hidX t1; clear ho2 t0 t1)
      | (go_at_call 65; refine (HB.out _ t2).mono ?_; rintro e w3 ⟨hb3, ad3, c3, rfl, hx3⟩; have z3 := hb3.size; have T3 := hidX ((hb3.block _ (by omega)).trans T0.out); obtain ⟨q0, q1, q2, _⟩ := three_cells T3.out; have T4 := hidX ((hb3.block _ (by omega)).trans T1.out); obtain ⟨y0, y1, y2, g0, g1, g2⟩ := three_cells T4.out; have HX3 := hidX hx3; clear hx3))
  clear p0 p1 p2 q0 q1 q2
  have hs2 : w.heap.size + 2 ≤ ((w.alloc (.cells #[.string ⟨xn.toArray⟩, .slice adp xp.length cp, .slice adb xb.length cb] 54)).alloc (.cells #[.string ⟨#[]⟩, .slice none 0 0, .slice none 0 0] 50)).drew.heap.size := by
    show w.heap.size + 2 ≤ ((w.alloc _).alloc _).heap.size; simp
  have hxr := xrow_own HO2.out
  have HXR := hidX hxr
  have HS2 := hidX hs2
  clear hxr hs2 hb2
  go_wp2
  refine retX3 (sl := 2) (by kernel_rfl) rfl T4.out _ _ _ ?_
  obtain ⟨ys, y4, y5⟩ := HX3.out
  have hs2 := HS2.out
  refine ⟨?_, _, _, rfl, _, _, ys, rfl, HXR.out.imp (fun b hb => ⟨by have := hb.1; omega, by rw [setX3_size]; have := hb.2; omega⟩) (fun b hb => (setX3_far (by have := hb.1; omega)).trans (hb3.block b hb.2)), y4.imp (fun b hb => ⟨by have := hb.1; omega, by rw [setX3_size]; exact hb.2⟩) (fun b hb => setX3_far (by have := hb.1; omega)), XSs.imp (fun b hb => ⟨by have := hb.1; omega, by rw [setX3_size]; exact hb.2⟩) (fun b hb => setX3_far (by have := hb.1; omega)) _ _ y5⟩
  exact (((bl_trans t2 t2.size hb3).setCell (by show w.heap.size ≤ w.heap.size + 1; omega) _).setCell (by show w.heap.size ≤ w.heap.size + 1; omega) _).setCell (by show w.heap.size ≤ w.heap.size + 1; omega) _
theorem fun_info : (Tryz.prog.info? 50).map (fun i => (i.zero, i.size, i.bytes)) = some (some (.agg #[.string ⟨#[]⟩, .slice none 0 0, .slice none 0 0]), 3, 64) := by kernel_rfl
theorem fun_one (k : List UInt8) (a1 a2 : Option Addr) (l1 c1 l2 c2 : Nat) : ∀ u ∈ ([.string ⟨k.toArray⟩, .slice a1 l1 c1, .slice a2 l2 c2] : List Value), u.oneCell' = true := by
  intro u hu
  simp only [List.mem_cons, List.not_mem_nil, or_false] at hu
  rcases hu with rfl | rfl | rfl <;> rfl
set_option maxRecDepth 100000 in
set_option maxHeartbeats 4000000 in
theorem asFuns_any (l : List Fu) (hl : l.length ≤ 10) (hL : ∀ f ∈ l, LowF f) (w : World) (v : Value) (hX : XLF (InH w) w v l) :
    Calls Tryz.prog 14 #[v] w fun ev w' => Below w.heap.size w w' ∧ ∃ v' ys, ev = .returned v' ∧ w'.ownsRow w.heap.size 50 3 v' l.length ys ∧ XFs (KA w.heap.size w' v') w' l ys := by
  obtain ⟨xs, hr, hk⟩ := hX
  obtain ⟨ad, cap, rfl⟩ := hr.is
  obtain ⟨i0, hi, hy0, hy1, hy2⟩ := info_parts fun_info
  have hl' : (l.length : Int) ≤ 10 := by omega
  have R := hidX hr
  have KK := hidX hk
  have LL := hidX hL
  clear hr hk hL
  go_enter Tryz.func14, Tryz.ntmps14
  go_wp2_with fail
  go_loopw [3, 4] (fun vo vi wr => ∃ (q : Nat) (ys : List Value), q ≤ l.length ∧ vi = .int .i64 q ∧ Below w.heap.size w wr ∧ wr.ownsRow w.heap.size 50 3 vo q ys ∧ Hid (XFs (KA w.heap.size wr vo) wr (l.take q) ys)) (fun _ vi _ => l.length - (intOf vi).toNat)
  case atStart => exact ⟨0, [], Nat.zero_le _, rfl, by (repeat (first | exact Below.refl _ _ | assumption | refine Below.drew ?_ | refine Below.trans ?_ (drewN_below' _ _ _) | refine Below.setCell ?_ (by first | (simp; done) | (simp; omega)) _ | refine Below.alloc ?_ (by first | (simp; done) | (simp; omega)) _)), World.ownsRow_nil _ _ _ _, rfl⟩
  case round =>
    obtain ⟨q, ys, hq, rfl, hbl, hown, HXS⟩ := hrel
    obtain ⟨advs, capvs, rfl⟩ := own_sl hown
    have HOW := hidX hown
    have hzr := hbl.size
    clear hown
    by_cases hlt : q < l.length
    · have hlt' : (q : Int) < (l.length : Int) := by omega
      obtain ⟨ka, e1, e2⟩ := KK.out.at hlt
      have hlx := LL.out _ (List.getElem_mem hlt)
      have htk : l.take (q + 1) = l.take q ++ [l[q]] := List.take_succ_eq_append_getElem hlt
      generalize l[q] = x at e1 hlx htk
      have hcall := asFun_any x wr ka (XF.imp (inH_up hbl) (keepH hbl) _ _ e1) hlx
      obtain ⟨xn, xp, xb⟩ := x
      obtain ⟨pv, bv, bs, rfl, r2, r3, r4⟩ := e1
      simp only at r2 r3 r4 hcall e2
      obtain ⟨ga, off, rfl, hga, g1⟩ := x3_at R.out hlt e2
      obtain ⟨adp, cp, rfl⟩ := r2.is
      obtain ⟨adb, cb, rfl⟩ := r3.is
      have k1 := g1.keep (hbl.block ga hga)
      have a0 := k1.c0
      have a1' := k1.c1
      have a2' := k1.c2
      have HCL := hidX hcall
      have HTK := hidX htk
      clear hcall r2 r3 r4 e2 g1 k1 hlx htk
      go_wp2_with fail
      refine HCL.out.mono ?_
      rintro e W ⟨hbW, u, u', rfl, hxW⟩
      obtain ⟨pv2, bv2, bs2, e3, s2, s3, s4⟩ := hxW
      injection e3 with _ e3
      injection e3 with e4 e3
      injection e3 with e5 _
      subst e4 e5
      simp only at s2 s3 s4
      obtain ⟨a1, c1, rfl⟩ := s2.is
      obtain ⟨a2, c2, rfl⟩ := s3.is
      have HXW : Hid (XF (Nw wr W) W ⟨xn, xp, xb⟩ [.string ⟨xn.toArray⟩, .slice a1 xp.length c1, .slice a2 xb.length c2]) := ⟨_, _, bs2, rfl, s2, s3, s4⟩
      have hzW := hbW.size
      have HOW2 := hidX (owns_below HOW.out hbW)
      have hnc := new_two W (.cells #[.string ⟨xn.toArray⟩, .slice a1 xp.length c1, .slice a2 xb.length c2] 50) #[.string ⟨xn.toArray⟩, .slice a1 xp.length c1, .slice a2 xb.length c2] 50
      have HNC := hidX hnc
      have hbB : Below W.heap.size W ((W.alloc (.cells #[.string ⟨xn.toArray⟩, .slice a1 xp.length c1, .slice a2 xb.length c2] 50)).alloc (.cells #[.string ⟨xn.toArray⟩, .slice a1 xp.length c1, .slice a2 xb.length c2] 50)) := bl_trans (box_blk _ _ _) (by simp) (box_blk _ _ _)
      have HBB := hidX hbB
      clear hnc hbB a0 a1' a2' s2 s3 s4 HCL
      go_wp2_with (at_builtin; refine wpList_append_own_at _ rfl _ _ 28 rfl w.heap.size 50 i0 _ 3 64 Tryz.underlying28 hi hy0 hy1 hy2 rfl (by decide) (.slice advs q capvs) q ys rfl (owns_below HOW2.out HBB.out) ⟨W.heap.size + 1, 0, none⟩ 1 1 [.string ⟨xn.toArray⟩, .slice a1 xp.length c1, .slice a2 xb.length c2] rfl rfl HNC.out (fun_one xn a1 a2 xp.length c1 xb.length c2) (by unfold maxLen; omega) (by omega) (by simp; omega) ?_; intro v' w5 hown' hgrow _ hloc)
      have hxs := app_keep (Rep := XF) (Reps := XFs) XFs.imp XF.imp XFs.snoc HOW.out HXS.out hbW HXW.out HBB.out hzr hgrow (by simpa using hloc)
      rw [← HTK.out] at hxs
      have hb5 : Below w.heap.size w w5 := grown_below (bl_trans (bl_trans hbl hbl.size hbW) (Nat.le_trans hbl.size hbW.size) HBB.out) (Nat.le_refl _) HOW.out hgrow
      have HX5 := hidX hxs
      have HO5 := hidX hown'
      clear hxs hown' hgrow hloc
      go_roundw
      case rel => exact ⟨q + 1, _, by omega, by go_num, hb5, HO5.out, HX5.out⟩
      case measure => simp [intOf]; omega
    · have hqn : q = l.length := by omega
      subst hqn
      have hxs := HXS.out
      rw [List.take_length] at hxs
      have HXS2 := hidX hxs
      clear hxs
      go_wp2
      go_ret
      exact ⟨hbl, _, ys, rfl, HOW.out, HXS2.out⟩
end Go.Proofs.YtcebpmaggnephabGreatDoor
