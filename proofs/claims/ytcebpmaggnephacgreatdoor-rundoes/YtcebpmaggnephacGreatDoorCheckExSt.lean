/-
  Our own: texts joined: CheckExpr, CheckStmt, CheckBlock, CheckFun.
-/
import Derived.Test.YtcebpmaggnephacGreatDoorCheckUse
import Derived.Test.YtcebpmaggnephacGreatDoorCheckIss
import Derived.Test.YtcebpmaggnephacGreatDoorCheckSize

/-
  Our own: package check: an expression.
-/
namespace Go.Proofs.YtcebpmaggnephacGreatDoor
open Go.RowKit Go.Maps

theorem andC_assoc (a b c : Nat) : andC (andC a b) c = andC a (andC b c) := by unfold andC; by_cases h : a = 0 <;> simp [h]
theorem andC_nil (a : Nat) : andC a 0 = a := by unfold andC; split <;> simp_all
theorem exprsC_app (F : List Fu) (vis : List (List UInt8)) : ∀ (l r : List Ex), exprsC F vis (l ++ r) = andC (exprsC F vis l) (exprsC F vis r)
  | [], r => by simp [exprsC, andC]
  | e :: l, r => by rw [List.cons_append, exprsC, exprsC, exprsC_app F vis l r, andC_assoc]
theorem split_at {α : Type} (l : List α) (q : Nat) (h : q < l.length) : l = l.take q ++ l[q] :: l.drop (q + 1) := by
  rw [List.getElem_cons_drop, List.take_append_drop]
theorem exprs_bad {F : List Fu} {vis : List (List UInt8)} {l : List Ex} {q : Nat} (h : q < l.length) (h1 : exprsC F vis (l.take q) = 0) (h2 : exprC F vis l[q] ≠ 0) : exprsC F vis l = exprC F vis l[q] := by
  conv => lhs; rw [split_at l q h]
  rw [exprsC_app, h1, exprsC]
  unfold andC
  simp [h2]
theorem exprs_good {F : List Fu} {vis : List (List UInt8)} {l : List Ex} {q : Nat} (h : q < l.length) (h1 : exprsC F vis (l.take q) = 0) (h2 : exprC F vis l[q] = 0) : exprsC F vis (l.take (q + 1)) = 0 := by
  rw [List.take_succ_eq_append_getElem h, exprsC_app, h1, exprsC, h2]; rfl
def ExprOk (e : Ex) : Prop := ∀ (w : World) (a : Nat → Addr) (B p f m : Nat) (fv : Value) (F : List Fu) (all vis : List (List UInt8)) (cs : List Value), Chk w a B p f m fv F all vis → XE (fun b => b < B) w e cs → LowE e →
  Calls Tryz.prog 138 #[.pointer (some ⟨p, 0, none⟩), .agg cs.toArray] w fun ev w' => ev = .returned (errV a (exprC F vis e)) ∧ Below w.heap.size w w'
theorem errV_ne (a : Nat → Addr) {c : Nat} (h : c ≠ 0) : errV a c = sentV (a (c - 1)) := by unfold errV; rw [if_neg h]
theorem errV_zero (a : Nat → Addr) : errV a 0 = .nilIface := rfl
set_option maxRecDepth 100000 in
set_option maxHeartbeats 2000000 in
theorem expr_mk (k : List UInt8) (n : Int) (mm : List UInt8) (ks : List Ex) (ih : ∀ e ∈ ks, ExprOk e) : ExprOk (.mk k n mm ks) := by
  intro w a B p f m fv F all vis cs hC hX hL
  obtain ⟨v, xs, rfl, hr, hk⟩ := hX
  obtain ⟨ad, cap, rfl⟩ := hr.is
  obtain ⟨l1, l2, l3⟩ := hL
  have l2' : (ks.length : Int) ≤ 8 := by omega
  have hb0 := box_blk w #[.string ⟨k.toArray⟩, .int .i64 n, .string ⟨mm.toArray⟩, .slice ad ks.length cap] 60
  have hml := hC.mlt
  have hBm := hC.hB
  have his := isExpr_any a k n mm ad ks.length cap (by omega) (by omega) _ (hC.s.below hb0)
  have IH := hidX ih
  have R := hidX hr
  have KK := hidX hk
  have LL := hidX l3
  have HIS := hidX his
  have HC := hidX hC
  clear ih hr hk l3 his hC
  go_enter Tryz.func138, Tryz.ntmps138
  go_wp2_with fail
  refine HIS.out.mono ?_
  rintro e w1 ⟨rfl, hb1⟩
  have z1 : w.heap.size < w1.heap.size := by have := hb1.size; simp at this; omega
  have hb01 : Below w.heap.size w w1 := bl_trans hb0 hb0.size hb1
  have bk : w1.heap[w.heap.size]? = some (.cells #[.string ⟨k.toArray⟩, .int .i64 n, .string ⟨mm.toArray⟩, .slice ad ks.length cap] 60 (0, 0)) := (hb1.block _ (by simp)).trans (heap_alloc_new _ _)
  have BK := hidX bk
  have hg := shape_glob (HC.out.s.below hb01)
  have d3 : w1.cell? ⟨w.heap.size, 3, none⟩ = some (.slice ad ks.length cap) := cell_of_blk bk 3
  clear bk hb1 HIS
  cases hsh : shapeE k n mm ks.length with
  | false =>
    have he : exprC F vis (.mk k n mm ks) = 3 := by rw [exprC, if_pos hsh]
    have HE := hidX he
    clear he hsh
    go_wp2
    go_ret
    exact ⟨by rw [HE.out]; rfl, hb01⟩
  | true =>
    have he : exprC F vis (.mk k n mm ks) = andC (exprsC F vis ks) (if k = kName then (if mm ∈ vis then 0 else 6) else if k = kCall then callC F mm ks.length else 0) := by rw [exprC, if_neg (by rw [hsh]; simp)]
    have HE := hidX he
    clear he hsh
    go_wp2_with fail
    clear hg d3
    go_loopw [15] (fun vi wr => ∃ q : Nat, q ≤ ks.length ∧ vi = .int .i64 q ∧ Below w.heap.size w wr ∧ w.heap.size < wr.heap.size ∧ wr.heap[w.heap.size]? = some (.cells #[.string ⟨k.toArray⟩, .int .i64 n, .string ⟨mm.toArray⟩, .slice ad ks.length cap] 60 (0, 0)) ∧ Hid (exprsC F vis (ks.take q) = 0)) (fun vi _ => ks.length - (intOf vi).toNat)
    case atStart => exact ⟨0, Nat.zero_le _, rfl, hb01, z1, BK.out, by unfold Hid; rw [List.take_zero, exprsC]⟩
    case round =>
      obtain ⟨q, hq, rfl, hbl, hz, hbk, HQ⟩ := hrel
      by_cases hlt : q < ks.length
      · have hlt' : (q : Int) < (ks.length : Int) := by omega
        obtain ⟨ka, e1, e2⟩ := KK.out.at hlt
        obtain ⟨ga, off, rfl, hga, g1⟩ := R.out.el 4 hlt e2
        have hgw : ga < w.heap.size := by omega
        have hx := IH.out _ (List.getElem_mem hlt)
        have hlx := LL.out.mem _ (List.getElem_mem hlt)
        have hbad : exprC F vis ks[q] ≠ 0 → exprsC F vis ks = exprC F vis ks[q] := exprs_bad hlt HQ.out
        have hgood : exprC F vis ks[q] = 0 → exprsC F vis (ks.take (q + 1)) = 0 := exprs_good hlt HQ.out
        generalize ks[q] = x at e1 hx hlx hbad hgood
        have hcall : ∀ X, Below w.heap.size w X → Calls Tryz.prog 138 #[.pointer (some ⟨p, 0, none⟩), .agg ka.toArray] X fun ev w' => ev = .returned (errV a (exprC F vis x)) ∧ Below X.heap.size X w' := fun X hX =>
          hx X a B p f m fv F all vis ka (HC.out.below hX) (XE.imp (fun _ h => h) (fun b hb => hX.block b (by omega)) _ _ e1) hlx
        obtain ⟨xk, xn, xm, xks⟩ := x
        obtain ⟨ya, za, rfl, ra, _⟩ := e1
        obtain ⟨ad1, cap1, rfl⟩ := ra.is
        have a0 := (hbl.cell (p := ⟨ga, _, none⟩) hgw).trans (g1 0 _ (by decide) rfl)
        have a1 := (hbl.cell (p := ⟨ga, _, none⟩) hgw).trans (g1 1 _ (by decide) rfl)
        have a2 := (hbl.cell (p := ⟨ga, _, none⟩) hgw).trans (g1 2 _ (by decide) rfl)
        have a3 := (hbl.cell (p := ⟨ga, _, none⟩) hgw).trans (g1 3 _ (by decide) rfl)
        rw [Nat.add_zero] at a0
        simp only [← Nat.add_assoc] at a1 a2 a3
        have HCL := hidX hcall
        have HBK := hidX hbk
        have HBD := hidX hbad
        have HGD := hidX hgood
        clear g1 e2 ra hcall hx hlx hbk hbad hgood
        go_wp2_with fail
        refine (HCL.out _ (hbl.alloc (by omega) _)).mono ?_
        rintro e w2 ⟨rfl, hb2⟩
        have hb3 : Below wr.heap.size wr w2 := bl_trans (box_blk wr _ _) (by simp) hb2
        have hz3 := hb3.size
        have hb4 := bl_trans hbl hbl.size hb3
        clear a0 a1 a2 a3
        by_cases hc : exprC F vis (.mk xk xn xm xks) = 0
        · rw [hc, errV_zero]
          have hgd := HGD.out hc
          have HGD2 := hidX hgd
          clear hgd hc
          go_wp2
          go_roundw
          case rel => exact ⟨q + 1, by omega, by go_num, hb4, by omega, (hb3.block _ hz).trans HBK.out, HGD2.out⟩
          case measure => simp [intOf]; omega
        · rw [errV_ne a hc]
          have hbd := HBD.out hc
          have HBD2 := hidX hbd
          have HNC := hidX hc
          clear hbd hc
          go_wp2
          go_ret
          refine ⟨?_, hb4⟩
          rw [HE.out, HBD2.out]
          unfold andC
          rw [if_neg HNC.out, errV_ne a HNC.out]; rfl
      · have hqn : q = ks.length := by omega
        subst hqn
        have HQ2 : Hid (exprC F vis (.mk k n mm ks) = (if k = kName then (if mm ∈ vis then 0 else 6) else if k = kCall then callC F mm ks.length else 0)) := by
          have := HQ.out; rw [List.take_length] at this
          unfold Hid; rw [HE.out, this]; rfl
        have d0 : wr.cell? ⟨w.heap.size, 0, none⟩ = some (.string ⟨k.toArray⟩) := cell_of_blk hbk 0
        have d2 : wr.cell? ⟨w.heap.size, 2, none⟩ = some (.string ⟨mm.toArray⟩) := cell_of_blk hbk 2
        have d3 : wr.cell? ⟨w.heap.size, 3, none⟩ = some (.slice ad ks.length cap) := cell_of_blk hbk 3
        have hCr := HC.out.below hbl
        have hu := use_any hCr mm (by omega)
        have hcl := call_any hCr mm (by omega) ks.length (by omega)
        clear hbk hCr
        by_cases k1 : k = kName
        · subst k1
          have hfin : errV a (exprC F vis (.mk kName n mm ks)) = errV a (if mm ∈ vis then 0 else 6) := by rw [HQ2.out, if_pos rfl]
          generalize errV a (if mm ∈ vis then 0 else 6) = ev at hu hfin
          have HU := hidX hu
          have HF := hidX hfin
          clear hu hcl hfin HQ2
          go_wp2_with fail
          refine HU.out.mono ?_
          rintro e w2 ⟨rfl, hb2⟩
          go_wp2
          go_ret
          exact ⟨by rw [HF.out]; rfl, bl_trans hbl hbl.size hb2⟩
        · have n1 : (k == [110, 97, 109, 101]) = false := ne_lit k1
          by_cases k2 : k = kCall
          · subst k2
            have hfin : errV a (exprC F vis (.mk kCall n mm ks)) = errV a (callC F mm ks.length) := by rw [HQ2.out, if_neg k1, if_pos rfl]
            generalize errV a (callC F mm ks.length) = ev at hcl hfin
            have HCL := hidX hcl
            have HF := hidX hfin
            clear hu hcl hfin HQ2 k1
            go_wp2_with fail
            refine HCL.out.mono ?_
            rintro e w2 ⟨rfl, hb2⟩
            go_wp2
            go_ret
            exact ⟨by rw [HF.out]; rfl, bl_trans hbl hbl.size hb2⟩
          · have n2 : (k == [99, 97, 108, 108]) = false := ne_lit k2
            have hfin : errV a (exprC F vis (.mk k n mm ks)) = .nilIface := by rw [HQ2.out, if_neg k1, if_neg k2]; rfl
            have HF := hidX hfin
            clear k1 k2 hu hcl hfin HQ2
            go_wp2
            go_ret
            exact ⟨by rw [HF.out]; rfl, hbl⟩
mutual
theorem expr_any : ∀ e : Ex, ExprOk e
  | .mk k n m ks => expr_mk k n m ks (exprs_any ks)
theorem exprs_any : ∀ l : List Ex, ∀ e ∈ l, ExprOk e
  | [], _, h => absurd h (by simp)
  | e :: r, x, h => by
    rcases List.mem_cons.1 h with h | h
    · rw [h]; exact expr_any e
    · exact exprs_any r x h
end
end Go.Proofs.YtcebpmaggnephacGreatDoor

/-
  Our own: package check: a statement, a block of them.
-/
namespace Go.Proofs.YtcebpmaggnephacGreatDoor
open Go.RowKit Go.Maps

theorem declC_len {all b : List (List UInt8)} {m : List UInt8} (h : declC all m = .ok b) (hl : all.length ≤ 12) : b.length ≤ 12 := by
  obtain ⟨rfl, _, h2⟩ := declC_ok h; simp; omega
mutual
theorem stmtC_len (F : List Fu) : ∀ (s : Sm) (all vis b : List (List UInt8)), stmtC F all vis s = .ok b → all.length ≤ 12 → b.length ≤ 12
  | .mk k m e t o, all, vis, b, h, hl => by
    obtain ⟨_, _, h3⟩ := stmtC_ok h
    rcases h3 with ⟨_, hd, _, _⟩ | ⟨_, _, _, hb, _, _⟩ | ⟨_, _, a, ha, hb⟩
    · exact declC_len hd hl
    · rw [hb]; exact hl
    · exact blockC_len F o a vis b hb (blockC_len F t all vis a ha hl)
theorem blockC_len (F : List Fu) : ∀ (l : List Sm) (all vis b : List (List UInt8)), blockC F all vis l = .ok b → all.length ≤ 12 → b.length ≤ 12
  | [], all, vis, b, h, hl => by rw [blockC] at h; cases h; exact hl
  | s :: r, all, vis, b, h, hl => by
    rw [blockC_cons] at h
    obtain ⟨a, h1, h2⟩ := bind_ok h
    exact blockC_len F r a _ b h2 (stmtC_len F s all vis a h1 hl)
end
theorem stmtC_sub {F : List Fu} {s : Sm} {all vis b : List (List UInt8)} (h : stmtC F all vis s = .ok b) : ∀ x ∈ all, x ∈ b := by
  rw [(stmt_vars F s all vis b h).1]; intro x hx; exact List.mem_append_left _ hx
/-- What a statement or a block comes to. -/
def BlkTo (a : Nat → Addr) (m : Nat) (vis : List (List UInt8)) (w : World) (r : Cs) (e : Ending) (w' : World) : Prop :=
  But m w w' ∧ match r with
    | .bad c => e = .returned (errV a c)
    | .ok all' => e = .returned .nilIface ∧ VarsAt w' m all' vis
def BlockOk (l : List Sm) : Prop := ∀ (w : World) (a : Nat → Addr) (B p f m : Nat) (fv : Value) (F : List Fu) (all vis : List (List UInt8)) (v : Value), Chk w a B p f m fv F all vis → all.length ≤ 12 → XLS (fun b => b < B) w v l → l.length ≤ 30 → LowSs l →
  Calls Tryz.prog 93 #[.pointer (some ⟨p, 0, none⟩), v] w (BlkTo a m vis w (blockC F all vis l))
def StmtOk (s : Sm) : Prop := ∀ (w : World) (a : Nat → Addr) (B p f m : Nat) (fv : Value) (F : List Fu) (all vis : List (List UInt8)) (cs : List Value), Chk w a B p f m fv F all vis → all.length ≤ 12 → XS (fun b => b < B) w s cs → LowS s →
  Calls Tryz.prog 120 #[.pointer (some ⟨p, 0, none⟩), .agg cs.toArray] w (BlkTo a m (visC vis s) w (stmtC F all vis s))
theorem blk_bad {a : Nat → Addr} {m : Nat} {vis : List (List UInt8)} {w w' : World} {r : Cs} {e : Ending} {c : Nat} (hr : r = .bad c) (hb : But m w w') (he : e = .returned (errV a c)) : BlkTo a m vis w r e w' := by
  subst hr; exact ⟨hb, he⟩
theorem blk_ok {a : Nat → Addr} {m : Nat} {vis : List (List UInt8)} {w w' : World} {r : Cs} {e : Ending} {all' : List (List UInt8)} (hr : r = .ok all') (hb : But m w w') (he : e = .returned .nilIface) (hv : VarsAt w' m all' vis) : BlkTo a m vis w r e w' := by
  subst hr; exact ⟨hb, he, hv⟩
theorem But.after {m : Nat} {w w1 w2 : World} (h : But m w w1) (hb : Below w1.heap.size w1 w2) : But m w w2 := h.trans (But.of hb)
set_option maxRecDepth 100000 in
set_option maxHeartbeats 2000000 in
theorem stmt_mk (k nm : List UInt8) (e : Ex) (t o : List Sm) (iht : BlockOk t) (iho : BlockOk o) : StmtOk (.mk k nm e t o) := by
  intro w a B p f m fv F all vis cs hC hall hX hL
  obtain ⟨es, tv, ts, ov, os, rfl, he, ht, hts, ho, hos⟩ := hX
  obtain ⟨l1, l2, l3, l4, l5, l6, l7⟩ := hL
  have hexpr := fun X (hX : Chk X a B p f m fv F all vis) (hb : Below w.heap.size w X) => expr_any e X a B p f m fv F all vis es hX (XE.imp (fun _ h => h) (fun b (h : b < B) => hb.block b (by have := hC.hB; have := hC.mlt; omega)) _ _ he) l3
  have hT : ∀ X all', Chk X a B p f m fv F all' vis → all'.length ≤ 12 → But m w X → Calls Tryz.prog 93 #[.pointer (some ⟨p, 0, none⟩), tv] X (BlkTo a m vis X (blockC F all' vis t)) := fun X all' h1 h2 h3 =>
    iht X a B p f m fv F all' vis tv h1 h2 ⟨ts, ht.imp (fun _ h => h) (keepBut hC.hB hC.mlt h3), XSs.imp (fun _ h => h) (keepBut hC.hB hC.mlt h3) _ _ hts⟩ l4 l5
  have hO : ∀ X all', Chk X a B p f m fv F all' vis → all'.length ≤ 12 → But m w X → Calls Tryz.prog 93 #[.pointer (some ⟨p, 0, none⟩), ov] X (BlkTo a m vis X (blockC F all' vis o)) := fun X all' h1 h2 h3 =>
    iho X a B p f m fv F all' vis ov h1 h2 ⟨os, ho.imp (fun _ h => h) (keepBut hC.hB hC.mlt h3), XSs.imp (fun _ h => h) (keepBut hC.hB hC.mlt h3) _ _ hos⟩ l6 l7
  obtain ⟨adt, ct, rfl⟩ := ht.is
  obtain ⟨ado, co, rfl⟩ := ho.is
  have hec : exprC F vis e = exprC F vis e := rfl
  generalize hEC : exprC F vis e = ec at hexpr
  have HEC := hidX hEC
  clear hEC hec
  obtain ⟨ek, en, em, eks⟩ := e
  obtain ⟨ev, exs, rfl, her, _⟩ := he
  obtain ⟨ade, cae, rfl⟩ := her.is
  have hb0 := box_blk w #[.string ⟨k.toArray⟩, .string ⟨nm.toArray⟩, .string ⟨ek.toArray⟩, .int .i64 en, .string ⟨em.toArray⟩, .slice ade eks.length cae, .slice adt t.length ct, .slice ado o.length co] 63
  have his := isStmt_any a k nm (.string ⟨ek.toArray⟩) (.int .i64 en) (.string ⟨em.toArray⟩) (.slice ade eks.length cae) adt ado t.length o.length ct co (by omega) (by omega) (by omega) _ (hC.s.below hb0).lexG
  have hml := hC.mlt
  have HIS := hidX his
  have HC := hidX hC
  have HX := hidX hexpr
  have HT := hidX hT
  have HO := hidX hO
  clear hexpr hT hO iht iho ht hts ho hos her l3 l5 l7 his hC
  go_enter Tryz.func120, Tryz.ntmps120
  go_wp2_with fail
  refine HIS.out.mono ?_
  rintro e1 w1 ⟨rfl, hb1⟩
  have z1 : w.heap.size < w1.heap.size := by have := hb1.size; simp at this; omega
  have hb01 : Below w.heap.size w w1 := bl_trans hb0 hb0.size hb1
  have bk : w1.heap[w.heap.size]? = some (.cells #[.string ⟨k.toArray⟩, .string ⟨nm.toArray⟩, .string ⟨ek.toArray⟩, .int .i64 en, .string ⟨em.toArray⟩, .slice ade eks.length cae, .slice adt t.length ct, .slice ado o.length co] 63 (0, 0)) := (hb1.block _ (by simp)).trans (heap_alloc_new _ _)
  have BK := hidX bk
  have hg := shape_glob (HC.out.s.below hb01)
  have d2 : w1.cell? ⟨w.heap.size, 2, none⟩ = some (.string ⟨ek.toArray⟩) := cell_of_blk bk 2
  have d3 : w1.cell? ⟨w.heap.size, 3, none⟩ = some (.int .i64 en) := cell_of_blk bk 3
  have d4 : w1.cell? ⟨w.heap.size, 4, none⟩ = some (.string ⟨em.toArray⟩) := cell_of_blk bk 4
  have d5 : w1.cell? ⟨w.heap.size, 5, none⟩ = some (.slice ade eks.length cae) := cell_of_blk bk 5
  clear bk hb1 HIS
  cases hsh : shapeS k nm t.length o.length with
  | false =>
    have he : stmtC F all vis (.mk k nm (.mk ek en em eks) t o) = .bad 3 := by rw [stmtC, if_pos hsh]
    have HR := hidX he
    clear he hsh
    go_wp2
    go_ret
    exact blk_bad HR.out (But.of hb01) rfl
  | true =>
    have HSH := hidX hsh
    clear hsh
    go_wp2_with fail
    refine (HX.out w1 (HC.out.below hb01) hb01).mono ?_
    rintro e1 w2 ⟨rfl, hb2⟩
    have hb02 : Below w.heap.size w w2 := bl_trans hb01 hb01.size hb2
    have bk2 := (hb2.block _ z1).trans BK.out
    have e0 : w2.cell? ⟨w.heap.size, 0, none⟩ = some (.string ⟨k.toArray⟩) := cell_of_blk bk2 0
    have e1 : w2.cell? ⟨w.heap.size, 1, none⟩ = some (.string ⟨nm.toArray⟩) := cell_of_blk bk2 1
    have e6 : w2.cell? ⟨w.heap.size, 6, none⟩ = some (.slice adt t.length ct) := cell_of_blk bk2 6
    have hC2 := HC.out.below hb02
    have HC2 := hidX hC2
    have BK2 := hidX bk2
    have z2 := hb2.size
    clear d2 d3 d4 d5 bk2 BK hg
    by_cases hc : ec = 0
    · subst hc
      rw [errV_zero]
      have hst : stmtC F all vis (.mk k nm (.mk ek en em eks) t o) = if k = kVar then declC all nm else if k = kSet then (if nm ∈ vis then .ok all else .bad 6) else (blockC F all vis t).bind fun all => blockC F all vis o := by
        rw [stmtC, if_neg (by rw [HSH.out]; simp), HEC.out, if_neg (by simp)]
      have hvs : visC vis (.mk k nm (.mk ek en em eks) t o) = if k = kVar then vis ++ [nm] else vis := rfl
      by_cases k1 : k = kVar
      · subst k1
        rw [if_pos rfl] at hst hvs
        have hd := declare_any hC2 hall nm (by omega)
        have HR := hidX hst
        have HV := hidX hvs
        have HD := hidX hd
        clear hst hvs hd hC2
        go_wp2_with fail
        refine HD.out.mono ?_
        rintro e w3 ⟨hb3, h3⟩
        cases hdc : declC all nm with
        | bad c =>
          rw [hdc] at h3
          obtain ⟨rfl, _⟩ := h3
          have hr2 := HR.out.trans hdc
          have HR2 := hidX hr2
          clear hr2 hdc
          generalize hev : errV a c = ev
          have HEV := hidX hev
          clear hev
          go_wp2
          go_ret
          exact blk_bad HR2.out ((But.of hb02).trans hb3) (by rw [HEV.out]; rfl)
        | ok all' =>
          rw [hdc] at h3
          obtain ⟨rfl, hv3⟩ := h3
          have hr2 := HR.out.trans hdc
          have HR2 := hidX hr2
          clear hr2 hdc
          go_wp2
          go_ret
          exact blk_ok HR2.out ((But.of hb02).trans hb3) rfl (by rw [HV.out]; exact hv3)
      · have n1 : (k == [118, 97, 114]) = false := ne_lit k1
        rw [if_neg k1] at hst hvs
        by_cases k2 : k = kSet
        · subst k2
          rw [if_pos rfl] at hst
          have hu := use_any hC2 nm (by omega)
          have HV := hidX hvs
          clear k1 hvs
          by_cases hm : nm ∈ vis
          · rw [if_pos hm] at hst hu
            rw [errV_zero] at hu
            have HR := hidX hst
            have HU := hidX hu
            have hvv := hC2.vars
            clear hst hu hm hC2
            go_wp2_with fail
            refine HU.out.mono ?_
            rintro e w3 ⟨rfl, hb3⟩
            go_wp2
            go_ret
            exact blk_ok HR.out ((But.of hb02).after hb3) rfl (by rw [HV.out]; exact hvv.keep (hb3.block _ (by omega)))
          · rw [if_neg hm] at hst hu
            have HR := hidX hst
            have HU := hidX hu
            clear hst hu hm hC2
            go_wp2_with fail
            refine HU.out.mono ?_
            rintro e w3 ⟨rfl, hb3⟩
            go_wp2
            go_ret
            exact blk_bad HR.out ((But.of hb02).after hb3) rfl
        · have n2 : (k == [115, 101, 116]) = false := ne_lit k2
          rw [if_neg k2] at hst
          have HR := hidX hst
          have HV := hidX hvs
          clear hst hvs k1 k2 hC2
          go_wp2_with fail
          refine (HT.out w2 all HC2.out hall (But.of hb02)).mono ?_
          rintro e w3 ⟨hb3, h3⟩
          have hb03 := (But.of hb02).trans hb3
          cases hbt : blockC F all vis t with
          | bad c =>
            rw [hbt] at h3
            subst h3
            have hr2 : stmtC F all vis (.mk k nm (.mk ek en em eks) t o) = .bad c := by rw [HR.out, hbt]; rfl
            have hc0 : c ≠ 0 := fun e => funC_ok.blockC_ne0 F t all vis (by rw [hbt, e])
            rw [errV_ne a hc0]
            have HR2 := hidX hr2
            have HC0 := hidX hc0
            clear hr2 hbt hc0
            go_wp2
            go_ret
            exact blk_bad HR2.out hb03 (by rw [errV_ne a HC0.out]; rfl)
          | ok all' =>
            rw [hbt] at h3
            obtain ⟨rfl, hv3⟩ := h3
            have hl' := blockC_len F t all vis all' hbt hall
            have hC3 := HC2.out.keep hb3 hv3
            have ho3 := HO.out w3 all' hC3 hl' hb03
            have hr2 : stmtC F all vis (.mk k nm (.mk ek en em eks) t o) = blockC F all' vis o := by rw [HR.out, hbt]; rfl
            have bk3 : w3.heap[w.heap.size]? = _ := (hb3.block _ (by omega) (by omega)).trans BK2.out
            have e7 : w3.cell? ⟨w.heap.size, 7, none⟩ = some (.slice ado o.length co) := cell_of_blk bk3 7
            have HR2 := hidX hr2
            have HO3 := hidX ho3
            clear hr2 hbt ho3 bk3 hC3 e0 e1 e6
            go_wp2_with fail
            refine HO3.out.mono ?_
            rintro e w4 ⟨hb4, h4⟩
            cases hbo : blockC F all' vis o with
            | bad c =>
              rw [hbo] at h4
              subst h4
              have hr3 := HR2.out.trans hbo
              have HR3 := hidX hr3
              clear hr3 hbo
              generalize hev : errV a c = ev
              have HEV := hidX hev
              clear hev
              go_wp2
              go_ret
              exact blk_bad HR3.out (hb03.trans hb4) (by rw [HEV.out]; rfl)
            | ok all2 =>
              rw [hbo] at h4
              obtain ⟨rfl, hv4⟩ := h4
              have hr3 := HR2.out.trans hbo
              have HR3 := hidX hr3
              clear hr3 hbo
              go_wp2
              go_ret
              exact blk_ok HR3.out (hb03.trans hb4) rfl (by rw [HV.out]; exact hv4)
    · have he : stmtC F all vis (.mk k nm (.mk ek en em eks) t o) = .bad ec := by rw [stmtC, if_neg (by rw [HSH.out]; simp), HEC.out, if_pos hc]
      rw [errV_ne a hc]
      have HR := hidX he
      have HNC := hidX hc
      clear he hc
      go_wp2
      go_ret
      exact blk_bad HR.out (But.of hb02) (by rw [errV_ne a HNC.out]; rfl)
end Go.Proofs.YtcebpmaggnephacGreatDoor

/-
  Our own: package check: a block of statements.
-/
namespace Go.Proofs.YtcebpmaggnephacGreatDoor
open Go.RowKit Go.Maps

theorem text_info : (Tryz.prog.info? 9).map (fun i => (i.zero, i.size, i.bytes)) = some (some (.string ⟨#[]⟩), 1, 16) := by kernel_rfl
theorem text_one (x : List UInt8) : ∀ u ∈ ([.string ⟨x.toArray⟩] : List Value), u.oneCell' = true := by
  intro u hu
  simp only [List.mem_cons, List.not_mem_nil, or_false] at hu
  rcases hu with rfl; rfl
theorem textsC_snoc (l : List (List UInt8)) (x : List UInt8) : textsC (l ++ [x]) = textsC l ++ [.string ⟨x.toArray⟩] := by simp [textsC]
/-- What is owned stays, whatever becomes of a block ahead of it. -/
theorem own_keep {B n size m : Nat} {t : TypeId} {w w' : World} {v : Value} {xs : List Value} (h : w.ownsRow B t size v n xs) (hb : But m w w') (hp : m < B) : w'.ownsRow B t size v n xs := by
  rcases h with ⟨h1, h2 | ⟨g, cap, cur, h3, h4, h5, h6⟩⟩
  · exact ⟨h1, Or.inl h2⟩
  · exact ⟨h1, Or.inr ⟨g, cap, cur, h3, h4, (hb.block g (heap_lt h5) (by omega)).trans h5, h6⟩⟩
theorem own_is {w : World} {B size : Nat} {t : TypeId} {v : Value} {n : Nat} {xs : List Value} (h : w.ownsRow B t size v n xs) : ∃ a cap, v = .slice a n cap := by
  rcases id h with ⟨_, ⟨rfl, rfl⟩ | ⟨g, cap, cur, rfl, _⟩⟩
  · exact ⟨_, _, rfl⟩
  · exact ⟨_, _, rfl⟩
theorem own_cell {w : World} {B cap n : Nat} {t : TypeId} {ad : Option Addr} {l : List (List UInt8)} (h : w.ownsRow B t 1 (.slice ad n cap) l.length (textsC l)) {j : Nat} (hj : j < l.length) : ∃ g, ad = some ⟨g, 0, none⟩ ∧ w.cell? ⟨g, j, none⟩ = some (.string ⟨l[j].toArray⟩) := by
  rcases id h with ⟨_, ⟨e, h0⟩ | ⟨g, cap', cur, e, _⟩⟩
  · omega
  · injection e with e1 e2 e3
    subst e1 e2 e3
    exact ⟨g, rfl, by rw [h.cellAt j (by omega)]; exact texts_get hj⟩
theorem blockC_at {F : List Fu} {all vis : List (List UInt8)} {l : List Sm} {q : Nat} (h : q < l.length) : blockC F all vis (l.drop q) = (stmtC F all vis l[q]).bind fun all => blockC F all (visC vis l[q]) (l.drop (q + 1)) := by
  rw [← List.getElem_cons_drop h, blockC_cons]
/-- What a block has declared so far. -/
structure OwnAt (all allq own : List (List UInt8)) : Prop where
  new : ∀ x ∈ own, x ∉ all
  has : ∀ x ∈ own, x ∈ allq
  old : ∀ x ∈ all, x ∈ allq
  low : ∀ x ∈ own, x.length ≤ 20
set_option maxRecDepth 100000 in
set_option maxHeartbeats 4000000 in
theorem block_list (l : List Sm) (ih : ∀ s ∈ l, StmtOk s) : BlockOk l := by
  intro w a B p f m fv F all vis v hC hall hX hl hL
  obtain ⟨xs, hr, hk⟩ := hX
  obtain ⟨ad, cap, rfl⟩ := hr.is
  obtain ⟨i0, hi, hz0, hz1, hz2⟩ := info_parts text_info
  have hl' : (l.length : Int) ≤ 30 := by omega
  have hml := hC.mlt
  have hBm := hC.hB
  have hpl := heap_lt hC.blk
  have IH := hidX ih
  have R := hidX hr
  have KK := hidX hk
  have LL := hidX hL
  have HC := hidX hC
  clear ih hr hk hL hC
  go_enter Tryz.func93, Tryz.ntmps93
  go_wp2_with fail
  go_loopw [5, 13] (fun vo vi wr => ∃ (q : Nat) (allq own : List (List UInt8)), q ≤ l.length ∧ vi = .int .i64 q ∧ But m w wr ∧ wr.ownsRow w.heap.size 9 1 vo own.length (textsC own) ∧ own.length ≤ q ∧ VarsAt wr m allq (vis ++ own) ∧ allq.length ≤ 12 ∧ Hid (OwnAt all allq own) ∧ Hid (blockC F all vis l = blockC F allq (vis ++ own) (l.drop q))) (fun _ vi _ => l.length - (intOf vi).toNat)
  case atStart => exact ⟨0, all, [], Nat.zero_le _, rfl, But.refl _ _, World.ownsRow_nil _ _ _ _, Nat.le_refl _, by rw [List.append_nil]; exact HC.out.vars, hall, ⟨by simp, by simp, fun x h => h, by simp⟩, by unfold Hid; rw [List.append_nil, List.drop_zero]⟩
  case round =>
    obtain ⟨q, allq, own, hq, rfl, hbw, hown, hol, hvr, hal, HOW, HB⟩ := hrel
    have hzw := hbw.size
    by_cases hlt : q < l.length
    · have hlt' : (q : Int) < (l.length : Int) := by omega
      obtain ⟨ka, e1, e2⟩ := KK.out.at hlt
      have hx := IH.out _ (List.getElem_mem hlt)
      have hlx := LL.out.mem _ (List.getElem_mem hlt)
      have hstep := HB.out.trans (blockC_at hlt)
      generalize l[q] = x at e1 hx hlx hstep
      have hCr : Chk wr a B p f m fv F allq (vis ++ own) := HC.out.keep hbw hvr
      have hcall : ∀ X, Below wr.heap.size wr X → Calls Tryz.prog 120 #[.pointer (some ⟨p, 0, none⟩), .agg ka.toArray] X (BlkTo a m (visC (vis ++ own) x) X (stmtC F allq (vis ++ own) x)) := fun X hX =>
        hx X a B p f m fv F allq (vis ++ own) ka (hCr.below hX) hal (XS.imp (fun _ h => h) (keepBut hBm hml (hbw.after hX)) _ _ e1) hlx
      obtain ⟨xk, xm, xe, xt, xo⟩ := x
      obtain ⟨ea, ta, tsa, oa, osa, rfl, r1, r2, r3, r4, r5⟩ := e1
      obtain ⟨ga, off, rfl, hga, g1⟩ := x8_at R.out hlt r1.len e2
      obtain ⟨adt, ct, rfl⟩ := r2.is
      obtain ⟨ado, co, rfl⟩ := r4.is
      obtain ⟨xek, xen, xem, xes⟩ := xe
      obtain ⟨ya, za, rfl, ra, _⟩ := r1
      obtain ⟨ad1, cap1, rfl⟩ := ra.is
      have hgw : ga < w.heap.size := by omega
      have k1 := g1.keep (hbw.block ga hgw (by omega))
      have a0 := k1.c0
      have a1 := k1.c1
      have a2 := k1.c2 0 _ (by decide) rfl
      have a3 := k1.c2 1 _ (by decide) rfl
      have a4 := k1.c2 2 _ (by decide) rfl
      have a5 := k1.c2 3 _ (by decide) rfl
      have a6 := k1.c6
      have a7 := k1.c7
      simp only [Nat.add_zero, Nat.reduceAdd] at a2 a3 a4 a5
      have HCL := hidX hcall
      have HST := hidX hstep
      have HOWN := hidX hown
      obtain ⟨ado2, cao2, rfl⟩ := own_is hown
      clear hcall hstep g1 k1 e2 r2 r3 r4 r5 ra hx hCr hown
      go_wp2_with fail
      refine (HCL.out _ (box_blk _ _ _)).mono ?_
      rintro e w2 ⟨hb2, h2⟩
      have hbx : But m wr w2 := ((But.refl m wr).alloc _).trans hb2
      have hbw2 : But m w w2 := hbw.trans hbx
      have bk : w2.heap[wr.heap.size]? = some (.cells #[.string ⟨xk.toArray⟩, .string ⟨xm.toArray⟩, .string ⟨xek.toArray⟩, .int .i64 xen, .string ⟨xem.toArray⟩, .slice ad1 xes.length cap1, .slice adt xt.length ct, .slice ado xo.length co] 63 (0, 0)) := (hb2.block _ (by simp) (by omega)).trans (heap_alloc_new _ _)
      have b0 : w2.cell? ⟨wr.heap.size, 0, none⟩ = some (.string ⟨xk.toArray⟩) := cell_of_blk bk 0
      have b1 : w2.cell? ⟨wr.heap.size, 1, none⟩ = some (.string ⟨xm.toArray⟩) := cell_of_blk bk 1
      have ho2 := own_keep HOWN.out hbx hml
      have z2 : wr.heap.size < w2.heap.size := heap_lt bk
      clear a0 a1 a2 a3 a4 a5 a6 a7 bk
      cases hst : stmtC F allq (vis ++ own) (.mk xk xm (.mk xek xen xem xes) xt xo) with
      | bad c =>
        rw [hst] at h2
        subst h2
        have hr2 : blockC F all vis l = .bad c := by rw [HST.out, hst]; rfl
        have hc0 : c ≠ 0 := fun e => funC_ok.stmtC_ne0 F _ _ _ (by rw [hst, e])
        rw [errV_ne a hc0]
        have HR2 := hidX hr2
        have HC0 := hidX hc0
        clear hr2 hst hc0 ho2
        go_wp2
        go_ret
        exact blk_bad HR2.out hbw2 (by rw [errV_ne a HC0.out]; rfl)
      | ok all' =>
        rw [hst] at h2
        obtain ⟨rfl, hv2⟩ := h2
        have hl2 := stmtC_len F _ _ _ _ hst hal
        have hsb := stmtC_sub hst
        have hr2 : blockC F all vis l = blockC F all' (visC (vis ++ own) (.mk xk xm (.mk xek xen xem xes) xt xo)) (l.drop (q + 1)) := by rw [HST.out, hst]; rfl
        by_cases k1 : xk = kVar
        · subst k1
          have hvc : visC (vis ++ own) (.mk kVar xm (.mk xek xen xem xes) xt xo) = vis ++ (own ++ [xm]) := by
            show (if kVar = kVar then vis ++ own ++ [xm] else vis ++ own) = _
            rw [if_pos rfl, List.append_assoc]
          rw [hvc] at hr2 hv2
          obtain ⟨_, _, hd⟩ := stmtC_ok hst
          have hdc : declC allq xm = .ok all' := by
            rcases hd with ⟨_, hd, _⟩ | ⟨h, _⟩ | ⟨h, _⟩
            · exact hd
            · exact absurd rfl h
            · exact absurd rfl h
          obtain ⟨d1, d2, _⟩ := declC_ok hdc
          have how : OwnAt all all' (own ++ [xm]) := by
            refine ⟨fun x hx => ?_, fun x hx => ?_, fun x hx => hsb x (HOW.out.old x hx), fun x hx => ?_⟩
            · rcases List.mem_append.1 hx with hx | hx
              · exact HOW.out.new x hx
              · rw [List.mem_singleton.1 hx]; exact fun h => d2 (HOW.out.old _ h)
            · rw [d1]
              rcases List.mem_append.1 hx with hx | hx
              · exact List.mem_append_left _ (HOW.out.has x hx)
              · exact List.mem_append_right _ hx
            · rcases List.mem_append.1 hx with hx | hx
              · exact HOW.out.low x hx
              · rw [List.mem_singleton.1 hx]; exact hlx.2.1
          have HR2 := hidX hr2
          have HW2 := hidX how
          have HV2 := hidX hv2
          have HO2 := hidX ho2
          clear hr2 hst how hd hdc d1 d2 hsb hvc hv2 ho2
          go_wp2_with (at_builtin; refine wpList_append_own _ rfl _ _ 37 rfl w.heap.size 9 i0 _ 1 16 Tryz.underlying37 hi hz0 hz1 hz2 rfl (by decide) _ own.length (textsC own) rfl (HO2.out.alloc _) ⟨w2.heap.size, 0, none⟩ 1 1 [.string ⟨xm.toArray⟩] rfl rfl (new_cells w2 #[.string ⟨xm.toArray⟩] 9) (text_one xm) (by unfold maxLen; omega) (by omega) (by simp; omega) ?_; intro v' w3 hown' hgrow _)
          have hb3 : Below w.heap.size w2 w3 := grown_below (W := w2) ((Below.refl _ _).alloc (by omega) _) (by omega) HO2.out hgrow
          have hbut3 : But m w w3 := ⟨hb3.os.trans hbw2.os, hb3.tape.trans hbw2.tape, hb3.output.trans hbw2.output, Nat.le_trans hbw2.size hb3.size, fun k hk hp => (hb3.block k hk).trans (hbw2.block k hk hp)⟩
          have hv3 := HV2.out.keep (hb3.block m hml)
          have ho3 : w3.ownsRow w.heap.size 9 1 v' (own ++ [xm]).length (textsC (own ++ [xm])) := by
            rw [textsC_snoc, List.length_append]; exact hown'
          have HO3 := hidX ho3
          have HV3 := hidX hv3
          clear hown' hgrow b0 b1 ho3 hv3
          go_roundw
          case rel => exact ⟨q + 1, all', own ++ [xm], by omega, by go_num, hbut3, HO3.out, by simp; omega, HV3.out, hl2, HW2.out, HR2.out⟩
          case measure => simp [intOf]; omega
        · have n1 : (xk == [118, 97, 114]) = false := ne_lit k1
          have hvc : visC (vis ++ own) (.mk xk xm (.mk xek xen xem xes) xt xo) = vis ++ own := by
            show (if xk = kVar then vis ++ own ++ [xm] else vis ++ own) = _
            rw [if_neg k1]
          rw [hvc] at hr2 hv2
          have how : OwnAt all all' own := ⟨HOW.out.new, fun x hx => hsb x (HOW.out.has x hx), fun x hx => hsb x (HOW.out.old x hx), HOW.out.low⟩
          have HR2 := hidX hr2
          have HW2 := hidX how
          have HV2 := hidX hv2
          have HO2 := hidX ho2
          clear hr2 hst how k1 hsb hvc hv2 ho2
          go_wp2
          go_roundw
          case rel => exact ⟨q + 1, all', own, by omega, by go_num, hbw2, HO2.out, by omega, HV2.out, hl2, HW2.out, HR2.out⟩
          case measure => simp [intOf]; omega
    · have hqn : q = l.length := by omega
      subst hqn
      have hres : blockC F all vis l = .ok allq := by rw [HB.out, List.drop_length, blockC]
      have HRES := hidX hres
      obtain ⟨ado, cao, rfl⟩ := own_is hown
      have hol' : (own.length : Int) ≤ 30 := by omega
      have HOWN := hidX hown
      have HVR := hidX hvr
      have hpr : wr.heap[p]? = _ := (HC.out.keep hbw hvr).blk
      have HPR := hidX hpr
      clear hres hown hvr HB hpr
      rename World => wo
      have hpm : p ≠ m := by
        rintro rfl
        obtain ⟨es, clock, hx⟩ := HVR.out.isMap
        have := HPR.out
        rw [hx] at this
        cases this
      go_wp2_with fail
      go_loopw [34] (fun vi wr => ∃ j : Nat, j ≤ own.length ∧ vi = .int .i64 j ∧ But m wo wr ∧ VarsAt wr m allq ((vis ++ own).filter (fun s => decide (s ∉ own.take j)))) (fun vi _ => own.length - (intOf vi).toNat)
      case atStart => exact ⟨0, Nat.zero_le _, rfl, But.refl _ _, HVR.out.congr (fun s => by simp)⟩
      case round =>
        obtain ⟨j, hj, rfl, hbr, hvj⟩ := hrel
        have hzr := hbr.size
        by_cases hlj : j < own.length
        · have hlj' : (j : Int) < (own.length : Int) := by omega
          obtain ⟨g, rfl, hc⟩ := own_cell (own_keep HOWN.out hbr hml) hlj
          have hlow := HOW.out.low _ (List.getElem_mem hlj)
          have hhas := HOW.out.has _ (List.getElem_mem hlj)
          have htk : own.take (j + 1) = own.take j ++ [own[j]] := List.take_succ_eq_append_getElem hlj
          generalize own[j] = x at hc hlow hhas htk
          have c2 : wr.cell? ⟨p, 3, none⟩ = some (.map (some m)) := cell_of_blk ((hbr.block p (by omega) hpm).trans HPR.out) 3
          have hkey := key_text x (by omega)
          obtain ⟨hsub, D, d1, d2, d3, d4⟩ := hvj
          have D1 := hidX d1
          have D2 := hidX d2
          have D3 := hidX d3
          have D4 := hidX d4
          have HS := hidX hsub
          have HTK := hidX htk
          have HH := hidX hhas
          clear d1 d2 d3 d4 hsub htk hhas
          go_wp2_with (first | (at_mapUpdate; refine wpList_mapUpdate_own _ rfl _ _ _ 121 rfl 9 222 law_string Tryz.underlying121 varR m allq.length D rfl D1.out (by unfold maxLen; omega) _ _ (.string x) rfl rfl hkey (.lit (.bool true)) [] (varR_mk true) ?_; intro w1 hown1 hgrow1) | go_in)
          have hv1 := VarsAt.put_end HS.out D1.out D2.out D3.out D4.out HH.out _ hown1
          have hv2 : VarsAt w1 m allq ((vis ++ own).filter (fun s => decide (s ∉ own.take (j + 1)))) := by
            refine hv1.congr fun s => ?_
            rw [HTK.out]
            simp only [List.mem_filter, List.mem_append, List.mem_singleton, decide_eq_true_eq, not_or, ne_eq]
            constructor
            · rintro ⟨h1, h2, h3⟩; exact ⟨⟨h1, h2⟩, h3⟩
            · rintro ⟨⟨h1, h2⟩, h3⟩; exact ⟨h1, h2, h3⟩
          have HV2 := hidX hv2
          have hb1 := hbr.trans (grown_but hgrow1)
          clear hv1 hv2 hown1 hgrow1 hc c2 hkey
          go_roundw
          case rel => exact ⟨j + 1, by omega, by go_num, hb1, HV2.out⟩
          case measure => simp [intOf]; omega
        · have hjn : j = own.length := by omega
          subst hjn
          have hv2 : VarsAt wr m allq vis := by
            refine hvj.congr fun s => ?_
            rw [List.take_length]
            simp only [List.mem_filter, List.mem_append, decide_eq_true_eq]
            constructor
            · intro h
              exact ⟨Or.inl h, fun ho => HOW.out.new s ho (HC.out.vars.sub s h)⟩
            · rintro ⟨h1 | h1, h2⟩
              · exact h1
              · exact absurd h1 h2
          have HV2 := hidX hv2
          clear hv2 hvj
          go_wp2
          go_ret
          exact blk_ok HRES.out (hbw.trans hbr) rfl HV2.out
mutual
theorem stmt_any : ∀ s : Sm, StmtOk s
  | .mk k m e t o => stmt_mk k m e t o (block_list t (stmts_any t)) (block_list o (stmts_any o))
theorem stmts_any : ∀ l : List Sm, ∀ s ∈ l, StmtOk s
  | [], _, h => absurd h (by simp)
  | e :: r, x, h => by
    rcases List.mem_cons.1 h with h | h
    · rw [h]; exact stmt_any e
    · exact stmts_any r x h
end
theorem block_any (l : List Sm) : BlockOk l := block_list l (stmts_any l)
end Go.Proofs.YtcebpmaggnephacGreatDoor

/-
  Our own: package check: a function.
-/
namespace Go.Proofs.YtcebpmaggnephacGreatDoor
open Go.RowKit Go.Maps

theorem noName_any (a : Nat → Addr) (s : List UInt8) (hs : s.length ≤ 4000) (w : World) (hG : LexG w a) :
    Calls Tryz.prog 91 #[.string ⟨s.toArray⟩] w fun e w' => e = .returned (.bool (!nameB s)) ∧ Below w.heap.size w w' := by
  go_enter Tryz.func91, Tryz.ntmps91
  go_wp2_with fail
  refine (isName_any a s hs _ hG).mono ?_
  rintro e w' ⟨rfl, hb⟩
  go_wp2
  go_ret
  exact ⟨rfl, hb⟩
set_option maxRecDepth 100000 in
theorem index_any (a : Nat → Addr) (l : List (List UInt8)) (hl : l.length ≤ 5000) (hp : ∀ p ∈ l, p.length ≤ 4000) (w : World) (hG : LexG w a) (v : Value) (hr : XRow (InH w) w v l.length (textsC l)) :
    Calls Tryz.prog 119 #[v, .func (.func 91) #[] #[]] w fun e w' => (∃ r : Int, e = .returned (.int .i64 r) ∧ (0 ≤ r ↔ ∃ p ∈ l, nameB p = false)) ∧ Below w.heap.size w w' := by
  obtain ⟨ad, cap, rfl⟩ := hr.is
  have hl' : (l.length : Int) ≤ 5000 := by omega
  have R := hidX hr
  have HP := hidX hp
  clear hr hp
  go_enter Tryz.func119, Tryz.ntmps119
  go_wp2_with fail
  go_loopw [8] (fun vi wr => ∃ q : Nat, q ≤ l.length ∧ vi = .int .i64 q ∧ Below w.heap.size w wr ∧ Hid (∀ p ∈ l.take q, nameB p = true)) (fun vi _ => l.length - (intOf vi).toNat)
  case atStart => exact ⟨0, Nat.zero_le _, rfl, by (repeat (first | exact Below.refl _ _ | assumption | refine Below.drew ?_ | refine Below.trans ?_ (drewN_below' _ _ _) | refine Below.setCell ?_ (by first | (simp; done) | (simp; omega)) _ | refine Below.alloc ?_ (by first | (simp; done) | (simp; omega)) _)), by intro p hp; simp at hp⟩
  case round =>
    obtain ⟨q, hq, rfl, hbl, HQ⟩ := hrel
    by_cases hlt : q < l.length
    · have hlt' : (q : Int) < (l.length : Int) := by omega
      obtain ⟨g, off, rfl, hg, hc⟩ := R.out.text hlt
      have a0 := (hbl.cell (p := ⟨g, _, none⟩) hg).trans hc
      have hx := noName_any a l[q] (HP.out _ (List.getElem_mem hlt)) wr (hG.below hbl)
      have htk : l.take (q + 1) = l.take q ++ [l[q]] := List.take_succ_eq_append_getElem hlt
      have hmem : l[q] ∈ l := List.getElem_mem hlt
      generalize l[q] = x at a0 hc hx htk hmem
      have HX := hidX hx
      have HTK := hidX htk
      have HM := hidX hmem
      clear hc hx htk hmem
      go_wp2_with fail
      refine HX.out.mono ?_
      rintro e w2 ⟨rfl, hb2⟩
      have hb3 := bl_trans hbl hbl.size hb2
      clear a0
      cases hn : nameB x with
      | false =>
        go_wp2
        go_ret
        exact ⟨⟨q, rfl, (fun _ => ⟨x, HM.out, hn⟩), (fun _ => by omega)⟩, hb3⟩
      | true =>
        have hq2 : ∀ p ∈ l.take (q + 1), nameB p = true := by
          intro p hp
          rw [HTK.out] at hp
          rcases List.mem_append.1 hp with hp | hp
          · exact HQ.out p hp
          · rw [List.mem_singleton.1 hp]; exact hn
        have HQ2 := hidX hq2
        clear hq2
        go_wp2
        go_roundw
        case rel => exact ⟨q + 1, by omega, by go_num, hb3, HQ2.out⟩
        case measure => simp [intOf]; omega
    · have hqn : q = l.length := by omega
      subst hqn
      go_wp2
      go_ret
      refine ⟨⟨-1, rfl, (fun h => by omega), ?_⟩, hbl⟩
      rintro ⟨p, hp, hn⟩
      have := HQ.out p (by rw [List.take_length]; exact hp)
      rw [hn] at this
      cases this
theorem contains_any (a : Nat → Addr) (l : List (List UInt8)) (hl : l.length ≤ 5000) (hp : ∀ p ∈ l, p.length ≤ 4000) (w : World) (hG : LexG w a) (v : Value) (hr : XRow (InH w) w v l.length (textsC l)) :
    Calls Tryz.prog 90 #[v, .func (.func 91) #[] #[]] w fun e w' => e = .returned (.bool (decide (∃ p ∈ l, nameB p = false))) ∧ Below w.heap.size w w' := by
  have hx := index_any a l hl hp w hG v hr
  have HX := hidX hx
  obtain ⟨ad, cap, rfl⟩ := hr.is
  generalize hB : decide (∃ p ∈ l, nameB p = false) = b
  have HB := hidX hB
  clear hx hr hB
  go_enter Tryz.func90, Tryz.ntmps90
  go_wp2_with fail
  refine HX.out.mono ?_
  rintro e w2 ⟨⟨r, rfl, hr⟩, hb2⟩
  have hb : decide (0 ≤ r) = b := by
    rw [← HB.out, Bool.eq_iff_iff]; simpa using hr
  have HE := hidX hb
  clear hr hb
  go_wp2
  go_ret
  exact ⟨ret_bool (a := decide (0 ≤ r)) HE.out, hb2⟩
theorem cellB {w w' : World} {p : Nat} (h : But p w w') {b i : Nat} {v : Value} (hb : w.cell? ⟨b, i, none⟩ = some v) (hp : b ≠ p) : w'.cell? ⟨b, i, none⟩ = some v :=
  (World.cell?_of_block (w := w) (a := ⟨b, i, none⟩) (h.block b (cell_lt hb) hp)).trans hb
theorem parsC_at {all l : List (List UInt8)} {q : Nat} (h : q < l.length) : parsC all (l.drop q) = (declC all l[q]).bind fun all => parsC all (l.drop (q + 1)) := by
  rw [← List.getElem_cons_drop h, parsC]
theorem declC_ne0 {all : List (List UInt8)} {m : List UInt8} {c : Nat} (h : declC all m = .bad c) : c ≠ 0 := by
  unfold declC at h
  split at h
  · cases h; decide
  · split at h <;> cases h; decide
set_option maxRecDepth 100000 in
set_option maxHeartbeats 4000000 in
theorem fun_any {w : World} {a : Nat → Addr} {B p f m : Nat} {fv : Value} {F : List Fu} (hC : Chk w a B p f m fv F [] []) (x : Fu) (tw : Bool) (cs : List Value) (hX : XF (fun b => b < B) w x cs) (hL : LowF x) :
    Calls Tryz.prog 52 #[.pointer (some ⟨p, 0, none⟩), .agg cs.toArray, .bool tw] w fun e w' => e = .returned (errV a (funC F tw x)) ∧ But m w w' := by
  obtain ⟨xn, xp, xb⟩ := x
  obtain ⟨pv, bv, bs, rfl, r2, r3, r4⟩ := hX
  obtain ⟨l1, l2, l3, l4, l5⟩ := hL
  simp only at r2 r3 r4 l1 l2 l3 l4 l5
  have hml := hC.mlt
  have hBm := hC.hB
  obtain ⟨adp, cp, rfl⟩ := r2.is
  obtain ⟨adb, cb, rfl⟩ := r3.is
  have l2' : (xp.length : Int) ≤ 8 := by omega
  have hb0 := box_blk w #[.string ⟨xn.toArray⟩, .slice adp xp.length cp, .slice adb xb.length cb] 65
  have hN := isName_any a xn (by omega) _ (hC.s.below hb0).lexG
  have hP : ∀ X, Below w.heap.size w X → Calls Tryz.prog 90 #[.slice adp xp.length cp, .func (.func 91) #[] #[]] X fun e w' => e = .returned (.bool (decide (∃ p ∈ xp, nameB p = false))) ∧ Below X.heap.size X w' := fun X hX =>
    contains_any a xp (by omega) (fun p hp => by have := l3 p hp; omega) X (hC.s.below hX).lexG _ (r2.imp (fun b (hb : b < B) => by have := hX.size; show b < _; omega) (fun b (hb : b < B) => hX.block b (by omega)))
  have hBl : ∀ X all, Chk X a B p f m fv F all all → all.length ≤ 12 → But m w X → Calls Tryz.prog 93 #[.pointer (some ⟨p, 0, none⟩), .slice adb xb.length cb] X (BlkTo a m all X (blockC F all all xb)) := fun X all h1 h2 h3 =>
    block_any xb X a B p f m fv F all all _ h1 h2 ⟨bs, r3.imp (fun _ h => h) (keepBut hBm hml h3), XSs.imp (fun _ h => h) (keepBut hBm hml h3) _ _ r4⟩ l4 l5
  have HN := hidX hN
  have HP := hidX hP
  have HBL := hidX hBl
  have HC := hidX hC
  have R2 := hidX r2
  have L3 := hidX l3
  clear hN hP hBl hC r2 r3 r4 l5 l3
  generalize hFC : funC F tw ⟨xn, xp, xb⟩ = fc
  have HF := hidX hFC
  clear hFC
  go_enter Tryz.func52, Tryz.ntmps52
  go_wp2_with fail
  refine HN.out.mono ?_
  rintro e w1 ⟨rfl, hb1⟩
  have z1 : w.heap.size < w1.heap.size := by have := hb1.size; simp at this; omega
  have hb01 : Below w.heap.size w w1 := bl_trans hb0 hb0.size hb1
  have bk : w1.heap[w.heap.size]? = some (.cells #[.string ⟨xn.toArray⟩, .slice adp xp.length cp, .slice adb xb.length cb] 65 (0, 0)) := (hb1.block _ (by simp)).trans (heap_alloc_new _ _)
  have BK := hidX bk
  have d1 : w1.cell? ⟨w.heap.size, 1, none⟩ = some (.slice adp xp.length cp) := cell_of_blk bk 1
  have hg := name_glob (HC.out.s.below hb01)
  clear bk hb1 HN
  cases hn : nameB xn with
  | false =>
    have hf : fc = 5 := by rw [← HF.out]; unfold funC; rw [if_pos (Or.inl hn)]
    have HF2 := hidX hf
    clear hf hn
    go_wp2
    go_ret
    exact ⟨by rw [HF2.out]; rfl, But.of hb01⟩
  | true =>
    go_wp2_with fail
    refine (HP.out w1 hb01).mono ?_
    rintro e w2 ⟨rfl, hb2⟩
    have hb02 : Below w.heap.size w w2 := bl_trans hb01 hb01.size hb2
    have bk2 := (hb2.block _ z1).trans BK.out
    have BK2 := hidX bk2
    have z2 := hb2.size
    have e1 : w2.cell? ⟨w.heap.size, 1, none⟩ = some (.slice adp xp.length cp) := cell_of_blk bk2 1
    have hS2 := HC.out.s.below hb02
    have hg2 := name_glob hS2
    have hg3 := exist_glob hS2
    have hg4 := args_glob hS2
    clear d1 hg bk2 BK hS2
    by_cases hp : ∃ p ∈ xp, nameB p = false
    · have hd : decide (∃ p ∈ xp, nameB p = false) = true := by simpa using hp
      rw [hd]
      have hf : fc = 5 := by rw [← HF.out]; unfold funC; rw [if_pos (Or.inr hp)]
      have HF2 := hidX hf
      clear hf hn hp hd
      go_wp2
      go_ret
      exact ⟨by rw [HF2.out]; rfl, But.of hb02⟩
    · have hd : decide (∃ p ∈ xp, nameB p = false) = false := by simpa using hp
      rw [hd]
      have hor : ¬ (nameB xn = false ∨ ∃ p ∈ xp, nameB p = false) := by
        rintro (h | h)
        · rw [hn] at h; cases h
        · exact hp h
      have HOR := hidX hor
      clear hn hp hd hor
      cases tw with
      | true =>
        have hf : fc = 7 := by rw [← HF.out]; unfold funC; rw [if_neg HOR.out, if_pos rfl]
        have HF2 := hidX hf
        clear hf
        go_wp2
        go_ret
        exact ⟨by rw [HF2.out]; rfl, But.of hb02⟩
      | false =>
        by_cases h4 : 4 < xp.length
        · have h4' : (4 : Int) < xp.length := by omega
          have hf : fc = 9 := by rw [← HF.out]; unfold funC; rw [if_neg HOR.out, if_neg (by simp), if_pos h4]
          have HF2 := hidX hf
          clear hf
          go_wp2
          go_ret
          exact ⟨by rw [HF2.out]; rfl, But.of hb02⟩
        · have h4' : ¬ (4 : Int) < xp.length := by omega
          have hf : fc = match (parsC [] xp).bind fun all => blockC F all all xb with | .bad c => c | .ok _ => 0 := by rw [← HF.out]; unfold funC; rw [if_neg HOR.out, if_neg (by simp), if_neg h4]; rfl
          have HF2 := hidX hf
          clear hf
          go_wp2_with fail
          go_loopw [31] (fun vi wr => ∃ (q : Nat) (allq : List (List UInt8)), q ≤ xp.length ∧ vi = .int .i64 q ∧ But m w wr ∧ w.heap.size < wr.heap.size ∧ wr.heap[w.heap.size]? = some (.cells #[.string ⟨xn.toArray⟩, .slice adp xp.length cp, .slice adb xb.length cb] 65 (0, 0)) ∧ VarsAt wr m allq allq ∧ allq.length ≤ 12 ∧ Hid (parsC [] xp = parsC allq (xp.drop q))) (fun vi _ => xp.length - (intOf vi).toNat)
          case atStart => exact ⟨0, [], Nat.zero_le _, rfl, But.of hb02, by omega, BK2.out, (HC.out.below hb02).vars, by simp, rfl⟩
          case round =>
            obtain ⟨q, allq, hq, rfl, hbw, hzw, hbk, hvr, hal, HPC⟩ := hrel
            by_cases hlt : q < xp.length
            · have hlt' : (q : Int) < (xp.length : Int) := by omega
              obtain ⟨g, off, rfl, hgB, hc⟩ := R2.out.text hlt
              have a0 : wr.cell? ⟨g, off + q, none⟩ = _ := cellB hbw hc (by have : g < B := hgB; omega)
              have hlow := L3.out _ (List.getElem_mem hlt)
              have hstep := HPC.out.trans (parsC_at hlt)
              generalize xp[q] = y at a0 hc hlow hstep
              have hCr := HC.out.keep hbw hvr
              have hd := declare_any hCr hal y (by omega)
              have HD := hidX hd
              have HST := hidX hstep
              have HBK := hidX hbk
              have hmr := hCr.mlt
              clear hd hstep hbk hc hCr
              go_wp2_with fail
              refine HD.out.mono ?_
              rintro e w3 ⟨hb3, h3⟩
              have hz3 := hb3.size
              clear a0
              cases hdc : declC allq y with
              | bad c =>
                rw [hdc] at h3
                obtain ⟨rfl, _⟩ := h3
                have hc0 := declC_ne0 hdc
                have hfc : fc = c := by rw [HF2.out, HST.out, hdc]; rfl
                rw [errV_ne a hc0]
                have HFC := hidX hfc
                have HC0 := hidX hc0
                clear hdc hc0 hfc
                go_wp2
                go_ret
                exact ⟨by rw [HFC.out, errV_ne a HC0.out]; rfl, hbw.trans hb3⟩
              | ok all' =>
                rw [hdc] at h3
                obtain ⟨rfl, hv3⟩ := h3
                have hl3 := declC_len hdc hal
                have hpc : parsC [] xp = parsC all' (xp.drop (q + 1)) := by rw [HST.out, hdc]; rfl
                have hall' := (declC_ok hdc).1
                rw [← hall'] at hv3
                have HPC2 := hidX hpc
                have HV3 := hidX hv3
                clear hdc hpc hall' hv3
                go_wp2
                go_roundw
                case rel => exact ⟨q + 1, all', by omega, by go_num, hbw.trans hb3, by omega, (hb3.block _ hzw (by omega)).trans HBK.out, HV3.out, hl3, HPC2.out⟩
                case measure => simp [intOf]; omega
            · have hqn : q = xp.length := by omega
              subst hqn
              have hpc : parsC [] xp = .ok allq := by rw [HPC.out, List.drop_length, parsC]
              have hCr := HC.out.keep hbw hvr
              have hbl := HBL.out wr allq hCr hal hbw
              have e2 : wr.cell? ⟨w.heap.size, 2, none⟩ = some (.slice adb xb.length cb) := cell_of_blk hbk 2
              have HB2 := hidX hbl
              have hfc : fc = match blockC F allq allq xb with | .bad c => c | .ok _ => 0 := by rw [HF2.out, hpc]; rfl
              have HFC := hidX hfc
              clear hpc hCr hbl hbk hfc
              go_wp2_with fail
              refine HB2.out.mono ?_
              rintro e w3 ⟨hb3, h3⟩
              cases hbc : blockC F allq allq xb with
              | bad c =>
                rw [hbc] at h3
                subst h3
                have hfc : errV a fc = errV a c := by rw [HFC.out, hbc]
                generalize errV a c = ev at hfc
                have HFC2 := hidX hfc
                clear hfc hbc
                go_wp2
                go_ret
                exact ⟨by rw [HFC2.out]; rfl, hbw.trans hb3⟩
              | ok all' =>
                rw [hbc] at h3
                obtain ⟨rfl, _⟩ := h3
                have hfc : errV a fc = .nilIface := by rw [HFC.out, hbc]; rfl
                have HFC2 := hidX hfc
                clear hfc hbc
                go_wp2
                go_ret
                exact ⟨by rw [HFC2.out]; rfl, hbw.trans hb3⟩
end Go.Proofs.YtcebpmaggnephacGreatDoor
