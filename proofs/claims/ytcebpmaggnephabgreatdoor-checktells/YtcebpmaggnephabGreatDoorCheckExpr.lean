/-
  Our own: package check: an expression.
-/
import Derived.Test.YtcebpmaggnephabGreatDoorCheckUse
import Derived.Test.YtcebpmaggnephabGreatDoorCheckIs2
namespace Go.Proofs.YtcebpmaggnephabGreatDoor
open Go.RowKit Go.Maps

theorem andC_assoc (a b c : Nat) : andC (andC a b) c = andC a (andC b c) := by unfold andC; by_cases h : a = 0 <;> simp [h]
theorem andC_nil (a : Nat) : andC a 0 = a := by unfold andC; split <;> simp_all
theorem exprsC_app (F : List Fu) (vis : List (List UInt8)) : ∀ (l r : List Ex), exprsC F vis (l ++ r) = andC (exprsC F vis l) (exprsC F vis r)
  | [], r => by simp [exprsC, andC]
  | e :: l, r => by rw [List.cons_append, exprsC, exprsC, exprsC_app F vis l r, andC_assoc]
theorem split_at {α : Type} (l : List α) (q : Nat) (h : q < l.length) : l = l.take q ++ l[q] :: l.drop (q + 1) := by
  rw [List.getElem_cons_drop, List.take_append_drop]
theorem exprs_bad {F : List Fu} {vis : List (List UInt8)} {l : List Ex} {q : Nat} (h : q < l.length) (h1 : exprsC F vis (l.take q) = 0) (h2 : exprC F vis l[q] ≠ 0) : exprsC F vis l = exprC F vis l[q] := by
  conv => lhs; rw [split_at l q h]
  rw [exprsC_app, h1, exprsC]
  unfold andC
  simp [h2]
theorem exprs_good {F : List Fu} {vis : List (List UInt8)} {l : List Ex} {q : Nat} (h : q < l.length) (h1 : exprsC F vis (l.take q) = 0) (h2 : exprC F vis l[q] = 0) : exprsC F vis (l.take (q + 1)) = 0 := by
  rw [List.take_succ_eq_append_getElem h, exprsC_app, h1, exprsC, h2]; rfl
def ExprOk (e : Ex) : Prop := ∀ (w : World) (a : Nat → Addr) (B p f m : Nat) (fv : Value) (F : List Fu) (all vis : List (List UInt8)) (cs : List Value), Chk w a B p f m fv F all vis → XE (fun b => b < B) w e cs → LowE e →
  Calls Tryz.prog 107 #[.pointer (some ⟨p, 0, none⟩), .agg cs.toArray] w fun ev w' => ev = .returned (errV a (exprC F vis e)) ∧ Below w.heap.size w w'
theorem errV_ne (a : Nat → Addr) {c : Nat} (h : c ≠ 0) : errV a c = sentV (a (c - 1)) := by unfold errV; rw [if_neg h]
theorem errV_zero (a : Nat → Addr) : errV a 0 = .nilIface := rfl
set_option maxRecDepth 100000 in
set_option maxHeartbeats 2000000 in
theorem expr_mk (k : List UInt8) (n : Int) (mm : List UInt8) (ks : List Ex) (ih : ∀ e ∈ ks, ExprOk e) : ExprOk (.mk k n mm ks) := by
  intro w a B p f m fv F all vis cs hC hX hL
  obtain ⟨v, xs, rfl, hr, hk⟩ := hX
  obtain ⟨ad, cap, rfl⟩ := hr.is
  obtain ⟨l1, l2, l3⟩ := hL
  have l2' : (ks.length : Int) ≤ 8 := by omega
  have hb0 := box_blk w #[.string ⟨k.toArray⟩, .int .i64 n, .string ⟨mm.toArray⟩, .slice ad ks.length cap] 60
  have hml := hC.mlt
  have hBm := hC.hB
  have his := isExpr_any a k n mm ad ks.length cap (by omega) (by omega) _ (hC.s.below hb0)
  have IH := hidX ih
  have R := hidX hr
  have KK := hidX hk
  have LL := hidX l3
  have HIS := hidX his
  have HC := hidX hC
  clear ih hr hk l3 his hC
  go_enter Tryz.func107, Tryz.ntmps107
  go_wp2_with fail
  refine HIS.out.mono ?_
  rintro e w1 ⟨rfl, hb1⟩
  have z1 : w.heap.size < w1.heap.size := by have := hb1.size; simp at this; omega
  have hb01 : Below w.heap.size w w1 := bl_trans hb0 hb0.size hb1
  have bk : w1.heap[w.heap.size]? = some (.cells #[.string ⟨k.toArray⟩, .int .i64 n, .string ⟨mm.toArray⟩, .slice ad ks.length cap] 60 (0, 0)) := (hb1.block _ (by simp)).trans (heap_alloc_new _ _)
  have BK := hidX bk
  have hg := shape_glob (HC.out.s.below hb01)
  have d3 : w1.cell? ⟨w.heap.size, 3, none⟩ = some (.slice ad ks.length cap) := cell_of_blk bk 3
  clear bk hb1 HIS
  cases hsh : shapeE k n mm ks.length with
  | false =>
    have he : exprC F vis (.mk k n mm ks) = 3 := by rw [exprC, if_pos hsh]
    have HE := hidX he
    clear he hsh
    go_wp2
    go_ret
    exact ⟨by rw [HE.out]; rfl, hb01⟩
  | true =>
    have he : exprC F vis (.mk k n mm ks) = andC (exprsC F vis ks) (if k = kName then (if mm ∈ vis then 0 else 6) else if k = kCall then callC F mm ks.length else 0) := by rw [exprC, if_neg (by rw [hsh]; simp)]
    have HE := hidX he
    clear he hsh
    go_wp2_with fail
    clear hg d3
    go_loopw [15] (fun vi wr => ∃ q : Nat, q ≤ ks.length ∧ vi = .int .i64 q ∧ Below w.heap.size w wr ∧ w.heap.size < wr.heap.size ∧ wr.heap[w.heap.size]? = some (.cells #[.string ⟨k.toArray⟩, .int .i64 n, .string ⟨mm.toArray⟩, .slice ad ks.length cap] 60 (0, 0)) ∧ Hid (exprsC F vis (ks.take q) = 0)) (fun vi _ => ks.length - (intOf vi).toNat)
    case atStart => exact ⟨0, Nat.zero_le _, rfl, hb01, z1, BK.out, by unfold Hid; rw [List.take_zero, exprsC]⟩
    case round =>
      obtain ⟨q, hq, rfl, hbl, hz, hbk, HQ⟩ := hrel
      by_cases hlt : q < ks.length
      · have hlt' : (q : Int) < (ks.length : Int) := by omega
        obtain ⟨ka, e1, e2⟩ := KK.out.at hlt
        obtain ⟨ga, off, rfl, hga, g1⟩ := R.out.el 4 hlt e2
        have hgw : ga < w.heap.size := by omega
        have hx := IH.out _ (List.getElem_mem hlt)
        have hlx := LL.out.mem _ (List.getElem_mem hlt)
        have hbad : exprC F vis ks[q] ≠ 0 → exprsC F vis ks = exprC F vis ks[q] := exprs_bad hlt HQ.out
        have hgood : exprC F vis ks[q] = 0 → exprsC F vis (ks.take (q + 1)) = 0 := exprs_good hlt HQ.out
        generalize ks[q] = x at e1 hx hlx hbad hgood
        have hcall : ∀ X, Below w.heap.size w X → Calls Tryz.prog 107 #[.pointer (some ⟨p, 0, none⟩), .agg ka.toArray] X fun ev w' => ev = .returned (errV a (exprC F vis x)) ∧ Below X.heap.size X w' := fun X hX =>
          hx X a B p f m fv F all vis ka (HC.out.below hX) (XE.imp (fun _ h => h) (fun b hb => hX.block b (by omega)) _ _ e1) hlx
        obtain ⟨xk, xn, xm, xks⟩ := x
        obtain ⟨ya, za, rfl, ra, _⟩ := e1
        obtain ⟨ad1, cap1, rfl⟩ := ra.is
        have a0 := (hbl.cell (p := ⟨ga, _, none⟩) hgw).trans (g1 0 _ (by decide) rfl)
        have a1 := (hbl.cell (p := ⟨ga, _, none⟩) hgw).trans (g1 1 _ (by decide) rfl)
        have a2 := (hbl.cell (p := ⟨ga, _, none⟩) hgw).trans (g1 2 _ (by decide) rfl)
        have a3 := (hbl.cell (p := ⟨ga, _, none⟩) hgw).trans (g1 3 _ (by decide) rfl)
        rw [Nat.add_zero] at a0
        simp only [← Nat.add_assoc] at a1 a2 a3
        have HCL := hidX hcall
        have HBK := hidX hbk
        have HBD := hidX hbad
        have HGD := hidX hgood
        clear g1 e2 ra hcall hx hlx hbk hbad hgood
        go_wp2_with fail
        refine (HCL.out _ (hbl.alloc (by omega) _)).mono ?_
        rintro e w2 ⟨rfl, hb2⟩
        have hb3 : Below wr.heap.size wr w2 := bl_trans (box_blk wr _ _) (by simp) hb2
        have hz3 := hb3.size
        have hb4 := bl_trans hbl hbl.size hb3
        clear a0 a1 a2 a3
        by_cases hc : exprC F vis (.mk xk xn xm xks) = 0
        · rw [hc, errV_zero]
          have hgd := HGD.out hc
          have HGD2 := hidX hgd
          clear hgd hc
          go_wp2
          go_roundw
          case rel => exact ⟨q + 1, by omega, by go_num, hb4, by omega, (hb3.block _ hz).trans HBK.out, HGD2.out⟩
          case measure => simp [intOf]; omega
        · rw [errV_ne a hc]
          have hbd := HBD.out hc
          have HBD2 := hidX hbd
          have HNC := hidX hc
          clear hbd hc
          go_wp2
          go_ret
          refine ⟨?_, hb4⟩
          rw [HE.out, HBD2.out]
          unfold andC
          rw [if_neg HNC.out, errV_ne a HNC.out]; rfl
      · have hqn : q = ks.length := by omega
        subst hqn
        have HQ2 : Hid (exprC F vis (.mk k n mm ks) = (if k = kName then (if mm ∈ vis then 0 else 6) else if k = kCall then callC F mm ks.length else 0)) := by
          have := HQ.out; rw [List.take_length] at this
          unfold Hid; rw [HE.out, this]; rfl
        have d0 : wr.cell? ⟨w.heap.size, 0, none⟩ = some (.string ⟨k.toArray⟩) := cell_of_blk hbk 0
        have d2 : wr.cell? ⟨w.heap.size, 2, none⟩ = some (.string ⟨mm.toArray⟩) := cell_of_blk hbk 2
        have d3 : wr.cell? ⟨w.heap.size, 3, none⟩ = some (.slice ad ks.length cap) := cell_of_blk hbk 3
        have hCr := HC.out.below hbl
        have hu := use_any hCr mm (by omega)
        have hcl := call_any hCr mm (by omega) ks.length (by omega)
        clear hbk hCr
        by_cases k1 : k = kName
        · subst k1
          have hfin : errV a (exprC F vis (.mk kName n mm ks)) = errV a (if mm ∈ vis then 0 else 6) := by rw [HQ2.out, if_pos rfl]
          generalize errV a (if mm ∈ vis then 0 else 6) = ev at hu hfin
          have HU := hidX hu
          have HF := hidX hfin
          clear hu hcl hfin HQ2
          go_wp2_with fail
          refine HU.out.mono ?_
          rintro e w2 ⟨rfl, hb2⟩
          go_wp2
          go_ret
          exact ⟨by rw [HF.out]; rfl, bl_trans hbl hbl.size hb2⟩
        · have n1 : (k == [110, 97, 109, 101]) = false := ne_lit k1
          by_cases k2 : k = kCall
          · subst k2
            have hfin : errV a (exprC F vis (.mk kCall n mm ks)) = errV a (callC F mm ks.length) := by rw [HQ2.out, if_neg k1, if_pos rfl]
            generalize errV a (callC F mm ks.length) = ev at hcl hfin
            have HCL := hidX hcl
            have HF := hidX hfin
            clear hu hcl hfin HQ2 k1
            go_wp2_with fail
            refine HCL.out.mono ?_
            rintro e w2 ⟨rfl, hb2⟩
            go_wp2
            go_ret
            exact ⟨by rw [HF.out]; rfl, bl_trans hbl hbl.size hb2⟩
          · have n2 : (k == [99, 97, 108, 108]) = false := ne_lit k2
            have hfin : errV a (exprC F vis (.mk k n mm ks)) = .nilIface := by rw [HQ2.out, if_neg k1, if_neg k2]; rfl
            have HF := hidX hfin
            clear k1 k2 hu hcl hfin HQ2
            go_wp2
            go_ret
            exact ⟨by rw [HF.out]; rfl, hbl⟩
mutual
theorem expr_any : ∀ e : Ex, ExprOk e
  | .mk k n m ks => expr_mk k n m ks (exprs_any ks)
theorem exprs_any : ∀ l : List Ex, ∀ e ∈ l, ExprOk e
  | [], _, h => absurd h (by simp)
  | e :: r, x, h => by
    rcases List.mem_cons.1 h with h | h
    · rw [h]; exact expr_any e
    · exact exprs_any r x h
end
end Go.Proofs.YtcebpmaggnephabGreatDoor
