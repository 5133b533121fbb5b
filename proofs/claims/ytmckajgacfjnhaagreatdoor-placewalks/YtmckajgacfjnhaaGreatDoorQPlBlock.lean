/- Our own: texts joined: PlBlock. -/
import Derived.Test.YtmckajgacfjnhaaGreatDoorQPlDo
namespace Go.Proofs.YtmckajgacfjnhaaGreatDoor
open Go.RowKit
structure BdT (most : Int) (s : Rst) : Prop where
 lo : 0 ≤ s.tks
 hi : s.tks ≤ most ∨ s.tks ≤ 0
 out : s.out.length ≤ 1000
theorem insP_bd {args ans : List Int} {most : Int} {x : Pi} {s : Rst} {g : Nat → Option Int} (h : BdT most s) : BdT most (insP args ans most x s g).1 := by
 unfold insP
 split
 ·exact ⟨h.lo, h.hi, h.out⟩
 ·split
  ·unfold tickR
   have h1 := h.lo
   have h2 := h.hi
   split
   ·exact ⟨h.lo, h.hi, h.out⟩
   ·exact ⟨by simp only; omega, by simp only; omega, h.out⟩
  ·split
   ·unfold printR
    have h3 := h.out
    split
    ·exact ⟨h.lo, h.hi, h.out⟩
    ·exact ⟨h.lo, h.hi, by simp; omega⟩
   ·split
    ·unfold callR
     split
     ·exact ⟨h.lo, h.hi, h.out⟩
     ·exact ⟨h.lo, h.hi, h.out⟩
    ·exact h
def BlkTo (D : Nat → Prop) (X : World) (wb rb vb : Nat) (bv argv ansv : Value) (most steps : Int) (n : Nat) (r : Rst × (Nat → Option Int) × Nat) (e : Ending) (w' : World) : Prop :=
 ButP D X w' ∧ e = .returned (.int .i64 (r.2.2 : Int)) ∧ ∃ vl', vl'.length = n ∧ (r.1.how = [] → valsV vl' = r.2.1) ∧ PkE (Up D X) w' wb rb vb bv argv ansv r.1 most steps vl'
section
variable {D D' : Nat → Prop} {S : Nat → Prop} {X Y : World} {wb rb vb : Nat} {argv ansv askv : Value} {ba : Option Addr} {bc : Nat} {s : Rst} {most steps : Int} {vl : List (Int × Bool)} {ac : List Int} {L : List Pb} {A : Nat → Prop} {bv : Value}
theorem BlkTo.back {n : Nat} {r : Rst × (Nat → Option Int) × Nat} {e : Ending} {w' : World} (hb : ButP D X Y) (hD : ∀ b, D' b → D b ∨ X.heap.size ≤ b) (h : BlkTo D' Y wb rb vb bv argv ansv most steps n r e w') : BlkTo D X wb rb vb bv argv ansv most steps n r e w' := by
 obtain ⟨h1, h2, vl', h3, h4, h5⟩ := h
 exact ⟨hb.trans h1 hD, h2, vl', h3, h4, h5.mono (fun b e => e.elim (fun e => hD b e) (fun e => Or.inr (Nat.le_trans hb.size e)))⟩
theorem WayTo.blk {n : Nat} {r : Rst × (Nat → Option Int) × Nat} {e : Ending} {w' : World} (h : WayTo D X wb rb vb bv argv ansv most steps n r e w') : BlkTo D X wb rb vb bv argv ansv most steps n r e w' := by
 obtain ⟨h1, h2, vl', h3, h4, h5⟩ := h
 exact ⟨h1, h2, vl', h3, fun _ => h4, h5⟩
theorem RecE.howc {X : World} (h : RecE S X rb s ansv most steps) : X.cell? ⟨rb, 0, none⟩ = some (.string ⟨s.how.toArray⟩) := by
 obtain ⟨_, _, _, h⟩ := h
 exact cell_of_blk h.blk 0
theorem insPs_drop {args ans : List Int} {l : List Pi} {q : Nat} (hq : q < l.length) {s : Rst} {g : Nat → Option Int} : insPs args ans most (l.drop q) s g = if (insP args ans most l[q] s g).1.how = [] then insPs args ans most (l.drop (q + 1)) (insP args ans most l[q] s g).1 (insP args ans most l[q] s g).2 else insP args ans most l[q] s g := by
 rw [List.drop_eq_getElem_cons hq]; rfl
theorem leave_any (h : PkJ D S X wb rb vb (.slice ba L.length bc) argv ansv askv s most steps vl ac) (hvl : vl.length ≤ 1000) (hA : ∀ b, A b → b < X.heap.size ∧ ¬ D b) (hco : XCo A X (.slice ba L.length bc) L) (hL : L.length ≤ 1000) {b : Pb} (hlv : LeaveB vl.length L b) {pa ia ta wa : Option Addr} {pc ic tc wc : Nat} (hto : XRow A X (.slice ta b.tos.length tc) b.tos.length (intsG b.tos)) (hwi : XWs A X (.slice wa b.wi.length wc) b.wi) :
  Calls Tryz.prog 43 #[.pointer (some ⟨wb, 0, none⟩), .agg #[.slice pa b.params.length pc, .slice ia b.ins.length ic, .string ⟨b.fin.toArray⟩, .int .i64 b.v, .slice ta b.tos.length tc, .slice wa b.wi.length wc]] X fun e w' => WayTo D X wb rb vb (.slice ba L.length bc) argv ansv most steps vl.length (leaveP L b s (valsV vl)) e w' := by
 rcases hlv.fin with hf | hf | hf
 ·exact leave_jump h hvl hA hco hL hlv hto hwi hf
 ·exact leave_if h hvl hA hco hL hlv hto hwi hf
 ·exact leave_return h hvl hlv hf
set_option maxRecDepth 100000 in
set_option maxHeartbeats 4000000 in
theorem blockW_any (h : PkJ D S X wb rb vb (.slice ba L.length bc) argv ansv askv s most steps vl ac) (hvl : vl.length ≤ 1000) (hA : ∀ b, A b → b < X.heap.size ∧ ¬ D b) (hco : XCo A X (.slice ba L.length bc) L) (hL : L.length ≤ 1000) {b : Pb} (hlv : LeaveB vl.length L b) {pa ia ta wa : Option Addr} {pc ic tc wc : Nat} (hto : XRow A X (.slice ta b.tos.length tc) b.tos.length (intsG b.tos)) (hwi : XWs A X (.slice wa b.wi.length wc) b.wi)
  (hin : XIs A X (.slice ia b.ins.length ic) b.ins) (hil : b.ins.length ≤ 1000) {args ans : List Int} (hdo : ∀ x ∈ b.ins, DoI vl.length args.length x) (hag : XRow A X argv args.length (intsG args)) (han : XRow A X ansv ans.length (intsG ans)) (hal : ans.length ≤ 100000) (hgl : args.length ≤ 1000) (hmost : most ≤ 1000) (hbd : BdT most s) (hhow : s.how = []) :
  Calls Tryz.prog 28 #[.pointer (some ⟨wb, 0, none⟩), .agg #[.slice pa b.params.length pc, .slice ia b.ins.length ic, .string ⟨b.fin.toArray⟩, .int .i64 b.v, .slice ta b.tos.length tc, .slice wa b.wi.length wc]] X fun e w' => BlkTo D X wb rb vb (.slice ba L.length bc) argv ansv most steps vl.length (blockP L args ans most b s (valsV vl)) e w' := by
 obtain ⟨X1, hX1⟩ : ∃ X1, X1 = X.alloc (.cells #[.slice pa b.params.length pc, .slice ia b.ins.length ic, .string ⟨b.fin.toArray⟩, .int .i64 b.v, .slice ta b.tos.length tc, .slice wa b.wi.length wc] 56) := ⟨_, rfl⟩
 have hbx : Below X.heap.size X X1 := by rw [hX1]; exact box_blk X _ _
 have hN : X1.heap[X.heap.size]? = some (.cells #[.slice pa b.params.length pc, .slice ia b.ins.length ic, .string ⟨b.fin.toArray⟩, .int .i64 b.v, .slice ta b.tos.length tc, .slice wa b.wi.length wc] 56 (0, 0)) := by rw [hX1]; exact heap_alloc_new _ _
 have hxl : X.heap.size < X1.heap.size := heap_lt hN
 have h1 : PkJ (Now D X) S X1 wb rb vb (.slice ba L.length bc) argv ansv askv s most steps vl ac := h.now.below hbx
 have HH1 := hidX h1
 have HN := hidX hN
 have HBX := hidX hbx
 have HAX := hidX hA
 have HCO := hidX hco
 have HLV := hidX hlv
 have HTO := hidX hto
 have HWI := hidX hwi
 have HIN := hidX hin
 have HDO := hidX hdo
 have HAG := hidX hag
 have HAN := hidX han
 have HBD := hidX hbd
 have HX1 := hidX hX1
 have HHW := hidX hhow
 have hil' : (b.ins.length : Int) ≤ 1000 := by omega
 generalize hRR : blockP L args ans most b s (valsV vl) = RR
 have HRR := hidX hRR
 clear hRR h h1 hN hbx hA hco hlv hto hwi hin hdo hag han hbd hX1 hhow
 go_enter Tryz.func28, Tryz.ntmps28
 go_wp2_with fail
 rw [← HX1.out]
 clear HX1
 go_loopw [10] (fun vi wr => ∃ (q : Nat) (sq : Rst) (vq : List (Int × Bool)), q ≤ b.ins.length ∧ vi = .int .i64 (q : Int) ∧ vq.length ≤ 1000 ∧ Hid (vq.length = vl.length) ∧ Hid (sq.how = []) ∧ Hid (BdT most sq) ∧ Hid (insPs args ans most b.ins s (valsV vl) = insPs args ans most (b.ins.drop q) sq (valsV vq)) ∧ Hid (PkE (Up (Now D X) X1) wr wb rb vb (.slice ba L.length bc) argv ansv sq most steps vq) ∧ Hid (ButP (Now D X) X1 wr)) (fun vi _ => b.ins.length - (intOf vi).toNat)
 case atStart => exact ⟨0, s, vl, by omega, rfl, hvl, rfl, HHW.out, HBD.out, rfl, (HH1.out.mono (fun _ e => Or.inl e)).e, ⟨rfl, rfl, rfl, Nat.le_refl _, fun _ _ _ => rfl⟩⟩
 case round =>
  obtain ⟨q, sq, vq, hq, rfl, hvq, HLQ, HHQ, HBQ, HIQ, HPQ, HFQ⟩ := hrel
  obtain ⟨S4, av4, ac4, hp4⟩ := HPQ.out
  have hzr : X1.heap.size ≤ wr.heap.size := HFQ.out.size
  have hKA : ∀ k, A k → k < wr.heap.size ∧ wr.heap[k]? = X.heap[k]? ∧ ¬ Up (Now D X) X1 k := fun k hk => ⟨by have := (HAX.out k hk).1; omega, (HFQ.out.block k (by have := (HAX.out k hk).1; omega) (fun e => (HAX.out k hk).2 e.1)).trans (HBX.out.block k (HAX.out k hk).1), fun e => e.elim (fun e => (HAX.out k hk).2 e.1) (fun e => by have := (HAX.out k hk).1; omega)⟩
  have HKA := hidX hKA
  by_cases hlt : q < b.ins.length
  ·have hlt' : (q : Int) < (b.ins.length : Int) := by omega
   obtain ⟨g, off, ad1, cap1, e1, hg, hrw, k0, k1, k2, k3, k4⟩ := HIN.out.ins hlt
   subst e1
   have kc : ∀ o v, X.cell? ⟨g, o, none⟩ = some v → wr.cell? ⟨g, o, none⟩ = some v := fun o v hv => (World.cell?_of_block (w := X) (w' := wr) (a := ⟨g, o, none⟩) (hKA g hg).2.1).trans hv
   replace k0 := kc _ _ k0
   replace k1 := kc _ _ k1
   replace k2 := kc _ _ k2
   replace k3 := kc _ _ k3
   replace k4 := kc _ _ k4
   have hdx := HDO.out _ (List.getElem_mem hlt)
   have hst := insPs_drop (args := args) (ans := ans) (most := most) hlt (s := sq) (g := valsV vq)
   rw [← HIQ.out] at hst
   generalize b.ins[q] = x at *
   have hbq := HBQ.out
   have HDX := hidX fun Y (hY : Below wr.heap.size wr Y) => doIns_any (hp4.below hY) hvq (A := A) (fun k hk => ⟨Nat.lt_of_lt_of_le (hKA k hk).1 hY.size, (hKA k hk).2.2⟩) (args := args) (ans := ans) (HAG.out.imp (fun _ h => h) (fun k hk => (hY.block k (hKA k hk).1).trans (hKA k hk).2.1)) (HAN.out.imp (fun _ h => h) (fun k hk => (hY.block k (hKA k hk).1).trans (hKA k hk).2.1)) hal hgl ⟨hbq.lo, by have := hbq.hi; omega⟩ hbq.out (x := x) (by rw [HLQ.out]; exact hdx) (xa := ad1) (xc := cap1) (hrw.imp (fun _ h => h) (fun k hk => (hY.block k (hKA k hk).1).trans (hKA k hk).2.1))
   have hb3 := insP_bd (args := args) (ans := ans) (x := x) (g := valsV vq) hbq
   generalize insP args ans most x sq (valsV vq) = r3 at HDX hst hb3
   have HST := hidX hst
   have HB3 := hidX hb3
   clear hst hb3 hbq hdx hrw kc hKA hp4
   go_wp2_with fail
   refine (HDX.out _ (by (repeat (first | exact Below.refl _ _ | assumption | refine Below.drew ?_ | refine bT ?_ _ | refine bS ?_ _ | refine bA ?_ _)))).mono ?_
   rintro e w3 hd3
   have he := hd3.2.1
   subst he
   obtain ⟨hf3, _, vl3, hl3, hv3, hpe3⟩ := hd3
   have HPE3 := hidX hpe3
   obtain ⟨S5, av5, ac5, hp5⟩ := hpe3
   have m0 : w3.cell? ⟨wb, 0, none⟩ = some (.pointer (some ⟨rb, 0, none⟩)) := cell_of_blk hp5.blk 0
   have mh := hp5.recd.howc
   have HF3 := hidX (show ButP (Now D X) X1 w3 from (HFQ.out.trans (ButP.of (S := fun _ => False) (show Below wr.heap.size wr _ from box_blk _ _ _)) (fun _ e => e.elim)).trans hf3 (fun b e => e))
   have HPU := hidX (HPE3.out.mono (show ∀ b, Up (Up (Now D X) X1) _ b → Up (Now D X) X1 b from fun b e => e.elim id (fun e => Or.inr (by simp at e; omega))))
   have HV3 := hidX hv3
   have HL3 := hidX (hl3.trans HLQ.out)
   have hl3' : vl3.length ≤ 1000 := by omega
   clear hp5 hf3 hv3 hl3 HPE3
   by_cases hh : r3.1.how = []
   ·rw [hh] at mh
    replace mh : w3.cell? ⟨rb, 0, none⟩ = some (.string ⟨#[]⟩) := mh
    have HHR := hidX hh
    have HNX := hidX (show insPs args ans most b.ins s (valsV vl) = insPs args ans most (b.ins.drop (q + 1)) r3.1 (valsV vl3) from by rw [HST.out, if_pos hh, HV3.out hh])
    clear hh HST HV3
    go_wp2
    go_roundw
    case rel => exact ⟨q + 1, r3.1, vl3, by omega, by go_num, hl3', HL3.out, HHR.out, HB3.out, HNX.out, HPU.out, HF3.out⟩
    case measure => simp [intOf]; omega
   ·have hbl : RR = (r3.1, r3.2, 0) := by
     rw [← HRR.out]
     unfold blockP
     rw [HST.out, if_neg hh, if_neg hh]
    subst hbl
    have HW := hidX (show BlkTo D X wb rb vb (.slice ba L.length bc) argv ansv most steps vl.length (r3.1, r3.2, 0) (.returned (.int .i64 0)) w3 from BlkTo.back (Y := X1) (D' := Now D X) (ButP.of HBX.out) (fun _ e => Or.inl e.1) ⟨HF3.out, rfl, vl3, HL3.out, fun e => absurd e hh, HPU.out⟩)
    have hem : r3.1.how.isEmpty = false := by simpa using hh
    generalize r3.1.how = hw3 at mh hem
    clear hh HST HV3 HRR
    go_wp2
    (try simp only [Exit.inBlock, Exit.then])
    go_ret
    exact HW.out
  ·have hqn : q = b.ins.length := by omega
   subst hqn
   have hfin := HIQ.out
   rw [List.drop_length] at hfin
   have hRR2 : RR = leaveP L b sq (valsV vq) := by
    rw [← HRR.out]
    unfold blockP
    rw [hfin]
    show (if sq.how = [] then _ else _) = _
    rw [if_pos HHQ.out]; rfl
   have hNr : wr.heap[X.heap.size]? = _ := (HFQ.out.block X.heap.size hxl (fun e => by have := e.2; omega)).trans HN.out
   have c0 := cell_of_blk hNr 0
   have c1 := cell_of_blk hNr 1
   have c2 := cell_of_blk hNr 2
   have c3 := cell_of_blk hNr 3
   have c4 := cell_of_blk hNr 4
   have c5 := cell_of_blk hNr 5
   have HLE := hidX fun Y (hY : Below wr.heap.size wr Y) => leave_any (hp4.below hY) hvq (A := A) (fun k hk => ⟨Nat.lt_of_lt_of_le (hKA k hk).1 hY.size, (hKA k hk).2.2⟩) (HCO.out.imp (fun _ h => h) (fun k hk => (hY.block k (hKA k hk).1).trans (hKA k hk).2.1)) hL (b := b) (by rw [HLQ.out]; exact HLV.out) (pa := pa) (ia := ia) (pc := pc) (ic := ic) (HTO.out.imp (fun _ h => h) (fun k hk => (hY.block k (hKA k hk).1).trans (hKA k hk).2.1)) (HWI.out.imp (fun _ h => h) (fun k hk => (hY.block k (hKA k hk).1).trans (hKA k hk).2.1))
   rw [← hRR2] at HLE
   clear hp4 hKA hfin hRR2 hNr HRR
   go_wp2_with fail
   refine (HLE.out _ (by (repeat (first | exact Below.refl _ _ | assumption | refine Below.drew ?_ | refine bT ?_ _ | refine bS ?_ _ | refine bA ?_ _)))).mono ?_
   rintro e w3 hw3
   have he := hw3.2.1
   subst he
   have hwb := hw3.blk
   rw [HLQ.out] at hwb
   have HW := hidX (BlkTo.back (D := D) (X := X) ((ButP.of HBX.out).trans HFQ.out (fun _ e => Or.inl e.1)) (fun b e => e.elim (fun e => Or.inl e.1) (fun e => Or.inr (by omega))) hwb)
   clear hw3 hwb
   go_wp2
   go_ret
   exact HW.out
end
end Go.Proofs.YtmckajgacfjnhaaGreatDoor
