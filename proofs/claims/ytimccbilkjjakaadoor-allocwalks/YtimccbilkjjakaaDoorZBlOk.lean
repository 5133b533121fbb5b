/- Our own: texts joined: AlDo, AlBlock, AlOk. -/
import Derived.Test.YtimccbilkjjakaaDoorZWkDo
import Derived.Test.YtimccbilkjjakaaDoorZAlDoA
import Derived.Test.YtimccbilkjjakaaDoorZDoTE
import Derived.Test.YtimccbilkjjakaaDoorZAlDoF
import Derived.Test.YtimccbilkjjakaaDoorZAlDoG
namespace Go.Proofs.YtimccbilkjjakaaDoor
open Go.RowKit
section
variable {D D' : Nat → Prop} {S : Nat → Prop} {X Y : World} {wb rb sb : Nat} {argv ansv : Value} {s : Rst} {most steps : Int} {r : Ra} {A : Nat → Prop}
theorem adoIns_any (h : AkJ D S X wb rb sb argv ansv s most steps r) (hA : ∀ b, A b → b < X.heap.size ∧ ¬ D b) {args ans : List Int} (hag : XRow A X argv args.length (intsG args)) (han : XRow A X ansv ans.length (intsG ans)) (hal : ans.length ≤ 100000) (hgl : args.length ≤ 1000) (hts : 0 ≤ s.tks ∧ s.tks ≤ 1000000000) (hol : s.out.length ≤ 1000) {x : Li} (hx : DoL args.length r.slots.length x) :
  Calls Tryd.prog 42 #[.pointer (some ⟨wb, 0, none⟩), .agg #[.string ⟨x.kind.toArray⟩, .int .i64 x.d, .int .i64 x.a, .int .i64 x.b, .int .i64 x.num, .string ⟨x.name.toArray⟩]] X fun e w' => ADo D X wb rb sb argv ansv most steps (insL args ans most x s r) e w' := by
 rcases hx.kind with hf | hf | hf | hf | hf | hf | hf | hf | hf | hf | hf
 ·exact ado_param h hA hag han hal hgl hts hol hx hf
 ·exact ado_const h hA hag han hal hgl hts hol hx hf
 ·exact ado_one h hA hag han hal hgl hts hol hx hf
 ·exact ado_two h hA hag han hal hgl hts hol hx hf
 ·exact ado_move h hA hag han hal hgl hts hol hx hf
 ·exact ado_load h hA hag han hal hgl hts hol hx hf
 ·exact ado_store h hA hag han hal hgl hts hol hx hf
 ·exact ado_arg h hA hag han hal hgl hts hol hx hf
 ·exact ado_call h hA hag han hal hgl hts hol hx hf
 ·exact ado_tick h hA hag han hal hgl hts hol hx hf
 ·exact ado_print h hA hag han hal hgl hts hol hx hf
end
end Go.Proofs.YtimccbilkjjakaaDoor
namespace Go.Proofs.YtimccbilkjjakaaDoor
open Go.RowKit
structure BdT (most : Int) (s : Rst) : Prop where
 lo : 0 ≤ s.tks
 hi : s.tks ≤ most ∨ s.tks ≤ 0
 out : s.out.length ≤ 1000
theorem ite_bd {most : Int} {p : Prop} [Decidable p] {u v : Rst × Ra} (hu : BdT most u.1) (hv : BdT most v.1) : BdT most (if p then u else v).1 := by split <;> assumption
theorem tickR_bd {most : Int} {s : Rst} (h : BdT most s) : BdT most (tickR most s) := by
 unfold tickR
 have h1 := h.lo
 have h2 := h.hi
 split
 ·exact ⟨h.lo, h.hi, h.out⟩
 ·exact ⟨by simp only; omega, by simp only; omega, h.out⟩
theorem printR_bd {most : Int} {s : Rst} (h : BdT most s) (v : Int) : BdT most (printR v s) := by
 unfold printR
 have h3 := h.out
 split
 ·exact ⟨h.lo, h.hi, h.out⟩
 ·exact ⟨h.lo, h.hi, by simp; omega⟩
theorem callR_bd {most : Int} {s : Rst} (h : BdT most s) (ans : List Int) (nm : List UInt8) (vs : List Int) : BdT most (callR ans nm vs s) := by
 unfold callR
 split
 ·exact ⟨h.lo, h.hi, h.out⟩
 ·exact ⟨h.lo, h.hi, h.out⟩
theorem insL_bd {args ans : List Int} {most : Int} {x : Li} {s : Rst} {r : Ra} (h : BdT most s) : BdT most (insL args ans most x s r).1 := by
 unfold insL
 repeat' (first | refine ite_bd ?_ ?_ | exact h | exact tickR_bd h | exact printR_bd h _ | exact callR_bd h _ _ _)
theorem ite_zl {n : Nat} {p : Prop} [Decidable p] {u v : Rst × Ra} (hu : u.2.slots.length = n) (hv : v.2.slots.length = n) : (if p then u else v).2.slots.length = n := by split <;> assumption
theorem insL_zl {args ans : List Int} {most : Int} {x : Li} {s : Rst} {r : Ra} {n : Nat} (h : r.slots.length = n) : (insL args ans most x s r).2.slots.length = n := by
 unfold insL
 repeat' (first | refine ite_zl ?_ ?_ | exact h | (split <;> simp [h]; done) | (show (Ra.put _ _ _).slots.length = n; exact h) | (simp [h]; done))
structure EndL (N : Nat) (b : Lb) : Prop where
 fin : (b.fin = lJump ∧ b.tos.length = 1) ∨ (b.fin = gIf ∧ b.tos.length = 2 ∧ r8 b.a) ∨ (b.fin = gReturn ∧ r8 b.a)
 to : ∀ t ∈ b.tos, 0 ≤ t ∧ t < (N : Int)
def ABlk (D : Nat → Prop) (X : World) (wb rb sb : Nat) (argv ansv : Value) (most steps : Int) (q : Rst × Ra × Nat) (e : Ending) (w' : World) : Prop :=
 ButP D X w' ∧ e = .returned (.int .i64 (q.2.2 : Int)) ∧ ∃ r', (q.1.how = [] → r' = q.2.1) ∧ AkE (Up D X) w' wb rb sb argv ansv q.1 most steps r'
def Now (D : Nat → Prop) (X : World) : Nat → Prop := fun b => D b ∧ b < X.heap.size
section
variable {D D' : Nat → Prop} {S : Nat → Prop} {X Y : World} {wb rb sb : Nat} {argv ansv : Value} {s : Rst} {most steps : Int} {r : Ra} {A : Nat → Prop}
theorem AkJ.now (h : AkJ D S X wb rb sb argv ansv s most steps r) : AkJ (Now D X) S X wb rb sb argv ansv s most steps r :=
 ⟨h.blk, h.slt, h.recd, h.ne1, h.ne2, h.ne3, ⟨h.lw, h.wl⟩, ⟨h.lr, h.recd.rl⟩, ⟨h.lz, h.sl⟩, fun b e => ⟨⟨(h.ls b e).1, (h.recd.sl b e).1⟩, (h.ls b e).2⟩, h.rl, h.nl, h.zl⟩
theorem ABlk.back {q : Rst × Ra × Nat} {e : Ending} {w' : World} (hb : ButP D X Y) (hD : ∀ b, D' b → D b ∨ X.heap.size ≤ b) (h : ABlk D' Y wb rb sb argv ansv most steps q e w') : ABlk D X wb rb sb argv ansv most steps q e w' := by
 obtain ⟨h1, h2, r', h4, h5⟩ := h
 exact ⟨hb.trans h1 hD, h2, r', h4, h5.mono (fun b e => e.elim (fun e => hD b e) (fun e => Or.inr (Nat.le_trans hb.size e)))⟩
theorem RecE.howc {X : World} (h : RecE S X rb s ansv most steps) : X.cell? ⟨rb, 0, none⟩ = some (.string ⟨s.how.toArray⟩) := by
 obtain ⟨_, _, _, h⟩ := h
 exact cell_of_blk h.blk 0
theorem insLs_drop {args ans : List Int} {l : List Li} {q : Nat} (hq : q < l.length) {s : Rst} {r : Ra} : insLs args ans most (l.drop q) s r = if (insL args ans most l[q] s r).1.how = [] then insLs args ans most (l.drop (q + 1)) (insL args ans most l[q] s r).1 (insL args ans most l[q] s r).2 else insL args ans most l[q] s r := by
 rw [List.drop_eq_getElem_cons hq]; rfl
theorem ablk_rec {Z : World} {s' : Rst} {q : Rst × Ra × Nat} (hX : Below X.heap.size X Y) (h : AkJ D S Y wb rb sb argv ansv s most steps r) (ht : RecTo S Y rb s' ansv most steps Z) (hq : q = (s', r, 0)) : ABlk D X wb rb sb argv ansv most steps q (.returned (.int .i64 0)) Z := by
 subst hq
 obtain ⟨h1, S', h2⟩ := h.recTo ht
 exact ABlk.back (D' := D) (ButP.of hX) (fun _ e => Or.inl e) ⟨h1, rfl, r, fun _ => rfl, h2.e⟩
theorem ablk_same {q : Rst × Ra × Nat} {k : Nat} (hX : Below X.heap.size X Y) (h : AkJ D S X wb rb sb argv ansv s most steps r) (hq : q = (s, r, k)) : ABlk D X wb rb sb argv ansv most steps q (.returned (.int .i64 (k : Int))) Y := by
 subst hq
 exact ⟨ButP.of hX, rfl, r, fun _ => rfl, ((h.below hX).mono (fun _ e => Or.inl e)).e⟩
theorem one_to {N : Nat} {b : Lb} (h : EndL N b) (hl : b.tos.length = 1) : ∃ k : Nat, b.tos = [(k : Int)] := by
 have ht := h.to
 match hb : b.tos, hl with
 | [t], _ => exact ⟨t.toNat, by rw [hb] at ht; have := ht t (by simp); rw [show ((t.toNat : Nat) : Int) = t by omega]⟩
theorem two_to {N : Nat} {b : Lb} (h : EndL N b) (hl : b.tos.length = 2) : ∃ k m : Nat, b.tos = [(k : Int), (m : Int)] := by
 have ht := h.to
 match hb : b.tos, hl with
 | [t, u], _ =>
  rw [hb] at ht
  have h1 := ht t (by simp)
  have h2 := ht u (by simp)
  exact ⟨t.toNat, u.toNat, by rw [show ((t.toNat : Nat) : Int) = t by omega, show ((u.toNat : Nat) : Int) = u by omega]⟩
set_option maxRecDepth 100000 in
set_option maxHeartbeats 4000000 in
theorem ablock_any (h : AkJ D S X wb rb sb argv ansv s most steps r) (hA : ∀ b, A b → b < X.heap.size ∧ ¬ D b) {N : Nat} {b : Lb} (hend : EndL N b) {ia ta : Option Addr} {ic tc : Nat} (hin : XLs A X (.slice ia b.ins.length ic) b.ins) (hto : XRow A X (.slice ta b.tos.length tc) b.tos.length (intsG b.tos)) {args ans : List Int} (hdo : ∀ x ∈ b.ins, DoL args.length r.slots.length x)
  (hag : XRow A X argv args.length (intsG args)) (han : XRow A X ansv ans.length (intsG ans)) (hal : ans.length ≤ 100000) (hgl : args.length ≤ 1000) (hmost : most ≤ 1000) (hbd : BdT most s) (hhow : s.how = []) (hil : b.ins.length ≤ 1000000) :
  Calls Tryd.prog 27 #[.pointer (some ⟨wb, 0, none⟩), .agg #[.slice ia b.ins.length ic, .string ⟨b.fin.toArray⟩, .int .i64 b.a, .slice ta b.tos.length tc]] X fun e w' => ABlk D X wb rb sb argv ansv most steps (blockL args ans most b s r) e w' := by
 obtain ⟨X1, hX1⟩ : ∃ X1, X1 = X.alloc (.cells #[.slice ia b.ins.length ic, .string ⟨b.fin.toArray⟩, .int .i64 b.a, .slice ta b.tos.length tc] 55) := ⟨_, rfl⟩
 have hbx : Below X.heap.size X X1 := by rw [hX1]; exact box_blk X _ _
 have hN : X1.heap[X.heap.size]? = some (.cells #[.slice ia b.ins.length ic, .string ⟨b.fin.toArray⟩, .int .i64 b.a, .slice ta b.tos.length tc] 55 (0, 0)) := by rw [hX1]; exact heap_alloc_new _ _
 have hxl : X.heap.size < X1.heap.size := heap_lt hN
 have h1 : AkJ (Now D X) S X1 wb rb sb argv ansv s most steps r := h.now.below hbx
 have HH1 := hidX h1
 have HN := hidX hN
 have HBX := hidX hbx
 have HAX := hidX hA
 have HEN := hidX hend
 have HTO := hidX hto
 have HIN := hidX hin
 have HDO := hidX hdo
 have HAG := hidX hag
 have HAN := hidX han
 have HBD := hidX hbd
 have HX1 := hidX hX1
 have HHW := hidX hhow
 have hil' : (b.ins.length : Int) ≤ 1000000 := by omega
 generalize hRR : blockL args ans most b s r = RR
 have HRR := hidX hRR
 clear hRR h h1 hN hbx hA hend hto hin hdo hag han hbd hX1 hhow
 go_enter Tryd.func27, Tryd.ntmps27
 go_wp2_with fail
 rw [← HX1.out]
 clear HX1
 go_loopw [10] (fun vi wr => ∃ (q : Nat) (sq : Rst) (rq : Ra), q ≤ b.ins.length ∧ vi = .int .i64 (q : Int) ∧ Hid (rq.slots.length = r.slots.length) ∧ Hid (sq.how = []) ∧ Hid (BdT most sq) ∧ Hid (insLs args ans most b.ins s r = insLs args ans most (b.ins.drop q) sq rq) ∧ Hid (AkE (Up (Now D X) X1) wr wb rb sb argv ansv sq most steps rq) ∧ Hid (ButP (Now D X) X1 wr)) (fun vi _ => b.ins.length - (intOf vi).toNat)
 case atStart => exact ⟨0, s, r, by omega, rfl, rfl, HHW.out, HBD.out, rfl, (HH1.out.mono (fun _ e => Or.inl e)).e, ⟨rfl, rfl, rfl, Nat.le_refl _, fun _ _ _ => rfl⟩⟩
 case round =>
  obtain ⟨q, sq, rq, hq, rfl, HLQ, HHQ, HBQ, HIQ, HPQ, HFQ⟩ := hrel
  obtain ⟨S4, hp4⟩ := HPQ.out
  have hzr : X1.heap.size ≤ wr.heap.size := HFQ.out.size
  have hKA : ∀ k, A k → k < wr.heap.size ∧ wr.heap[k]? = X.heap[k]? ∧ ¬ Up (Now D X) X1 k := fun k hk => ⟨by have := (HAX.out k hk).1; omega, (HFQ.out.block k (by have := (HAX.out k hk).1; omega) (fun e => (HAX.out k hk).2 e.1)).trans (HBX.out.block k (HAX.out k hk).1), fun e => e.elim (fun e => (HAX.out k hk).2 e.1) (fun e => by have := (HAX.out k hk).1; omega)⟩
  have HKA := hidX hKA
  by_cases hlt : q < b.ins.length
  ·have hlt' : (q : Int) < (b.ins.length : Int) := by omega
   obtain ⟨g, off, e1, hg, k0, k1, k2, k3, k4, k5⟩ := HIN.out.ins hlt
   subst e1
   have kc : ∀ o v, X.cell? ⟨g, o, none⟩ = some v → wr.cell? ⟨g, o, none⟩ = some v := fun o v hv => (World.cell?_of_block (w := X) (w' := wr) (a := ⟨g, o, none⟩) (hKA g hg).2.1).trans hv
   replace k0 := kc _ _ k0
   replace k1 := kc _ _ k1
   replace k2 := kc _ _ k2
   replace k3 := kc _ _ k3
   replace k4 := kc _ _ k4
   replace k5 := kc _ _ k5
   have hdx := HDO.out _ (List.getElem_mem hlt)
   have hst := insLs_drop (args := args) (ans := ans) (most := most) hlt (s := sq) (r := rq)
   rw [← HIQ.out] at hst
   generalize b.ins[q] = x at *
   have hbq := HBQ.out
   have HDX := hidX fun Y (hY : Below wr.heap.size wr Y) => adoIns_any (hp4.below hY) (A := A) (fun k hk => ⟨Nat.lt_of_lt_of_le (hKA k hk).1 hY.size, (hKA k hk).2.2⟩) (args := args) (ans := ans) (HAG.out.imp (fun _ h => h) (fun k hk => (hY.block k (hKA k hk).1).trans (hKA k hk).2.1)) (HAN.out.imp (fun _ h => h) (fun k hk => (hY.block k (hKA k hk).1).trans (hKA k hk).2.1)) hal hgl ⟨hbq.lo, by have := hbq.hi; omega⟩ hbq.out (x := x) (by rw [HLQ.out]; exact hdx)
   have hb3 := insL_bd (args := args) (ans := ans) (x := x) (r := rq) hbq
   have hz3 := insL_zl (args := args) (ans := ans) (most := most) (x := x) (s := sq) HLQ.out
   generalize insL args ans most x sq rq = r3 at HDX hst hb3 hz3
   have HST := hidX hst
   have HB3 := hidX hb3
   have HZ3 := hidX hz3
   clear hst hb3 hbq hdx kc hKA hp4 hz3
   go_wp2_with fail
   refine (HDX.out _ (by (repeat (first | exact Below.refl _ _ | assumption | refine Below.drew ?_ | refine bT ?_ _ | refine bS ?_ _ | refine bA ?_ _)))).mono ?_
   rintro e w3 hd3
   have he := hd3.2.1
   subst he
   obtain ⟨hf3, _, vl3, hv3, hpe3⟩ := hd3
   have HPE3 := hidX hpe3
   obtain ⟨S5, hp5⟩ := hpe3
   have m0 : w3.cell? ⟨wb, 0, none⟩ = some (.pointer (some ⟨rb, 0, none⟩)) := hp5.ptr
   have mh := hp5.recd.howc
   have HF3 := hidX (show ButP (Now D X) X1 w3 from (HFQ.out.trans (ButP.of (S := fun _ => False) (show Below wr.heap.size wr _ from box_blk _ _ _)) (fun _ e => e.elim)).trans hf3 (fun b e => e))
   have HPU := hidX (HPE3.out.mono (show ∀ b, Up (Up (Now D X) X1) _ b → Up (Now D X) X1 b from fun b e => e.elim id (fun e => Or.inr (by simp at e; omega))))
   have HV3 := hidX hv3
   clear hp5 hf3 hv3 HPE3
   by_cases hh : r3.1.how = []
   ·rw [hh] at mh
    replace mh : w3.cell? ⟨rb, 0, none⟩ = some (.string ⟨#[]⟩) := mh
    have HHR := hidX hh
    obtain rfl : vl3 = r3.2 := HV3.out hh
    have HNX := hidX (show insLs args ans most b.ins s r = insLs args ans most (b.ins.drop (q + 1)) r3.1 r3.2 from by rw [HST.out, if_pos hh])
    clear hh HST HV3
    go_wp2
    go_roundw
    case rel => exact ⟨q + 1, r3.1, r3.2, by omega, by go_num, HZ3.out, HHR.out, HB3.out, HNX.out, HPU.out, HF3.out⟩
    case measure => simp [intOf]; omega
   ·have hbl : RR = (r3.1, r3.2, 0) := by
     rw [← HRR.out]
     unfold blockL
     rw [HST.out, if_neg hh, if_neg hh]
    subst hbl
    have HW := hidX (show ABlk D X wb rb sb argv ansv most steps (r3.1, r3.2, 0) (.returned (.int .i64 0)) w3 from ABlk.back (Y := X1) (D' := Now D X) (ButP.of HBX.out) (fun _ e => Or.inl e.1) ⟨HF3.out, rfl, vl3, fun e => absurd e hh, HPU.out⟩)
    have hem : r3.1.how.isEmpty = false := by simpa using hh
    generalize r3.1.how = hw3 at mh hem
    clear hh HST HV3 HRR
    go_wp2
    (try simp only [Exit.inBlock, Exit.then])
    go_ret
    exact HW.out
  ·have hqn : q = b.ins.length := by omega
   subst hqn
   have hfin := HIQ.out
   rw [List.drop_length] at hfin
   have hRR2 : RR = leaveL b sq rq := by
    rw [← HRR.out]
    unfold blockL
    rw [hfin]
    show (if sq.how = [] then _ else _) = _
    rw [if_pos HHQ.out]; rfl
   have hNr : wr.heap[X.heap.size]? = _ := (HFQ.out.block X.heap.size hxl (fun e => by have := e.2; omega)).trans HN.out
   have c1 : wr.cell? ⟨X.heap.size, 1, none⟩ = some (.string ⟨b.fin.toArray⟩) := cell_of_blk hNr 1
   have c2 : wr.cell? ⟨X.heap.size, 2, none⟩ = some (.int .i64 b.a) := cell_of_blk hNr 2
   have c3 : wr.cell? ⟨X.heap.size, 3, none⟩ = some (.slice ta b.tos.length tc) := cell_of_blk hNr 3
   have HP4 := hidX hp4
   have HRR2 := hidX hRR2
   have HTW := hidX (show XRow A wr (.slice ta b.tos.length tc) b.tos.length (intsG b.tos) from HTO.out.imp (fun _ h => h) (fun k hk => (hKA k hk).2.1))
   have HFX := hidX (show ∀ q e w', ABlk (Up (Now D X) X1) wr wb rb sb argv ansv most steps q e w' → ABlk D X wb rb sb argv ansv most steps q e w' from fun q e w' hq => ABlk.back (Y := wr) (D' := Up (Now D X) X1) ((ButP.of HBX.out).trans HFQ.out (fun _ e => Or.inl e.1)) (fun b e => e.elim (fun e => Or.inl e.1) (fun e => Or.inr (by omega))) hq)
   clear hp4 hKA hfin hRR2 hNr HRR
   rcases HEN.out.fin with ⟨hf, hl⟩ | ⟨hf, hl, hr8⟩ | ⟨hf, hr8⟩
   ·rw [hf] at c1
    replace c1 : wr.cell? ⟨X.heap.size, 1, none⟩ = some (.string ⟨([106, 117, 109, 112] : List UInt8).toArray⟩) := c1
    obtain ⟨k0, hk⟩ := one_to HEN.out hl
    have hq : RR = (sq, rq, k0) := by rw [HRR2.out]; unfold leaveL; rw [if_neg (by rw [hf]; decide), if_neg (fun e => by have := e.1; rw [hf] at this; exact absurd this (by decide)), hk]; rfl
    have HQQ := hidX hq
    have htw := HTW.out
    rw [hk] at htw c3
    obtain ⟨gt, ot, et, _, kt⟩ := htw.int (k := 0) (by simp)
    subst et
    replace kt : wr.cell? ⟨gt, ot, none⟩ = some (.int .i64 (k0 : Int)) := kt
    replace c3 : wr.cell? ⟨X.heap.size, 3, none⟩ = some (.slice (some ⟨gt, ot, none⟩) 1 tc) := c3
    clear hq hf htw hk c2
    go_wp2_with fail
    try go_quiet (fail)
    try go_wp2
    try go_ret
    all_goals exact HFX.out _ _ _ (ablk_same (by (repeat (first | exact Below.refl _ _ | assumption | refine Below.drew ?_ | refine bT ?_ _ | refine bS ?_ _ | refine bA ?_ _))) HP4.out HQQ.out)
   ·rw [hf] at c1
    replace c1 : wr.cell? ⟨X.heap.size, 1, none⟩ = some (.string ⟨([105, 102] : List UInt8).toArray⟩) := c1
    obtain ⟨am, ham⟩ : ∃ k : Nat, b.a = (k : Int) := ⟨b.a.toNat, by have := hr8; unfold r8 at this; omega⟩
    have ham8 : am < 8 := by have := hr8; unfold r8 at this; omega
    have hami : (am : Int) < 8 := by omega
    rw [ham] at c2
    have ra := HP4.out.reg ham8
    obtain ⟨k0, k1, hk⟩ := two_to HEN.out hl
    have hq : RR = (sq, rq, if rq.regs.getD am 0 = 0 then k1 else k0) := by
     rw [HRR2.out]; unfold leaveL; rw [if_neg (by rw [hf]; decide), hk]; unfold Ra.get; rw [ham]
     by_cases h0 : rq.regs.getD am 0 = 0
     ·rw [if_pos h0]; exact if_pos ⟨hf, h0⟩
     ·rw [if_neg h0]; exact if_neg (fun e => h0 e.2)
    generalize rq.regs.getD am 0 = va at ra hq
    have htw := HTW.out
    rw [hk] at htw c3
    obtain ⟨gt, ot, et, _, kt⟩ := htw.int (k := 0) (by simp)
    subst et
    obtain ⟨gt', ot', et, _, ku⟩ := htw.int (k := 1) (by simp)
    injection et with et
    injection et with e1 e2
    subst e1 e2
    replace kt : wr.cell? ⟨gt, ot, none⟩ = some (.int .i64 (k0 : Int)) := kt
    replace ku : wr.cell? ⟨gt, ot + 1, none⟩ = some (.int .i64 (k1 : Int)) := ku
    replace c3 : wr.cell? ⟨X.heap.size, 3, none⟩ = some (.slice (some ⟨gt, ot, none⟩) 2 tc) := c3
    by_cases h0 : va = 0
    ·rw [if_pos h0] at hq
     have HQQ := hidX hq
     have t0 : (va == 0) = true := by simpa using h0
     clear hq hf htw hk h0 ham hr8
     go_wp2_with fail
     go_quiet (fail)
     go_wp2
     go_ret
     all_goals exact HFX.out _ _ _ (ablk_same (by (repeat (first | exact Below.refl _ _ | assumption | refine Below.drew ?_ | refine bT ?_ _ | refine bS ?_ _ | refine bA ?_ _))) HP4.out HQQ.out)
    ·rw [if_neg h0] at hq
     have HQQ := hidX hq
     have t0 : (va == 0) = false := by simpa using h0
     clear hq hf htw hk h0 ham hr8
     go_wp2_with fail
     go_quiet (fail)
     go_wp2
     go_ret
     all_goals exact HFX.out _ _ _ (ablk_same (by (repeat (first | exact Below.refl _ _ | assumption | refine Below.drew ?_ | refine bT ?_ _ | refine bS ?_ _ | refine bA ?_ _))) HP4.out HQQ.out)
   ·rw [hf] at c1
    replace c1 : wr.cell? ⟨X.heap.size, 1, none⟩ = some (.string ⟨([114, 101, 116, 117, 114, 110] : List UInt8).toArray⟩) := c1
    obtain ⟨am, ham⟩ : ∃ k : Nat, b.a = (k : Int) := ⟨b.a.toNat, by have := hr8; unfold r8 at this; omega⟩
    have ham8 : am < 8 := by have := hr8; unfold r8 at this; omega
    have hami : (am : Int) < 8 := by omega
    rw [ham] at c2
    have ra := HP4.out.reg ham8
    have m0 := HP4.out.ptr
    have hq : RR = (retR (rq.regs.getD am 0) sq, rq, 0) := by rw [HRR2.out]; unfold leaveL; rw [if_pos hf]; unfold Ra.get; rw [ham]; rfl
    generalize rq.regs.getD am 0 = va at ra hq
    have HQQ := hidX hq
    have HRT := hidX fun Y (hY : Below wr.heap.size wr Y) => return_r (HP4.out.below hY).recd va
    clear hq ham hf hr8 c3
    go_wp2_with fail
    try go_quiet (fail)
    try go_wp2_with fail
    go_region_with (refine (HRT.out _ (by (repeat (first | exact Below.refl _ _ | assumption | refine Below.drew ?_ | refine bT ?_ _ | refine bS ?_ _ | refine bA ?_ _)))).mono ?_; rintro e w3 ⟨rfl, hr3⟩; have HW := hidX (HFX.out _ _ _ (ablk_rec (show Below wr.heap.size wr _ by (repeat (first | exact Below.refl _ _ | assumption | refine Below.drew ?_ | refine bT ?_ _ | refine bS ?_ _ | refine bA ?_ _))) (HP4.out.below (by (repeat (first | exact Below.refl _ _ | assumption | refine Below.drew ?_ | refine bT ?_ _ | refine bS ?_ _ | refine bA ?_ _)))) hr3 HQQ.out)); clear hr3)
    all_goals (
     go_wp2
     go_ret
     exact HW.out)
end
end Go.Proofs.YtimccbilkjjakaaDoor
namespace Go.Proofs.YtimccbilkjjakaaDoor
open Go.RowKit
theorem inR_iff {n x : Int} : inR n x = true ↔ 0 ≤ x ∧ x < n := by simp [inR]
theorem ash_ins {k : List UInt8} (h : (ash k false).kind ≠ []) : k = gParam ∨ k = gConst ∨ k = gOne ∨ k = gTwo ∨ k = lMove ∨ k = lLoad ∨ k = lStore ∨ k = lArg ∨ k = gCall ∨ k = gTick ∨ k = gPrint := by
 refine Classical.byContradiction fun hc => h ?_
 simp only [not_or] at hc
 obtain ⟨h0, h1, h2, h3, h4, h5, h6, h7, h8, h9, h10⟩ := hc
 have e : ∀ l : List Ash, (∀ s ∈ l, s.fin = false → s.kind ≠ k) → ashIn l k false = noAsh := by
  intro l
  induction l with
  | nil => intro _; rfl
  | cons s r ih =>
   intro hl
   unfold ashIn
   rw [if_neg (fun h => hl s (by simp) h.2 h.1)]
   exact ih fun t ht => hl t (by simp [ht])
 show (ashIn ashL k false).kind = []
 rw [e ashL]
 ·rfl
 ·intro s hs hf
  simp only [ashL, List.mem_cons, List.not_mem_nil, or_false] at hs
  rcases hs with rfl | rfl | rfl | rfl | rfl | rfl | rfl | rfl | rfl | rfl | rfl | rfl | rfl | rfl <;> first | (cases hf; done) | exact Ne.symm h0 | exact Ne.symm h1 | exact Ne.symm h2 | exact Ne.symm h3 | exact Ne.symm h4 | exact Ne.symm h5 | exact Ne.symm h6 | exact Ne.symm h7 | exact Ne.symm h8 | exact Ne.symm h9 | exact Ne.symm h10
theorem inR8 {x : Int} (h : inR 8 x = true) : r8 x := inR_iff.1 h
theorem doL_of {P Z : Nat} {x : Li} (h1 : lKind onesE twosE x (ash x.kind false) = true) (h2 : lBound P Z x (ash x.kind false) = true) : DoL P Z x := by
 have hk : (ash x.kind false).kind ≠ [] := by
  unfold lKind at h1
  simp only [Bool.and_eq_true] at h1
  simpa using h1.1
 have hc := ash_ins hk
 obtain ⟨kind, d, a, b, num, name⟩ := x
 simp only at hc
 unfold lKind lOp at h1
 unfold lBound lNum at h2
 simp only [Bool.and_eq_true] at h1 h2
 obtain ⟨_, h1⟩ := h1
 obtain ⟨⟨⟨q1, q2⟩, q3⟩, q4⟩ := h2
 rcases hc with rfl | rfl | rfl | rfl | rfl | rfl | rfl | rfl | rfl | rfl | rfl
 ·refine ⟨by simp, fun _ => ⟨inR8 q1, ?_⟩, fun (e : gParam = gConst) => absurd e (by decide), fun (e : gParam = gOne) => absurd e (by decide), fun (e : gParam = gTwo) => absurd e (by decide), fun (e : gParam = lMove) => absurd e (by decide), fun (e : gParam = lLoad) => absurd e (by decide), fun (e : gParam = lStore) => absurd e (by decide), fun (e : gParam = lArg) => absurd e (by decide), fun (e : gParam = gCall) => absurd e (by decide), fun (e : gParam = gPrint) => absurd e (by decide)⟩
  rw [if_pos rfl] at q4; exact inR_iff.1 q4
 ·exact ⟨by simp, fun (e : gConst = gParam) => absurd e (by decide), fun _ => inR8 q1, fun (e : gConst = gOne) => absurd e (by decide), fun (e : gConst = gTwo) => absurd e (by decide), fun (e : gConst = lMove) => absurd e (by decide), fun (e : gConst = lLoad) => absurd e (by decide), fun (e : gConst = lStore) => absurd e (by decide), fun (e : gConst = lArg) => absurd e (by decide), fun (e : gConst = gCall) => absurd e (by decide), fun (e : gConst = gPrint) => absurd e (by decide)⟩
 ·refine ⟨by simp, fun (e : gOne = gParam) => absurd e (by decide), fun (e : gOne = gConst) => absurd e (by decide), fun _ => ⟨inR8 q1, inR8 q2, ?_⟩, fun (e : gOne = gTwo) => absurd e (by decide), fun (e : gOne = lMove) => absurd e (by decide), fun (e : gOne = lLoad) => absurd e (by decide), fun (e : gOne = lStore) => absurd e (by decide), fun (e : gOne = lArg) => absurd e (by decide), fun (e : gOne = gCall) => absurd e (by decide), fun (e : gOne = gPrint) => absurd e (by decide)⟩
  rw [if_pos rfl] at h1; exact of_decide_eq_true h1
 ·refine ⟨by simp, fun (e : gTwo = gParam) => absurd e (by decide), fun (e : gTwo = gConst) => absurd e (by decide), fun (e : gTwo = gOne) => absurd e (by decide), fun _ => ⟨inR8 q1, inR8 q2, inR8 q3, ?_⟩, fun (e : gTwo = lMove) => absurd e (by decide), fun (e : gTwo = lLoad) => absurd e (by decide), fun (e : gTwo = lStore) => absurd e (by decide), fun (e : gTwo = lArg) => absurd e (by decide), fun (e : gTwo = gCall) => absurd e (by decide), fun (e : gTwo = gPrint) => absurd e (by decide)⟩
  rw [if_neg (show ¬ gTwo = gOne by decide), if_pos rfl] at h1; exact of_decide_eq_true h1
 ·exact ⟨by simp, fun (e : lMove = gParam) => absurd e (by decide), fun (e : lMove = gConst) => absurd e (by decide), fun (e : lMove = gOne) => absurd e (by decide), fun (e : lMove = gTwo) => absurd e (by decide), fun _ => ⟨inR8 q1, inR8 q2⟩, fun (e : lMove = lLoad) => absurd e (by decide), fun (e : lMove = lStore) => absurd e (by decide), fun (e : lMove = lArg) => absurd e (by decide), fun (e : lMove = gCall) => absurd e (by decide), fun (e : lMove = gPrint) => absurd e (by decide)⟩
 ·refine ⟨by simp, fun (e : lLoad = gParam) => absurd e (by decide), fun (e : lLoad = gConst) => absurd e (by decide), fun (e : lLoad = gOne) => absurd e (by decide), fun (e : lLoad = gTwo) => absurd e (by decide), fun (e : lLoad = lMove) => absurd e (by decide), fun _ => ⟨inR8 q1, ?_⟩, fun (e : lLoad = lStore) => absurd e (by decide), fun (e : lLoad = lArg) => absurd e (by decide), fun (e : lLoad = gCall) => absurd e (by decide), fun (e : lLoad = gPrint) => absurd e (by decide)⟩
  rw [if_neg (show ¬ lLoad = gParam by decide), if_pos rfl] at q4; exact inR_iff.1 q4
 ·refine ⟨by simp, fun (e : lStore = gParam) => absurd e (by decide), fun (e : lStore = gConst) => absurd e (by decide), fun (e : lStore = gOne) => absurd e (by decide), fun (e : lStore = gTwo) => absurd e (by decide), fun (e : lStore = lMove) => absurd e (by decide), fun (e : lStore = lLoad) => absurd e (by decide), fun _ => ⟨inR8 q2, ?_⟩, fun (e : lStore = lArg) => absurd e (by decide), fun (e : lStore = gCall) => absurd e (by decide), fun (e : lStore = gPrint) => absurd e (by decide)⟩
  rw [if_neg (show ¬ lStore = gParam by decide), if_neg (show ¬ lStore = lLoad by decide), if_pos rfl] at q4; exact inR_iff.1 q4
 ·refine ⟨by simp, fun (e : lArg = gParam) => absurd e (by decide), fun (e : lArg = gConst) => absurd e (by decide), fun (e : lArg = gOne) => absurd e (by decide), fun (e : lArg = gTwo) => absurd e (by decide), fun (e : lArg = lMove) => absurd e (by decide), fun (e : lArg = lLoad) => absurd e (by decide), fun (e : lArg = lStore) => absurd e (by decide), fun _ => ⟨inR8 q2, ?_⟩, fun (e : lArg = gCall) => absurd e (by decide), fun (e : lArg = gPrint) => absurd e (by decide)⟩
  rw [if_neg (show ¬ lArg = gParam by decide), if_neg (show ¬ lArg = lLoad by decide), if_neg (show ¬ lArg = lStore by decide), if_pos rfl] at q4; exact inR_iff.1 q4
 ·refine ⟨by simp, fun (e : gCall = gParam) => absurd e (by decide), fun (e : gCall = gConst) => absurd e (by decide), fun (e : gCall = gOne) => absurd e (by decide), fun (e : gCall = gTwo) => absurd e (by decide), fun (e : gCall = lMove) => absurd e (by decide), fun (e : gCall = lLoad) => absurd e (by decide), fun (e : gCall = lStore) => absurd e (by decide), fun (e : gCall = lArg) => absurd e (by decide), fun _ => ⟨inR8 q1, ?_⟩, fun (e : gCall = gPrint) => absurd e (by decide)⟩
  rw [if_neg (show ¬ gCall = gParam by decide), if_neg (show ¬ gCall = lLoad by decide), if_neg (show ¬ gCall = lStore by decide), if_neg (show ¬ gCall = lArg by decide), if_pos rfl] at q4; exact inR_iff.1 q4
 ·exact ⟨by simp, fun (e : gTick = gParam) => absurd e (by decide), fun (e : gTick = gConst) => absurd e (by decide), fun (e : gTick = gOne) => absurd e (by decide), fun (e : gTick = gTwo) => absurd e (by decide), fun (e : gTick = lMove) => absurd e (by decide), fun (e : gTick = lLoad) => absurd e (by decide), fun (e : gTick = lStore) => absurd e (by decide), fun (e : gTick = lArg) => absurd e (by decide), fun (e : gTick = gCall) => absurd e (by decide), fun (e : gTick = gPrint) => absurd e (by decide)⟩
 ·exact ⟨by simp, fun (e : gPrint = gParam) => absurd e (by decide), fun (e : gPrint = gConst) => absurd e (by decide), fun (e : gPrint = gOne) => absurd e (by decide), fun (e : gPrint = gTwo) => absurd e (by decide), fun (e : gPrint = lMove) => absurd e (by decide), fun (e : gPrint = lLoad) => absurd e (by decide), fun (e : gPrint = lStore) => absurd e (by decide), fun (e : gPrint = lArg) => absurd e (by decide), fun (e : gPrint = gCall) => absurd e (by decide), fun _ => inR8 q2⟩
theorem endL_of {N : Nat} {P S : Int} {b : Lb} (h0 : turn0 onesE twosE b = true) (h1 : turn1 P S N b = true) (h2 : turn2 b = true) : EndL N b := by
 unfold turn0 at h0
 unfold turn1 at h1
 unfold turn2 at h2
 simp only [Bool.and_eq_true, decide_eq_true_eq] at h0 h1 h2
 have hk := ash_fin (k := b.fin) (by simpa using h0.1)
 obtain ⟨⟨ha, ht⟩, _⟩ := h1
 obtain ⟨⟨hw, _⟩, _⟩ := h2
 refine ⟨?_, fun t hm => inR_iff.1 (List.all_eq_true.1 ht t hm)⟩
 rcases hk with e | e | e
 ·exact Or.inl ⟨e, by rw [hw, e]; rfl⟩
 ·refine Or.inr (Or.inl ⟨e, by rw [hw, e]; rfl, ?_⟩)
  rw [e] at ha
  exact inR8 (by simpa [gIf, lJump] using ha)
 ·refine Or.inr (Or.inr ⟨e, ?_⟩)
  rw [e] at ha
  exact inR8 (by simpa [gReturn, lJump] using ha)
structure WellL (P S : Int) (L : List Lb) : Prop where
 p0 : 0 ≤ P
 p1 : P ≤ 4
 s0 : 0 ≤ S
 s1 : S ≤ 1000
 l0 : 0 < L.length
 l1 : L.length ≤ 3000
 blk : ∀ b ∈ L, turn0 onesE twosE b = true ∧ turn1 P S L.length b = true ∧ turn2 b = true
theorem lowFrom_zero {P S : Int} {N : Nat} : ∀ {l : List Lb} {i : Nat}, (lowFrom onesE twosE P S N i l).1 = 0 → ∀ b ∈ l, blkC onesE twosE P S N b = 0
 | [], _, _, _, hb => by cases hb
 | c :: r, i, h, b, hb => by
  rw [lowFrom] at h
  by_cases hc : blkC onesE twosE P S N c = 0
  ·rw [if_pos hc] at h
   rcases List.mem_cons.1 hb with e | e
   ·rw [e]; exact hc
   ·exact lowFrom_zero h b e
  ·rw [if_neg hc] at h
   exact absurd h hc
theorem low_well {P S : Int} {L : List Lb} (h : (lowF onesE twosE P S L).1 = 0) : WellL P S L := by
 unfold lowF at h
 by_cases h1 : 3000 < L.length
 ·rw [if_pos h1] at h; cases h
 ·rw [if_neg h1] at h
  by_cases h2 : L.length = 0
  ·rw [if_pos h2] at h; cases h
  ·rw [if_neg h2] at h
   by_cases h3 : P < 0 ∨ 4 < P
   ·rw [if_pos h3] at h; cases h
   ·rw [if_neg h3] at h
    by_cases h4 : S < 0 ∨ 1000 < S
    ·rw [if_pos h4] at h; cases h
    ·rw [if_neg h4] at h
     refine ⟨by omega, by omega, by omega, by omega, by omega, by omega, fun b hb => ?_⟩
     have hz := lowFrom_zero h b hb
     rw [blk_same] at hz
     unfold blkT at hz
     by_cases t0 : turn0 onesE twosE b = false
     ·rw [if_pos t0] at hz; cases hz
     ·rw [if_neg t0] at hz
      by_cases t1 : turn1 P S L.length b = false
      ·rw [if_pos t1] at hz; cases hz
      ·rw [if_neg t1] at hz
       by_cases t2 : turn2 b = false
       ·rw [if_pos t2] at hz; cases hz
       ·exact ⟨by simpa using t0, by simpa using t1, by simpa using t2⟩
section
variable {P S : Int} {L : List Lb}
theorem WellL.fin (h : WellL P S L) : ∀ b ∈ L, EndL L.length b := fun b hb => endL_of (h.blk b hb).1 (h.blk b hb).2.1 (h.blk b hb).2.2
theorem WellL.ins (h : WellL P S L) {p z : Nat} (hp : (p : Int) = P) (hz : (z : Int) = S) : ∀ b ∈ L, ∀ x ∈ b.ins, DoL p z x := by
 subst hp hz
 intro b hb x hx
 have h0 := (h.blk b hb).1
 have h1 := (h.blk b hb).2.1
 unfold turn0 at h0
 unfold turn1 at h1
 simp only [Bool.and_eq_true] at h0 h1
 exact doL_of (List.all_eq_true.1 h0.2 x hx) (List.all_eq_true.1 h1.2 x hx)
theorem insLs_bd {args ans : List Int} {most : Int} : ∀ {l : List Li} {s : Rst} {r : Ra}, BdT most s → BdT most (insLs args ans most l s r).1
 | [], _, _, h => h
 | x :: l, s, r, h => by
  unfold insLs
  have h1 := insL_bd (args := args) (ans := ans) (x := x) (r := r) h
  split
  ·exact insLs_bd h1
  ·exact h1
theorem insLs_zl {args ans : List Int} {most : Int} {n : Nat} : ∀ {l : List Li} {s : Rst} {r : Ra}, r.slots.length = n → (insLs args ans most l s r).2.slots.length = n
 | [], _, _, h => h
 | x :: l, s, r, h => by
  unfold insLs
  have h1 := insL_zl (args := args) (ans := ans) (most := most) (x := x) (s := s) h
  split
  ·exact insLs_zl h1
  ·exact h1
theorem leaveL_r {b : Lb} {s : Rst} {r : Ra} : (leaveL b s r).2.1 = r := by unfold leaveL; split; rfl; split <;> rfl
theorem block_bd {b : Lb} {args ans : List Int} {most : Int} {s : Rst} {r : Ra} (h : BdT most s) : BdT most (blockL args ans most b s r).1 := by
 have h1 := insLs_bd (args := args) (ans := ans) (l := b.ins) (r := r) h
 unfold blockL
 split
 ·unfold leaveL
  split
  ·exact ⟨h1.lo, h1.hi, h1.out⟩
  ·split <;> exact h1
 ·exact h1
theorem block_zl {b : Lb} {args ans : List Int} {most : Int} {s : Rst} {r : Ra} {n : Nat} (h : r.slots.length = n) : (blockL args ans most b s r).2.1.slots.length = n := by
 have h1 := insLs_zl (args := args) (ans := ans) (most := most) (l := b.ins) (s := s) h
 unfold blockL
 split
 ·rw [leaveL_r]; exact h1
 ·exact h1
theorem leaveL_lt {N : Nat} {b : Lb} (h : EndL N b) (hN : 0 < N) (s : Rst) (r : Ra) : (leaveL b s r).2.2 < N := by
 unfold leaveL
 have key : ∀ k, k < b.tos.length → (b.tos.getD k 0).toNat < N := fun k hk => by
  have := h.to _ (List.getElem_mem hk)
  simp only [List.getD, List.getElem?_eq_getElem hk, Option.getD_some]
  omega
 rcases h.fin with ⟨e, hl⟩ | ⟨e, hl, _⟩ | ⟨e, _⟩
 ·rw [if_neg (by rw [e]; decide), if_neg (fun c => by have := c.1; rw [e] at this; exact absurd this (by decide))]
  exact key 0 (by omega)
 ·rw [if_neg (by rw [e]; decide)]
  split
  ·exact key 1 (by omega)
  ·exact key 0 (by omega)
 ·rw [if_pos e]; exact hN
theorem block_lt {N : Nat} {b : Lb} (h : EndL N b) (hN : 0 < N) {args ans : List Int} {most : Int} (s : Rst) (r : Ra) : (blockL args ans most b s r).2.2 < N := by
 unfold blockL
 split
 ·exact leaveL_lt h hN _ _
 ·exact hN
end
end Go.Proofs.YtimccbilkjjakaaDoor
