/- Our own: texts joined: AlCk5, AlCk6, AlCk7. -/
import Derived.Test.YtimccbilkjjakaaDoorZCkB
import Derived.Test.YtimccbilkjjakaaDoorZAlMR
import Derived.Test.YtimccbilkjjakaaDoorZTools
import Derived.Deep.DeepCutAuto
import Derived.Test.YtimccbilkjjakaaDoorZTold
namespace Go.Proofs.YtimccbilkjjakaaDoor
open Go.RowKit
def tosC (N : Nat) (c : Nat) (l : List Int) : Nat := l.foldl (fun c t => soonC c (if inR (N : Int) t then 0 else 2)) c
theorem tos_ec (N : Nat) (l : List Int) {c : Nat} (h : Ec c) : Ec (tosC N c l) := fold_ec (fun t : Int => if inR (N : Int) t then 0 else 2) l c h
theorem tosC_take {N c q : Nat} {l : List Int} (hq : q < l.length) : tosC N c (l.take (q + 1)) = soonC (tosC N c (l.take q)) (if inR (N : Int) l[q] then 0 else 2) := by
 unfold tosC
 rw [List.take_succ_eq_append_getElem hq, List.foldl_append]
 rfl
theorem ashIn_ways {k : List UInt8} {e : Bool} : ∀ l : List Ash, (∀ s ∈ l, s.ways ≤ 2) → (ashIn l k e).ways ≤ 2
 | [], _ => Nat.zero_le _
 | s :: r, h => by
  unfold ashIn
  split
  ·exact h s List.mem_cons_self
  ·exact ashIn_ways r (fun t ht => h t (List.mem_cons_of_mem _ ht))
theorem ash_ways (k : List UInt8) (e : Bool) : (ash k e).ways ≤ 2 := ashIn_ways ashL (by decide)
set_option maxRecDepth 100000 in
set_option maxHeartbeats 8000000 in
theorem checkEnd_any {w : World} {a : Nat → Addr} (hS : Sents w a) (hT : TabA w) (nm : List UInt8) (P S : Int) (ba : Option Addr) (N bc : Nat) (hN : N ≤ 100000) (b : Lb) (iv : Value) (hiv : ∃ x n c, iv = .slice x n c) (ta : Option Addr) (tc : Nat) (hl : b.tos.length ≤ 100000) (hto : XRow (InH w) w (.slice ta b.tos.length tc) b.tos.length (intsG b.tos)) :
  Calls Tryd.prog 34 #[.agg (lcV nm P S (.slice ba N bc)), .agg #[iv, .string ⟨b.fin.toArray⟩, .int .i64 b.a, .slice ta b.tos.length tc]] w fun e w' => e = .returned (errA a (endC onesE twosE P S N b)) ∧ Below w.heap.size w w' := by
 obtain ⟨ia, il, ic, rfl⟩ := hiv
 obtain ⟨bi, fin, A, tos⟩ := b
 dsimp only at hl hto ⊢
 obtain ⟨W0, hW0⟩ : ∃ W0, W0 = (w.alloc (.cells (lcV nm P S (.slice ba N bc)) 31)).alloc (.cells #[.slice ia il ic, .string ⟨fin.toArray⟩, .int .i64 A, .slice ta tos.length tc] 55) := ⟨_, rfl⟩
 have hb0 : Below w.heap.size w W0 := by rw [hW0]; (repeat (first | exact Below.refl _ _ | assumption | refine Below.drew ?_ | refine bT ?_ _ | refine bS ?_ _ | refine bA ?_ _))
 have hc0 : W0.heap[w.heap.size]? = some (.cells (lcV nm P S (.slice ba N bc)) 31 (0, 0)) := by rw [hW0]; exact (Below.heap_alloc (w.alloc _) _ _ (by simp)).trans (heap_alloc_new w _)
 have hx0 : W0.heap[w.heap.size + 1]? = some (.cells #[.slice ia il ic, .string ⟨fin.toArray⟩, .int .i64 A, .slice ta tos.length tc] 55 (0, 0)) := by
  rw [hW0]
  have := heap_alloc_new (w.alloc (.cells (lcV nm P S (.slice ba N bc)) 31)) (.cells #[.slice ia il ic, .string ⟨fin.toArray⟩, .int .i64 A, .slice ta tos.length tc] 55)
  simpa using this
 have HC := hidX (fun (Y : World) (hY : Below W0.heap.size W0 Y) => (show (Y.cell? ⟨w.heap.size, 0, none⟩ = some (.string ⟨nm.toArray⟩) ∧ Y.cell? ⟨w.heap.size, 1, none⟩ = some (.int .i64 P) ∧ Y.cell? ⟨w.heap.size, 2, none⟩ = some (.int .i64 S) ∧ Y.cell? ⟨w.heap.size, 3, none⟩ = some (.slice ba N bc)) ∧ (Y.cell? ⟨w.heap.size + 1, 1, none⟩ = some (.string ⟨fin.toArray⟩) ∧ Y.cell? ⟨w.heap.size + 1, 2, none⟩ = some (.int .i64 A) ∧ Y.cell? ⟨w.heap.size + 1, 3, none⟩ = some (.slice ta tos.length tc)) from by
  have h0 := (hY.block _ (heap_lt hc0)).trans hc0
  have h1 := (hY.block _ (heap_lt hx0)).trans hx0
  exact ⟨⟨cell_of_blk h0 0, cell_of_blk h0 1, cell_of_blk h0 2, cell_of_blk h0 3⟩, ⟨cell_of_blk h1 1, cell_of_blk h1 2, cell_of_blk h1 3⟩⟩))
 have HS := hidX (fun (Y : World) (hY : Below W0.heap.size W0 Y) => hS.below (bl_trans hb0 hb0.size hY))
 have HSH := hidX (shapeOf_any fin true W0 (hT.below hb0))
 have HTO := hidX (fun (Y : World) (hY : Below W0.heap.size W0 Y) => (show XRow (InH Y) Y (.slice ta tos.length tc) tos.length (intsG tos) from hto.imp (inH_up (bl_trans hb0 hb0.size hY)) (keepH (bl_trans hb0 hb0.size hY))))
 have HB0 := hidX hb0
 have hl' : (tos.length : Int) ≤ 100000 := by omega
 have hN' : (N : Int) ≤ 100000 := by omega
 obtain ⟨s, hs⟩ : ∃ s, s = ash fin true := ⟨_, rfl⟩
 have HE := hidX (show endC onesE twosE P S N ⟨bi, fin, A, tos⟩ = soonC (tosC N (lowC onesE twosE P S (lEnd ⟨bi, fin, A, tos⟩) s) tos) (if tos.length = s.ways then 0 else 3) from by rw [hs]; rfl)
 rw [← hs] at HSH
 have hw2 : (s.ways : Int) ≤ 2 := by have := ash_ways fin true; rw [hs]; omega
 obtain ⟨⟨k0, k1, k2, k3⟩, ⟨x1, x2, x3⟩⟩ := HC.out W0 (Below.refl _ _)
 clear hS hT hto hc0 hx0 hb0 hl hN hs
 go_enter Tryd.func34, Tryd.ntmps34
 go_wp2_with fail
 rw [← hW0]
 clear hW0
 refine HSH.out.mono ?_
 rintro e W1 ⟨rfl, hb1⟩
 have HB1 := hidX hb1
 clear hb1 k0 k1 k2 k3 x1 x2 x3
 obtain ⟨sk, sd, sa, sbb, sn, sm, sf, sw⟩ := s
 dsimp only at hw2
 obtain ⟨W2, hW2⟩ : ∃ W2, W2 = W1.alloc (.cells #[.string ⟨sk.toArray⟩, .bool sd, .bool sa, .bool sbb, .bool sn, .bool sm, .bool sf, .int .i64 (sw : Int)] 97) := ⟨_, rfl⟩
 have hb2 : Below W1.heap.size W1 W2 := by rw [hW2]; (repeat (first | exact Below.refl _ _ | assumption | refine Below.drew ?_ | refine bT ?_ _ | refine bS ?_ _ | refine bA ?_ _))
 have hs2 : W2.heap[W1.heap.size]? = some (.cells #[.string ⟨sk.toArray⟩, .bool sd, .bool sa, .bool sbb, .bool sn, .bool sm, .bool sf, .int .i64 (sw : Int)] 97 (0, 0)) := by rw [hW2]; exact heap_alloc_new _ _
 have HB2 := hidX (bl_trans HB1.out HB1.out.size hb2)
 have HS2 := hidX (fun (Y : World) (hY : Below W2.heap.size W2 Y) => (show Y.heap[W1.heap.size]? = _ from (hY.block _ (heap_lt hs2)).trans hs2))
 go_upto_region 2 with fail
 rw [← hW2]
 obtain ⟨⟨k0, k1, k2, k3⟩, ⟨x1, x2, x3⟩⟩ := HC.out W2 HB2.out
 have s0 : W2.cell? ⟨W1.heap.size, 0, none⟩ = some (.string ⟨sk.toArray⟩) := cell_of_blk hs2 0
 have s1 : W2.cell? ⟨W1.heap.size, 1, none⟩ = some (.bool sd) := cell_of_blk hs2 1
 have s2 : W2.cell? ⟨W1.heap.size, 2, none⟩ = some (.bool sa) := cell_of_blk hs2 2
 have s3 : W2.cell? ⟨W1.heap.size, 3, none⟩ = some (.bool sbb) := cell_of_blk hs2 3
 have s4 : W2.cell? ⟨W1.heap.size, 4, none⟩ = some (.bool sn) := cell_of_blk hs2 4
 have s5 : W2.cell? ⟨W1.heap.size, 5, none⟩ = some (.bool sm) := cell_of_blk hs2 5
 have s6 : W2.cell? ⟨W1.heap.size, 6, none⟩ = some (.bool sf) := cell_of_blk hs2 6
 have s7 : W2.cell? ⟨W1.heap.size, 7, none⟩ = some (.int .i64 (sw : Int)) := cell_of_blk hs2 7
 clear hW2 hb2 hs2
 obtain ⟨c0, hc0⟩ : ∃ c0, c0 = lowC onesE twosE P S (lEnd ⟨bi, fin, A, tos⟩) ⟨sk, sd, sa, sbb, sn, sm, sf, sw⟩ := ⟨_, rfl⟩
 have hec : Ec c0 := by rw [hc0]; exact lowC_ec _ _ _ _ _ _
 have HLO := hidX (checkLow_any (HS.out W2 HB2.out) nm P S (.slice ba N bc) ⟨_, _, _, rfl⟩ (lEnd ⟨bi, fin, A, tos⟩) ⟨sk, sd, sa, sbb, sn, sm, sf, sw⟩)
 rw [← hc0] at HE HLO
 have HEC := hidX hec
 clear hc0 hec
 go_wp2_with fail
 refine HLO.out.mono ?_
 rintro e W3 ⟨rfl, hb3⟩
 have HB3 := hidX (bl_trans HB2.out HB2.out.size hb3)
 have HB23 := hidX hb3
 clear hb3 k0 k1 k2 k3 x1 x2 x3 s0 s1 s2 s3 s4 s5 s6 s7
 obtain ⟨⟨k0, k1, k2, k3⟩, ⟨x1, x2, x3⟩⟩ := HC.out W3 HB3.out
 go_wp2_with fail
 go_loopw [6, 8, 23] (fun v6 v8 v23 wr => ∃ (q : Nat) (u8 : Value), v6 = errA a (tosC N c0 (tos.take q)) ∧ v8 = u8 ∧ v23 = .int .i64 (q : Int) ∧ q ≤ tos.length ∧ Hid (Below W3.heap.size W3 wr)) (fun _ _ v23 _ => tos.length - (intOf v23).toNat)
 case atStart => exact ⟨0, _, rfl, rfl, rfl, by omega, hidX (Below.refl _ _)⟩
 case round =>
  obtain ⟨q, u8, rfl, rfl, rfl, hq, HB⟩ := hrel
  have hbr := bl_trans HB3.out HB3.out.size HB.out
  obtain ⟨⟨k0, k1, k2, k3⟩, ⟨x1, x2, x3⟩⟩ := HC.out wr hbr
  by_cases hlt : q < tos.length
  ·have hlt' : (q : Int) < (tos.length : Int) := by omega
   obtain ⟨ga, oa, rfl, hga, ka⟩ := (HTO.out wr hbr).int hlt
   have HTK := hidX (tosC_take (N := N) (c := c0) hlt)
   have hg1 : wr.cell? ⟨3, 0, none⟩ = some (sentV (a 1)) := (HS.out wr hbr).glob 1 (by omega)
   have HSO := hidX (sooner_any (HS.out wr hbr) (tos_ec N (tos.take q) HEC.out) (show Ec 2 from Or.inr (Or.inl rfl)))
   have HZ := hidX (soon_zero (tos_ec N (tos.take q) HEC.out))
   generalize tos[q] = t at ka HTK
   generalize tosC N c0 (tos.take q) = cq at HTK HSO HZ
   by_cases h0 : t < 0
   ·have HR := hidX (HTK.out.trans (by rw [show inR (N : Int) t = false from by unfold inR; simp; omega]; rfl : _ = soonC cq 2))
    go_wp2_with fail
    refine HSO.out.mono ?_
    rintro e w5 ⟨rfl, hb5⟩
    have HB5 := hidX (bl_trans HB.out HB.out.size hb5)
    clear hb5 k0 k1 k2 k3 x1 x2 x3 ka hg1
    go_wp2
    go_roundw
    case rel => exact ⟨q + 1, _, by rw [HR.out], rfl, by go_num, by omega, HB5⟩
    all_goals (simp [intOf]; omega)
   ·by_cases h1 : (N : Int) ≤ t
    ·have HR := hidX (HTK.out.trans (by rw [show inR (N : Int) t = false from by unfold inR; simp; omega]; rfl : _ = soonC cq 2))
     go_wp2_with fail
     refine HSO.out.mono ?_
     rintro e w5 ⟨rfl, hb5⟩
     have HB5 := hidX (bl_trans HB.out HB.out.size hb5)
     clear hb5 k0 k1 k2 k3 x1 x2 x3 ka hg1
     go_wp2
     go_roundw
     case rel => exact ⟨q + 1, _, by rw [HR.out], rfl, by go_num, by omega, HB5⟩
     all_goals (simp [intOf]; omega)
    ·have HR := hidX (HTK.out.trans ((by rw [show inR (N : Int) t = true from by unfold inR; simp; omega]; rfl : _ = soonC cq 0).trans HZ.out))
     go_wp2
     go_roundw
     case rel => exact ⟨q + 1, _, by rw [HR.out], rfl, by go_num, by omega, HB⟩
     all_goals (simp [intOf]; omega)
  ·have hqe : q = tos.length := by omega
   subst hqe
   have hnlt : ¬ ((tos.length : Int) < (tos.length : Int)) := by omega
   rw [List.take_length]
   have s7 : wr.cell? ⟨W1.heap.size, 7, none⟩ = some (.int .i64 (sw : Int)) := cell_of_blk (HS2.out wr (bl_trans HB23.out HB23.out.size HB.out)) 7
   have hg2 : wr.cell? ⟨1, 0, none⟩ = some (sentV (a 2)) := (HS.out wr hbr).glob 2 (by omega)
   have HSO := hidX (sooner_any (HS.out wr hbr) (tos_ec N tos HEC.out) (show Ec 3 from Or.inr (Or.inr (Or.inl rfl))))
   have HZ := hidX (soon_zero (tos_ec N tos HEC.out))
   generalize tosC N c0 tos = cq at HE HSO HZ
   have HBR := hidX hbr
   clear hlt hq hbr
   by_cases hw : tos.length = sw
   ·have hw3 : ((tos.length : Int) == (sw : Int)) = true := by rw [hw]; simp
    have HR := hidX (HE.out.trans (by rw [if_pos hw, HZ.out]))
    clear hw
    go_wp2
    go_ret
    rw [HR.out]
    exact ⟨rfl, bl_trans HB0.out HB0.out.size HBR.out⟩
   ·have hw3 : ((tos.length : Int) == (sw : Int)) = false := by rw [beq_eq_false_iff_ne]; omega
    have HR := hidX (HE.out.trans (by rw [if_neg hw]))
    clear hw
    go_wp2_with fail
    refine HSO.out.mono ?_
    rintro e w5 ⟨rfl, hb5⟩
    have HB5 := hidX (bl_trans HBR.out HBR.out.size hb5)
    clear hb5 k0 k1 k2 k3 x1 x2 x3 s7 hg2
    go_wp2
    go_ret
    rw [HR.out]
    exact ⟨rfl, bl_trans HB0.out HB0.out.size HB5.out⟩
end Go.Proofs.YtimccbilkjjakaaDoor
namespace Go.Proofs.YtimccbilkjjakaaDoor
open Go.RowKit
def insC (P S : Int) (c : Nat) (l : List Li) : Nat := l.foldl (fun c x => soonC c (lowC onesE twosE P S x (ash x.kind false))) c
theorem ins_ec (P S : Int) (l : List Li) {c : Nat} (h : Ec c) : Ec (insC P S c l) := fold_ec (fun x => lowC onesE twosE P S x (ash x.kind false)) l c h
theorem insC_take {P S : Int} {c q : Nat} {l : List Li} (hq : q < l.length) : insC P S c (l.take (q + 1)) = soonC (insC P S c (l.take q)) (lowC onesE twosE P S l[q] (ash l[q].kind false)) := by
 unfold insC
 rw [List.take_succ_eq_append_getElem hq, List.foldl_append]
 rfl
set_option maxRecDepth 100000 in
set_option maxHeartbeats 8000000 in
theorem checkBlock_any {w : World} {a : Nat → Addr} (hS : Sents w a) (hT : TabA w) (nm : List UInt8) (P S : Int) (ba : Option Addr) (N bc : Nat) (hN : N ≤ 100000) (b : Lb) (ia : Option Addr) (ic : Nat) (hil : b.ins.length ≤ 100000) (hin : XLs (InH w) w (.slice ia b.ins.length ic) b.ins) (ta : Option Addr) (tc : Nat) (hl : b.tos.length ≤ 100000) (hto : XRow (InH w) w (.slice ta b.tos.length tc) b.tos.length (intsG b.tos)) :
  Calls Tryd.prog 21 #[.agg (lcV nm P S (.slice ba N bc)), .agg #[.slice ia b.ins.length ic, .string ⟨b.fin.toArray⟩, .int .i64 b.a, .slice ta b.tos.length tc]] w fun e w' => e = .returned (errA a (blkC onesE twosE P S N b)) ∧ Below w.heap.size w w' := by
 obtain ⟨W0, hW0⟩ : ∃ W0, W0 = (w.alloc (.cells (lcV nm P S (.slice ba N bc)) 31)).alloc (.cells #[.slice ia b.ins.length ic, .string ⟨b.fin.toArray⟩, .int .i64 b.a, .slice ta b.tos.length tc] 55) := ⟨_, rfl⟩
 have hb0 : Below w.heap.size w W0 := by rw [hW0]; (repeat (first | exact Below.refl _ _ | assumption | refine Below.drew ?_ | refine bT ?_ _ | refine bS ?_ _ | refine bA ?_ _))
 have hc0 : W0.heap[w.heap.size]? = some (.cells (lcV nm P S (.slice ba N bc)) 31 (0, 0)) := by rw [hW0]; exact (Below.heap_alloc (w.alloc _) _ _ (by simp)).trans (heap_alloc_new w _)
 have hx0 : W0.heap[w.heap.size + 1]? = some (.cells #[.slice ia b.ins.length ic, .string ⟨b.fin.toArray⟩, .int .i64 b.a, .slice ta b.tos.length tc] 55 (0, 0)) := by
  rw [hW0]
  have := heap_alloc_new (w.alloc (.cells (lcV nm P S (.slice ba N bc)) 31)) (.cells #[.slice ia b.ins.length ic, .string ⟨b.fin.toArray⟩, .int .i64 b.a, .slice ta b.tos.length tc] 55)
  simpa using this
 have HC := hidX (fun (Y : World) (hY : Below W0.heap.size W0 Y) => (show (Y.cell? ⟨w.heap.size, 0, none⟩ = some (.string ⟨nm.toArray⟩) ∧ Y.cell? ⟨w.heap.size, 1, none⟩ = some (.int .i64 P) ∧ Y.cell? ⟨w.heap.size, 2, none⟩ = some (.int .i64 S) ∧ Y.cell? ⟨w.heap.size, 3, none⟩ = some (.slice ba N bc)) ∧ (Y.cell? ⟨w.heap.size + 1, 0, none⟩ = some (.slice ia b.ins.length ic) ∧ Y.cell? ⟨w.heap.size + 1, 1, none⟩ = some (.string ⟨b.fin.toArray⟩) ∧ Y.cell? ⟨w.heap.size + 1, 2, none⟩ = some (.int .i64 b.a) ∧ Y.cell? ⟨w.heap.size + 1, 3, none⟩ = some (.slice ta b.tos.length tc)) from by
  have h0 := (hY.block _ (heap_lt hc0)).trans hc0
  have h1 := (hY.block _ (heap_lt hx0)).trans hx0
  exact ⟨⟨cell_of_blk h0 0, cell_of_blk h0 1, cell_of_blk h0 2, cell_of_blk h0 3⟩, ⟨cell_of_blk h1 0, cell_of_blk h1 1, cell_of_blk h1 2, cell_of_blk h1 3⟩⟩))
 have HS := hidX (fun (Y : World) (hY : Below W0.heap.size W0 Y) => hS.below (bl_trans hb0 hb0.size hY))
 have HT := hidX (fun (Y : World) (hY : Below W0.heap.size W0 Y) => hT.below (bl_trans hb0 hb0.size hY))
 have HCE := hidX (checkEnd_any (hS.below hb0) (hT.below hb0) nm P S ba N bc hN b (.slice ia b.ins.length ic) ⟨_, _, _, rfl⟩ ta tc hl (hto.imp (inH_up hb0) (keepH hb0)))
 have HIN := hidX (fun (Y : World) (hY : Below W0.heap.size W0 Y) => (show XLs (InH Y) Y (.slice ia b.ins.length ic) b.ins from hin.imp (inH_up (bl_trans hb0 hb0.size hY)) (keepH (bl_trans hb0 hb0.size hY))))
 have HB0 := hidX hb0
 have hil' : (b.ins.length : Int) ≤ 100000 := by omega
 obtain ⟨c0, hc0e⟩ : ∃ c0, c0 = endC onesE twosE P S N b := ⟨_, rfl⟩
 have HE := hidX (show blkC onesE twosE P S N b = insC P S c0 b.ins from by rw [hc0e]; rfl)
 have HEC := hidX (show Ec c0 from by rw [hc0e]; exact endC_ec _ _ _ _ _ _)
 rw [← hc0e] at HCE
 obtain ⟨⟨k0, k1, k2, k3⟩, ⟨x0, x1, x2, x3⟩⟩ := HC.out W0 (Below.refl _ _)
 clear hS hT hto hin hc0 hx0 hb0 hl hN hil hc0e
 go_enter Tryd.func21, Tryd.ntmps21
 go_wp2_with fail
 rw [← hW0]
 clear hW0
 refine HCE.out.mono ?_
 rintro e W3 ⟨rfl, hb3⟩
 have HB3 := hidX hb3
 clear hb3 k0 k1 k2 k3 x0 x1 x2 x3
 obtain ⟨⟨k0, k1, k2, k3⟩, ⟨x0, x1, x2, x3⟩⟩ := HC.out W3 HB3.out
 go_wp2_with fail
 go_loopw [5, 7, 14] (fun v5 v7 v14 wr => ∃ (q : Nat) (u7 : Value), v5 = errA a (insC P S c0 (b.ins.take q)) ∧ v7 = u7 ∧ v14 = .int .i64 (q : Int) ∧ q ≤ b.ins.length ∧ Hid (Below W3.heap.size W3 wr)) (fun _ _ v14 _ => b.ins.length - (intOf v14).toNat)
 case atStart => exact ⟨0, _, rfl, rfl, rfl, by omega, hidX (Below.refl _ _)⟩
 case round =>
  obtain ⟨q, u7, rfl, rfl, rfl, hq, HB⟩ := hrel
  have hbr := bl_trans HB3.out HB3.out.size HB.out
  have HBR := hidX hbr
  by_cases hlt : q < b.ins.length
  ·have hlt' : (q : Int) < (b.ins.length : Int) := by omega
   obtain ⟨gi, oi, rfl, hgi, i0, i1, i2, i3, i4, i5⟩ := (HIN.out wr hbr).ins hlt
   have HTK := hidX (insC_take (P := P) (S := S) (c := c0) hlt)
   have HEQ := hidX (ins_ec P S (b.ins.take q) HEC.out)
   generalize b.ins[q] = x at i0 i1 i2 i3 i4 i5 HTK
   obtain ⟨xk, xd, xa, xb, xn, xm⟩ := x
   dsimp only at i0 i1 i2 i3 i4 i5
   generalize insC P S c0 (b.ins.take q) = cq at HTK HEQ
   obtain ⟨W5, hW5⟩ : ∃ W5, W5 = wr.alloc (.cells #[.string ⟨xk.toArray⟩, .int .i64 xd, .int .i64 xa, .int .i64 xb, .int .i64 xn, .string ⟨xm.toArray⟩] 52) := ⟨_, rfl⟩
   have hbw : Below wr.heap.size wr W5 := by rw [hW5]; (repeat (first | exact Below.refl _ _ | assumption | refine Below.drew ?_ | refine bT ?_ _ | refine bS ?_ _ | refine bA ?_ _))
   have hx5 : W5.heap[wr.heap.size]? = some (.cells #[.string ⟨xk.toArray⟩, .int .i64 xd, .int .i64 xa, .int .i64 xb, .int .i64 xn, .string ⟨xm.toArray⟩] 52 (0, 0)) := by rw [hW5]; exact heap_alloc_new _ _
   have HSS := hidX (show ∀ W : World, Below W5.heap.size W5 W → (W.cell? ⟨w.heap.size, 0, none⟩ = some (.string ⟨nm.toArray⟩) ∧ W.cell? ⟨w.heap.size, 1, none⟩ = some (.int .i64 P) ∧ W.cell? ⟨w.heap.size, 2, none⟩ = some (.int .i64 S) ∧ W.cell? ⟨w.heap.size, 3, none⟩ = some (.slice ba N bc)) ∧ (W.cell? ⟨wr.heap.size, 0, none⟩ = some (.string ⟨xk.toArray⟩) ∧ W.cell? ⟨wr.heap.size, 1, none⟩ = some (.int .i64 xd) ∧ W.cell? ⟨wr.heap.size, 2, none⟩ = some (.int .i64 xa) ∧ W.cell? ⟨wr.heap.size, 3, none⟩ = some (.int .i64 xb) ∧ W.cell? ⟨wr.heap.size, 4, none⟩ = some (.int .i64 xn) ∧ W.cell? ⟨wr.heap.size, 5, none⟩ = some (.string ⟨xm.toArray⟩)) from fun W hb => by
    have h1 := (hb.block _ (heap_lt hx5)).trans hx5
    exact ⟨(HC.out W (bl_trans hbr hbr.size (bl_trans hbw hbw.size hb))).1, cell_of_blk h1 0, cell_of_blk h1 1, cell_of_blk h1 2, cell_of_blk h1 3, cell_of_blk h1 4, cell_of_blk h1 5⟩)
   go_upto_region 5 with fail
   rw [← hW5]
   have hbd : Below W5.heap.size W5 W5.drew := by (repeat (first | exact Below.refl _ _ | assumption | refine Below.drew ?_ | refine bT ?_ _ | refine bS ?_ _ | refine bA ?_ _))
   have hbw0 := bl_trans hbw hbw.size hbd
   clear hW5 hx5 i0 i1 i2 i3 i4 i5 hbr hgi
   refine wp_region_V (fun W => (W.cell? ⟨w.heap.size, 0, none⟩ = some (.string ⟨nm.toArray⟩) ∧ W.cell? ⟨w.heap.size, 1, none⟩ = some (.int .i64 P) ∧ W.cell? ⟨w.heap.size, 2, none⟩ = some (.int .i64 S) ∧ W.cell? ⟨w.heap.size, 3, none⟩ = some (.slice ba N bc)) ∧ (W.cell? ⟨wr.heap.size, 0, none⟩ = some (.string ⟨xk.toArray⟩) ∧ W.cell? ⟨wr.heap.size, 1, none⟩ = some (.int .i64 xd) ∧ W.cell? ⟨wr.heap.size, 2, none⟩ = some (.int .i64 xa) ∧ W.cell? ⟨wr.heap.size, 3, none⟩ = some (.int .i64 xb) ∧ W.cell? ⟨wr.heap.size, 4, none⟩ = some (.int .i64 xn) ∧ W.cell? ⟨wr.heap.size, 5, none⟩ = some (.string ⟨xm.toArray⟩))) 8 (by kernel_rfl) (HSS.out _ (by (repeat (first | exact Below.refl _ _ | assumption | refine Below.drew ?_ | refine bT ?_ _ | refine bS ?_ _ | refine bA ?_ _)))) (fun hHeld => ?_)
   refine wpAnyV_any 0 (some 18) (v := ?v0r1) rfl rfl (by kernel_rfl) (by kernel_rfl) (by kernel_rfl) (by kernel_rfl) (fun _ _ _ h => h) (Or.inl ⟨by rfl, ?hy0r1⟩) hHeld ?rest0r1
   case hy0r1 => (intro w2 hSw; (try dsimp only at hSw); first | (go_simp; done) | (go_simp; with_reducible rfl))
   simp only [Act.put, List.setIfInBounds_toArray, List.set_cons_zero, List.set_cons_succ]
   refine wpAnyV_put 1 (some 19) (v := ?v1r1) rfl rfl (by kernel_rfl) (by kernel_rfl) (by kernel_rfl) (by kernel_rfl) (by kernel_rfl) (fun _ _ _ h => h) (Or.inl ⟨by rfl, ?hy1r1⟩) hHeld ?rest1r1
   case hy1r1 => (intro w2 hSw; (try dsimp only at hSw); first | (go_simp; done) | (go_simp; with_reducible rfl))
   simp only [Act.put, List.setIfInBounds_toArray, List.set_cons_zero, List.set_cons_succ]
   refine wpAnyV_put 2 (some 20) (v := ?v2r1) rfl rfl (by kernel_rfl) (by kernel_rfl) (by kernel_rfl) (by kernel_rfl) (by kernel_rfl) (fun _ _ _ h => h) (Or.inl ⟨by rfl, ?hy2r1⟩) hHeld ?rest2r1
   case hy2r1 => (intro w2 hSw; (try dsimp only at hSw); first | (go_simp; done) | (go_simp; with_reducible rfl))
   simp only [Act.put, List.setIfInBounds_toArray, List.set_cons_zero, List.set_cons_succ]
   refine wpAnyV_any 3 (some 21) (v := ?v3r1) rfl rfl (by kernel_rfl) (by kernel_rfl) (by kernel_rfl) (by kernel_rfl) (fun _ _ _ h => h) (Or.inl ⟨by rfl, ?hy3r1⟩) hHeld ?rest3r1
   case hy3r1 => (intro w2 hSw; (try dsimp only at hSw); first | (go_simp; done) | (go_simp; with_reducible rfl))
   simp only [Act.put, List.setIfInBounds_toArray, List.set_cons_zero, List.set_cons_succ]
   refine wpAnyV_put 4 (some 22) (v := ?v4r1) rfl rfl (by kernel_rfl) (by kernel_rfl) (by kernel_rfl) (by kernel_rfl) (by kernel_rfl) (fun _ _ _ h => h) (Or.inl ⟨by rfl, ?hy4r1⟩) hHeld ?rest4r1
   case hy4r1 => (intro w2 hSw; (try dsimp only at hSw); first | (go_simp; done) | (go_simp; with_reducible rfl))
   simp only [Act.put, List.setIfInBounds_toArray, List.set_cons_zero, List.set_cons_succ]
   refine wpAnyV_one (i := 5) (by kernel_rfl) rfl (fun K5 hK5 => ?_)
   go_simp
   refine (shapeOf_any xk false _ (HT.out _ (bl_trans HBR.out HBR.out.size (show Below wr.heap.size wr _ from hbw0)))).mono ?_
   rintro e X1 ⟨rfl, hb1⟩
   have hx1 := bl_trans hbd hbd.size hb1
   have hw1 := bl_trans hbw hbw.size hx1
   have hHeld := HSS.out _ hx1
   refine hK5.out _ _ (fun _ => hHeld) (fun _ => ?_)
   clear hK5 K5
   try simp only [Act.put, List.setIfInBounds_toArray, List.set_cons_zero, List.set_cons_succ]
   refine wpAnyV_one (i := 6) (by kernel_rfl) rfl (fun K6 hK6 => ?_)
   go_simp
   refine (checkLow_any (HS.out _ (bl_trans HBR.out HBR.out.size hw1)) nm P S (.slice ba N bc) ⟨_, _, _, rfl⟩ ⟨xk, xd, xa, xb, xn, xm⟩ (ash xk false)).mono ?_
   rintro e X2 ⟨rfl, hb2⟩
   have hx2 := bl_trans hx1 hx1.size hb2
   have hw2 := bl_trans hbw hbw.size hx2
   have hHeld := HSS.out _ hx2
   refine hK6.out _ _ (fun _ => hHeld) (fun _ => ?_)
   clear hK6 K6
   try simp only [Act.put, List.setIfInBounds_toArray, List.set_cons_zero, List.set_cons_succ]
   refine wpAnyV_one (i := 7) (by kernel_rfl) rfl (fun K7 hK7 => ?_)
   go_simp
   refine (sooner_any (HS.out _ (bl_trans HBR.out HBR.out.size hw2)) HEQ.out (lowC_ec onesE twosE P S ⟨xk, xd, xa, xb, xn, xm⟩ (ash xk false))).mono ?_
   rintro e X3 ⟨rfl, hb3⟩
   have hx3 := bl_trans hx2 hx2.size hb3
   have hw3 := bl_trans hbw hbw.size hx3
   have hHeld := HSS.out _ hx3
   refine hK7.out _ _ (fun _ => hHeld) (fun _ => ?_)
   clear hK7 K7
   try simp only [Act.put, List.setIfInBounds_toArray, List.set_cons_zero, List.set_cons_succ]
   refine wpAnyV_one (i := 8) (by kernel_rfl) rfl (fun K8 hK8 => ?_)
   go_simp
   refine hK8.out _ _ (fun h => absurd rfl h) (fun _ => ?_)
   clear hK8 K8 hHeld
   try simp only [Act.put, List.setIfInBounds_toArray, List.set_cons_zero, List.set_cons_succ]
   refine wpAnyV_done (by kernel_rfl) ?_ _
   have HB5 := hidX (bl_trans HB.out HB.out.size hw3)
   clear hx1 hx2 hx3 hw1 hw2 hw3 hb1 hb2 hb3 hbw hbw0 hbd
   go_wp2
   go_roundw
   case rel => exact ⟨q + 1, _, by rw [HTK.out], rfl, by go_num, by omega, HB5⟩
   all_goals (simp [intOf]; omega)
  ·have hqe : q = b.ins.length := by omega
   have hnlt : ¬ ((q : Int) < (b.ins.length : Int)) := by omega
   have HQ := hidX hqe
   clear hlt hq hqe hbr
   go_wp2
   go_ret
   rw [HE.out, HQ.out, List.take_length]
   exact ⟨rfl, bl_trans HB0.out HB0.out.size HBR.out⟩
end Go.Proofs.YtimccbilkjjakaaDoor
namespace Go.Proofs.YtimccbilkjjakaaDoor
open Go.RowKit
theorem lowFrom_step {P S : Int} {N q : Nat} {L : List Lb} (hq : q < L.length) : lowFrom onesE twosE P S N q (L.drop q) = if blkC onesE twosE P S N L[q] = 0 then lowFrom onesE twosE P S N (q + 1) (L.drop (q + 1)) else (blkC onesE twosE P S N L[q], (q : Int)) := by
 rw [List.drop_eq_getElem_cons hq, lowFrom]
set_option maxRecDepth 100000 in
set_option maxHeartbeats 8000000 in
theorem alCheck_any {w : World} {a : Nat → Addr} (hS : Sents w a) (hT : TabA w) (nm : List UInt8) (P S : Int) (L : List Lb) (hL : L.length ≤ 100000) (hlow : ∀ b ∈ L, b.ins.length ≤ 100000 ∧ b.tos.length ≤ 100000) (ba : Option Addr) (bc : Nat) (hX : XLC (InH w) w (.slice ba L.length bc) L) :
  Calls Tryd.prog 10 #[.agg (lcV nm P S (.slice ba L.length bc))] w (FtTo w a (lowF onesE twosE P S L)) := by
 obtain ⟨W0, hW0⟩ : ∃ W0, W0 = w.alloc (.cells (lcV nm P S (.slice ba L.length bc)) 31) := ⟨_, rfl⟩
 have hb0 : Below w.heap.size w W0 := by rw [hW0]; (repeat (first | exact Below.refl _ _ | assumption | refine Below.drew ?_ | refine bT ?_ _ | refine bS ?_ _ | refine bA ?_ _))
 have hc0 : W0.heap[w.heap.size]? = some (.cells (lcV nm P S (.slice ba L.length bc)) 31 (0, 0)) := by rw [hW0]; exact heap_alloc_new _ _
 have HC := hidX (fun (Y : World) (hY : Below W0.heap.size W0 Y) => (show Y.cell? ⟨w.heap.size, 0, none⟩ = some (.string ⟨nm.toArray⟩) ∧ Y.cell? ⟨w.heap.size, 1, none⟩ = some (.int .i64 P) ∧ Y.cell? ⟨w.heap.size, 2, none⟩ = some (.int .i64 S) ∧ Y.cell? ⟨w.heap.size, 3, none⟩ = some (.slice ba L.length bc) from by
  have h0 := (hY.block _ (heap_lt hc0)).trans hc0
  exact ⟨cell_of_blk h0 0, cell_of_blk h0 1, cell_of_blk h0 2, cell_of_blk h0 3⟩))
 have HS := hidX (fun (Y : World) (hY : Below W0.heap.size W0 Y) => hS.below (bl_trans hb0 hb0.size hY))
 have HT := hidX (fun (Y : World) (hY : Below W0.heap.size W0 Y) => hT.below (bl_trans hb0 hb0.size hY))
 have HX := hidX (fun (Y : World) (hY : Below W0.heap.size W0 Y) => (show XLC (InH Y) Y (.slice ba L.length bc) L from hX.imp (inH_up (bl_trans hb0 hb0.size hY)) (keepH (bl_trans hb0 hb0.size hY))))
 have g7 : W0.cell? ⟨0, 0, none⟩ = some (sentV (a 7)) := (hS.below hb0).glob 7 (by omega)
 have g2 : W0.cell? ⟨1, 0, none⟩ = some (sentV (a 2)) := (hS.below hb0).glob 2 (by omega)
 have g8 : W0.cell? ⟨2, 0, none⟩ = some (sentV (a 8)) := (hS.below hb0).glob 8 (by omega)
 have g1 : W0.cell? ⟨3, 0, none⟩ = some (sentV (a 1)) := (hS.below hb0).glob 1 (by omega)
 have HB0 := hidX hb0
 have HLW := hidX hlow
 have HLL := hidX hL
 have hL' : (L.length : Int) ≤ 100000 := by omega
 obtain ⟨k0, k1, k2, k3⟩ := HC.out W0 (Below.refl _ _)
 obtain ⟨r, hr⟩ : ∃ r, r = lowF onesE twosE P S L := ⟨_, rfl⟩
 rw [← hr]
 unfold lowF at hr
 have HR := hidX hr
 clear hS hT hX hc0 hb0 hlow hL hr
 by_cases h1 : 3000 < L.length
 ·have h1' : (3000 : Int) < (L.length : Int) := by omega
  have HE := hidX (HR.out.trans (if_pos h1))
  clear h1 HR
  go_enter Tryd.func10, Tryd.ntmps10
  go_upto_region 1 with fail
  rw [← hW0]
  clear hW0
  go_wp2
  go_ret
  rw [HE.out]
  exact ft_bare (by decide) rfl HB0.out rfl
 have h1' : ¬ (3000 : Int) < (L.length : Int) := by omega
 by_cases h2 : L.length = 0
 ·have h2' : ((L.length : Int) == 0) = true := by rw [h2]; rfl
  have HE := hidX (HR.out.trans ((if_neg h1).trans (if_pos h2)))
  clear h1 h2 HR
  go_enter Tryd.func10, Tryd.ntmps10
  go_upto_region 1 with fail
  rw [← hW0]
  clear hW0
  go_wp2
  go_ret
  rw [HE.out]
  exact ft_bare (by decide) rfl HB0.out rfl
 have h2' : ((L.length : Int) == 0) = false := by rw [beq_eq_false_iff_ne]; omega
 by_cases h3 : P < 0 ∨ 4 < P
 ·have HE := hidX (HR.out.trans ((if_neg h1).trans ((if_neg h2).trans (if_pos h3))))
  clear h1 h2 HR
  rcases Decidable.em (P < 0) with h4 | h4
  ·clear h3
   go_enter Tryd.func10, Tryd.ntmps10
   go_upto_region 1 with fail
   rw [← hW0]
   clear hW0
   go_wp2
   go_ret
   rw [HE.out]
   exact ft_bare (by decide) rfl HB0.out rfl
  ·have h5 : 4 < P := by omega
   clear h3
   go_enter Tryd.func10, Tryd.ntmps10
   go_upto_region 1 with fail
   rw [← hW0]
   clear hW0
   go_wp2
   go_ret
   rw [HE.out]
   exact ft_bare (by decide) rfl HB0.out rfl
 have h3a : ¬ P < 0 := by omega
 have h3b : ¬ 4 < P := by omega
 by_cases h4 : S < 0 ∨ 1000 < S
 ·have HE := hidX (HR.out.trans ((if_neg h1).trans ((if_neg h2).trans ((if_neg h3).trans (if_pos h4)))))
  clear h1 h2 h3 HR
  rcases Decidable.em (S < 0) with h5 | h5
  ·clear h4
   go_enter Tryd.func10, Tryd.ntmps10
   go_upto_region 1 with fail
   rw [← hW0]
   clear hW0
   go_wp2
   go_ret
   rw [HE.out]
   exact ft_bare (by decide) rfl HB0.out rfl
  ·have h6 : 1000 < S := by omega
   clear h4
   go_enter Tryd.func10, Tryd.ntmps10
   go_upto_region 1 with fail
   rw [← hW0]
   clear hW0
   go_wp2
   go_ret
   rw [HE.out]
   exact ft_bare (by decide) rfl HB0.out rfl
 have h4a : ¬ S < 0 := by omega
 have h4b : ¬ 1000 < S := by omega
 have HF := hidX (HR.out.trans ((if_neg h1).trans ((if_neg h2).trans ((if_neg h3).trans (if_neg h4)))))
 clear h1 h2 h3 h4 HR g7 g2 g8 g1
 go_enter Tryd.func10, Tryd.ntmps10
 go_upto_region 1 with fail
 rw [← hW0]
 clear hW0
 go_wp2_with fail
 go_loopw [3, 4, 5, 41] (fun v3 v4 v5 v41 wr => ∃ (q : Nat) (u3 u4 u5 : Value), v3 = u3 ∧ v4 = u4 ∧ v5 = u5 ∧ v41 = .int .i64 (q : Int) ∧ q ≤ L.length ∧ Hid (Below W0.heap.size W0 wr) ∧ Hid (r = lowFrom onesE twosE P S L.length q (L.drop q))) (fun _ _ _ v41 _ => L.length - (intOf v41).toNat)
 case atStart => exact ⟨0, _, _, _, rfl, rfl, rfl, rfl, by omega, hidX (Below.refl _ _), HF⟩
 case round =>
  obtain ⟨q, u3, u4, u5, rfl, rfl, rfl, rfl, hq, HB, HRS⟩ := hrel
  by_cases hlt : q < L.length
  ·have hlt' : (q : Int) < (L.length : Int) := by omega
   obtain ⟨gi, oi, ia, ic, ta, tc, rfl, hgi, hin, hto, i0, i1, i2, i3⟩ := (HX.out wr HB.out).blk hlt
   have hlw := HLW.out _ (List.getElem_mem hlt)
   have HST := hidX (HRS.out.trans (lowFrom_step hlt))
   generalize L[q] = b at i0 i1 i2 i3 hin hto hlw HST
   obtain ⟨W5, hW5⟩ : ∃ W5, W5 = wr.alloc (.cells #[.slice ia b.ins.length ic, .string ⟨b.fin.toArray⟩, .int .i64 b.a, .slice ta b.tos.length tc] 55) := ⟨_, rfl⟩
   have hbw : Below wr.heap.size wr W5 := by rw [hW5]; (repeat (first | exact Below.refl _ _ | assumption | refine Below.drew ?_ | refine bT ?_ _ | refine bS ?_ _ | refine bA ?_ _))
   have hx5 : W5.heap[wr.heap.size]? = some (.cells #[.slice ia b.ins.length ic, .string ⟨b.fin.toArray⟩, .int .i64 b.a, .slice ta b.tos.length tc] 55 (0, 0)) := by rw [hW5]; exact heap_alloc_new _ _
   have hb5 := bl_trans HB.out HB.out.size hbw
   have HCB := hidX (checkBlock_any (HS.out W5 hb5) (HT.out W5 hb5) nm P S (some ⟨gi, oi, none⟩) L.length bc HLL.out b ia ic hlw.1 (hin.imp (inH_up hbw) (keepH hbw)) ta tc hlw.2 (hto.imp (inH_up hbw) (keepH hbw)))
   have y0 : W5.cell? ⟨wr.heap.size, 0, none⟩ = some (.slice ia b.ins.length ic) := cell_of_blk hx5 0
   have y1 : W5.cell? ⟨wr.heap.size, 1, none⟩ = some (.string ⟨b.fin.toArray⟩) := cell_of_blk hx5 1
   have y2 : W5.cell? ⟨wr.heap.size, 2, none⟩ = some (.int .i64 b.a) := cell_of_blk hx5 2
   have y3 : W5.cell? ⟨wr.heap.size, 3, none⟩ = some (.slice ta b.tos.length tc) := cell_of_blk hx5 3
   obtain ⟨c0, c1, c2, c3⟩ := HC.out W5 hb5
   have HB5 := hidX hb5
   clear k0 k1 k2 k3
   go_upto_region 12 with fail
   rw [← hW5]
   clear hW5 hbw hx5 hin hto i0 i1 i2 i3 hlw hgi hb5
   go_wp2_with fail
   refine HCB.out.mono ?_
   rintro e W6 ⟨rfl, hb6⟩
   have HB6 := hidX (bl_trans HB5.out HB5.out.size hb6)
   clear hb6 y0 y1 y2 y3 c0 c1 c2 c3
   generalize blkC onesE twosE P S L.length b = cb at HST
   by_cases hz : cb = 0
   ·have hv : errA a cb = .nilIface := if_pos hz
    have HN := hidX (HST.out.trans (if_pos hz))
    clear hz
    rw [hv]
    clear hv
    go_wp2
    go_roundw
    case rel => exact ⟨q + 1, _, _, _, rfl, rfl, rfl, by go_num, by omega, HB6, HN⟩
    all_goals (simp [intOf]; omega)
   ·have hv : errA a cb = sentV (a (cb - 1)) := if_neg hz
    have HN := hidX (HST.out.trans (if_neg hz))
    have HZ := hidX hz
    clear hz
    rw [hv]
    clear hv
    go_wp2
    go_ret
    rw [HN.out]
    have hw6 := bl_trans HB0.out HB0.out.size HB6.out
    exact ft_bad HZ.out (by show (q : Int) ≠ -1; omega) (hw6.alloc hw6.size _) rfl hw6.size (heap_alloc_new _ _)
  ·have hqe : q = L.length := by omega
   have hnlt : ¬ ((q : Int) < (L.length : Int)) := by omega
   have HQ := hidX hqe
   clear hlt hq hqe
   go_wp2
   go_ret
   rw [HRS.out, HQ.out, List.drop_length]
   exact ft_well rfl (bl_trans HB0.out HB0.out.size HB.out) rfl
end Go.Proofs.YtimccbilkjjakaaDoor
