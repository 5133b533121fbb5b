/- Our own: texts joined: GrNew, GrFirst, GrCheck. -/
import Derived.Test.YtlgejjmdanmglaaGreatDoorVGrCount
import Derived.Test.YtlgejjmdanmglaaGreatDoorVGrCirc
import Derived.Test.YtlgejjmdanmglaaGreatDoorVGivTak
import Derived.Test.YtlgejjmdanmglaaGreatDoorVTools
import Derived.Deep.AppendLies
import Derived.OwnWalk
import Derived.Test.YtlgejjmdanmglaaGreatDoorVGrNode
namespace Go.Proofs.YtlgejjmdanmglaaGreatDoor
open Go.RowKit
theorem shape_info : (Tryz.prog.info? 118).map (fun i => (i.zero, i.size, i.bytes)) = some (some (.agg #[.string ⟨#[]⟩, .string ⟨#[]⟩, .string ⟨#[]⟩, .bool false, .bool false, .string ⟨#[]⟩]), 6, 72) := by kernel_rfl
theorem shp_one (s : Shp) : ∀ u ∈ shpC s, u.oneCell' = true := by
 intro u hu
 simp only [shpC, List.mem_cons, List.not_mem_nil, or_false] at hu
 rcases hu with rfl | rfl | rfl | rfl | rfl | rfl <;> rfl
theorem shpsC_snoc {L : List Nd} {q : Nat} (h : q < L.length) : shpsC (L.take (q + 1)) = shpsC (L.take q) ++ shpC (shp L[q].kind) := by
 unfold shpsC
 rw [List.take_succ_eq_append_getElem h, List.flatMap_append]
 simp
structure Ng (w X : World) (b p m : Nat) (nm : List UInt8) (P : Int) (nv sv : Value) (L : List Nd) (q : Nat) : Prop where
 low : Below w.heap.size w X
 box : X.heap[b]? = some (.cells #[.string ⟨nm.toArray⟩, .int .i64 P, nv] 29 (0, 0))
 blk : X.heap[p]? = some (.cells #[.string ⟨nm.toArray⟩, .int .i64 P, nv, sv, .map (some m)] 116 (0, 0))
 own : X.ownsRow (p + 1) 118 6 sv q (shpsC (L.take q))
 cnt : CntAt X m []
 ord : w.heap.size ≤ b ∧ b < m ∧ m < p
theorem Ng.below {w X Y : World} {b p m : Nat} {nm : List UInt8} {P : Int} {nv sv : Value} {L : List Nd} {q : Nat} (h : Ng w X b p m nm P nv sv L q) (hb : Below X.heap.size X Y) : Ng w Y b p m nm P nv sv L q :=
 ⟨bl_trans h.low h.low.size hb, (hb.block b (heap_lt h.box)).trans h.box, (hb.block p (heap_lt h.blk)).trans h.blk, owns_below h.own hb, h.cnt.keep (hb.block m h.cnt.lt), h.ord⟩
theorem Ng.push {w X Y Z : World} {b p m : Nat} {nm : List UInt8} {P : Int} {nv sv sv' : Value} {L : List Nd} {q : Nat} (h : Ng w X b p m nm P nv sv L q) (hq : q < L.length) (hb : Below X.heap.size X Y) (hg : Y.grownBy Z sv.ownBlock) (ho : Z.ownsRow (p + 1) 118 6 sv' (q + 1) (shpsC (L.take q) ++ shpC (shp L[q].kind))) : Ng w (Z.setCell ⟨p, 3, none⟩ sv') b p m nm P nv sv' L (q + 1) := by
 have h' := h.below hb
 have ho1 := h'.ord
 have hne : ∀ k, k ≤ p → some k ≠ sv.ownBlock := fun k hk e => by have := (h'.own.lt k e.symm).1; omega
 have key : ∀ k, k ≤ p → k < Y.heap.size → Z.heap[k]? = Y.heap[k]? := fun k hk hkl => hg.block k hkl (hne k hk)
 refine ⟨?_, ?_, ?_, ?_, ?_, ho1⟩
 ·have hz := h'.low.size
  refine Below.setCell (p := ⟨p, 3, none⟩) ⟨hg.os.trans h'.low.os, hg.tape.trans h'.low.tape, hg.output.trans h'.low.output, Nat.le_trans hz hg.size, fun k hk => (key k (by omega) (by omega)).trans (h'.low.block k hk)⟩ (by show w.heap.size ≤ p; omega) _
 ·rw [Below.heap_setCell _ _ _ _ (by show b ≠ p; omega), key b (by omega) (heap_lt h'.box)]; exact h'.box
 ·have := blk_setCell ((key p (Nat.le_refl _) (heap_lt h'.blk)).trans h'.blk) 3 sv'
  simpa using this
 ·rw [shpsC_snoc hq]
  refine own_same ho fun k hk => Below.heap_setCell _ _ _ _ ?_
  have := (ho.lt k hk).1
  show k ≠ p; omega
 ·refine h'.cnt.keep ?_
  rw [Below.heap_setCell _ _ _ _ (by show m ≠ p; omega), key m (by omega) h'.cnt.lt]
structure Nc (w X : World) (b p m : Nat) (nm : List UInt8) (P : Int) (nv sv : Value) (L : List Nd) (q : Nat) : Prop where
 low : Below w.heap.size w X
 box : X.heap[b]? = some (.cells #[.string ⟨nm.toArray⟩, .int .i64 P, nv] 29 (0, 0))
 blk : X.heap[p]? = some (.cells #[.string ⟨nm.toArray⟩, .int .i64 P, nv, sv, .map (some m)] 116 (0, 0))
 own : X.ownsRow (p + 1) 118 6 sv L.length (shpsC L)
 cnt : CntAt X m (keysL (L.take q))
 ord : w.heap.size ≤ b ∧ b < m ∧ m < p
theorem Nc.but {w X Y : World} {b p m : Nat} {nm : List UInt8} {P : Int} {nv sv : Value} {L : List Nd} {q q' : Nat} (h : Nc w X b p m nm P nv sv L q) (hb : But m X Y) (hc : CntAt Y m (keysL (L.take q'))) : Nc w Y b p m nm P nv sv L q' := by
 have h1 := h.ord
 have hz := h.low.size
 refine ⟨⟨hb.os.trans h.low.os, hb.tape.trans h.low.tape, hb.output.trans h.low.output, Nat.le_trans hz hb.size, fun k hk => (hb.block k (by omega) (by omega)).trans (h.low.block k hk)⟩, (hb.block b (heap_lt h.box) (by omega)).trans h.box, (hb.block p (heap_lt h.blk) (by omega)).trans h.blk, own_same h.own fun k hk => ?_, hc, h.ord⟩
 have := h.own.lt k hk
 exact hb.block k this.2 (by omega)
theorem keysL_snoc {L : List Nd} {q : Nat} (h : q < L.length) : keysL (L.take (q + 1)) = keysL (L.take q) ++ keysN L[q] := by
 unfold keysL
 rw [List.take_succ_eq_append_getElem h, List.flatMap_append]
 simp
set_option maxRecDepth 100000 in
set_option maxHeartbeats 4000000 in
theorem newChecker_any {w : World} {a : Nat → Addr} (hS : Sents w a) (hT : TabG w) (nm : List UInt8) (P : Int) (nv : Value) (L : List Nd) (hL : L.length ≤ 1000) (hlow : ∀ n ∈ L, LowN n) (hG : XG true (InH w) w nv L) :
  Calls Tryz.prog 28 #[.agg #[.string ⟨nm.toArray⟩, .int .i64 P, nv]] w fun e w' => Below w.heap.size w w' ∧ ∃ p m sv, e = .returned (.pointer (some ⟨p, 0, none⟩)) ∧ Ck w' a p m nm P nv sv L := by
 obtain ⟨ad, cap, rfl⟩ := hG.is
 obtain ⟨i0, hi, hz0, hz1, hz2⟩ := info_parts shape_info
 obtain ⟨W0, hW0⟩ : ∃ W0, W0 = ((w.alloc (.cells #[.string ⟨nm.toArray⟩, .int .i64 P, .slice ad L.length cap] 29)).alloc (.map #[] 0)).alloc (.cells #[.string ⟨nm.toArray⟩, .int .i64 P, .slice ad L.length cap, .slice none 0 0, .map (some (w.heap.size + 1))] 116) := ⟨_, rfl⟩
 obtain ⟨t1, t2, t3⟩ := threeG w (.cells #[.string ⟨nm.toArray⟩, .int .i64 P, .slice ad L.length cap] 29) (.map #[] 0) (.cells #[.string ⟨nm.toArray⟩, .int .i64 P, .slice ad L.length cap, .slice none 0 0, .map (some (w.heap.size + 1))] 116)
 rw [← hW0] at t1 t2 t3
 have hN0 : Ng w W0 w.heap.size (w.heap.size + 2) (w.heap.size + 1) nm P (.slice ad L.length cap) (.slice none 0 0) L 0 := by
  refine ⟨by rw [hW0]; (repeat (first | exact Below.refl _ _ | assumption | refine Below.drew ?_ | refine bT ?_ _ | refine bS ?_ _ | refine bA ?_ _)), t1, t3, World.ownsRow_nil _ _ _ _, ?_, by omega, by omega, by omega⟩
  have hm := cnt_made (w.alloc (.cells #[.string ⟨nm.toArray⟩, .int .i64 P, .slice ad L.length cap] 29))
  rw [show (w.alloc (.cells #[.string ⟨nm.toArray⟩, .int .i64 P, .slice ad L.length cap] 29)).heap.size = w.heap.size + 1 by simp] at hm
  refine hm.keep ?_
  rw [hW0]
  exact Below.heap_alloc _ _ _ (by simp)
 have hmm := @run_makeMap Tryz.prog
 have hL' : (L.length : Int) ≤ 1000 := by omega
 have HS := hidX hS
 have HT := hidX hT
 have HG := hidX hG
 have HN0 := hidX hN0
 have HLW := hidX hlow
 have hf : ∀ args w, (callFunc 54 args).run Tryz.prog w = .ok (.enter 54 args) w := enters_of Tryz.func54 (by kernel_rfl) rfl
 have d2 : W0.cell? ⟨w.heap.size, 2, none⟩ = some (.slice ad L.length cap) := cell_of_blk t1 2
 clear hS hT hG hN0 hlow t1 t2 t3
 go_enter Tryz.func28, Tryz.ntmps28
 go_wp2_with fail
 rw [← hW0]
 clear hW0 hmm
 go_loopw [15] (fun vi wr => ∃ (q : Nat) (sq : Value), q ≤ L.length ∧ vi = .int .i64 q ∧ Hid (Ng w wr w.heap.size (w.heap.size + 2) (w.heap.size + 1) nm P (.slice ad L.length cap) sq L q)) (fun vi _ => L.length - (intOf vi).toNat)
 case atStart => exact ⟨0, _, Nat.zero_le _, rfl, HN0.out⟩
 case round =>
  obtain ⟨q, sq, hq, rfl, HNQ⟩ := hrel
  have hsz := HNQ.out.low.size
  by_cases hlt : q < L.length
  ·have hlt' : (q : Int) < (L.length : Int) := by omega
   obtain ⟨g, off, ad1, cap1, e1, hg, _, _, k0, k1, k2, k3⟩ := HG.out.node hlt
   subst e1
   replace k0 := (HNQ.out.low.cell (p := ⟨g, _, none⟩) hg).trans k0
   replace k1 := (HNQ.out.low.cell (p := ⟨g, _, none⟩) hg).trans k1
   replace k2 := (HNQ.out.low.cell (p := ⟨g, _, none⟩) hg).trans k2
   replace k3 := (HNQ.out.low.cell (p := ⟨g, _, none⟩) hg).trans k3
   obtain ⟨sad, scap, rfl⟩ := own_is HNQ.out.own
   obtain ⟨Xq, hXq⟩ : ∃ Xq, Xq = wr.alloc (.cells #[.string ⟨L[q].kind.toArray⟩, .slice ad1 L[q].ins.length cap1, .int .i64 L[q].num, .string ⟨L[q].name.toArray⟩] 55) := ⟨_, rfl⟩
   have hbx : Below wr.heap.size wr Xq := by rw [hXq]; (repeat (first | exact Below.refl _ _ | assumption | refine Below.drew ?_ | refine bT ?_ _ | refine bS ?_ _ | refine bA ?_ _))
   have hzx : Xq.heap.size = wr.heap.size + 1 := by rw [hXq]; simp
   have hnx : Xq.heap[wr.heap.size]? = some (.cells #[.string ⟨L[q].kind.toArray⟩, .slice ad1 L[q].ins.length cap1, .int .i64 L[q].num, .string ⟨L[q].name.toArray⟩] 55 (0, 0)) := by rw [hXq]; exact heap_alloc_new _ _
   have HNX := hidX (HNQ.out.below hbx)
   have p3 : Xq.cell? ⟨w.heap.size + 2, 3, none⟩ = some (.slice sad q scap) := cell_of_blk HNX.out.blk 3
   have n0 : Xq.cell? ⟨wr.heap.size, 0, none⟩ = some (.string ⟨L[q].kind.toArray⟩) := cell_of_blk hnx 0
   have hcall : ∀ Y, Below Xq.heap.size Xq Y → Calls Tryz.prog 54 #[.string ⟨L[q].kind.toArray⟩] Y fun e w' => ∃ v, e = .returned v ∧ (v = shpV (shp L[q].kind) ∧ Below Y.heap.size Y w') := fun Y hY => by
    refine (shapeOf_any L[q].kind Y (HT.out.below (bl_trans HNX.out.low HNX.out.low.size hY))).mono ?_
    rintro e w' ⟨rfl, hb⟩
    exact ⟨_, rfl, rfl, hb⟩
   have HC := hidX hcall
   have hpush : ∀ Y Z ad' cap', Below Xq.heap.size Xq Y → Y.grownBy Z (Value.slice sad q scap).ownBlock → Z.ownsRow (w.heap.size + 2 + 1) 118 6 (.slice ad' (q + 1) cap') (q + 1) (shpsC (L.take q) ++ shpC (shp L[q].kind)) → Ng w (Z.setCell ⟨w.heap.size + 2, 3, none⟩ (.slice ad' (q + 1) cap')) w.heap.size (w.heap.size + 2) (w.heap.size + 1) nm P (.slice (some ⟨g, off, none⟩) L.length cap) (.slice ad' (q + 1) cap') L (q + 1) := fun Y Z ad' cap' h1 h2 h3 => HNX.out.push hlt h1 h2 h3
   have HPU := hidX hpush
   generalize L[q] = n at *
   generalize shp n.kind = s at *
   have hpl : w.heap.size + 2 < Xq.heap.size := heap_lt HNX.out.blk
   have hnl : wr.heap.size < Xq.heap.size := by omega
   have HNXX := hidX hnx
   clear hcall hpush hnx
   go_wp2_with fail
   rw [← hXq]
   clear hXq k0 k1 k2 k3
   have HZX := hidX hzx
   clear hzx d2
   go_region_law (first
    | (refine step_append_lies _ rfl (.tmp 23) (.tmp 27) 114 rfl (w.heap.size + 2 + 1) 118 i0 _ 6 72 Tryz.underlying114 hi hz0 hz1 hz2 rfl (by decide) _ q (shpsC (L.take q)) (by first | (simp [Act.eval]; done) | (simp [Act.eval]; rfl) | (simp [Act.eval, Act.put]; done) | (simp [Act.eval, Act.put]; rfl)) (owns_below HNX.out.own (bX2.alloc bX2.size _)) ⟨_, 0, none⟩ 1 1 (shpC s) (by first | (simp [Act.eval]; done) | (simp [Act.eval]; rfl) | (simp [Act.eval, Act.put]; done) | (simp [Act.eval, Act.put]; rfl)) rfl (World.news_of_block (heap_alloc_new _ _)) (shp_one s) (by decide) (by show q + 1 ≤ 9223372036854775807; omega) (by omega) (by first | omega | (simp; omega)) _ rfl ?_; intro g4 cap4 w4 hown4 hgrow hloc _; have hbY : Below Xq.heap.size Xq (w2.alloc (.cells #[.string ⟨s.kind.toArray⟩, .string ⟨s.ins.toArray⟩, .string ⟨s.more.toArray⟩, .bool s.num, .bool s.name, .string ⟨s.gives.toArray⟩] 118)) := (bX2.alloc bX2.size _); have hp4 : w4.heap[w.heap.size + 2]? = _ := (hgrow.block (w.heap.size + 2) (by first | omega | (simp; omega)) (fun e => absurd (HNX.out.own.lt _ e.symm).1 (by omega))).trans ((hbY.block _ hpl).trans HNX.out.blk); have f3 := free_of_blk hp4 3; have s3 := cell_of_blk hp4 3; have HP4 := hidX hp4; clear hp4)
    | (refine step_call rfl 54 #[.tmp 25] #[9] rfl #[.string ⟨n.kind.toArray⟩] (by first | (simp [Act.eval]; done) | (simp [Act.eval]; rfl) | (simp [Act.eval, Act.put]; done) | (simp [Act.eval, Act.put]; rfl)) hf _ (HC.out _ (by (repeat (first | exact Below.refl _ _ | assumption | refine Below.drew ?_ | refine bT ?_ _ | refine bS ?_ _ | refine bA ?_ _)))) ?_; rintro v2 w2 ⟨rfl, hb2⟩; have bX2 : Below Xq.heap.size Xq w2 := bl_trans (show Below Xq.heap.size Xq _ by (repeat (first | exact Below.refl _ _ | assumption | refine Below.drew ?_ | refine bT ?_ _ | refine bS ?_ _ | refine bA ?_ _))) (by first | exact Nat.le_refl _ | (simp; done) | (simp; omega)) hb2; have kp3 : w2.cell? ⟨w.heap.size + 2, 3, none⟩ = some (.slice sad q scap) := (bX2.cell (p := ⟨w.heap.size + 2, 3, none⟩) hpl).trans p3; have hl2 : w.heap.size + 2 < w2.heap.size := (Nat.lt_of_lt_of_le hpl bX2.size); have hl3 : wr.heap.size < w2.heap.size := (Nat.lt_of_lt_of_le hnl bX2.size); clear hb2))
   all_goals (
    have HFN := hidX (HPU.out _ _ _ _ hbY hgrow hown4)
    clear hown4 hgrow hloc hbY
    go_wp2
    go_roundw
    case rel => exact ⟨q + 1, _, by omega, by go_num, HFN.out⟩
    case measure => simp [intOf]; omega)
  ·have hqn : q = L.length := by omega
   subst hqn
   have hnc : Nc w wr w.heap.size (w.heap.size + 2) (w.heap.size + 1) nm P (.slice ad L.length cap) sq L 0 := by
    have hq := HNQ.out
    refine ⟨hq.low, hq.box, hq.blk, ?_, ?_, hq.ord⟩
    ·have := hq.own; rwa [List.take_length] at this
    ·simpa [keysL] using hq.cnt
   have HNC := hidX hnc
   have e2 : wr.cell? ⟨w.heap.size, 2, none⟩ = some (.slice ad L.length cap) := cell_of_blk hnc.box 2
   clear hnc HNQ HN0 d2
   go_wp2_with fail
   rename World => wo
   go_loopw [35] (fun vi wr => ∃ q : Nat, q ≤ L.length ∧ vi = .int .i64 q ∧ Hid (Nc w wr w.heap.size (w.heap.size + 2) (w.heap.size + 1) nm P (.slice ad L.length cap) sq L q)) (fun vi _ => L.length - (intOf vi).toNat)
   case atStart => exact ⟨0, Nat.zero_le _, rfl, HNC.out⟩
   case round =>
    obtain ⟨q, hq, rfl, HNQ⟩ := hrel
    have hsz := HNQ.out.low.size
    by_cases hlt : q < L.length
    ·have hlt' : (q : Int) < (L.length : Int) := by omega
     obtain ⟨g, off, ad1, cap1, e1, hg, hc1, hr, k0, k1, k2, k3⟩ := HG.out.node hlt
     subst e1
     replace k0 := (HNQ.out.low.cell (p := ⟨g, _, none⟩) hg).trans k0
     replace k1 := (HNQ.out.low.cell (p := ⟨g, _, none⟩) hg).trans k1
     replace k2 := (HNQ.out.low.cell (p := ⟨g, _, none⟩) hg).trans k2
     replace k3 := (HNQ.out.low.cell (p := ⟨g, _, none⟩) hg).trans k3
     obtain ⟨sad, scap, rfl⟩ := own_is HNQ.out.own
     obtain ⟨gs, offs, e2, hgs, j0, j1, j2, j3, j4, j5⟩ := shape_cells (xrow_own HNQ.out.own) hlt
     subst e2
     obtain ⟨Xq, hXq⟩ : ∃ Xq, Xq = wr.alloc (.cells #[.string ⟨L[q].kind.toArray⟩, .slice ad1 L[q].ins.length cap1, .int .i64 L[q].num, .string ⟨L[q].name.toArray⟩] 55) := ⟨_, rfl⟩
     have hbx : Below wr.heap.size wr Xq := by rw [hXq]; (repeat (first | exact Below.refl _ _ | assumption | refine Below.drew ?_ | refine bT ?_ _ | refine bS ?_ _ | refine bA ?_ _))
     have hnx : Xq.heap[wr.heap.size]? = some (.cells #[.string ⟨L[q].kind.toArray⟩, .slice ad1 L[q].ins.length cap1, .int .i64 L[q].num, .string ⟨L[q].name.toArray⟩] 55 (0, 0)) := by rw [hXq]; exact heap_alloc_new _ _
     have hNX := HNQ.out.but (But.of hbx) (HNQ.out.cnt.keep (hbx.block _ HNQ.out.cnt.lt))
     have hlown := HLW.out _ (List.getElem_mem hlt)
     have hkl : (keysL (L.take q)).length ≤ 999000 := by
      have := keys_low (L := L.take q) (fun n hn => HLW.out n (List.mem_of_mem_take hn))
      rw [List.length_take] at this
      omega
     have hcall : ∀ Y, Below Xq.heap.size Xq Y → Calls Tryz.prog 55 #[.pointer (some ⟨w.heap.size + 2, 0, none⟩), ndV L[q] ad1 cap1, shpV (shp L[q].kind)] Y fun e w' => e = .returned (.tuple #[]) ∧ Nc w w' w.heap.size (w.heap.size + 2) (w.heap.size + 1) nm P (.slice (some ⟨g, off, none⟩) L.length cap) (.slice (some ⟨gs, offs, none⟩) L.length scap) L (q + 1) ∧ Below w.heap.size w w' ∧ But (w.heap.size + 1) Xq w' := fun Y hY => by
      have hNY := hNX.but (But.of hY) (hNX.cnt.keep (hY.block _ hNX.cnt.lt))
      have hYs := hNY.low.size
      have hml := hNY.cnt.lt
      refine (count_any Y (w.heap.size + 2) (w.heap.size + 1) _ _ _ _ hNY.blk (keysL (L.take q)) hNY.cnt hkl L[q] hlown ad1 cap1 (hr.imp (fun b (hb : b < w.heap.size) => ⟨by omega, by omega⟩) (keepH hNY.low))).mono ?_
      rintro e w' ⟨rfl, hb, hc⟩
      have hN2 := hNY.but hb (q' := q + 1) (by rw [keysL_snoc hlt]; exact hc)
      exact ⟨rfl, hN2, hN2.low, (But.of hY).trans hb⟩
     have HC := hidX hcall
     have y0 : Xq.cell? ⟨w.heap.size + 2, 3, none⟩ = some (.slice (some ⟨gs, offs, none⟩) L.length scap) := cell_of_blk hNX.blk 3
     have hgs2 : gs < wr.heap.size := hgs.2
     have hgs3 : w.heap.size + 2 + 1 ≤ gs := hgs.1
     replace j0 := (hbx.cell (p := ⟨gs, _, none⟩) hgs2).trans j0
     replace j1 := (hbx.cell (p := ⟨gs, _, none⟩) hgs2).trans j1
     replace j2 := (hbx.cell (p := ⟨gs, _, none⟩) hgs2).trans j2
     replace j3 := (hbx.cell (p := ⟨gs, _, none⟩) hgs2).trans j3
     replace j4 := (hbx.cell (p := ⟨gs, _, none⟩) hgs2).trans j4
     replace j5 := (hbx.cell (p := ⟨gs, _, none⟩) hgs2).trans j5
     have hxz := hbx.size
     have hpx : w.heap.size + 2 < Xq.heap.size := heap_lt hNX.blk
     have hnl := heap_lt hnx
     have hwz : w.heap.size + 2 < wr.heap.size := heap_lt HNQ.out.blk
     have hst := fun X (hX : But (w.heap.size + 1) Xq X) => (show (X.heap[w.heap.size + 2]? = Xq.heap[w.heap.size + 2]?) ∧ (X.heap[wr.heap.size]? = Xq.heap[wr.heap.size]?) ∧ (X.heap[gs]? = Xq.heap[gs]?) from ⟨hX.block _ hpx (by omega), hX.block _ hnl (by omega), hX.block _ (by omega) (by omega)⟩)
     have HST := hidX hst
     have z0 := cell_of_blk hnx 0
     have z1 := cell_of_blk hnx 1
     have z2 := cell_of_blk hnx 2
     have z3 := cell_of_blk hnx 3
     simp only [List.getElem?_toArray, List.getElem?_cons_zero, List.getElem?_cons_succ] at z0 z1 z2 z3
     generalize L[q] = n at *
     generalize shp n.kind = s at *
     have c11 : Xq.cell? ⟨w.heap.size + 2, 3, none⟩ = some (.slice (some ⟨gs, offs, none⟩) L.length scap) ∧ Xq.cell? ⟨wr.heap.size, 0, none⟩ = some (.string ⟨n.kind.toArray⟩) ∧ Xq.cell? ⟨wr.heap.size, 1, none⟩ = some (.slice ad1 n.ins.length cap1) ∧ Xq.cell? ⟨wr.heap.size, 2, none⟩ = some (.int .i64 n.num) ∧ Xq.cell? ⟨wr.heap.size, 3, none⟩ = some (.string ⟨n.name.toArray⟩) ∧ Xq.cell? ⟨gs, offs + q * 6, none⟩ = some (.string ⟨s.kind.toArray⟩) ∧ Xq.cell? ⟨gs, offs + q * 6 + 1, none⟩ = some (.string ⟨s.ins.toArray⟩) ∧ Xq.cell? ⟨gs, offs + q * 6 + 2, none⟩ = some (.string ⟨s.more.toArray⟩) ∧ Xq.cell? ⟨gs, offs + q * 6 + 3, none⟩ = some (.bool s.num) ∧ Xq.cell? ⟨gs, offs + q * 6 + 4, none⟩ = some (.bool s.name) ∧ Xq.cell? ⟨gs, offs + q * 6 + 5, none⟩ = some (.string ⟨s.gives.toArray⟩) := ⟨y0, z0, z1, z2, z3, j0, j1, j2, j3, j4, j5⟩
     have hkeep : ∀ X, But (w.heap.size + 1) Xq X → X.cell? ⟨w.heap.size + 2, 3, none⟩ = some (.slice (some ⟨gs, offs, none⟩) L.length scap) ∧ X.cell? ⟨wr.heap.size, 0, none⟩ = some (.string ⟨n.kind.toArray⟩) ∧ X.cell? ⟨wr.heap.size, 1, none⟩ = some (.slice ad1 n.ins.length cap1) ∧ X.cell? ⟨wr.heap.size, 2, none⟩ = some (.int .i64 n.num) ∧ X.cell? ⟨wr.heap.size, 3, none⟩ = some (.string ⟨n.name.toArray⟩) ∧ X.cell? ⟨gs, offs + q * 6, none⟩ = some (.string ⟨s.kind.toArray⟩) ∧ X.cell? ⟨gs, offs + q * 6 + 1, none⟩ = some (.string ⟨s.ins.toArray⟩) ∧ X.cell? ⟨gs, offs + q * 6 + 2, none⟩ = some (.string ⟨s.more.toArray⟩) ∧ X.cell? ⟨gs, offs + q * 6 + 3, none⟩ = some (.bool s.num) ∧ X.cell? ⟨gs, offs + q * 6 + 4, none⟩ = some (.bool s.name) ∧ X.cell? ⟨gs, offs + q * 6 + 5, none⟩ = some (.string ⟨s.gives.toArray⟩) := fun X hX => by
      obtain ⟨q0, q1, q2⟩ := HST.out X hX
      obtain ⟨x0, x1, x2, x3, x4, x5, x6, x7, x8, x9, x10⟩ := c11
      exact ⟨(World.cell?_of_block (a := ⟨w.heap.size + 2, 3, none⟩) q0).trans x0, (World.cell?_of_block (a := ⟨wr.heap.size, 0, none⟩) q1).trans x1, (World.cell?_of_block (a := ⟨wr.heap.size, 1, none⟩) q1).trans x2, (World.cell?_of_block (a := ⟨wr.heap.size, 2, none⟩) q1).trans x3, (World.cell?_of_block (a := ⟨wr.heap.size, 3, none⟩) q1).trans x4, (World.cell?_of_block (a := ⟨gs, _, none⟩) q2).trans x5, (World.cell?_of_block (a := ⟨gs, _, none⟩) q2).trans x6, (World.cell?_of_block (a := ⟨gs, _, none⟩) q2).trans x7, (World.cell?_of_block (a := ⟨gs, _, none⟩) q2).trans x8, (World.cell?_of_block (a := ⟨gs, _, none⟩) q2).trans x9, (World.cell?_of_block (a := ⟨gs, _, none⟩) q2).trans x10⟩
     have HK := hidX hkeep
     have C11 := hidX c11
     clear hcall hst hnx hNX hr hc1 c11 hkeep
     go_wp2_with fail
     rw [← hXq]
     clear hXq k0 k1 k2 k3
     go_region_held3 (fun W => W.cell? ⟨w.heap.size + 2, 3, none⟩ = some (.slice (some ⟨gs, offs, none⟩) L.length scap) ∧ W.cell? ⟨wr.heap.size, 0, none⟩ = some (.string ⟨n.kind.toArray⟩) ∧ W.cell? ⟨wr.heap.size, 1, none⟩ = some (.slice ad1 n.ins.length cap1) ∧ W.cell? ⟨wr.heap.size, 2, none⟩ = some (.int .i64 n.num) ∧ W.cell? ⟨wr.heap.size, 3, none⟩ = some (.string ⟨n.name.toArray⟩) ∧ W.cell? ⟨gs, offs + q * 6, none⟩ = some (.string ⟨s.kind.toArray⟩) ∧ W.cell? ⟨gs, offs + q * 6 + 1, none⟩ = some (.string ⟨s.ins.toArray⟩) ∧ W.cell? ⟨gs, offs + q * 6 + 2, none⟩ = some (.string ⟨s.more.toArray⟩) ∧ W.cell? ⟨gs, offs + q * 6 + 3, none⟩ = some (.bool s.num) ∧ W.cell? ⟨gs, offs + q * 6 + 4, none⟩ = some (.bool s.name) ∧ W.cell? ⟨gs, offs + q * 6 + 5, none⟩ = some (.string ⟨s.gives.toArray⟩))
      (first | with_reducible exact s9 | exact C11.out)
      (first
       | (go_at_call 55; refine (HC.out _ (by (repeat (first | exact Below.refl _ _ | assumption | refine Below.drew ?_ | refine bT ?_ _ | refine bS ?_ _ | refine bA ?_ _)))).mono ?_; rintro e X9 ⟨rfl, hn9, hb9, hu9⟩; have s9 := HK.out _ hu9; have HN9 := hidX hn9; clear hn9))
     all_goals (
      go_wp2
      go_roundw
      case rel => exact ⟨q + 1, by omega, by go_num, HN9.out⟩
      case measure => simp [intOf]; omega)
    ·have hqn : q = L.length := by omega
     subst hqn
     have hn := HNQ.out
     have hcn := hn.cnt
     rw [List.take_length] at hcn
     have hck : Ck wr a (w.heap.size + 2) (w.heap.size + 1) nm P (.slice ad L.length cap) sq L := ⟨HS.out.below hn.low, hn.blk, HG.out.imp (inH_up hn.low) (keepH hn.low), (xrow_own hn.own).imp (fun b hb => hb.2) (fun _ _ => rfl), hcn, HLW.out, hL⟩
     have HCK := hidX hck
     have HLO := hidX hn.low
     clear hck hn hcn
     go_wp2
     go_ret
     exact ⟨HLO.out, _, _, _, rfl, HCK.out⟩
end Go.Proofs.YtlgejjmdanmglaaGreatDoor
namespace Go.Proofs.YtlgejjmdanmglaaGreatDoor
open Go.RowKit
def firstAll (n : Nat) : List (Nat → Nat) → Nat × Int
 | [] => (0, -1)
 | f :: r => firstOf2 (firstC f n 0) (firstAll n r)
def FtTo (w : World) (a : Nat → Addr) (r : Nat × Int) (e : Ending) (w' : World) : Prop :=
 Below w.heap.size w w' ∧ if r.1 = 0 then e = .returned .nilIface else if r.2 = -1 then e = .returned (sentV (a (r.1 - 1))) else ∃ b, e = .returned (.iface 106 (.pointer (some ⟨b, 0, none⟩))) ∧ w.heap.size ≤ b ∧ w'.heap[b]? = some (.cells #[.int .i64 r.2, sentV (a (r.1 - 1))] 110 (0, 0))
theorem ft_well {w w' : World} {a : Nat → Addr} {r : Nat × Int} {e : Ending} (h : r.1 = 0) (hb : Below w.heap.size w w') (he : e = .returned .nilIface) : FtTo w a r e w' := ⟨hb, by rw [if_pos h]; exact he⟩
theorem ft_bare {w w' : World} {a : Nat → Addr} {r : Nat × Int} {e : Ending} (h : r.1 ≠ 0) (h2 : r.2 = -1) (hb : Below w.heap.size w w') (he : e = .returned (sentV (a (r.1 - 1)))) : FtTo w a r e w' := ⟨hb, by rw [if_neg h, if_pos h2]; exact he⟩
theorem ft_bad {w w' : World} {a : Nat → Addr} {r : Nat × Int} {e : Ending} {b : Nat} (h : r.1 ≠ 0) (h2 : r.2 ≠ -1) (hb : Below w.heap.size w w') (he : e = .returned (.iface 106 (.pointer (some ⟨b, 0, none⟩)))) (hwb : w.heap.size ≤ b) (hx : w'.heap[b]? = some (.cells #[.int .i64 r.2, sentV (a (r.1 - 1))] 110 (0, 0))) : FtTo w a r e w' :=
 ⟨hb, by rw [if_neg h, if_neg h2]; exact ⟨b, he, hwb, hx⟩⟩
theorem firstC_step {f : Nat → Nat} {n q : Nat} (h : q < n) (h0 : f q = 0) : firstC f (n - q) q = firstC f (n - (q + 1)) (q + 1) := by
 rw [show n - q = (n - (q + 1)) + 1 by omega, firstC, if_pos h0]
theorem firstC_hit {f : Nat → Nat} {n q : Nat} (h : q < n) (h0 : f q ≠ 0) : firstC f (n - q) q = (f q, (q : Int)) := by
 rw [show n - q = (n - (q + 1)) + 1 by omega, firstC, if_neg h0]
theorem firstC_end {f : Nat → Nat} {n : Nat} : firstC f (n - n) n = (0, -1) := by rw [Nat.sub_self, firstC]
set_option maxRecDepth 100000 in
set_option maxHeartbeats 1000000 in
theorem firstFault_any (a : Nat → Addr) (cp : Value) (fs : List (FuncId × (Nat → Nat))) (hfs : fs.length ≤ 10) (n : Nat) (hn : n ≤ 1000) (w : World) (g cap : Nat) (hg : g < w.heap.size)
  (hcell : ∀ q (hq : q < fs.length), w.cell? ⟨g, q, none⟩ = some (.func (.func fs[q].1) #[cp] #[]))
  (hent : ∀ q (hq : q < fs.length) args X, (callFunc fs[q].1 args).run Tryz.prog X = .ok (.enter fs[q].1 args) X)
  (hask : ∀ q (hq : q < fs.length), (∀ k (hk : k < q), ∀ j, j < n → (fs[k]'(by omega)).2 j = 0) → ∀ X i, Below w.heap.size w X → i < n → Calls Tryz.prog fs[q].1 #[cp, .int .i64 i] X fun e w' => e = .returned (errG a (fs[q].2 i)) ∧ Below X.heap.size X w') :
  Calls Tryz.prog 29 #[.int .i64 n, .slice (some ⟨g, 0, none⟩) fs.length cap] w (FtTo w a (firstAll n (fs.map (·.2)))) := by
 generalize hres : firstAll n (fs.map (·.2)) = res
 have HRS := hidX hres
 have HC := hidX hcell
 have HA := hidX hask
 have HE := hidX hent
 have hfs' : (fs.length : Int) ≤ 10 := by omega
 have hn' : (n : Int) ≤ 1000 := by omega
 clear hres hcell hask hent
 go_enter Tryz.func29, Tryz.ntmps29
 go_wp2_with fail
 go_loopw [11] (fun vi wr => ∃ q : Nat, q ≤ fs.length ∧ vi = .int .i64 q ∧ Below w.heap.size w wr ∧ Hid (res = firstAll n ((fs.drop q).map (·.2))) ∧ Hid (∀ k (hk : k < q) (hq : q ≤ fs.length), ∀ j, j < n → (fs[k]'(by omega)).2 j = 0)) (fun vi _ => fs.length - (intOf vi).toNat)
 case atStart => exact ⟨0, Nat.zero_le _, rfl, Below.refl _ _, HRS.out.symm, fun k hk => absurd hk (by omega)⟩
 case round =>
  obtain ⟨q, hq, rfl, hbl, HQ, HZ⟩ := hrel
  by_cases hlt : q < fs.length
  ·have hlt' : (q : Int) < (fs.length : Int) := by omega
   have hc : wr.cell? ⟨g, q, none⟩ = some (.func (.func fs[q].1) #[cp] #[]) := (hbl.cell (p := ⟨g, q, none⟩) hg).trans (HC.out q hlt)
   have hk := HA.out q hlt (fun k hk j hj => HZ.out k hk (Nat.le_of_lt hlt) j hj)
   have hz2 := fun (h0 : ∀ j, j < n → fs[q].2 j = 0) (k : Nat) (hk : k < q + 1) (hq2 : q + 1 ≤ fs.length) (j : Nat) (hj : j < n) => show (fs[k]'(by omega)).2 j = 0 from by
    by_cases e : k = q
    ·subst e; exact h0 j hj
    ·exact HZ.out k (by omega) (by omega) j hj
   have hen := HE.out q hlt
   have hd : res = firstOf2 (firstC fs[q].2 n 0) (firstAll n ((fs.drop (q + 1)).map (·.2))) := by
    rw [HQ.out, List.drop_eq_getElem_cons hlt, List.map_cons, firstAll]
   generalize fs[q] = f at hc hk hd hen hz2
   obtain ⟨fi, fc⟩ := f
   simp only at hc hk hd hen hz2
   have HK := hidX hk
   have HD := hidX hd
   have HZ2 := hidX hz2
   clear hk hd hz2
   go_wp2_with fail
   rename World => wo
   go_loopw [16] (fun vi wr => ∃ i : Nat, i ≤ n ∧ vi = .int .i64 i ∧ Below w.heap.size w wr ∧ Hid (firstC fc n 0 = firstC fc (n - i) i)) (fun vi _ => n - (intOf vi).toNat)
   case atStart => exact ⟨0, Nat.zero_le _, rfl, hbl, rfl⟩
   case round =>
    obtain ⟨i, hi, rfl, hbi, HI⟩ := hrel
    by_cases hlti : i < n
    ·have hlti' : (i : Int) < (n : Int) := by omega
     have HKI := hidX (HK.out wr i hbi hlti)
     by_cases h0 : fc i = 0
     ·have HN := hidX (HI.out.trans (firstC_step hlti h0))
      have e0 : errG a (fc i) = .nilIface := by unfold errG; rw [if_pos h0]
      rw [e0] at HKI
      clear e0 h0
      go_wp2_with fail
      refine HKI.out.mono ?_
      rintro e w2 ⟨rfl, hb2⟩
      go_wp2
      go_roundw
      case rel => exact ⟨i + 1, by omega, by go_num, bl_trans hbi hbi.size hb2, HN.out⟩
      case measure => simp [intOf]; omega
     ·have hh : res = (fc i, (i : Int)) := by rw [HD.out, HI.out, firstC_hit hlti h0]; unfold firstOf2; rw [if_neg h0]
      have e0 : errG a (fc i) = sentV (a (fc i - 1)) := by unfold errG; rw [if_neg h0]
      rw [e0] at HKI
      have HH := hidX hh
      clear e0 hh
      go_wp2_with fail
      refine HKI.out.mono ?_
      rintro e w2 ⟨rfl, hb2⟩
      go_wp2
      go_ret
      refine ft_bad (b := w2.heap.size) (by rw [HH.out]; exact h0) (by rw [HH.out]; show (i : Int) ≠ -1; omega) (by have hq2 := bl_trans hbi hbi.size hb2; have hq3 := hq2.size; exact hq2.alloc hq3 _) rfl (bl_trans hbi hbi.size hb2).size (by rw [HH.out]; exact heap_alloc_new _ _)
    ·have hin : i = n := by omega
     subst hin
     have hz : (firstC fc i 0).1 = 0 := by rw [HI.out, firstC_end]
     have hn2 : res = firstAll i ((fs.drop (q + 1)).map (·.2)) := by rw [HD.out]; unfold firstOf2; rw [if_pos hz]
     have HN2 := hidX hn2
     have HZ3 := hidX (HZ2.out fun j hj => (first_zero i 0).1 hz j (Nat.zero_le _) (by omega))
     clear hn2 hz
     go_wp2
     go_roundw
     case rel => exact ⟨q + 1, by omega, by go_num, hbi, HN2.out, HZ3.out⟩
     case measure => simp [intOf]; omega
  ·have hqn : q = fs.length := by omega
   subst hqn
   have hz : res.1 = 0 := by rw [HQ.out]; simp [firstAll]
   go_wp2
   go_ret
   exact ft_well hz hbl rfl
end Go.Proofs.YtlgejjmdanmglaaGreatDoor
namespace Go.Proofs.YtlgejjmdanmglaaGreatDoor
open Go.RowKit
theorem firstC_none {f : Nat → Nat} : ∀ (m i : Nat), (firstC f m i).1 = 0 → firstC f m i = (0, -1)
 | 0, _, _ => rfl
 | m + 1, i, h => by
  unfold firstC at h ⊢
  by_cases e : f i = 0
  ·rw [if_pos e] at h ⊢; exact firstC_none m (i + 1) h
  ·rw [if_neg e] at h; exact absurd h e
theorem firstAll_three (n : Nat) (f g h : Nat → Nat) : firstAll n [f, g, h] = firstOf2 (firstC f n 0) (firstOf2 (firstC g n 0) (firstC h n 0)) := by
 have : firstOf2 (firstC h n 0) (0, -1) = firstC h n 0 := by
  unfold firstOf2
  by_cases e : (firstC h n 0).1 = 0
  ·rw [if_pos e, firstC_none n 0 e]
  ·rw [if_neg e]
 simp only [firstAll, this]
theorem reck_in {ones twos : List (List UInt8)} {P : Int} {L : List Nd} (h : AllW ones twos P L) : ∀ x, ∀ y ∈ reck L x, 0 ≤ y ∧ y < (L.length : Int) := by
 intro x y hy
 unfold reck at hy
 split at hy
 ·next hk =>
  have hx : x < L.length := by
   rcases Nat.lt_or_ge x L.length with h' | h'
   ·exact h'
   ·have : ndAt L (x : Int) = ⟨[], [], 0, []⟩ := by simp [ndAt, h']
    rw [this] at hk
    exact absurd hk (by decide)
  exact (h.at (ndAt_ex hx)).bnd y hy
 ·simp at hy
theorem tk_err (a : Nat → Addr) (L : List Nd) (i : Nat) : (if tkC L i = 0 then Value.nilIface else sentV (a 2)) = errG a (tkC L i) := by
 unfold errG
 by_cases h : tkC L i = 0
 ·rw [if_pos h, if_pos h]
 ·have h3 : tkC L i = 3 := by
   unfold tkC at h ⊢
   simp only at h ⊢
   split
   ·rfl
   ·next hn => rw [if_neg hn] at h; exact absurd rfl h
  rw [if_neg h, if_neg h, h3]
theorem ft_from {w Y w' : World} {a : Nat → Addr} {r : Nat × Int} {e : Ending} (h : FtTo Y a r e w') (hb : Below w.heap.size w Y) : FtTo w a r e w' := by
 obtain ⟨h1, h2⟩ := h
 refine ⟨bl_trans hb hb.size h1, ?_⟩
 split at h2
 ·next c => rw [if_pos c]; exact h2
 ·next c =>
  split at h2
  ·next c2 => rw [if_neg c, if_pos c2]; exact h2
  ·next c2 =>
   rw [if_neg c, if_neg c2]
   obtain ⟨b, q1, q2, q3⟩ := h2
   exact ⟨b, q1, Nat.le_trans hb.size q2, q3⟩
theorem ft_val {w w' : World} {a : Nat → Addr} {r : Nat × Int} {e : Ending} (h : FtTo w a r e w') : ∃ v, e = .returned v ∧ FtTo w a r (.returned v) w' := by
 obtain ⟨h1, h2⟩ := h
 have : ∃ v, e = .returned v := by
  split at h2
  ·exact ⟨_, h2⟩
  ·split at h2
   ·exact ⟨_, h2⟩
   ·obtain ⟨b, q1, _⟩ := h2; exact ⟨_, q1⟩
 obtain ⟨v, rfl⟩ := this
 exact ⟨v, rfl, h1, h2⟩
theorem ndAt_zero {L : List Nd} (h : 0 < L.length) : ndAt L 0 = L[0] := by simp [ndAt, h]
set_option maxRecDepth 100000 in
set_option maxHeartbeats 2000000 in
theorem check_any {w : World} {a : Nat → Addr} (hS : Sents w a) (hT : TabG w) (nm : List UInt8) (P : Int) (nv : Value) (L : List Nd) (hL : L.length ≤ 100000) (hlow : ∀ n ∈ L, LowN n) (hG : XG true (InH w) w nv L) :
  Calls Tryz.prog 11 #[.agg #[.string ⟨nm.toArray⟩, .int .i64 P, nv]] w (FtTo w a (faultG onesE twosE P L)) := by
 obtain ⟨ad, cap, rfl⟩ := hG.is
 obtain ⟨W0, hW0⟩ : ∃ W0, W0 = w.alloc (.cells #[.string ⟨nm.toArray⟩, .int .i64 P, .slice ad L.length cap] 29) := ⟨_, rfl⟩
 have hb0 : Below w.heap.size w W0 := by rw [hW0]; (repeat (first | exact Below.refl _ _ | assumption | refine Below.drew ?_ | refine bT ?_ _ | refine bS ?_ _ | refine bA ?_ _))
 have hbx : W0.heap[w.heap.size]? = some (.cells #[.string ⟨nm.toArray⟩, .int .i64 P, .slice ad L.length cap] 29 (0, 0)) := by rw [hW0]; exact heap_alloc_new _ _
 have d0 := cell_of_blk hbx 0
 have d1 := cell_of_blk hbx 1
 have d2 := cell_of_blk hbx 2
 simp only [List.getElem?_toArray, List.getElem?_cons_zero, List.getElem?_cons_succ] at d0 d1 d2
 have v7 : w.cell? ⟨0, 0, none⟩ = some (sentV (a 7)) := hS.glob 7 (by omega)
 have v2 : w.cell? ⟨1, 0, none⟩ = some (sentV (a 2)) := hS.glob 2 (by omega)
 have v8 : w.cell? ⟨2, 0, none⟩ = some (sentV (a 8)) := hS.glob 8 (by omega)
 have l7 : 0 < w.heap.size := cell_lt v7
 have l2 : 1 < w.heap.size := cell_lt v2
 have l8 : 2 < w.heap.size := cell_lt v8
 have g7 : W0.cell? ⟨0, 0, none⟩ = some (sentV (a 7)) := (hS.below hb0).glob 7 (by omega)
 have g2 : W0.cell? ⟨1, 0, none⟩ = some (sentV (a 2)) := (hS.below hb0).glob 2 (by omega)
 have g8 : W0.cell? ⟨2, 0, none⟩ = some (sentV (a 8)) := (hS.below hb0).glob 8 (by omega)
 have hL' : (L.length : Int) ≤ 100000 := by omega
 have hdef : faultG onesE twosE P L = faultW onesE twosE P L (circC L) := (faultG_circ _ _ _ _).symm
 rw [hdef]
 unfold faultW
 have HS := hidX hS
 have HT := hidX hT
 have HG := hidX hG
 have HLW := hidX hlow
 have HBX := hidX hbx
 have HB0 := hidX hb0
 clear hS hT hG hlow hbx hdef
 by_cases c1 : 1000 < L.length
 ·rw [if_pos c1]
  have c1' : (1000 : Int) < (L.length : Int) := by omega
  go_enter Tryz.func11, Tryz.ntmps11
  go_wp2
  go_ret
  exact ft_bare (by decide) rfl (by (repeat (first | exact Below.refl _ _ | assumption | refine Below.drew ?_ | refine bT ?_ _ | refine bS ?_ _ | refine bA ?_ _))) rfl
 ·rw [if_neg c1]
  have c1' : ¬ (1000 : Int) < (L.length : Int) := by omega
  by_cases c2 : L.length = 0
  ·rw [if_pos (Or.inl c2)]
   have hL0 : L = [] := List.length_eq_zero_iff.1 c2
   subst hL0
   clear c1' c1 c2 hL'
   go_enter Tryz.func11, Tryz.ntmps11
   go_wp2
   go_ret
   exact ft_bare (by decide) rfl (by (repeat (first | exact Below.refl _ _ | assumption | refine Below.drew ?_ | refine bT ?_ _ | refine bS ?_ _ | refine bA ?_ _))) rfl
  ·have hpos : 0 < L.length := by omega
   have c2' : ¬ (L.length : Int) = 0 := by omega
   have c2'' : ((L.length : Int) == 0) = false := by simpa using c2'
   have c2p : (0 : Int) < (L.length : Int) := by omega
   obtain ⟨g, off, ad1, cap1, e1, hg, _, _, k0, _, _, _⟩ := HG.out.node hpos
   subst e1
   rw [Nat.zero_mul, Nat.add_zero] at k0
   have hg' : g < w.heap.size := hg
   have hnz := ndAt_zero hpos
   rw [hnz]
   generalize hk0 : L[0].kind = kk at k0
   by_cases c3 : kk = gStart
   ·rw [if_neg (by rintro (h | h); exact c2 h; exact h c3)]
    subst c3
    have t1 : (gStart == [115, 116, 97, 114, 116]) = true := by decide
    by_cases c4 : P < 0 ∨ 4 < P
    ·rw [if_pos c4]
     clear hk0 hnz
     rcases c4 with c4 | c4
     ·go_enter Tryz.func11, Tryz.ntmps11
      go_wp2
      go_ret
      exact ft_bare (by decide) rfl (by (repeat (first | exact Below.refl _ _ | assumption | refine Below.drew ?_ | refine bT ?_ _ | refine bS ?_ _ | refine bA ?_ _))) rfl
     ·have c5 : ¬ P < 0 := by omega
      go_enter Tryz.func11, Tryz.ntmps11
      go_wp2
      go_ret
      exact ft_bare (by decide) rfl (by (repeat (first | exact Below.refl _ _ | assumption | refine Below.drew ?_ | refine bT ?_ _ | refine bS ?_ _ | refine bA ?_ _))) rfl
    ·rw [if_neg c4]
     have c5 : ¬ P < 0 := fun h => c4 (Or.inl h)
     have c6 : ¬ 4 < P := fun h => c4 (Or.inr h)
     rw [← firstAll_three]
     have HNW := hidX (newChecker_any (HS.out.below hb0) (HT.out.below hb0) nm P (.slice (some ⟨g, off, none⟩) L.length cap) L (by omega) HLW.out (HG.out.imp (inH_up hb0) (keepH hb0)))
     have hfa : ∀ (X Y : World) (p m : Nat) (sv : Value) (gb : Nat), Ck X a p m nm P (.slice (some ⟨g, off, none⟩) L.length cap) sv L → Below X.heap.size X Y → gb < Y.heap.size → Y.cell? ⟨gb, 0, none⟩ = some (.func (.func 30) #[.pointer (some ⟨p, 0, none⟩)] #[]) → Y.cell? ⟨gb, 1, none⟩ = some (.func (.func 31) #[.pointer (some ⟨p, 0, none⟩)] #[]) → Y.cell? ⟨gb, 2, none⟩ = some (.func (.func 32) #[.pointer (some ⟨p, 0, none⟩)] #[]) →
      Calls Tryz.prog 29 #[.int .i64 (L.length : Int), .slice (some ⟨gb, 0, none⟩) 3 3] Y (FtTo Y a (firstAll L.length [nodeC onesE twosE P L, tkC L, circC L])) := fun X Y p m sv gb hck hY hgb q0 q1 q2 => by
      have hckY := hck.below hY
      refine firstFault_any a (.pointer (some ⟨p, 0, none⟩)) [(30, nodeC onesE twosE P L), (31, tkC L), (32, circC L)] (by simp) L.length (by omega) Y gb 3 hgb ?_ ?_ ?_
      ·intro q hq
       match q, hq with
       | 0, _ => exact q0
       | 1, _ => exact q1
       | 2, _ => exact q2
      ·intro q hq
       match q, hq with
       | 0, _ => exact enters_of Tryz.func30 (by kernel_rfl) rfl
       | 1, _ => exact enters_of Tryz.func31 (by kernel_rfl) rfl
       | 2, _ => exact enters_of Tryz.func32 (by kernel_rfl) rfl
      ·intro q hq
       match q, hq with
       | 0, _ => exact fun _ Z i hZ hi => node_any (hckY.below hZ) i hi
       | 1, _ =>
        intro _ Z i hZ hi
        refine (taken_any (hckY.below hZ) i hi).mono ?_
        rintro e w' ⟨rfl, rfl⟩
        exact ⟨congrArg Ending.returned (tk_err a L i), Below.refl _ _⟩
       | 2, _ => exact fun h0 Z i hZ hi => circled_any (hckY.below hZ) (reck_in (fun j hj => h0 0 (by decide) j hj)) i hi
     have HFA := hidX hfa
     clear hfa hk0 hnz c4
     go_enter Tryz.func11, Tryz.ntmps11
     go_wp2_with fail
     rw [← hW0]
     clear hW0
     refine HNW.out.mono ?_
     rintro e X ⟨hbX, p, m, sv, rfl, hck⟩
     have HCK := hidX hck
     have hx2 : X.cell? ⟨w.heap.size, 2, none⟩ = some (.slice (some ⟨g, off, none⟩) L.length cap) := cell_of_blk ((hbX.block _ (heap_lt HBX.out)).trans HBX.out) 2
     have HBX2 := hidX (bl_trans HB0.out HB0.out.size hbX)
     clear hck hbX
     go_wp2_with fail
     have hnb := heap_alloc_new X (.cells #[.func (.func 30) #[.pointer (some ⟨p, 0, none⟩)] #[], .func (.func 31) #[.pointer (some ⟨p, 0, none⟩)] #[], .func (.func 32) #[.pointer (some ⟨p, 0, none⟩)] #[]] 67)
     refine (HFA.out X _ p m sv X.heap.size HCK.out (box_blk _ _ _) (by simp) (cell_of_blk hnb 0) (cell_of_blk hnb 1) (cell_of_blk hnb 2)).mono ?_
     intro e w2 hft
     obtain ⟨v, rfl, hft2⟩ := ft_val hft
     have HFT := hidX (ft_from hft2 (bl_trans HBX2.out HBX2.out.size (box_blk _ _ _)))
     clear hft hft2 hnb
     go_wp2
     go_ret
     exact HFT.out
   ·rw [if_pos (Or.inr c3)]
    have t1 : (kk == [115, 116, 97, 114, 116]) = false := ne_lit c3
    clear hk0 hnz c3
    go_enter Tryz.func11, Tryz.ntmps11
    go_wp2
    go_ret
    exact ft_bare (by decide) rfl (by (repeat (first | exact Below.refl _ _ | assumption | refine Below.drew ?_ | refine bT ?_ _ | refine bS ?_ _ | refine bA ?_ _))) rfl
end Go.Proofs.YtlgejjmdanmglaaGreatDoor
