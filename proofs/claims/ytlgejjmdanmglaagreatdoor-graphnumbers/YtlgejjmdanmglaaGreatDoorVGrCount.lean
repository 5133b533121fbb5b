/- Our own: texts joined: GrCount. -/
import Derived.Test.YtlgejjmdanmglaaGreatDoorVCkAll
import Derived.Test.YtlgejjmdanmglaaGreatDoorVGivTak
namespace Go.Proofs.YtlgejjmdanmglaaGreatDoor
open Go.RowKit
theorem keysFrom_snoc (n : Nd) (i : Int) : ∀ (l : List Int) (k : Nat), keysFrom n k (l ++ [i]) = keysFrom n k l ++ keyOf1 n (k + l.length) i
 | [], k => by simp [keysFrom]
 | x :: r, k => by rw [List.cons_append, keysFrom, keysFrom, keysFrom_snoc n i r (k + 1), List.append_assoc, List.length_cons, show k + 1 + r.length = k + (r.length + 1) by omega]
theorem keysFrom_len (n : Nd) : ∀ (l : List Int) (k : Nat), (keysFrom n k l).length ≤ l.length
 | [], k => by simp [keysFrom]
 | x :: r, k => by
  rw [keysFrom, List.length_append, List.length_cons]
  have := keysFrom_len n r (k + 1)
  have : (keyOf1 n k x).length ≤ 1 := by unfold keyOf1; split <;> (try split) <;> simp
  omega
theorem keys_next {n : Nd} {q : Nat} (h : q < n.ins.length) : keysFrom n 0 (n.ins.take (q + 1)) = keysFrom n 0 (n.ins.take q) ++ keyOf1 n q n.ins[q] := by
 rw [List.take_succ_eq_append_getElem h, keysFrom_snoc, List.length_take, Nat.zero_add, Nat.min_eq_left (Nat.le_of_lt h)]
theorem grown_but {m : Nat} {a b : World} (h : a.grownBy b (some m)) : But m a b := ⟨h.os, h.tape, h.output, h.size, fun k hk hne => h.block k hk (fun e => hne (by injection e))⟩
set_option maxRecDepth 100000 in
set_option maxHeartbeats 2000000 in
theorem count_any (w : World) (p m : Nat) (u0 u1 u2 u3 : Value) (hblk : w.heap[p]? = some (.cells #[u0, u1, u2, u3, .map (some m)] 116 (0, 0))) (ks : List (Int × List UInt8)) (hC : CntAt w m ks) (hks : ks.length ≤ 999000) (n : Nd) (hn : LowN n) (ad1 : Option Addr) (cap1 : Nat) (hr : XRow (fun b => b < w.heap.size ∧ b ≠ m) w (.slice ad1 n.ins.length cap1) n.ins.length (intsG n.ins)) :
  Calls Tryz.prog 55 #[.pointer (some ⟨p, 0, none⟩), ndV n ad1 cap1, shpV (shp n.kind)] w fun e w' => e = .returned (.tuple #[]) ∧ But m w w' ∧ CntAt w' m (ks ++ keysN n) := by
 obtain ⟨W0, hW0⟩ : ∃ W0, W0 = (w.alloc (.cells #[.string ⟨n.kind.toArray⟩, .slice ad1 n.ins.length cap1, .int .i64 n.num, .string ⟨n.name.toArray⟩] 55)).alloc (.cells #[.string ⟨(shp n.kind).kind.toArray⟩, .string ⟨(shp n.kind).ins.toArray⟩, .string ⟨(shp n.kind).more.toArray⟩, .bool (shp n.kind).num, .bool (shp n.kind).name, .string ⟨(shp n.kind).gives.toArray⟩] 118) := ⟨_, rfl⟩
 have hb0 : Below w.heap.size w W0 := by rw [hW0]; (repeat (first | exact Below.refl _ _ | assumption | refine Below.drew ?_ | refine bT ?_ _ | refine bS ?_ _ | refine bA ?_ _))
 have hz0 : w.heap.size + 1 < W0.heap.size := by rw [hW0]; simp
 have hml := hC.lt
 have hpm : p ≠ m := fun e => by obtain ⟨es, clock, hm⟩ := hC.isMap; rw [e, hm] at hblk; cases hblk
 have n0 : W0.heap[w.heap.size]? = some (.cells #[.string ⟨n.kind.toArray⟩, .slice ad1 n.ins.length cap1, .int .i64 n.num, .string ⟨n.name.toArray⟩] 55 (0, 0)) := by rw [hW0]; exact (Below.heap_alloc _ _ _ (by simp)).trans (heap_alloc_new _ _)
 have n1 : W0.heap[w.heap.size + 1]? = some (.cells #[.string ⟨(shp n.kind).kind.toArray⟩, .string ⟨(shp n.kind).ins.toArray⟩, .string ⟨(shp n.kind).more.toArray⟩, .bool (shp n.kind).num, .bool (shp n.kind).name, .string ⟨(shp n.kind).gives.toArray⟩] 118 (0, 0)) := by rw [hW0]; exact heap_alloc2_new _ _ _
 have p0 := (hb0.block p (heap_lt hblk)).trans hblk
 have hni : (n.ins.length : Int) ≤ 1000 := by have := hn.ins; omega
 have hft := fits_any (shp n.kind) n ad1 cap1 (shp_low _) (by have := hn.ins; omega) W0
 have hdue : fitsB (shp n.kind) n = true → ∀ q, q < n.ins.length → ∀ X, Calls Tryz.prog 67 #[shpV (shp n.kind), .int .i64 q] X fun e w' => e = .returned (.int .u8 ((dueS (shp n.kind) q).toNat : Nat)) ∧ Below X.heap.size X w' := fun hf q hq X => due_any _ q (fits_due hf hq) (shp_low _) X
 have hk1 : keysN n = if fitsB (shp n.kind) n then keysFrom n 0 n.ins else [] := rfl
 have hkk := fun q i => show keyOf1 n q i = if dueS (shp n.kind) q = 119 then [(i, [])] else if dueS (shp n.kind) q = 105 then [(i, n.kind)] else [] from rfl
 have hC0 := hC.keep (hb0.block m hml)
 have HC0 := hidX hC0
 have HP0 := hidX p0
 have HN0 := hidX n0
 have HN1 := hidX n1
 have HB0 := hidX hb0
 have HR := hidX hr
 have HLW := hidX hn
 generalize fitsB (shp n.kind) n = fb at *
 generalize shp n.kind = s at *
 have HFT := hidX hft
 have HD := hidX hdue
 have HK1 := hidX hk1
 have HKK := hidX hkk
 have hpl := heap_lt hblk
 clear hft hdue hk1 hkk hC0 hC p0 hr hn hblk hb0
 go_enter Tryz.func55, Tryz.ntmps55
 go_wp2_with fail
 rw [← hW0]
 clear hW0
 refine HFT.out.mono ?_
 rintro e W1 ⟨rfl, hb1⟩
 have HB1 := hidX hb1
 have s1 := hb1.size
 have HN0' := hidX ((hb1.block _ (heap_lt n0)).trans n0)
 have HN1' := hidX ((hb1.block _ (heap_lt n1)).trans n1)
 have d1 : W1.cell? ⟨w.heap.size, 1, none⟩ = some (.slice ad1 n.ins.length cap1) := cell_of_blk HN0'.out 1
 clear hb1 n0 n1
 cases fb with
 | false =>
  go_wp2
  refine bodyPost_ret (v := .tuple #[]) (by simp [results, Tryz.results55, go_sem]) rfl ?_
  refine ⟨rfl, But.of (bl_trans HB0.out HB0.out.size HB1.out), ?_⟩
  rw [HK1.out]
  simpa using HC0.out.keep (HB1.out.block m (Nat.lt_of_lt_of_le hml HB0.out.size))
 | true =>
  have hCW1 : CntAt W1 m (ks ++ keysFrom n 0 (n.ins.take 0)) := by
   rw [List.take_zero, keysFrom, List.append_nil]
   exact HC0.out.keep (HB1.out.block m (Nat.lt_of_lt_of_le hml HB0.out.size))
  have HCW := hidX hCW1
  clear hCW1
  go_wp2_with fail
  go_loopw [15] (fun vi wr => ∃ q : Nat, q ≤ n.ins.length ∧ vi = .int .i64 q ∧ Hid (But m W1 wr) ∧ Hid (CntAt wr m (ks ++ keysFrom n 0 (n.ins.take q)))) (fun vi _ => n.ins.length - (intOf vi).toNat)
  case atStart => exact ⟨0, Nat.zero_le _, rfl, But.refl _ _, HCW.out⟩
  case round =>
   obtain ⟨q, hq, rfl, HBU, HCQ⟩ := hrel
   have s2 := HBU.out.size
   by_cases hlt : q < n.ins.length
   ·have hlt' : (q : Int) < (n.ins.length : Int) := by omega
    obtain ⟨g, off, e1, hg, hc⟩ := HR.out.int hlt
    subst e1
    have hbw : Below w.heap.size w W1 := bl_trans HB0.out HB0.out.size HB1.out
    have s3 := hbw.size
    have hcr : wr.cell? ⟨g, off + q, none⟩ = some (.int .i64 n.ins[q]) := (World.cell?_of_block (w := w) (a := ⟨g, _, none⟩) ((HBU.out.block g (by have := hg.1; omega) hg.2).trans (hbw.block g hg.1))).trans hc
    have hN0 := (HBU.out.block w.heap.size (heap_lt HN0'.out) (by omega)).trans HN0'.out
    have hN1 := (HBU.out.block (w.heap.size + 1) (heap_lt HN1'.out) (by omega)).trans HN1'.out
    have hP := (HBU.out.block p (by omega) hpm).trans ((HB1.out.block p (heap_lt HP0.out)).trans HP0.out)
    have hfitx := HLW.out.each _ (List.getElem_mem hlt)
    have hkn := keys_next hlt
    rw [HKK.out] at hkn
    generalize n.ins[q] = x at hcr hkn hfitx
    have hdq := HD.out (by first | rfl | trivial) q hlt wr
    have HDQ := hidX hdq
    have HKN := hidX hkn
    have HFX := hidX hfitx
    have t0 := cell_of_blk hN1 0
    have t1 := cell_of_blk hN1 1
    have t2 := cell_of_blk hN1 2
    have t3 := cell_of_blk hN1 3
    have t4 := cell_of_blk hN1 4
    have t5 := cell_of_blk hN1 5
    have HNN0 := hidX hN0
    have HPP := hidX hP
    clear hdq hkn hc hN0 hN1 hP hg hfitx
    go_wp2_with fail
    refine HDQ.out.mono ?_
    rintro e X ⟨rfl, hbx⟩
    have s4 := hbx.size
    have c4 : X.cell? ⟨p, 4, none⟩ = some (.map (some m)) := cell_of_blk ((hbx.block p (heap_lt HPP.out)).trans HPP.out) 4
    have c0 : X.cell? ⟨w.heap.size, 0, none⟩ = some (.string ⟨n.kind.toArray⟩) := cell_of_blk ((hbx.block _ (heap_lt HNN0.out)).trans HNN0.out) 0
    have hCX := HCQ.out.keep (hbx.block m HCQ.out.lt)
    have HBX := hidX (HBU.out.trans (But.of hbx))
    have hkl := keysFrom_len n (n.ins.take q) 0
    have hkl2 : (ks ++ keysFrom n 0 (n.ins.take q)).length ≤ 1000000 := by rw [List.length_append]; rw [List.length_take] at hkl; have := HLW.out.ins; omega
    have HCX := hidX hCX
    generalize hkq : ks ++ keysFrom n 0 (n.ins.take q) = kq at *
    have HKQ := hidX hkq
    generalize hdu : dueS s q = du at *
    clear t0 t1 t2 t3 t4 t5 hcr hCX hbx hkl hkq hdu
    by_cases d119 : du = 119
    ·subst d119
     rw [if_pos rfl] at HKN
     have hfk : FitKey (x, ([] : List UInt8)) := ⟨HFX.out, by simp⟩
     obtain ⟨v0, hv0⟩ := Classical.axiomOfChoice (fun k => HCX.out.bump hkl2 (x, ([] : List UInt8)) hfk (X.drewN k) rfl)
     obtain ⟨st, hst⟩ := Classical.axiomOfChoice hv0
     obtain ⟨w1, hw1⟩ := Classical.axiomOfChoice hst
     obtain ⟨w2, hw2⟩ := Classical.axiomOfChoice hw1
     have hlk : ∀ k, (Instr.lookup 113 (.map (some m)) (.agg #[.int .i64 x, .string ⟨#[]⟩]) false).run Tryz.prog (X.drewN k) = .ok (.int .i64 (kq.count (x, ([] : List UInt8)) : Nat)) (X.drewN k) := fun k => HCX.out.look (x, ([] : List UInt8)) hfk (X.drewN k) rfl
     have hlk0 : (Instr.lookup 113 (.map (some m)) (.agg #[.int .i64 x, .string ⟨#[]⟩]) false).run Tryz.prog X = .ok (.int .i64 (kq.count (x, ([] : List UInt8)) : Nat)) X := HCX.out.look (x, ([] : List UInt8)) hfk X rfl
     have hme : ∀ k, (Instr.mapEntry 113 (.map (some m)) (.agg #[.int .i64 x, .string ⟨#[]⟩])).run Tryz.prog (X.drewN k) = .ok (.tuple #[v0 k, .int .i64 (st k)]) (w1 k) := fun k => (hw2 k).1
     have hes : ∀ k, (Instr.entryStore 113 (.map (some m)) (.int .i64 (st k)) (.int .i64 ((kq.count (x, ([] : List UInt8)) : Nat) + 1))).run Tryz.prog (w1 k) = .ok () (w2 k) := fun k => (hw2 k).2.2.1
     have hl1 : ∀ k, (Instr.lookup 113 (.map (some m)) (.agg #[.int .i64 x, .string ⟨#[]⟩]) false).run Tryz.prog (w1 k) = .ok (.int .i64 (kq.count (x, ([] : List UInt8)) : Nat)) (w1 k) := fun k => (hw2 k).2.1
     have hcl : ((kq.count (x, ([] : List UInt8)) : Nat) : Int) ≤ 1000000 := by have : kq.count (x, ([] : List UInt8)) ≤ kq.length := List.count_le_length; omega
     have hlkD : (Instr.lookup 113 (.map (some m)) (.agg #[.int .i64 x, .string ⟨#[]⟩]) false).run Tryz.prog X.drew = .ok (.int .i64 (kq.count (x, ([] : List UInt8)) : Nat)) X.drew := hlk 1
     have hmeD : (Instr.mapEntry 113 (.map (some m)) (.agg #[.int .i64 x, .string ⟨#[]⟩])).run Tryz.prog X.drew = .ok (.tuple #[v0 1, .int .i64 (st 1)]) (w1 1) := hme 1
     have hfin : ∀ k, But m W1 (w2 k) ∧ CntAt (w2 k) m (ks ++ keysFrom n 0 (n.ins.take (q + 1))) := fun k => by
      refine ⟨HBX.out.trans ((But.refl m X).drewN k |>.trans (grown_but (hw2 k).2.2.2.1)), ?_⟩
      rw [HKN.out, ← List.append_assoc, HKQ.out]
      exact (hw2 k).2.2.2.2.1
     have c0w : ∀ k, (w1 k).cell? ⟨w.heap.size, 0, none⟩ = some (.string ⟨n.kind.toArray⟩) := fun k => (World.cell?_of_block (w := X) (a := ⟨w.heap.size, 0, none⟩) ((hw2 k).2.2.2.2.2 w.heap.size (by omega))).trans c0
     have c4w : ∀ k, (w1 k).cell? ⟨p, 4, none⟩ = some (.map (some m)) := fun k => (World.cell?_of_block (w := X) (a := ⟨p, 4, none⟩) ((hw2 k).2.2.2.2.2 p hpm)).trans c4
     have HFIN := hidX hfin
     clear hw2 hw1 hst hv0 hfin
     go_wp2_with fail
     go_region
     all_goals (
      go_wp2
      go_roundw
      case rel => exact ⟨q + 1, by omega, by go_num, (HFIN.out _).1, (HFIN.out _).2⟩
      case measure => simp [intOf]; omega)
    ·have e119 : ((du.toNat : Nat) : Int) ≠ 119 := fun e => d119 (by
      have : du.toNat = 119 := by omega
      exact UInt8.toNat_inj.1 (by rw [this]; rfl))
     have e119' : (((du.toNat : Nat) : Int) == 119) = false := by simpa using e119
     rw [if_neg d119] at HKN
     by_cases d105 : du = 105
     ·subst d105
      rw [if_pos rfl] at HKN
      clear d119 e119 e119'
      have hfk : FitKey (x, n.kind) := ⟨HFX.out, by have := HLW.out.kind; simp only; omega⟩
      obtain ⟨v0, hv0⟩ := Classical.axiomOfChoice (fun k => HCX.out.bump hkl2 (x, n.kind) hfk (X.drewN k) rfl)
      obtain ⟨st, hst⟩ := Classical.axiomOfChoice hv0
      obtain ⟨w1, hw1⟩ := Classical.axiomOfChoice hst
      obtain ⟨w2, hw2⟩ := Classical.axiomOfChoice hw1
      have hlk : ∀ k, (Instr.lookup 113 (.map (some m)) (.agg #[.int .i64 x, .string ⟨n.kind.toArray⟩]) false).run Tryz.prog (X.drewN k) = .ok (.int .i64 (kq.count (x, n.kind) : Nat)) (X.drewN k) := fun k => HCX.out.look (x, n.kind) hfk (X.drewN k) rfl
      have hlk0 : (Instr.lookup 113 (.map (some m)) (.agg #[.int .i64 x, .string ⟨n.kind.toArray⟩]) false).run Tryz.prog X = .ok (.int .i64 (kq.count (x, n.kind) : Nat)) X := HCX.out.look (x, n.kind) hfk X rfl
      have hme : ∀ k, (Instr.mapEntry 113 (.map (some m)) (.agg #[.int .i64 x, .string ⟨n.kind.toArray⟩])).run Tryz.prog (X.drewN k) = .ok (.tuple #[v0 k, .int .i64 (st k)]) (w1 k) := fun k => (hw2 k).1
      have hes : ∀ k, (Instr.entryStore 113 (.map (some m)) (.int .i64 (st k)) (.int .i64 ((kq.count (x, n.kind) : Nat) + 1))).run Tryz.prog (w1 k) = .ok () (w2 k) := fun k => (hw2 k).2.2.1
      have hl1 : ∀ k, (Instr.lookup 113 (.map (some m)) (.agg #[.int .i64 x, .string ⟨n.kind.toArray⟩]) false).run Tryz.prog (w1 k) = .ok (.int .i64 (kq.count (x, n.kind) : Nat)) (w1 k) := fun k => (hw2 k).2.1
      have hcl : ((kq.count (x, n.kind) : Nat) : Int) ≤ 1000000 := by have : kq.count (x, n.kind) ≤ kq.length := List.count_le_length; omega
      have hlkD : (Instr.lookup 113 (.map (some m)) (.agg #[.int .i64 x, .string ⟨n.kind.toArray⟩]) false).run Tryz.prog X.drew = .ok (.int .i64 (kq.count (x, n.kind) : Nat)) X.drew := hlk 1
      have hmeD : (Instr.mapEntry 113 (.map (some m)) (.agg #[.int .i64 x, .string ⟨n.kind.toArray⟩])).run Tryz.prog X.drew = .ok (.tuple #[v0 1, .int .i64 (st 1)]) (w1 1) := hme 1
      have hfin : ∀ k, But m W1 (w2 k) ∧ CntAt (w2 k) m (ks ++ keysFrom n 0 (n.ins.take (q + 1))) := fun k => by
       refine ⟨HBX.out.trans ((But.refl m X).drewN k |>.trans (grown_but (hw2 k).2.2.2.1)), ?_⟩
       rw [HKN.out, ← List.append_assoc, HKQ.out]
       exact (hw2 k).2.2.2.2.1
      have c0w : ∀ k, (w1 k).cell? ⟨w.heap.size, 0, none⟩ = some (.string ⟨n.kind.toArray⟩) := fun k => (World.cell?_of_block (w := X) (a := ⟨w.heap.size, 0, none⟩) ((hw2 k).2.2.2.2.2 w.heap.size (by omega))).trans c0
      have c4w : ∀ k, (w1 k).cell? ⟨p, 4, none⟩ = some (.map (some m)) := fun k => (World.cell?_of_block (w := X) (a := ⟨p, 4, none⟩) ((hw2 k).2.2.2.2.2 p hpm)).trans c4
      have HFIN := hidX hfin
      clear hw2 hw1 hst hv0 hfin
      go_wp2_with fail
      go_region
      all_goals (
       go_wp2
       go_roundw
       case rel => exact ⟨q + 1, by omega, by go_num, (HFIN.out _).1, (HFIN.out _).2⟩
       case measure => simp [intOf]; omega)
     ·have e105 : ((du.toNat : Nat) : Int) ≠ 105 := fun e => d105 (by
       have : du.toNat = 105 := by omega
       exact UInt8.toNat_inj.1 (by rw [this]; rfl))
      have e105' : (((du.toNat : Nat) : Int) == 105) = false := by simpa using e105
      rw [if_neg d105] at HKN
      have hfin : CntAt X m (ks ++ keysFrom n 0 (n.ins.take (q + 1))) := by
       rw [HKN.out, List.append_nil, HKQ.out]; exact HCX.out
      have HFIN := hidX hfin
      clear d119 d105 hfin
      go_wp2
      go_roundw
      case rel => exact ⟨q + 1, by omega, by go_num, HBX.out, HFIN.out⟩
      case measure => simp [intOf]; omega
   ·have hqn : q = n.ins.length := by omega
    subst hqn
    have hcq := HCQ.out
    rw [List.take_length] at hcq
    have hk : keysN n = keysFrom n 0 n.ins := by rw [HK1.out]; simp
    have HCE := hidX hcq
    have HKE := hidX hk
    clear hcq hk
    go_wp2
    go_end0
    refine ⟨rfl, (But.of (bl_trans HB0.out HB0.out.size HB1.out)).trans HBU.out, ?_⟩
    rw [HKE.out]; exact HCE.out
end Go.Proofs.YtlgejjmdanmglaaGreatDoor
