/- Our own: texts joined: CdWord, CdDec. -/
import Derived.Test.YtbcpomdcmilpjaaDoorXCdM
import Derived.Laws.Bits64
import Derived.Test.YtbcpomdcmilpjaaDoorXCdChk
namespace Go.Proofs.YtbcpomdcmilpjaaDoor
open Go.RowKit
theorem chk_ok {o : Co} {i : Ci} (h : coChk o i = 0) : o.kind ≠ [] ∧ 0 ≤ i.d ∧ i.d ≤ 7 ∧ 0 ≤ i.a ∧ i.a ≤ 7 ∧ 0 ≤ i.b ∧ i.b ≤ 7 ∧ -2147483648 ≤ i.imm ∧ i.imm < 2147483648 := by
 unfold coChk at h
 split at h
 ·cases h
 ·rename_i hk
  split at h
  ·cases h
  ·rename_i h1
   split at h
   ·cases h
   ·rename_i h2
    obtain ⟨ok, sg, od, oa, ob, om, oi⟩ := o
    obtain ⟨ip, id, ia, ib, ii⟩ := i
    refine ⟨hk, ?_⟩
    simp only [bey, ndl, in32, Bool.or_eq_true, Bool.and_eq_true, Bool.not_eq_true', decide_eq_true_eq, Bool.and_eq_false_iff, decide_eq_false_iff_not, not_or, not_and] at h1 h2
    cases od <;> cases oa <;> cases ob <;> cases om <;> simp at h1 h2 ⊢ <;> omega
end Go.Proofs.YtbcpomdcmilpjaaDoor
namespace Go.Proofs.YtbcpomdcmilpjaaDoor
open Go.RowKit
def decC (v : Nat) : Ci := ⟨(coNum (v / 72057594037927936)).kind, (v / 281474976710656 % 256 : Nat), (v / 1099511627776 % 256 : Nat), (v / 4294967296 % 256 : Nat), wrap32 v⟩
def decR (v : Nat) : Ci := if coChk (coNum (v / 72057594037927936)) (decC v) = 0 then decC v else ⟨[], 0, 0, 0, 0⟩
set_option maxRecDepth 100000 in
set_option maxHeartbeats 1000000 in
theorem dec_any (v : Nat) (hv : v < 18446744073709551616) (a : Nat → Addr) (w : World) (hT : TabC w) (hG : CdG w a) : Calls Tryd.prog 34 #[.int .u64 v] w fun e w' => e = .returned (.tuple #[ciV (decR v), erV a (coChk (coNum (v / 72057594037927936)) (decC v))]) ∧ Below w.heap.size w w' := by
 have hN0 := fun W (hb : Below w.heap.size w W) => numbered_any (v / 72057594037927936) (by omega) W (hT.below hb)
 rw [show ((v / 72057594037927936 : Nat) : Int) = (v : Int) / 72057594037927936 from by omega] at hN0
 have hN := hidX hN0
 have hC := hidX fun W i o (hb : Below w.heap.size w W) => chk_any o i a W (hG.below hb)
 clear hT hG hN0
 have hr : decR v = if coChk (coNum (v / 72057594037927936)) (decC v) = 0 then decC v else ⟨[], 0, 0, 0, 0⟩ := rfl
 have hd : decC v = ⟨(coNum (v / 72057594037927936)).kind, (v : Int) / 281474976710656 % 256, (v : Int) / 1099511627776 % 256, (v : Int) / 4294967296 % 256, wrap64 (wrap32 v)⟩ := by
  unfold decC
  rw [show wrap64 (wrap32 (v : Int)) = wrap32 v from by unfold wrap64 wrap32; omega]
  rw [show ((v / 281474976710656 % 256 : Nat) : Int) = (v : Int) / 281474976710656 % 256 from by omega, show ((v / 1099511627776 % 256 : Nat) : Int) = (v : Int) / 1099511627776 % 256 from by omega, show ((v / 4294967296 % 256 : Nat) : Int) = (v : Int) / 4294967296 % 256 from by omega]
 generalize decR v = R at hr ⊢
 generalize decC v = D at hr hd ⊢
 generalize coNum (v / 72057594037927936) = o at hN hr hd ⊢
 generalize hc : coChk o D = c at hr ⊢
 have HR := hidX hr
 have HD := hidX hd
 clear hr hd
 go_enter Tryd.func34, Tryd.ntmps34
 go_wp2_with fail
 refine (hN.out _ (by (repeat (first | exact Below.refl _ _ | assumption | refine Below.drew ?_ | refine bT ?_ _ | refine bS ?_ _ | refine bA ?_ _)))).mono ?_
 rintro e w2 ⟨rfl, hb2⟩
 have hsz : w.heap.size < (w.alloc (Obj.cells #[.string ⟨#[]⟩, .int .i64 0, .int .i64 0, .int .i64 0, .int .i64 0] 91)).heap.size := by simp
 have hbb : Below w.heap.size w w2 := bl_trans (box_blk _ _ _) (Nat.le_of_lt hsz) hb2
 have hbk : w2.heap[w.heap.size]? = some (.cells #[.string ⟨#[]⟩, .int .i64 0, .int .i64 0, .int .i64 0, .int .i64 0] 91 (0, 0)) := (hb2.block _ hsz).trans (heap_alloc_new _ _)
 have hlt := heap_lt hbk
 have HBK := hidX hbk
 clear hbk
 go_wp2_with fail
 refine (hC.out _ ⟨o.kind, (v : Int) / 281474976710656 % 256, (v : Int) / 1099511627776 % 256, (v : Int) / 4294967296 % 256, wrap64 (wrap32 v)⟩ o ((hbb.alloc (Nat.le_of_lt hlt) _).alloc (by simp; omega) _)).mono ?_
 rintro e w3 ⟨rfl, hb3⟩
 rw [← HD.out, hc]
 generalize hO : Obj.cells #[Value.string ⟨o.kind.toArray⟩, .string ⟨o.sg.toArray⟩, .bool o.d, .bool o.a, .bool o.b, .bool o.many, .bool o.imm] 110 = O at hb3 ⊢
 have hdv : ciV D = .agg #[.string ⟨o.kind.toArray⟩, .int .i64 ((v : Int) / 281474976710656 % 256), .int .i64 ((v : Int) / 1099511627776 % 256), .int .i64 ((v : Int) / 4294967296 % 256), .int .i64 (wrap64 (wrap32 v))] := by rw [HD.out]
 generalize (v : Int) / 281474976710656 % 256 = xd at hb3 hdv ⊢
 generalize (v : Int) / 1099511627776 % 256 = xa at hb3 hdv ⊢
 generalize (v : Int) / 4294967296 % 256 = xb at hb3 hdv ⊢
 generalize wrap64 (wrap32 (v : Int)) = xi at hb3 hdv ⊢
 generalize hI : Obj.cells #[.string ⟨o.kind.toArray⟩, .int .i64 xd, .int .i64 xa, .int .i64 xb, .int .i64 xi] 91 = I at hb3
 have hs3 : ((w2.alloc O).alloc I).heap.size = w2.heap.size + 2 := by simp
 have hbkz := (hb3.block _ (by omega)).trans ((Below.heap_alloc _ _ _ (by simp; omega)).trans ((Below.heap_alloc _ _ _ hlt).trans HBK.out))
 have hbki := (hb3.block (w2.heap.size + 1) (by omega)).trans (heap_alloc2_new _ _ _)
 rw [← hI] at hbki
 have hbb3 : Below w.heap.size w w3 := bl_trans ((hbb.alloc (Nat.le_of_lt hlt) _).alloc (by simp; omega) _) (by omega) hb3
 have hz3 := hb3.size
 clear hI hO hb3 hs3 HD
 have c0 := cell_of_blk hbki 0
 have c1 := cell_of_blk hbki 1
 have c2 := cell_of_blk hbki 2
 have c3 := cell_of_blk hbki 3
 have c4 := cell_of_blk hbki 4
 have d0 := cell_of_blk hbkz 0
 have d1 := cell_of_blk hbkz 1
 have d2 := cell_of_blk hbkz 2
 have d3 := cell_of_blk hbkz 3
 have d4 := cell_of_blk hbkz 4
 have f0 := free_of_blk hbkz 0
 have f1 := free_of_blk hbkz 1
 have f2 := free_of_blk hbkz 2
 have f3 := free_of_blk hbkz 3
 have f4 := free_of_blk hbkz 4
 have HZ := hidX hbkz
 have HDV := hidX hdv
 clear hbkz hbki hdv
 by_cases h0 : c = 0
 ·subst h0
  rw [show erV a 0 = .nilIface from rfl]
  have hr : R = D := HR.out
  clear HR
  subst hr
  go_wp2
  have hx := set5_blk HZ.out (.string ⟨o.kind.toArray⟩) (.int .i64 xd) (.int .i64 xa) (.int .i64 xb) (.int .i64 xi)
  have hb : Below w.heap.size w (((((w3.setCell ⟨w.heap.size, 0, none⟩ (.string ⟨o.kind.toArray⟩)).setCell ⟨w.heap.size, 1, none⟩ (.int .i64 xd)).setCell ⟨w.heap.size, 2, none⟩ (.int .i64 xa)).setCell ⟨w.heap.size, 3, none⟩ (.int .i64 xb)).setCell ⟨w.heap.size, 4, none⟩ (.int .i64 xi)) := ((((hbb3.setCell (Nat.le_refl _) _).setCell (Nat.le_refl _) _).setCell (Nat.le_refl _) _).setCell (Nat.le_refl _) _).setCell (Nat.le_refl _) _
  generalize ((((w3.setCell ⟨w.heap.size, 0, none⟩ (.string ⟨o.kind.toArray⟩)).setCell ⟨w.heap.size, 1, none⟩ (.int .i64 xd)).setCell ⟨w.heap.size, 2, none⟩ (.int .i64 xa)).setCell ⟨w.heap.size, 3, none⟩ (.int .i64 xb)).setCell ⟨w.heap.size, 4, none⟩ (.int .i64 xi) = W at hx hb ⊢
  refine ret_row_tmp w.heap.size 3 2 _ 91 _ rfl rfl rfl hx Tryd.underlying91 (by kernel_rfl) ⟨?_, hb⟩
  rw [HDV.out]; rfl
 ·rw [show erV a c = sentV (a c) from if_neg h0]
  have hr : R = ⟨[], 0, 0, 0, 0⟩ := HR.out.trans (if_neg h0)
  clear HR
  subst hr
  go_wp2
  have hx := set5_blk HZ.out (.string ⟨#[]⟩) (.int .i64 0) (.int .i64 0) (.int .i64 0) (.int .i64 0)
  have hb : Below w.heap.size w (((((w3.setCell ⟨w.heap.size, 0, none⟩ (.string ⟨#[]⟩)).setCell ⟨w.heap.size, 1, none⟩ (.int .i64 0)).setCell ⟨w.heap.size, 2, none⟩ (.int .i64 0)).setCell ⟨w.heap.size, 3, none⟩ (.int .i64 0)).setCell ⟨w.heap.size, 4, none⟩ (.int .i64 0)) := ((((hbb3.setCell (Nat.le_refl _) _).setCell (Nat.le_refl _) _).setCell (Nat.le_refl _) _).setCell (Nat.le_refl _) _).setCell (Nat.le_refl _) _
  generalize ((((w3.setCell ⟨w.heap.size, 0, none⟩ (.string ⟨#[]⟩)).setCell ⟨w.heap.size, 1, none⟩ (.int .i64 0)).setCell ⟨w.heap.size, 2, none⟩ (.int .i64 0)).setCell ⟨w.heap.size, 3, none⟩ (.int .i64 0)).setCell ⟨w.heap.size, 4, none⟩ (.int .i64 0) = W at hx hb ⊢
  refine ret_row_tmp w.heap.size 3 2 _ 91 _ rfl rfl rfl hx Tryd.underlying91 (by kernel_rfl) ⟨?_, hb⟩
  rw [show erV a c = sentV (a c) from if_neg h0]
  rfl
end Go.Proofs.YtbcpomdcmilpjaaDoor
