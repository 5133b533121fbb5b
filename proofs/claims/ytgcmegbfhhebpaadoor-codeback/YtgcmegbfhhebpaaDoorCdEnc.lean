/-
  Our own: package code: Encode.
-/
import Derived.Test.YtgcmegbfhhebpaaDoorCdChk
import Derived.Test.YtgcmegbfhhebpaaDoorCdWord
namespace Go.Proofs.YtgcmegbfhhebpaaDoor
open Go.RowKit

/-- What Encode answers. -/
def encR (i : Ci) : Int := if coChk (coNamed i.op).2 i = 0 then wordC (coNamed i.op).1 i else 0
set_option maxRecDepth 100000 in
set_option maxHeartbeats 1000000 in
theorem enc_any (i : Ci) (a : Nat → Addr) (w : World) (hT : TabC w) (hG : CdG w a) : Calls Tryd.prog 6 #[ciV i] w fun e w' => e = .returned (.tuple #[.int .u64 (encR i), erV a (coChk (coNamed i.op).2 i)]) ∧ Below w.heap.size w w' := by
  have hN := hidX fun W (hb : Below w.heap.size w W) => named_any i.op W (hT.below hb)
  have hC := hidX fun W o (hb : Below w.heap.size w W) => chk_any o i a W (hG.below hb)
  clear hT hG
  have hr : encR i = if coChk (coNamed i.op).2 i = 0 then encX (coNamed i.op).1 i else 0 := by
    unfold encR
    split
    · rename_i h
      exact (encX_is (coNamed_le _) ⟨(chk_ok h).2.1, (chk_ok h).2.2.1, (chk_ok h).2.2.2.1, (chk_ok h).2.2.2.2.1, (chk_ok h).2.2.2.2.2.1, (chk_ok h).2.2.2.2.2.2.1⟩).symm
    · rfl
  generalize encR i = R at hr ⊢
  generalize coNamed i.op = p at hN hr ⊢
  obtain ⟨num, o⟩ := p
  generalize hc : coChk o i = c at hr
  obtain ⟨ip, id, ia, ib, ii⟩ := i
  have HR := hidX hr
  clear hr
  go_enter Tryd.func6, Tryd.ntmps6
  go_wp2_with fail
  refine (hN.out _ (by (repeat (first | exact Below.refl _ _ | assumption | refine Below.drew ?_ | refine bT ?_ _ | refine bS ?_ _ | refine bA ?_ _)))).mono ?_
  rintro e w2 ⟨rfl, hb2⟩
  have hsz : w.heap.size < (w.alloc (Obj.cells #[.string ⟨ip.toArray⟩, .int .i64 id, .int .i64 ia, .int .i64 ib, .int .i64 ii] 26)).heap.size := by simp
  have hbb : Below w.heap.size w w2 := bl_trans (box_blk _ _ _) (Nat.le_of_lt hsz) hb2
  have hbk : w2.heap[w.heap.size]? = some (.cells #[.string ⟨ip.toArray⟩, .int .i64 id, .int .i64 ia, .int .i64 ib, .int .i64 ii] 26 (0, 0)) := (hb2.block _ hsz).trans (heap_alloc_new _ _)
  have c0 := cell_of_blk hbk 0
  have c1 := cell_of_blk hbk 1
  have c2 := cell_of_blk hbk 2
  have c3 := cell_of_blk hbk 3
  have c4 := cell_of_blk hbk 4
  have hlt := heap_lt hbk
  have HBK := hidX hbk
  clear hbk
  go_wp2_with fail
  refine (hC.out _ o (hbb.alloc (Nat.le_of_lt hlt) _)).mono ?_
  rintro e w3 ⟨rfl, hb3⟩
  rw [hc]
  have hsz2 : w.heap.size < (w2.alloc (Obj.cells #[.string ⟨o.kind.toArray⟩, .string ⟨o.sg.toArray⟩, .bool o.d, .bool o.a, .bool o.b, .bool o.many, .bool o.imm] 36)).heap.size := by simp; omega
  have hbk2 := (hb3.block _ hsz2).trans ((Below.heap_alloc _ _ _ hlt).trans HBK.out)
  have hbb3 : Below w.heap.size w w3 := bl_trans (hbb.alloc (Nat.le_of_lt hlt) _) (Nat.le_of_lt hsz2) hb3
  clear c0 c1 c2 c3 c4
  have c0 := cell_of_blk hbk2 0
  have c1 := cell_of_blk hbk2 1
  have c2 := cell_of_blk hbk2 2
  have c3 := cell_of_blk hbk2 3
  have c4 := cell_of_blk hbk2 4
  have hlt3 := heap_lt hbk2
  clear hbk2
  by_cases h0 : c = 0
  · subst h0
    rw [show erV a 0 = .nilIface from rfl]
    go_wp2
    refine bodyPost_ret (results_tmp2 rfl _ _ _) rfl ⟨?_, hbb3⟩
    have e1 := HR.out
    rw [if_pos trivial] at e1
    simp only [encX] at e1
    rw [e1, show erV a 0 = .nilIface from if_pos rfl]
    simp only [Array.getD_eq_getD_getElem?, List.getElem?_toArray, List.getElem?_cons_zero, List.getElem?_cons_succ, Option.getD_some]
  · rw [show erV a c = sentV (a c) from if_neg h0]
    go_wp2
    refine bodyPost_ret (results_tmp2 rfl _ _ _) rfl ⟨?_, hbb3⟩
    rw [HR.out, if_neg h0, show erV a c = sentV (a c) from if_neg h0]
    rfl
end Go.Proofs.YtgcmegbfhhebpaaDoor
