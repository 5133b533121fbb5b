/-
  Our own: package code: Text. Written by wip/gen/mkcdtext.py.
-/
import Derived.Test.YtgcmegbfhhebpaaDoorCdTell
import Derived.Test.YtgcmegbfhhebpaaDoorCdWord
namespace Go.Proofs.YtgcmegbfhhebpaaDoor
open Go.RowKit

def textC (o : Co) (i : Ci) : List UInt8 := tellT o.imm [] i.imm (tellT o.many [] i.b (tellT o.b [114] i.b (tellT o.a [114] i.a (tellT o.d [114] i.d o.kind))))
def textR (i : Ci) : List UInt8 := if coChk (coNamed i.op).2 i = 0 then textC (coNamed i.op).2 i else []
theorem tellT_len (has : Bool) (mark : List UInt8) (n : Int) (l : List UInt8) (h0 : -9223372036854775808 ≤ n) (h1 : n ≤ 9223372036854775807) (hm : mark.length ≤ 1) : (tellT has mark n l).length ≤ l.length + 23 := by
  unfold tellT
  have := Lib.itoa_length_le n h0 h1
  split
  · simp; omega
  · omega
theorem coIn_mem {k : List UInt8} : ∀ {l : List Co} {n : Nat}, (coIn l n k).2 ∈ l ∨ coIn l n k = (0, coN)
  | [], _ => Or.inr rfl
  | s :: r, n => by
    rw [coIn]
    split
    · exact Or.inl (by simp)
    · rcases coIn_mem (k := k) (l := r) (n := n + 1) with h | h
      · exact Or.inl (List.mem_cons_of_mem _ h)
      · exact Or.inr h
theorem coL_short : ∀ s ∈ coL, s.kind.length ≤ 6 := by decide
theorem coNamed_short (k : List UInt8) : (coNamed k).2.kind.length ≤ 6 := by
  rcases coIn_mem (k := k) (l := coL) (n := 0) with h | h
  · exact coL_short _ h
  · unfold coNamed; rw [h]; decide
set_option maxRecDepth 100000 in
set_option maxHeartbeats 2000000 in
theorem text_any (i : Ci) (a : Nat → Addr) (w : World) (hT : TabC w) (hG : CdG w a) (hD : TabD w.heap.size w) : Calls Tryd.prog 7 #[ciV i] w fun e w' => e = .returned (.string ⟨(textR i).toArray⟩) ∧ Below w.heap.size w w' := by
  have hN := hidX fun W (hb : Below w.heap.size w W) => named_any i.op W (hT.below hb)
  have hC := hidX fun W o (hb : Below w.heap.size w W) => chk_any o i a W (hG.below hb)
  have HD := hidX fun W (hb : Below w.heap.size w W) => hD.on hb
  clear hT hG hD
  have hsh := coNamed_short i.op
  have hr : textR i = if coChk (coNamed i.op).2 i = 0 then textC (coNamed i.op).2 i else [] := rfl
  generalize textR i = R at hr ⊢
  generalize coNamed i.op = p at hN hr hsh ⊢
  obtain ⟨num, ok, sg, od, oa, ob, om, oi⟩ := p
  have hok := fun h => chk_ok (o := ⟨ok, sg, od, oa, ob, om, oi⟩) (i := i) h
  generalize hc : coChk ⟨ok, sg, od, oa, ob, om, oi⟩ i = c at hr hok
  obtain ⟨ip, id, ia, ib, ii⟩ := i
  have HR := hidX hr
  have HOK := hidX hok
  have HSH := hidX hsh
  clear hr hok hsh
  go_enter Tryd.func7, Tryd.ntmps7
  go_wp2_with fail
  refine (hN.out _ (by (repeat (first | exact Below.refl _ _ | assumption | refine Below.drew ?_ | refine bT ?_ _ | refine bS ?_ _ | refine bA ?_ _)))).mono ?_
  rintro e w2 ⟨rfl, hb2⟩
  have hsz : w.heap.size < (w.alloc (Obj.cells #[.string ⟨ip.toArray⟩, .int .i64 id, .int .i64 ia, .int .i64 ib, .int .i64 ii] 26)).heap.size := by simp
  have hbb : Below w.heap.size w w2 := bl_trans (box_blk _ _ _) (Nat.le_of_lt hsz) hb2
  have hbk : w2.heap[w.heap.size]? = some (.cells #[.string ⟨ip.toArray⟩, .int .i64 id, .int .i64 ia, .int .i64 ib, .int .i64 ii] 26 (0, 0)) := (hb2.block _ hsz).trans (heap_alloc_new _ _)
  have c0 := cell_of_blk hbk 0
  have c1 := cell_of_blk hbk 1
  have c2 := cell_of_blk hbk 2
  have c3 := cell_of_blk hbk 3
  have c4 := cell_of_blk hbk 4
  have hlt := heap_lt hbk
  have HBK := hidX hbk
  clear hbk
  go_wp2_with fail
  refine (hC.out _ ⟨ok, sg, od, oa, ob, om, oi⟩ (hbb.alloc (Nat.le_of_lt hlt) _)).mono ?_
  rintro e w3 ⟨rfl, hb3⟩
  rw [hc]
  have hsz2 : w.heap.size < (w2.alloc (Obj.cells #[.string ⟨ok.toArray⟩, .string ⟨sg.toArray⟩, .bool od, .bool oa, .bool ob, .bool om, .bool oi] 36)).heap.size := by simp; omega
  have hib : w3.heap[w.heap.size]? = some (.cells #[.string ⟨ip.toArray⟩, .int .i64 id, .int .i64 ia, .int .i64 ib, .int .i64 ii] 26 (0, 0)) := (hb3.block _ hsz2).trans ((Below.heap_alloc _ _ _ hlt).trans HBK.out)
  have hob : w3.heap[w2.heap.size]? = some (.cells #[.string ⟨ok.toArray⟩, .string ⟨sg.toArray⟩, .bool od, .bool oa, .bool ob, .bool om, .bool oi] 36 (0, 0)) := (hb3.block w2.heap.size (by simp)).trans (heap_alloc_new _ _)
  have hbb3 : Below w.heap.size w w3 := bl_trans (hbb.alloc (Nat.le_of_lt hlt) _) (Nat.le_of_lt hsz2) hb3
  have hlt2 := heap_lt hob
  have hlt1 := heap_lt hib
  clear c0 c1 c2 c3 c4 hsz hb2 hsz2 hb3
  by_cases h0 : c = 0
  rotate_left
  · rw [show erV a c = sentV (a c) from if_neg h0]
    have hr : R = [] := HR.out.trans (if_neg h0)
    clear HR hib hob
    subst hr
    go_wp2
    go_ret
    exact ⟨rfl, hbb3⟩
  · subst h0
    rw [show erV a 0 = .nilIface from rfl]
    have hr : R = textC ⟨ok, sg, od, oa, ob, om, oi⟩ ⟨ip, id, ia, ib, ii⟩ := HR.out
    clear HR
    obtain ⟨_, q1, q2, q3, q4, q5, q6, q7, q8⟩ := HOK.out rfl
    have g1 : -9223372036854775808 ≤ id ∧ id ≤ 9223372036854775807 := by omega
    have g2 : -9223372036854775808 ≤ ia ∧ ia ≤ 9223372036854775807 := by omega
    have g3 : -9223372036854775808 ≤ ib ∧ ib ≤ 9223372036854775807 := by omega
    have g5 : -9223372036854775808 ≤ ii ∧ ii ≤ 9223372036854775807 := by omega
    have k0 : ok.length ≤ 6 := HSH.out
    have k1 := tellT_len od [114] id ok g1.1 g1.2 (by simp)
    have k2 := tellT_len oa [114] ia (tellT od [114] id ok) g2.1 g2.2 (by simp)
    have k3 := tellT_len ob [114] ib (tellT oa [114] ia (tellT od [114] id ok)) g3.1 g3.2 (by simp)
    have k4 := tellT_len om [] ib (tellT ob [114] ib (tellT oa [114] ia (tellT od [114] id ok))) g3.1 g3.2 (by simp)
    have t1 := fun b X hk hT => tell_any od [114] id b ok X g1 hk (by simp) (by omega) hT
    have t2 := fun b X hk hT => tell_any oa [114] ia b (tellT od [114] id ok) X g2 hk (by simp) (by omega) hT
    have t3 := fun b X hk hT => tell_any ob [114] ib b (tellT oa [114] ia (tellT od [114] id ok)) X g3 hk (by simp) (by omega) hT
    have t4 := fun b X hk hT => tell_any om [] ib b (tellT ob [114] ib (tellT oa [114] ia (tellT od [114] id ok))) X g3 hk (by simp) (by omega) hT
    have t5 := fun b X hk hT => tell_any oi [] ii b (tellT om [] ib (tellT ob [114] ib (tellT oa [114] ia (tellT od [114] id ok)))) X g5 hk (by simp) (by omega) hT
    rw [show textC ⟨ok, sg, od, oa, ob, om, oi⟩ ⟨ip, id, ia, ib, ii⟩ = tellT oi [] ii (tellT om [] ib (tellT ob [114] ib (tellT oa [114] ia (tellT od [114] id ok)))) from rfl] at hr
    clear k0 k1 k2 k3 k4 g1 g2 g3 g5 q1 q2 q3 q4 q5 q6 q7 q8
    generalize tellT od [114] id ok = l1 at t1 t2 t3 t4 t5 hr
    generalize tellT oa [114] ia l1 = l2 at t2 t3 t4 t5 hr
    generalize tellT ob [114] ib l2 = l3 at t3 t4 t5 hr
    generalize tellT om [] ib l3 = l4 at t4 t5 hr
    rw [← hr] at t5
    have T1 := hidX t1
    have T2 := hidX t2
    have T3 := hidX t3
    have T4 := hidX t4
    have T5 := hidX t5
    clear t1 t2 t3 t4 t5 hr HSH HOK
    have HIB := hidX hib
    have HOB := hidX hob
    have x0 := cell_of_blk hob 0
    have x1 := cell_of_blk hob 1
    have x2 := cell_of_blk hob 2
    have x3 := cell_of_blk hob 3
    have x4 := cell_of_blk hob 4
    have x5 := cell_of_blk hob 5
    have x6 := cell_of_blk hob 6
    have y0 := cell_of_blk hib 0
    have y1 := cell_of_blk hib 1
    have y2 := cell_of_blk hib 2
    have y3 := cell_of_blk hib 3
    have y4 := cell_of_blk hib 4
    clear hib hob
    go_wp2_with fail
    have hX : (w3.alloc (Obj.cells #[.string ⟨ok.toArray⟩] 9)).heap[w3.heap.size]? = some (.cells #[.string ⟨ok.toArray⟩] 9 (0, 0)) := heap_alloc_new _ _
    have hB1 : Below w.heap.size w (w3.alloc (Obj.cells #[.string ⟨ok.toArray⟩] 9)) := hbb3.alloc (Nat.le_of_lt hlt1) _
    have hib : (w3.alloc (Obj.cells #[.string ⟨ok.toArray⟩] 9)).heap[w.heap.size]? = some (.cells #[.string ⟨ip.toArray⟩, .int .i64 id, .int .i64 ia, .int .i64 ib, .int .i64 ii] 26 (0, 0)) := (Below.heap_alloc _ _ _ hlt1).trans HIB.out
    have hob : (w3.alloc (Obj.cells #[.string ⟨ok.toArray⟩] 9)).heap[w2.heap.size]? = some (.cells #[.string ⟨ok.toArray⟩, .string ⟨sg.toArray⟩, .bool od, .bool oa, .bool ob, .bool om, .bool oi] 36 (0, 0)) := (Below.heap_alloc _ _ _ hlt2).trans HOB.out
    have hlb := heap_lt hX
    clear HIB HOB x0 x1 x2 x3 x4 x5 y0 y1 y2 y3 y4
    refine (T1.out w3.heap.size _ hX ((HD.out _ hB1).up (by omega))).mono ?_
    rintro e v1 ⟨rfl, hv, hX1⟩
    have hB2 : Below w.heap.size w v1 := hB1.trans (hv.mono (Nat.le_of_lt hlt1))
    replace hib := (hv.block _ hlt1).trans hib
    replace hob := (hv.block _ hlt2).trans hob
    clear T1 hv hX hB1 hlb
    have hX := hX1
    have hlb := heap_lt hX
    clear hX1
    have x0 := cell_of_blk hob 0
    have x1 := cell_of_blk hob 1
    have x2 := cell_of_blk hob 2
    have x3 := cell_of_blk hob 3
    have x4 := cell_of_blk hob 4
    have x5 := cell_of_blk hob 5
    have x6 := cell_of_blk hob 6
    have y0 := cell_of_blk hib 0
    have y1 := cell_of_blk hib 1
    have y2 := cell_of_blk hib 2
    have y3 := cell_of_blk hib 3
    have y4 := cell_of_blk hib 4
    have HIB := hidX hib
    have HOB := hidX hob
    have HX := hidX hX
    have z := cell_of_blk hX 0
    clear hib hob hX
    go_wp2_with fail
    have hib := HIB.out
    have hob := HOB.out
    have hX := HX.out
    clear HIB HOB HX z x0 x1 x2 x3 x4 x5 y0 y1 y2 y3 y4
    refine (T2.out w3.heap.size _ hX ((HD.out _ hB2).up (by omega))).mono ?_
    rintro e v2 ⟨rfl, hv, hX2⟩
    have hB3 : Below w.heap.size w v2 := hB2.trans (hv.mono (Nat.le_of_lt hlt1))
    replace hib := (hv.block _ hlt1).trans hib
    replace hob := (hv.block _ hlt2).trans hob
    clear T2 hv hX hB2 hlb
    have hX := hX2
    have hlb := heap_lt hX
    clear hX2
    have x0 := cell_of_blk hob 0
    have x1 := cell_of_blk hob 1
    have x2 := cell_of_blk hob 2
    have x3 := cell_of_blk hob 3
    have x4 := cell_of_blk hob 4
    have x5 := cell_of_blk hob 5
    have x6 := cell_of_blk hob 6
    have y0 := cell_of_blk hib 0
    have y1 := cell_of_blk hib 1
    have y2 := cell_of_blk hib 2
    have y3 := cell_of_blk hib 3
    have y4 := cell_of_blk hib 4
    have HIB := hidX hib
    have HOB := hidX hob
    have HX := hidX hX
    have z := cell_of_blk hX 0
    clear hib hob hX
    go_wp2_with fail
    have hib := HIB.out
    have hob := HOB.out
    have hX := HX.out
    clear HIB HOB HX z x0 x1 x2 x3 x4 x5 y0 y1 y2 y3 y4
    refine (T3.out w3.heap.size _ hX ((HD.out _ hB3).up (by omega))).mono ?_
    rintro e v3 ⟨rfl, hv, hX3⟩
    have hB4 : Below w.heap.size w v3 := hB3.trans (hv.mono (Nat.le_of_lt hlt1))
    replace hib := (hv.block _ hlt1).trans hib
    replace hob := (hv.block _ hlt2).trans hob
    clear T3 hv hX hB3 hlb
    have hX := hX3
    have hlb := heap_lt hX
    clear hX3
    have x0 := cell_of_blk hob 0
    have x1 := cell_of_blk hob 1
    have x2 := cell_of_blk hob 2
    have x3 := cell_of_blk hob 3
    have x4 := cell_of_blk hob 4
    have x5 := cell_of_blk hob 5
    have x6 := cell_of_blk hob 6
    have y0 := cell_of_blk hib 0
    have y1 := cell_of_blk hib 1
    have y2 := cell_of_blk hib 2
    have y3 := cell_of_blk hib 3
    have y4 := cell_of_blk hib 4
    have HIB := hidX hib
    have HOB := hidX hob
    have HX := hidX hX
    have z := cell_of_blk hX 0
    clear hib hob hX
    go_wp2_with fail
    have hib := HIB.out
    have hob := HOB.out
    have hX := HX.out
    clear HIB HOB HX z x0 x1 x2 x3 x4 x5 y0 y1 y2 y3 y4
    refine (T4.out w3.heap.size _ hX ((HD.out _ hB4).up (by omega))).mono ?_
    rintro e v4 ⟨rfl, hv, hX4⟩
    have hB5 : Below w.heap.size w v4 := hB4.trans (hv.mono (Nat.le_of_lt hlt1))
    replace hib := (hv.block _ hlt1).trans hib
    replace hob := (hv.block _ hlt2).trans hob
    clear T4 hv hX hB4 hlb
    have hX := hX4
    have hlb := heap_lt hX
    clear hX4
    have x0 := cell_of_blk hob 0
    have x1 := cell_of_blk hob 1
    have x2 := cell_of_blk hob 2
    have x3 := cell_of_blk hob 3
    have x4 := cell_of_blk hob 4
    have x5 := cell_of_blk hob 5
    have x6 := cell_of_blk hob 6
    have y0 := cell_of_blk hib 0
    have y1 := cell_of_blk hib 1
    have y2 := cell_of_blk hib 2
    have y3 := cell_of_blk hib 3
    have y4 := cell_of_blk hib 4
    have HIB := hidX hib
    have HOB := hidX hob
    have HX := hidX hX
    have z := cell_of_blk hX 0
    clear hib hob hX
    go_wp2_with fail
    have hib := HIB.out
    have hob := HOB.out
    have hX := HX.out
    clear HIB HOB HX z x0 x1 x2 x3 x4 x5 y0 y1 y2 y3 y4
    refine (T5.out w3.heap.size _ hX ((HD.out _ hB5).up (by omega))).mono ?_
    rintro e v5 ⟨rfl, hv, hX5⟩
    have hB6 : Below w.heap.size w v5 := hB5.trans (hv.mono (Nat.le_of_lt hlt1))
    replace hib := (hv.block _ hlt1).trans hib
    replace hob := (hv.block _ hlt2).trans hob
    clear T5 hv hX hB5 hlb
    have hX := hX5
    have hlb := heap_lt hX
    clear hX5
    have x0 := cell_of_blk hob 0
    have x1 := cell_of_blk hob 1
    have x2 := cell_of_blk hob 2
    have x3 := cell_of_blk hob 3
    have x4 := cell_of_blk hob 4
    have x5 := cell_of_blk hob 5
    have x6 := cell_of_blk hob 6
    have y0 := cell_of_blk hib 0
    have y1 := cell_of_blk hib 1
    have y2 := cell_of_blk hib 2
    have y3 := cell_of_blk hib 3
    have y4 := cell_of_blk hib 4
    have HIB := hidX hib
    have HOB := hidX hob
    have HX := hidX hX
    have z := cell_of_blk hX 0
    clear hib hob hX
    go_wp2
    go_ret
    exact ⟨rfl, hB6⟩
end Go.Proofs.YtgcmegbfhhebpaaDoor
