/- Our own: texts joined: MoAt, MoDo, MoEnd, MoSw. -/
import Derived.Test.YtbcpomdcmilpjaaDoorXMoMem
import Derived.Test.YtbcpomdcmilpjaaDoorXMrHs
import Derived.Test.YtbcpomdcmilpjaaDoorXMaRun
import Derived.Test.YtbcpomdcmilpjaaDoorXMrE
import Derived.Test.YtbcpomdcmilpjaaDoorXCdM
import Derived.Test.YtbcpomdcmilpjaaDoorXBaseM
import Derived.Test.YtbcpomdcmilpjaaDoorXRefM
import Derived.Test.YtbcpomdcmilpjaaDoorXUntM
import Derived.BigQuiet
import Derived.Deep.RegionHeld3
import Derived.Deep.AppendLies
namespace Go.Proofs.YtbcpomdcmilpjaaDoor
open Go.RowKit
theorem enp_info : (Tryd.prog.info? 73).map (fun i => (i.zero, i.size, i.bytes)) = some (some (.pointer none), 1, 8) := by kernel_rfl
theorem enp_one (b : Nat) : ∀ u ∈ ([.pointer (some ⟨b, 0, none⟩)] : List Value), u.oneCell' = true := by
 intro u hu
 simp only [List.mem_cons, List.not_mem_nil, or_false] at hu
 rcases hu with rfl; rfl
structure AtM (I : Im) (ticks : Nat) (S0 : Sm) (n : Nat) (en : Int) (t : Nat) (S : List En) (g : Gm) (nx : List Int) : Prop where
 st : (0 ≤ en ∧ en < (I.funs.length : Int) ∧ itM I ticks n S0 = enterM I ticks g (S.map En.f) en nx t) ∨ (en = -1 ∧ ∃ e S', S = e :: S' ∧ itM I ticks n S0 = .run g e.f (S'.map En.f))
 t8 : t < 8
 ol : g.out.length ≤ 1000
 dl : S.length ≤ 40
 tk : g.ticks ≤ 1000000
 d8 : ∀ e ∈ S, e.f.d < 8
 pc : ∀ e ∈ S, e.f.pc ≤ I.words.length
structure RunM (I : Im) (ticks : Nat) (S0 : Sm) (n : Nat) (e : En) (S : List En) (g : Gm) : Prop where
 st : itM I ticks n S0 = .run g e.f (S.map En.f)
 ol : g.out.length ≤ 1000
 dl : S.length + 1 ≤ 40
 tk : g.ticks ≤ 1000000
 d8 : ∀ x ∈ e :: S, x.f.d < 8
 pc : ∀ x ∈ e :: S, x.f.pc ≤ I.words.length
def EndO (I : Im) (ticks most : Nat) (S0 : Sm) (how : List UInt8) (v : Int) (g : Gm) : Prop :=
 itM I ticks most S0 = .halt how v g ∨ (how = hLong ∧ v = 0 ∧ ∃ f fs, itM I ticks most S0 = .run g f fs)
def OutO (w : World) (I : Im) (ticks most : Nat) (S0 : Sm) (e : Ending) (w' : World) : Prop :=
 ∃ how v ov g, e = .returned (.agg #[.string ⟨(how : List UInt8).toArray⟩, .int .i64 v, ov, .int .i64 (g.ticks : Int)]) ∧ Below w.heap.size w w' ∧ w'.ownsRow w.heap.size 3 1 ov g.out.length (intsG g.out) ∧ g.out.length ≤ 1000 ∧ EndO I ticks most S0 how v g
theorem Eo.outO {w Y : World} {how : List UInt8} {v : Int} {ov : Value} {g : Gm} {I : Im} {ticks most : Nat} {S0 : Sm} (h : Eo w Y how v ov g) (hl : g.out.length ≤ 1000) (he : EndO I ticks most S0 how v g) : OutO w I ticks most S0 (.returned (.agg #[.string ⟨how.toArray⟩, .int .i64 v, ov, .int .i64 (g.ticks : Int)])) Y :=
 ⟨how, v, ov, g, rfl, h.low, h.out, hl, he⟩
theorem four_set {l : List Int} {q : Nat} (h : l.length ≤ 4) (hq : q < l.length) : (four (l.take q)).set q l[q] = four (l.take (q + 1)) := by
 apply List.ext_getElem?
 intro i
 have hz : ∀ n : Nat, n ≤ 4 → (four (l.take n))[i]? = if i < n ∧ i < l.length then l[i]? else if i < 4 then some 0 else none := fun n hn => by
  unfold four zeros
  by_cases h1 : i < n ∧ i < l.length
  ·rw [if_pos h1, List.getElem?_append_left (by rw [List.length_take]; omega), List.getElem?_take, if_pos h1.1]
  ·rw [if_neg h1]
   rcases Nat.lt_or_ge i (l.take n).length with h2 | h2
   ·rw [List.length_take] at h2; omega
   ·rw [List.getElem?_append_right h2, List.getElem?_replicate]
    rw [List.length_take] at h2 ⊢
    by_cases h4 : i < 4
    ·rw [if_pos (by omega), if_pos h4]
    ·rw [if_neg (by omega), if_neg h4]
 rw [List.getElem?_set]
 by_cases hi : q = i
 ·subst hi
  rw [if_pos rfl, if_pos (by unfold four zeros; simp; omega), hz (q + 1) (by omega), if_pos (by omega), List.getElem?_eq_getElem hq]
 ·rw [if_neg hi, hz q (by omega), hz (q + 1) (by omega)]
  by_cases h1 : i < q ∧ i < l.length
  ·rw [if_pos h1, if_pos (show i < q + 1 ∧ i < l.length by omega)]
  ·rw [if_neg h1, if_neg (show ¬ (i < q + 1 ∧ i < l.length) by omega)]
theorem four_in64 {l : List Int} (h : ∀ v ∈ l, In64 v) : ∀ v ∈ four l, In64 v := fun v hv => by
 unfold four zeros at hv
 rw [List.mem_append] at hv
 rcases hv with hv | hv
 ·exact h v hv
 ·rw [List.mem_replicate] at hv
  rw [hv.2]
  unfold In64
  omega
theorem four_atW (w : World) (a b c d : Obj) : ((((w.alloc a).alloc b).alloc c).alloc d).heap[w.heap.size]? = some a ∧ ((((w.alloc a).alloc b).alloc c).alloc d).heap[w.heap.size + 1]? = some b ∧ ((((w.alloc a).alloc b).alloc c).alloc d).heap[w.heap.size + 1 + 1]? = some c ∧ ((((w.alloc a).alloc b).alloc c).alloc d).heap[w.heap.size + 1 + 1 + 1]? = some d := by
 have z : ∀ (w : World) (o : Obj), (w.alloc o).heap.size = w.heap.size + 1 := fun w o => by simp
 have z1 := z w a
 have z2 := z (w.alloc a) b
 have z3 := z ((w.alloc a).alloc b) c
 have n1 := heap_alloc_new w a
 have n2 := heap_alloc_new (w.alloc a) b
 have n3 := heap_alloc_new ((w.alloc a).alloc b) c
 have n4 := heap_alloc_new (((w.alloc a).alloc b).alloc c) d
 rw [z1] at n2
 rw [z2, z1] at n3
 rw [z3, z2, z1] at n4
 refine ⟨?_, ?_, ?_, n4⟩
 ·rw [Below.heap_alloc _ _ _ (by omega), Below.heap_alloc _ _ _ (by omega), Below.heap_alloc _ _ _ (by omega)]; exact n1
 ·rw [Below.heap_alloc _ _ _ (by omega), Below.heap_alloc _ _ _ (by omega)]; exact n2
 ·rw [Below.heap_alloc _ _ _ (by omega)]; exact n3
theorem mo_start (w : World) (fv wv : Value) : Mo w ((((w.alloc (.cells #[fv, wv] 25)).alloc (.cells ocZ 40)).alloc (.cells ocZ 40)).alloc (.cells #[.int .i64 0, .int .i64 0, .int .i64 0, .int .i64 0] 67)) fv wv [] (.slice none 0 0) (.slice none 0 0) ⟨[], 0⟩ (four []) := by
 obtain ⟨h1, h2, h3, h4⟩ := four_atW w (.cells #[fv, wv] 25) (.cells ocZ 40) (.cells ocZ 40) (.cells #[.int .i64 0, .int .i64 0, .int .i64 0, .int .i64 0] 67)
 refine ⟨by (repeat (first | exact Below.refl _ _ | assumption | refine Below.drew ?_ | refine bT ?_ _ | refine bS ?_ _ | refine bA ?_ _)), h1, h2, h3, h4, World.ownsRow_nil _ _ _ _, World.ownsRow_nil _ _ _ _, ?_, List.nodup_nil, ?_, ?_, rfl, four_in64 ?_⟩
 ·intro e he; cases he
 ·intro b hb; cases hb
 ·intro b hb; simp [Value.ownBlock] at hb
 ·intro v hv; cases hv
set_option maxRecDepth 100000 in
theorem build_frame (hn : ByteArray) (hP : Int) (ns np t sb : Nat) (a0 a1 a2 a3 : Int) (w : World) :
  (Instr.build 76 #[(0, .agg #[.string hn, .int .i64 hP, .int .i64 (ns : Int), .int .i64 (np : Int)]), (2, .slice (some ⟨sb, 0, none⟩) ns ns), (3, .agg #[.int .i64 a0, .int .i64 a1, .int .i64 a2, .int .i64 a3]), (5, .int .i64 (np : Int)), (6, .int .i64 (t : Int))]).run Tryd.prog w = .ok (.agg #[.string hn, .int .i64 hP, .int .i64 (ns : Int), .int .i64 (np : Int), .int .i64 0, .int .i64 0, .int .i64 0, .int .i64 0, .int .i64 0, .int .i64 0, .int .i64 0, .int .i64 0, .slice (some ⟨sb, 0, none⟩) ns ns, .int .i64 a0, .int .i64 a1, .int .i64 a2, .int .i64 a3, .int .i64 0, .int .i64 0, .int .i64 0, .int .i64 0, .int .i64 (np : Int), .int .i64 (t : Int)]) w := by kernel_rfl
set_option maxRecDepth 100000 in
theorem box_frame (hn : ByteArray) (hP : Int) (ns np t sb : Nat) (a0 a1 a2 a3 : Int) (w : World) :
  (Instr.box 76 (.agg #[.string hn, .int .i64 hP, .int .i64 (ns : Int), .int .i64 (np : Int), .int .i64 0, .int .i64 0, .int .i64 0, .int .i64 0, .int .i64 0, .int .i64 0, .int .i64 0, .int .i64 0, .slice (some ⟨sb, 0, none⟩) ns ns, .int .i64 a0, .int .i64 a1, .int .i64 a2, .int .i64 a3, .int .i64 0, .int .i64 0, .int .i64 0, .int .i64 0, .int .i64 (np : Int), .int .i64 (t : Int)])).run Tryd.prog w = .ok (.pointer (some ⟨w.heap.size, 0, none⟩)) (w.alloc (.cells #[.string hn, .int .i64 hP, .int .i64 (ns : Int), .int .i64 (np : Int), .int .i64 0, .int .i64 0, .int .i64 0, .int .i64 0, .int .i64 0, .int .i64 0, .int .i64 0, .int .i64 0, .slice (some ⟨sb, 0, none⟩) ns ns, .int .i64 a0, .int .i64 a1, .int .i64 a2, .int .i64 a3, .int .i64 0, .int .i64 0, .int .i64 0, .int .i64 0, .int .i64 (np : Int), .int .i64 (t : Int)] 76)) := by kernel_rfl
set_option maxRecDepth 100000 in
theorem bslice_ptr (b : Nat) (w : World) :
  (Instr.buildSlice 72 1 #[(0, .pointer (some ⟨b, 0, none⟩))]).run Tryd.prog w = .ok (.slice (some ⟨w.heap.size, 0, none⟩) 1 1) (w.alloc (.cells #[.pointer (some ⟨b, 0, none⟩)] 73)) := by kernel_rfl
theorem z64 : In64 0 := by unfold In64; omega
theorem rep64 (n : Nat) : ∀ v ∈ List.replicate n (0 : Int), In64 v := fun v hv => by rw [(List.mem_replicate.1 hv).2]; exact z64
theorem fo_new {X : World} {B fb sb : Nat} (hn : List UInt8) (hP : Int) (ns np t : Nat) (a0 a1 a2 a3 : Int) (hB1 : B ≤ fb) (hB2 : B ≤ sb) (hns : ns ≤ 1000) (h64 : ∀ v ∈ [a0, a1, a2, a3], In64 v)
  (hf : X.heap[fb]? = some (.cells #[.string ⟨hn.toArray⟩, .int .i64 hP, .int .i64 (ns : Int), .int .i64 (np : Int), .int .i64 0, .int .i64 0, .int .i64 0, .int .i64 0, .int .i64 0, .int .i64 0, .int .i64 0, .int .i64 0, .slice (some ⟨sb, 0, none⟩) ns ns, .int .i64 a0, .int .i64 a1, .int .i64 a2, .int .i64 a3, .int .i64 0, .int .i64 0, .int .i64 0, .int .i64 0, .int .i64 (np : Int), .int .i64 (t : Int)] 76 (0, 0)))
  (hs : X.heap[sb]? = some (.cells (intsG (List.replicate ns 0)).toArray 3 (0, 0))) : Fo X B ⟨⟨hn, hP, ns, np⟩, newF ⟨hn, hP, ns, np⟩ [a0, a1, a2, a3] t, fb, sb⟩ := by
 have hsl : (newF ⟨hn, hP, ns, np⟩ [a0, a1, a2, a3] t).slots = List.replicate ns 0 := by simp [newF, zeros]
 refine ⟨hB1, hB2, ?_, by rw [hsl]; exact hs, by simp [newF, zeros], rfl, by simp [newF, zeros], by rw [hsl, List.length_replicate]; exact hns, rfl, by rw [hsl, List.length_replicate], rep64 8, h64, rep64 4, by rw [hsl]; exact rep64 ns⟩
 rw [hf]
 have : enL ⟨⟨hn, hP, ns, np⟩, newF ⟨hn, hP, ns, np⟩ [a0, a1, a2, a3] t, fb, sb⟩ = [.string ⟨hn.toArray⟩, .int .i64 hP, .int .i64 (ns : Int), .int .i64 (np : Int), .int .i64 0, .int .i64 0, .int .i64 0, .int .i64 0, .int .i64 0, .int .i64 0, .int .i64 0, .int .i64 0, .slice (some ⟨sb, 0, none⟩) ns ns, .int .i64 a0, .int .i64 a1, .int .i64 a2, .int .i64 a3, .int .i64 0, .int .i64 0, .int .i64 0, .int .i64 0, .int .i64 (np : Int), .int .i64 (t : Int)] := by
  simp [enL, En.sv, mfC, intsG, newF, zeros, List.replicate]
 rw [this]
end Go.Proofs.YtbcpomdcmilpjaaDoor
namespace Go.Proofs.YtbcpomdcmilpjaaDoor
open Go.RowKit
section
variable {I : Im} {m : Nat} {g : Gm} {f : Fm} {fs : List Fm} {i : Ci}
theorem doM_jump (h : i.op = mJump) : doM I m g f fs i = .run g (f.go i.imm.toNat) fs := by
 unfold doM; rw [if_pos h]
theorem doM_if (h : i.op = mIf) : doM I m g f fs i = .run g (if reg f i.a = 0 then f else f.go i.imm.toNat) fs := by
 unfold doM; rw [if_neg (by rw [h]; decide), if_pos h]
theorem doM_ret (h : i.op = mRet) : doM I m g f fs i = retM g fs f.d (reg f i.a) := by
 unfold doM; rw [if_neg (by rw [h]; decide), if_neg (by rw [h]; decide), if_pos h]
theorem doM_const (h : i.op = mConst) : doM I m g f fs i = .run g (f.put i.d.toNat i.imm) fs := by
 unfold doM; rw [if_neg (by rw [h]; decide), if_neg (by rw [h]; decide), if_neg (by rw [h]; decide), if_pos h]
theorem doM_high (h : i.op = mHigh) : doM I m g f fs i = .run g (f.put i.d.toNat (highV (reg f i.d) i.imm)) fs := by
 unfold doM; iterate 4 rw [if_neg (by rw [h]; decide)]
 rw [if_pos h]
theorem doM_move (h : i.op = mMove) : doM I m g f fs i = .run g (f.put i.d.toNat (reg f i.a)) fs := by
 unfold doM; iterate 5 rw [if_neg (by rw [h]; decide)]
 rw [if_pos h]
theorem doM_load (h : i.op = mLoad) : doM I m g f fs i = (if i.imm < f.slots.length then .run g (f.put i.d.toNat (f.slots.getD i.imm.toNat 0)) fs else .halt hStuck 0 g) := by
 unfold doM; iterate 6 rw [if_neg (by rw [h]; decide)]
 rw [if_pos h]
theorem doM_store (h : i.op = mStore) : doM I m g f fs i = (if i.imm < f.slots.length then .run g { f with slots := f.slots.set i.imm.toNat (reg f i.a) } fs else .halt hStuck 0 g) := by
 unfold doM; iterate 7 rw [if_neg (by rw [h]; decide)]
 rw [if_pos h]
theorem doM_param (h : i.op = mParam) : doM I m g f fs i = (if i.imm < f.params then .run g (f.put i.d.toNat (f.args.getD i.imm.toNat 0)) fs else .halt hStuck 0 g) := by
 unfold doM; iterate 8 rw [if_neg (by rw [h]; decide)]
 rw [if_pos h]
theorem doM_arg (h : i.op = mArg) : doM I m g f fs i = .run g { f with next := f.next.set i.imm.toNat (reg f i.a) } fs := by
 unfold doM; iterate 9 rw [if_neg (by rw [h]; decide)]
 rw [if_pos h]
theorem doM_call (h : i.op = mCall) : doM I m g f fs i = (if i.b = (funAt I i.imm).params then enterM I m g ({ f with next := zeros 4 } :: fs) i.imm f.next i.d.toNat else .halt hStuck 0 g) := by
 unfold doM; iterate 10 rw [if_neg (by rw [h]; decide)]
 rw [if_pos h]
theorem doM_tick (h : i.op = mTick) : doM I m g f fs i = (if m ≤ g.ticks then .halt hTired 0 g else .run ⟨g.out, g.ticks + 1⟩ f fs) := by
 unfold doM; iterate 11 rw [if_neg (by rw [h]; decide)]
 rw [if_pos h]
theorem doM_print (h : i.op = mPrint) : doM I m g f fs i = (if 1000 ≤ g.out.length then .halt hLoud 0 g else .run ⟨g.out ++ [reg f i.a], g.ticks⟩ f fs) := by
 unfold doM; iterate 12 rw [if_neg (by rw [h]; decide)]
 rw [if_pos h]
theorem doM_else (h1 : i.op ≠ mJump) (h2 : i.op ≠ mIf) (h3 : i.op ≠ mRet) (h4 : i.op ≠ mConst) (h5 : i.op ≠ mHigh) (h6 : i.op ≠ mMove) (h7 : i.op ≠ mLoad) (h8 : i.op ≠ mStore) (h9 : i.op ≠ mParam) (h10 : i.op ≠ mArg) (h11 : i.op ≠ mCall) (h12 : i.op ≠ mTick) (h13 : i.op ≠ mPrint) :
  doM I m g f fs i = .run g (f.put i.d.toNat (reckV i.op (reg f i.a) (reg f i.b))) fs := by
 unfold doM; rw [if_neg h1, if_neg h2, if_neg h3, if_neg h4, if_neg h5, if_neg h6, if_neg h7, if_neg h8, if_neg h9, if_neg h10, if_neg h11, if_neg h12, if_neg h13]
end
section
variable {I : Im} {ticks most : Nat} {S0 : Sm} {n : Nat} {e : En} {S : List En} {g : Gm} {nx : List Int}
theorem RunM.step (h : RunM I ticks S0 n e S g) (hl : e.f.pc < I.words.length) : itM I ticks (n + 1) S0 = doM I ticks g (e.f.go (e.f.pc + 1)) (S.map En.f) (decR I.words[e.f.pc]) := by
 rw [itM_one, h.st]; exact step_at rfl hl
theorem RunM.off (h : RunM I ticks S0 n e S g) (hl : I.words.length ≤ e.f.pc) : itM I ticks (n + 1) S0 = .halt hStuck 0 g := by
 rw [itM_one, h.st]; exact step_end rfl hl
theorem RunM.next (h : RunM I ticks S0 n e S g) {t : Nat} (ht : t < 8) {g' : Gm} {e' : En} (hst : itM I ticks (n + 1) S0 = .run g' e'.f (S.map En.f)) (hd : e'.f.d = e.f.d) (hp : e'.f.pc ≤ I.words.length) (hol : g'.out.length ≤ 1000) (htk : g'.ticks ≤ 1000000) {nx : List Int} :
  AtM I ticks S0 (n + 1) (-1) t (e' :: S) g' nx :=
 ⟨Or.inr ⟨rfl, e', S, rfl, hst⟩, ht, hol, by simpa using h.dl, htk, fun x hx => by
  rcases List.mem_cons.1 hx with rfl | hx
  ·rw [hd]; exact h.d8 e List.mem_cons_self
  ·exact h.d8 x (List.mem_cons_of_mem _ hx), fun x hx => by
  rcases List.mem_cons.1 hx with rfl | hx
  ·exact hp
  ·exact h.pc x (List.mem_cons_of_mem _ hx)⟩
theorem endO_of {how : List UInt8} {v : Int} (hst : itM I ticks (n + 1) S0 = .halt how v g) (hn : n < most) : EndO I ticks most S0 how v g := Or.inl (itM_stay hst (by omega))
end
end Go.Proofs.YtbcpomdcmilpjaaDoor
namespace Go.Proofs.YtbcpomdcmilpjaaDoor
open Go.RowKit
theorem coIn_cases (k : List UInt8) : ∀ (l : List Co) (n : Nat), (∃ q, ∃ h : q < l.length, coIn l n k = (n + q + 1, l[q]) ∧ l[q].kind = k) ∨ coIn l n k = (0, coN)
 | [], n => Or.inr rfl
 | x :: r, n => by
  by_cases h : x.kind = k
  ·exact Or.inl ⟨0, by simp, by rw [coIn, if_pos h]; rfl, h⟩
  ·rcases coIn_cases k r (n + 1) with ⟨q, hq, h1, h2⟩ | h1
   ·exact Or.inl ⟨q + 1, by simpa using hq, by rw [coIn, if_neg h, h1, show n + 1 + q + 1 = n + (q + 1) + 1 from by omega]; rfl, h2⟩
   ·exact Or.inr (by rw [coIn, if_neg h, h1])
theorem two_at : ∀ q : Fin 29, (coL[q.val]'q.isLt).sg ∈ twosE → (coL[q.val]'q.isLt).kind ≠ mNeg → 15 ≤ q.val := by decide
theorem two_no {op : List UInt8} (hm : (coNamed op).2.sg ∈ twosE) (h10 : op ≠ mNeg) : ∃ q, q < 14 ∧ (coNamed op).1 = q + 16 ∧ ∃ h : q < twosE.length, (coNamed op).2.sg = twosE[q] := by
 rcases coIn_cases op coL 0 with ⟨q, hq, h1, h2⟩ | h1
 ·have h1' : coNamed op = (0 + q + 1, coL[q]) := h1
  have hq29 : q < 29 := hq
  rw [h1'] at hm
  have h15 := two_at ⟨q, hq29⟩ hm (fun e => h10 (h2.symm.trans e))
  obtain ⟨h, hs⟩ := sg_at ⟨q, hq29⟩ h15
  dsimp only at h15 hs h
  exact ⟨q - 15, by omega, by rw [h1']; show 0 + q + 1 = q - 15 + 16; omega, h, by rw [h1']; exact hs⟩
 ·have h1' : coNamed op = _ := h1
  rw [h1'] at hm
  exact absurd hm (by decide)
section
variable {I : Im} {ticks most : Nat} {S0 : Sm} {n : Nat} {h : Mf} {f f' : Fm} {fb sb : Nat} {S : List En} {g : Gm} {nx : List Int}
theorem RunM.goes (H : RunM I ticks S0 n ⟨h, f, fb, sb⟩ S g) {t : Nat} (ht : t < 8) {g' : Gm} {s : Sm} (hst : itM I ticks (n + 1) S0 = s) (hs : s = .run g' f' (S.map En.f)) (hd : f'.d = f.d) (hp : f'.pc ≤ I.words.length) (hol : g'.out.length ≤ 1000) (htk : g'.ticks ≤ 1000000) :
  AtM I ticks S0 (n + 1) (-1) t (⟨h, f', fb, sb⟩ :: S) g' nx :=
 H.next ht (hst.trans hs) hd hp hol htk
theorem RunM.calls (H : RunM I ticks S0 n ⟨h, f, fb, sb⟩ S g) {t : Nat} (ht : t < 8) {s : Sm} {en : Int} (h0 : 0 ≤ en) (h1 : en < (I.funs.length : Int)) (hst : itM I ticks (n + 1) S0 = s) (hs : s = enterM I ticks g (f' :: S.map En.f) en nx t) (hd : f'.d = f.d) (hp : f'.pc ≤ I.words.length) :
  AtM I ticks S0 (n + 1) en t (⟨h, f', fb, sb⟩ :: S) g nx :=
 ⟨Or.inl ⟨h0, h1, hst.trans hs⟩, ht, H.ol, by simpa using H.dl, H.tk, fun x hx => by
  rcases List.mem_cons.1 hx with rfl | hx
  ·show f'.d < 8; rw [hd]; exact H.d8 _ List.mem_cons_self
  ·exact H.d8 x (List.mem_cons_of_mem _ hx), fun x hx => by
  rcases List.mem_cons.1 hx with rfl | hx
  ·exact hp
  ·exact H.pc x (List.mem_cons_of_mem _ hx)⟩
theorem RunM.back {c : En} {S2 : List En} (H : RunM I ticks S0 n ⟨h, f, fb, sb⟩ (c :: S2) g) {t : Nat} (ht : t < 8) {s : Sm} {c' : Fm} (hst : itM I ticks (n + 1) S0 = s) (hs : s = .run g c' (S2.map En.f)) (hd : c'.d = c.f.d) (hp : c'.pc = c.f.pc) :
  AtM I ticks S0 (n + 1) (-1) t (c.with c' :: S2) g nx :=
 ⟨Or.inr ⟨rfl, c.with c', S2, rfl, hst.trans hs⟩, ht, H.ol, by have := H.dl; simp only [List.length_cons] at this ⊢; omega, H.tk, fun x hx => by
  rcases List.mem_cons.1 hx with rfl | hx
  ·show c'.d < 8; rw [hd]; exact H.d8 c (List.mem_cons_of_mem _ List.mem_cons_self)
  ·exact H.d8 x (List.mem_cons_of_mem _ (List.mem_cons_of_mem _ hx)), fun x hx => by
  rcases List.mem_cons.1 hx with rfl | hx
  ·show c'.pc ≤ _; rw [hp]; exact H.pc c (List.mem_cons_of_mem _ List.mem_cons_self)
  ·exact H.pc x (List.mem_cons_of_mem _ (List.mem_cons_of_mem _ hx))⟩
theorem list4 {l : List Int} (h : l.length = 4) : ∃ a b c d, l = [a, b, c, d] := by
 match l, h with
 | [a, b, c, d], _ => exact ⟨a, b, c, d, rfl⟩
end
section
variable {w X Y : World} {fv wv cv ov : Value} {S : List En} {e : En} {g : Gm} {nx : List Int}
theorem own_le {B n m c : Nat} {t : TypeId} {ad : Option Addr} {xs : List Value} (h : X.ownsRow B t 1 (.slice ad m c) n xs) : n ≤ c ∧ (c : Int) ≤ 9223372036854775807 := by
 obtain ⟨_, ⟨_, h1⟩ | ⟨g, cap, cur, h1, _, _, h2, h3, _⟩⟩ := h
 ·next h0 => injection h0 with _ _ h0; subst h0 h1; simp
 ·injection h1 with _ _ h1; subst h1; unfold maxLen at h3; omega
theorem Mo.prints {w4 : World} {p cap : Nat} {v : Int} (h : Mo w X fv wv S cv ov g nx) (hg : X.grownBy w4 ov.ownBlock) (hown : w4.ownsRow (w.heap.size + 4) 3 1 (.slice (some ⟨p, 0, none⟩) (g.out.length + 1) cap) (g.out.length + 1) (intsG g.out ++ [.int .i64 v])) (hl : ov.ownBlock = some p ∨ p = X.heap.size) :
  Mo w (w4.setCell ⟨w.heap.size + 1 + 1, 2, none⟩ (.slice (some ⟨p, 0, none⟩) (g.out.length + 1) cap)) fv wv S cv (.slice (some ⟨p, 0, none⟩) (g.out.length + 1) cap) ⟨g.out ++ [v], g.ticks⟩ nx :=
 h.print (by show w4.ownsRow _ _ 1 _ (g.out ++ [v]).length (intsG (g.out ++ [v])); rw [intsG_snoc, List.length_append]; exact hown) hg (hl.elim (fun e => Or.inl (by rw [e]; rfl)) (fun e => Or.inr (by rw [e]; rfl)))
theorem set4_blk0 {r : Nat} {x0 x1 x2 x3 : Value} {t : TypeId} (h : X.heap[r]? = some (.cells #[x0, x1, x2, x3] t (0, 0))) (u0 u1 u2 u3 : Value) :
  ((((X.setCell ⟨r, 0, none⟩ u0).setCell ⟨r, 1, none⟩ u1).setCell ⟨r, 2, none⟩ u2).setCell ⟨r, 3, none⟩ u3).heap[r]? = some (.cells #[u0, u1, u2, u3] t (0, 0)) := by
 have := blk_setCell (blk_setCell (blk_setCell (blk_setCell h 0 u0) 1 u1) 2 u2) 3 u3
 simpa using this
theorem Mo.next4 (h : Mo w X fv wv S cv ov g nx) {x0 x1 x2 x3 : Int} (h64 : ∀ v ∈ [x0, x1, x2, x3], In64 v) :
  Mo w ((((X.setCell ⟨w.heap.size + 1 + 1 + 1, 0, none⟩ (.int .i64 x0)).setCell ⟨w.heap.size + 1 + 1 + 1, 1, none⟩ (.int .i64 x1)).setCell ⟨w.heap.size + 1 + 1 + 1, 2, none⟩ (.int .i64 x2)).setCell ⟨w.heap.size + 1 + 1 + 1, 3, none⟩ (.int .i64 x3)) fv wv S cv ov g [x0, x1, x2, x3] := by
 obtain ⟨y0, y1, y2, y3, rfl⟩ := list4 h.n4
 exact h.next (But.set (But.set (But.set (But.set (But.refl _ _) _ _) _ _) _ _) _ _) (set4_blk0 (x0 := .int .i64 y0) (x1 := .int .i64 y1) (x2 := .int .i64 y2) (x3 := .int .i64 y3) h.nb _ _ _ _) rfl h64
theorem zero4 {l : List Int} (h : l.length = 4) : (((l.set 0 0).set 1 0).set 2 0).set 3 0 = zeros 4 := by
 obtain ⟨a, b, c, d, rfl⟩ := list4 h
 rfl
theorem Mo.zero (h : Mo w X fv wv (e :: S) cv ov g nx) :
  Mo w ((((X.setCell ⟨e.fb, 17, none⟩ (.int .i64 0)).setCell ⟨e.fb, 18, none⟩ (.int .i64 0)).setCell ⟨e.fb, 19, none⟩ (.int .i64 0)).setCell ⟨e.fb, 20, none⟩ (.int .i64 0)) fv wv (e.with { e.f with next := zeros 4 } :: S) cv ov g nx := by
 have h4 := zero4 (h.fr e List.mem_cons_self).nl
 have H := (((h.told (k := 0) (by omega) z64).told (k := 1) (by omega) z64).told (k := 2) (by omega) z64).told (k := 3) (by omega) z64
 rw [← h4]
 exact H
end
end Go.Proofs.YtbcpomdcmilpjaaDoor
namespace Go.Proofs.YtbcpomdcmilpjaaDoor
open Go.RowKit
def blockOf (k : Nat) : Code → Option Code
 | .block m c => if m = k then some c else blockOf k c
 | .seq a b => match blockOf k a with
  | some c => some c
  | none => blockOf k b
 | .loop c => blockOf k c
 | .scope c => blockOf k c
 | .cond _ a b => match blockOf k a with
  | some c => some c
  | none => blockOf k b
 | _ => none
noncomputable def swC : Code := ((Tryd.f14.body.bind (blockOf 4)).getD .skip)
structure Sit (w W : World) (I : Im) (adf : Option Addr) (cf : Nat) (wv : Value) (ticks : Nat) (S0 : Sm) (n t : Nat) (h : Mf) (f : Fm) (fb sb ib : Nat) (S : List En) (cv ov : Value) (g : Gm) (nx : List Int) (v : Nat) (op : List UInt8) (d a b : Nat) (imm ra : Int) : Prop where
 mo : Mo w W (.slice adf I.funs.length cf) wv (⟨h, f.go (f.pc + 1), fb, sb⟩ :: S) cv ov g nx
 ins : W.heap[ib]? = some (.cells #[.string ⟨op.toArray⟩, .int .i64 (d : Int), .int .i64 (a : Int), .int .i64 (b : Int), .int .i64 imm] 55 (0, 0))
 run : RunM I ticks S0 n ⟨h, f, fb, sb⟩ S g
 st : itM I ticks (n + 1) S0 = doM I ticks g (f.go (f.pc + 1)) (S.map En.f) ⟨op, (d : Int), (a : Int), (b : Int), imm⟩
 ra : ra = f.regs.getD a 0
 dec : decR v = ⟨op, (d : Int), (a : Int), (b : Int), imm⟩
 okw : OkW I v
 t8 : t < 8
 pcl : f.pc < I.words.length
 fun_ : XMf (InH w) w (.slice adf I.funs.length cf) I.funs
 well : WellI I
 ibl : w.heap.size + 4 ≤ ib
 d8 : d < 8
 a8 : a < 8
 b8 : b < 8
 iml : -2147483648 ≤ imm
 imh : imm < 2147483648
 tkl : ticks ≤ 5000
structure SwN (w w' : World) (I : Im) (fv wv : Value) (ticks : Nat) (S0 : Sm) (n : Nat) (c12 c13 c16 : Value) : Prop where
 goes : ∃ (en : Int) (t : Nat) (S : List En) (ov : Value) (g : Gm) (nx : List Int), c13 = .int .i64 en ∧ c16 = .int .i64 (t : Int) ∧ AtM I ticks S0 (n + 1) en t S g nx ∧ Mo w w' fv wv S c12 ov g nx
structure SwE (w w' : World) (I : Im) (ticks most : Nat) (S0 : Sm) : Prop where
 ends : ∃ (how : List UInt8) (v : Int) (ov : Value) (g : Gm), Eo w w' how v ov g ∧ g.out.length ≤ 1000 ∧ EndO I ticks most S0 how v g
set_option maxRecDepth 100000 in
def NextH (w : World) (I : Im) (fv wv : Value) (ticks : Nat) (S0 : Sm) (n _most : Nat) (fb ib : Nat) (ra : Int) (op : List UInt8) (c0 c1 c2 c4 c6 c7 c8 c9 c15 c18 c21 c24 c25 c26 c27 c28 c29 c30 c31 c32 c33 c34 c35 c36 c37 c38 c39 c40 c41 c42 c43 c44 c45 c46 c47 c48 c49 c50 c51 c52 c53 c54 c55 c56 c57 c58 c59 c60 c61 c62 c63 c64 c65 c66 c67 c68 c69 c70 c71 c72 c73 c74 c75 c76 c77 c78 c79 c80 c81 c82 c83 c84 c85 c86 c87 c88 c89 c90 c91 c92 c93 c94 c95 c96 c97 c98 c99 c100 c101 c102 c103 c104 c105 c106 c107 c108 c109 c110 c111 c112 c113 c114 c115 c116 c117 c118 c119 c120 c121 c122 c123 c124 c375 c376 : Value) (Q : Exit → Act → World → Prop) : Prop :=
 ∀ (u12 u13 u16 u23 u126 u127 u128 u129 u130 u131 u132 u133 u134 u135 u136 u137 u138 u139 u140 u141 u142 u143 u144 u145 u146 u147 u148 u149 u150 u151 u152 u153 u154 u155 u156 u157 u158 u159 u160 u161 u162 u163 u164 u165 u166 u167 u168 u169 u170 u171 u172 u173 u174 u175 u176 u177 u178 u179 u180 u181 u182 u183 u184 u185 u186 u187 u188 u189 u190 u191 u192 u193 u194 u195 u196 u197 u198 u199 u200 u201 u202 u203 u204 u205 u206 u207 u208 u209 u210 u211 u212 u213 u214 u215 u216 u217 u218 u219 u220 u221 u222 u223 u224 u225 u226 u227 u228 u229 u230 u231 u232 u233 u234 u235 u236 u237 u238 u239 u240 u241 u242 u243 u244 u245 u246 u247 u248 u249 u250 u251 u252 u253 u254 u255 u256 u257 u258 u259 u260 u261 u262 u263 u264 u265 u266 u267 u268 u269 u270 u271 u272 u273 u274 u275 u276 u277 u278 u279 u280 u281 u282 u283 u284 u285 u286 u287 u288 u289 u290 u291 u292 u293 u294 u295 u296 u297 u298 u299 u300 u301 u302 u303 u304 u305 u306 u307 u308 u309 u310 u311 u312 u313 u314 u315 u316 u317 u318 u319 u320 u321 u322 u323 u324 u325 u326 u327 u328 u329 u330 u331 u332 u333 u334 u335 u336 u337 u338 u339 u340 u341 u342 u343 u344 u345 u346 u347 u348 u349 u350 u351 u352 u353 u354 u355 u356 u357 u358 u359 u360 u361 u362 u363 u364 u365 u366 u367 u368 u369 u370 u371 u372 u373 u374 : Value) (w' : World), SwN w w' I fv wv ticks S0 n u12 u13 u16 → Q .normal ⟨#[c0, c1, c2, .int .i64 (ticks : Int), c4, .pointer (some ⟨w.heap.size, 0, none⟩), c6, c7, c8, c9, .pointer (some ⟨w.heap.size + 1, 0, none⟩), .pointer (some ⟨w.heap.size + 1 + 1, 0, none⟩), u12, u13, .pointer (some ⟨w.heap.size + 1 + 1 + 1, 0, none⟩), c15, u16, .int .i64 (n : Int), c18, .pointer (some ⟨fb, 0, none⟩), .pointer (some ⟨ib, 0, none⟩), c21, .int .i64 ra, u23, c24, c25, c26, c27, c28, c29, c30, c31, c32, c33, c34, c35, c36, c37, c38, c39, c40, c41, c42, c43, c44, c45, c46, c47, c48, c49, c50, c51, c52, c53, c54, c55, c56, c57, c58, c59, c60, c61, c62, c63, c64, c65, c66, c67, c68, c69, c70, c71, c72, c73, c74, c75, c76, c77, c78, c79, c80, c81, c82, c83, c84, c85, c86, c87, c88, c89, c90, c91, c92, c93, c94, c95, c96, c97, c98, c99, c100, c101, c102, c103, c104, c105, c106, c107, c108, c109, c110, c111, c112, c113, c114, c115, c116, c117, c118, c119, c120, c121, c122, c123, c124, .string ⟨op.toArray⟩, u126, u127, u128, u129, u130, u131, u132, u133, u134, u135, u136, u137, u138, u139, u140, u141, u142, u143, u144, u145, u146, u147, u148, u149, u150, u151, u152, u153, u154, u155, u156, u157, u158, u159, u160, u161, u162, u163, u164, u165, u166, u167, u168, u169, u170, u171, u172, u173, u174, u175, u176, u177, u178, u179, u180, u181, u182, u183, u184, u185, u186, u187, u188, u189, u190, u191, u192, u193, u194, u195, u196, u197, u198, u199, u200, u201, u202, u203, u204, u205, u206, u207, u208, u209, u210, u211, u212, u213, u214, u215, u216, u217, u218, u219, u220, u221, u222, u223, u224, u225, u226, u227, u228, u229, u230, u231, u232, u233, u234, u235, u236, u237, u238, u239, u240, u241, u242, u243, u244, u245, u246, u247, u248, u249, u250, u251, u252, u253, u254, u255, u256, u257, u258, u259, u260, u261, u262, u263, u264, u265, u266, u267, u268, u269, u270, u271, u272, u273, u274, u275, u276, u277, u278, u279, u280, u281, u282, u283, u284, u285, u286, u287, u288, u289, u290, u291, u292, u293, u294, u295, u296, u297, u298, u299, u300, u301, u302, u303, u304, u305, u306, u307, u308, u309, u310, u311, u312, u313, u314, u315, u316, u317, u318, u319, u320, u321, u322, u323, u324, u325, u326, u327, u328, u329, u330, u331, u332, u333, u334, u335, u336, u337, u338, u339, u340, u341, u342, u343, u344, u345, u346, u347, u348, u349, u350, u351, u352, u353, u354, u355, u356, u357, u358, u359, u360, u361, u362, u363, u364, u365, u366, u367, u368, u369, u370, u371, u372, u373, u374, c375, c376], []⟩ w'
set_option maxRecDepth 100000 in
def RetH (w : World) (I : Im) (_fv _wv : Value) (ticks : Nat) (S0 : Sm) (n most : Nat) (fb ib : Nat) (ra : Int) (op : List UInt8) (c0 c1 c2 c4 c6 c7 c8 c9 c15 c18 c21 c24 c25 c26 c27 c28 c29 c30 c31 c32 c33 c34 c35 c36 c37 c38 c39 c40 c41 c42 c43 c44 c45 c46 c47 c48 c49 c50 c51 c52 c53 c54 c55 c56 c57 c58 c59 c60 c61 c62 c63 c64 c65 c66 c67 c68 c69 c70 c71 c72 c73 c74 c75 c76 c77 c78 c79 c80 c81 c82 c83 c84 c85 c86 c87 c88 c89 c90 c91 c92 c93 c94 c95 c96 c97 c98 c99 c100 c101 c102 c103 c104 c105 c106 c107 c108 c109 c110 c111 c112 c113 c114 c115 c116 c117 c118 c119 c120 c121 c122 c123 c124 c375 c376 : Value) (Q : Exit → Act → World → Prop) : Prop :=
 ∀ (u12 u13 u16 u23 u126 u127 u128 u129 u130 u131 u132 u133 u134 u135 u136 u137 u138 u139 u140 u141 u142 u143 u144 u145 u146 u147 u148 u149 u150 u151 u152 u153 u154 u155 u156 u157 u158 u159 u160 u161 u162 u163 u164 u165 u166 u167 u168 u169 u170 u171 u172 u173 u174 u175 u176 u177 u178 u179 u180 u181 u182 u183 u184 u185 u186 u187 u188 u189 u190 u191 u192 u193 u194 u195 u196 u197 u198 u199 u200 u201 u202 u203 u204 u205 u206 u207 u208 u209 u210 u211 u212 u213 u214 u215 u216 u217 u218 u219 u220 u221 u222 u223 u224 u225 u226 u227 u228 u229 u230 u231 u232 u233 u234 u235 u236 u237 u238 u239 u240 u241 u242 u243 u244 u245 u246 u247 u248 u249 u250 u251 u252 u253 u254 u255 u256 u257 u258 u259 u260 u261 u262 u263 u264 u265 u266 u267 u268 u269 u270 u271 u272 u273 u274 u275 u276 u277 u278 u279 u280 u281 u282 u283 u284 u285 u286 u287 u288 u289 u290 u291 u292 u293 u294 u295 u296 u297 u298 u299 u300 u301 u302 u303 u304 u305 u306 u307 u308 u309 u310 u311 u312 u313 u314 u315 u316 u317 u318 u319 u320 u321 u322 u323 u324 u325 u326 u327 u328 u329 u330 u331 u332 u333 u334 u335 u336 u337 u338 u339 u340 u341 u342 u343 u344 u345 u346 u347 u348 u349 u350 u351 u352 u353 u354 u355 u356 u357 u358 u359 u360 u361 u362 u363 u364 u365 u366 u367 u368 u369 u370 u371 u372 u373 u374 : Value) (w' : World), SwE w w' I ticks most S0 → Q .ret ⟨#[c0, c1, c2, .int .i64 (ticks : Int), c4, .pointer (some ⟨w.heap.size, 0, none⟩), c6, c7, c8, c9, .pointer (some ⟨w.heap.size + 1, 0, none⟩), .pointer (some ⟨w.heap.size + 1 + 1, 0, none⟩), u12, u13, .pointer (some ⟨w.heap.size + 1 + 1 + 1, 0, none⟩), c15, u16, .int .i64 (n : Int), c18, .pointer (some ⟨fb, 0, none⟩), .pointer (some ⟨ib, 0, none⟩), c21, .int .i64 ra, u23, c24, c25, c26, c27, c28, c29, c30, c31, c32, c33, c34, c35, c36, c37, c38, c39, c40, c41, c42, c43, c44, c45, c46, c47, c48, c49, c50, c51, c52, c53, c54, c55, c56, c57, c58, c59, c60, c61, c62, c63, c64, c65, c66, c67, c68, c69, c70, c71, c72, c73, c74, c75, c76, c77, c78, c79, c80, c81, c82, c83, c84, c85, c86, c87, c88, c89, c90, c91, c92, c93, c94, c95, c96, c97, c98, c99, c100, c101, c102, c103, c104, c105, c106, c107, c108, c109, c110, c111, c112, c113, c114, c115, c116, c117, c118, c119, c120, c121, c122, c123, c124, .string ⟨op.toArray⟩, u126, u127, u128, u129, u130, u131, u132, u133, u134, u135, u136, u137, u138, u139, u140, u141, u142, u143, u144, u145, u146, u147, u148, u149, u150, u151, u152, u153, u154, u155, u156, u157, u158, u159, u160, u161, u162, u163, u164, u165, u166, u167, u168, u169, u170, u171, u172, u173, u174, u175, u176, u177, u178, u179, u180, u181, u182, u183, u184, u185, u186, u187, u188, u189, u190, u191, u192, u193, u194, u195, u196, u197, u198, u199, u200, u201, u202, u203, u204, u205, u206, u207, u208, u209, u210, u211, u212, u213, u214, u215, u216, u217, u218, u219, u220, u221, u222, u223, u224, u225, u226, u227, u228, u229, u230, u231, u232, u233, u234, u235, u236, u237, u238, u239, u240, u241, u242, u243, u244, u245, u246, u247, u248, u249, u250, u251, u252, u253, u254, u255, u256, u257, u258, u259, u260, u261, u262, u263, u264, u265, u266, u267, u268, u269, u270, u271, u272, u273, u274, u275, u276, u277, u278, u279, u280, u281, u282, u283, u284, u285, u286, u287, u288, u289, u290, u291, u292, u293, u294, u295, u296, u297, u298, u299, u300, u301, u302, u303, u304, u305, u306, u307, u308, u309, u310, u311, u312, u313, u314, u315, u316, u317, u318, u319, u320, u321, u322, u323, u324, u325, u326, u327, u328, u329, u330, u331, u332, u333, u334, u335, u336, u337, u338, u339, u340, u341, u342, u343, u344, u345, u346, u347, u348, u349, u350, u351, u352, u353, u354, u355, u356, u357, u358, u359, u360, u361, u362, u363, u364, u365, u366, u367, u368, u369, u370, u371, u372, u373, u374, c375, c376], []⟩ w'
end Go.Proofs.YtbcpomdcmilpjaaDoor
