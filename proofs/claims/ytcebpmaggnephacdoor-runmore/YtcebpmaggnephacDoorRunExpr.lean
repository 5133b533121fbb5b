/-
  Our own: package run: an expression.
-/
import Derived.Test.YtcebpmaggnephacDoorRunEnv
import Derived.Test.YtcebpmaggnephacDoorCheckExpr
import Derived.Deep.OwnRows
import Derived.Deep.RegionHeld3
namespace Go.Proofs.YtcebpmaggnephacDoor
open Go.RowKit Go.Maps

/-- What ops do. -/
def runOps : Ops := ⟨fun m a => if m = [45] then wrap64 (-a) else vBit (a = 0), fun m a b => vOp ⟨m.toArray⟩ a b⟩
theorem bit64 (p : Prop) [Decidable p] : In64 (vBit p) := by rcases vBit_ex p with h | h <;> rw [h] <;> unfold In64 <;> omega
theorem pow_succ_divR (a : Int) (k : Nat) : a / 2 ^ k / 2 = a / 2 ^ (k + 1) := by
  rw [Int.pow_succ, Int.ediv_ediv_of_nonneg (Int.pow_nonneg (by decide))]
theorem div_in64R (a : Int) (k : Nat) (ha : In64 a) : In64 (a / 2 ^ k) := by
  induction k with
  | zero => simpa using ha
  | succ k ih =>
    rw [← pow_succ_divR]
    unfold In64 at *
    omega
theorem ite64 {p : Prop} [Decidable p] {a b : Int} (ha : In64 a) (hb : In64 b) : In64 (if p then a else b) := by split <;> assumption
theorem vOp_fit (m : List UInt8) (a b : Int) (ha : In64 a) : In64 (vOp ⟨m.toArray⟩ a b) := by
  unfold vOp
  exact (ite64 (wrap64_in64 _) (ite64 (wrap64_in64 _) (ite64 (wrap64_in64 _) (ite64 (by unfold vQuo; exact ite64 zero64 (wrap64_in64 _)) (ite64 (by unfold vRem; exact ite64 ha (tmod_in64 ha)) (ite64 (bits_in64 _ _ _) (ite64 (bits_in64 _ _ _) (ite64 (bits_in64 _ _ _) (ite64 (wrap64_in64 _) (ite64 (div_in64R a _ ha) (ite64 (bit64 _) (ite64 (bit64 _) (ite64 (bit64 _) (ite64 (bit64 _) zero64))))))))))))))
theorem runOps_fit : runOps.Fit := ⟨fun m a _ => by
  show In64 (if m = [45] then wrap64 (-a) else vBit (a = 0))
  split
  · exact wrap64_in64 _
  · exact bit64 _, fun m a b ha _ => vOp_fit m a b ha⟩
/-- What an expression, a call comes to. -/
def VTo (w : World) (B mb nb : Nat) (fv ov : Value) (F : List Fu) (most d : Nat) (r : Vr) (e : Ending) (w' : World) : Prop :=
  Fr (Sx mb ov.ownBlock) w w' ∧ ∃ ov', RowB w ov.ownBlock ov'.ownBlock ∧ match r with
    | .stop c s => e = .returned (.tuple #[.int .i64 0, .bool false]) ∧ Mach w' B mb nb fv ov' F (howS c) s most d
    | .val v s => e = .returned (.tuple #[.int .i64 v, .bool true]) ∧ Mach w' B mb nb fv ov' F [] s most d
theorem vto_base {X X' w' : World} {B mb nb : Nat} {fv ov : Value} {F : List Fu} {most d : Nat} {r : Vr} {e : Ending} (h : VTo X' B mb nb fv ov F most d r e w') (hb : Below X.heap.size X X') : VTo X B mb nb fv ov F most d r e w' := by
  obtain ⟨h1, ov', h2, h3⟩ := h
  exact ⟨(Fr.of hb).trans h1 (fun _ _ h => h), ov', h2.mono hb.size, h3⟩
theorem vto_val {w w' : World} {B mb nb : Nat} {fv ov ov' : Value} {F : List Fu} {most d : Nat} {r : Vr} {v : Int} {s : Ms} (hr : r = .val v s) (hf : Fr (Sx mb ov.ownBlock) w w') (ho : RowB w ov.ownBlock ov'.ownBlock) (hm : Mach w' B mb nb fv ov' F [] s most d) : VTo w B mb nb fv ov F most d r (.returned (.tuple #[.int .i64 v, .bool true])) w' := by
  subst hr; exact ⟨hf, ov', ho, rfl, hm⟩
theorem vto_stop {w w' : World} {B mb nb : Nat} {fv ov ov' : Value} {F : List Fu} {most d : Nat} {r : Vr} {c : Stop} {s : Ms} (hr : r = .stop c s) (hf : Fr (Sx mb ov.ownBlock) w w') (ho : RowB w ov.ownBlock ov'.ownBlock) (hm : Mach w' B mb nb fv ov' F (howS c) s most d) : VTo w B mb nb fv ov F most d r (.returned (.tuple #[.int .i64 0, .bool false])) w' := by
  subst hr; exact ⟨hf, ov', ho, rfl, hm⟩
theorem vto_tuple {w w' : World} {B mb nb : Nat} {fv ov : Value} {F : List Fu} {most d : Nat} {r : Vr} {e : Ending} (h : VTo w B mb nb fv ov F most d r e w') : ∃ v ok, e = .returned (.tuple #[.int .i64 v, .bool ok]) ∧ VTo w B mb nb fv ov F most d r (.returned (.tuple #[.int .i64 v, .bool ok])) w' := by
  obtain ⟨h1, ov', h2, h3⟩ := h
  cases r with
  | stop c s => exact ⟨0, false, h3.1, h1, ov', h2, rfl, h3.2⟩
  | val v s => exact ⟨v, true, h3.1, h1, ov', h2, rfl, h3.2⟩
theorem vto_from {w X w' : World} {B mb nb : Nat} {fv ov ovq : Value} {F : List Fu} {most d : Nat} {r : Vr} {e : Ending} (h : VTo X B mb nb fv ovq F most d r e w') (hf : Fr (Sx mb ov.ownBlock) w X) (hr : RowB w ov.ownBlock ovq.ownBlock) : VTo w B mb nb fv ov F most d r e w' := by
  obtain ⟨h1, ov', h2, h3⟩ := h
  exact ⟨hf.trans h1 (fun i hi hs => Sx.next hr hi hs), ov', hr.trans h2 hf.size, h3⟩
theorem one_op (m : List UInt8) (hm : m ∈ onesE) (a : Int) (w : World) : Calls Tryd.prog 78 #[.string ⟨m.toArray⟩, .int .i64 a] w fun e w' => e = .returned (.tuple #[.int .i64 (runOps.one m a), .nilIface]) ∧ w' = w := by
  unfold onesE at hm
  simp only [List.mem_cons, List.not_mem_nil, or_false] at hm
  rcases hm with rfl | rfl
  · exact one_neg a w
  · exact one_not a w
theorem two_op (m : List UInt8) (hm : m ∈ twosE) (a b : Int) (w : World) : Calls Tryd.prog 79 #[.string ⟨m.toArray⟩, .int .i64 a, .int .i64 b] w fun e w' => e = .returned (.tuple #[.int .i64 (runOps.two m a b), .nilIface]) ∧ w' = w := by
  refine do_any ⟨m.toArray⟩ ?_ a b w
  unfold twosE at hm
  simp only [List.mem_cons, List.not_mem_nil, or_false] at hm
  rcases hm with rfl | rfl | rfl | rfl | rfl | rfl | rfl | rfl | rfl | rfl | rfl | rfl | rfl | rfl <;> simp [opsTwo]
def CallT (F : List Fu) (most N : Nat) : Prop := ∀ (w : World) (B mb nb d : Nat) (fv ov argv : Value) (s : Ms) (m : List UInt8) (args : List Int), Mach w B mb nb fv ov F [] s most d → (∃ f ∈ F, f.name = m ∧ f.params.length = args.length) → (∀ v ∈ args, In64 v) → m.length ≤ 20 → most - s.ticks < N → XRow (fun b => b < w.heap.size ∧ b ≠ mb ∧ ov.ownBlock ≠ some b) w argv args.length (intsC args) →
  Calls Tryd.prog 35 #[.pointer (some ⟨mb, 0, none⟩), .string ⟨m.toArray⟩, argv] w (VTo w B mb nb fv ov F most d (callX runOps most F N d m args s))
def ExT (F : List Fu) (most N : Nat) (e : Ex) : Prop := ∀ (w : World) (B mb nb fb vb d : Nat) (fv ov : Value) (s : Ms) (env : Env) (V : List (List UInt8)) (ans : Int) (cs : List Value), Mach w B mb nb fv ov F [] s most d → Fram w B mb fb vb env V ans → ov.ownBlock ≠ some fb → Env64 env → XE (fun b => b < B) w e cs → LowE e → WfE F e → most - s.ticks < N →
  Calls Tryd.prog 67 #[.pointer (some ⟨fb, 0, none⟩), .agg cs.toArray] w (VTo w B mb nb fv ov F most d (exprX runOps (callX runOps most F N d) env e s))
/-- Kids' numbers, as far as they are there. -/
def KidsAt (w : World) (kb n : Nat) (vs : List Int) : Prop := ∃ cs : Array Value, w.heap[kb]? = some (.cells cs 3 (0, 0)) ∧ cs.size = n ∧ vs.length ≤ n ∧ (∀ i (hi : i < vs.length), cs[i]? = some (.int .i64 vs[i])) ∧ ∀ i, i < n → ∃ u, cs[i]? = some (.int .i64 u)
theorem kids_made (w : World) (n : Nat) : KidsAt (w.alloc (.cells (madeCells #[.int .i64 0] n) 3)) w.heap.size n [] :=
  ⟨_, heap_alloc_new w _, size_madeCells _ _, Nat.zero_le _, fun i hi => absurd hi (by simp), fun i hi => ⟨0, by simp [madeCells, hi, Nat.mod_one]⟩⟩
theorem KidsAt.keep {w w' : World} {kb n : Nat} {vs : List Int} (h : KidsAt w kb n vs) (e : w'.heap[kb]? = w.heap[kb]?) : KidsAt w' kb n vs := by
  obtain ⟨cs, h1, h2⟩ := h
  exact ⟨cs, e.trans h1, h2⟩
theorem KidsAt.lt {w : World} {kb n : Nat} {vs : List Int} (h : KidsAt w kb n vs) : kb < w.heap.size := by
  obtain ⟨cs, h1, _⟩ := h; exact heap_lt h1
theorem KidsAt.cell {w : World} {kb n : Nat} {vs : List Int} (h : KidsAt w kb n vs) {i : Nat} (hi : i < n) : ∃ u, w.cell? ⟨kb, i, none⟩ = some (.int .i64 u) ∧ w.frozen? ⟨kb, i, none⟩ = false := by
  obtain ⟨cs, h1, h2, h3, h4, h5⟩ := h
  obtain ⟨u, hu⟩ := h5 i hi
  exact ⟨u, (cell_of_blk h1 i).trans hu, free_of_blk h1 i⟩
theorem KidsAt.val {w : World} {kb n : Nat} {vs : List Int} (h : KidsAt w kb n vs) {i : Nat} (hi : i < vs.length) : w.cell? ⟨kb, i, none⟩ = some (.int .i64 vs[i]) := by
  obtain ⟨cs, h1, h2, h3, h4, h5⟩ := h
  exact (cell_of_blk h1 i).trans (h4 i hi)
theorem KidsAt.set {w : World} {kb n : Nat} {vs : List Int} (h : KidsAt w kb n vs) (hi : vs.length < n) (v : Int) : KidsAt (w.setCell ⟨kb, vs.length, none⟩ (.int .i64 v)) kb n (vs ++ [v]) := by
  obtain ⟨cs, h1, h2, h3, h4, h5⟩ := h
  refine ⟨_, blk_setCell h1 vs.length (.int .i64 v), by simp [h2], by simp; omega, fun i hi2 => ?_, fun i hi2 => ?_⟩
  · by_cases e : i = vs.length
    · subst e
      rw [Array.getElem?_setIfInBounds_self_of_lt (by omega)]
      simp
    · have hlt : i < vs.length := by simp at hi2; omega
      rw [Array.getElem?_setIfInBounds_ne (by omega), h4 i hlt, List.getElem_append_left hlt]
  · by_cases e : i = vs.length
    · subst e
      exact ⟨v, Array.getElem?_setIfInBounds_self_of_lt (by omega)⟩
    · rw [Array.getElem?_setIfInBounds_ne (by omega)]; exact h5 i hi2
theorem KidsAt.row {w : World} {kb n : Nat} {vs : List Int} (h : KidsAt w kb n vs) {mb : Nat} (hne : kb ≠ mb) {oo : Option Nat} (hoo : oo ≠ some kb) : XRow (fun b => b < w.heap.size ∧ b ≠ mb ∧ oo ≠ some b) w (.slice (some ⟨kb, 0, none⟩) vs.length n) vs.length (intsC vs) := by
  refine ⟨_, _, rfl, fun _ => ⟨kb, 0, rfl, ⟨h.lt, hne, hoo⟩, fun j u hj => ?_⟩⟩
  have hl : j < vs.length := by
    rcases Nat.lt_or_ge j vs.length with hl | hl
    · exact hl
    · rw [List.getElem?_eq_none (by simp [intsC]; exact hl)] at hj; cases hj
  rw [Nat.zero_add, h.val hl]
  rw [← hj]; simp [intsC, hl]
theorem two_newR (w : World) (a b : Obj) : ((w.alloc a).alloc b).heap[w.heap.size]? = some a := (Below.heap_alloc (w.alloc a) b _ (by simp)).trans (heap_alloc_new w a)
/-- A block of no concern is written. -/
theorem Mach.far {w w' : World} {B mb nb : Nat} {fv ov : Value} {F : List Fu} {how : List UInt8} {s : Ms} {most d : Nat} (h : Mach w B mb nb fv ov F how s most d) {b : Nat} (hb : ∀ c, c < w.heap.size → c ≠ b → w'.heap[c]? = w.heap[c]?) (hB : B ≤ b) (h1 : b ≠ mb) (h2 : b ≠ nb) (h3 : ov.ownBlock ≠ some b) : Mach w' B mb nb fv ov F how s most d :=
  ⟨h.hp, h.hn, h.ne, (hb mb h.mlt h1.symm).trans h.blk, h.fs.imp (fun _ h => h) (fun c hc => hb c (by have := h.mlt; have := h.hp; omega) (by omega)), own_same h.own (fun c e => hb c (h.own.lt c e).2 (fun e' => h3 (e' ▸ e))), h.n1, h.n2, h.nums.keep (hb nb h.nums.lt h2.symm), h.tl, h.ml, h.ol, h.dl⟩
theorem exprsX_stop {O : Ops} {K : CallF} {env : Env} {l : List Ex} {q : Nat} (h : q < l.length) {s sq s' : Ms} {vs : List Int} {c : Stop} (h1 : exprsX O K env (l.take q) s = .vals vs sq) (h2 : exprX O K env l[q] sq = .stop c s') : exprsX O K env l s = .stop c s' := by
  have key : ∀ (a b : List Ex) (s : Ms) (vs : List Int) (sq : Ms), exprsX O K env a s = .vals vs sq → exprsX O K env b sq = .stop c s' → exprsX O K env (a ++ b) s = .stop c s' := by
    intro a
    induction a with
    | nil => intro b s vs sq h1 h2; rw [exprsX] at h1; cases h1; exact h2
    | cons x r ih =>
      intro b s vs sq h1 h2
      rw [List.cons_append, exprsX]
      rw [exprsX] at h1
      cases hx : exprX O K env x s with
      | stop c s1 => rw [hx] at h1; cases h1
      | val v s1 =>
        rw [hx] at h1
        simp only at h1 ⊢
        cases hr : exprsX O K env r s1 with
        | stop c s2 => rw [hr] at h1; cases h1
        | vals l2 s2 =>
          rw [hr] at h1
          injection h1 with e1 e2
          subst e2
          rw [ih b s1 l2 s2 hr h2]
  have e : l = l.take q ++ (l[q] :: l.drop (q + 1)) := by rw [List.getElem_cons_drop h, List.take_append_drop]
  rw [e]
  exact key _ _ s vs sq h1 (by rw [exprsX, h2])
theorem exprsX_next {O : Ops} {K : CallF} {env : Env} {l : List Ex} {q : Nat} (h : q < l.length) {s sq s' : Ms} {vs : List Int} {v : Int} (h1 : exprsX O K env (l.take q) s = .vals vs sq) (h2 : exprX O K env l[q] sq = .val v s') : exprsX O K env (l.take (q + 1)) s = .vals (vs ++ [v]) s' := by
  rw [List.take_succ_eq_append_getElem h, exprsX_snoc, h1]
  simp only
  rw [h2]
set_option maxRecDepth 100000 in
set_option maxHeartbeats 4000000 in
theorem ex_mk {F : List Fu} {most N : Nat} (hP : WfP F) (hCT : CallT F most N) (k : List UInt8) (n : Int) (mm : List UInt8) (ks : List Ex) (ih : ∀ e ∈ ks, ExT F most N e) : ExT F most N (.mk k n mm ks) := by
  intro w B mb nb fb vb d fv ov s env V ans cs hM hFm hof hE hX hL hW hN
  obtain ⟨v, xs, rfl, hr, hk⟩ := hX
  obtain ⟨ad, cap, rfl⟩ := hr.is
  obtain ⟨l1, l2, l3⟩ := hL
  have l2' : (ks.length : Int) ≤ 8 := by omega
  obtain ⟨W0, hW0⟩ : ∃ W0, W0 = (w.alloc (.cells #[.string ⟨k.toArray⟩, .int .i64 n, .string ⟨mm.toArray⟩, .slice ad ks.length cap] 52)).alloc (.cells (madeCells #[.int .i64 0] ks.length) 3) := ⟨_, rfl⟩
  have hb0 : Below w.heap.size w W0 := by rw [hW0]; (repeat (first | exact Below.refl _ _ | assumption | refine Below.drew ?_ | refine Below.trans ?_ (drewN_below' _ _ _) | refine Below.setCell ?_ (by first | (simp; done) | (simp; omega)) _ | refine Below.alloc ?_ (by first | (simp; done) | (simp; omega)) _))
  have hs0 : W0.heap.size = w.heap.size + 2 := by rw [hW0]; simp
  have hbx : W0.heap[w.heap.size]? = some (.cells #[.string ⟨k.toArray⟩, .int .i64 n, .string ⟨mm.toArray⟩, .slice ad ks.length cap] 52 (0, 0)) := by rw [hW0]; exact two_newR w _ _
  have hkd : KidsAt W0 (w.heap.size + 1) ks.length [] := by
    have := kids_made (w.alloc (.cells #[.string ⟨k.toArray⟩, .int .i64 n, .string ⟨mm.toArray⟩, .slice ad ks.length cap] 52)) ks.length
    rw [hW0]; simpa using this
  have hmk := run_make_row' (P := Tryd.prog) 42 3 (.int .i64 0) 8 Tryd.underlying42 int_info rfl .i64 .i64 ks.length (by omega) (by omega)
  have hro : ∀ b, w.heap.size ≤ b → ov.ownBlock ≠ some b := fun b hb e => by have := (hM.own.lt b e).2; omega
  have IH := hidX ih
  have R := hidX hr
  have KK := hidX hk
  have LL := hidX l3
  have HW := hidX hW
  have HM0 := hidX (hM.below hb0)
  have HM := hidX hM
  have HFM := hidX hFm
  have hml := hM.mlt
  have hnl := hM.nums.lt
  have hBm := hM.hp
  have HFB := hidX hb0
  have HBX := hidX hbx
  have HKD := hidX hkd
  have HRO := hidX hro
  have HCT := hidX hCT
  have HOF := hidX hof
  have HE := hidX hE
  have hfl := hFm.flt
  generalize hres : exprX runOps (callX runOps most F N d) env (.mk k n mm ks) s = res
  have HRES := hidX hres
  clear ih hr hk l3 hM hFm hb0 hbx hkd hro hW hCT hof hE hres
  go_enter Tryd.func67, Tryd.ntmps67
  go_wp2_with fail
  rw [← hW0]
  clear hW0 hmk
  go_loopw [19] (fun vi wr => ∃ (q : Nat) (vs : List Int) (sq : Ms) (ovq : Value), q ≤ ks.length ∧ vi = .int .i64 q ∧ Hid (Mach wr B mb nb fv ovq F [] sq most d) ∧ Hid (Fr (Sx mb ov.ownBlock) w wr) ∧ w.heap.size + 2 ≤ wr.heap.size ∧ Hid (RowB W0 ov.ownBlock ovq.ownBlock) ∧ Hid (wr.heap[w.heap.size]? = some (.cells #[.string ⟨k.toArray⟩, .int .i64 n, .string ⟨mm.toArray⟩, .slice ad ks.length cap] 52 (0, 0))) ∧ Hid (KidsAt wr (w.heap.size + 1) ks.length vs) ∧ vs.length = q ∧ s.ticks ≤ sq.ticks ∧ Hid (exprsX runOps (callX runOps most F N d) env (ks.take q) s = .vals vs sq)) (fun vi _ => ks.length - (intOf vi).toNat)
  case atStart => exact ⟨0, [], s, ov, Nat.zero_le _, rfl, HM0.out, Fr.of HFB.out, by omega, RowB.refl _ _, HBX.out, HKD.out, rfl, Nat.le_refl _, by unfold Hid; rw [List.take_zero, exprsX]⟩
  case round =>
    obtain ⟨q, vs, sq, ovq, hq, rfl, HMQ, HFQ, hzq, HRQ, HBQ, HKQ, hvq, htq, HXQ⟩ := hrel
    have hofq : ovq.ownBlock ≠ some fb := HRQ.out.ne (by omega) HOF.out
    have hobq : ovq.ownBlock ≠ some w.heap.size := HRQ.out.ne (by omega) (HRO.out _ (Nat.le_refl _))
    have hokq : ovq.ownBlock ≠ some (w.heap.size + 1) := HRQ.out.ne (by omega) (HRO.out _ (by omega))
    have HOFQ := hidX hofq
    have HOBQ := hidX hobq
    have HOKQ := hidX hokq
    have hlowq : Below B w wr := HFQ.out.lowX HM.out
    have HFMQ := hidX (HFM.out.stay HM.out HOF.out HFQ.out)
    clear hofq hobq hokq
    by_cases hlt : q < ks.length
    · have hlt' : (q : Int) < (ks.length : Int) := by omega
      obtain ⟨ka, e1, e2⟩ := KK.out.at hlt
      obtain ⟨ga, off, rfl, hga, g1⟩ := R.out.el 4 hlt e2
      have hx := IH.out _ (List.getElem_mem hlt)
      have hlx := LL.out.mem _ (List.getElem_mem hlt)
      have hwx := WfEs.mem HW.out.2.2.2.2 _ (List.getElem_mem hlt)
      have hstop := fun c s' => exprsX_stop (c := c) (s' := s') hlt HXQ.out
      have hnext := fun v s' => exprsX_next (v := v) (s' := s') hlt HXQ.out
      generalize ks[q] = x at e1 hx hlx hwx hstop hnext
      have hcall : ∀ X, Below wr.heap.size wr X → Calls Tryd.prog 67 #[.pointer (some ⟨fb, 0, none⟩), .agg ka.toArray] X (VTo wr B mb nb fv ovq F most d (exprX runOps (callX runOps most F N d) env x sq)) := fun X hX =>
        (hx X B mb nb fb vb d fv ovq sq env V ans ka (HMQ.out.below hX) (HFMQ.out.keep (hX.block fb HFMQ.out.flt) (hX.block vb HFMQ.out.vars.lt)) HOFQ.out HE.out (XE.imp (fun _ h => h) (fun b hb => (hX.block b (by omega)).trans (hlowq.block b hb)) _ _ e1) hlx hwx (by omega)).mono fun _ _ h => vto_base h hX
      obtain ⟨xk, xn, xm, xks⟩ := x
      obtain ⟨ya, za, rfl, ra, _⟩ := e1
      obtain ⟨ad1, cap1, rfl⟩ := ra.is
      have a0 := (hlowq.cell (p := ⟨ga, _, none⟩) hga).trans (g1 0 _ (by decide) rfl)
      have a1 := (hlowq.cell (p := ⟨ga, _, none⟩) hga).trans (g1 1 _ (by decide) rfl)
      have a2 := (hlowq.cell (p := ⟨ga, _, none⟩) hga).trans (g1 2 _ (by decide) rfl)
      have a3 := (hlowq.cell (p := ⟨ga, _, none⟩) hga).trans (g1 3 _ (by decide) rfl)
      rw [Nat.add_zero] at a0
      simp only [← Nat.add_assoc] at a1 a2 a3
      have HCL := hidX hcall
      have HST := hidX hstop
      have HNX := hidX hnext
      clear g1 e2 ra hcall hx hlx hwx hstop hnext
      go_wp2_with fail
      refine (HCL.out _ (box_blk _ _ _)).mono ?_
      rintro e X2 ⟨hf2, ov2, hr2, h2⟩
      have hz2 := hf2.size
      have hfw2 : Fr (Sx mb ov.ownBlock) w X2 := HFQ.out.trans hf2 (fun i hi hs => Sx.next (HRQ.out.mono (by omega)) hi hs)
      have hrw2 : RowB W0 ov.ownBlock ov2.ownBlock := HRQ.out.trans hr2 (by omega)
      have hkd2 := HKQ.out.keep (hf2.block (w.heap.size + 1) (by omega) (by rintro (e | e); omega; exact HOKQ.out e))
      have hbx2 := (hf2.block w.heap.size (by omega) (by rintro (e | e); omega; exact HOBQ.out e)).trans HBQ.out
      have HFW2 := hidX hfw2
      have HRW2 := hidX hrw2
      have HKD2 := hidX hkd2
      have HBX2 := hidX hbx2
      clear a0 a1 a2 a3 hf2 hfw2 hrw2 hkd2 hbx2 hr2
      cases hxx : exprX runOps (callX runOps most F N d) env (.mk xk xn xm xks) sq with
      | stop c s' =>
        rw [hxx] at h2
        simp only at h2
        obtain ⟨he2, hm2⟩ := h2
        subst he2
        have HM2 := hidX hm2
        have HE2 : Hid (res = .stop c s') := by unfold Hid; rw [← HRES.out, exprX, HST.out _ _ hxx]
        clear hm2 hxx HST HNX HRES
        go_wp2
        exact bodyPost_ret (v := .tuple #[.int .i64 0, .bool false]) (by simp [results, Tryd.results67, go_sem]) rfl (vto_stop HE2.out HFW2.out (HRW2.out.mono (by omega)) HM2.out)
      | val v s' =>
        rw [hxx] at h2
        simp only at h2
        obtain ⟨he2, hm2⟩ := h2
        subst he2
        have hon := exprX_on (O := runOps) (callX_on runOps most F N d) env (.mk xk xn xm xks) sq
        rw [hxx] at hon
        have ht2 : sq.ticks ≤ s'.ticks := hon.ticks
        have HM2 := hidX hm2
        have HXN := hidX (HNX.out _ _ hxx)
        obtain ⟨u, cu, fu⟩ := HKD2.out.cell hlt
        have hkd3 := HKD2.out.set (by omega) v
        rw [hvq] at hkd3
        have hoth : ∀ c, c ≠ w.heap.size + 1 → (X2.setCell ⟨w.heap.size + 1, q, none⟩ (.int .i64 v)).heap[c]? = X2.heap[c]? := fun c hc => Below.heap_setCell _ _ _ _ (show c ≠ w.heap.size + 1 from hc)
        have hm3 := hm2.far (fun c _ hc => hoth c hc) (by omega) (by omega) (by omega) (HRW2.out.ne (by omega) (HRO.out _ (by omega)))
        have hf3 : Fr (Sx mb ov.ownBlock) w (X2.setCell ⟨w.heap.size + 1, q, none⟩ (.int .i64 v)) := ⟨HFW2.out.os, HFW2.out.tape, HFW2.out.output, by simp only [World.setCell, Array.size_modify]; exact HFW2.out.size, fun b hb hs => (hoth b (by omega)).trans (HFW2.out.block b hb hs)⟩
        have hz3 : w.heap.size + 2 ≤ (X2.setCell ⟨w.heap.size + 1, q, none⟩ (.int .i64 v)).heap.size := by simp only [World.setCell, Array.size_modify]; omega
        have HKD3 := hidX hkd3
        have HM3 := hidX hm3
        have HF3 := hidX hf3
        have HZ3 := hidX hz3
        have HBX3 := hidX ((hoth w.heap.size (by omega)).trans HBX2.out)
        have hlv : (vs ++ [v]).length = q + 1 := by simp [hvq]
        have HLV := hidX hlv
        clear hm2 hxx HST HNX hon hkd3 hoth hm3 hf3 hz3 hlv
        go_wp2
        go_roundw
        case rel => exact ⟨q + 1, vs ++ [v], s', ov2, by omega, by go_num, HM3.out, HF3.out, HZ3.out, HRW2.out, HBX3.out, HKD3.out, HLV.out, by omega, HXN.out⟩
        case measure => simp [intOf]; omega
    · have hqn : q = ks.length := by omega
      subst hqn
      have hxs := HXQ.out
      rw [List.take_length] at hxs
      have HE1 : Hid (res = exprV runOps (callX runOps most F N d) env k n mm vs sq) := by unfold Hid; rw [← HRES.out, exprX, hxs]
      have hfit : ∀ v ∈ vs, In64 v := by
        have := exprsX_fit runOps_fit (callX_fit runOps_fit most hP.funs N d) HE.out ks s HW.out.2.2.2.2
        rw [hxs] at this
        exact this
      have HFIT := hidX hfit
      have d0 : wr.cell? ⟨w.heap.size, 0, none⟩ = some (.string ⟨k.toArray⟩) := cell_of_blk HBQ.out 0
      have d1 : wr.cell? ⟨w.heap.size, 1, none⟩ = some (.int .i64 n) := cell_of_blk HBQ.out 1
      have d2 : wr.cell? ⟨w.heap.size, 2, none⟩ = some (.string ⟨mm.toArray⟩) := cell_of_blk HBQ.out 2
      have f0 : wr.cell? ⟨fb, 0, none⟩ = some (.pointer (some ⟨mb, 0, none⟩)) := cell_of_blk HFMQ.out.blk 0
      have f1 : wr.cell? ⟨fb, 1, none⟩ = some (.map (some vb)) := cell_of_blk HFMQ.out.blk 1
      clear hxs hfit HRES HXQ HKD HBX
      by_cases k1 : k = kName
      · subst k1
        have g1 : (kName == [110, 97, 109, 101]) = true := by decide
        have hlk : ∀ j, (Instr.lookup 63 (.map (some vb)) (.string ⟨mm.toArray⟩) false).run Tryd.prog (wr.drewN j) = .ok (.int .i64 (env mm)) (wr.drewN j) := fun j => look_env HFMQ.out.vars mm (by omega) _ rfl
        have HE2 : Hid (res = .val (env mm) sq) := by unfold Hid; rw [HE1.out, exprV, if_pos rfl]
        clear HE1
        go_wp2_with fail
        go_quiet (fail)
        go_wp2
        exact bodyPost_ret (v := .tuple #[.int .i64 (env mm), .bool true]) (by simp [results, Tryd.results67, go_sem]) rfl (vto_val HE2.out (HFQ.out.trans (T := Sx mb ov.ownBlock) (Fr.of (by (repeat (first | exact Below.refl _ _ | assumption | refine Below.drew ?_ | refine Below.trans ?_ (drewN_below' _ _ _) | refine Below.setCell ?_ (by first | (simp; done) | (simp; omega)) _ | refine Below.alloc ?_ (by first | (simp; done) | (simp; omega)) _)))) (fun _ _ h => h)) (HRQ.out.mono (by omega)) (HMQ.out.below (by (repeat (first | exact Below.refl _ _ | assumption | refine Below.drew ?_ | refine Below.trans ?_ (drewN_below' _ _ _) | refine Below.setCell ?_ (by first | (simp; done) | (simp; omega)) _ | refine Below.alloc ?_ (by first | (simp; done) | (simp; omega)) _)))))
      · have n1 : (k == [110, 97, 109, 101]) = false := ne_lit k1
        by_cases k2 : k = kCall
        · subst k2
          have g1 : (kCall == [110, 97, 109, 101]) = false := by decide
          have g2 : (kCall == [99, 97, 108, 108]) = true := by decide
          have HE2 : Hid (res = callX runOps most F N d mm vs sq) := by unfold Hid; rw [HE1.out, exprV, if_neg k1, if_pos rfl]
          have hcall : ∀ X, Below wr.heap.size wr X → Calls Tryd.prog 35 #[.pointer (some ⟨mb, 0, none⟩), .string ⟨mm.toArray⟩, .slice (some ⟨w.heap.size + 1, 0, none⟩) ks.length ks.length] X (VTo wr B mb nb fv ovq F most d (callX runOps most F N d mm vs sq)) := fun X hX => by
            have hrow := (HKQ.out.keep (hX.block _ (by omega))).row (mb := mb) (by omega) HOKQ.out
            rw [hvq] at hrow
            exact (HCT.out X B mb nb d fv ovq _ sq mm vs (HMQ.out.below hX) (by rw [hvq]; exact HW.out.2.1 rfl) HFIT.out (by omega) (by omega) (by rw [hvq]; exact hrow)).mono fun _ _ h => vto_base h hX
          have HCL := hidX hcall
          have HS0 : Hid (wr.cell? ⟨fb, 0, none⟩ = some (.pointer (some ⟨mb, 0, none⟩)) ∧ wr.cell? ⟨w.heap.size, 2, none⟩ = some (.string ⟨mm.toArray⟩)) := ⟨f0, d2⟩
          clear hcall HE1 n1
          go_wp2_with fail
          go_region_held3 (fun W => W.cell? ⟨fb, 0, none⟩ = some (.pointer (some ⟨mb, 0, none⟩)) ∧ W.cell? ⟨w.heap.size, 2, none⟩ = some (.string ⟨mm.toArray⟩))
            (first | exact s1 | exact HS0.out)
            (first | (go_at_call 35; refine (HCL.out _ (by (repeat (first | exact Below.refl _ _ | assumption | refine Below.drew ?_ | refine Below.trans ?_ (drewN_below' _ _ _) | refine Below.setCell ?_ (by first | (simp; done) | (simp; omega)) _ | refine Below.alloc ?_ (by first | (simp; done) | (simp; omega)) _)))).mono ?_; intro e X2 h2; obtain ⟨v0, ok0, he, h3⟩ := vto_tuple h2; subst he; have s1 : X2.cell? ⟨fb, 0, none⟩ = some (.pointer (some ⟨mb, 0, none⟩)) ∧ X2.cell? ⟨w.heap.size, 2, none⟩ = some (.string ⟨mm.toArray⟩) := ⟨cell_of_blk ((h3.1.block fb HFMQ.out.flt (by rintro (e | e); exact HFMQ.out.fm e; exact HOFQ.out e)).trans HFMQ.out.blk) 0, cell_of_blk ((h3.1.block w.heap.size (by omega) (by rintro (e | e); omega; exact HOBQ.out e)).trans HBQ.out) 2⟩; have H3 := hidX h3; clear h2 h3))
          all_goals (
            go_wp2
            exact bodyPost_ret (v := .tuple #[.int .i64 v0, .bool ok0]) (by simp [results, Tryd.results67, go_sem]) rfl (by rw [HE2.out]; exact vto_from H3.out HFQ.out (HRQ.out.mono (by omega))))
        · have n2 : (k == [99, 97, 108, 108]) = false := ne_lit k2
          by_cases k3 : k = kOne
          · subst k3
            have g1 : (kOne == [110, 97, 109, 101]) = false := by decide
            have g2 : (kOne == [99, 97, 108, 108]) = false := by decide
            have g3 : (kOne == [111, 110, 101]) = true := by decide
            have hw1 := HW.out.2.2.1 rfl
            have hl1 : vs.length = 1 := by rw [hvq]; exact hw1.2
            have hks : (ks.length : Int) = 1 := by have := hw1.2; omega
            have c0 := HKQ.out.val (i := 0) (by omega)
            have hv0 : vs.getD 0 0 = vs[0] := by rw [List.getD_eq_getElem?_getD, List.getElem?_eq_getElem (by omega)]; rfl
            generalize vs[0] = v0 at c0 hv0
            have HE2 : Hid (res = .val (runOps.one mm v0) sq) := by unfold Hid; rw [HE1.out, exprV, if_neg k1, if_neg k2, if_pos rfl, hv0]
            have HOP := hidX (one_op mm hw1.1 v0)
            generalize runOps.one mm v0 = rv at HE2 HOP
            clear HE1 hw1 hl1 hv0
            go_wp2_with fail
            go_quiet ((go_at_call 78; exact Calls.quiet_of_same (HOP.out _)))
            go_wp2
            exact bodyPost_ret (v := .tuple #[.int .i64 rv, .bool true]) (by simp [results, Tryd.results67, go_sem]) rfl (vto_val HE2.out (HFQ.out.trans (T := Sx mb ov.ownBlock) (Fr.of (by (repeat (first | exact Below.refl _ _ | assumption | refine Below.drew ?_ | refine Below.trans ?_ (drewN_below' _ _ _) | refine Below.setCell ?_ (by first | (simp; done) | (simp; omega)) _ | refine Below.alloc ?_ (by first | (simp; done) | (simp; omega)) _)))) (fun _ _ h => h)) (HRQ.out.mono (by omega)) (HMQ.out.below (by (repeat (first | exact Below.refl _ _ | assumption | refine Below.drew ?_ | refine Below.trans ?_ (drewN_below' _ _ _) | refine Below.setCell ?_ (by first | (simp; done) | (simp; omega)) _ | refine Below.alloc ?_ (by first | (simp; done) | (simp; omega)) _)))))
          · have n3 : (k == [111, 110, 101]) = false := ne_lit k3
            by_cases k4 : k = kTwo
            · subst k4
              have g1 : (kTwo == [110, 97, 109, 101]) = false := by decide
              have g2 : (kTwo == [99, 97, 108, 108]) = false := by decide
              have g3 : (kTwo == [111, 110, 101]) = false := by decide
              have g4 : (kTwo == [116, 119, 111]) = true := by decide
              have hw1 := HW.out.2.2.2.1 rfl
              have hl1 : vs.length = 2 := by rw [hvq]; exact hw1.2
              have hks : (ks.length : Int) = 2 := by have := hw1.2; omega
              have c0 := HKQ.out.val (i := 0) (by omega)
              have c1 := HKQ.out.val (i := 1) (by omega)
              have hv0 : vs.getD 0 0 = vs[0] := by rw [List.getD_eq_getElem?_getD, List.getElem?_eq_getElem (by omega)]; rfl
              have hv1 : vs.getD 1 0 = vs[1] := by rw [List.getD_eq_getElem?_getD, List.getElem?_eq_getElem (by omega)]; rfl
              generalize vs[0] = v0 at c0 hv0
              generalize vs[1] = v1 at c1 hv1
              have HE2 : Hid (res = .val (runOps.two mm v0 v1) sq) := by unfold Hid; rw [HE1.out, exprV, if_neg k1, if_neg k2, if_neg k3, if_pos rfl, hv0, hv1]
              have HOP := hidX (two_op mm hw1.1 v0 v1)
              generalize runOps.two mm v0 v1 = rv at HE2 HOP
              clear HE1 hw1 hl1 hv0 hv1
              go_wp2_with fail
              go_quiet ((go_at_call 79; exact Calls.quiet_of_same (HOP.out _)))
              go_wp2
              exact bodyPost_ret (v := .tuple #[.int .i64 rv, .bool true]) (by simp [results, Tryd.results67, go_sem]) rfl (vto_val HE2.out (HFQ.out.trans (T := Sx mb ov.ownBlock) (Fr.of (by (repeat (first | exact Below.refl _ _ | assumption | refine Below.drew ?_ | refine Below.trans ?_ (drewN_below' _ _ _) | refine Below.setCell ?_ (by first | (simp; done) | (simp; omega)) _ | refine Below.alloc ?_ (by first | (simp; done) | (simp; omega)) _)))) (fun _ _ h => h)) (HRQ.out.mono (by omega)) (HMQ.out.below (by (repeat (first | exact Below.refl _ _ | assumption | refine Below.drew ?_ | refine Below.trans ?_ (drewN_below' _ _ _) | refine Below.setCell ?_ (by first | (simp; done) | (simp; omega)) _ | refine Below.alloc ?_ (by first | (simp; done) | (simp; omega)) _)))))
            · have n4 : (k == [116, 119, 111]) = false := ne_lit k4
              have HE2 : Hid (res = .val n sq) := by unfold Hid; rw [HE1.out, exprV, if_neg k1, if_neg k2, if_neg k3, if_neg k4]
              clear HE1 k1 k2 k3 k4
              go_wp2
              exact bodyPost_ret (v := .tuple #[.int .i64 n, .bool true]) (by simp [results, Tryd.results67, go_sem]) rfl (vto_val HE2.out HFQ.out (HRQ.out.mono (by omega)) HMQ.out)
mutual
theorem ex_any {F : List Fu} {most N : Nat} (hP : WfP F) (hC : CallT F most N) : ∀ e : Ex, ExT F most N e
  | .mk k n m ks => ex_mk hP hC k n m ks (exs_any hP hC ks)
theorem exs_any {F : List Fu} {most N : Nat} (hP : WfP F) (hC : CallT F most N) : ∀ l : List Ex, ∀ e ∈ l, ExT F most N e
  | [], _, h => absurd h (by simp)
  | e :: r, x, h => by
    rcases List.mem_cons.1 h with h | h
    · rw [h]; exact ex_any hP hC e
    · exact exs_any hP hC r x h
end
end Go.Proofs.YtcebpmaggnephacDoor
