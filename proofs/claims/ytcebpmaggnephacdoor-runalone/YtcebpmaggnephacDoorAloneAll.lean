/-
  Our own: texts joined: RunAloneMath, RunAloneLen, RunPrints.
-/
import Derived.Test.YtcebpmaggnephacDoorRunMath
import Derived.Test.YtcebpmaggnephacDoorCheckAll
import Derived.Test.YtcebpmaggnephacDoorCheckLow
import Derived.Test.YtcebpmaggnephacDoorCheckLarge
import Derived.Test.YtcebpmaggnephacDoorCheckIs

/-
  Our own: plain mathematics of what a program does: functions that are not called make no difference; who prints nothing, and calls nobody, has no output.
-/
namespace Go.Proofs.YtcebpmaggnephacDoor
open Go.RowKit

mutual
/-- How many prints there are. -/
def printsM : Sm → Nat
  | .mk k _ _ t o => (if k = kPrint then 1 else 0) + (printsS t + printsS o)
def printsS : List Sm → Nat
  | [] => 0
  | s :: r => printsM s + printsS r
end
theorem printsS_snoc : ∀ (l : List Sm) (s : Sm), printsS (l ++ [s]) = printsS l + printsM s
  | [], s => by simp [printsS]
  | x :: r, s => by rw [List.cons_append, printsS, printsS, printsS_snoc r s]; omega
section
variable {O : Ops} {K K' : CallF} {most N : Nat}
theorem exprV_same (env : Env) (k : List UInt8) (n : Int) (m : List UInt8) (l : List Int) (s : Ms) (h : k = kCall → K m l s = K' m l s) : exprV O K env k n m l s = exprV O K' env k n m l s := by
  unfold exprV
  split
  · rfl
  · split
    · next hk => exact h hk
    · rfl
mutual
theorem exprX_same (env : Env) : ∀ (e : Ex) (s : Ms), (∀ m ∈ callsE e, ∀ l s, K m l s = K' m l s) → exprX O K env e s = exprX O K' env e s
  | .mk k n m ks, s, h => by
    rw [callsE] at h
    rw [exprX, exprX, exprsX_same env ks s (fun m hm => h m (List.mem_append_left _ hm))]
    cases exprsX O K' env ks s with
    | stop c s => rfl
    | vals l s => exact exprV_same env k n m l s fun hk => h m (List.mem_append_right _ (by rw [if_pos hk]; simp)) l s
theorem exprsX_same (env : Env) : ∀ (l : List Ex) (s : Ms), (∀ m ∈ callsEs l, ∀ l s, K m l s = K' m l s) → exprsX O K env l s = exprsX O K' env l s
  | [], s, h => by rw [exprsX, exprsX]
  | x :: r, s, h => by
    rw [callsEs] at h
    rw [exprsX, exprsX, exprX_same env x s (fun m hm => h m (List.mem_append_left _ hm))]
    cases exprX O K' env x s with
    | stop c s => rfl
    | val v s => simp only; rw [exprsX_same env r s (fun m hm => h m (List.mem_append_right _ hm))]
end
mutual
theorem stmtX_same : ∀ (x : Sm) (env : Env) (s : Ms), (∀ m ∈ callsM x, ∀ l s, K m l s = K' m l s) → stmtX O most K N x env s = stmtX O most K' N x env s
  | .mk k m e t o, env, s, h => by
    rw [callsM] at h
    have he : ∀ env s, exprX O K env e s = exprX O K' env e s := fun env s => exprX_same env e s (fun m hm => h m (List.mem_append_left _ hm))
    have ht : ∀ env s, blockX O most K N t env s = blockX O most K' N t env s := fun env s => blockX_same t env s (fun m hm => h m (List.mem_append_right _ (List.mem_append_left _ hm)))
    have ho : ∀ env s, blockX O most K N o env s = blockX O most K' N o env s := fun env s => blockX_same o env s (fun m hm => h m (List.mem_append_right _ (List.mem_append_right _ hm)))
    rw [stmtX, stmtX, show (fun env s => exprX O K env e s) = (fun env s => exprX O K' env e s) from funext fun env => funext fun s => he env s, show (fun env s => blockX O most K N t env s) = (fun env s => blockX O most K' N t env s) from funext fun env => funext fun s => ht env s, he env s]
    split
    · rfl
    · cases exprX O K' env e s with
      | stop c s => rfl
      | val v s => simp only [ht, ho]
theorem blockX_same : ∀ (l : List Sm) (env : Env) (s : Ms), (∀ m ∈ callsS l, ∀ l s, K m l s = K' m l s) → blockX O most K N l env s = blockX O most K' N l env s
  | [], env, s, h => by rw [blockX, blockX]
  | x :: r, env, s, h => by
    rw [callsS] at h
    rw [blockX, blockX, stmtX_same x env s (fun m hm => h m (List.mem_append_left _ hm))]
    cases stmtX O most K' N x env s with
    | stop c s => rfl
    | ret v s => rfl
    | next env s => exact blockX_same r env s (fun m hm => h m (List.mem_append_right _ hm))
end
mutual
theorem exprX_quiet (env : Env) : ∀ (e : Ex) (s : Ms), callsE e = [] → ∃ v, exprX O K env e s = .val v s
  | .mk k n m ks, s, h => by
    rw [callsE] at h
    obtain ⟨h1, h2⟩ := List.append_eq_nil_iff.1 h
    obtain ⟨vs, hv⟩ := exprsX_quiet env ks s h1
    rw [exprX, hv]
    simp only [exprV]
    by_cases hk : k = kCall
    · rw [if_pos hk] at h2; cases h2
    · split
      · exact ⟨_, rfl⟩
      · split
        · exact ⟨_, rfl⟩
        · split <;> exact ⟨_, rfl⟩
theorem exprsX_quiet (env : Env) : ∀ (l : List Ex) (s : Ms), callsEs l = [] → ∃ vs, exprsX O K env l s = .vals vs s
  | [], s, h => ⟨[], by rw [exprsX]⟩
  | x :: r, s, h => by
    rw [callsEs] at h
    obtain ⟨h1, h2⟩ := List.append_eq_nil_iff.1 h
    obtain ⟨v, hv⟩ := exprX_quiet env x s h1
    obtain ⟨vs, hvs⟩ := exprsX_quiet env r s h2
    exact ⟨v :: vs, by rw [exprsX, hv]; simp only [hvs]⟩
end
theorem loopX_quiet {ev : Env → Ms → Vr} {bl : Env → Ms → Br} (he : ∀ env s, ∃ v, ev env s = .val v s) (hb : ∀ env s, (bl env s).st.out = s.out) : ∀ (N : Nat) (env : Env) (s : Ms), (loopX most ev bl N env s).st.out = s.out
  | 0, env, s => rfl
  | N + 1, env, s => by
    rw [loopX]
    split
    · rfl
    · obtain ⟨v, hv⟩ := he env ⟨s.ticks + 1, s.out⟩
      rw [hv]
      simp only
      split
      · rfl
      · have h2 := hb env ⟨s.ticks + 1, s.out⟩
        cases hx : bl env ⟨s.ticks + 1, s.out⟩ with
        | stop c s1 => rw [hx] at h2; exact h2
        | ret v s1 => rw [hx] at h2; exact h2
        | next env1 s1 => rw [hx] at h2; exact (loopX_quiet he hb N env1 s1).trans h2
mutual
theorem stmtX_quiet : ∀ (x : Sm) (env : Env) (s : Ms), callsM x = [] → printsM x = 0 → (stmtX O most K N x env s).st.out = s.out
  | .mk k m e t o, env, s, h, hp => by
    rw [callsM] at h
    rw [printsM] at hp
    obtain ⟨h1, h23⟩ := List.append_eq_nil_iff.1 h
    obtain ⟨h2, h3⟩ := List.append_eq_nil_iff.1 h23
    have hk : k ≠ kPrint := fun hk => by rw [if_pos hk] at hp; omega
    rw [stmtX]
    split
    · exact loopX_quiet (fun env s => exprX_quiet env e s h1) (fun env s => blockX_quiet t env s h2 (by omega)) N env s
    · obtain ⟨v, hv⟩ := exprX_quiet (O := O) (K := K) env e s h1
      rw [hv]
      simp only
      split
      · rfl
      · split
        · split
          · exact blockX_quiet o env s h3 (by omega)
          · exact blockX_quiet t env s h2 (by omega)
        · split <;> rfl
theorem blockX_quiet : ∀ (l : List Sm) (env : Env) (s : Ms), callsS l = [] → printsS l = 0 → (blockX O most K N l env s).st.out = s.out
  | [], env, s, h, hp => by rw [blockX]; rfl
  | x :: r, env, s, h, hp => by
    rw [callsS] at h
    rw [printsS] at hp
    obtain ⟨h1, h2⟩ := List.append_eq_nil_iff.1 h
    rw [blockX]
    have hx := stmtX_quiet x env s h1 (by omega)
    cases hy : stmtX O most K N x env s with
    | stop c s1 => rw [hy] at hx; exact hx
    | ret v s1 => rw [hy] at hx; exact hx
    | next env1 s1 => rw [hy] at hx; exact (blockX_quiet r env1 s1 h2 (by omega)).trans hx
end
end
theorem funOf_front {l : List Fu} {z : Fu} {m : List UInt8} (h : z.name ≠ m) : funOf (z :: l) m = funOf l m := by
  unfold funOf
  rw [List.find?_cons_of_neg (by simpa using h)]
theorem funOf_mem {l : List Fu} {m : List UInt8} (h : ∃ f ∈ l, f.name = m) : funOf l m ∈ l ∧ (funOf l m).name = m := by
  unfold funOf
  cases hf : l.find? fun f => f.name == m with
  | none =>
    obtain ⟨f, h1, h2⟩ := h
    have := List.find?_eq_none.1 hf f h1
    simp [h2] at this
  | some f => exact ⟨List.mem_of_find?_eq_some hf, by simpa using List.find?_some hf⟩
theorem callX_front (O : Ops) (most : Nat) {l : List Fu} {z : Fu} (hz : ∀ f ∈ l, f.name ≠ z.name) (hc : ∀ f ∈ l, ∀ x ∈ callsS f.body, ∃ g ∈ l, g.name = x) : ∀ (N d : Nat) (m : List UInt8), (∃ f ∈ l, f.name = m) → ∀ args s, callX O most (z :: l) N d m args s = callX O most l N d m args s
  | 0, d, m, hm, args, s => rfl
  | N + 1, d, m, hm, args, s => by
    have hne : z.name ≠ m := fun e => by
      obtain ⟨f, h1, h2⟩ := hm
      exact hz f h1 (h2.trans e.symm)
    rw [callX, callX, funOf_front hne]
    split
    · rfl
    · split
      · rfl
      · rw [blockX_same (K := callX O most (z :: l) N (d + 1)) (K' := callX O most l N (d + 1)) _ _ _ fun x hx args s => callX_front O most hz hc N (d + 1) x (hc _ (funOf_mem hm).1 x hx) args s]
theorem well_calls {l : List Fu} (h : funsC l [] l = none) : ∀ f ∈ l, ∀ x ∈ callsS f.body, ∃ g ∈ l, g.name = x := by
  intro f hf x hx
  obtain ⟨i, hi, rfl⟩ := List.mem_iff_getElem.1 hf
  exact (well_vars h i hi).2 x ((mem_callsF _ _).2 hx)
/-- A function ahead that nobody calls makes no difference. -/
theorem runX_front (O : Ops) {l : List Fu} {z : Fu} (h : funsC l [] l = none) (hz : ∀ f ∈ l, f.name ≠ z.name) {m : List UInt8} (hm : ∃ f ∈ l, f.name = m) (args : List Int) (most : Nat) : runX O (z :: l) m args most = runX O l m args most :=
  callX_front O most hz (well_calls h) (most + 1) 0 m hm args ⟨0, []⟩
/-- Who prints nothing, and calls nobody, has no output. -/
theorem runX_quiet (O : Ops) {l : List Fu} {m : List UInt8} (hc : callsF (funOf l m) = []) (hp : printsS (funOf l m).body = 0) (args : List Int) (most : Nat) : (runX O l m args most).st.out = [] := by
  have hc' : callsS (funOf l m).body = [] := by
    apply List.eq_nil_iff_forall_not_mem.2
    intro x hx
    have := (mem_callsF _ _).2 hx
    rw [hc] at this
    cases this
  unfold runX
  rw [callX]
  split
  · rfl
  · split
    · rfl
    · have h := blockX_quiet (O := O) (most := most) (K := callX O most l most (0 + 1)) (N := most) (funOf l m).body (bindE (funOf l m).params args) ⟨0 + 1, []⟩ hc' hp
      cases hx : blockX O most (callX O most l most (0 + 1)) most (funOf l m).body (bindE (funOf l m).params args) ⟨0 + 1, []⟩ with
      | stop c s1 => rw [hx] at h; exact h
      | ret v s1 => rw [hx] at h; exact h
      | next env s1 => rw [hx] at h; exact h
/-- What is well stays well with a function ahead of a new name, which calls nobody. -/
theorem well_front {l : List Fu} {z : Fu} (h : funsC l [] l = none) (hz : ∀ f ∈ l, f.name ≠ z.name) (hw : funC (z :: l) false z = 0) : funsC (z :: l) [] (z :: l) = none := by
  apply funsC_none
  intro i hi
  simp only [List.nil_append]
  cases i with
  | zero => simpa using hw
  | succ i =>
    have hl : i < l.length := by simpa using hi
    have h1 := funsC_all l [] h i hl
    rw [List.nil_append] at h1
    rw [List.take_succ_cons, List.any_cons, List.getElem_cons_succ, show (z.name == l[i].name) = false from by simpa using fun e => hz _ (List.getElem_mem hl) e.symm, Bool.false_or]
    refine fun_mono (fun x hx n hc => ?_) h1
    obtain ⟨g, g1, g2⟩ := callC_there hc
    unfold callC at hc ⊢
    rw [List.find?_cons_of_neg (by simpa using fun e => hz g g1 (g2.trans e.symm))]
    exact hc
end Go.Proofs.YtcebpmaggnephacDoor

/-
  Our own: how many are called.
-/
namespace Go.Proofs.YtcebpmaggnephacDoor
open Go.RowKit

mutual
theorem callsE_len : ∀ e : Ex, (callsE e).length ≤ nodesE e
  | .mk k n m ks => by
    have := callsEs_len ks
    rw [callsE, nodesE, List.length_append]
    split <;> simp <;> omega
theorem callsEs_len : ∀ l : List Ex, (callsEs l).length ≤ nodesEs l
  | [] => by simp [callsEs]
  | e :: r => by
    have h1 := callsE_len e
    have h2 := callsEs_len r
    rw [callsEs, nodesEs, List.length_append]; omega
end
mutual
theorem callsM_len : ∀ e : Sm, (callsM e).length ≤ nodesM e
  | .mk k m e t o => by
    have h1 := callsE_len e
    have h2 := callsS_len t
    have h3 := callsS_len o
    rw [callsM, nodesM, List.length_append, List.length_append]; omega
theorem callsS_len : ∀ l : List Sm, (callsS l).length ≤ nodesS l
  | [] => by simp [callsS]
  | e :: r => by
    have h1 := callsM_len e
    have h2 := callsS_len r
    rw [callsS, nodesS, List.length_append]; omega
end
theorem onceL_len : ∀ (l acc : List (List UInt8)), (onceL acc l).length ≤ acc.length + l.length
  | [], acc => by simp [onceL]
  | x :: r, acc => by
    rw [onceL]
    split
    · have := onceL_len r acc; simp; omega
    · have := onceL_len r (acc ++ [x]); simp at this ⊢; omega
theorem callsF_len (f : Fu) : (callsF f).length ≤ nodesS f.body := by
  have h1 := onceL_len (callsS f.body) []
  have h2 := callsS_len f.body
  simp at h1
  unfold callsF; omega
end Go.Proofs.YtcebpmaggnephacDoor

/-
  Our own: how many prints there are, as the law counts them.
-/
namespace Go.Proofs.YtcebpmaggnephacDoor
open Go.RowKit

theorem nodesS_memP {l : List Sm} {s : Sm} (h : s ∈ l) : nodesM s ≤ nodesS l := by
  induction l with
  | nil => cases h
  | cons x r ih =>
    rw [nodesS]
    rcases List.mem_cons.1 h with rfl | h
    · omega
    · have := ih h; omega
mutual
theorem printsM_len : ∀ s : Sm, printsM s ≤ nodesM s
  | .mk k m e t o => by
    rw [printsM, nodesM]
    have := printsS_len t
    have := printsS_len o
    split <;> omega
theorem printsS_len : ∀ l : List Sm, printsS l ≤ nodesS l
  | [] => by simp [printsS]
  | s :: r => by
    rw [printsS, nodesS]
    have := printsM_len s
    have := printsS_len r
    omega
end
theorem printsS_take (l : List Sm) (q : Nat) : printsS (l.take q) ≤ printsS l := by
  induction l generalizing q with
  | nil => simp [printsS]
  | cons x r ih =>
    cases q with
    | zero => simp [printsS]
    | succ q => rw [List.take_succ_cons, printsS, printsS]; have := ih q; omega
/-- What 'prints' of statements comes to. -/
def PIn (l : List Sm) : Prop := ∀ (w : World) (v : Value), XLS (InH w) w v l → l.length ≤ 30 → LowSs l → nodesS l ≤ 1000 → Calls Tryd.prog 19 #[v] w fun e w' => e = .returned (.int .i64 (printsS l : Nat)) ∧ ∃ m, w' = w.drewN m
set_option maxRecDepth 100000 in
set_option maxHeartbeats 2000000 in
theorem prints_step (l : List Sm) (ih : ∀ k m e t o, Sm.mk k m e t o ∈ l → PIn t ∧ PIn o) : PIn l := by
  intro w v hX hl hL hN
  obtain ⟨xs, hr, hk⟩ := hX
  obtain ⟨ad, cap, rfl⟩ := hr.is
  have hl' : (l.length : Int) ≤ 30 := by omega
  have hpn := printsS_len l
  have R := hidX hr
  have KK := hidX hk
  have LL := hidX hL
  have IH := hidX ih
  clear hr hk hL ih
  go_enter Tryd.func19, Tryd.ntmps19
  go_wp2_with fail
  go_loopw [3, 4] (fun vn vi wr => ∃ q : Nat, q ≤ l.length ∧ vi = .int .i64 q ∧ vn = .int .i64 (printsS (l.take q) : Nat) ∧ ∃ m, wr = w.drewN m) (fun _ vi _ => l.length - (intOf vi).toNat)
  case atStart => exact ⟨0, Nat.zero_le _, rfl, by simp [printsS], 0, rfl⟩
  case round =>
    obtain ⟨q, hq, rfl, rfl, m0, hm0⟩ := hrel
    have hbl : Below w.heap.size w wr := by rw [hm0]; exact drewN_below' _ _ _
    have HM0 := hidX hm0
    have hB : ∀ n, Below w.heap.size w (wr.drewN n) := fun n => hbl.trans ((drewN_below' _ _ _).mono hbl.size)
    have HB := hidX hB
    clear hm0 hB
    by_cases hlt : q < l.length
    · have hlt' : (q : Int) < (l.length : Int) := by omega
      obtain ⟨ka, e1, e2⟩ := KK.out.at hlt
      have hmem := List.getElem_mem hlt
      have hlx := LL.out.mem _ hmem
      have hnm := nodesS_memP hmem
      have htk : l.take (q + 1) = l.take q ++ [l[q]] := List.take_succ_eq_append_getElem hlt
      have hpt := printsS_take l q
      generalize l[q] = x at e1 hlx htk hmem hnm
      obtain ⟨k, m, e, t, o⟩ := x
      obtain ⟨ih1, ih2⟩ := IH.out k m e t o hmem
      obtain ⟨l1, l2, l3, l4, l5, l6, l7⟩ := hlx
      rw [nodesM] at hnm
      obtain ⟨es, tv, ts, ov, os, rfl, r1, r2, r3, r4, r5⟩ := e1
      have hel := r1.len
      obtain ⟨g, off, rfl, hg, k1⟩ := x8_at R.out hlt hel e2
      obtain ⟨adt0, ct0, rfl⟩ := r2.is
      obtain ⟨ado0, co0, rfl⟩ := r4.is
      have HTX : Hid (XLS (InH w) w (.slice adt0 t.length ct0) t) := ⟨ts, r2, r3⟩
      have HOX : Hid (XLS (InH w) w (.slice ado0 o.length co0) o) := ⟨os, r4, r5⟩
      have hvt := printsS_len t
      have hvo := printsS_len o
      have htk2 : printsS (l.take (q + 1)) = printsS (l.take q) + ((if k = kPrint then 1 else 0) + (printsS t + printsS o)) := by rw [htk, printsS_snoc, printsM]
      have ht' : ∀ X, Below w.heap.size w X → Calls Tryd.prog 19 #[.slice adt0 t.length ct0] X fun e w' => e = .returned (.int .i64 (printsS t : Nat)) ∧ ∃ m, w' = X.drewN m := fun X hX => ih1 X _ (XLS.imp HTX.out (inH_up hX) (keepH hX)) l4 l5 (by omega)
      have ho' : ∀ X, Below w.heap.size w X → Calls Tryd.prog 19 #[.slice ado0 o.length co0] X fun e w' => e = .returned (.int .i64 (printsS o : Nat)) ∧ ∃ m, w' = X.drewN m := fun X hX => ih2 X _ (XLS.imp HOX.out (inH_up hX) (keepH hX)) l6 l7 (by omega)
      have HT := hidX ht'
      have HO := hidX ho'
      generalize printsS (l.take q) = acc at hpt htk2
      generalize printsS t = pt at hvt HT htk2
      generalize printsS o = po at hvo HO htk2
      have y1 := k1.keep (hbl.block g hg)
      have a0 := y1.c0
      have a6 := y1.c6
      have a7 := y1.c7
      have ha1 : (acc : Int) ≤ 1000 := by omega
      have ha2 : (pt : Int) ≤ 1000 := by omega
      have ha3 : (po : Int) ≤ 1000 := by omega
      clear r1 r2 r3 r4 r5 e2 ht' ho' htk y1 hmem ih1 ih2 l3 l5 l7
      by_cases hkv : k = kPrint
      · subst hkv
        rw [if_pos rfl] at htk2
        have HTK := hidX htk2
        clear htk2
        go_wp2_with fail
        go_quiet ((go_at_call 19; first | with_reducible exact Calls.quiet_of (HT.out _ (HB.out _)) | with_reducible exact Calls.quiet_of (HO.out _ (HB.out _))))
        go_wp2
        go_roundw
        case rel => exact ⟨q + 1, by omega, by go_num, by rw [HTK.out]; go_num, m0 + nq, by rw [HM0.out, World.drewN_drewN]⟩
        case measure => simp [intOf]; omega
      · have hkv' : (k == [112, 114, 105, 110, 116]) = false := txt_ne hkv
        rw [if_neg hkv] at htk2
        have HTK := hidX htk2
        clear htk2
        go_wp2_with fail
        go_quiet ((go_at_call 19; first | with_reducible exact Calls.quiet_of (HT.out _ (HB.out _)) | with_reducible exact Calls.quiet_of (HO.out _ (HB.out _))))
        go_wp2
        go_roundw
        case rel => exact ⟨q + 1, by omega, by go_num, by rw [HTK.out]; go_num, m0 + nq, by rw [HM0.out, World.drewN_drewN]⟩
        case measure => simp [intOf]; omega
    · have hqn : q = l.length := by omega
      subst hqn
      rw [List.take_length]
      go_wp2
      go_ret
      exact ⟨rfl, m0, HM0.out⟩
theorem prints_n : ∀ (n : Nat) (l : List Sm), nodesS l ≤ n → PIn l
  | 0, l, h => prints_step l fun k m e t o hm => by
    have := nodesS_memP hm
    rw [nodesM] at this
    omega
  | n + 1, l, h => prints_step l fun k m e t o hm => by
    have := nodesS_memP hm
    rw [nodesM] at this
    exact ⟨prints_n n t (by omega), prints_n n o (by omega)⟩
theorem prints_any (l : List Sm) : PIn l := prints_n _ l (Nat.le_refl _)
end Go.Proofs.YtcebpmaggnephacDoor
