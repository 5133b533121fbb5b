/-
  Our own: plain mathematics of what a program does: of what is well, numbers stay numbers of 64 bits, variables are the function's, whom it calls is there.
-/
import Derived.Test.YtcebpmaggnephacDoorRunMath
import Derived.Test.YtcebpmaggnephacDoorCheckAll
import Derived.Test.YtcebpmaggnephacDoorTreeRead
import Derived.Test.YtcebpmaggnephacDoorMath
namespace Go.Proofs.YtcebpmaggnephacDoor
open Go.RowKit

mutual
def WfE (F : List Fu) : Ex → Prop
  | .mk k n m ks => In64 n ∧ (k = kCall → ∃ f ∈ F, f.name = m ∧ f.params.length = ks.length) ∧ (k = kOne → m ∈ onesE ∧ ks.length = 1) ∧ (k = kTwo → m ∈ twosE ∧ ks.length = 2) ∧ WfEs F ks
def WfEs (F : List Fu) : List Ex → Prop
  | [] => True
  | e :: r => WfE F e ∧ WfEs F r
end
mutual
def WfS (F : List Fu) (V : List (List UInt8)) : Sm → Prop
  | .mk k m e t o => WfE F e ∧ (k = kVar ∨ k = kSet → m ∈ V) ∧ WfSs F V t ∧ WfSs F V o
def WfSs (F : List Fu) (V : List (List UInt8)) : List Sm → Prop
  | [] => True
  | s :: r => WfS F V s ∧ WfSs F V r
end
theorem WfEs.mem {F : List Fu} : ∀ {l : List Ex}, WfEs F l → ∀ e ∈ l, WfE F e
  | [], _, _, h => absurd h (by simp)
  | _ :: _, ⟨h1, h2⟩, x, hx => by
    rcases List.mem_cons.1 hx with rfl | hx
    · exact h1
    · exact h2.mem x hx
theorem WfSs.mem {F : List Fu} {V : List (List UInt8)} : ∀ {l : List Sm}, WfSs F V l → ∀ e ∈ l, WfS F V e
  | [], _, _, h => absurd h (by simp)
  | _ :: _, ⟨h1, h2⟩, x, hx => by
    rcases List.mem_cons.1 hx with rfl | hx
    · exact h1
    · exact h2.mem x hx
/-- A function that is well. -/
structure WfF (F : List Fu) (f : Fu) : Prop where
  body : WfSs F (varsF f) f.body
  fit : Fit12 (varsF f)
  pars : f.params.length ≤ 4
theorem callC_at0 {F : List Fu} {m : List UInt8} {n : Nat} (h : callC F m n = 0) : ∃ f ∈ F, f.name = m ∧ f.params.length = n := by
  unfold callC at h
  split at h
  · cases h
  · next f hf =>
    split at h
    · next hn => exact ⟨f, List.mem_of_find?_eq_some hf, by simpa using List.find?_some hf, hn⟩
    · cases h
theorem shape_parts {k : List UInt8} {n : Int} {m : List UInt8} {c : Nat} (h : shapeE k n m c = true) : (k = kOne → m ∈ onesE ∧ c = 1) ∧ (k = kTwo → m ∈ twosE ∧ c = 2) := by
  refine ⟨?_, ?_⟩
  · rintro rfl
    have : decide (n = 0 ∧ m ∈ onesE ∧ c = 1) = true := h
    exact (of_decide_eq_true this).2
  · rintro rfl
    have : decide (n = 0 ∧ m ∈ twosE ∧ c = 2) = true := h
    exact (of_decide_eq_true this).2
mutual
theorem expr_wf (F : List Fu) (vis : List (List UInt8)) : ∀ e : Ex, exprC F vis e = 0 → OkE e → WfE F e
  | .mk k n m ks, h, ho => by
    obtain ⟨_, o2, _, _, o5⟩ := ho
    rw [exprC] at h
    split at h
    · cases h
    · next hs =>
      obtain ⟨h1, h2⟩ := andC_zero h
      have hsh : shapeE k n m ks.length = true := by simpa using hs
      refine ⟨in64_of_wf o2, ?_, (shape_parts hsh).1, (shape_parts hsh).2, exprs_wf F vis ks h1 o5⟩
      intro hk
      rw [if_neg (by rw [hk]; decide), if_pos hk] at h2
      exact callC_at0 h2
theorem exprs_wf (F : List Fu) (vis : List (List UInt8)) : ∀ l : List Ex, exprsC F vis l = 0 → OkEs l → WfEs F l
  | [], _, _ => trivial
  | e :: r, h, ho => by
    rw [exprsC] at h
    obtain ⟨h1, h2⟩ := andC_zero h
    exact ⟨expr_wf F vis e h1 ho.1, exprs_wf F vis r h2 ho.2⟩
end
mutual
theorem stmt_wf (F : List Fu) (V : List (List UInt8)) : ∀ (s : Sm) (all vis b : List (List UInt8)), stmtC F all vis s = .ok b → (∀ x ∈ vis, x ∈ V) → (∀ x ∈ b, x ∈ V) → OkS s → WfS F V s
  | .mk k m e t o, all, vis, b, h, hv, hb, ho => by
    obtain ⟨_, _, o3, _, o5, _, o7⟩ := ho
    obtain ⟨h1, h2, h3⟩ := stmtC_ok h
    have hb' := hb
    rw [(stmt_vars F _ _ _ _ h).1] at hb'
    rcases h3 with ⟨hk, hd, ht, ho⟩ | ⟨hk1, hk, hm, e1, ht, ho⟩ | ⟨hk1, hk2, a, ha, hbb⟩
    · refine ⟨expr_wf F vis e h2 o3, fun _ => hb _ ?_, by rw [ht]; trivial, by rw [ho]; trivial⟩
      rw [(declC_ok hd).1]; simp
    · exact ⟨expr_wf F vis e h2 o3, fun _ => hv _ hm, by rw [ht]; trivial, by rw [ho]; trivial⟩
    · refine ⟨expr_wf F vis e h2 o3, ?_, ?_, ?_⟩
      · rintro (h | h)
        · exact absurd h hk1
        · exact absurd h hk2
      · refine block_wf F V t all vis a ha hv (fun x hx => hb x ?_) o5
        rw [(block_vars F o a vis b hbb).1]; exact List.mem_append_left _ hx
      · exact block_wf F V o a vis b hbb hv hb o7
theorem block_wf (F : List Fu) (V : List (List UInt8)) : ∀ (l : List Sm) (all vis b : List (List UInt8)), blockC F all vis l = .ok b → (∀ x ∈ vis, x ∈ V) → (∀ x ∈ b, x ∈ V) → OkSs l → WfSs F V l
  | [], _, _, _, _, _, _, _ => trivial
  | s :: r, all, vis, b, h, hv, hb, ho => by
    rw [blockC_cons] at h
    obtain ⟨a, h1, h2⟩ := bind_ok h
    have hba : ∀ x ∈ a, x ∈ V := fun x hx => hb x (by rw [(block_vars F r a _ b h2).1]; exact List.mem_append_left _ hx)
    refine ⟨stmt_wf F V s all vis a h1 hv hba ho.1, block_wf F V r a (visC vis s) b h2 ?_ hb ho.2⟩
    intro x hx
    obtain ⟨k, m, e, t, o⟩ := s
    unfold visC at hx
    simp only at hx
    split at hx
    · next hk =>
      rcases List.mem_append.1 hx with hx | hx
      · exact hv x hx
      · rw [List.mem_singleton.1 hx]
        refine hba _ ?_
        rw [(stmt_vars F _ _ _ _ h1).1, varsM, if_pos hk]
        simp
    · exact hv x hx
end
theorem fun_wf {F : List Fu} {tw : Bool} {f : Fu} (h : funC F tw f = 0) (ho : OkSs f.body) : WfF F f := by
  obtain ⟨_, _, _, h4, a, b, h1, h2⟩ := funC_ok h
  have e1 := (pars_vars _ _ _ h1).1
  have e2 := (block_vars F _ _ _ _ h2).1
  rw [List.nil_append] at e1
  subst e1
  have eb : b = varsF f := e2
  refine ⟨block_wf F (varsF f) f.body _ _ b h2 (fun x hx => List.mem_append_left _ hx) (fun x hx => eb ▸ hx) ho, fun_vars h, h4⟩
/-- A program that is well. -/
structure WfP (F : List Fu) : Prop where
  funs : ∀ f ∈ F, WfF F f
  names : ∀ i (hi : i < F.length) j (hj : j < F.length), F[j].name = F[i].name → j = i
theorem prog_wf {F : List Fu} (h : funsC F [] F = none) (ho : ∀ f ∈ F, OkF f) : WfP F := by
  refine ⟨fun f hf => ?_, fun i hi j hj e => ?_⟩
  · obtain ⟨i, hi, rfl⟩ := List.mem_iff_getElem.1 hf
    exact fun_wf (funsC_all F [] h i hi) (ho _ hf).2.2.2.2
  · have key : ∀ i (hi : i < F.length) j (hj : j < F.length), j < i → F[j].name ≠ F[i].name := by
      intro i hi j hj hji e
      have h1 := (funC_ok (funsC_all F [] h i hi)).2.2.1
      rw [List.nil_append, List.any_eq_false] at h1
      exact h1 F[j] (List.mem_take_iff_getElem.2 ⟨j, by omega, rfl⟩) (by simpa using e)
    rcases Nat.lt_trichotomy i j with h1 | h1 | h1
    · exact absurd e.symm (key j hj i hi h1)
    · exact h1.symm
    · exact absurd e (key i hi j hj h1)
/-- Ops whose numbers fit. -/
structure Ops.Fit (O : Ops) : Prop where
  one : ∀ m a, In64 a → In64 (O.one m a)
  two : ∀ m a b, In64 a → In64 b → In64 (O.two m a b)
def Env64 (env : Env) : Prop := ∀ m, In64 (env m)
theorem zero64 : In64 0 := by unfold In64; omega
theorem Env64.set {env : Env} (h : Env64 env) (m : List UInt8) {v : Int} (hv : In64 v) : Env64 (setE env m v) := by
  intro x
  unfold setE
  split
  · exact hv
  · exact h x
theorem fits_bind : ∀ (ps : List (List UInt8)) (l : List Int), (∀ v ∈ l, In64 v) → Env64 (bindE ps l)
  | [], _, _ => fun _ => zero64
  | _ :: _, [], _ => fun _ => zero64
  | p :: r, a :: l, h => (fits_bind r l fun v hv => h v (by simp [hv])).set p (h a (by simp))
def FitV : Vr → Prop
  | .stop _ _ => True
  | .val v _ => In64 v
def FitA : Ar → Prop
  | .stop _ _ => True
  | .vals l _ => ∀ v ∈ l, In64 v
def FitB : Br → Prop
  | .stop _ _ => True
  | .ret v _ => In64 v
  | .next env _ => Env64 env
def FitK (K : CallF) : Prop := ∀ m l s, (∀ v ∈ l, In64 v) → FitV (K m l s)
theorem getD64 {l : List Int} (h : ∀ v ∈ l, In64 v) (i : Nat) : In64 (l.getD i 0) := by
  rw [List.getD_eq_getElem?_getD]
  rcases Nat.lt_or_ge i l.length with hi | hi
  · rw [List.getElem?_eq_getElem hi]; exact h _ (List.getElem_mem hi)
  · rw [List.getElem?_eq_none hi]; exact zero64
mutual
theorem exprX_fit {O : Ops} (hO : O.Fit) {K : CallF} (hK : FitK K) {env : Env} (he : Env64 env) {F : List Fu} : ∀ (e : Ex) (s : Ms), WfE F e → FitV (exprX O K env e s)
  | .mk k n m ks, s, hw => by
    rw [exprX]
    have h := exprsX_fit hO hK he ks s hw.2.2.2.2
    cases hx : exprsX O K env ks s with
    | stop c s1 => trivial
    | vals l s1 =>
      rw [hx] at h
      simp only [exprV]
      split
      · exact he m
      · split
        · exact hK m l s1 h
        · split
          · exact hO.one _ _ (getD64 h 0)
          · split
            · exact hO.two _ _ _ (getD64 h 0) (getD64 h 1)
            · exact hw.1
theorem exprsX_fit {O : Ops} (hO : O.Fit) {K : CallF} (hK : FitK K) {env : Env} (he : Env64 env) {F : List Fu} : ∀ (l : List Ex) (s : Ms), WfEs F l → FitA (exprsX O K env l s)
  | [], s, _ => by rw [exprsX]; exact fun v hv => absurd hv (by simp)
  | x :: r, s, hw => by
    rw [exprsX]
    have h := exprX_fit hO hK he x s hw.1
    cases hx : exprX O K env x s with
    | stop c s1 => trivial
    | val v s1 =>
      rw [hx] at h
      simp only
      have h2 := exprsX_fit hO hK he r s1 hw.2
      cases hr : exprsX O K env r s1 with
      | stop c s2 => trivial
      | vals l s2 =>
        rw [hr] at h2
        intro u hu
        rcases List.mem_cons.1 hu with rfl | hu
        · exact h
        · exact h2 u hu
end
theorem loopX_fit {most : Nat} {ev : Env → Ms → Vr} {bl : Env → Ms → Br} (hb : ∀ env s, Env64 env → FitB (bl env s)) : ∀ (N : Nat) (env : Env) (s : Ms), Env64 env → FitB (loopX most ev bl N env s)
  | 0, _, _, _ => trivial
  | N + 1, env, s, he => by
    rw [loopX]
    split
    · trivial
    · cases hx : ev env ⟨s.ticks + 1, s.out⟩ with
      | stop c s1 => trivial
      | val v s1 =>
        simp only
        split
        · exact he
        · have h2 := hb env s1 he
          cases hy : bl env s1 with
          | stop c s2 => trivial
          | ret v s2 => rw [hy] at h2; exact h2
          | next env2 s2 => rw [hy] at h2; exact loopX_fit hb N env2 s2 h2
mutual
theorem stmtX_fit {O : Ops} (hO : O.Fit) {most : Nat} {K : CallF} (hK : FitK K) (N : Nat) {F : List Fu} {V : List (List UInt8)} : ∀ (x : Sm) (env : Env) (s : Ms), Env64 env → WfS F V x → FitB (stmtX O most K N x env s)
  | .mk k m e t o, env, s, he, hw => by
    rw [stmtX]
    split
    · exact loopX_fit (fun env s h => blockX_fit hO hK N t env s h hw.2.2.1) N env s he
    · have h := exprX_fit hO hK he e s hw.1
      cases hx : exprX O K env e s with
      | stop c s1 => trivial
      | val v s1 =>
        rw [hx] at h
        simp only
        split
        · exact he.set m h
        · split
          · split
            · exact blockX_fit hO hK N o env s1 he hw.2.2.2
            · exact blockX_fit hO hK N t env s1 he hw.2.2.1
          · split
            · split
              · trivial
              · exact he
            · split
              · exact h
              · exact he
theorem blockX_fit {O : Ops} (hO : O.Fit) {most : Nat} {K : CallF} (hK : FitK K) (N : Nat) {F : List Fu} {V : List (List UInt8)} : ∀ (l : List Sm) (env : Env) (s : Ms), Env64 env → WfSs F V l → FitB (blockX O most K N l env s)
  | [], env, s, he, _ => by rw [blockX]; exact he
  | x :: r, env, s, he, hw => by
    rw [blockX]
    have h := stmtX_fit (most := most) hO hK N x env s he hw.1
    cases hx : stmtX O most K N x env s with
    | stop c s1 => trivial
    | ret v s1 => rw [hx] at h; exact h
    | next env1 s1 => rw [hx] at h; exact blockX_fit hO hK N r env1 s1 h hw.2
end
theorem funOf_wf {F : List Fu} (hF : ∀ f ∈ F, WfF F f) (m : List UInt8) : WfSs F (varsF (funOf F m)) (funOf F m).body := by
  unfold funOf
  cases hf : F.find? fun f => f.name == m with
  | none => trivial
  | some f => exact (hF f (List.mem_of_find?_eq_some hf)).body
theorem callX_fit {O : Ops} (hO : O.Fit) (most : Nat) {F : List Fu} (hF : ∀ f ∈ F, WfF F f) : ∀ (N d : Nat), FitK (callX O most F N d)
  | 0, _, _, _, _, _ => trivial
  | N + 1, d, m, l, s, hl => by
    rw [callX]
    split
    · trivial
    · split
      · trivial
      · have h := blockX_fit (most := most) hO (callX_fit hO most hF N (d + 1)) N (funOf F m).body (bindE (funOf F m).params l) ⟨s.ticks + 1, s.out⟩ (fits_bind _ _ hl) (funOf_wf hF m)
        cases hx : blockX O most (callX O most F N (d + 1)) N (funOf F m).body (bindE (funOf F m).params l) ⟨s.ticks + 1, s.out⟩ with
        | stop c s1 => trivial
        | ret v s1 => rw [hx] at h; exact h
        | next env s1 => exact zero64
theorem funOf_at {F : List Fu} (h : WfP F) {i : Nat} (hi : i < F.length) : funOf F F[i].name = F[i] := by
  unfold funOf
  cases hf : F.find? fun f => f.name == F[i].name with
  | none =>
    have := List.find?_eq_none.1 hf F[i] (List.getElem_mem hi)
    simp at this
  | some f =>
    obtain ⟨j, hj, rfl⟩ := List.mem_iff_getElem.1 (List.mem_of_find?_eq_some hf)
    have e : F[j].name = F[i].name := by simpa using List.find?_some hf
    have := h.names i hi j hj e
    subst this
    rfl
end Go.Proofs.YtcebpmaggnephacDoor
