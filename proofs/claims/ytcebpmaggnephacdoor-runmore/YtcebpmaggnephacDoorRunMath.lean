/-
  Our own: plain mathematics of what a program does: the document's chapter 6 as functions over trees. Nothing of the program stands here.
-/
import Derived.Test.YtcebpmaggnephacDoorCheckAll
namespace Go.Proofs.YtcebpmaggnephacDoor
open Go.RowKit

/-- Why a run stops. -/
inductive Stop where
  | tired
  | deep
  | loud
deriving DecidableEq
/-- So many ticks, such numbers printed. -/
structure Ms where
  ticks : Nat
  out : List Int
/-- What variables have. -/
abbrev Env := List UInt8 → Int
def setE (env : Env) (m : List UInt8) (v : Int) : Env := fun x => if x = m then v else env x
/-- What an expression, expressions, statements come to. -/
inductive Vr where
  | stop (c : Stop) (s : Ms)
  | val (v : Int) (s : Ms)
inductive Ar where
  | stop (c : Stop) (s : Ms)
  | vals (l : List Int) (s : Ms)
inductive Br where
  | stop (c : Stop) (s : Ms)
  | ret (v : Int) (s : Ms)
  | next (env : Env) (s : Ms)
abbrev CallF := List UInt8 → List Int → Ms → Vr
/-- What ops do. -/
structure Ops where
  one : List UInt8 → Int → Int
  two : List UInt8 → Int → Int → Int
/-- An expression's number, once its kids' are there. -/
def exprV (O : Ops) (K : CallF) (env : Env) (k : List UInt8) (n : Int) (m : List UInt8) (l : List Int) (s : Ms) : Vr :=
  if k = kName then .val (env m) s
  else if k = kCall then K m l s
  else if k = kOne then .val (O.one m (l.getD 0 0)) s
  else if k = kTwo then .val (O.two m (l.getD 0 0) (l.getD 1 0)) s
  else .val n s
mutual
def exprX (O : Ops) (K : CallF) (env : Env) : Ex → Ms → Vr
  | .mk k n m ks, s => match exprsX O K env ks s with
    | .stop c s => .stop c s
    | .vals l s => exprV O K env k n m l s
def exprsX (O : Ops) (K : CallF) (env : Env) : List Ex → Ms → Ar
  | [], s => .vals [] s
  | e :: r, s => match exprX O K env e s with
    | .stop c s => .stop c s
    | .val v s => match exprsX O K env r s with
      | .stop c s => .stop c s
      | .vals l s => .vals (v :: l) s
end
/-- A while, so many times at most. -/
def loopX (most : Nat) (ev : Env → Ms → Vr) (bl : Env → Ms → Br) : Nat → Env → Ms → Br
  | 0, _, s => .stop .tired s
  | N + 1, env, s =>
    if s.ticks = most then .stop .tired s
    else match ev env ⟨s.ticks + 1, s.out⟩ with
      | .stop c s => .stop c s
      | .val v s => if v = 0 then .next env s else match bl env s with
          | .next env s => loopX most ev bl N env s
          | .stop c s => .stop c s
          | .ret v s => .ret v s
mutual
def stmtX (O : Ops) (most : Nat) (K : CallF) (N : Nat) : Sm → Env → Ms → Br
  | .mk k m e t o, env, s =>
    if k = kWhile then loopX most (fun env s => exprX O K env e s) (fun env s => blockX O most K N t env s) N env s
    else match exprX O K env e s with
      | .stop c s => .stop c s
      | .val v s =>
        if k = kVar ∨ k = kSet then .next (setE env m v) s
        else if k = kIf then (if v = 0 then blockX O most K N o env s else blockX O most K N t env s)
        else if k = kPrint then (if s.out.length = 1000 then .stop .loud s else .next env ⟨s.ticks, s.out ++ [v]⟩)
        else if k = kReturn then .ret v s
        else .next env s
def blockX (O : Ops) (most : Nat) (K : CallF) (N : Nat) : List Sm → Env → Ms → Br
  | [], env, s => .next env s
  | x :: r, env, s => match stmtX O most K N x env s with
      | .next env s => blockX O most K N r env s
      | .stop c s => .stop c s
      | .ret v s => .ret v s
end
/-- Parameters have their arguments. -/
def bindE : List (List UInt8) → List Int → Env
  | p :: r, a :: l => setE (bindE r l) p a
  | _, _ => fun _ => 0
def funOf (F : List Fu) (m : List UInt8) : Fu := (F.find? fun f => f.name == m).getD ⟨[], [], []⟩
/-- A call, in d calls, with so many ticks left at most. -/
def callX (O : Ops) (most : Nat) (F : List Fu) : Nat → Nat → CallF
  | 0, _, _, _, s => .stop .tired s
  | N + 1, d, m, args, s =>
    if s.ticks = most then .stop .tired s
    else if d = 40 then .stop .deep ⟨s.ticks + 1, s.out⟩
    else match blockX O most (callX O most F N (d + 1)) N (funOf F m).body (bindE (funOf F m).params args) ⟨s.ticks + 1, s.out⟩ with
      | .stop c s => .stop c s
      | .ret v s => .val v s
      | .next _ s => .val 0 s
/-- A run's outcome. -/
def runX (O : Ops) (F : List Fu) (m : List UInt8) (args : List Int) (most : Nat) : Vr := callX O most F (most + 1) 0 m args ⟨0, []⟩

theorem exprsX_snoc (O : Ops) (K : CallF) (env : Env) (e : Ex) : ∀ (l : List Ex) (s : Ms), exprsX O K env (l ++ [e]) s = match exprsX O K env l s with
    | .stop c s => .stop c s
    | .vals vs s => match exprX O K env e s with
      | .stop c s => .stop c s
      | .val v s => .vals (vs ++ [v]) s
  | [], s => by
    rw [List.nil_append, exprsX]
    simp only [exprsX]
    cases exprX O K env e s <;> rfl
  | x :: r, s => by
    rw [List.cons_append, exprsX, exprsX]
    cases exprX O K env x s with
    | stop c s => rfl
    | val v s =>
      simp only
      rw [exprsX_snoc O K env e r s]
      cases exprsX O K env r s with
      | stop c s => rfl
      | vals l s =>
        simp only
        cases exprX O K env e s <;> rfl
theorem exprsX_len (O : Ops) (K : CallF) (env : Env) : ∀ (l : List Ex) (s s' : Ms) (vs : List Int), exprsX O K env l s = .vals vs s' → vs.length = l.length
  | [], s, s', vs, h => by rw [exprsX] at h; cases h; rfl
  | x :: r, s, s', vs, h => by
    rw [exprsX] at h
    cases hx : exprX O K env x s with
    | stop c s => rw [hx] at h; cases h
    | val v s1 =>
      rw [hx] at h
      simp only at h
      cases hr : exprsX O K env r s1 with
      | stop c s => rw [hr] at h; cases h
      | vals l s2 =>
        rw [hr] at h; cases h
        simp [exprsX_len O K env r s1 _ _ hr]

/-- One state goes on to another. -/
structure On (most : Nat) (s s' : Ms) : Prop where
  ticks : s.ticks ≤ s'.ticks
  most : s.ticks ≤ most → s'.ticks ≤ most
  out : s.out <+: s'.out
theorem On.refl (most : Nat) (s : Ms) : On most s s := ⟨Nat.le_refl _, id, List.prefix_refl _⟩
theorem On.trans {most : Nat} {a b c : Ms} (h : On most a b) (k : On most b c) : On most a c := ⟨Nat.le_trans h.ticks k.ticks, fun x => k.most (h.most x), h.out.trans k.out⟩
def Vr.st : Vr → Ms
  | .stop _ s => s
  | .val _ s => s
def Ar.st : Ar → Ms
  | .stop _ s => s
  | .vals _ s => s
def Br.st : Br → Ms
  | .stop _ s => s
  | .ret _ s => s
  | .next _ s => s
def OnK (most : Nat) (K : CallF) : Prop := ∀ m l s, On most s (K m l s).st
theorem exprV_on {most : Nat} {O : Ops} {K : CallF} (hK : OnK most K) (env : Env) (k : List UInt8) (n : Int) (m : List UInt8) (l : List Int) (s : Ms) : On most s (exprV O K env k n m l s).st := by
  unfold exprV
  split
  · exact On.refl _ _
  · split
    · exact hK _ _ _
    · split
      · exact On.refl _ _
      · split <;> exact On.refl _ _
mutual
theorem exprX_on {most : Nat} {O : Ops} {K : CallF} (hK : OnK most K) (env : Env) : ∀ (e : Ex) (s : Ms), On most s (exprX O K env e s).st
  | .mk k n m ks, s => by
    rw [exprX]
    have h := exprsX_on (O := O) hK env ks s
    cases hx : exprsX O K env ks s with
    | stop c s1 => rw [hx] at h; exact h
    | vals l s1 => rw [hx] at h; exact h.trans (exprV_on hK _ _ _ _ _ _)
theorem exprsX_on {most : Nat} {O : Ops} {K : CallF} (hK : OnK most K) (env : Env) : ∀ (l : List Ex) (s : Ms), On most s (exprsX O K env l s).st
  | [], s => by rw [exprsX]; exact On.refl _ _
  | x :: r, s => by
    rw [exprsX]
    have h := exprX_on (O := O) hK env x s
    cases hx : exprX O K env x s with
    | stop c s1 => rw [hx] at h; exact h
    | val v s1 =>
      rw [hx] at h
      have h2 := exprsX_on (O := O) hK env r s1
      simp only
      cases hr : exprsX O K env r s1 with
      | stop c s2 => rw [hr] at h2; exact h.trans h2
      | vals l s2 => rw [hr] at h2; exact h.trans h2
end
theorem On.tick {most : Nat} {s : Ms} (h : s.ticks ≠ most) : On most s ⟨s.ticks + 1, s.out⟩ := ⟨Nat.le_succ _, fun x => by show s.ticks + 1 ≤ most; omega, List.prefix_refl _⟩
theorem loopX_on {most : Nat} {ev : Env → Ms → Vr} {bl : Env → Ms → Br} (he : ∀ env s, On most s (ev env s).st) (hb : ∀ env s, On most s (bl env s).st) : ∀ (N : Nat) (env : Env) (s : Ms), On most s (loopX most ev bl N env s).st
  | 0, env, s => On.refl _ _
  | N + 1, env, s => by
    rw [loopX]
    split
    · exact On.refl _ _
    · next ht =>
      have h := (On.tick ht).trans (he env ⟨s.ticks + 1, s.out⟩)
      cases hx : ev env ⟨s.ticks + 1, s.out⟩ with
      | stop c s1 => rw [hx] at h; exact h
      | val v s1 =>
        rw [hx] at h
        simp only
        split
        · exact h
        · have h2 := hb env s1
          cases hy : bl env s1 with
          | stop c s2 => rw [hy] at h2; exact h.trans h2
          | ret v s2 => rw [hy] at h2; exact h.trans h2
          | next env2 s2 => rw [hy] at h2; exact (h.trans h2).trans (loopX_on he hb N env2 s2)
mutual
theorem stmtX_on {most : Nat} {O : Ops} {K : CallF} (hK : OnK most K) (N : Nat) : ∀ (x : Sm) (env : Env) (s : Ms), On most s (stmtX O most K N x env s).st
  | .mk k m e t o, env, s => by
    rw [stmtX]
    split
    · exact loopX_on (fun env s => exprX_on hK env e s) (fun env s => blockX_on hK N t env s) N env s
    · have h := exprX_on (O := O) hK env e s
      cases hx : exprX O K env e s with
      | stop c s1 => rw [hx] at h; exact h
      | val v s1 =>
        rw [hx] at h
        simp only
        split
        · exact h
        · split
          · split
            · exact h.trans (blockX_on hK N o env s1)
            · exact h.trans (blockX_on hK N t env s1)
          · split
            · split
              · exact h
              · exact h.trans ⟨Nat.le_refl _, id, List.prefix_append _ _⟩
            · split <;> exact h
theorem blockX_on {most : Nat} {O : Ops} {K : CallF} (hK : OnK most K) (N : Nat) : ∀ (l : List Sm) (env : Env) (s : Ms), On most s (blockX O most K N l env s).st
  | [], env, s => by rw [blockX]; exact On.refl _ _
  | x :: r, env, s => by
    rw [blockX]
    have h := stmtX_on (O := O) hK N x env s
    cases hx : stmtX O most K N x env s with
    | stop c s1 => rw [hx] at h; exact h
    | ret v s1 => rw [hx] at h; exact h
    | next env1 s1 => rw [hx] at h; exact h.trans (blockX_on hK N r env1 s1)
end
theorem callX_on (O : Ops) (most : Nat) (F : List Fu) : ∀ (N d : Nat), OnK most (callX O most F N d)
  | 0, d, m, l, s => On.refl _ _
  | N + 1, d, m, l, s => by
    rw [callX]
    split
    · exact On.refl _ _
    · next ht =>
      split
      · exact On.tick ht
      · have h := (On.tick ht).trans (blockX_on (O := O) (callX_on O most F N (d + 1)) N (funOf F m).body (bindE (funOf F m).params l) ⟨s.ticks + 1, s.out⟩)
        cases hx : blockX O most (callX O most F N (d + 1)) N (funOf F m).body (bindE (funOf F m).params l) ⟨s.ticks + 1, s.out⟩ with
        | stop c s1 => rw [hx] at h; exact h
        | ret v s1 => rw [hx] at h; exact h
        | next env s1 => rw [hx] at h; exact h

/-- Tired with fewer ticks: what another run goes on from. -/
structure Less (most : Nat) (s s' : Ms) : Prop where
  at_ : s.ticks = most
  ticks : most ≤ s'.ticks
  out : s.out <+: s'.out
theorem Less.on {most most' : Nat} {s a b : Ms} (h : Less most s a) (k : On most' a b) : Less most s b := ⟨h.at_, Nat.le_trans h.ticks k.ticks, h.out.trans k.out⟩
/-- Alike, or tired. -/
def MoreV (most : Nat) (r r' : Vr) : Prop := r = r' ∨ ∃ s, r = .stop .tired s ∧ Less most s r'.st
def MoreA (most : Nat) (r r' : Ar) : Prop := r = r' ∨ ∃ s, r = .stop .tired s ∧ Less most s r'.st
def MoreB (most : Nat) (r r' : Br) : Prop := r = r' ∨ ∃ s, r = .stop .tired s ∧ Less most s r'.st
/-- Calls that are alike, or tired, where there is room. -/
def MoreK (most most' N N' : Nat) (K K' : CallF) : Prop := ∀ m l s, s.ticks ≤ most → most - s.ticks < N → most' - s.ticks < N' → MoreV most (K m l s) (K' m l s)
section
variable {O : Ops} {most most' N N' : Nat} {K K' : CallF}
theorem exprV_more (_hm : most ≤ most') (h : MoreK most most' N N' K K') (env : Env) (k : List UInt8) (n : Int) (m : List UInt8) (l : List Int) (s : Ms) (h1 : s.ticks ≤ most) (h2 : most - s.ticks < N) (h3 : most' - s.ticks < N') : MoreV most (exprV O K env k n m l s) (exprV O K' env k n m l s) := by
  unfold exprV
  split
  · exact Or.inl rfl
  · split
    · exact h _ _ _ h1 h2 h3
    · exact Or.inl rfl
mutual
theorem exprX_more (hm : most ≤ most') (h : MoreK most most' N N' K K') (hK : OnK most K) (hK' : OnK most' K') (env : Env) : ∀ (e : Ex) (s : Ms), s.ticks ≤ most → most - s.ticks < N → most' - s.ticks < N' → MoreV most (exprX O K env e s) (exprX O K' env e s)
  | .mk k n m ks, s, h1, h2, h3 => by
    rw [exprX, exprX]
    have ho := exprsX_on (O := O) hK env ks s
    rcases exprsX_more hm h hK hK' env ks s h1 h2 h3 with e | ⟨s1, e, hl⟩
    · rw [← e]
      cases hx : exprsX O K env ks s with
      | stop c s1 => exact Or.inl rfl
      | vals l s1 =>
        rw [hx] at ho
        have a := ho.ticks; have b := ho.most h1
        exact exprV_more hm h env k n m l s1 b (by show most - (Ar.st (.vals l s1)).ticks < N; omega) (by show most' - (Ar.st (.vals l s1)).ticks < N'; omega)
    · rw [e]
      refine Or.inr ⟨s1, rfl, ?_⟩
      cases hx : exprsX O K' env ks s with
      | stop c s2 => rw [hx] at hl; exact hl
      | vals l s2 => rw [hx] at hl; exact hl.on (exprV_on hK' _ _ _ _ _ _)
theorem exprsX_more (hm : most ≤ most') (h : MoreK most most' N N' K K') (hK : OnK most K) (hK' : OnK most' K') (env : Env) : ∀ (l : List Ex) (s : Ms), s.ticks ≤ most → most - s.ticks < N → most' - s.ticks < N' → MoreA most (exprsX O K env l s) (exprsX O K' env l s)
  | [], s, h1, h2, h3 => by rw [exprsX, exprsX]; exact Or.inl rfl
  | x :: r, s, h1, h2, h3 => by
    rw [exprsX, exprsX]
    have ho := exprX_on (O := O) hK env x s
    rcases exprX_more hm h hK hK' env x s h1 h2 h3 with e | ⟨s1, e, hl⟩
    · rw [← e]
      cases hx : exprX O K env x s with
      | stop c s1 => exact Or.inl rfl
      | val v s1 =>
        rw [hx] at ho
        have a := ho.ticks; have b := ho.most h1
        simp only [Vr.st] at a b
        simp only
        rcases exprsX_more hm h hK hK' env r s1 b (by omega) (by omega) with e | ⟨s2, e, hl⟩
        · rw [← e]; exact Or.inl rfl
        · rw [e]
          refine Or.inr ⟨s2, rfl, ?_⟩
          cases hy : exprsX O K' env r s1 with
          | stop c s3 => rw [hy] at hl; exact hl
          | vals l s3 => rw [hy] at hl; exact hl
    · rw [e]
      refine Or.inr ⟨s1, rfl, ?_⟩
      cases hx : exprX O K' env x s with
      | stop c s2 => rw [hx] at hl; exact hl
      | val v s2 =>
        rw [hx] at hl
        simp only
        have h4 := exprsX_on (O := O) hK' env r s2
        cases hy : exprsX O K' env r s2 with
        | stop c s3 => rw [hy] at h4; exact hl.on h4
        | vals l s3 => rw [hy] at h4; exact hl.on h4
end
theorem loopX_more {ev ev' : Env → Ms → Vr} {bl bl' : Env → Ms → Br} (hm : most ≤ most') (B B' : Nat)
    (he : ∀ env s, s.ticks ≤ most → most - s.ticks < B → most' - s.ticks < B' → MoreV most (ev env s) (ev' env s)) (hb : ∀ env s, s.ticks ≤ most → most - s.ticks < B → most' - s.ticks < B' → MoreB most (bl env s) (bl' env s))
    (e1 : ∀ env s, On most s (ev env s).st) (e2 : ∀ env s, On most' s (ev' env s).st) (b1 : ∀ env s, On most s (bl env s).st) (b2 : ∀ env s, On most' s (bl' env s).st) :
    ∀ (n n' : Nat) (env : Env) (s : Ms), s.ticks ≤ most → most - s.ticks < n → most' - s.ticks < n' → most - s.ticks < B → most' - s.ticks < B' → MoreB most (loopX most ev bl n env s) (loopX most' ev' bl' n' env s)
  | 0, _, _, _, _, h, _, _, _ => absurd h (by omega)
  | _ + 1, 0, _, _, _, _, h, _, _ => absurd h (by omega)
  | n + 1, n' + 1, env, s, h1, h2, h3, h4, h5 => by
    by_cases ht : s.ticks = most
    · rw [loopX, if_pos ht]
      exact Or.inr ⟨s, rfl, ht, by have := (loopX_on e2 b2 (n' + 1) env s).ticks; omega, (loopX_on e2 b2 (n' + 1) env s).out⟩
    · rw [loopX, if_neg ht, loopX, if_neg (show ¬ s.ticks = most' by omega)]
      have ho := e1 env ⟨s.ticks + 1, s.out⟩
      rcases he env ⟨s.ticks + 1, s.out⟩ (by show s.ticks + 1 ≤ most; omega) (by show most - (s.ticks + 1) < B; omega) (by show most' - (s.ticks + 1) < B'; omega) with e | ⟨s1, e, hl⟩
      · rw [← e]
        cases hx : ev env ⟨s.ticks + 1, s.out⟩ with
        | stop c s1 => exact Or.inl rfl
        | val v s1 =>
          rw [hx] at ho
          have a := ho.ticks; have b := ho.most (by show s.ticks + 1 ≤ most; omega)
          simp only [Vr.st] at a b
          simp only
          split
          · exact Or.inl rfl
          · have ho2 := b1 env s1
            rcases hb env s1 b (by omega) (by omega) with e | ⟨s2, e, hl⟩
            · rw [← e]
              cases hy : bl env s1 with
              | stop c s2 => exact Or.inl rfl
              | ret v s2 => exact Or.inl rfl
              | next env2 s2 =>
                rw [hy] at ho2
                have a2 := ho2.ticks; have b2' := ho2.most b
                simp only [Br.st] at a2 b2'
                exact loopX_more hm B B' he hb e1 e2 b1 b2 n n' env2 s2 b2' (by omega) (by omega) (by omega) (by omega)
            · rw [e]
              refine Or.inr ⟨s2, rfl, ?_⟩
              cases hy : bl' env s1 with
              | stop c s3 => rw [hy] at hl; exact hl
              | ret v s3 => rw [hy] at hl; exact hl
              | next env3 s3 => rw [hy] at hl; exact hl.on (loopX_on e2 b2 n' env3 s3)
      · rw [e]
        refine Or.inr ⟨s1, rfl, ?_⟩
        cases hx : ev' env ⟨s.ticks + 1, s.out⟩ with
        | stop c s2 => rw [hx] at hl; exact hl
        | val v s2 =>
          rw [hx] at hl
          simp only
          split
          · exact hl
          · have h4 := b2 env s2
            cases hy : bl' env s2 with
            | stop c s3 => rw [hy] at h4; exact hl.on h4
            | ret v s3 => rw [hy] at h4; exact hl.on h4
            | next env3 s3 => rw [hy] at h4; exact (hl.on h4).on (loopX_on e2 b2 n' env3 s3)
mutual
theorem stmtX_more (hm : most ≤ most') (h : MoreK most most' N N' K K') (hK : OnK most K) (hK' : OnK most' K') : ∀ (x : Sm) (env : Env) (s : Ms), s.ticks ≤ most → most - s.ticks < N → most' - s.ticks < N' → MoreB most (stmtX O most K N x env s) (stmtX O most' K' N' x env s)
  | .mk k m e t o, env, s, h1, h2, h3 => by
    rw [stmtX, stmtX]
    split
    · exact loopX_more hm N N' (fun env s => exprX_more hm h hK hK' env e s) (fun env s => blockX_more hm h hK hK' t env s) (fun env s => exprX_on hK env e s) (fun env s => exprX_on hK' env e s) (fun env s => blockX_on hK N t env s) (fun env s => blockX_on hK' N' t env s) N N' env s h1 h2 h3 h2 h3
    · have ho := exprX_on (O := O) hK env e s
      rcases exprX_more (O := O) hm h hK hK' env e s h1 h2 h3 with e1 | ⟨s1, e1, hl⟩
      · rw [← e1]
        cases hx : exprX O K env e s with
        | stop c s1 => exact Or.inl rfl
        | val v s1 =>
          rw [hx] at ho
          have a := ho.ticks; have b := ho.most h1
          simp only [Vr.st] at a b
          simp only
          split
          · exact Or.inl rfl
          · split
            · split
              · exact blockX_more hm h hK hK' o env s1 b (by omega) (by omega)
              · exact blockX_more hm h hK hK' t env s1 b (by omega) (by omega)
            · exact Or.inl rfl
      · rw [e1]
        refine Or.inr ⟨s1, rfl, ?_⟩
        cases hx : exprX O K' env e s with
        | stop c s2 => rw [hx] at hl; exact hl
        | val v s2 =>
          rw [hx] at hl
          simp only
          split
          · exact hl
          · split
            · split
              · exact hl.on (blockX_on hK' N' o env s2)
              · exact hl.on (blockX_on hK' N' t env s2)
            · split
              · split
                · exact hl
                · exact hl.on (most' := most') ⟨Nat.le_refl _, id, List.prefix_append _ _⟩
              · split <;> exact hl
theorem blockX_more (hm : most ≤ most') (h : MoreK most most' N N' K K') (hK : OnK most K) (hK' : OnK most' K') : ∀ (l : List Sm) (env : Env) (s : Ms), s.ticks ≤ most → most - s.ticks < N → most' - s.ticks < N' → MoreB most (blockX O most K N l env s) (blockX O most' K' N' l env s)
  | [], env, s, h1, h2, h3 => by rw [blockX, blockX]; exact Or.inl rfl
  | x :: r, env, s, h1, h2, h3 => by
    rw [blockX, blockX]
    have ho := stmtX_on (O := O) hK N x env s
    rcases stmtX_more hm h hK hK' x env s h1 h2 h3 with e1 | ⟨s1, e1, hl⟩
    · rw [← e1]
      cases hx : stmtX O most K N x env s with
      | stop c s1 => exact Or.inl rfl
      | ret v s1 => exact Or.inl rfl
      | next env1 s1 =>
        rw [hx] at ho
        have a := ho.ticks; have b := ho.most h1
        simp only [Br.st] at a b
        exact blockX_more hm h hK hK' r env1 s1 b (by omega) (by omega)
    · rw [e1]
      refine Or.inr ⟨s1, rfl, ?_⟩
      cases hx : stmtX O most' K' N' x env s with
      | stop c s2 => rw [hx] at hl; exact hl
      | ret v s2 => rw [hx] at hl; exact hl
      | next env2 s2 => rw [hx] at hl; exact hl.on (blockX_on hK' N' r env2 s2)
end
end
theorem callX_more (O : Ops) (F : List Fu) {most most' : Nat} (hm : most ≤ most') : ∀ (N N' d : Nat), MoreK most most' N N' (callX O most F N d) (callX O most' F N' d)
  | 0, _, _, _, _, _, _, h, _ => absurd h (by omega)
  | _ + 1, 0, _, _, _, _, _, _, h => absurd h (by omega)
  | N + 1, N' + 1, d, m, l, s, h1, h2, h3 => by
    by_cases ht : s.ticks = most
    · rw [callX, if_pos ht]
      have := callX_on O most' F (N' + 1) d m l s
      exact Or.inr ⟨s, rfl, ht, by have := this.ticks; omega, this.out⟩
    · rw [callX, if_neg ht, callX, if_neg (show ¬ s.ticks = most' by omega)]
      split
      · exact Or.inl rfl
      · rcases blockX_more (O := O) hm (callX_more O F hm N N' (d + 1)) (callX_on O most F N (d + 1)) (callX_on O most' F N' (d + 1)) (funOf F m).body (bindE (funOf F m).params l) ⟨s.ticks + 1, s.out⟩ (by show s.ticks + 1 ≤ most; omega) (by show most - (s.ticks + 1) < N; omega) (by show most' - (s.ticks + 1) < N'; omega) with e | ⟨s1, e, hl⟩
        · rw [← e]; exact Or.inl rfl
        · rw [e]
          refine Or.inr ⟨s1, rfl, ?_⟩
          cases hx : blockX O most' (callX O most' F N' (d + 1)) N' (funOf F m).body (bindE (funOf F m).params l) ⟨s.ticks + 1, s.out⟩ with
          | stop c s2 => rw [hx] at hl; exact hl
          | ret v s2 => rw [hx] at hl; exact hl
          | next env s2 => rw [hx] at hl; exact hl
/-- With more ticks a run does the same, and goes on. -/
theorem runX_more (O : Ops) (F : List Fu) (m : List UInt8) (args : List Int) {most most' : Nat} (hm : most ≤ most') : MoreV most (runX O F m args most) (runX O F m args most') :=
  callX_more O F hm (most + 1) (most' + 1) 0 m args ⟨0, []⟩ (Nat.zero_le _) (by show most - 0 < most + 1; omega) (by show most' - 0 < most' + 1; omega)
theorem runX_most (O : Ops) (F : List Fu) (m : List UInt8) (args : List Int) (most : Nat) : (runX O F m args most).st.ticks ≤ most := (callX_on O most F (most + 1) 0 m args ⟨0, []⟩).most (Nat.zero_le _)
end Go.Proofs.YtcebpmaggnephacDoor
