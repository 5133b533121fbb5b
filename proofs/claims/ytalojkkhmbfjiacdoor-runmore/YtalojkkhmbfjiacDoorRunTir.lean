/-
  Our own: plain mathematics: who is tired has used all ticks.
-/
import Derived.Test.YtalojkkhmbfjiacDoorRunMath
namespace Go.Proofs.YtalojkkhmbfjiacDoor
open Go.RowKit

def TirV (most : Nat) (r : Vr) : Prop := ∀ s, r = .stop .tired s → s.ticks = most
def TirA (most : Nat) (r : Ar) : Prop := ∀ s, r = .stop .tired s → s.ticks = most
def TirB (most : Nat) (r : Br) : Prop := ∀ s, r = .stop .tired s → s.ticks = most
def TirK (most N : Nat) (K : CallF) : Prop := ∀ m l s, s.ticks ≤ most → most - s.ticks < N → TirV most (K m l s)
theorem tirV_val (most : Nat) (v : Int) (s : Ms) : TirV most (.val v s) := fun _ h => by cases h
theorem tirB_next (most : Nat) (env : Env) (s : Ms) : TirB most (.next env s) := fun _ h => by cases h
theorem tirB_ret (most : Nat) (v : Int) (s : Ms) : TirB most (.ret v s) := fun _ h => by cases h
section
variable {O : Ops} {most N : Nat} {K : CallF}
theorem exprV_tir (h : TirK most N K) (env : Env) (k : List UInt8) (n : Int) (m : List UInt8) (l : List Int) (s : Ms) (h1 : s.ticks ≤ most) (h2 : most - s.ticks < N) : TirV most (exprV O K env k n m l s) := by
  unfold exprV
  split
  · exact tirV_val _ _ _
  · split
    · exact h _ _ _ h1 h2
    · split
      · exact tirV_val _ _ _
      · split <;> exact tirV_val _ _ _
mutual
theorem exprX_tir (h : TirK most N K) (hK : OnK most K) (env : Env) : ∀ (e : Ex) (s : Ms), s.ticks ≤ most → most - s.ticks < N → TirV most (exprX O K env e s)
  | .mk k n m ks, s, h1, h2 => by
    rw [exprX]
    have ho := exprsX_on (O := O) hK env ks s
    have ht := exprsX_tir h hK env ks s h1 h2
    cases hx : exprsX O K env ks s with
    | stop c s1 => intro s' e; injection e with e1 e2; subst e1 e2; exact ht _ hx
    | vals l s1 =>
      rw [hx] at ho
      have a := ho.ticks; have b := ho.most h1
      simp only [Ar.st] at a b
      exact exprV_tir h env k n m l s1 b (by omega)
theorem exprsX_tir (h : TirK most N K) (hK : OnK most K) (env : Env) : ∀ (l : List Ex) (s : Ms), s.ticks ≤ most → most - s.ticks < N → TirA most (exprsX O K env l s)
  | [], s, _, _ => by rw [exprsX]; intro _ h; cases h
  | x :: r, s, h1, h2 => by
    rw [exprsX]
    have ho := exprX_on (O := O) hK env x s
    have ht := exprX_tir h hK env x s h1 h2
    cases hx : exprX O K env x s with
    | stop c s1 => intro s' e; injection e with e1 e2; subst e1 e2; exact ht _ hx
    | val v s1 =>
      rw [hx] at ho
      have a := ho.ticks; have b := ho.most h1
      simp only [Vr.st] at a b
      simp only
      have ht2 := exprsX_tir h hK env r s1 b (by omega)
      cases hr : exprsX O K env r s1 with
      | stop c s2 => intro s' e; injection e with e1 e2; subst e1 e2; exact ht2 _ hr
      | vals l s2 => intro _ h; cases h
end
theorem loopX_tir {ev : Env → Ms → Vr} {bl : Env → Ms → Br} (B : Nat) (he : ∀ env s, s.ticks ≤ most → most - s.ticks < B → TirV most (ev env s)) (hb : ∀ env s, s.ticks ≤ most → most - s.ticks < B → TirB most (bl env s)) (e1 : ∀ env s, On most s (ev env s).st) (b1 : ∀ env s, On most s (bl env s).st) :
    ∀ (n : Nat) (env : Env) (s : Ms), s.ticks ≤ most → most - s.ticks < n → most - s.ticks < B → TirB most (loopX most ev bl n env s)
  | 0, _, _, _, h, _ => absurd h (by omega)
  | n + 1, env, s, h1, h2, h3 => by
    rw [loopX]
    split
    · next ht => intro s' e; injection e with _ e; rw [← e]; exact ht
    · next ht =>
      have ho := e1 env ⟨s.ticks + 1, s.out⟩
      have hte := he env ⟨s.ticks + 1, s.out⟩ (by show s.ticks + 1 ≤ most; omega) (by show most - (s.ticks + 1) < B; omega)
      cases hx : ev env ⟨s.ticks + 1, s.out⟩ with
      | stop c s1 => intro s' e; injection e with q1 q2; subst q1 q2; exact hte _ hx
      | val v s1 =>
        rw [hx] at ho
        have a := ho.ticks; have b := ho.most (by show s.ticks + 1 ≤ most; omega)
        simp only [Vr.st] at a b
        simp only
        split
        · exact tirB_next _ _ _
        · have ho2 := b1 env s1
          have htb := hb env s1 b (by omega)
          cases hy : bl env s1 with
          | stop c s2 => intro s' e; injection e with q1 q2; subst q1 q2; exact htb _ hy
          | ret v s2 => exact tirB_ret _ _ _
          | next env2 s2 =>
            rw [hy] at ho2
            have a2 := ho2.ticks; have b2 := ho2.most b
            simp only [Br.st] at a2 b2
            exact loopX_tir B he hb e1 b1 n env2 s2 b2 (by omega) (by omega)
mutual
theorem stmtX_tir (h : TirK most N K) (hK : OnK most K) : ∀ (x : Sm) (env : Env) (s : Ms), s.ticks ≤ most → most - s.ticks < N → TirB most (stmtX O most K N x env s)
  | .mk k m e t o, env, s, h1, h2 => by
    rw [stmtX]
    split
    · exact loopX_tir N (fun env s => exprX_tir h hK env e s) (fun env s => blockX_tir h hK t env s) (fun env s => exprX_on hK env e s) (fun env s => blockX_on hK N t env s) N env s h1 h2 h2
    · have ho := exprX_on (O := O) hK env e s
      have ht := exprX_tir (O := O) h hK env e s h1 h2
      cases hx : exprX O K env e s with
      | stop c s1 => intro s' q; injection q with q1 q2; subst q1 q2; exact ht _ hx
      | val v s1 =>
        rw [hx] at ho
        have a := ho.ticks; have b := ho.most h1
        simp only [Vr.st] at a b
        simp only
        split
        · exact tirB_next _ _ _
        · split
          · split
            · exact blockX_tir h hK o env s1 b (by omega)
            · exact blockX_tir h hK t env s1 b (by omega)
          · split
            · split
              · intro s' q; injection q with q1 _; cases q1
              · exact tirB_next _ _ _
            · split
              · exact tirB_ret _ _ _
              · exact tirB_next _ _ _
theorem blockX_tir (h : TirK most N K) (hK : OnK most K) : ∀ (l : List Sm) (env : Env) (s : Ms), s.ticks ≤ most → most - s.ticks < N → TirB most (blockX O most K N l env s)
  | [], env, s, _, _ => by rw [blockX]; exact tirB_next _ _ _
  | x :: r, env, s, h1, h2 => by
    rw [blockX]
    have ho := stmtX_on (O := O) hK N x env s
    have ht := stmtX_tir h hK x env s h1 h2
    cases hx : stmtX O most K N x env s with
    | stop c s1 => intro s' q; injection q with q1 q2; subst q1 q2; exact ht _ hx
    | ret v s1 => exact tirB_ret _ _ _
    | next env1 s1 =>
      rw [hx] at ho
      have a := ho.ticks; have b := ho.most h1
      simp only [Br.st] at a b
      exact blockX_tir h hK r env1 s1 b (by omega)
end
end
theorem callX_tir (O : Ops) (F : List Fu) (most : Nat) : ∀ (N d : Nat), TirK most N (callX O most F N d)
  | 0, _, _, _, _, _, h => absurd h (by omega)
  | N + 1, d, m, l, s, h1, h2 => by
    rw [callX]
    split
    · next ht => intro s' e; injection e with _ e; rw [← e]; exact ht
    · next ht =>
      split
      · intro s' q; injection q with q1 _; cases q1
      · have hb := blockX_tir (O := O) (callX_tir O F most N (d + 1)) (callX_on O most F N (d + 1)) (funOf F m).body (bindE (funOf F m).params l) ⟨s.ticks + 1, s.out⟩ (by show s.ticks + 1 ≤ most; omega) (by show most - (s.ticks + 1) < N; omega)
        cases hx : blockX O most (callX O most F N (d + 1)) N (funOf F m).body (bindE (funOf F m).params l) ⟨s.ticks + 1, s.out⟩ with
        | stop c s1 => intro s' q; injection q with q1 q2; subst q1 q2; exact hb _ hx
        | ret v s1 => exact tirV_val _ _ _
        | next env s1 => exact tirV_val _ _ _
theorem runX_tir (O : Ops) (F : List Fu) (m : List UInt8) (args : List Int) (most : Nat) : TirV most (runX O F m args most) := callX_tir O F most (most + 1) 0 m args ⟨0, []⟩ (Nat.zero_le _) (by show most - 0 < most + 1; omega)
end Go.Proofs.YtalojkkhmbfjiacDoor
