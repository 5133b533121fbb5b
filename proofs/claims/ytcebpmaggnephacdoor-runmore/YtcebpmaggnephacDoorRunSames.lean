/-
  Our own: texts joined: RunSame, RunTir, RunRan.
-/
import Derived.Test.YtcebpmaggnephacDoorRunRun
import Derived.Laws.OwnMore
import Derived.Test.YtcebpmaggnephacDoorRunMath
import Derived.Deep.RegionHeld3

/-
  Our own: the laws of runs: numbers alike, outcomes alike, a list of numbers copied; a closed run.
-/
namespace Go.Proofs.YtcebpmaggnephacDoor
open Go.RowKit Go.Maps

def e0 : Ex := .mk [110, 97, 109, 101] 0 [97] []
def s0 : Sm := .mk [114, 101, 116, 117, 114, 110] [] e0 [] []
theorem name_f : nameB [102] = true := by kernel_rfl
theorem name_a : nameB [97] = true := by kernel_rfl
abbrev ca0 : Array Value := #[.string ⟨#[114, 101, 116, 117, 114, 110]⟩, .string ⟨#[]⟩, .string ⟨#[110, 97, 109, 101]⟩, .int .i64 0, .string ⟨#[97]⟩, .slice none 0 0, .slice none 0 0, .slice none 0 0]
theorem cells_read {w : World} {b : Nat} {cs : Array Value} {t : TypeId} (h : w.heap[b]? = some (.cells cs t (0, 0))) : ∀ j u, cs.toList[j]? = some u → w.cell? ⟨b, 0 + j, none⟩ = some u := by
  intro j u hj
  rw [Nat.zero_add]
  have := cell_of_blk h j
  rw [this]
  simpa using hj
theorem second_newR (w : World) (a b : Obj) : ((w.alloc a).alloc b).heap[w.heap.size + 1]? = some b := by
  have := heap_alloc_new (w.alloc a) b
  simpa using this
theorem intsC_get {l : List Int} {i : Nat} (h : i < l.length) : (intsC l)[i]? = some (.int .i64 l[i]) := by simp [intsC, h]
theorem intsC_one (l : List Int) : ∀ u ∈ intsC l, u.oneCell' = true := by
  intro u hu
  obtain ⟨v, _, rfl⟩ := List.mem_map.1 hu
  rfl
theorem XRow.int {A : Nat → Prop} {w : World} {ad : Option Addr} {n c : Nat} {l : List Int} (h : XRow A w (.slice ad n c) l.length (intsC l)) {i : Nat} (hi : i < l.length) : ∃ g off, ad = some ⟨g, off, none⟩ ∧ A g ∧ w.cell? ⟨g, off + i, none⟩ = some (.int .i64 l[i]) := by
  obtain ⟨g, off, e, _, h2, h3⟩ := h.get (by omega)
  exact ⟨g, off, e, h2, h3 i _ (intsC_get hi)⟩
set_option maxRecDepth 100000 in
set_option maxHeartbeats 2000000 in
/-- SameInts at two lists of the same numbers. -/
theorem sameInts_any (l : List Int) (hn : l.length ≤ 9223372036854775807) (w : World) (ad ad' : Option Addr) (c c' : Nat) (h1 : XRow (InH w) w (.slice ad l.length c) l.length (intsC l)) (h2 : XRow (InH w) w (.slice ad' l.length c') l.length (intsC l)) :
    Calls Tryd.prog 17 #[.slice ad l.length c, .slice ad' l.length c'] w fun e w' => e = .returned (.bool true) ∧ Below w.heap.size w w' := by
  have R1 := hidX h1
  have R2 := hidX h2
  have hn' : (l.length : Int) ≤ 9223372036854775807 := by omega
  clear h1 h2
  go_enter Tryd.func17, Tryd.ntmps17
  go_wp2_with fail
  go_loopw [5] (fun i wr => ∃ q : Nat, q ≤ l.length ∧ i = .int .i64 q ∧ Below w.heap.size w wr) (fun i _ => l.length - (intOf i).toNat)
  case atStart => exact ⟨0, by omega, rfl, Below.refl _ _⟩
  case round =>
    obtain ⟨q, hq, rfl, hbl⟩ := hrel
    by_cases hlt : q < l.length
    · have hlt' : (q : Int) < (l.length : Int) := by omega
      obtain ⟨g, off, rfl, hg, ht0⟩ := R1.out.int hlt
      obtain ⟨g', off', rfl, hg', ht0'⟩ := R2.out.int hlt
      have ht := (hbl.cell (p := ⟨g, _, none⟩) hg).trans ht0
      have ht' := (hbl.cell (p := ⟨g', _, none⟩) hg').trans ht0'
      generalize l[q] = x at ht ht' ht0 ht0'
      clear ht0 ht0'
      go_wp2_with fail
      go_quiet (fail)
      go_wp2
      go_roundw
      case rel => exact ⟨q + 1, by omega, by go_num, by (repeat (first | exact Below.refl _ _ | assumption | refine Below.drew ?_ | refine Below.trans ?_ (drewN_below' _ _ _) | refine Below.setCell ?_ (by first | (simp; done) | (simp; omega)) _ | refine Below.alloc ?_ (by first | (simp; done) | (simp; omega)) _))⟩
      case measure => simp [intOf]; omega
    · have hqn : q = l.length := by omega
      subst hqn
      go_wp2
      go_ret
      exact ⟨rfl, hbl⟩
set_option maxRecDepth 100000 in
set_option maxHeartbeats 2000000 in
theorem sameOut_any (how : List UInt8) (v : Int) (t : Nat) (l : List Int) (hn : l.length ≤ 9223372036854775807) (w : World) (ad ad' : Option Addr) (c c' : Nat) (h1 : XRow (InH w) w (.slice ad l.length c) l.length (intsC l)) (h2 : XRow (InH w) w (.slice ad' l.length c') l.length (intsC l)) :
    Calls Tryd.prog 18 #[.agg (outC how v (.slice ad l.length c) t), .agg (outC how v (.slice ad' l.length c') t)] w fun e w' => e = .returned (.bool true) ∧ Below w.heap.size w w' := by
  have hsi : ∀ X, Below w.heap.size w X → Calls Tryd.prog 17 #[.slice ad l.length c, .slice ad' l.length c'] X fun e w' => e = .returned (.bool true) ∧ Below X.heap.size X w' := fun X hX => sameInts_any l hn X ad ad' c c' (h1.imp (inH_up hX) (keepH hX)) (h2.imp (inH_up hX) (keepH hX))
  have HSI := hidX hsi
  clear hsi h1 h2
  unfold outC
  go_enter Tryd.func18, Tryd.ntmps18
  go_wp2_with fail
  refine (HSI.out _ (by (repeat (first | exact Below.refl _ _ | assumption | refine Below.drew ?_ | refine Below.trans ?_ (drewN_below' _ _ _) | refine Below.setCell ?_ (by first | (simp; done) | (simp; omega)) _ | refine Below.alloc ?_ (by first | (simp; done) | (simp; omega)) _)))).mono ?_
  rintro e w2 ⟨rfl, hb2⟩
  have hb3 : Below w.heap.size w w2 := bl_trans (show Below w.heap.size w _ by (repeat (first | exact Below.refl _ _ | assumption | refine Below.drew ?_ | refine Below.trans ?_ (drewN_below' _ _ _) | refine Below.setCell ?_ (by first | (simp; done) | (simp; omega)) _ | refine Below.alloc ?_ (by first | (simp; done) | (simp; omega)) _))) (by simp; omega) hb2
  clear hb2
  go_wp2
  go_ret
  exact ⟨rfl, hb3⟩
theorem xrow_intsR {A : Nat → Prop} {w : World} {a : Addr} {c : Nat} {l : List Int} (h : XRow A w (.slice (some a) l.length c) l.length (intsC l)) : ∀ j u, (intsC l)[j]? = some u → w.cell? (a.add j) = some u := by
  intro j u hu
  have hj : j < l.length := by
    rcases Nat.lt_or_ge j (intsC l).length with h' | h'
    · simpa [intsC] using h'
    · rw [List.getElem?_eq_none h'] at hu; cases hu
  obtain ⟨g, off, e, _, _, hc⟩ := h.get (by omega)
  injection e with e
  subst e
  rw [← hc j u hu]
  congr 1
  unfold Addr.add
  split
  · next h0 => rw [h0, Nat.add_zero]
  · rfl
/-- What append(nil, numbers...) leaves. -/
theorem run_append_ints (w : World) (ty : TypeId) (sv : Value) (l : List Int) (hl : l.length ≤ 5000) (h : XRow (InH w) w sv l.length (intsC l)) :
    ∃ v' w', (Builtin.append_ #[42, 42] ty #[.slice none 0 0, sv]).run Tryd.prog w = .ok v' w' ∧ w'.ownsRow w.heap.size 3 1 v' l.length (intsC l) ∧ Below w.heap.size w w' := by
  obtain ⟨i0, hi, hz0, hz1, hz2⟩ := info_parts int_info
  obtain ⟨ad, cap, rfl⟩ := h.is
  cases ad with
  | some a =>
    obtain ⟨v', w', hrun, hown, hg, _, _⟩ := run_append_own_at (P := Tryd.prog) w w.heap.size 42 ty 3 i0 _ 1 8 Tryd.underlying42 hi hz0 hz1 hz2 rfl (by decide) (.slice none 0 0) 0 [] (World.ownsRow_nil _ _ _ _) a l.length cap (intsC l) (intsC_len l) (xrow_intsR h) (intsC_one l) (by unfold maxLen; omega) (by omega) (Nat.le_refl _)
    refine ⟨v', w', hrun, by simpa using hown, ⟨hg.os, hg.tape, hg.output, hg.size, fun i hi => hg.block i hi (fun e => by simp [Value.ownBlock] at e)⟩⟩
  | none =>
    have h0 : l = [] := by
      rcases Nat.eq_zero_or_pos l.length with h' | h'
      · exact List.length_eq_zero_iff.1 h'
      · obtain ⟨g, off, e, _⟩ := h.get (by omega); cases e
    subst h0
    refine ⟨.slice none 0 0, w, ?_, World.ownsRow_nil _ _ _ _, Below.refl _ _⟩
    simp [Builtin.append_, run_underlying Tryd.underlying42, sizeOf, typeInfo, hi, Builtin.lenOf, Builtin.firstCells]
theorem wpList_append_ints {ops : Array Oper} {rest : List Oper} {o : Oper} {a : Act} {w : World} {Q : Exit → Act → World → Prop} (hgd : o.guard = none) (s x : Operand)
    (ho : o.op = .call { callee := .builtin .append, args := #[s, x], argTypes := #[42, 42] }) (hs : a.eval s = .slice none 0 0) (sv : Value) (hx : a.eval x = sv) (l : List Int) (hl : l.length ≤ 5000) (h : XRow (InH w) w sv l.length (intsC l))
    (hk : ∀ v' w', w'.ownsRow w.heap.size 3 1 v' l.length (intsC l) → Below w.heap.size w w' → wpList Tryd.prog ops Q rest (a.put o.dst v') w') :
    wpList Tryd.prog ops Q (o :: rest) a w := by
  refine wpList_plain hgd fun K hK => ?_
  obtain ⟨v', w', hr, h1, h2⟩ := run_append_ints w o.type sv l hl h
  unfold Oper.wp execOp
  simp only [ho, resolve, invoke, builtin, Sem.run_bind, Sem.run_pure, Result.andThen_ok, List.map_toArray, List.map_cons, List.map_nil, hs, hx, hr]
  exact hK _ _ (hk _ _ h1 h2)
def fR : Fu := ⟨[102], [[97]], [s0]⟩
theorem funsR : funsC [fR] [] [fR] = none := by
  have h1 : exprC [fR] [[97]] e0 = 0 := by
    rw [e0, exprC]
    simp only [List.length_nil, exprsC]
    simp [shapeE, name_a, kName, kNumE, andC]
  have h2 : funC [fR] (([] : List Fu).any fun g => g.name == fR.name) fR = 0 := by
    simp only [funC, fR, name_f, parsC, declC, Cs.bind, blockC, s0, stmtC]
    have h3 := h1
    simp only [fR, s0] at h3
    simp [shapeS, kVar, kSet, kIf, kWhile, kReturn, kPrint, name_a, h3]
  rw [funsC, h2]
  simp [funsC]
theorem low_fR : LowF fR := by
  simp [LowF, fR, s0, e0, LowSs, LowS, LowE, LowEs]
theorem ok_fR : OkF fR := by
  refine ⟨by simp [fR], by simp [fR], by simp [fR], by simp [fR], ?_⟩
  simp [fR, s0, e0, OkSs, OkS, OkE, OkEs]
  decide
theorem runR : runX runOps [fR] [102] [7] 5 = .val 7 ⟨1, []⟩ := by
  simp [runX, callX, funOf, fR, blockX, s0, stmtX, e0, exprX, exprsX, exprV, bindE, setE, kWhile, kVar, kSet, kIf, kPrint, kReturn, kName]
abbrev pc0 : Array Value := #[.string ⟨#[97]⟩]
abbrev fc0 (n : Nat) : Array Value := #[.string ⟨#[102]⟩, .slice (some ⟨n, 0, none⟩) 1 1, .slice (some ⟨n + 1, 0, none⟩) 1 1]
abbrev WR (w : World) : World := (((w.alloc (.cells pc0 9)).alloc (.cells ca0 54)).alloc (.cells (fc0 w.heap.size) 37)).alloc (.cells #[.int .i64 7] 3)
end Go.Proofs.YtcebpmaggnephacDoor

/-
  Our own: plain mathematics: who is tired has used all ticks.
-/
namespace Go.Proofs.YtcebpmaggnephacDoor
open Go.RowKit

def TirV (most : Nat) (r : Vr) : Prop := ∀ s, r = .stop .tired s → s.ticks = most
def TirA (most : Nat) (r : Ar) : Prop := ∀ s, r = .stop .tired s → s.ticks = most
def TirB (most : Nat) (r : Br) : Prop := ∀ s, r = .stop .tired s → s.ticks = most
def TirK (most N : Nat) (K : CallF) : Prop := ∀ m l s, s.ticks ≤ most → most - s.ticks < N → TirV most (K m l s)
theorem tirV_val (most : Nat) (v : Int) (s : Ms) : TirV most (.val v s) := fun _ h => by cases h
theorem tirB_next (most : Nat) (env : Env) (s : Ms) : TirB most (.next env s) := fun _ h => by cases h
theorem tirB_ret (most : Nat) (v : Int) (s : Ms) : TirB most (.ret v s) := fun _ h => by cases h
section
variable {O : Ops} {most N : Nat} {K : CallF}
theorem exprV_tir (h : TirK most N K) (env : Env) (k : List UInt8) (n : Int) (m : List UInt8) (l : List Int) (s : Ms) (h1 : s.ticks ≤ most) (h2 : most - s.ticks < N) : TirV most (exprV O K env k n m l s) := by
  unfold exprV
  split
  · exact tirV_val _ _ _
  · split
    · exact h _ _ _ h1 h2
    · split
      · exact tirV_val _ _ _
      · split <;> exact tirV_val _ _ _
mutual
theorem exprX_tir (h : TirK most N K) (hK : OnK most K) (env : Env) : ∀ (e : Ex) (s : Ms), s.ticks ≤ most → most - s.ticks < N → TirV most (exprX O K env e s)
  | .mk k n m ks, s, h1, h2 => by
    rw [exprX]
    have ho := exprsX_on (O := O) hK env ks s
    have ht := exprsX_tir h hK env ks s h1 h2
    cases hx : exprsX O K env ks s with
    | stop c s1 => intro s' e; injection e with e1 e2; subst e1 e2; exact ht _ hx
    | vals l s1 =>
      rw [hx] at ho
      have a := ho.ticks; have b := ho.most h1
      simp only [Ar.st] at a b
      exact exprV_tir h env k n m l s1 b (by omega)
theorem exprsX_tir (h : TirK most N K) (hK : OnK most K) (env : Env) : ∀ (l : List Ex) (s : Ms), s.ticks ≤ most → most - s.ticks < N → TirA most (exprsX O K env l s)
  | [], s, _, _ => by rw [exprsX]; intro _ h; cases h
  | x :: r, s, h1, h2 => by
    rw [exprsX]
    have ho := exprX_on (O := O) hK env x s
    have ht := exprX_tir h hK env x s h1 h2
    cases hx : exprX O K env x s with
    | stop c s1 => intro s' e; injection e with e1 e2; subst e1 e2; exact ht _ hx
    | val v s1 =>
      rw [hx] at ho
      have a := ho.ticks; have b := ho.most h1
      simp only [Vr.st] at a b
      simp only
      have ht2 := exprsX_tir h hK env r s1 b (by omega)
      cases hr : exprsX O K env r s1 with
      | stop c s2 => intro s' e; injection e with e1 e2; subst e1 e2; exact ht2 _ hr
      | vals l s2 => intro _ h; cases h
end
theorem loopX_tir {ev : Env → Ms → Vr} {bl : Env → Ms → Br} (B : Nat) (he : ∀ env s, s.ticks ≤ most → most - s.ticks < B → TirV most (ev env s)) (hb : ∀ env s, s.ticks ≤ most → most - s.ticks < B → TirB most (bl env s)) (e1 : ∀ env s, On most s (ev env s).st) (b1 : ∀ env s, On most s (bl env s).st) :
    ∀ (n : Nat) (env : Env) (s : Ms), s.ticks ≤ most → most - s.ticks < n → most - s.ticks < B → TirB most (loopX most ev bl n env s)
  | 0, _, _, _, h, _ => absurd h (by omega)
  | n + 1, env, s, h1, h2, h3 => by
    rw [loopX]
    split
    · next ht => intro s' e; injection e with _ e; rw [← e]; exact ht
    · next ht =>
      have ho := e1 env ⟨s.ticks + 1, s.out⟩
      have hte := he env ⟨s.ticks + 1, s.out⟩ (by show s.ticks + 1 ≤ most; omega) (by show most - (s.ticks + 1) < B; omega)
      cases hx : ev env ⟨s.ticks + 1, s.out⟩ with
      | stop c s1 => intro s' e; injection e with q1 q2; subst q1 q2; exact hte _ hx
      | val v s1 =>
        rw [hx] at ho
        have a := ho.ticks; have b := ho.most (by show s.ticks + 1 ≤ most; omega)
        simp only [Vr.st] at a b
        simp only
        split
        · exact tirB_next _ _ _
        · have ho2 := b1 env s1
          have htb := hb env s1 b (by omega)
          cases hy : bl env s1 with
          | stop c s2 => intro s' e; injection e with q1 q2; subst q1 q2; exact htb _ hy
          | ret v s2 => exact tirB_ret _ _ _
          | next env2 s2 =>
            rw [hy] at ho2
            have a2 := ho2.ticks; have b2 := ho2.most b
            simp only [Br.st] at a2 b2
            exact loopX_tir B he hb e1 b1 n env2 s2 b2 (by omega) (by omega)
mutual
theorem stmtX_tir (h : TirK most N K) (hK : OnK most K) : ∀ (x : Sm) (env : Env) (s : Ms), s.ticks ≤ most → most - s.ticks < N → TirB most (stmtX O most K N x env s)
  | .mk k m e t o, env, s, h1, h2 => by
    rw [stmtX]
    split
    · exact loopX_tir N (fun env s => exprX_tir h hK env e s) (fun env s => blockX_tir h hK t env s) (fun env s => exprX_on hK env e s) (fun env s => blockX_on hK N t env s) N env s h1 h2 h2
    · have ho := exprX_on (O := O) hK env e s
      have ht := exprX_tir (O := O) h hK env e s h1 h2
      cases hx : exprX O K env e s with
      | stop c s1 => intro s' q; injection q with q1 q2; subst q1 q2; exact ht _ hx
      | val v s1 =>
        rw [hx] at ho
        have a := ho.ticks; have b := ho.most h1
        simp only [Vr.st] at a b
        simp only
        split
        · exact tirB_next _ _ _
        · split
          · split
            · exact blockX_tir h hK o env s1 b (by omega)
            · exact blockX_tir h hK t env s1 b (by omega)
          · split
            · split
              · intro s' q; injection q with q1 _; cases q1
              · exact tirB_next _ _ _
            · split
              · exact tirB_ret _ _ _
              · exact tirB_next _ _ _
theorem blockX_tir (h : TirK most N K) (hK : OnK most K) : ∀ (l : List Sm) (env : Env) (s : Ms), s.ticks ≤ most → most - s.ticks < N → TirB most (blockX O most K N l env s)
  | [], env, s, _, _ => by rw [blockX]; exact tirB_next _ _ _
  | x :: r, env, s, h1, h2 => by
    rw [blockX]
    have ho := stmtX_on (O := O) hK N x env s
    have ht := stmtX_tir h hK x env s h1 h2
    cases hx : stmtX O most K N x env s with
    | stop c s1 => intro s' q; injection q with q1 q2; subst q1 q2; exact ht _ hx
    | ret v s1 => exact tirB_ret _ _ _
    | next env1 s1 =>
      rw [hx] at ho
      have a := ho.ticks; have b := ho.most h1
      simp only [Br.st] at a b
      exact blockX_tir h hK r env1 s1 b (by omega)
end
end
theorem callX_tir (O : Ops) (F : List Fu) (most : Nat) : ∀ (N d : Nat), TirK most N (callX O most F N d)
  | 0, _, _, _, _, _, h => absurd h (by omega)
  | N + 1, d, m, l, s, h1, h2 => by
    rw [callX]
    split
    · next ht => intro s' e; injection e with _ e; rw [← e]; exact ht
    · next ht =>
      split
      · intro s' q; injection q with q1 _; cases q1
      · have hb := blockX_tir (O := O) (callX_tir O F most N (d + 1)) (callX_on O most F N (d + 1)) (funOf F m).body (bindE (funOf F m).params l) ⟨s.ticks + 1, s.out⟩ (by show s.ticks + 1 ≤ most; omega) (by show most - (s.ticks + 1) < N; omega)
        cases hx : blockX O most (callX O most F N (d + 1)) N (funOf F m).body (bindE (funOf F m).params l) ⟨s.ticks + 1, s.out⟩ with
        | stop c s1 => intro s' q; injection q with q1 q2; subst q1 q2; exact hb _ hx
        | ret v s1 => exact tirV_val _ _ _
        | next env s1 => exact tirV_val _ _ _
theorem runX_tir (O : Ops) (F : List Fu) (m : List UInt8) (args : List Int) (most : Nat) : TirV most (runX O F m args most) := callX_tir O F most (most + 1) 0 m args ⟨0, []⟩ (Nat.zero_le _) (by show most - 0 < most + 1; omega)
end Go.Proofs.YtcebpmaggnephacDoor

/-
  Our own: a closed program that is run, and what a run's outcome is.
-/
namespace Go.Proofs.YtcebpmaggnephacDoor
open Go.RowKit Go.Maps

theorem lit_fR (w : World) : XLF (InH (WR w)) (WR w) (.slice (some ⟨w.heap.size + 1 + 1, 0, none⟩) 1 1) [fR] ∧ XRow (InH (WR w)) (WR w) (.slice (some ⟨w.heap.size + 1 + 1 + 1, 0, none⟩) 1 1) 1 (intsC [7]) := by
  have k1 : Below w.heap.size w (WR w) := by unfold WR; (repeat (first | exact Below.refl _ _ | assumption | refine Below.drew ?_ | refine Below.trans ?_ (drewN_below' _ _ _) | refine Below.setCell ?_ (by first | (simp; done) | (simp; omega)) _ | refine Below.alloc ?_ (by first | (simp; done) | (simp; omega)) _))
  have h1 : (WR w).heap[w.heap.size]? = some (.cells pc0 9 (0, 0)) := by
    unfold WR
    rw [Below.heap_alloc _ _ _ (by first | (simp; done) | (simp; omega)), Below.heap_alloc _ _ _ (by first | (simp; done) | (simp; omega)), Below.heap_alloc _ _ _ (by simp)]
    exact heap_alloc_new w _
  have h2 : (WR w).heap[w.heap.size + 1]? = some (.cells ca0 54 (0, 0)) := by
    unfold WR
    rw [Below.heap_alloc _ _ _ (by first | (simp; done) | (simp; omega)), Below.heap_alloc _ _ _ (by simp)]
    exact second_newR w _ _
  have h3 : (WR w).heap[w.heap.size + 1 + 1]? = some (.cells (fc0 w.heap.size) 37 (0, 0)) := by
    unfold WR
    rw [Below.heap_alloc _ _ _ (by simp)]
    have := heap_alloc_new ((w.alloc (.cells pc0 9)).alloc (.cells ca0 54)) (.cells (fc0 w.heap.size) 37)
    simpa using this
  have h4 : (WR w).heap[w.heap.size + 1 + 1 + 1]? = some (.cells #[.int .i64 7] 3 (0, 0)) := by
    unfold WR
    have := heap_alloc_new (((w.alloc (.cells pc0 9)).alloc (.cells ca0 54)).alloc (.cells (fc0 w.heap.size) 37)) (.cells #[.int .i64 7] 3)
    simpa using this
  refine ⟨?_, ⟨_, _, rfl, fun _ => ⟨_, _, rfl, heap_lt h4, cells_read h4⟩⟩⟩
  refine ⟨(fc0 w.heap.size).toList, ⟨_, _, rfl, fun _ => ⟨_, _, rfl, heap_lt h3, cells_read h3⟩⟩, ?_⟩
  refine ⟨(fc0 w.heap.size).toList, [], rfl, ?_, rfl⟩
  refine ⟨_, _, ca0.toList, rfl, ⟨_, _, rfl, fun _ => ⟨_, _, rfl, heap_lt h1, cells_read h1⟩⟩, ⟨_, _, rfl, fun _ => ⟨_, _, rfl, heap_lt h2, cells_read h2⟩⟩, ?_⟩
  refine ⟨ca0.toList, [], rfl, ?_, rfl⟩
  exact ⟨[.string ⟨#[110, 97, 109, 101]⟩, .int .i64 0, .string ⟨#[97]⟩, .slice none 0 0], _, [], _, [], rfl, ⟨_, [], rfl, xrow_nil _ _, rfl⟩, xrow_nil _ _, rfl, xrow_nil _ _, rfl⟩
set_option maxRecDepth 100000 in
set_option maxHeartbeats 2000000 in
theorem ran_any (a : Nat → Addr) (w : World) (hS : Sents w a) : Calls Tryd.prog 15 #[] w fun e w' => e = .returned (.bool true) ∧ Below w.heap.size w w' := by
  have hb0 : Below w.heap.size w (WR w) := by unfold WR; (repeat (first | exact Below.refl _ _ | assumption | refine Below.drew ?_ | refine Below.trans ?_ (drewN_below' _ _ _) | refine Below.setCell ?_ (by first | (simp; done) | (simp; omega)) _ | refine Below.alloc ?_ (by first | (simp; done) | (simp; omega)) _))
  obtain ⟨hl0, hl1⟩ := lit_fR w
  have hrun := run_any a [fR] (by simp) (by simp [low_fR]) (by simp [ok_fR]) (WR w) (hS.below hb0) _ hl0 [102] (by simp) [7] (by simp [In64]) (by simp) _ hl1 5 (by omega)
  have HRUN := hidX hrun
  generalize hWe : WR w = W at hb0 HRUN
  have HW := hidX hWe
  clear hS hl0 hl1 hrun hWe
  go_enter Tryd.func15, Tryd.ntmps15
  go_wp2_with fail
  have hWe := HW.out
  unfold WR pc0 ca0 fc0 at hWe
  rw [hWe]
  clear hWe
  refine HRUN.out.mono ?_
  rintro e W1 h1
  have hask : ([fR] : List Fu).length ≤ 8 ∧ funsC [fR] [] [fR] = none ∧ AskOk [fR] [102] ([7] : List Int).length := ⟨by simp, funsR, fR, by simp, rfl, rfl⟩
  rcases h1 with ⟨hno, _⟩ | ⟨_, hb1, ov, ho, h2⟩
  · exact absurd hask hno
  · rw [runR] at ho h2
    simp only at h2
    subst h2
    obtain ⟨ado, co, rfl⟩ := own_is ho
    have hb2 : Below w.heap.size w W1 := bl_trans hb0 hb0.size hb1
    clear ho hask HRUN hb0 hb1
    unfold outC kDone
    go_wp2
    go_ret
    exact ⟨rfl, hb2.alloc hb2.size _⟩
theorem st_val (v : Int) (s : Ms) : (Vr.val v s).st = s := rfl
theorem st_stop (c : Stop) (s : Ms) : (Vr.stop c s).st = s := rfl
/-- A run's outcome: how, value. -/
def howV : Vr → List UInt8
  | .stop c _ => howS c
  | .val _ _ => kDone
def valV : Vr → Int
  | .stop _ _ => 0
  | .val v _ => v
theorem runTo_out {w w' : World} {r : Vr} {e : Ending} (h : RunTo w r e w') : Below w.heap.size w w' ∧ ∃ ad c, w'.ownsRow w.heap.size 3 1 (.slice ad r.st.out.length c) r.st.out.length (intsC r.st.out) ∧ e = .returned (.tuple #[.agg (outC (howV r) (valV r) (.slice ad r.st.out.length c) r.st.ticks), .nilIface]) := by
  obtain ⟨hb, ov, ho, he⟩ := h
  obtain ⟨ad, c, rfl⟩ := own_is ho
  cases r with
  | stop cc s => exact ⟨hb, ad, c, ho, he⟩
  | val v s => exact ⟨hb, ad, c, ho, he⟩
theorem more_parts {O : Ops} {F : List Fu} {m : List UInt8} {args : List Int} {t u : Nat} : (runX O F m args t).st.ticks ≤ (runX O F m args (t + u)).st.ticks ∧ (runX O F m args t).st.out <+: (runX O F m args (t + u)).st.out ∧ (runX O F m args t = runX O F m args (t + u) ∨ (howV (runX O F m args t) = howS .tired ∧ valV (runX O F m args t) = 0 ∧ (runX O F m args t).st.ticks = t)) := by
  rcases runX_more O F m args (Nat.le_add_right t u) with h | ⟨s, h, hl⟩
  · rw [← h]; exact ⟨Nat.le_refl _, List.prefix_refl _, Or.inl rfl⟩
  · rw [h]
    exact ⟨by show s.ticks ≤ _; rw [hl.at_]; exact hl.ticks, hl.out, Or.inr ⟨rfl, rfl, hl.at_⟩⟩
theorem tired_at {O : Ops} {F : List Fu} {m : List UInt8} {args : List Int} {t : Nat} (h : howV (runX O F m args t) = howS .tired) : valV (runX O F m args t) = 0 ∧ (runX O F m args t).st.ticks = t := by
  have ht := runX_tir O F m args t
  cases hr : runX O F m args t with
  | val v s => rw [hr] at h; exact absurd h (by show ¬ kDone = howS .tired; decide)
  | stop c s =>
    rw [hr] at h ht
    have hc : c = .tired := by
      cases c with
      | tired => rfl
      | deep => exact absurd h (by show ¬ howS .deep = howS .tired; decide)
      | loud => exact absurd h (by show ¬ howS .loud = howS .tired; decide)
    subst hc
    exact ⟨rfl, ht s rfl⟩
theorem own_capR {w : World} {B size n m c : Nat} {t : TypeId} {ad : Option Addr} {xs : List Value} (h : w.ownsRow B t size (.slice ad m c) n xs) : n ≤ c ∧ (c : Int) ≤ 9223372036854775807 := by
  obtain ⟨_, ⟨_, h1⟩ | ⟨g, cap, cur, h1, _, _, h2, h3, _⟩⟩ := h
  · next h0 => injection h0 with _ _ h0; subst h0 h1; simp
  · injection h1 with _ _ h1; subst h1; unfold maxLen at h3; omega
theorem row_pre {A : Nat → Prop} {w : World} {ad : Option Addr} {n c c' : Nat} {l k : List Int} (h : XRow A w (.slice ad n c) l.length (intsC l)) (hp : k <+: l) : XRow A w (.slice ad k.length c') k.length (intsC k) := by
  obtain ⟨r, rfl⟩ := hp
  refine ⟨ad, c', rfl, fun h0 => ?_⟩
  obtain ⟨g, off, e, _, h2, h3⟩ := h.get (by rw [List.length_append]; omega)
  refine ⟨g, off, e, h2, fun j u hj => h3 j u ?_⟩
  have hl : j < (intsC k).length := by
    rcases Nat.lt_or_ge j (intsC k).length with hl | hl
    · exact hl
    · rw [List.getElem?_eq_none hl] at hj; cases hj
  rw [show intsC (k ++ r) = intsC k ++ intsC r by simp [intsC], List.getElem?_append_left hl]
  exact hj
end Go.Proofs.YtcebpmaggnephacDoor
