/-
  Our own: texts joined: RRSt, RRTick, RRValue.
-/
import Derived.Test.YtcebpmaggnephacGreatDoorRunSt
import Derived.Test.YtcebpmaggnephacGreatDoorRunEnv
import Derived.Test.YtcebpmaggnephacGreatDoorRunTick
import Derived.Test.YtcebpmaggnephacGreatDoorChecksAs
import Derived.Test.YtcebpmaggnephacGreatDoorRunExpr
import Derived.Test.YtcebpmaggnephacGreatDoorRRef

/-
  Our own: the document's own model of a run: its machine and its variables, as they lie in memory.
-/
namespace Go.Proofs.YtcebpmaggnephacGreatDoor
open Go.RowKit Go.Maps

/-- The cells of the model's machine. -/
abbrev rmC (fv ov : Value) (how : List UInt8) (t most d : Nat) : Array Value := #[fv, .int .i64 (most : Int), .int .i64 (d : Int), .bool true, .string ⟨how.toArray⟩, ov, .int .i64 (t : Int), .slice none 0 0, .slice none 0 0]
/-- The model's machine. -/
structure RM (w : World) (B mb : Nat) (fv ov : Value) (F : List Fu) (how : List UInt8) (s : Ms) (most d : Nat) : Prop where
  hp : B ≤ mb
  blk : w.heap[mb]? = some (.cells (rmC fv ov how s.ticks most d) 84 (0, 0))
  fs : XLF (fun b => b < B) w fv F
  own : w.ownsRow B 3 1 ov s.out.length (intsC s.out)
  n1 : ov.ownBlock ≠ some mb
  tl : s.ticks ≤ most
  ml : most ≤ 5000
  ol : s.out.length ≤ 1000
  dl : d ≤ 40
section
variable {w w' : World} {B mb : Nat} {fv ov : Value} {F : List Fu} {how : List UInt8} {s : Ms} {most d : Nat}
theorem RM.mlt (h : RM w B mb fv ov F how s most d) : mb < w.heap.size := heap_lt h.blk
theorem RM.keep (h : RM w B mb fv ov F how s most d) (hk : ∀ b, b < w.heap.size → (b < B ∨ b = mb ∨ ov.ownBlock = some b) → w'.heap[b]? = w.heap[b]?) : RM w' B mb fv ov F how s most d :=
  ⟨h.hp, (hk mb h.mlt (Or.inr (Or.inl rfl))).trans h.blk, h.fs.imp (fun _ h => h) (fun b hB => hk b (by have := h.mlt; have := h.hp; omega) (Or.inl hB)), own_same h.own (fun b e => hk b (h.own.lt b e).2 (Or.inr (Or.inr e))), h.n1, h.tl, h.ml, h.ol, h.dl⟩
theorem RM.below (h : RM w B mb fv ov F how s most d) (hb : Below w.heap.size w w') : RM w' B mb fv ov F how s most d := h.keep (fun b hl _ => hb.block b hl)
theorem Fr.lowR (h : Fr (Sx mb ov.ownBlock) w w') (k : RM w B mb fv ov F how s most d) : Below B w w' :=
  ⟨h.os, h.tape, h.output, h.size, fun b hb => h.block b (by have := k.mlt; have := k.hp; omega) (by
    rintro (e | e)
    · have := k.hp; omega
    · have := (k.own.lt b e).1; omega)⟩
end
/-- The machine's block is written. -/
theorem RM.put {w : World} {B mb : Nat} {fv ov : Value} {F : List Fu} {how how' : List UInt8} {s s' : Ms} {most d d' : Nat} (h : RM w B mb fv ov F how s most d) {j : Nat} {u : Value} (hs : s'.out = s.out) (ht : s'.ticks ≤ most) (hd : d' ≤ 40) (hb : (rmC fv ov how s.ticks most d).setIfInBounds j u = rmC fv ov how' s'.ticks most d') :
    RM (w.setCell ⟨mb, j, none⟩ u) B mb fv ov F how' s' most d' ∧ Fr (Sx mb ov.ownBlock) w (w.setCell ⟨mb, j, none⟩ u) := by
  have hset := blk_setCell h.blk j u
  rw [hb] at hset
  have hoth : ∀ b, b ≠ mb → (w.setCell ⟨mb, j, none⟩ u).heap[b]? = w.heap[b]? := fun b hb => Below.heap_setCell _ _ _ _ (show b ≠ mb from hb)
  refine ⟨⟨h.hp, hset, h.fs.imp (fun _ h => h) (fun b hB => hoth b (by have := h.hp; omega)), ?_, h.n1, ht, h.ml, by rw [hs]; exact h.ol, hd⟩, ⟨rfl, rfl, rfl, by simp only [World.setCell, Array.size_modify]; exact Nat.le_refl _, fun b _ hS => hoth b (fun e => hS (Or.inl e))⟩⟩
  rw [hs]
  exact own_same h.own (fun b e => hoth b (fun e' => h.n1 (e' ▸ e)))
/-- One number more is printed. -/
theorem RM.push {X w3 : World} {B mb : Nat} {fv ov v' : Value} {F : List Fu} {s s' : Ms} {most d : Nat} (h : RM X B mb fv ov F [] s most d) (ht : s'.ticks = s.ticks) (hol : s'.out.length ≤ 1000) (hown : w3.ownsRow B 3 1 v' s'.out.length (intsC s'.out)) (hg : X.grownBy w3 ov.ownBlock) (hl : v'.ownBlock = ov.ownBlock ∨ v'.ownBlock = some X.heap.size) :
    RM (w3.setCell ⟨mb, 5, none⟩ v') B mb fv v' F [] s' most d ∧ Fr (Sx mb ov.ownBlock) X (w3.setCell ⟨mb, 5, none⟩ v') ∧ RowB X ov.ownBlock v'.ownBlock := by
  have hpl := h.mlt
  have hpB := h.hp
  have hz := hg.size
  have hb3 : w3.heap[mb]? = _ := (hg.block mb hpl (fun e => h.n1 e.symm)).trans h.blk
  have hset := blk_setCell hb3 5 v'
  have hoth : ∀ b, b ≠ mb → (w3.setCell ⟨mb, 5, none⟩ v').heap[b]? = w3.heap[b]? := fun b hb => Below.heap_setCell _ _ _ _ (show b ≠ mb from hb)
  have hnew : RowB X ov.ownBlock v'.ownBlock := hl.elim Or.inl (fun e => Or.inr ⟨_, e, Nat.le_refl _⟩)
  have hn1 : v'.ownBlock ≠ some mb := hnew.ne hpl h.n1
  refine ⟨⟨hpB, by rw [ht]; simpa using hset, h.fs.imp (fun _ h => h) (fun b hb => ?_), own_same hown (fun b e => hoth b (fun e' => hn1 (e' ▸ e))), hn1, by rw [ht]; exact h.tl, h.ml, hol, h.dl⟩, ⟨hg.os, hg.tape, hg.output, by simp only [World.setCell, Array.size_modify]; exact hz, fun b hb hS => ?_⟩, hnew⟩
  · rw [hoth b (by omega), hg.block b (by omega) (fun e => by have := (h.own.lt b e.symm).1; omega)]
  · rw [hoth b (fun e => hS (Or.inl e)), hg.block b hb (fun e => hS (Or.inr e.symm))]

/-- What two lists have of a name. -/
def lookE : List (List UInt8) → List Int → List UInt8 → Int
  | n :: r, v :: l, m => if n = m then v else lookE r l m
  | _, _, _ => 0
theorem lookE_none : ∀ (ns : List (List UInt8)) (vs : List Int) (m : List UInt8), m ∉ ns → lookE ns vs m = 0
  | [], _, _, _ => rfl
  | _ :: _, [], _, _ => rfl
  | n :: r, v :: l, m, h => by
    have hne : ¬ n = m := fun e => h (by rw [e]; exact List.mem_cons_self)
    rw [lookE, if_neg hne]
    exact lookE_none r l m (fun hm => h (List.mem_cons_of_mem _ hm))
theorem lookE_at : ∀ (ns : List (List UInt8)) (vs : List Int) (i : Nat) (hi : i < ns.length) (hv : i < vs.length), (∀ j (hj : j < i), ns[j]'(by omega) ≠ ns[i]) → lookE ns vs ns[i] = vs[i]
  | n :: r, v :: l, 0, _, _, _ => by rw [lookE]; simp
  | n :: r, v :: l, i + 1, hi, hv, h => by
    have h0 := h 0 (by omega)
    simp only [List.getElem_cons_zero, List.getElem_cons_succ] at h0 ⊢
    rw [lookE, if_neg h0]
    exact lookE_at r l i (by simpa using hi) (by simpa using hv) (fun j hj => by simpa using h (j + 1) (by omega))
  | [], _, _, hi, _, _ => absurd hi (by simp)
  | _ :: _, [], _, _, hv, _ => absurd hv (by simp)
theorem lookE_set : ∀ (ns : List (List UInt8)) (vs : List Int) (i : Nat) (hi : i < ns.length) (_ : i < vs.length) (v : Int), ns.Nodup → ∀ m, lookE ns (vs.set i v) m = setE (lookE ns vs) ns[i] v m
  | n :: r, x :: l, 0, _, _, v, hn, m => by
    rw [List.set_cons_zero, lookE, setE, lookE]
    simp only [List.getElem_cons_zero]
    by_cases h : n = m
    · rw [if_pos h, if_pos h.symm]
    · rw [if_neg h, if_neg (fun e => h e.symm), if_neg h]
  | n :: r, x :: l, i + 1, hi, hv, v, hn, m => by
    rw [List.set_cons_succ, lookE, setE, lookE]
    simp only [List.getElem_cons_succ]
    have hn' := List.nodup_cons.1 hn
    have ih := lookE_set r l i (by simpa using hi) (by simpa using hv) v hn'.2 m
    rw [setE] at ih
    by_cases h : n = m
    · have : m ≠ r[i]'(by simpa using hi) := fun e => hn'.1 (h ▸ e ▸ List.getElem_mem _)
      rw [if_pos h, if_neg this, if_pos h]
    · rw [if_neg h, if_neg h, ih]
  | [], _, _, hi, _, _, _, _ => absurd hi (by simp)
  | _ :: _, [], _, _, hv, _, _, _ => absurd hv (by simp)
theorem lookE_snoc : ∀ (ns : List (List UInt8)) (vs : List Int) (x : List UInt8) (v : Int), vs.length = ns.length → x ∉ ns → ∀ m, lookE (ns ++ [x]) (vs ++ [v]) m = setE (lookE ns vs) x v m
  | [], [], x, v, _, _, m => by
    simp only [List.nil_append, lookE, setE]
    by_cases h : x = m
    · rw [if_pos h, if_pos h.symm]
    · rw [if_neg h, if_neg (fun e => h e.symm)]
  | n :: r, y :: l, x, v, hl, hx, m => by
    rw [List.cons_append, List.cons_append, lookE, setE, lookE]
    have ih := lookE_snoc r l x v (by simpa using hl) (fun h => hx (List.mem_cons_of_mem _ h)) m
    rw [setE] at ih
    by_cases h : n = m
    · have : m ≠ x := fun e => hx (by rw [← e, ← h]; exact List.mem_cons_self)
      rw [if_pos h, if_neg this, if_pos h]
    · rw [if_neg h, if_neg h, ih]
  | [], _ :: _, _, _, hl, _, _ => absurd hl (by simp)
  | _ :: _, [], _, _, hl, _, _ => absurd hl (by simp)
/-- Rows of other elements lie in other blocks. -/
theorem rows_apart {w : World} {B B' n n' size size' : Nat} {e e' : TypeId} {v v' : Value} {xs xs' : List Value} (h : w.ownsRow B e size v n xs) (h' : w.ownsRow B' e' size' v' n' xs') (hne : e ≠ e') (b : Nat) (hb : v.ownBlock = some b) : v'.ownBlock ≠ some b := by
  intro hb'
  rcases h with ⟨_, ⟨h2, _⟩ | ⟨g, cap, cur, h3, _, h5, _⟩⟩
  · rw [h2] at hb; cases hb
  · rcases h' with ⟨_, ⟨k2, _⟩ | ⟨g', cap', cur', k3, _, k5, _⟩⟩
    · rw [k2] at hb'; cases hb'
    · rw [h3] at hb; rw [k3] at hb'
      have e1 : g = b := by simpa [Value.ownBlock] using hb
      have e2 : g' = b := by simpa [Value.ownBlock] using hb'
      rw [e1] at h5; rw [e2, h5] at k5
      injection k5 with k5
      injection k5 with _ k5
      exact hne k5
/-- A row's block is no block of other cells. -/
theorem row_not {w : World} {B n size b : Nat} {e t : TypeId} {v : Value} {xs : List Value} {cs : Array Value} (h : w.ownsRow B e size v n xs) (hb : w.heap[b]? = some (.cells cs t (0, 0))) (hne : e ≠ t) : v.ownBlock ≠ some b := by
  intro hb'
  rcases h with ⟨_, ⟨h2, _⟩ | ⟨g, cap, cur, h3, _, h5, _⟩⟩
  · rw [h2] at hb'; cases hb'
  · rw [h3] at hb'
    have e1 : g = b := by simpa [Value.ownBlock] using hb'
    rw [e1, hb] at h5
    injection h5 with h5
    injection h5 with _ h5
    exact hne h5.symm
/-- A frame's variables: names and values, in two rows. -/
structure RV (w : World) (B mb vb : Nat) (nv vv : Value) (env : Env) (V ns : List (List UInt8)) (vs : List Int) : Prop where
  hv : B ≤ vb
  vm : vb ≠ mb
  blk : w.heap[vb]? = some (.cells #[nv, vv] 197 (0, 0))
  on : w.ownsRow B 9 1 nv ns.length (textsC ns)
  ow : w.ownsRow B 3 1 vv vs.length (intsC vs)
  len : vs.length = ns.length
  sub : ∀ x ∈ ns, x ∈ V
  nd : ns.Nodup
  look : ∀ m, env m = lookE ns vs m
section
variable {w w' : World} {B mb vb : Nat} {nv vv : Value} {env : Env} {V ns : List (List UInt8)} {vs : List Int}
theorem RV.vlt (h : RV w B mb vb nv vv env V ns vs) : vb < w.heap.size := heap_lt h.blk
theorem RV.keep (h : RV w B mb vb nv vv env V ns vs) (hk : ∀ b, b < w.heap.size → (b = vb ∨ nv.ownBlock = some b ∨ vv.ownBlock = some b) → w'.heap[b]? = w.heap[b]?) : RV w' B mb vb nv vv env V ns vs :=
  ⟨h.hv, h.vm, (hk vb h.vlt (Or.inl rfl)).trans h.blk, own_same h.on (fun b e => hk b (h.on.lt b e).2 (Or.inr (Or.inl e))), own_same h.ow (fun b e => hk b (h.ow.lt b e).2 (Or.inr (Or.inr e))), h.len, h.sub, h.nd, h.look⟩
theorem RV.below (h : RV w B mb vb nv vv env V ns vs) (hb : Below w.heap.size w w') : RV w' B mb vb nv vv env V ns vs := h.keep (fun b hl _ => hb.block b hl)
theorem RV.n3 (h : RV w B mb vb nv vv env V ns vs) : nv.ownBlock ≠ some vb := row_not h.on h.blk (by decide)
theorem RV.n4 (h : RV w B mb vb nv vv env V ns vs) : vv.ownBlock ≠ some vb := row_not h.ow h.blk (by decide)
theorem RV.few (h : RV w B mb vb nv vv env V ns vs) (hV : V.length ≤ 12) : ns.length ≤ 12 := Nat.le_trans (nodup_le ns V h.nd h.sub) hV
end
/-- The blocks that a statement may turn. -/
def S5 (mb vb : Nat) (o n v : Option Nat) (b : Nat) : Prop := b = mb ∨ b = vb ∨ o = some b ∨ n = some b ∨ v = some b
theorem S5.next {w : World} {mb vb : Nat} {o o' n n' v v' : Option Nat} (h1 : RowB w o o') (h2 : RowB w n n') (h3 : RowB w v v') {i : Nat} (hi : i < w.heap.size) (hs : S5 mb vb o' n' v' i) : S5 mb vb o n v i := by
  have key : ∀ {o o' : Option Nat}, RowB w o o' → o' = some i → o = some i := fun {o o'} h e => by
    rcases h with rfl | ⟨g, rfl, hg⟩
    · exact e
    · injection e with e; omega
  rcases hs with hs | hs | hs | hs | hs
  · exact Or.inl hs
  · exact Or.inr (Or.inl hs)
  · exact Or.inr (Or.inr (Or.inl (key h1 hs)))
  · exact Or.inr (Or.inr (Or.inr (Or.inl (key h2 hs))))
  · exact Or.inr (Or.inr (Or.inr (Or.inr (key h3 hs))))
theorem Sx.to5 {mb vb : Nat} {o n v : Option Nat} {i : Nat} (h : Sx mb o i) : S5 mb vb o n v i := h.elim Or.inl (fun h => Or.inr (Or.inr (Or.inl h)))
/-- What a block asks for. -/
structure RAt (w : World) (B mb vb d : Nat) (fv ov nv vv : Value) (F : List Fu) (s : Ms) (most N : Nat) (env : Env) (V ns : List (List UInt8)) (vs : List Int) : Prop where
  mach : RM w B mb fv ov F [] s most d
  vars : RV w B mb vb nv vv env V ns vs
  sep : ∀ b, ov.ownBlock = some b → vv.ownBlock ≠ some b
  fit : Env64 env
  room : most - s.ticks < N
  vl : V.length ≤ 12
section
variable {w w' : World} {B mb vb d : Nat} {fv ov nv vv : Value} {F : List Fu} {s : Ms} {most N : Nat} {env : Env} {V ns : List (List UInt8)} {vs : List Int}
theorem RAt.below (h : RAt w B mb vb d fv ov nv vv F s most N env V ns vs) (hb : Below w.heap.size w w') : RAt w' B mb vb d fv ov nv vv F s most N env V ns vs :=
  ⟨h.mach.below hb, h.vars.below hb, h.sep, h.fit, h.room, h.vl⟩
theorem RV.n1 (h : RV w B mb vb nv vv env V ns vs) {how : List UInt8} (k : RM w B mb fv ov F how s most d) : nv.ownBlock ≠ some mb := row_not h.on k.blk (by decide)
theorem RV.n2 (h : RV w B mb vb nv vv env V ns vs) {how : List UInt8} (k : RM w B mb fv ov F how s most d) : vv.ownBlock ≠ some mb := row_not h.ow k.blk (by decide)
theorem RM.no {how : List UInt8} (k : RM w B mb fv ov F how s most d) (h : RV w B mb vb nv vv env V ns vs) : ov.ownBlock ≠ some vb := row_not k.own h.blk (by decide)
/-- An expression leaves the variables alone. -/
theorem RV.stay (h : RV w B mb vb nv vv env V ns vs) {how : List UInt8} (k : RM w B mb fv ov F how s most d) (hs : ∀ b, ov.ownBlock = some b → vv.ownBlock ≠ some b) (hf : Fr (Sx mb ov.ownBlock) w w') : RV w' B mb vb nv vv env V ns vs :=
  h.keep (fun b hl hb => hf.block b hl (by
    rintro (e | e)
    · subst e
      rcases hb with e | e | e
      · exact h.vm e.symm
      · exact h.n1 k e
      · exact h.n2 k e
    · rcases hb with e' | e' | e'
      · subst e'; exact k.no h e
      · exact rows_apart h.on k.own (by decide) b e' e
      · exact hs b e e'))
end
theorem Fr.low5 {w w' : World} {B mb vb d : Nat} {fv ov nv vv : Value} {F : List Fu} {s : Ms} {most N : Nat} {env : Env} {V ns : List (List UInt8)} {vs : List Int} (h : Fr (S5 mb vb ov.ownBlock nv.ownBlock vv.ownBlock) w w') (k : RAt w B mb vb d fv ov nv vv F s most N env V ns vs) : Below B w w' :=
  ⟨h.os, h.tape, h.output, h.size, fun b hb => h.block b (by have := k.mach.mlt; have := k.mach.hp; omega) (by
    rintro (e | e | e | e | e)
    · have := k.mach.hp; omega
    · have := k.vars.hv; omega
    · have := (k.mach.own.lt b e).1; omega
    · have := (k.vars.on.lt b e).1; omega
    · have := (k.vars.ow.lt b e).1; omega)⟩
end Go.Proofs.YtcebpmaggnephacGreatDoor

/-
  Our own: the document's own model of a run: a tick; a variable that is looked for, one that is set.
-/
namespace Go.Proofs.YtcebpmaggnephacGreatDoor
open Go.RowKit Go.Maps

/-- What a tick comes to. -/
def RTickTo (w : World) (B mb : Nat) (fv ov : Value) (F : List Fu) (s : Ms) (most d : Nat) (e : Ending) (w' : World) : Prop :=
  Fr (Sx mb ov.ownBlock) w w' ∧ if s.ticks = most then e = .returned (.bool false) ∧ RM w' B mb fv ov F (howS .tired) s most d else e = .returned (.bool true) ∧ RM w' B mb fv ov F [] ⟨s.ticks + 1, s.out⟩ most d
set_option maxRecDepth 100000 in
set_option maxHeartbeats 2000000 in
theorem rtick_any {w : World} {B mb : Nat} {fv ov : Value} {F : List Fu} {s : Ms} {most d : Nat} (h : RM w B mb fv ov F [] s most d) :
    Calls Tryz.prog 62 #[.pointer (some ⟨mb, 0, none⟩)] w (RTickTo w B mb fv ov F s most d) := by
  have c6 : w.cell? ⟨mb, 6, none⟩ = some (.int .i64 (s.ticks : Int)) := cell_of_blk h.blk 6
  have c1 : w.cell? ⟨mb, 1, none⟩ = some (.int .i64 (most : Int)) := cell_of_blk h.blk 1
  have c4 : w.cell? ⟨mb, 4, none⟩ = some (.string ⟨([] : List UInt8).toArray⟩) := cell_of_blk h.blk 4
  have f6 := free_of_blk h.blk 6
  have f4 := free_of_blk h.blk 4
  have htl := h.tl
  have hs' : (s.ticks : Int) ≤ 5000 := by have := h.ml; omega
  have HM := hidX h
  clear h
  by_cases ht : s.ticks = most
  · have ht' : (most : Int) ≤ (s.ticks : Int) := by omega
    have HT := hidX ht
    clear ht
    go_enter Tryz.func62, Tryz.ntmps62
    go_wp2_with fail
    go_quiet (fail)
    go_wp2
    go_ret
    have hbq : Below w.heap.size w (w.drewN nq) := by (repeat (first | exact Below.refl _ _ | assumption | refine Below.drew ?_ | refine Below.trans ?_ (drewN_below' _ _ _) | refine Below.setCell ?_ (by first | (simp; done) | (simp; omega)) _ | refine Below.alloc ?_ (by first | (simp; done) | (simp; omega)) _))
    obtain ⟨h1, h2⟩ := (HM.out.below hbq).put (j := 4) (u := .string ⟨(howS .tired).toArray⟩) (how' := howS .tired) (s' := s) (d' := d) rfl HM.out.tl HM.out.dl (by simp)
    exact ⟨(Fr.of hbq).trans h2 (fun _ _ h => h), by rw [if_pos HT.out]; exact ⟨rfl, h1⟩⟩
  · have ht' : ¬ (most : Int) ≤ (s.ticks : Int) := by omega
    have HT := hidX ht
    clear ht
    go_enter Tryz.func62, Tryz.ntmps62
    go_wp2_with fail
    go_quiet (fail)
    go_wp2
    go_ret
    have hbq : Below w.heap.size w (w.drewN nq) := by (repeat (first | exact Below.refl _ _ | assumption | refine Below.drew ?_ | refine Below.trans ?_ (drewN_below' _ _ _) | refine Below.setCell ?_ (by first | (simp; done) | (simp; omega)) _ | refine Below.alloc ?_ (by first | (simp; done) | (simp; omega)) _))
    obtain ⟨h1, h2⟩ := (HM.out.below hbq).put (j := 6) (u := .int .i64 ((s.ticks : Int) + 1)) (how' := []) (s' := ⟨s.ticks + 1, s.out⟩) (d' := d) rfl (by show s.ticks + 1 ≤ most; have := HT.out; have := HM.out.tl; omega) HM.out.dl (by simp)
    exact ⟨(Fr.of hbq).trans h2 (fun _ _ h => h), by rw [if_neg HT.out]; exact ⟨rfl, h1⟩⟩
section
variable {w : World} {B mb vb : Nat} {nv vv : Value} {env : Env} {V ns : List (List UInt8)} {vs : List Int}
theorem own_text {w : World} {B n : Nat} {ad : Option Addr} {c : Nat} {ns : List (List UInt8)} (h : w.ownsRow B 9 1 (.slice ad n c) ns.length (textsC ns)) {i : Nat} (hi : i < ns.length) : ∃ g, ad = some ⟨g, 0, none⟩ ∧ w.cell? ⟨g, i, none⟩ = some (.string ⟨ns[i].toArray⟩) := by
  rcases h.2 with ⟨_, h0⟩ | ⟨g, cap, cur, h1, _⟩
  · omega
  · have hg : ad = some ⟨g, 0, none⟩ := by injection h1
    have hn : n = ns.length := by injection h1
    subst hg hn
    refine ⟨g, rfl, ?_⟩
    have := h.cells (g := g) rfl i _ (texts_get hi)
    rw [← this]
    congr 1
    unfold Addr.add
    split
    · next h0 => rw [h0]
    · simp
theorem own_int {w : World} {B n : Nat} {ad : Option Addr} {c : Nat} {vs : List Int} (h : w.ownsRow B 3 1 (.slice ad n c) vs.length (intsC vs)) {i : Nat} (hi : i < vs.length) : ∃ g, ad = some ⟨g, 0, none⟩ ∧ w.cell? ⟨g, i, none⟩ = some (.int .i64 vs[i]) ∧ w.frozen? ⟨g, i, none⟩ = false ∧ g < w.heap.size := by
  rcases h.2 with ⟨_, h0⟩ | ⟨g, cap, cur, h1, _, hgb, _⟩
  · omega
  · have hg : ad = some ⟨g, 0, none⟩ := by injection h1
    have hn : n = vs.length := by injection h1
    subst hg hn
    have hlk : (intsC vs)[i]? = some (.int .i64 vs[i]) := by simp [intsC, hi]
    refine ⟨g, rfl, ?_, free_of_blk hgb i, heap_lt hgb⟩
    have := h.cells (g := g) rfl i _ hlk
    rw [← this]
    congr 1
    unfold Addr.add
    split
    · next h0 => rw [h0]
    · simp
set_option maxRecDepth 100000 in
set_option maxHeartbeats 2000000 in
theorem rget_any (h : RV w B mb vb nv vv env V ns vs) (hV : V.length ≤ 12) (m : List UInt8) :
    Calls Tryz.prog 140 #[.pointer (some ⟨vb, 0, none⟩), .string ⟨m.toArray⟩] w fun e w' => e = .returned (.int .i64 (env m)) ∧ Below w.heap.size w w' := by
  obtain ⟨adn, cn, rfl⟩ := own_is h.on
  obtain ⟨adv, cv, rfl⟩ := own_is h.ow
  have hfew := h.few hV
  have hfew' : (ns.length : Int) ≤ 12 := by omega
  have c0 : w.cell? ⟨vb, 0, none⟩ = some (.slice adn ns.length cn) := cell_of_blk h.blk 0
  have c1 : w.cell? ⟨vb, 1, none⟩ = some (.slice adv vs.length cv) := cell_of_blk h.blk 1
  have hlen := h.len
  have hvl := h.vlt
  have HV := hidX h
  clear h
  generalize hres : env m = res
  have HR := hidX hres
  clear hres
  go_enter Tryz.func140, Tryz.ntmps140
  go_wp2_with fail
  go_loopw [5] (fun vi wr => ∃ q : Nat, q ≤ ns.length ∧ vi = .int .i64 q ∧ Below w.heap.size w wr ∧ Hid (∀ j (hj : j < ns.length), j < q → ns[j] ≠ m)) (fun vi _ => ns.length - (intOf vi).toNat)
  case atStart => exact ⟨0, Nat.zero_le _, rfl, by (repeat (first | exact Below.refl _ _ | assumption | refine Below.drew ?_ | refine Below.trans ?_ (drewN_below' _ _ _) | refine Below.setCell ?_ (by first | (simp; done) | (simp; omega)) _ | refine Below.alloc ?_ (by first | (simp; done) | (simp; omega)) _)), fun j hj h => absurd h (by omega)⟩
  case round =>
    obtain ⟨q, hq, rfl, hbl, HQ⟩ := hrel
    have d0 := (hbl.cell (p := ⟨vb, 0, none⟩) hvl).trans c0
    have d1 := (hbl.cell (p := ⟨vb, 1, none⟩) hvl).trans c1
    by_cases hlt : q < ns.length
    · have hlt' : (q : Int) < (ns.length : Int) := by omega
      obtain ⟨g, rfl, hc⟩ := own_text HV.out.on hlt
      have hltv : q < vs.length := by omega
      have hltv' : (q : Int) < (vs.length : Int) := by omega
      obtain ⟨gv, rfl, hcv, _, hgv⟩ := own_int HV.out.ow hltv
      have a0 := (hbl.cell (p := ⟨g, q, none⟩) (cell_lt hc)).trans hc
      have a1 := (hbl.cell (p := ⟨gv, q, none⟩) hgv).trans hcv
      have hat : (∀ j (hj : j < q), ns[j]'(by omega) ≠ ns[q]) → ns[q] = m → res = vs[q] := fun h1 h2 => by
        rw [← HR.out, HV.out.look m, ← h2]
        exact lookE_at ns vs q hlt hltv h1
      have hq2 : ns[q] ≠ m → ∀ j (hj : j < ns.length), j < q + 1 → ns[j] ≠ m := fun hne j hj h => by
        by_cases e : j = q
        · subst e; exact hne
        · exact HQ.out j hj (by omega)
      have hqd : ns[q] = m → ∀ j (hj : j < q), ns[j]'(by omega) ≠ ns[q] := fun e j hj => by rw [e]; exact HQ.out j (by omega) hj
      generalize ns[q] = x at a0 hc hat hq2 hqd
      generalize vs[q] = y at a1 hcv hat
      by_cases hx : x = m
      · have hx' : (x == m) = true := by simpa using hx
        have hy := hat (hqd hx) hx
        subst hy
        clear hat hq2 hqd hx HQ hc hcv
        go_wp2
        go_ret
        exact ⟨rfl, hbl⟩
      · have hx' : (x == m) = false := by simpa using hx
        have HQ2 := hidX (hq2 hx)
        clear hat hq2 hqd hx hc hcv
        go_wp2
        go_roundw
        case rel => exact ⟨q + 1, by omega, by go_num, hbl, HQ2.out⟩
        case measure => simp [intOf]; omega
    · have hqn : q = ns.length := by omega
      subst hqn
      have hz : res = 0 := by
        rw [← HR.out, HV.out.look m]
        refine lookE_none _ _ _ (fun hm => ?_)
        obtain ⟨j, hj, e⟩ := List.mem_iff_getElem.1 hm
        exact HQ.out j hj hj e
      subst hz
      clear HQ
      go_wp2
      go_ret
      exact ⟨rfl, hbl⟩
/-- What a variable that is set leaves. -/
def RSetTo (w : World) (B mb vb : Nat) (nv vv : Value) (env : Env) (V : List (List UInt8)) (m : List UInt8) (v : Int) (e : Ending) (w' : World) : Prop :=
  e = .returned (.tuple #[]) ∧ Fr (fun b => b = vb ∨ nv.ownBlock = some b ∨ vv.ownBlock = some b) w w' ∧ ∃ nv' vv' ns' vs', RowB w nv.ownBlock nv'.ownBlock ∧ RowB w vv.ownBlock vv'.ownBlock ∧ RV w' B mb vb nv' vv' (setE env m v) V ns' vs'
theorem rset_found {w : World} {B mb vb g q : Nat} {nv : Value} {c : Nat} (h : RV w B mb vb nv (.slice (some ⟨g, 0, none⟩) vs.length c) env V ns vs) (hq : q < ns.length) (v : Int) : RV (w.setCell ⟨g, q, none⟩ (.int .i64 v)) B mb vb nv (.slice (some ⟨g, 0, none⟩) vs.length c) (setE env ns[q] v) V ns (vs.set q v) ∧ Fr (fun b => b = vb ∨ nv.ownBlock = some b ∨ (Value.slice (some ⟨g, 0, none⟩) vs.length c).ownBlock = some b) w (w.setCell ⟨g, q, none⟩ (.int .i64 v)) := by
  have hoth : ∀ b, b ≠ g → (w.setCell ⟨g, q, none⟩ (.int .i64 v)).heap[b]? = w.heap[b]? := fun b hb => Below.heap_setCell _ _ _ _ (show b ≠ g from hb)
  have hst := h.ow.stored q (.int .i64 v)
  have hset : (intsC vs).set q (.int .i64 v) = intsC (vs.set q v) := by unfold intsC; rw [List.map_set]
  rw [hset] at hst
  refine ⟨⟨h.hv, h.vm, (hoth vb (fun e => h.n4 (by rw [e]; rfl))).trans h.blk, own_same h.on (fun b e => hoth b (fun e' => by subst e'; exact rows_apart h.on h.ow (by decide) b e rfl)), by rw [List.length_set]; exact hst.1, by rw [List.length_set]; exact h.len, h.sub, h.nd, fun x => ?_⟩, ⟨rfl, rfl, rfl, by simp only [World.setCell, Array.size_modify]; exact Nat.le_refl _, fun b _ hs => hoth b (fun e => hs (Or.inr (Or.inr (by rw [e]; rfl))))⟩⟩
  rw [lookE_set ns vs q hq (by rw [h.len]; exact hq) v h.nd x]
  unfold setE
  rw [h.look x]
/-- A name more: both rows have grown. -/
theorem rset_new {w X1 w1 X2 w2 : World} {nv' vv' : Value} {m : List UInt8} {v : Int} (h : RV w B mb vb nv vv env V ns vs) (hm : m ∈ V) (hn : m ∉ ns)
    (hb1 : Below w.heap.size w X1) (o1 : w1.ownsRow B 9 1 nv' (ns.length + 1) (textsC ns ++ [.string ⟨m.toArray⟩])) (g1 : X1.grownBy w1 nv.ownBlock) (l1 : nv'.ownBlock = nv.ownBlock ∨ nv'.ownBlock = some X1.heap.size)
    (hb2 : Below w1.heap.size (w1.setCell ⟨vb, 0, none⟩ nv') X2) (o2 : w2.ownsRow B 3 1 vv' (vs.length + 1) (intsC vs ++ [.int .i64 v])) (g2 : X2.grownBy w2 vv.ownBlock) (l2 : vv'.ownBlock = vv.ownBlock ∨ vv'.ownBlock = some X2.heap.size) :
    RSetTo w B mb vb nv vv env V m v (.returned (.tuple #[])) (w2.setCell ⟨vb, 1, none⟩ vv') := by
  have hvl := h.vlt
  have z1 := hb1.size
  have z2 := g1.size
  have z3 : w1.heap.size ≤ X2.heap.size := by have := hb2.size; simpa [World.setCell] using this
  have z4 := g2.size
  have n3 := h.n3
  have n4 := h.n4
  have hs1 : ∀ b, b ≠ vb → (w1.setCell ⟨vb, 0, none⟩ nv').heap[b]? = w1.heap[b]? := fun b hb => Below.heap_setCell _ _ _ _ (show b ≠ vb from hb)
  have hs2 : ∀ b, b ≠ vb → (w2.setCell ⟨vb, 1, none⟩ vv').heap[b]? = w2.heap[b]? := fun b hb => Below.heap_setCell _ _ _ _ (show b ≠ vb from hb)
  have r1 : RowB w nv.ownBlock nv'.ownBlock := l1.elim Or.inl (fun e => Or.inr ⟨_, e, z1⟩)
  have r2 : RowB w vv.ownBlock vv'.ownBlock := l2.elim Or.inl (fun e => Or.inr ⟨_, e, by omega⟩)
  have hk1 : w1.heap[vb]? = some (.cells #[nv, vv] 197 (0, 0)) := (g1.block vb (by omega) (fun e => n3 e.symm)).trans ((hb1.block vb hvl).trans h.blk)
  have hk2 : (w1.setCell ⟨vb, 0, none⟩ nv').heap[vb]? = some (.cells #[nv', vv] 197 (0, 0)) := by simpa using blk_setCell hk1 0 nv'
  have hk3 : w2.heap[vb]? = some (.cells #[nv', vv] 197 (0, 0)) := (g2.block vb (by omega) (fun e => n4 e.symm)).trans ((hb2.block vb (by omega)).trans hk2)
  have hk4 : (w2.setCell ⟨vb, 1, none⟩ vv').heap[vb]? = some (.cells #[nv', vv'] 197 (0, 0)) := by simpa using blk_setCell hk3 1 vv'
  have hnv : nv'.ownBlock ≠ some vb := r1.ne hvl n3
  have hvv : vv'.ownBlock ≠ some vb := r2.ne hvl n4
  have o1' : w2.ownsRow B 9 1 nv' (ns.length + 1) (textsC ns ++ [.string ⟨m.toArray⟩]) := own_same o1 (fun b e => by
    have hlt := (o1.lt b e).2
    rw [g2.block b (by omega) ?_, hb2.block b hlt, hs1 b (fun e' => hnv (e' ▸ e))]
    intro e'
    rcases l1 with l | l
    · exact rows_apart h.on h.ow (by decide) b (l ▸ e) e'.symm
    · have : b = X1.heap.size := by rw [l] at e; injection e with e; exact e.symm
      have := (h.ow.lt b e'.symm).2
      omega)
  refine ⟨rfl, ⟨by show w2.os = _; rw [g2.os, hb2.os]; show w1.os = _; rw [g1.os, hb1.os], by show w2.tape = _; rw [g2.tape, hb2.tape]; show w1.tape = _; rw [g1.tape, hb1.tape], by show w2.output = _; rw [g2.output, hb2.output]; show w1.output = _; rw [g1.output, hb1.output], by simp only [World.setCell, Array.size_modify]; omega, fun b hb hs => ?_⟩, nv', vv', ns ++ [m], vs ++ [v], r1, r2, ?_⟩
  · rw [hs2 b (fun e => hs (Or.inl e)), g2.block b (by omega) (fun e => hs (Or.inr (Or.inr e.symm))), hb2.block b (by omega), hs1 b (fun e => hs (Or.inl e)), g1.block b (by omega) (fun e => hs (Or.inr (Or.inl e.symm))), hb1.block b hb]
  · refine ⟨h.hv, h.vm, hk4, own_same (by rw [List.length_append, show textsC (ns ++ [m]) = textsC ns ++ [.string ⟨m.toArray⟩] by simp [textsC]]; exact o1') (fun b e => hs2 b (fun e' => hnv (e' ▸ e))), own_same (by rw [List.length_append, intsC_snoc]; exact o2) (fun b e => hs2 b (fun e' => hvv (e' ▸ e))), by simp [h.len], fun x hx => ?_, ?_, fun x => ?_⟩
    · rcases List.mem_append.1 hx with hx | hx
      · exact h.sub x hx
      · rw [List.mem_singleton.1 hx]; exact hm
    · rw [List.nodup_append]
      refine ⟨h.nd, by simp, ?_⟩
      rintro a ha b hb rfl
      exact hn (List.mem_singleton.1 hb ▸ ha)
    · rw [lookE_snoc ns vs m v h.len hn x]
      unfold setE
      rw [h.look x]
theorem news_set (w : World) (a : Addr) (u v : Value) (t : TypeId) : ∀ j x, ([v] : List Value)[j]? = some x → ((w.setCell a u).alloc (.cells #[v] t)).cell? ((⟨w.heap.size, 0, none⟩ : Addr).add j) = some x := by
  have h : (w.setCell a u).heap.size = w.heap.size := by simp [World.setCell]
  have hb := heap_alloc_new (w.setCell a u) (.cells #[v] t)
  rw [h] at hb
  exact World.news_of_block hb
theorem rset_mid {w X1 w1 : World} (h : RV w B mb vb nv vv env V ns vs) (hb1 : Below w.heap.size w X1) (g1 : X1.grownBy w1 nv.ownBlock) (nv1 : Value) (o : Obj) : ((w1.setCell ⟨vb, 0, none⟩ nv1).alloc o).ownsRow B 3 1 vv vs.length (intsC vs) ∧ Below w1.heap.size (w1.setCell ⟨vb, 0, none⟩ nv1) ((w1.setCell ⟨vb, 0, none⟩ nv1).alloc o) := by
  have z1 := hb1.size
  have z2 := g1.size
  have hsz : (w1.setCell ⟨vb, 0, none⟩ nv1).heap.size = w1.heap.size := by simp [World.setCell]
  refine ⟨own_same h.ow (fun b e => ?_), by rw [← hsz]; exact (Below.refl _ _).alloc (Nat.le_refl _) o⟩
  have hlt := (h.ow.lt b e).2
  rw [Below.heap_alloc _ _ _ (by rw [hsz]; omega), Below.heap_setCell _ _ _ _ (show b ≠ vb from fun e' => h.n4 (e' ▸ e)), g1.block b (by omega) (fun e' => rows_apart h.on h.ow (by decide) b e'.symm e), hb1.block b hlt]
set_option maxRecDepth 100000 in
set_option maxHeartbeats 4000000 in
theorem rset_any (h : RV w B mb vb nv vv env V ns vs) (hV : V.length ≤ 12) (m : List UInt8) (hm : m ∈ V) (v : Int) :
    Calls Tryz.prog 106 #[.pointer (some ⟨vb, 0, none⟩), .string ⟨m.toArray⟩, .int .i64 v] w (RSetTo w B mb vb nv vv env V m v) := by
  obtain ⟨adn, cn, rfl⟩ := own_is h.on
  obtain ⟨adv, cv, rfl⟩ := own_is h.ow
  have hfew := h.few hV
  have hfew' : (ns.length : Int) ≤ 12 := by omega
  have c0 : w.cell? ⟨vb, 0, none⟩ = some (.slice adn ns.length cn) := cell_of_blk h.blk 0
  have c1 : w.cell? ⟨vb, 1, none⟩ = some (.slice adv vs.length cv) := cell_of_blk h.blk 1
  have HLEN := hidX h.len
  have hvs12 : vs.length ≤ 12 := by rw [h.len]; omega
  have hvl := h.vlt
  have hBv := h.hv
  have HV := hidX h
  have HM := hidX hm
  clear h hm
  go_enter Tryz.func106, Tryz.ntmps106
  go_wp2_with fail
  go_loopw [6] (fun vi wr => ∃ q : Nat, q ≤ ns.length ∧ vi = .int .i64 q ∧ wr = w ∧ Hid (∀ j (hj : j < ns.length), j < q → ns[j] ≠ m)) (fun vi _ => ns.length - (intOf vi).toNat)
  case atStart => exact ⟨0, Nat.zero_le _, rfl, rfl, fun j hj h => absurd h (by omega)⟩
  case round =>
    obtain ⟨q, hq, rfl, rfl, HQ⟩ := hrel
    by_cases hlt : q < ns.length
    · have hlt' : (q : Int) < (ns.length : Int) := by omega
      obtain ⟨g, rfl, a0⟩ := own_text HV.out.on hlt
      have hltv : q < vs.length := by rw [HLEN.out]; exact hlt
      have hltv' : (q : Int) < (vs.length : Int) := by omega
      obtain ⟨gv, rfl, a1, fz, hgv⟩ := own_int HV.out.ow hltv
      have hfd := rset_found HV.out hlt v
      have hq2 : ns[q] ≠ m → ∀ j (hj : j < ns.length), j < q + 1 → ns[j] ≠ m := fun hne j hj h => by
        by_cases e : j = q
        · subst e; exact hne
        · exact HQ.out j hj (by omega)
      generalize ns[q] = x at a0 hfd hq2
      generalize vs[q] = y at a1
      by_cases hx : x = m
      · subst hx
        have hx' : (x == x) = true := by simp
        have HFD := hidX hfd
        clear hq2 HQ hfd
        go_wp2
        refine bodyPost_ret (v := .tuple #[]) (by simp [results, Tryz.results106, go_sem]) rfl ?_
        exact ⟨rfl, HFD.out.2, _, _, _, _, RowB.refl _ _, RowB.refl _ _, HFD.out.1⟩
      · have hx' : (x == m) = false := by simpa using hx
        have HQ2 := hidX (hq2 hx)
        clear hfd hq2 hx
        go_wp2
        go_roundw
        case rel => exact ⟨q + 1, by omega, by go_num, by first | rfl | trivial, HQ2.out⟩
        case measure => simp [intOf]; omega
    · have hqn : q = ns.length := by omega
      subst hqn
      have hni : m ∉ ns := fun hm => by
        obtain ⟨j, hj, e⟩ := List.mem_iff_getElem.1 hm
        exact HQ.out j hj hj e
      have HNI := hidX hni
      obtain ⟨i0, hi, hz0, hz1, hz2⟩ := info_parts text_info
      obtain ⟨j0, hj, hy0, hy1, hy2⟩ := info_parts int_info
      have hb1 := box_blk wr #[.string ⟨m.toArray⟩] 9
      have HB1 := hidX hb1
      have HN3 := hidX HV.out.n3
      have HN4 := hidX HV.out.n4
      clear HQ hni hb1
      go_wp2_with (first | (at_builtin; refine wpList_append_own_at _ rfl _ _ 37 rfl B 9 i0 _ 1 16 Tryz.underlying37 hi hz0 hz1 hz2 rfl (by decide) (.slice adn ns.length cn) ns.length (textsC ns) rfl (owns_below HV.out.on HB1.out) ⟨wr.heap.size, 0, none⟩ 1 1 [.string ⟨m.toArray⟩] rfl rfl (World.news_of_block (heap_alloc_new _ _)) (text_one m) (by unfold maxLen; omega) (by omega) (by simp; omega) ?_; intro nv1 w1 ho1 hg1 _ hl1; obtain ⟨ad1, cc1, rfl⟩ := own_is ho1; have hk1 : w1.heap[vb]? = some (.cells #[.slice adn ns.length cn, .slice adv vs.length cv] 197 (0, 0)) := (hg1.block vb (by simp; omega) (fun e => HN3.out e.symm)).trans ((HB1.out.block vb hvl).trans HV.out.blk); have HO1 := hidX ho1; have HG1 := hidX hg1; have HL1 := hidX hl1; have HK1 := hidX hk1; have e0 : w1.cell? ⟨vb, 0, none⟩ = some (.slice adn ns.length cn) := cell_of_blk hk1 0; have e1 : w1.cell? ⟨vb, 1, none⟩ = some (.slice adv vs.length cv) := cell_of_blk hk1 1; have f0 := free_of_blk hk1 0; have HMID := hidX (rset_mid HV.out HB1.out HG1.out (.slice ad1 (ns.length + 1) cc1) (.cells #[.int .i64 v] 3)); have HZS : Hid (wr.heap.size ≤ w1.heap.size ∧ w1.heap.size ≤ ((w1.setCell ⟨vb, 0, none⟩ (.slice ad1 (ns.length + 1) cc1)).alloc (.cells #[.int .i64 v] 3)).heap.size) := ⟨(by have := HG1.out.size; have := HB1.out.size; omega), (by simp [World.setCell])⟩; clear ho1 hg1 hl1 hk1) | (at_builtin; refine wpList_append_own_at _ rfl _ _ 23 rfl B 3 j0 _ 1 8 Tryz.underlying23 hj hy0 hy1 hy2 rfl (by decide) (.slice adv vs.length cv) vs.length (intsC vs) rfl HMID.out.1 ⟨w1.heap.size, 0, none⟩ 1 1 [.int .i64 v] rfl rfl (news_set w1 _ _ _ _) (int_one v) (by unfold maxLen; omega) (by omega) (by have := HZS.out; omega) ?_; intro vv1 w2 ho2 hg2 _ hl2; obtain ⟨ad2, cc2, rfl⟩ := own_is ho2; have hk2 : w2.heap[vb]? = some (.cells #[.slice ad1 (ns.length + 1) cc1, .slice adv vs.length cv] 197 (0, 0)) := (hg2.block vb (by have := HZS.out; omega) (fun e => HN4.out e.symm)).trans ((HMID.out.2.block vb (by have := HZS.out; omega)).trans (by simpa using blk_setCell HK1.out 0 (.slice ad1 (ns.length + 1) cc1))); have HO2 := hidX ho2; have HG2 := hidX hg2; have HL2 := hidX hl2; have e2 : w2.cell? ⟨vb, 1, none⟩ = some (.slice adv vs.length cv) := cell_of_blk hk2 1; have f2 := free_of_blk hk2 1; clear ho2 hg2 hl2 hk2) | fail)
      refine bodyPost_ret (v := .tuple #[]) (by simp [results, Tryz.results106, go_sem]) rfl ?_
      exact rset_new HV.out HM.out HNI.out HB1.out HO1.out HG1.out HL1.out HMID.out.2 HO2.out HG2.out HL2.out
end
end Go.Proofs.YtcebpmaggnephacGreatDoor

/-
  Our own: the document's own model of a run: an expression.
-/
namespace Go.Proofs.YtcebpmaggnephacGreatDoor
open Go.RowKit Go.Maps

mutual
/-- Kinds that there are. -/
def KindE : Ex → Prop
  | .mk k _ _ ks => (k = kNumE ∨ k = kName ∨ k = kCall ∨ k = kOne ∨ k = kTwo) ∧ KindEs ks
def KindEs : List Ex → Prop
  | [] => True
  | e :: r => KindE e ∧ KindEs r
end
mutual
def KindS : Sm → Prop
  | .mk k _ e t o => (k = kVar ∨ k = kSet ∨ k = kIf ∨ k = kWhile ∨ k = kReturn ∨ k = kPrint) ∧ KindE e ∧ KindSs t ∧ KindSs o
def KindSs : List Sm → Prop
  | [] => True
  | e :: r => KindS e ∧ KindSs r
end
theorem KindEs.mem : ∀ {l : List Ex}, KindEs l → ∀ e ∈ l, KindE e
  | [], _, _, h => absurd h (by simp)
  | _ :: _, ⟨h1, h2⟩, x, hx => by
    rcases List.mem_cons.1 hx with rfl | hx
    · exact h1
    · exact h2.mem x hx
theorem KindSs.mem : ∀ {l : List Sm}, KindSs l → ∀ e ∈ l, KindS e
  | [], _, _, h => absurd h (by simp)
  | _ :: _, ⟨h1, h2⟩, x, hx => by
    rcases List.mem_cons.1 hx with rfl | hx
    · exact h1
    · exact h2.mem x hx
theorem shape_kind {k : List UInt8} {n : Int} {m : List UInt8} {c : Nat} (h : shapeE k n m c = true) : k = kNumE ∨ k = kName ∨ k = kCall ∨ k = kOne ∨ k = kTwo := by
  unfold shapeE at h
  split at h
  · next h1 => exact Or.inl h1
  · split at h
    · next h1 => exact Or.inr (Or.inl h1)
    · split at h
      · next h1 => exact Or.inr (Or.inr (Or.inl h1))
      · split at h
        · next h1 => exact Or.inr (Or.inr (Or.inr (Or.inl h1)))
        · split at h
          · next h1 => exact Or.inr (Or.inr (Or.inr (Or.inr h1)))
          · cases h
mutual
theorem expr_kind {F : List Fu} {vis : List (List UInt8)} : ∀ e : Ex, exprC F vis e = 0 → KindE e
  | .mk k n m ks, h => by
    rw [exprC] at h
    split at h
    · cases h
    · next hs =>
      exact ⟨shape_kind (by simpa using hs), exprs_kind ks (andC_zero h).1⟩
theorem exprs_kind {F : List Fu} {vis : List (List UInt8)} : ∀ l : List Ex, exprsC F vis l = 0 → KindEs l
  | [], _ => trivial
  | e :: r, h => by
    rw [exprsC] at h
    exact ⟨expr_kind e (andC_zero h).1, exprs_kind r (andC_zero h).2⟩
end
theorem shapeS_kind {k m : List UInt8} {t o : Nat} (h : shapeS k m t o = true) : k = kVar ∨ k = kSet ∨ k = kIf ∨ k = kWhile ∨ k = kReturn ∨ k = kPrint := by
  unfold shapeS at h
  split at h
  · next h1 => exact h1.elim Or.inl (fun h => Or.inr (Or.inl h))
  · split at h
    · next h1 => exact Or.inr (Or.inr (Or.inl h1))
    · split at h
      · next h1 => exact Or.inr (Or.inr (Or.inr (Or.inl h1)))
      · split at h
        · next h1 => exact h1.elim (fun h => Or.inr (Or.inr (Or.inr (Or.inr (Or.inl h))))) (fun h => Or.inr (Or.inr (Or.inr (Or.inr (Or.inr h)))))
        · cases h
mutual
theorem stmt_kind {F : List Fu} : ∀ (s : Sm) (all vis b : List (List UInt8)), stmtC F all vis s = .ok b → KindS s
  | .mk k m e t o, all, vis, b, h => by
    obtain ⟨h1, h2, h3⟩ := stmtC_ok h
    refine ⟨shapeS_kind h1, expr_kind e h2, ?_⟩
    rcases h3 with ⟨_, _, ht, ho⟩ | ⟨_, _, _, _, ht, ho⟩ | ⟨_, _, a, ha, hb⟩
    · rw [ht, ho]; exact ⟨trivial, trivial⟩
    · rw [ht, ho]; exact ⟨trivial, trivial⟩
    · exact ⟨block_kind t _ _ _ ha, block_kind o _ _ _ hb⟩
theorem block_kind {F : List Fu} : ∀ (l : List Sm) (all vis b : List (List UInt8)), blockC F all vis l = .ok b → KindSs l
  | [], _, _, _, _ => trivial
  | s :: r, all, vis, b, h => by
    rw [blockC_cons] at h
    obtain ⟨a, h1, h2⟩ := bind_ok h
    exact ⟨stmt_kind s _ _ _ h1, block_kind r _ _ _ h2⟩
end
theorem prog_kind {F : List Fu} (h : funsC F [] F = none) : ∀ f ∈ F, KindSs f.body := by
  intro f hf
  obtain ⟨i, hi, rfl⟩ := List.mem_iff_getElem.1 hf
  obtain ⟨_, _, _, _, a, b, _, h2⟩ := funC_ok (funsC_all F [] h i hi)
  exact block_kind _ _ _ _ h2
/-- What an expression, a call of the model comes to. -/
def RVTo (w : World) (B mb : Nat) (fv ov : Value) (F : List Fu) (most d : Nat) (r : Vr) (e : Ending) (w' : World) : Prop :=
  Fr (Sx mb ov.ownBlock) w w' ∧ ∃ ov', RowB w ov.ownBlock ov'.ownBlock ∧ match r with
    | .stop c s => e = .returned (.int .i64 0) ∧ RM w' B mb fv ov' F (howS c) s most d
    | .val v s => e = .returned (.int .i64 v) ∧ RM w' B mb fv ov' F [] s most d
section
variable {w w' X : World} {B mb : Nat} {fv ov ov' : Value} {F : List Fu} {most d : Nat} {r : Vr} {e : Ending} {c : Stop} {s : Ms} {v : Int}
theorem rvto_val (hr : r = .val v s) (hf : Fr (Sx mb ov.ownBlock) w w') (ho : RowB w ov.ownBlock ov'.ownBlock) (hm : RM w' B mb fv ov' F [] s most d) : RVTo w B mb fv ov F most d r (.returned (.int .i64 v)) w' := by
  subst hr; exact ⟨hf, ov', ho, rfl, hm⟩
theorem rvto_stop (hr : r = .stop c s) (hf : Fr (Sx mb ov.ownBlock) w w') (ho : RowB w ov.ownBlock ov'.ownBlock) (hm : RM w' B mb fv ov' F (howS c) s most d) : RVTo w B mb fv ov F most d r (.returned (.int .i64 0)) w' := by
  subst hr; exact ⟨hf, ov', ho, rfl, hm⟩
theorem rvto_int (h : RVTo w B mb fv ov F most d r e w') : ∃ v, e = .returned (.int .i64 v) ∧ RVTo w B mb fv ov F most d r (.returned (.int .i64 v)) w' := by
  obtain ⟨h1, ov', h2, h3⟩ := h
  cases r with
  | stop c s => exact ⟨0, h3.1, h1, ov', h2, rfl, h3.2⟩
  | val v s => exact ⟨v, h3.1, h1, ov', h2, rfl, h3.2⟩
theorem rvto_from {ovq : Value} (h : RVTo X B mb fv ovq F most d r e w') (hf : Fr (Sx mb ov.ownBlock) w X) (hr : RowB w ov.ownBlock ovq.ownBlock) : RVTo w B mb fv ov F most d r e w' := by
  obtain ⟨h1, ov', h2, h3⟩ := h
  exact ⟨hf.trans h1 (fun i hi hs => Sx.next hr hi hs), ov', hr.trans h2 hf.size, h3⟩
end
def RCallT (F : List Fu) (most N : Nat) (K : CallF) (d : Nat) : Prop := ∀ (w : World) (B mb : Nat) (fv ov argv : Value) (s : Ms) (m : List UInt8) (args : List Int), RM w B mb fv ov F [] s most d → (∃ f ∈ F, f.name = m ∧ f.params.length = args.length) → (∀ v ∈ args, In64 v) → m.length ≤ 20 → most - s.ticks < N → XRow (fun b => b < w.heap.size ∧ b ≠ mb ∧ ov.ownBlock ≠ some b) w argv args.length (intsC args) →
  Calls Tryz.prog 31 #[.pointer (some ⟨mb, 0, none⟩), .string ⟨m.toArray⟩, argv] w (RVTo w B mb fv ov F most d (K m args s))
def RExT (F : List Fu) (most N : Nat) (K : CallF) (d : Nat) (e : Ex) : Prop := ∀ (w : World) (B mb vb : Nat) (fv ov nv vv : Value) (s : Ms) (env : Env) (V ns : List (List UInt8)) (vs : List Int) (cs : List Value), RAt w B mb vb d fv ov nv vv F s most N env V ns vs → XE (fun b => b < B) w e cs → LowE e → WfE F e → KindE e →
  Calls Tryz.prog 126 #[.pointer (some ⟨mb, 0, none⟩), .pointer (some ⟨vb, 0, none⟩), .agg cs.toArray] w (RVTo w B mb fv ov F most d (exprX runOps K env e s))
theorem rone_op (m : List UInt8) (hm : m ∈ onesE) (a : Int) (w : World) : Calls Tryz.prog 141 #[.string ⟨m.toArray⟩, .int .i64 a] w fun e w' => e = .returned (.int .i64 (runOps.one m a)) ∧ w' = w := by
  unfold onesE at hm
  simp only [List.mem_cons, List.not_mem_nil, or_false] at hm
  rcases hm with rfl | rfl
  · show Calls _ _ _ _ fun e w' => e = .returned (.int .i64 (wrap64 (-a))) ∧ w' = w
    go_enter Tryz.func141, Tryz.ntmps141
    go_wp2
    go_ret
    exact ⟨ret_intV (by go_num), rfl⟩
  · show Calls _ _ _ _ fun e w' => e = .returned (.int .i64 (vBit (a = 0))) ∧ w' = w
    go_enter Tryz.func141, Tryz.ntmps141
    go_wp2_with fail
    refine (r_bit _ _).mono ?_
    rintro e w' ⟨rfl, rfl⟩
    go_wp2
    all_goals (
      go_ret
      exact ⟨by first | rfl | simp [vBit, *], rfl⟩)
theorem rtwo_op (m : List UInt8) (hm : m ∈ twosE) (a b : Int) (ha : In64 a) (w : World) : Calls Tryz.prog 142 #[.string ⟨m.toArray⟩, .int .i64 a, .int .i64 b] w fun e w' => e = .returned (.int .i64 (runOps.two m a b)) ∧ w' = w := by
  refine r_any ⟨m.toArray⟩ ?_ a b ha w
  unfold twosE at hm
  simp only [List.mem_cons, List.not_mem_nil, or_false] at hm
  rcases hm with rfl | rfl | rfl | rfl | rfl | rfl | rfl | rfl | rfl | rfl | rfl | rfl | rfl | rfl <;> simp [opsTwo]
theorem RM.howC {w : World} {B mb : Nat} {fv ov : Value} {F : List Fu} {how : List UInt8} {s : Ms} {most d : Nat} (h : RM w B mb fv ov F how s most d) : w.cell? ⟨mb, 4, none⟩ = some (.string ⟨how.toArray⟩) := cell_of_blk h.blk 4
theorem xrow_sep {P : Nat → Prop} {w : World} {A n c : Nat} {ad : Option Addr} {ws : List Int} (h : w.ownsRow A 3 1 (.slice ad n c) ws.length (intsC ws)) (hP : ∀ b, (Value.slice ad n c).ownBlock = some b → P b) : XRow P w (.slice ad ws.length c) ws.length (intsC ws) := by
  refine ⟨ad, c, rfl, fun h0 => ?_⟩
  obtain ⟨g, rfl, _⟩ := own_int h (i := 0) (by omega)
  refine ⟨g, 0, rfl, hP g rfl, fun j u hj => ?_⟩
  have hl : j < ws.length := by
    rcases Nat.lt_or_ge j ws.length with hl | hl
    · exact hl
    · rw [List.getElem?_eq_none (by simp [intsC]; exact hl)] at hj; cases hj
  obtain ⟨g', e, hc, _⟩ := own_int h hl
  injection e with e
  injection e with e
  subst e
  rw [Nat.zero_add, hc]
  rw [← hj]; simp [intsC, hl]
/-- A row of our own has grown: the machine stands. -/
theorem RM.app {X W3 : World} {A B mb n : Nat} {fv ov lv : Value} {F : List Fu} {how : List UInt8} {s : Ms} {most d : Nat} {t : TypeId} {xs : List Value} {o : Obj} (h : RM X B mb fv ov F how s most d) (hown : X.ownsRow A t 1 lv n xs) (hg : (X.alloc o).grownBy W3 lv.ownBlock) (hA : mb < A) (hs : ∀ b, lv.ownBlock = some b → ov.ownBlock ≠ some b) : RM W3 B mb fv ov F how s most d :=
  h.keep (fun b hb hS => (hg.block b (by simp; omega) (fun e => by
    have hl := (hown.lt b e.symm).1
    rcases hS with hS | hS | hS
    · have := h.hp; omega
    · omega
    · exact hs b e.symm hS)).trans (Below.heap_alloc _ _ _ hb))
theorem Fr.app {S : Nat → Prop} {w X W3 : World} {A n : Nat} {lv : Value} {t : TypeId} {xs : List Value} {o : Obj} (h : Fr S w X) (hown : X.ownsRow A t 1 lv n xs) (hg : (X.alloc o).grownBy W3 lv.ownBlock) (hA : w.heap.size ≤ A) : Fr S w W3 := by
  have hz := hg.size
  simp only [World.alloc, Array.size_push] at hz
  refine ⟨hg.os.trans h.os, hg.tape.trans h.tape, hg.output.trans h.output, by have := h.size; omega, fun b hb hS => ?_⟩
  have hbX : b < X.heap.size := by have := h.size; omega
  rw [hg.block b (by simp; omega) (fun e => by have := (hown.lt b e.symm).1; omega), Below.heap_alloc _ _ _ hbX, h.block b hb hS]
set_option maxRecDepth 100000 in
set_option maxHeartbeats 8000000 in
theorem rex_mk {F : List Fu} {most N : Nat} {K : CallF} {d : Nat} (_hP : WfP F) (hON : OnK most K) (hFK : FitK K) (hCT : RCallT F most N K d) (k : List UInt8) (n : Int) (mm : List UInt8) (ks : List Ex) (ih : ∀ e ∈ ks, RExT F most N K d e) : RExT F most N K d (.mk k n mm ks) := by
  intro w B mb vb fv ov nv vv s env V ns vs cs hA hX hL hW hKi
  obtain ⟨v, xs, rfl, hr, hk⟩ := hX
  obtain ⟨ad, cap, rfl⟩ := hr.is
  obtain ⟨l1, l2, l3⟩ := hL
  have l2' : (ks.length : Int) ≤ 8 := by omega
  obtain ⟨W0, hW0⟩ : ∃ W0, W0 = w.alloc (.cells #[.string ⟨k.toArray⟩, .int .i64 n, .string ⟨mm.toArray⟩, .slice ad ks.length cap] 116) := ⟨_, rfl⟩
  have hb0 : Below w.heap.size w W0 := by rw [hW0]; (repeat (first | exact Below.refl _ _ | assumption | refine Below.drew ?_ | refine Below.trans ?_ (drewN_below' _ _ _) | refine Below.setCell ?_ (by first | (simp; done) | (simp; omega)) _ | refine Below.alloc ?_ (by first | (simp; done) | (simp; omega)) _))
  have hs0 : W0.heap.size = w.heap.size + 1 := by rw [hW0]; simp
  have hbx : W0.heap[w.heap.size]? = some (.cells #[.string ⟨k.toArray⟩, .int .i64 n, .string ⟨mm.toArray⟩, .slice ad ks.length cap] 116 (0, 0)) := by rw [hW0]; exact heap_alloc_new w _
  have hro : ov.ownBlock ≠ some w.heap.size := fun e => by have := (hA.mach.own.lt _ e).2; omega
  obtain ⟨i0, hi, iz0, iz1, iz2⟩ := info_parts int_info
  have IH := hidX ih
  have R := hidX hr
  have KK := hidX hk
  have LL := hidX l3
  have HW := hidX hW
  have HKI := hidX hKi
  have HA := hidX hA
  have hml := hA.mach.mlt
  have hBm := hA.mach.hp
  have hvl := hA.vars.vlt
  have HB0 := hidX hb0
  have HS0 := hidX hs0
  have HBX := hidX hbx
  have HRO := hidX hro
  have HCT := hidX hCT
  have HON := hidX hON
  have HFK := hidX hFK
  have hroom := hA.room
  generalize hres : exprX runOps K env (.mk k n mm ks) s = res
  have HRES := hidX hres
  clear ih hr hk l3 hA hb0 hs0 hbx hro hW hKi hCT hON hFK hres
  go_enter Tryz.func126, Tryz.ntmps126
  go_wp2_with fail
  rw [← hW0]
  clear hW0
  go_loopw [7, 8] (fun vl vi wr => ∃ (q : Nat) (ws : List Int) (sq : Ms) (ovq lv : Value), q ≤ ks.length ∧ vi = .int .i64 q ∧ vl = lv ∧ Hid (RM wr B mb fv ovq F [] sq most d) ∧ Hid (Fr (Sx mb ov.ownBlock) w wr) ∧ w.heap.size + 1 ≤ wr.heap.size ∧ Hid (RowB W0 ov.ownBlock ovq.ownBlock) ∧ Hid (wr.heap[w.heap.size]? = some (.cells #[.string ⟨k.toArray⟩, .int .i64 n, .string ⟨mm.toArray⟩, .slice ad ks.length cap] 116 (0, 0))) ∧ Hid (wr.ownsRow (w.heap.size + 1) 3 1 lv ws.length (intsC ws)) ∧ Hid (∀ b, lv.ownBlock = some b → ovq.ownBlock ≠ some b) ∧ Hid (ws.length = q) ∧ s.ticks ≤ sq.ticks ∧ Hid (exprsX runOps K env (ks.take q) s = .vals ws sq)) (fun _ vi _ => ks.length - (intOf vi).toNat)
  case atStart => exact ⟨0, [], s, ov, _, Nat.zero_le _, rfl, rfl, HA.out.mach.below HB0.out, Fr.of HB0.out, by rw [HS0.out]; exact Nat.le_refl _, RowB.refl _ _, HBX.out, World.ownsRow_nil _ _ _ _, (fun b e => by simp [Value.ownBlock] at e), rfl, Nat.le_refl _, by unfold Hid; rw [List.take_zero, exprsX]⟩
  case round =>
    obtain ⟨q, ws, sq, ovq, lv, hq, rfl, rfl, HMQ, HFQ, hzq, HRQ, HBQ, HLQ, HSP, HWQ, htq, HXQ⟩ := hrel
    have hobq : ovq.ownBlock ≠ some w.heap.size := HRQ.out.ne (by rw [HS0.out]; omega) HRO.out
    have HOBQ := hidX hobq
    have HRw := hidX (HRQ.out.mono (a := w) (by rw [HS0.out]; omega))
    have hAQ : RAt wr B mb vb d fv ovq nv vv F sq most N env V ns vs := ⟨HMQ.out, HA.out.vars.stay HA.out.mach HA.out.sep HFQ.out, fun b e => by
      rcases HRw.out with e' | ⟨g, e', hg⟩
      · exact HA.out.sep b (e' ▸ e)
      · intro e2
        have := (HA.out.vars.ow.lt b e2).2
        rw [e'] at e; injection e with e; omega, HA.out.fit, by omega, HA.out.vl⟩
    have HAQ := hidX hAQ
    obtain ⟨adl, capl, rfl⟩ := own_is HLQ.out
    have x3 : wr.cell? ⟨w.heap.size, 3, none⟩ = some (.slice ad ks.length cap) := cell_of_blk HBQ.out 3
    have hwl : ws.length ≤ 8 := by rw [HWQ.out]; omega
    clear hobq hAQ
    by_cases hlt : q < ks.length
    · have hlt' : (q : Int) < (ks.length : Int) := by omega
      obtain ⟨ka, e1, e2⟩ := KK.out.at hlt
      obtain ⟨ga, off, rfl, hga, g1⟩ := R.out.el 4 hlt e2
      have hmem := List.getElem_mem hlt
      have hlowq : Below B w wr := HFQ.out.lowR HA.out.mach
      have hcall := IH.out _ hmem wr B mb vb fv ovq nv vv sq env V ns vs ka HAQ.out (XE.imp (fun _ h => h) (fun b hb => hlowq.block b hb) _ _ e1) (LL.out.mem _ hmem) (HW.out.2.2.2.2.mem _ hmem) (HKI.out.2.mem _ hmem)
      have hstop := fun c s' => exprsX_stop (c := c) (s' := s') hlt HXQ.out
      have hnext := fun v s' => exprsX_next (v := v) (s' := s') hlt HXQ.out
      have hon := exprX_on (O := runOps) HON.out env ks[q] sq
      have hfit := exprX_fit runOps_fit HFK.out HA.out.fit (F := F) ks[q] sq (HW.out.2.2.2.2.mem _ hmem)
      generalize ks[q] = x at e1 hcall hstop hnext hon hfit hmem
      obtain ⟨xk, xn, xm, xks⟩ := x
      obtain ⟨xv, xxs, rfl, r2, _⟩ := e1
      obtain ⟨adx, capx, rfl⟩ := r2.is
      generalize exprX runOps K env (.mk xk xn xm xks) sq = rx at hcall hstop hnext hon hfit
      have k0 := (hlowq.cell (p := ⟨ga, _, none⟩) hga).trans (g1 0 _ (by decide) rfl)
      have k1 := (hlowq.cell (p := ⟨ga, _, none⟩) hga).trans (g1 1 _ (by decide) rfl)
      have k2 := (hlowq.cell (p := ⟨ga, _, none⟩) hga).trans (g1 2 _ (by decide) rfl)
      have k3 := (hlowq.cell (p := ⟨ga, _, none⟩) hga).trans (g1 3 _ (by decide) rfl)
      simp only [← Nat.add_assoc, Nat.add_zero] at k0 k1 k2 k3
      have HCL := hidX hcall
      have HST := hidX hstop
      have HNX := hidX hnext
      have HONX := hidX hon
      have HFT := hidX hfit
      clear hcall hstop hnext hon hfit g1 e2 r2 hmem hlowq
      go_wp2_with fail
      refine HCL.out.mono ?_
      rintro e X2 h2
      obtain ⟨vx, rfl, hf2, ov2, hr2, h2⟩ := rvto_int h2
      have hz2 := hf2.size
      have HF2 := hidX (show Fr (Sx mb ov.ownBlock) w X2 from HFQ.out.trans hf2 (fun i hi hs => Sx.next HRw.out hi hs))
      have HR2 := hidX (show RowB W0 ov.ownBlock ov2.ownBlock from HRQ.out.trans hr2 (by rw [HS0.out]; exact hzq))
      have hbk2 := (hf2.block w.heap.size (by omega) (by rintro (e | e); omega; exact HOBQ.out e)).trans HBQ.out
      have hol2 := own_same HLQ.out (w' := X2) (fun b e => hf2.block b (HLQ.out.lt b e).2 (by
        rintro (e' | e')
        · have := (HLQ.out.lt b e).1; omega
        · exact HSP.out b e e'))
      have hsp2 : ∀ b, (Value.slice adl ws.length capl).ownBlock = some b → ov2.ownBlock ≠ some b := fun b e => hr2.ne (HLQ.out.lt b e).2 (HSP.out b e)
      have HBK2 := hidX hbk2
      have HOL2 := hidX hol2
      have HSP2 := hidX hsp2
      have HOA := hidX (owns_below hol2 (box_blk X2 #[.int .i64 vx] 3))
      have HH2 := hidX h2
      clear hf2 hr2 hbk2 hol2 hsp2 h2 k0 k1 k2 k3 x3
      cases rx with
      | stop c s1 =>
        have HM2 := hidX HH2.out.2
        have HE2 : Hid (res = .stop c s1) := by unfold Hid; rw [← HRES.out, exprX, HST.out c s1 rfl]
        have hne : (howS c).isEmpty = false := by cases c <;> rfl
        go_wp2_with (first | (at_builtin; refine wpList_append_own_at _ rfl _ _ 23 rfl (w.heap.size + 1) 3 i0 _ 1 8 Tryz.underlying23 hi iz0 iz1 iz2 rfl (by decide) (.slice adl ws.length capl) ws.length (intsC ws) rfl HOA.out ⟨X2.heap.size, 0, none⟩ 1 1 [.int .i64 vx] rfl rfl (World.news_of_block (heap_alloc_new _ _)) (int_one vx) (by unfold maxLen; omega) (by omega) (by simp; omega) ?_; intro lv3 W3 ho3 hg3 _ hl3; obtain ⟨ad3, cc3, rfl⟩ := own_is ho3; have HM3 := hidX (HM2.out.app HOL2.out hg3 (by omega) HSP2.out); have HF3 := hidX (HF2.out.app HOL2.out hg3 (by omega)); have c4 := HM3.out.howC; clear ho3 hg3 hl3) | fail)
        go_ret
        exact rvto_stop HE2.out HF3.out (HR2.out.mono (by rw [HS0.out]; omega)) HM3.out
      | val v1 s1 =>
        have hvx : vx = v1 := by have := HH2.out.1; injection this with this; injection this
        have HM2 := hidX HH2.out.2
        subst hvx
        have HX2 := hidX (HNX.out vx s1 rfl)
        have ht1 : sq.ticks ≤ s1.ticks := HONX.out.ticks
        have hfx := HFT.out
        go_wp2_with (first | (at_builtin; refine wpList_append_own_at _ rfl _ _ 23 rfl (w.heap.size + 1) 3 i0 _ 1 8 Tryz.underlying23 hi iz0 iz1 iz2 rfl (by decide) (.slice adl ws.length capl) ws.length (intsC ws) rfl HOA.out ⟨X2.heap.size, 0, none⟩ 1 1 [.int .i64 vx] rfl rfl (World.news_of_block (heap_alloc_new _ _)) (int_one vx) (by unfold maxLen; omega) (by omega) (by simp; omega) ?_; intro lv3 W3 ho3 hg3 _ hl3; obtain ⟨ad3, cc3, rfl⟩ := own_is ho3; have HM3 := hidX (HM2.out.app HOL2.out hg3 (by omega) HSP2.out); have HF3 := hidX (HF2.out.app HOL2.out hg3 (by omega)); have c4 := HM3.out.howC; have HO3 := hidX ho3; have HL3 := hidX hl3; have HG3 := hidX hg3; clear ho3 hg3 hl3) | fail)
        have hz3 : X2.heap.size ≤ W3.heap.size := by have := HG3.out.size; simp only [World.alloc, Array.size_push] at this; omega
        have hbk3 := (HG3.out.block w.heap.size (by simp; omega) (fun e => by have := (HOL2.out.lt _ e.symm).1; omega)).trans ((Below.heap_alloc _ _ _ (by omega)).trans HBK2.out)
        have HBK3 := hidX hbk3
        have hsp3 : ∀ b, (Value.slice ad3 (ws.length + 1) cc3).ownBlock = some b → ov2.ownBlock ≠ some b := fun b e => by
          rcases HL3.out with l | l
          · exact HSP2.out b (l ▸ e)
          · intro e2
            have := (HM2.out.own.lt b e2).2
            rw [l] at e
            simp only [World.alloc, Array.size_push, Option.some.injEq] at e
            omega
        have HSP3 := hidX hsp3
        have ho4 : W3.ownsRow (w.heap.size + 1) 3 1 (.slice ad3 (ws ++ [vx]).length cc3) (ws ++ [vx]).length (intsC (ws ++ [vx])) := by rw [intsC_snoc, List.length_append]; exact HO3.out
        have HO4 := hidX ho4
        have hlen4 : (ws ++ [vx]).length = ws.length + 1 := by simp
        clear hbk3 hsp3 ho4 c4
        rw [← hlen4]
        clear hlen4
        go_roundw
        case rel => exact ⟨q + 1, ws ++ [vx], s1, ov2, _, by omega, by go_num, rfl, HM3.out, HF3.out, by omega, HR2.out, HBK3.out, HO4.out, by rw [List.length_append]; exact HSP3.out, by unfold Hid; rw [List.length_append, HWQ.out]; rfl, by omega, HX2.out⟩
        case measure => simp [intOf]; omega
    · have hqn : q = ks.length := by omega
      subst hqn
      have hx := HXQ.out
      rw [List.take_length] at hx
      have HE1 : Hid (res = exprV runOps K env k n mm ws sq) := by unfold Hid; rw [← HRES.out, exprX, hx]
      have hf64 : ∀ v ∈ ws, In64 v := by
        have := exprsX_fit runOps_fit HFK.out HA.out.fit (F := F) ks s HW.out.2.2.2.2
        rw [hx] at this
        exact this
      have H64 := hidX hf64
      have x0 : wr.cell? ⟨w.heap.size, 0, none⟩ = some (.string ⟨k.toArray⟩) := cell_of_blk HBQ.out 0
      have x1 : wr.cell? ⟨w.heap.size, 1, none⟩ = some (.int .i64 n) := cell_of_blk HBQ.out 1
      have x2 : wr.cell? ⟨w.heap.size, 2, none⟩ = some (.string ⟨mm.toArray⟩) := cell_of_blk HBQ.out 2
      clear hx hf64 HXQ HRES
      rcases HKI.out.1 with hk | hk | hk | hk | hk
      · subst hk
        have HE2 : Hid (res = .val n sq) := by unfold Hid; rw [HE1.out]; rfl
        clear HE1
        unfold kNumE at x0
        go_wp2
        go_ret
        exact rvto_val HE2.out HFQ.out HRw.out HMQ.out
      · subst hk
        have HE2 : Hid (res = .val (env mm) sq) := by unfold Hid; rw [HE1.out]; rfl
        clear HE1
        unfold kName at x0
        go_wp2_with fail
        refine (rget_any HAQ.out.vars HAQ.out.vl mm).mono ?_
        rintro e X3 ⟨rfl, hb3⟩
        go_wp2
        go_ret
        exact rvto_val HE2.out (HFQ.out.trans (T := Sx mb ov.ownBlock) (Fr.of hb3) (fun _ _ h => h)) HRw.out (HMQ.out.below hb3)
      · subst hk
        have HE2 : Hid (res = K mm ws sq) := by unfold Hid; rw [HE1.out]; rfl
        have hwf := HW.out.2.1 rfl
        have hl1 : ws.length = ks.length := HWQ.out
        have hcall := HCT.out wr B mb fv ovq (.slice adl ws.length capl) sq mm ws HMQ.out (by rw [hl1]; exact hwf) H64.out l1 (by omega) (xrow_sep HLQ.out (fun b e => ⟨(HLQ.out.lt b e).2, by have := (HLQ.out.lt b e).1; omega, HSP.out b e⟩))
        have HCL := hidX hcall
        clear HE1 hwf hl1 hcall
        unfold kCall at x0
        go_wp2_with fail
        refine HCL.out.mono ?_
        intro e X3 h3
        obtain ⟨v3, rfl, h3⟩ := rvto_int h3
        have H3 := hidX (rvto_from h3 HFQ.out HRw.out)
        clear h3
        go_wp2
        go_ret
        rw [HE2.out]
        exact H3.out
      · subst hk
        have hw1 := HW.out.2.2.1 rfl
        have hl1 : ws.length = 1 := by rw [HWQ.out]; exact hw1.2
        have hl1' : (0 : Int) < (ws.length : Int) := by omega
        obtain ⟨gl, rfl, c0, _, hgl⟩ := own_int HLQ.out (i := 0) (by omega)
        have hv0 : ws.getD 0 0 = ws[0] := by rw [List.getD_eq_getElem?_getD, List.getElem?_eq_getElem (by omega)]; rfl
        generalize ws[0] = v0 at c0 hv0
        have HE2 : Hid (res = .val (runOps.one mm v0) sq) := by unfold Hid; rw [HE1.out, ← hv0]; rfl
        have HOP := hidX (rone_op mm hw1.1 v0)
        generalize runOps.one mm v0 = rv at HE2 HOP
        clear HE1 hw1 hl1 hv0
        unfold kOne at x0
        go_wp2_with fail
        go_quiet ((go_at_call 141; exact Calls.quiet_of_same (HOP.out _)))
        go_wp2
        go_ret
        exact rvto_val HE2.out (HFQ.out.trans (T := Sx mb ov.ownBlock) (Fr.of (by (repeat (first | exact Below.refl _ _ | assumption | refine Below.drew ?_ | refine Below.trans ?_ (drewN_below' _ _ _) | refine Below.setCell ?_ (by first | (simp; done) | (simp; omega)) _ | refine Below.alloc ?_ (by first | (simp; done) | (simp; omega)) _)))) (fun _ _ h => h)) HRw.out (HMQ.out.below (by (repeat (first | exact Below.refl _ _ | assumption | refine Below.drew ?_ | refine Below.trans ?_ (drewN_below' _ _ _) | refine Below.setCell ?_ (by first | (simp; done) | (simp; omega)) _ | refine Below.alloc ?_ (by first | (simp; done) | (simp; omega)) _))))
      · subst hk
        have hw1 := HW.out.2.2.2.1 rfl
        have hl1 : ws.length = 2 := by rw [HWQ.out]; exact hw1.2
        have hl1' : (1 : Int) < (ws.length : Int) := by omega
        have hl0' : (0 : Int) < (ws.length : Int) := by omega
        obtain ⟨gl, rfl, c0, _, hgl⟩ := own_int HLQ.out (i := 0) (by omega)
        obtain ⟨gl', e', c1, _, _⟩ := own_int HLQ.out (i := 1) (by omega)
        injection e' with e'
        injection e' with e'
        subst e'
        have hv0 : ws.getD 0 0 = ws[0] := by rw [List.getD_eq_getElem?_getD, List.getElem?_eq_getElem (by omega)]; rfl
        have hv1 : ws.getD 1 0 = ws[1] := by rw [List.getD_eq_getElem?_getD, List.getElem?_eq_getElem (by omega)]; rfl
        have h640 := H64.out ws[0] (List.getElem_mem _)
        generalize ws[0] = v0 at c0 hv0 h640
        generalize ws[1] = v1 at c1 hv1
        have HE2 : Hid (res = .val (runOps.two mm v0 v1) sq) := by unfold Hid; rw [HE1.out, ← hv0, ← hv1]; rfl
        have HOP := hidX (fun X => rtwo_op mm hw1.1 v0 v1 h640 X)
        generalize runOps.two mm v0 v1 = rv at HE2 HOP
        clear HE1 hw1 hl1 hv0 hv1 h640
        unfold kTwo at x0
        go_wp2_with fail
        go_quiet ((go_at_call 142; exact Calls.quiet_of_same (HOP.out _)))
        go_wp2
        go_ret
        exact rvto_val HE2.out (HFQ.out.trans (T := Sx mb ov.ownBlock) (Fr.of (by (repeat (first | exact Below.refl _ _ | assumption | refine Below.drew ?_ | refine Below.trans ?_ (drewN_below' _ _ _) | refine Below.setCell ?_ (by first | (simp; done) | (simp; omega)) _ | refine Below.alloc ?_ (by first | (simp; done) | (simp; omega)) _)))) (fun _ _ h => h)) HRw.out (HMQ.out.below (by (repeat (first | exact Below.refl _ _ | assumption | refine Below.drew ?_ | refine Below.trans ?_ (drewN_below' _ _ _) | refine Below.setCell ?_ (by first | (simp; done) | (simp; omega)) _ | refine Below.alloc ?_ (by first | (simp; done) | (simp; omega)) _))))
mutual
theorem rex_any {F : List Fu} {most N : Nat} {K : CallF} {d : Nat} (hP : WfP F) (hON : OnK most K) (hFK : FitK K) (hCT : RCallT F most N K d) : ∀ e : Ex, RExT F most N K d e
  | .mk k n m ks => rex_mk hP hON hFK hCT k n m ks (rexs_any hP hON hFK hCT ks)
theorem rexs_any {F : List Fu} {most N : Nat} {K : CallF} {d : Nat} (hP : WfP F) (hON : OnK most K) (hFK : FitK K) (hCT : RCallT F most N K d) : ∀ l : List Ex, ∀ e ∈ l, RExT F most N K d e
  | [], _, h => absurd h (by simp)
  | e :: r, x, h => by
    rcases List.mem_cons.1 h with h | h
    · rw [h]; exact rex_any hP hON hFK hCT e
    · exact rexs_any hP hON hFK hCT r x h
end
end Go.Proofs.YtcebpmaggnephacGreatDoor
