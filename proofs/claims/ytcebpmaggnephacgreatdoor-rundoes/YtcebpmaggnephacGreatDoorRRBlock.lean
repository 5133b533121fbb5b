/-
  Our own: the document's own model of a run: statements.
-/
import Derived.Test.YtcebpmaggnephacGreatDoorRRBase
import Derived.Test.YtcebpmaggnephacGreatDoorRunStmt
namespace Go.Proofs.YtcebpmaggnephacGreatDoor
open Go.RowKit Go.Maps

/-- What statements of the model come to. -/
def RBTo (w : World) (B mb vb : Nat) (fv ov nv vv : Value) (F : List Fu) (most d : Nat) (V : List (List UInt8)) (r : Br) (e : Ending) (w' : World) : Prop :=
  Fr (S5 mb vb ov.ownBlock nv.ownBlock vv.ownBlock) w w' ∧ ∃ ov' nv' vv' ns' vs', RowB w ov.ownBlock ov'.ownBlock ∧ RowB w nv.ownBlock nv'.ownBlock ∧ RowB w vv.ownBlock vv'.ownBlock ∧ (∀ b, ov'.ownBlock = some b → vv'.ownBlock ≠ some b) ∧ match r with
    | .stop c s => e = .returned (.tuple #[.int .i64 0, .bool false]) ∧ RM w' B mb fv ov' F (howS c) s most d ∧ ∃ env, RV w' B mb vb nv' vv' env V ns' vs'
    | .ret v s => e = .returned (.tuple #[.int .i64 v, .bool true]) ∧ RM w' B mb fv ov' F [] s most d ∧ ∃ env, RV w' B mb vb nv' vv' env V ns' vs'
    | .next env s => e = .returned (.tuple #[.int .i64 0, .bool false]) ∧ RM w' B mb fv ov' F [] s most d ∧ RV w' B mb vb nv' vv' env V ns' vs'
def RBlT (F : List Fu) (most N : Nat) (K : CallF) (d : Nat) (l : List Sm) : Prop := ∀ (w : World) (B mb vb : Nat) (fv ov nv vv : Value) (s : Ms) (env : Env) (V ns : List (List UInt8)) (vs : List Int) (v : Value), RAt w B mb vb d fv ov nv vv F s most N env V ns vs → XLS (fun b => b < B) w v l → l.length ≤ 30 → LowSs l → WfSs F V l → KindSs l →
  Calls Tryz.prog 107 #[.pointer (some ⟨mb, 0, none⟩), .pointer (some ⟨vb, 0, none⟩), v] w (RBTo w B mb vb fv ov nv vv F most d V (blockX runOps most K N l env s))
/-- Where a list of statements stands. -/
def RLp (w wr : World) (B mb vb d : Nat) (fv ov nv vv : Value) (F : List Fu) (most N : Nat) (V : List (List UInt8)) (go : Env → Ms → Prop) (no : Stop → Ms → Prop) : Prop :=
  ∃ ovq nvq vvq nsq vsq, Fr (S5 mb vb ov.ownBlock nv.ownBlock vv.ownBlock) w wr ∧ RowB w ov.ownBlock ovq.ownBlock ∧ RowB w nv.ownBlock nvq.ownBlock ∧ RowB w vv.ownBlock vvq.ownBlock ∧
    ((∃ envq sq, RAt wr B mb vb d fv ovq nvq vvq F sq most N envq V nsq vsq ∧ go envq sq) ∨
     (∃ c s' env', RM wr B mb fv ovq F (howS c) s' most d ∧ RV wr B mb vb nvq vvq env' V nsq vsq ∧ (∀ b, ovq.ownBlock = some b → vvq.ownBlock ≠ some b) ∧ no c s'))
section
variable {w wr X : World} {B mb vb d : Nat} {fv ov nv vv ovq nvq vvq ov2 nv2 vv2 : Value} {F : List Fu} {most N : Nat} {V nsq ns2 : List (List UInt8)} {vsq vs2 : List Int} {env : Env} {s : Ms} {r : Br}
/-- The rows of a frame. -/
structure Rows3 (w : World) (ov nv vv ov' nv' vv' : Value) : Prop where
  o : RowB w ov.ownBlock ov'.ownBlock
  n : RowB w nv.ownBlock nv'.ownBlock
  v : RowB w vv.ownBlock vv'.ownBlock
theorem Rows3.refl : Rows3 w ov nv vv ov nv vv := ⟨RowB.refl _ _, RowB.refl _ _, RowB.refl _ _⟩
theorem Rows3.trans (h : Rows3 w ov nv vv ovq nvq vvq) (k : Rows3 wr ovq nvq vvq ov2 nv2 vv2) (hz : w.heap.size ≤ wr.heap.size) : Rows3 w ov nv vv ov2 nv2 vv2 := ⟨h.o.trans k.o hz, h.n.trans k.n hz, h.v.trans k.v hz⟩
theorem Rows3.mono (h : Rows3 wr ov nv vv ovq nvq vvq) (hz : w.heap.size ≤ wr.heap.size) : Rows3 w ov nv vv ovq nvq vvq := ⟨h.o.mono hz, h.n.mono hz, h.v.mono hz⟩
theorem Rows3.fr (h : Rows3 w ov nv vv ovq nvq vvq) (k : Fr (S5 mb vb ov.ownBlock nv.ownBlock vv.ownBlock) w wr) (k2 : Fr (S5 mb vb ovq.ownBlock nvq.ownBlock vvq.ownBlock) wr X) : Fr (S5 mb vb ov.ownBlock nv.ownBlock vv.ownBlock) w X := k.trans k2 (fun _ hi hs => S5.next h.o h.n h.v hi hs)
theorem rlp_run {go : Env → Ms → Prop} {no : Stop → Ms → Prop} (hf : Fr (S5 mb vb ov.ownBlock nv.ownBlock vv.ownBlock) w wr) (h : Rows3 w ov nv vv ovq nvq vvq) (hA : RAt wr B mb vb d fv ovq nvq vvq F s most N env V nsq vsq) (hg : go env s) : RLp w wr B mb vb d fv ov nv vv F most N V go no :=
  ⟨ovq, nvq, vvq, nsq, vsq, hf, h.o, h.n, h.v, Or.inl ⟨env, s, hA, hg⟩⟩
theorem rlp_stop {go : Env → Ms → Prop} {no : Stop → Ms → Prop} {c : Stop} (hf : Fr (S5 mb vb ov.ownBlock nv.ownBlock vv.ownBlock) w wr) (h : Rows3 w ov nv vv ovq nvq vvq) (hM : RM wr B mb fv ovq F (howS c) s most d) (hV : RV wr B mb vb nvq vvq env V nsq vsq) (hs : ∀ b, ovq.ownBlock = some b → vvq.ownBlock ≠ some b) (hg : no c s) : RLp w wr B mb vb d fv ov nv vv F most N V go no :=
  ⟨ovq, nvq, vvq, nsq, vsq, hf, h.o, h.n, h.v, Or.inr ⟨c, s, env, hM, hV, hs, hg⟩⟩
theorem rbto_stop {c : Stop} (hr : r = .stop c s) (hf : Fr (S5 mb vb ov.ownBlock nv.ownBlock vv.ownBlock) w wr) (h : Rows3 w ov nv vv ovq nvq vvq) (hM : RM wr B mb fv ovq F (howS c) s most d) (hV : RV wr B mb vb nvq vvq env V nsq vsq) (hs : ∀ b, ovq.ownBlock = some b → vvq.ownBlock ≠ some b) : RBTo w B mb vb fv ov nv vv F most d V r (.returned (.tuple #[.int .i64 0, .bool false])) wr := by
  subst hr; exact ⟨hf, ovq, nvq, vvq, nsq, vsq, h.o, h.n, h.v, hs, rfl, hM, env, hV⟩
theorem rbto_ret {v : Int} (hr : r = .ret v s) (hf : Fr (S5 mb vb ov.ownBlock nv.ownBlock vv.ownBlock) w wr) (h : Rows3 w ov nv vv ovq nvq vvq) (hM : RM wr B mb fv ovq F [] s most d) (hV : RV wr B mb vb nvq vvq env V nsq vsq) (hs : ∀ b, ovq.ownBlock = some b → vvq.ownBlock ≠ some b) : RBTo w B mb vb fv ov nv vv F most d V r (.returned (.tuple #[.int .i64 v, .bool true])) wr := by
  subst hr; exact ⟨hf, ovq, nvq, vvq, nsq, vsq, h.o, h.n, h.v, hs, rfl, hM, env, hV⟩
theorem rbto_next (hr : r = .next env s) (hf : Fr (S5 mb vb ov.ownBlock nv.ownBlock vv.ownBlock) w wr) (h : Rows3 w ov nv vv ovq nvq vvq) (hM : RM wr B mb fv ovq F [] s most d) (hV : RV wr B mb vb nvq vvq env V nsq vsq) (hs : ∀ b, ovq.ownBlock = some b → vvq.ownBlock ≠ some b) : RBTo w B mb vb fv ov nv vv F most d V r (.returned (.tuple #[.int .i64 0, .bool false])) wr := by
  subst hr; exact ⟨hf, ovq, nvq, vvq, nsq, vsq, h.o, h.n, h.v, hs, rfl, hM, hV⟩
theorem rbto_tuple {e : Ending} (h : RBTo w B mb vb fv ov nv vv F most d V r e wr) : ∃ v b, e = .returned (.tuple #[.int .i64 v, .bool b]) ∧ RBTo w B mb vb fv ov nv vv F most d V r (.returned (.tuple #[.int .i64 v, .bool b])) wr := by
  obtain ⟨h1, ov', nv', vv', ns', vs', h2, h3, h4, h5, h6⟩ := h
  cases r with
  | stop c s => exact ⟨0, false, h6.1, h1, ov', nv', vv', ns', vs', h2, h3, h4, h5, rfl, h6.2⟩
  | ret v s => exact ⟨v, true, h6.1, h1, ov', nv', vv', ns', vs', h2, h3, h4, h5, rfl, h6.2⟩
  | next env s => exact ⟨0, false, h6.1, h1, ov', nv', vv', ns', vs', h2, h3, h4, h5, rfl, h6.2⟩
/-- Behind an expression. -/
theorem RAt.behind (h : RAt wr B mb vb d fv ovq nvq vvq F s most N env V nsq vsq) {how : List UInt8} {s1 : Ms} (hf : Fr (Sx mb ovq.ownBlock) wr X) (ho : RowB wr ovq.ownBlock ov2.ownBlock) (_hm : RM X B mb fv ov2 F how s1 most d) : RV X B mb vb nvq vvq env V nsq vsq ∧ (∀ b, ov2.ownBlock = some b → vvq.ownBlock ≠ some b) ∧ Fr (S5 mb vb ovq.ownBlock nvq.ownBlock vvq.ownBlock) wr X ∧ Rows3 wr ovq nvq vvq ov2 nvq vvq :=
  ⟨h.vars.stay h.mach h.sep hf, fun b e e2 => by
    rcases ho with e' | ⟨g, e', hg⟩
    · exact h.sep b (e' ▸ e) e2
    · have := (h.vars.ow.lt b e2).2
      rw [e'] at e; injection e with e; omega, hf.mono (fun _ h => h.to5), ⟨ho, RowB.refl _ _, RowB.refl _ _⟩⟩
/-- Behind a variable that was set. -/
theorem RAt.set (h : RAt wr B mb vb d fv ovq nvq vvq F s most N env V nsq vsq) {m : List UInt8} {v : Int} {e : Ending} (hv : In64 v) (hs : RSetTo wr B mb vb nvq vvq env V m v e X) : ∃ nv2 vv2 ns2 vs2, RAt X B mb vb d fv ovq nv2 vv2 F s most N (setE env m v) V ns2 vs2 ∧ Fr (S5 mb vb ovq.ownBlock nvq.ownBlock vvq.ownBlock) wr X ∧ Rows3 wr ovq nvq vvq ovq nv2 vv2 := by
  obtain ⟨_, hf, nv2, vv2, ns2, vs2, r1, r2, hV⟩ := hs
  refine ⟨nv2, vv2, ns2, vs2, ⟨h.mach.keep (fun b hb hS => hf.block b hb ?_), hV, fun b e => ?_, h.fit.set m hv, h.room, h.vl⟩, hf.mono (fun b hb => ?_), ⟨RowB.refl _ _, r1, r2⟩⟩
  · rintro (e | e | e)
    · subst e
      rcases hS with hS | hS | hS
      · have := h.vars.hv; omega
      · exact h.vars.vm hS
      · exact h.mach.no h.vars hS
    · rcases hS with hS | hS | hS
      · have := (h.vars.on.lt b e).1; omega
      · subst hS; exact h.vars.n1 h.mach e
      · exact rows_apart h.vars.on h.mach.own (by decide) b e hS
    · rcases hS with hS | hS | hS
      · have := (h.vars.ow.lt b e).1; omega
      · subst hS; exact h.vars.n2 h.mach e
      · exact h.sep b hS e
  · exact r2.ne (h.mach.own.lt b e).2 (h.sep b e)
  · rcases hb with hb | hb | hb
    · exact Or.inr (Or.inl hb)
    · exact Or.inr (Or.inr (Or.inr (Or.inl hb)))
    · exact Or.inr (Or.inr (Or.inr (Or.inr hb)))
/-- A box of our own stays. -/
theorem Fr.box {b : Nat} (h : Fr (S5 mb vb ovq.ownBlock nvq.ownBlock vvq.ownBlock) wr X) (hb : b < wr.heap.size) (h1 : b ≠ mb) (h2 : b ≠ vb) (h3 : ovq.ownBlock ≠ some b) (h4 : nvq.ownBlock ≠ some b) (h5 : vvq.ownBlock ≠ some b) : X.heap[b]? = wr.heap[b]? :=
  h.block b hb (by
    rintro (e | e | e | e | e)
    · exact h1 e
    · exact h2 e
    · exact h3 e
    · exact h4 e
    · exact h5 e)
end
def ticksR (w : World) (mb : Nat) : Nat := ((w.cell? ⟨mb, 6, none⟩).map fun v => (intOf v).toNat).getD 0
theorem RM.ticksR {w : World} {B mb : Nat} {fv ov : Value} {F : List Fu} {how : List UInt8} {s : Ms} {most d : Nat} (h : RM w B mb fv ov F how s most d) : ticksR w mb = s.ticks := by
  have : w.cell? ⟨mb, 6, none⟩ = some (.int .i64 (s.ticks : Int)) := cell_of_blk h.blk 6
  unfold Go.Proofs.YtcebpmaggnephacGreatDoor.ticksR
  rw [this]
  simp [intOf]
end Go.Proofs.YtcebpmaggnephacGreatDoor
