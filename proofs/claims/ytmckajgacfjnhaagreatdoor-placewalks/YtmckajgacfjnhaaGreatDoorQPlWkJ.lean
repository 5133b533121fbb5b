/- Our own: texts joined: PlWkJ. -/
import Derived.Test.YtmckajgacfjnhaaGreatDoorQWalkMs
namespace Go.Proofs.YtmckajgacfjnhaaGreatDoor
open Go.RowKit
structure PkJ (D : Nat → Prop) (S : Nat → Prop) (X : World) (wb rb vb : Nat) (bv argv ansv askv : Value) (s : Rst) (most steps : Int) (vl : List (Int × Bool)) (ac : List Int) : Prop where
 blk : X.heap[wb]? = some (.cells #[.pointer (some ⟨rb, 0, none⟩), bv, argv, .slice (some ⟨vb, 0, none⟩) vl.length vl.length, askv] 90 (0, 0))
 vals : X.heap[vb]? = some (.cells (valC vl).toArray 162 (0, 0))
 recd : RecE S X rb s ansv most steps
 asks : X.ownsRow 0 3 1 askv ac.length (intsG ac)
 ne1 : wb ≠ rb
 ne2 : wb ≠ vb
 ne3 : rb ≠ vb
 lw : D wb
 lr : D rb
 lv : D vb
 ls : ∀ b, S b → D b ∧ b ≠ wb ∧ b ≠ vb
 own : ∀ b, askv.ownBlock = some b → D b ∧ b ≠ wb ∧ b ≠ rb ∧ b ≠ vb ∧ ¬ S b
def Up (D : Nat → Prop) (X : World) : Nat → Prop := fun b => D b ∨ X.heap.size ≤ b
def PkE (D : Nat → Prop) (X : World) (wb rb vb : Nat) (bv argv ansv : Value) (s : Rst) (most steps : Int) (vl : List (Int × Bool)) : Prop := ∃ S askv ac, PkJ D S X wb rb vb bv argv ansv askv s most steps vl ac
section
variable {D : Nat → Prop} {S : Nat → Prop} {X Y : World} {wb rb vb : Nat} {bv argv ansv askv : Value} {s : Rst} {most steps : Int} {vl : List (Int × Bool)} {ac : List Int}
theorem PkJ.e (h : PkJ D S X wb rb vb bv argv ansv askv s most steps vl ac) : PkE D X wb rb vb bv argv ansv s most steps vl := ⟨S, askv, ac, h⟩
theorem PkJ.keep (h : PkJ D S X wb rb vb bv argv ansv askv s most steps vl ac) (hz : X.heap.size ≤ Y.heap.size) (hb : ∀ k, (k = wb ∨ k = rb ∨ k = vb ∨ S k ∨ askv.ownBlock = some k) → Y.heap[k]? = X.heap[k]?) : PkJ D S Y wb rb vb bv argv ansv askv s most steps vl ac :=
 ⟨(hb wb (Or.inl rfl)).trans h.blk, (hb vb (Or.inr (Or.inr (Or.inl rfl)))).trans h.vals, h.recd.keep hz (fun k hk => hb k (hk.elim (fun e => Or.inr (Or.inl e)) (fun e => Or.inr (Or.inr (Or.inr (Or.inl e)))))),
  own_same h.asks (fun b e => hb b (Or.inr (Or.inr (Or.inr (Or.inr e))))), h.ne1, h.ne2, h.ne3, h.lw, h.lr, h.lv, h.ls, h.own⟩
theorem PkJ.askl (h : PkJ D S X wb rb vb bv argv ansv askv s most steps vl ac) : ∀ b, askv.ownBlock = some b → D b ∧ b < X.heap.size := fun b e => ⟨(h.own b e).1, (h.asks.lt b e).2⟩
theorem PkJ.in_ (h : PkJ D S X wb rb vb bv argv ansv askv s most steps vl ac) : ∀ k, (k = wb ∨ k = rb ∨ k = vb ∨ S k ∨ askv.ownBlock = some k) → D k ∧ k < X.heap.size := by
 rintro k (rfl | rfl | rfl | e | e)
 ·exact ⟨h.lw, heap_lt h.blk⟩
 ·exact ⟨h.lr, h.recd.rl⟩
 ·exact ⟨h.lv, heap_lt h.vals⟩
 ·exact ⟨(h.ls k e).1, (h.recd.sl k e).1⟩
 ·exact h.askl k e
theorem PkJ.below (h : PkJ D S X wb rb vb bv argv ansv askv s most steps vl ac) (hb : Below X.heap.size X Y) : PkJ D S Y wb rb vb bv argv ansv askv s most steps vl ac :=
 h.keep hb.size (fun k hk => hb.block k (h.in_ k hk).2)
theorem PkJ.mono {D' : Nat → Prop} (h : PkJ D S X wb rb vb bv argv ansv askv s most steps vl ac) (hD : ∀ b, D b → D' b) : PkJ D' S X wb rb vb bv argv ansv askv s most steps vl ac :=
 ⟨h.blk, h.vals, h.recd, h.asks, h.ne1, h.ne2, h.ne3, hD _ h.lw, hD _ h.lr, hD _ h.lv, fun b e => ⟨hD b (h.ls b e).1, (h.ls b e).2⟩, fun b e => ⟨hD b (h.own b e).1, (h.own b e).2⟩⟩
theorem PkE.mono {D' : Nat → Prop} (h : PkE D X wb rb vb bv argv ansv s most steps vl) (hD : ∀ b, D b → D' b) : PkE D' X wb rb vb bv argv ansv s most steps vl := by
 obtain ⟨S, a, c, h⟩ := h
 exact ⟨S, a, c, h.mono hD⟩
theorem PkE.below (h : PkE D X wb rb vb bv argv ansv s most steps vl) (hb : Below X.heap.size X Y) : PkE D Y wb rb vb bv argv ansv s most steps vl := by
 obtain ⟨S, a, c, h⟩ := h
 exact ⟨S, a, c, h.below hb⟩
theorem PkJ.recTo (h : PkJ D S X wb rb vb bv argv ansv askv s most steps vl ac) {s' : Rst} {steps' : Int} (ht : RecTo S X rb s' ansv most steps' Y) : ButP D X Y ∧ ∃ S', PkJ (Up D X) S' Y wb rb vb bv argv ansv askv s' most steps' vl ac := by
 obtain ⟨⟨S', h1, h2⟩, h3⟩ := ht
 have hk : ∀ k, k < X.heap.size → k ≠ rb → ¬ S k → Y.heap[k]? = X.heap[k]? := fun k hk hr hs => h3.block k hk (fun e => e.elim hr hs)
 have hw := (h.in_ wb (Or.inl rfl)).2
 have hv := (h.in_ vb (Or.inr (Or.inr (Or.inl rfl)))).2
 refine ⟨h3.imp (fun k e => e.elim (fun e => e ▸ h.lr) (fun e => (h.ls k e).1)), S', ?_⟩
 refine ⟨(hk wb hw h.ne1 (fun e => (h.ls wb e).2.1 rfl)).trans h.blk, (hk vb hv h.ne3.symm (fun e => (h.ls vb e).2.2 rfl)).trans h.vals, h2, own_same h.asks (fun b e => hk b (h.askl b e).2 (h.own b e).2.2.1 (h.own b e).2.2.2.2), h.ne1, h.ne2, h.ne3, Or.inl h.lw, Or.inl h.lr, Or.inl h.lv, fun b e => ?_, fun b e => ⟨Or.inl (h.own b e).1, (h.own b e).2.1, (h.own b e).2.2.1, (h.own b e).2.2.2.1, fun e' => ?_⟩⟩
 ·rcases h1 b e with e' | e'
  ·exact ⟨Or.inl (h.ls b e').1, (h.ls b e').2⟩
  ·exact ⟨Or.inr e', by omega, by omega⟩
 ·rcases h1 b e' with e2 | e2
  ·exact (h.own b e).2.2.2.2 e2
  ·have := (h.askl b e).2; omega
theorem PkJ.become (h : PkJ D S X wb rb vb bv argv ansv askv s most steps vl ac) {vl' : List (Int × Bool)} (hl : vl'.length = vl.length) (hb : But vb X Y) (hv : Y.heap[vb]? = some (.cells (valC vl').toArray 162 (0, 0))) : ButP D X Y ∧ PkJ D S Y wb rb vb bv argv ansv askv s most steps vl' ac := by
 have hk : ∀ k, k < X.heap.size → k ≠ vb → Y.heap[k]? = X.heap[k]? := fun k hk hr => hb.block k hk hr
 have hw := (h.in_ wb (Or.inl rfl)).2
 refine ⟨ButP.but hb h.lv, ?_⟩
 refine ⟨?_, hv, h.recd.keep hb.size (fun k e => hk k (e.elim (fun e => e ▸ h.recd.rl) (fun e => (h.recd.sl k e).1)) (e.elim (fun e => e ▸ h.ne3) (fun e => (h.ls k e).2.2))), own_same h.asks (fun b e => hk b (h.askl b e).2 (h.own b e).2.2.2.1), h.ne1, h.ne2, h.ne3, h.lw, h.lr, h.lv, h.ls, h.own⟩
 rw [hl]; exact (hk wb hw h.ne2).trans h.blk
theorem own_zero {w : World} {B n size : Nat} {t : TypeId} {ad : Option Addr} {cap : Nat} {xs : List Value} (h : w.ownsRow B t size (.slice ad n cap) n xs) : w.ownsRow B t size (.slice ad 0 cap) 0 [] := by
 rcases h with ⟨h1, ⟨h2, h3⟩ | ⟨g, c, cur, h3, h4, h5, h6, h7, h8, h9⟩⟩
 ·injection h2 with e1 e2 e3
  subst e1 e3
  exact ⟨by simp, Or.inl ⟨rfl, rfl⟩⟩
 ·injection h3 with e1 e2 e3
  subst e1 e3
  exact ⟨by simp, Or.inr ⟨g, cap, cur, rfl, h4, h5, Nat.zero_le _, h7, h8, by simp⟩⟩
theorem PkJ.reask (h : PkJ D S X wb rb vb bv argv ansv askv s most steps vl ac) {askv' : Value} {ac' : List Int} (hb : But wb X Y) (hk : Y.heap[wb]? = some (.cells #[.pointer (some ⟨rb, 0, none⟩), bv, argv, .slice (some ⟨vb, 0, none⟩) vl.length vl.length, askv'] 90 (0, 0)))
  (ho : X.ownsRow 0 3 1 askv' ac'.length (intsG ac')) (hown : ∀ b, askv'.ownBlock = some b → D b ∧ b ≠ wb ∧ b ≠ rb ∧ b ≠ vb ∧ ¬ S b) : PkJ D S Y wb rb vb bv argv ansv askv' s most steps vl ac' := by
 have hkk : ∀ k, k < X.heap.size → k ≠ wb → Y.heap[k]? = X.heap[k]? := fun k hk hr => hb.block k hk hr
 have hv := (h.in_ vb (Or.inr (Or.inr (Or.inl rfl)))).2
 exact ⟨hk, (hkk vb hv h.ne2.symm).trans h.vals, h.recd.keep hb.size (fun k e => hkk k (e.elim (fun e => e ▸ h.recd.rl) (fun e => (h.recd.sl k e).1)) (e.elim (fun e => e ▸ h.ne1.symm) (fun e => (h.ls k e).2.1))), own_same ho (fun b e => hkk b (ho.lt b e).2 (hown b e).2.1), h.ne1, h.ne2, h.ne3, h.lw, h.lr, h.lv, h.ls, hown⟩
theorem PkJ.grown (h : PkJ D S X wb rb vb bv argv ansv askv s most steps vl ac) (hg : X.grownBy Y askv.ownBlock) : (∀ k, (k = wb ∨ k = rb ∨ k = vb ∨ S k) → Y.heap[k]? = X.heap[k]?) := fun k hk =>
 hg.block k (h.in_ k (by rcases hk with e | e | e | e <;> simp [e])).2 (fun e => by
  have := h.own k e.symm
  rcases hk with rfl | rfl | rfl | e'
  ·exact this.2.1 rfl
  ·exact this.2.2.1 rfl
  ·exact this.2.2.2.1 rfl
  ·exact this.2.2.2.2 e')
theorem PkJ.push (h : PkJ D S X wb rb vb bv argv ansv askv s most steps vl ac) {Z W : World} {g cap : Nat} {y : Int} (hZ : Below X.heap.size X Z) (hg : Z.grownBy W askv.ownBlock) (ho : W.ownsRow 0 3 1 (.slice (some ⟨g, 0, none⟩) (ac.length + 1) cap) (ac.length + 1) (intsG ac ++ [.int .i64 y])) (hl : askv.ownBlock = some g ∨ g = Z.heap.size) :
  PkJ (Up D X) S (W.setCell ⟨wb, 4, none⟩ (.slice (some ⟨g, 0, none⟩) (ac.length + 1) cap)) wb rb vb bv argv ansv (.slice (some ⟨g, 0, none⟩) (ac.length + 1) cap) s most steps vl (ac ++ [y]) ∧ ButP (fun k => k = wb ∨ askv.ownBlock = some k) X (W.setCell ⟨wb, 4, none⟩ (.slice (some ⟨g, 0, none⟩) (ac.length + 1) cap)) := by
 have h2 := h.below hZ
 have hk := h2.grown hg
 have hne : Up D X g ∧ g ≠ wb ∧ g ≠ rb ∧ g ≠ vb ∧ ¬ S g := by
  rcases hl with e | e
  ·exact ⟨Or.inl (h.own g e).1, (h.own g e).2⟩
  ·have a1 := (h2.in_ wb (Or.inl rfl)).2
   have a2 := (h2.in_ rb (Or.inr (Or.inl rfl))).2
   have a3 := (h2.in_ vb (Or.inr (Or.inr (Or.inl rfl)))).2
   exact ⟨Or.inr (by have := hZ.size; omega), by omega, by omega, by omega, fun e' => by have := (h2.in_ g (Or.inr (Or.inr (Or.inr (Or.inl e'))))).2; omega⟩
 have hs : ∀ k, k ≠ wb → (W.setCell ⟨wb, 4, none⟩ (.slice (some ⟨g, 0, none⟩) (ac.length + 1) cap)).heap[k]? = W.heap[k]? := fun k e => Below.heap_setCell _ _ _ _ (by show k ≠ wb; exact e)
 have hsz : (W.setCell ⟨wb, 4, none⟩ (.slice (some ⟨g, 0, none⟩) (ac.length + 1) cap)).heap.size = W.heap.size := by simp [World.setCell]
 refine ⟨⟨?_, ?_, h2.recd.keep (by rw [hsz]; exact hg.size) (fun k e => ?_), ?_, h.ne1, h.ne2, h.ne3, Or.inl h.lw, Or.inl h.lr, Or.inl h.lv, fun b e => ⟨Or.inl (h.ls b e).1, (h.ls b e).2⟩, fun b e => ?_⟩, ?_⟩
 ·have := blk_setCell ((hk wb (Or.inl rfl)).trans h2.blk) 4 (.slice (some ⟨g, 0, none⟩) (ac.length + 1) cap)
  simpa using this
 ·exact (hs vb h.ne2.symm).trans ((hk vb (Or.inr (Or.inr (Or.inl rfl)))).trans h2.vals)
 ·have hkw : k ≠ wb := e.elim (fun e => e ▸ h.ne1.symm) (fun e => (h.ls k e).2.1)
  exact (hs k hkw).trans (hk k (e.elim (fun e => Or.inr (Or.inl e)) (fun e => Or.inr (Or.inr (Or.inr e)))))
 ·rw [List.length_append, intsG_snoc]
  exact own_same ho (fun b e => hs b ((show g = b from by simpa [Value.ownBlock] using e) ▸ hne.2.1))
 ·have : g = b := by simpa [Value.ownBlock] using e
  rw [← this]; exact hne
 ·refine ⟨(by show W.os = _; exact hg.os.trans hZ.os), (by show W.tape = _; exact hg.tape.trans hZ.tape), (by show W.output = _; exact hg.output.trans hZ.output), by rw [hsz]; exact Nat.le_trans hZ.size hg.size, fun k hk' hn => ?_⟩
  have n1 : k ≠ wb := fun e => hn (Or.inl e)
  exact (hs k n1).trans ((hg.block k (Nat.lt_of_lt_of_le hk' hZ.size) (fun e => hn (Or.inr e.symm))).trans (hZ.block k hk'))
end
end Go.Proofs.YtmckajgacfjnhaaGreatDoor
