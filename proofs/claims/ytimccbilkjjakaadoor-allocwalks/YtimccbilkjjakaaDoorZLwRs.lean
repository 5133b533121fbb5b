/- Our own: texts joined: AlLwJ, AlRunS. -/
import Derived.Test.YtimccbilkjjakaaDoorZWkDo
import Derived.Test.YtimccbilkjjakaaDoorZDoneAll
import Derived.Test.YtimccbilkjjakaaDoorZFitAll
import Derived.Test.YtimccbilkjjakaaDoorZSetS
import Derived.Test.YtimccbilkjjakaaDoorZBase
import Derived.Test.YtimccbilkjjakaaDoorZTools
import Derived.Test.YtimccbilkjjakaaDoorZAppAll
namespace Go.Proofs.YtimccbilkjjakaaDoor
open Go.RowKit
abbrev dnZA : Array Value := #[.string ⟨#[]⟩, .int .i64 0, .slice none 0 0, .int .i64 0, .slice none 0 0]
def DoneA (n0 : Nat) (w : World) (v : Value) (st : Rst) : Prop := ∃ outv callv xs, v = .agg (dnV st.how st.val st.tks outv callv).toArray ∧ XRow (fun b => n0 ≤ b ∧ b < w.heap.size) w outv st.out.length (intsG st.out) ∧ XRow (fun b => n0 ≤ b ∧ b < w.heap.size) w callv st.calls.length xs ∧ XCs (fun b => n0 ≤ b ∧ b < w.heap.size) w st.calls xs
theorem doneA_of {S : Nat → Prop} {X Y : World} {rb n0 : Nat} {s : Rst} {outv callv : Value} {xs : List Value} (h : DnJ S X rb s outv callv xs) (hf : ∀ k, S k → Y.heap[k]? = X.heap[k]?) (hz : Y.heap.size = X.heap.size) (hn : ∀ k, S k → n0 ≤ k) : DoneA n0 Y (.agg (dnV s.how s.val s.tks outv callv).toArray) s := by
 have hsz : ∀ b, S b → n0 ≤ b ∧ b < Y.heap.size := fun b hb => ⟨hn b hb, by rw [hz]; exact (h.sl b hb).1⟩
 have hrow : ∀ {t : TypeId} {size n : Nat} {v : Value} {ys : List Value}, X.ownsRow 0 t size v n ys → (∀ b, v.ownBlock = some b → S b) → XRow (fun b => n0 ≤ b ∧ b < Y.heap.size) Y v n ys := fun {t size n v ys} ho hs => by
  obtain ⟨ad, cap, rfl⟩ := own_is ho
  have h1 := xrow_own (own_same (w' := Y) ho (fun b e => hf b (hs b e)))
  refine ⟨ad, cap, rfl, fun hn0 => ?_⟩
  obtain ⟨g, off, e, _, _, hc⟩ := h1.get hn0
  subst e
  exact ⟨g, off, rfl, hsz g (hs g rfl), hc⟩
 exact ⟨outv, callv, xs, rfl, hrow h.out h.outS, hrow h.call h.callS, h.tel.imp (fun b hb => hsz b hb.1) (fun b hb => hf b hb.1)⟩
section
variable {S : Nat → Prop} {X Y : World} {rb : Nat} {s : Rst} {outv callv : Value} {xs : List Value}
theorem DnJ.calledV (h : DnJ S X rb s outv callv xs) {Z W4 : World} {v' av : Value} {nm : List UInt8} {vs : List Int} (hZ : Below X.heap.size X Z) (hg : Z.grownBy W4 callv.ownBlock) (ho : W4.ownsRow 0 74 2 v' (s.calls.length + 1) (xs ++ [.string ⟨nm.toArray⟩, av])) {V : Nat → Prop} (hV : ∀ b, V b → b < Z.heap.size ∧ b ≠ rb ∧ ¬ S b) (hav : XRow V Z av vs.length (intsG vs)) (hv : v'.ownBlock = callv.ownBlock ∨ ∃ b, v'.ownBlock = some b ∧ Z.heap.size ≤ b) :
  (∀ b, b < X.heap.size → ¬ S b → W4.heap[b]? = X.heap[b]?) ∧ ∃ S', (∀ b, S' b → S b ∨ V b ∨ X.heap.size ≤ b) ∧ ∃ outv callv xs, DnJ S' (W4.setCell ⟨rb, 4, none⟩ v') rb { s with calls := s.calls ++ [(nm, vs)] } outv callv xs := by
 have zz := hg.size
 have z1 := hZ.size
 have zz' : X.heap.size ≤ W4.heap.size := Nat.le_trans hZ.size zz
 have hrl := h.rl
 have key : ∀ b, b < X.heap.size → callv.ownBlock ≠ some b → W4.heap[b]? = X.heap[b]? := fun b hb hne =>
  (hg.block b (Nat.lt_of_lt_of_le hb hZ.size) (fun e => hne e.symm)).trans (hZ.block b hb)
 have hrb : W4.heap[rb]? = X.heap[rb]? := key rb hrl (fun e => (h.sl rb (h.callS rb e)).2 rfl)
 have hfar : ∀ b, b ≠ rb → (W4.setCell ⟨rb, 4, none⟩ v').heap[b]? = W4.heap[b]? := fun b hb => Below.heap_setCell _ _ _ _ hb
 have hsz : (W4.setCell ⟨rb, 4, none⟩ v').heap.size = W4.heap.size := by simp [World.setCell]
 have hne : ∀ b, b < Z.heap.size → callv.ownBlock ≠ some b → v'.ownBlock ≠ some b := fun b hl hn e => by
  rcases hv with hv | ⟨c, hv, hc⟩
  ·rw [hv] at e; exact hn e
  ·rw [hv] at e; injection e with e; omega
 have hvr : ∀ b, v'.ownBlock = some b → b ≠ rb := fun b e er => by
  subst er
  exact hne _ (by omega) (fun e => (h.sl _ (h.callS _ e)).2 rfl) e
 have hvl : ∀ b, v'.ownBlock = some b → b < W4.heap.size := fun b e => (ho.lt b e).2
 have hcl : ∀ b, callv.ownBlock = some b → b < X.heap.size := fun b e => (h.sl b (h.callS b e)).1
 have hol : ∀ b, outv.ownBlock = some b → b < X.heap.size := fun b e => (h.sl b (h.outS b e)).1
 refine ⟨fun b hb hS => key b hb (fun e => hS (h.callS b e)), ⟨fun b => S b ∨ v'.ownBlock = some b ∨ V b, fun b e => ?_, outv, v', _, ?_, ?_, fun b e => Or.inl (h.outS b e), (by show World.ownsRow _ 0 _ 2 v' (s.calls ++ [(nm, vs)]).length _; rw [List.length_append]; exact own_same ho (fun b hb => hfar b (hvr b hb))), fun b e => Or.inr (Or.inl e), ?_, fun b e e2 => ?_, fun b e => ?_⟩⟩
 ·rcases e with e | e | e
  ·exact Or.inl e
  ·rcases hv with hv | ⟨c, hv, hc⟩
   ·rw [hv] at e; exact Or.inl (h.callS b e)
   ·rw [hv] at e; injection e with e; subst e; exact Or.inr (Or.inr (by omega))
  ·exact Or.inr (Or.inl e)
 ·have := blk_setCell (hrb.trans h.blk) 4 v'
  simpa using this
 ·exact own_same h.out (fun b e => by
   have hsl := h.sl b (h.outS b e)
   rw [hfar b hsl.2]
   exact key b hsl.1 (fun e2 => h.apart b e e2))
 ·refine XCs.snoc (h.tel.imp (fun b e => ⟨Or.inl e.1, hne b (by have := (h.sl b e.1).1; omega) e.2.1, e.2.2⟩) (fun b e => by
   rw [hfar b (h.sl b e.1).2]
   exact key b (h.sl b e.1).1 e.2.1)) ⟨av, rfl, hav.imp (fun b e => ⟨Or.inr (Or.inr e), hne b (hV b e).1 (fun e2 => (hV b e).2.2 (h.callS b e2)), fun e2 => (hV b e).2.2 (h.outS b e2)⟩) (fun b e => by
   rw [hfar b (hV b e).2.1]
   exact hg.block b (hV b e).1 (fun e2 => (hV b e).2.2 (h.callS b e2.symm)))⟩
 ·exact hne b (by have := hol b e; omega) (fun e3 => h.apart b e e3) e2
 ·rw [hsz]
  rcases e with e | e | e
  ·have := h.sl b e; exact ⟨by omega, this.2⟩
  ·exact ⟨hvl b e, hvr b e⟩
  ·exact ⟨by have := (hV b e).1; omega, (hV b e).2.1⟩
end
structure LwJ (K : Nat → Prop) (w : World) (cv : Array Value) (X : World) (cb rs rg zb nb db : Nat) (s : Rst) (r : Ra) : Prop where
 low : Below w.heap.size w X
 ord : w.heap.size ≤ cb ∧ cb < rs ∧ rs < rg ∧ rg < zb ∧ zb < db
 code : X.heap[cb]? = some (.cells cv 24 (0, 0))
 res : X.heap[rs]? = some (.cells dnZA 42 (0, 0))
 reg : X.heap[rg]? = some (.cells (intsG r.regs).toArray 3 (0, 0))
 slt : X.heap[zb]? = some (.cells (intsG r.slots).toArray 3 (0, 0))
 nxt : X.heap[nb]? = some (.cells (intsG r.next).toArray 3 (0, 0))
 nbl : zb < nb ∧ nb ≠ db
 dn : ∃ S outv callv xs, DnJ S X db s outv callv xs ∧ ∀ b, S b → db < b ∧ b ≠ nb ∧ ¬ K b
 kn : ¬ K nb
 kl : ∀ k, K k → db < k ∧ k < X.heap.size
 rl : r.regs.length = 8
 nl : r.next.length = 4
 zl : r.slots.length ≤ 1000
section
variable {K : Nat → Prop} {w : World} {cv : Array Value} {X Y : World} {cb rs rg zb nb db : Nat} {s : Rst} {r : Ra}
theorem LwJ.dl (h : LwJ K w cv X cb rs rg zb nb db s r) : db < X.heap.size := by
 obtain ⟨S, o, c, xs, hd, _⟩ := h.dn
 exact hd.rl
theorem LwJ.nz (h : LwJ K w cv X cb rs rg zb nb db s r) : nb < X.heap.size := heap_lt h.nxt
theorem LwJ.below (h : LwJ K w cv X cb rs rg zb nb db s r) (hb : Below X.heap.size X Y) : LwJ K w cv Y cb rs rg zb nb db s r := by
 obtain ⟨S, o, c, xs, hd, hs⟩ := h.dn
 exact ⟨bl_trans h.low h.low.size hb, h.ord, (hb.block _ (heap_lt h.code)).trans h.code, (hb.block _ (heap_lt h.res)).trans h.res, (hb.block _ (heap_lt h.reg)).trans h.reg, (hb.block _ (heap_lt h.slt)).trans h.slt, (hb.block _ (heap_lt h.nxt)).trans h.nxt, h.nbl, ⟨S, o, c, xs, hd.keep hb.size (fun k hk => hb.block k (hk.elim (fun e => e ▸ hd.rl) (fun e => (hd.sl k e).1))), hs⟩, h.kn, fun k hk => ⟨(h.kl k hk).1, Nat.lt_of_lt_of_le (h.kl k hk).2 hb.size⟩, h.rl, h.nl, h.zl⟩
theorem LwJ.drewA (h : LwJ K w cv X cb rs rg zb nb db s r) : LwJ K w cv X.drew cb rs rg zb nb db s r := h.below (by (repeat (first | exact Below.refl _ _ | assumption | refine Below.drew ?_ | refine bT ?_ _ | refine bS ?_ _ | refine bA ?_ _)))
theorem LwJ.more (h : LwJ K w cv X cb rs rg zb nb db s r) (hb : Below X.heap.size X Y) (hz : X.heap.size < Y.heap.size) : LwJ (fun k => K k ∨ k = X.heap.size) w cv Y cb rs rg zb nb db s r := by
 have h2 := h.below hb
 have hdl := h.dl
 have hnz := h.nz
 obtain ⟨S, o, c, xs, hd, hs⟩ := h.dn
 exact ⟨h2.low, h.ord, h2.code, h2.res, h2.reg, h2.slt, h2.nxt, h.nbl, ⟨S, o, c, xs, hd.keep hb.size (fun k hk => hb.block k (hk.elim (fun e => e ▸ hd.rl) (fun e => (hd.sl k e).1))), fun b e => ⟨(hs b e).1, (hs b e).2.1, fun e2 => e2.elim (hs b e).2.2 (fun e2 => by have := (hd.sl b e).1; omega)⟩⟩, fun e => e.elim h.kn (fun e => by omega), fun k hk => hk.elim (fun e => h2.kl k e) (fun e => by omega), h.rl, h.nl, h.zl⟩
theorem LwJ.less {K' : Nat → Prop} (h : LwJ K w cv X cb rs rg zb nb db s r) (hK : ∀ k, K' k → K k) : LwJ K' w cv X cb rs rg zb nb db s r := by
 obtain ⟨S, o, c, xs, hd, hs⟩ := h.dn
 exact ⟨h.low, h.ord, h.code, h.res, h.reg, h.slt, h.nxt, h.nbl, ⟨S, o, c, xs, hd, fun b e => ⟨(hs b e).1, (hs b e).2.1, fun e2 => (hs b e).2.2 (hK b e2)⟩⟩, fun e => h.kn (hK _ e), fun k hk => h.kl k (hK k hk), h.rl, h.nl, h.zl⟩
theorem LwJ.turn (h : LwJ K w cv X cb rs rg zb nb db s r) {r' : Ra} {b i : Nat} {u : Value} (hb : b = rg ∨ b = zb ∨ b = nb) (h1 : (X.setCell ⟨b, i, none⟩ u).heap[rg]? = some (.cells (intsG r'.regs).toArray 3 (0, 0))) (h2 : (X.setCell ⟨b, i, none⟩ u).heap[zb]? = some (.cells (intsG r'.slots).toArray 3 (0, 0))) (h3 : (X.setCell ⟨b, i, none⟩ u).heap[nb]? = some (.cells (intsG r'.next).toArray 3 (0, 0))) (rl : r'.regs.length = 8) (nl : r'.next.length = 4) (zl : r'.slots.length ≤ 1000) :
  LwJ K w cv (X.setCell ⟨b, i, none⟩ u) cb rs rg zb nb db s r' ∧ KeepA K X (X.setCell ⟨b, i, none⟩ u) := by
 have ho := h.ord
 have hn := h.nbl
 have hbd : w.heap.size ≤ b ∧ b ≠ cb ∧ b ≠ rs ∧ b ≠ db ∧ ¬ K b := by
  rcases hb with rfl | rfl | rfl
  ·exact ⟨by omega, by omega, by omega, by omega, fun e => by have := (h.kl _ e).1; omega⟩
  ·exact ⟨by omega, by omega, by omega, by omega, fun e => by have := (h.kl _ e).1; omega⟩
  ·exact ⟨by omega, by omega, by omega, by omega, h.kn⟩
 have kk : ∀ k, k ≠ b → (X.setCell ⟨b, i, none⟩ u).heap[k]? = X.heap[k]? := fun k hk => Below.heap_setCell _ _ _ _ hk
 have hz : (X.setCell ⟨b, i, none⟩ u).heap.size = X.heap.size := by simp [World.setCell]
 obtain ⟨S, o, c, xs, hd, hs⟩ := h.dn
 have hsb : ∀ k, S k → k ≠ b := fun k e => by
  have := hs k e
  rcases hb with rfl | rfl | rfl <;> omega
 refine ⟨⟨h.low.setCell (p := ⟨b, i, none⟩) (by exact hbd.1) u, h.ord, (kk _ (by omega)).trans h.code, (kk _ (by omega)).trans h.res, h1, h2, h3, hn, ⟨S, o, c, xs, hd.keep (by rw [hz]; exact Nat.le_refl _) (fun k hk => kk k (hk.elim (fun e => by omega) (hsb k))), hs⟩, h.kn, fun k hk => by rw [hz]; exact h.kl k hk, rl, nl, zl⟩, fun k hk => kk k (fun e => hbd.2.2.2.2 (e ▸ hk))⟩
theorem LwJ.put (h : LwJ K w cv X cb rs rg zb nb db s r) (k : Nat) (v : Int) : LwJ K w cv (X.setCell ⟨rg, k, none⟩ (.int .i64 v)) cb rs rg zb nb db s (r.put k v) ∧ KeepA K X (X.setCell ⟨rg, k, none⟩ (.int .i64 v)) := by
 have ho := h.ord
 have hn := h.nbl
 refine h.turn (Or.inl rfl) ?_ ?_ ?_ (by unfold Ra.put; simp [h.rl]) h.nl h.zl
 ·rw [blk_setCell h.reg, List.setIfInBounds_toArray]; unfold Ra.put; rw [intsG_put]
 ·exact (Below.heap_setCell _ _ _ _ (show zb ≠ rg by omega)).trans h.slt
 ·exact (Below.heap_setCell _ _ _ _ (show nb ≠ rg by omega)).trans h.nxt
theorem LwJ.keepS (h : LwJ K w cv X cb rs rg zb nb db s r) (k : Nat) (v : Int) : LwJ K w cv (X.setCell ⟨zb, k, none⟩ (.int .i64 v)) cb rs rg zb nb db s { r with slots := r.slots.set k v } ∧ KeepA K X (X.setCell ⟨zb, k, none⟩ (.int .i64 v)) := by
 have ho := h.ord
 have hn := h.nbl
 refine h.turn (Or.inr (Or.inl rfl)) ?_ ?_ ?_ h.rl h.nl (by simpa using h.zl)
 ·exact (Below.heap_setCell _ _ _ _ (show rg ≠ zb by omega)).trans h.reg
 ·rw [blk_setCell h.slt, List.setIfInBounds_toArray, intsG_put]
 ·exact (Below.heap_setCell _ _ _ _ (show nb ≠ zb by omega)).trans h.nxt
theorem LwJ.told (h : LwJ K w cv X cb rs rg zb nb db s r) (k : Nat) (v : Int) : LwJ K w cv (X.setCell ⟨nb, k, none⟩ (.int .i64 v)) cb rs rg zb nb db s { r with next := r.next.set k v } ∧ KeepA K X (X.setCell ⟨nb, k, none⟩ (.int .i64 v)) := by
 have ho := h.ord
 have hn := h.nbl
 refine h.turn (Or.inr (Or.inr rfl)) ?_ ?_ ?_ h.rl (by simp [h.nl]) h.zl
 ·exact (Below.heap_setCell _ _ _ _ (show rg ≠ nb by omega)).trans h.reg
 ·exact (Below.heap_setCell _ _ _ _ (show zb ≠ nb by omega)).trans h.slt
 ·rw [blk_setCell h.nxt, List.setIfInBounds_toArray, intsG_put]
theorem LwJ.again (h : LwJ K w cv X cb rs rg zb nb db s r) {s' : Rst} {S S' : Nat → Prop} {o c o' c' : Value} {xs xs' : List Value} (_hd : DnJ S X db s o c xs) (hs : ∀ b, S b → db < b ∧ b ≠ nb ∧ ¬ K b) (hos : Y.os = X.os) (hta : Y.tape = X.tape) (hou : Y.output = X.output) (hz : X.heap.size ≤ Y.heap.size) (hb : ∀ b, b < X.heap.size → b ≠ db → ¬ S b → Y.heap[b]? = X.heap[b]?) (hd' : DnJ S' Y db s' o' c' xs') (hs' : ∀ b, S' b → S b ∨ db < b ∧ b ≠ nb ∧ ¬ K b) : LwJ K w cv Y cb rs rg zb nb db s' r ∧ KeepA K X Y := by
 have ho := h.ord
 have hn := h.nbl
 have hdl := h.dl
 have hnz := h.nz
 have kk : ∀ b, b < db → Y.heap[b]? = X.heap[b]? := fun b h1 => hb b (by omega) (by omega) (fun e => by have := (hs b e).1; omega)
 refine ⟨⟨⟨hos.trans h.low.os, hta.trans h.low.tape, hou.trans h.low.output, Nat.le_trans h.low.size hz, fun k hk => (kk k (by omega)).trans (h.low.block k hk)⟩, h.ord, (kk _ (by omega)).trans h.code, (kk _ (by omega)).trans h.res, (kk _ (by omega)).trans h.reg, (kk _ (by omega)).trans h.slt, (hb nb hnz hn.2 (fun e => (hs nb e).2.1 rfl)).trans h.nxt, hn, ⟨S', o', c', xs', hd', fun b e => (hs' b e).elim (fun e => hs b e) id⟩, h.kn, fun k hk => ⟨(h.kl k hk).1, Nat.lt_of_lt_of_le (h.kl k hk).2 hz⟩, h.rl, h.nl, h.zl⟩, fun k hk => hb k (h.kl k hk).2 (by have := (h.kl k hk).1; omega) (fun e => (hs k e).2.2 hk)⟩
theorem LwJ.field (h : LwJ K w cv X cb rs rg zb nb db s r) {s' : Rst} {S : Nat → Prop} {o c : Value} {xs : List Value} (hd : DnJ S X db s o c xs) (hs : ∀ b, S b → db < b ∧ b ≠ nb ∧ ¬ K b) (ho : s'.out = s.out) (hc : s'.calls = s.calls) (i : Nat) (u : Value) (hk : (dnV s.how s.val s.tks o c).set i u = dnV s'.how s'.val s'.tks o c) : LwJ K w cv (X.setCell ⟨db, i, none⟩ u) cb rs rg zb nb db s' r ∧ KeepA K X (X.setCell ⟨db, i, none⟩ u) :=
 h.again hd hs rfl rfl rfl (by simp [World.setCell]) (fun b _ hn _ => Below.heap_setCell _ _ _ _ hn) (hd.set ho hc i u hk) (fun _ e => Or.inl e)
theorem LwJ.renew (h : LwJ K w cv X cb rs rg zb nb db s r) (hb : Below X.heap.size X Y) {m : Nat} (hm : X.heap.size ≤ m) (hx : Y.heap[m]? = some (.cells (intsG (List.replicate 4 0)).toArray 3 (0, 0))) : LwJ K w cv Y cb rs rg zb m db s { r with next := List.replicate 4 0 } ∧ KeepA K X Y := by
 have h2 := h.below hb
 have hdl := h.dl
 have ho := h.ord
 obtain ⟨S, o, c, xs, hd, hs⟩ := h.dn
 refine ⟨⟨h2.low, h.ord, h2.code, h2.res, h2.reg, h2.slt, hx, by omega, ⟨S, o, c, xs, hd.keep hb.size (fun k hk => hb.block k (hk.elim (fun e => e ▸ hd.rl) (fun e => (hd.sl k e).1))), fun b e => ⟨(hs b e).1, by have := (hd.sl b e).1; omega, (hs b e).2.2⟩⟩, fun e => by have := (h.kl m e).2; omega, h2.kl, h.rl, rfl, h.zl⟩, fun k hk => hb.block k (h.kl k hk).2⟩
theorem runA_fin {Z : World} {S : Nat → Prop} {o c : Value} {xs : List Value} (h : LwJ K w cv Z cb rs rg zb nb db s r) (hd : DnJ S Z db s o c xs) (hs : ∀ b, S b → db < b ∧ b ≠ nb ∧ ¬ K b) :
  Below w.heap.size w (((((Z.setCell ⟨rs, 0, none⟩ (.string ⟨s.how.toArray⟩)).setCell ⟨rs, 1, none⟩ (.int .i64 s.val)).setCell ⟨rs, 2, none⟩ o).setCell ⟨rs, 3, none⟩ (.int .i64 s.tks)).setCell ⟨rs, 4, none⟩ c) ∧
  (((((Z.setCell ⟨rs, 0, none⟩ (.string ⟨s.how.toArray⟩)).setCell ⟨rs, 1, none⟩ (.int .i64 s.val)).setCell ⟨rs, 2, none⟩ o).setCell ⟨rs, 3, none⟩ (.int .i64 s.tks)).setCell ⟨rs, 4, none⟩ c).heap[rs]? = some (.cells #[.string ⟨s.how.toArray⟩, .int .i64 s.val, o, .int .i64 s.tks, c] 42 (0, 0)) ∧
  DoneA w.heap.size (((((Z.setCell ⟨rs, 0, none⟩ (.string ⟨s.how.toArray⟩)).setCell ⟨rs, 1, none⟩ (.int .i64 s.val)).setCell ⟨rs, 2, none⟩ o).setCell ⟨rs, 3, none⟩ (.int .i64 s.tks)).setCell ⟨rs, 4, none⟩ c) (.agg (dnV s.how s.val s.tks o c).toArray) s := by
 have ho := h.ord
 have hle : w.heap.size ≤ rs := by omega
 refine ⟨((((h.low.setCell (by exact hle) _).setCell (by exact hle) _).setCell (by exact hle) _).setCell (by exact hle) _).setCell (by exact hle) _, set5_blk h.res _ _ _ _ _, doneA_of hd (fun k hk => ?_) (by simp [World.setCell]) (fun k hk => by have := (hs k hk).1; omega)⟩
 have hn : k ≠ rs := by have := (hs k hk).1; omega
 rw [Below.heap_setCell _ _ _ _ hn, Below.heap_setCell _ _ _ _ hn, Below.heap_setCell _ _ _ _ hn, Below.heap_setCell _ _ _ _ hn, Below.heap_setCell _ _ _ _ hn]
end
structure R64 (r : Ra) : Prop where
 reg : ∀ v ∈ r.regs, In64 v
 slt : ∀ v ∈ r.slots, In64 v
end Go.Proofs.YtimccbilkjjakaaDoor
namespace Go.Proofs.YtimccbilkjjakaaDoor
open Go.RowKit
noncomputable def ralC : Code := ((Tryd.f11.body.bind (blockOf 4)).getD .skip)
end Go.Proofs.YtimccbilkjjakaaDoor
