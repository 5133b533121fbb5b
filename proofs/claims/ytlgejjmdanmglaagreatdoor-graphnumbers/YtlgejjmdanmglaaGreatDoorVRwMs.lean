/- Our own: texts joined: GrFew, RwMath, RwGot, RwPhi. -/
import Derived.Test.YtlgejjmdanmglaaGreatDoorVGMath
import Derived.Test.YtlgejjmdanmglaaGreatDoorVStepAll
import Derived.Test.YtlgejjmdanmglaaGreatDoorVRwVal
import Derived.Test.YtlgejjmdanmglaaGreatDoorVDoneAll
import Derived.Test.YtlgejjmdanmglaaGreatDoorVNewFl
import Derived.Test.YtlgejjmdanmglaaGreatDoorVFolAll
namespace Go.Proofs.YtlgejjmdanmglaaGreatDoor
section
variable {ones twos : List (List UInt8)} {Q : Int} {L : List Nd}
theorem tak_few (hW : WellG ones twos Q L) {a : Nat} (ha : a < L.length) : (takL L a).length ≤ 2 := by
 by_cases h1 : isWay (ndAt L a).kind
 ·rw [way_len hW ha h1]; decide
 ·by_cases h2 : (ndAt L a).kind = gIf
  ·have h3 := hW.tak a ha
   rw [← tkR_is hW.node] at h3
   unfold tkR at h3
   rw [if_neg (fun h => h1 h.1), h2] at h3
   rw [if_pos rfl] at h3
   rcases Nat.lt_or_ge 2 (takL L a).length with h4 | h4
   ·rw [if_pos (by omega)] at h3; cases h3
   ·exact h4
  ·rcases Nat.eq_zero_or_pos (takL L a).length with h3 | h3
   ·omega
   ·exfalso
    have hm : (takL L a)[0] ∈ takL L a := List.getElem_mem h3
    obtain ⟨k, hs⟩ := mem_spot hm
    have := spot_kind hW hs
    split at this
    ·exact h2 this
    ·exact h1 this
theorem ways_ins (hW : WellG ones twos Q L) : ∀ n ∈ L, waysN n ≤ n.ins.length := by
 intro n hn
 obtain ⟨i, hi⟩ := List.mem_iff_getElem?.1 hn
 obtain ⟨f1, f2, f3, f4, f5, f6, f7, f8, f9, f10, f11, f12, f13, f14⟩ := fits_len (hW.node.at hi).fits
 unfold waysN
 split
 ·exact Nat.le_refl _
 ·split
  ·next h =>
   rcases h with h | h | h | h | h | h | h
   ·have := f8 h; omega
   ·have := f12 h; omega
   ·have := f14 h; omega
   ·have := f13 h; omega
   ·have := f11 h; omega
   ·have := f9 h; omega
   ·have := f10 h; omega
  ·omega
end
end Go.Proofs.YtlgejjmdanmglaaGreatDoor
namespace Go.Proofs.YtlgejjmdanmglaaGreatDoor
open Go.RowKit
section
variable {ones twos : List (List UInt8)} {Q : Int} {L : List Nd}
theorem one_list {α : Type} {l : List α} {x : α} (hl : l.length = 1) (hx : x ∈ l) : l = [x] := by
 match l, hl with
 | [y], _ => rw [List.mem_singleton.1 hx]
theorem tak_is (hW : WellG ones twos Q L) {x : Nat} (hx : x < L.length) (hw : isWay (ndAt L x).kind) : takL L x = [(tkAt L x).1] := one_list (way_len hW hx hw) (spot_mem (tkAt_spot hW hx hw))
theorem way_first (hW : WellG ones twos Q L) {x j k : Nat} (hx : x < L.length) (hw : isWay (ndAt L x).kind) (hs : Spot L x j k) {m : Nat} (hm : m < k) : (ndAt L j).ins[m]? ≠ some (x : Int) := by
 intro h
 obtain ⟨n, h1, h2, h3⟩ := hs
 rw [ndAt_of h1] at h
 have hs' : Spot L x j m := ⟨n, h1, by omega, h⟩
 have := (spot_one (way_len hW hx hw) hs' ⟨n, h1, h2, h3⟩).2
 omega
theorem if_two (hW : WellG ones twos Q L) {j : Nat} (hj : j < L.length) (hk : (ndAt L j).kind = gIf) : ∃ a b : Nat, takL L j = [a, b] ∧ a < L.length ∧ b < L.length ∧ ((a = (ysI gYes L L.length).getD j 0 ∧ b = (ysI gNo L L.length).getD j 0 ∧ (ndAt L a).kind = gYes ∧ (ndAt L b).kind = gNo) ∨ (a = (ysI gNo L L.length).getD j 0 ∧ b = (ysI gYes L L.length).getD j 0 ∧ (ndAt L a).kind = gNo ∧ (ndAt L b).kind = gYes)) := by
 have h1 := (ys_is hW (Or.inl rfl) hj hk _).2 rfl
 have h2 := (ys_is hW (Or.inr rfl) hj hk _).2 rfl
 have hf := tak_few hW hj
 have t1 := tk_lt h1.1
 have t2 := tk_lt h2.1
 generalize (ysI gYes L L.length).getD j 0 = y at *
 generalize (ysI gNo L L.length).getD j 0 = z at *
 have hne : y ≠ z := fun e => by
  rw [e] at h1
  rw [h2.2] at h1
  exact absurd h1.2 (by decide)
 match hl : takL L j, hf, h1.1, h2.1 with
 | [], _, h, _ => cases h
 | [a], _, h, h' =>
  rw [List.mem_singleton] at h h'
  exact absurd (h.trans h'.symm) hne
 | [a, b], _, h, h' =>
  simp only [List.mem_cons, List.not_mem_nil, or_false] at h h'
  rcases h with rfl | rfl
  ·rcases h' with e | rfl
   ·exact absurd e.symm hne
   ·exact ⟨_, _, rfl, t1, t2, Or.inl ⟨rfl, rfl, h1.2, h2.2⟩⟩
  ·rcases h' with rfl | e
   ·exact ⟨_, _, rfl, t2, t1, Or.inr ⟨rfl, rfl, h2.2, h1.2⟩⟩
   ·exact absurd e.symm hne
 | _ :: _ :: _ :: _, h, _, _ => simp at h
end
def hLong : List UInt8 := [108, 111, 110, 103]
noncomputable def walkL (L : List Nd) (args ans : List Int) (most : Int) : Nat → Nat → Rst → (Nat → Option Int) → Rst
 | 0, _, st, _ => { st with how := hLong }
 | n + 1, way, st, got => let r := stepW L args ans most (tkAt L way).1 (tkAt L way).2 st got; if r.1.how ≠ [] then r.1 else walkL L args ans most n r.2.2 r.1 r.2.1
theorem walk_same (L : List Nd) (args ans : List Int) (most : Int) : ∀ (m n way : Nat) (st : Rst) (got : Nat → Option Int), m ≤ n → (walkL L args ans most m way st got).how ≠ hLong → walkW L args ans most n way st got = walkL L args ans most m way st got
 | 0, _, _, _, _, _, h => absurd rfl h
 | m + 1, 0, _, _, _, hn, _ => absurd hn (by omega)
 | m + 1, n + 1, way, st, got, hn, h => by
  unfold walkL at h ⊢
  unfold walkW
  dsimp only at h ⊢
  split
  ·rfl
  ·next hc =>
   rw [if_neg hc] at h
   exact walk_same L args ans most m n _ _ _ (by omega) h
end Go.Proofs.YtlgejjmdanmglaaGreatDoor
namespace Go.Proofs.YtlgejjmdanmglaaGreatDoor
open Go.RowKit
theorem askX_snoc {res : Nat → Option Int} : ∀ {l : List Nat} {vs : List Int} {i : Nat} {v : Int}, askX res l = some vs → res i = some v → askX res (l ++ [i]) = some (vs ++ [v])
 | [], vs, i, v, h, hv => by
  have : vs = [] := by simpa [askX] using h.symm
  subst this
  simp [askX, hv]
 | j :: l, vs, i, v, h, hv => by
  unfold askX at h
  split at h
  ·next a b h1 h2 =>
   injection h with h
   subst h
   have := askX_snoc (l := l) h2 hv
   show askX res (j :: (l ++ [i])) = _
   unfold askX
   rw [h1, this]
   rfl
  ·cases h
theorem askX_mem_none {res : Nat → Option Int} {l : List Nat} {i : Nat} (hi : i ∈ l) (h : res i = none) : askX res l = none := by
 obtain ⟨k, hk, rfl⟩ := List.mem_iff_getElem.1 hi
 exact askX_none hk h
structure RwK (A : Nat → Prop) (B : Nat) (X : World) (wb ga ha sa ka : Nat) (nm : List UInt8) (P : Int) (nv argv : Value) (L : List Nd) (args : List Int) (got : Nat → Option Int) : Prop where
 blk : X.heap[wb]? = some (.cells (rwV nm P nv argv (rowV ga L.length) (rowV ha L.length) (rowV sa L.length) (rowV ka L.length)).toArray 84 (0, 0))
 gr : XG false A X nv L
 arg : XRow A X argv args.length (intsG args)
 gots : ∃ (gs : List Int) (hs : List Bool), X.heap[ga]? = some (.cells (intsG gs).toArray 3 (0, 0)) ∧ X.heap[ha]? = some (.cells (boolsG hs).toArray 4 (0, 0)) ∧ gs.length = L.length ∧ hs.length = L.length ∧ ∀ i, i < L.length → keeps L i → got i = if hs.getD i false then some (gs.getD i 0) else none
 sums : ∃ (ss : List Int) (ks : List Bool), X.heap[sa]? = some (.cells (intsG ss).toArray 3 (0, 0)) ∧ X.heap[ka]? = some (.cells (boolsG ks).toArray 4 (0, 0)) ∧ ss.length = L.length ∧ ks.length = L.length
 ab : ∀ b, A b → b < B ∧ b ≠ wb ∧ b ≠ ga ∧ b ≠ ha ∧ b ≠ sa ∧ b ≠ ka
 lo : wb < B ∧ ga < B ∧ ha < B ∧ sa < B ∧ ka < B ∧ wb ≠ ga ∧ wb ≠ ha ∧ wb ≠ sa ∧ wb ≠ ka ∧ ga ≠ ha ∧ ga ≠ sa ∧ ga ≠ ka ∧ ha ≠ sa ∧ ha ≠ ka ∧ sa ≠ ka
section
variable {A : Nat → Prop} {B : Nat} {X Y : World} {wb ga ha sa ka : Nat} {nm : List UInt8} {P Q : Int} {nv argv : Value} {L : List Nd} {args : List Int} {got : Nat → Option Int}
theorem RwJ.toK (h : RwJ A B X wb ga ha sa ka nm P nv argv L args got) : RwK A B X wb ga ha sa ka nm P nv argv L args got := by
 obtain ⟨ss, ks, s1, s2, s3, s4, _⟩ := h.sums
 exact ⟨h.blk, h.gr, h.arg, h.gots, ⟨ss, ks, s1, s2, s3, s4⟩, h.ab, h.lo⟩
theorem RwK.keep (h : RwK A B X wb ga ha sa ka nm P nv argv L args got) (hb : ∀ k, k < B → Y.heap[k]? = X.heap[k]?) : RwK A B Y wb ga ha sa ka nm P nv argv L args got := by
 have hl := h.lo
 obtain ⟨gs, hs, g1, g2, g3⟩ := h.gots
 obtain ⟨ss, ks, s1, s2, s3⟩ := h.sums
 exact ⟨(hb _ (by omega)).trans h.blk, h.gr.imp (fun _ h => h) (fun b hb' => hb b (h.ab b hb').1), h.arg.imp (fun _ h => h) (fun b hb' => hb b (h.ab b hb').1), ⟨gs, hs, (hb _ (by omega)).trans g1, (hb _ (by omega)).trans g2, g3⟩, ⟨ss, ks, (hb _ (by omega)).trans s1, (hb _ (by omega)).trans s2, s3⟩, h.ab, h.lo⟩
theorem RwK.put (h : RwK A B X wb ga ha sa ka nm P nv argv L args got) (i : Nat) (v : Int) : RwK A B ((X.setCell ⟨ga, i, none⟩ (.int .i64 v)).setCell ⟨ha, i, none⟩ (.bool true)) wb ga ha sa ka nm P nv argv L args (setV got (i, v)) ∧ ButP (fun k => k = ga ∨ k = ha) X ((X.setCell ⟨ga, i, none⟩ (.int .i64 v)).setCell ⟨ha, i, none⟩ (.bool true)) := by
 have hl := h.lo
 obtain ⟨gs, hs, g1, g2, g3, g4, g5⟩ := h.gots
 obtain ⟨ss, ks, s1, s2, s3⟩ := h.sums
 have hf : ∀ b, b ≠ ga → b ≠ ha → ((X.setCell ⟨ga, i, none⟩ (.int .i64 v)).setCell ⟨ha, i, none⟩ (.bool true)).heap[b]? = X.heap[b]? := fun b h1 h2 => by rw [Below.heap_setCell _ _ _ _ h2, Below.heap_setCell _ _ _ _ h1]
 have e1 : ((X.setCell ⟨ga, i, none⟩ (.int .i64 v)).setCell ⟨ha, i, none⟩ (.bool true)).heap[ga]? = some (.cells (intsG (gs.set i v)).toArray 3 (0, 0)) := by
  rw [Below.heap_setCell _ _ _ _ (by show ga ≠ ha; omega), blk_setCell g1, List.setIfInBounds_toArray, ints_set]
 have e2 : ((X.setCell ⟨ga, i, none⟩ (.int .i64 v)).setCell ⟨ha, i, none⟩ (.bool true)).heap[ha]? = some (.cells (boolsG (hs.set i true)).toArray 4 (0, 0)) := by
  rw [blk_setCell ((Below.heap_setCell _ _ _ _ (by show ha ≠ ga; omega)).trans g2), bset]
 refine ⟨⟨(hf _ (by omega) (by omega)).trans h.blk, h.gr.imp (fun _ h => h) (fun b hb' => hf b (h.ab b hb').2.2.1 (h.ab b hb').2.2.2.1), h.arg.imp (fun _ h => h) (fun b hb' => hf b (h.ab b hb').2.2.1 (h.ab b hb').2.2.2.1), ⟨_, _, e1, e2, by simpa using g3, by simpa using g4, fun j hj hk => ?_⟩, ⟨ss, ks, (hf _ (by omega) (by omega)).trans s1, (hf _ (by omega) (by omega)).trans s2, s3⟩, h.ab, h.lo⟩, ⟨rfl, rfl, rfl, by simp [World.setCell], fun k _ hS => hf k (fun e => hS (Or.inl e)) (fun e => hS (Or.inr e))⟩⟩
 show (if j = i then some v else got j) = _
 by_cases e : j = i
 ·subst e
  rw [if_pos rfl]
  simp [show j < gs.length by omega, show j < hs.length by omega]
 ·have q1 : (gs.set i v).getD j 0 = gs.getD j 0 := by simp [Ne.symm e]
  have q2 : (hs.set i true).getD j false = hs.getD j false := by simp [Ne.symm e]
  rw [if_neg e, q1, q2]
  exact g5 j hj hk
theorem forget_rw (h : RwK A B X wb ga ha sa ka nm P nv argv L args got) (hB : B ≤ X.heap.size) (hL : L.length ≤ 1000) :
  Calls Tryz.prog 40 #[.pointer (some ⟨wb, 0, none⟩)] X fun e w' => e = .returned (.tuple #[]) ∧ RwJ A B w' wb ga ha sa ka nm P nv argv L args got ∧ ButP (fun k => k = ka) X w' := by
 have hl := h.lo
 obtain ⟨gs, hs, g1, g2, g3⟩ := h.gots
 obtain ⟨ss, ks, s1, s2, s3, s4⟩ := h.sums
 have hblk := h.blk
 have hf := forget_any (w := X) (wb := wb) (kb := ka) (kc := L.length) (nm := nm) (P := P) (nv := nv) (argv := argv) (gotv := rowV ga L.length) (hasv := rowV ha L.length) (sumv := rowV sa L.length) ks (by rw [s4]; exact hblk) s2 (by omega) (by omega)
 refine hf.mono ?_
 rintro e w' ⟨rfl, hb, hk⟩
 have lt : ∀ k, k < B → k ≠ ka → w'.heap[k]? = X.heap[k]? := fun k h1 h2 => hb.block k (by omega) h2
 refine ⟨rfl, ⟨(lt _ (by omega) (by omega)).trans h.blk, h.gr.imp (fun _ h => h) (fun b hb' => lt b (h.ab b hb').1 (h.ab b hb').2.2.2.2.2), h.arg.imp (fun _ h => h) (fun b hb' => lt b (h.ab b hb').1 (h.ab b hb').2.2.2.2.2), ⟨gs, hs, (lt _ (by omega) (by omega)).trans g1, (lt _ (by omega) (by omega)).trans g2, g3⟩, ⟨ss, _, (lt _ (by omega) (by omega)).trans s1, hk, s3, by rw [List.length_replicate]; exact s4, fun i hi _ hki => ?_⟩, h.ab, h.lo⟩, ButP.but hb rfl⟩
 rw [List.getD_eq_getElem?_getD, List.getElem?_replicate] at hki
 split at hki <;> cases hki
end
theorem rw_new {w W0 W : World} {x1 x2 x3 x4 : Obj} {t y o p : Nat} {nm : List UInt8} {P : Int} {nv argv : Value} {L : List Nd} {args : List Int} {is0 bs0 : List Value} (hb0 : Below w.heap.size w W0) (hG : XG false (InH w) w nv L) (hA : XRow (InH w) w argv args.length (intsG args)) (hi : is0 = intsG (List.replicate L.length 0)) (hv : bs0 = boolsG (List.replicate L.length false))
  (hW : W = (((((W0.alloc x1).alloc x2).alloc x3).alloc x4).alloc (.cells (rwV nm P nv argv (rowV t L.length) (rowV y L.length) (rowV o L.length) (rowV p L.length)).toArray 84)).drew) (ht : oneOf W0 x1 x2 x3 x4 t (.cells is0.toArray 3)) (hy : oneOf W0 x1 x2 x3 x4 y (.cells bs0.toArray 4)) (ho : oneOf W0 x1 x2 x3 x4 o (.cells is0.toArray 3)) (hp : oneOf W0 x1 x2 x3 x4 p (.cells bs0.toArray 4)) (hne : t ≠ y ∧ t ≠ o ∧ t ≠ p ∧ y ≠ o ∧ y ≠ p ∧ o ≠ p) :
  RwJ (InH w) (W0.heap.size + 5) W (W0.heap.size + 1 + 1 + 1 + 1) t y o p nm P nv argv L args (fun _ => none) ∧ Below W0.heap.size W0 W ∧ W.heap.size = W0.heap.size + 5 ∧ (W0.heap.size ≤ t ∧ W0.heap.size ≤ y ∧ W0.heap.size ≤ o ∧ W0.heap.size ≤ p ∧ W0.heap.size ≤ W0.heap.size + 1 + 1 + 1 + 1) := by
 obtain ⟨q1, q2, q3, q4, q5⟩ := fiveG W0 x1 x2 x3 x4 (.cells (rwV nm P nv argv (rowV t L.length) (rowV y L.length) (rowV o L.length) (rowV p L.length)).toArray 84)
 have key : ∀ b x, oneOf W0 x1 x2 x3 x4 b x → W.heap[b]? = some x ∧ W0.heap.size ≤ b ∧ b < W0.heap.size + 4 := fun b x h => by
  rw [hW]
  rcases h with ⟨rfl, rfl⟩ | ⟨rfl, rfl⟩ | ⟨rfl, rfl⟩ | ⟨rfl, rfl⟩
  ·exact ⟨q1, by omega, by omega⟩
  ·exact ⟨q2, by omega, by omega⟩
  ·exact ⟨q3, by omega, by omega⟩
  ·exact ⟨q4, by omega, by omega⟩
 have k1 := key _ _ ht
 have k2 := key _ _ hy
 have k3 := key _ _ ho
 have k4 := key _ _ hp
 have hlow : Below W0.heap.size W0 W := by rw [hW]; (repeat (first | exact Below.refl _ _ | assumption | refine Below.drew ?_ | refine bT ?_ _ | refine bS ?_ _ | refine bA ?_ _))
 have hww : Below w.heap.size w W := bl_trans hb0 hb0.size hlow
 have hz := hb0.size
 refine ⟨⟨by rw [hW]; exact q5, hG.imp (fun _ h => h) (keepH hww), hA.imp (fun _ h => h) (keepH hww), ⟨_, _, by rw [k1.1, hi], by rw [k2.1, hv], by simp, by simp, fun i hi' _ => ?_⟩, ⟨_, _, by rw [k3.1, hi], by rw [k4.1, hv], by simp, by simp, fun i hi' _ hki => ?_⟩, fun b hb => ?_, by omega⟩, hlow, by rw [hW]; simp, by omega⟩
 ·simp [hi']
 ·rw [List.getD_eq_getElem?_getD, List.getElem?_replicate] at hki
  split at hki <;> cases hki
 ·have : b < w.heap.size := hb
  omega
theorem cells5 {w : World} {r : Nat} {x0 x1 x2 x3 x4 : Value} {t : TypeId} (h : w.heap[r]? = some (.cells #[x0, x1, x2, x3, x4] t (0, 0))) : w.cell? ⟨r, 0, none⟩ = some x0 ∧ w.cell? ⟨r, 1, none⟩ = some x1 ∧ w.cell? ⟨r, 2, none⟩ = some x2 ∧ w.cell? ⟨r, 3, none⟩ = some x3 ∧ w.cell? ⟨r, 4, none⟩ = some x4 :=
 ⟨cell_of_blk h 0, cell_of_blk h 1, cell_of_blk h 2, cell_of_blk h 3, cell_of_blk h 4⟩
theorem free5 {w : World} {r : Nat} {x0 x1 x2 x3 x4 : Value} {t : TypeId} (h : w.heap[r]? = some (.cells #[x0, x1, x2, x3, x4] t (0, 0))) : w.frozen? ⟨r, 0, none⟩ = false ∧ w.frozen? ⟨r, 1, none⟩ = false ∧ w.frozen? ⟨r, 2, none⟩ = false ∧ w.frozen? ⟨r, 3, none⟩ = false ∧ w.frozen? ⟨r, 4, none⟩ = false :=
 ⟨free_of_blk h 0, free_of_blk h 1, free_of_blk h 2, free_of_blk h 3, free_of_blk h 4⟩
end Go.Proofs.YtlgejjmdanmglaaGreatDoor
namespace Go.Proofs.YtlgejjmdanmglaaGreatDoor
open Go.RowKit
def phL (L : List Nd) (j i : Nat) : List Nat := (List.range i).filter (phiOf L j)
def asP (L : List Nd) (m : Nat) (ps : List Nat) : List Nat := natL (ps.map (fun (q : Nat) => (ndAt L (q : Int)).ins.getD (1 + m) 0))
def intP (ps : List Nat) : List Int := ps.map (fun (q : Nat) => (q : Int))
variable {L : List Nd} {j i m : Nat} {ps : List Nat}
theorem phL_yes (h : phiOf L j i = true) : phL L j (i + 1) = phL L j i ++ [i] := by
 unfold phL; rw [List.range_succ, List.filter_append]; simp [h]
theorem phL_no (h : phiOf L j i = false) : phL L j (i + 1) = phL L j i := by
 unfold phL; rw [List.range_succ, List.filter_append]; simp [h]
theorem asP_snoc : asP L m (ps ++ [i]) = asP L m ps ++ [((ndAt L (i : Int)).ins.getD (1 + m) 0).toNat] := by
 simp [asP, natL]
theorem phL_mem (hi : i < L.length) (h : phiOf L j i = true) : i ∈ phL L j L.length := by
 unfold phL; rw [List.mem_filter, List.mem_range]; exact ⟨hi, h⟩
theorem asP_mem (h : i ∈ ps) : ((ndAt L (i : Int)).ins.getD (1 + m) 0).toNat ∈ asP L m ps := by
 unfold asP natL
 exact List.mem_map.2 ⟨_, List.mem_map.2 ⟨i, h, rfl⟩, rfl⟩
theorem phL_le : (phL L j i).length ≤ i := by
 unfold phL; exact Nat.le_trans (List.length_filter_le _ _) (by simp)
theorem phL_lt {q : Nat} (h : q ∈ phL L j i) : q < i := by
 unfold phL at h; rw [List.mem_filter, List.mem_range] at h; exact h.1
theorem intP_snoc : intsG (intP (ps ++ [i])) = intsG (intP ps) ++ [.int .i64 (i : Int)] := by simp [intP, intsG]
theorem intP_at {t : Nat} (h : t < ps.length) : (intsG (intP ps))[t]? = some (.int .i64 ((ps[t] : Nat) : Int)) := by simp [intP, intsG, h]
theorem setVs_snoc {g : Nat → Option Int} {vs : List Int} {t : Nat} (h : t < ps.length) (hv : t < vs.length) : setVs g ((ps.zip vs).take (t + 1)) = setV (setVs g ((ps.zip vs).take t)) (ps[t], vs[t]) := by
 rw [List.take_succ_eq_append_getElem (by simp; omega)]
 simp [setVs, List.foldl_append]
theorem setVs_all {g : Nat → Option Int} {vs : List Int} (hv : vs.length = ps.length) : setVs g ((ps.zip vs).take ps.length) = setVs g (ps.zip vs) := by
 rw [List.take_of_length_le (by simp; omega)]
theorem askX_len {res : Nat → Option Int} : ∀ {l : List Nat} {vs : List Int}, askX res l = some vs → vs.length = l.length
 | [], vs, h => by
  have : vs = [] := by simpa [askX] using h.symm
  subst this; rfl
 | a :: l, vs, h => by
  unfold askX at h
  split at h
  ·next x y h1 h2 =>
   injection h with h
   subst h
   simp [askX_len h2]
  ·cases h
theorem asP_len : (asP L m ps).length = ps.length := by simp [asP, natL]
theorem ask64 {res : Nat → Option Int} (hr : ∀ i v, res i = some v → In64 v) {l : List Nat} {vs : List Int} (h : askX res l = some vs) : ∀ v ∈ vs, In64 v := fun u hu => by
 obtain ⟨k, hk⟩ := List.mem_iff_getElem?.1 hu
 obtain ⟨hl, hx⟩ := askX_at h
 have hkl : k < vs.length := by
  rcases Nat.lt_or_ge k vs.length with h' | h'
  ·exact h'
  ·rw [List.getElem?_eq_none h'] at hk; cases hk
 have := hx k (by omega) hkl
 rw [List.getElem?_eq_getElem hkl] at hk
 injection hk with hk
 rw [hk] at this
 exact hr _ u this
theorem setV64 {got : Nat → Option Int} (hg : Got64 got) {p : Nat × Int} (hp : In64 p.2) : Got64 (setV got p) := fun i v h => by
 have h' : (if i = p.1 then some p.2 else got i) = some v := h
 split at h'
 ·injection h' with h'; rw [← h']; exact hp
 ·exact hg i v h'
theorem setVs64 : ∀ {l : List (Nat × Int)} {got : Nat → Option Int}, Got64 got → (∀ p ∈ l, In64 p.2) → Got64 (setVs got l)
 | [], _, hg, _ => hg
 | p :: l, _, hg, h => setVs64 (l := l) (setV64 hg (h p (by simp))) (fun q hq => h q (by simp [hq]))
theorem zip64 {ps : List Nat} {vs : List Int} (h : ∀ v ∈ vs, In64 v) : ∀ p ∈ ps.zip vs, In64 p.2 := fun p hp => h p.2 (List.of_mem_zip (a := p.1) (b := p.2) hp).2
end Go.Proofs.YtlgejjmdanmglaaGreatDoor
