/- Our own: texts joined: AppInts, Apps, GrAs. -/
import Derived.Test.YtlgejjmdanmglaaGreatDoorVGrRep
import Derived.Test.YtlgejjmdanmglaaGreatDoorVBase
import Derived.OwnWalk
import Derived.Deep.AppendLies
import Derived.Test.YtlgejjmdanmglaaGreatDoorVGrLarge
import Derived.Test.YtlgejjmdanmglaaGreatDoorVTools
namespace Go.Proofs.YtlgejjmdanmglaaGreatDoor
open Go.RowKit
theorem intsG_one (l : List Int) : ∀ u ∈ intsG l, u.oneCell' = true := by
 intro u hu
 obtain ⟨x, _, rfl⟩ := List.mem_map.1 hu
 rfl
theorem xrow_intsG {A : Nat → Prop} {w : World} {a : Addr} {c : Nat} {l : List Int} (h : XRow A w (.slice (some a) l.length c) l.length (intsG l)) : ∀ j u, (intsG l)[j]? = some u → w.cell? (a.add j) = some u := by
 intro j u hu
 have hj : j < l.length := by
  rcases Nat.lt_or_ge j (intsG l).length with h' | h'
  ·simpa [intsG] using h'
  ·rw [List.getElem?_eq_none h'] at hu; cases hu
 obtain ⟨g, off, e, _, _, hc⟩ := h.get (by omega)
 injection e with e
 subst e
 rw [← hc j u hu]
 congr 1
 unfold Addr.add
 split
 ·next h0 => rw [h0, Nat.add_zero]
 ·rfl
theorem run_append_intsG (w : World) (ty : TypeId) (sv : Value) (l : List Int) (hl : l.length ≤ 5000) (h : XRow (InH w) w sv l.length (intsG l)) :
  ∃ v' w', (Builtin.append_ #[40, 40] ty #[.slice none 0 0, sv]).run Tryz.prog w = .ok v' w' ∧ w'.ownsRow w.heap.size 3 1 v' l.length (intsG l) ∧ Below w.heap.size w w' := by
 obtain ⟨i0, hi, hz0, hz1, hz2⟩ := info_parts int_info
 obtain ⟨ad, cap, rfl⟩ := h.is
 cases ad with
 | some a =>
  obtain ⟨v', w', hrun, hown, hg, _, _⟩ := run_append_own_at (P := Tryz.prog) w w.heap.size 40 ty 3 i0 _ 1 8 Tryz.underlying40 hi hz0 hz1 hz2 rfl (by decide) (.slice none 0 0) 0 [] (World.ownsRow_nil _ _ _ _) a l.length cap (intsG l) (by rw [intsG_len, Nat.mul_one]) (xrow_intsG h) (intsG_one l) (by unfold maxLen; omega) (by omega) (Nat.le_refl _)
  refine ⟨v', w', hrun, by simpa using hown, ⟨hg.os, hg.tape, hg.output, hg.size, fun i hi => hg.block i hi (fun e => by simp [Value.ownBlock] at e)⟩⟩
 | none =>
  have h0 : l = [] := by
   rcases Nat.eq_zero_or_pos l.length with h' | h'
   ·exact List.length_eq_zero_iff.1 h'
   ·obtain ⟨g, off, e, _⟩ := h.get (by omega); cases e
  subst h0
  refine ⟨.slice none 0 0, w, ?_, World.ownsRow_nil _ _ _ _, Below.refl _ _⟩
  simp [Builtin.append_, run_underlying Tryz.underlying40, sizeOf, typeInfo, hi, Builtin.lenOf, Builtin.firstCells]
theorem step_append_intsG {ops : Array Oper} {o : Oper} {a : Act} {w : World} {K : Act → World → Prop} {Q : Exit → Act → World → Prop} {E : Prop} (hgd : o.guard = none) (s x : Operand)
  (ho : o.op = .call { callee := .builtin .append, args := #[s, x], argTypes := #[40, 40] }) (hs : a.eval s = .slice none 0 0) (sv : Value) (hx : a.eval x = sv) (l : List Int) (hl : l.length ≤ 5000) (h : XRow (InH w) w sv l.length (intsG l))
  (hk : ∀ ad cap w', w'.ownsRow w.heap.size 3 1 (.slice ad l.length cap) l.length (intsG l) → Below w.heap.size w w' → K (a.put o.dst (.slice ad l.length cap)) w') :
  if Region.wanted o (yielded ops a.tmps) = true then Oper.wp Tryz.prog o a w K Q else E := by
 have hw : Region.wanted o (yielded ops a.tmps) = true := by simp [Region.wanted, hgd]
 rw [if_pos hw]
 obtain ⟨v', w', hr, h1, h2⟩ := run_append_intsG w o.type sv l hl h
 obtain ⟨ad, cap, rfl⟩ := own_is h1
 unfold Oper.wp execOp
 simp only [ho, resolve, invoke, builtin, Sem.run_bind, Sem.run_pure, Result.andThen_ok, List.map_toArray, List.map_cons, List.map_nil, hs, hx, hr]
 exact hk _ _ _ h1 h2
end Go.Proofs.YtlgejjmdanmglaaGreatDoor
namespace Go.Proofs.YtlgejjmdanmglaaGreatDoor
open Go.RowKit
abbrev KA (B : Nat) (w : World) (v : Value) (b : Nat) : Prop := B ≤ b ∧ b < w.heap.size ∧ v.ownBlock ≠ some b
abbrev Nw (w w' : World) (b : Nat) : Prop := w.heap.size ≤ b ∧ b < w'.heap.size
theorem app_keep {α : Type} {Rep : (Nat → Prop) → World → α → List Value → Prop} {Reps : (Nat → Prop) → World → List α → List Value → Prop}
  (imp : ∀ {A C : Nat → Prop} {w w' : World}, (∀ b, A b → C b) → KeepA A w w' → ∀ l xs, Reps A w l xs → Reps C w' l xs) (impR : ∀ {A C : Nat → Prop} {w w' : World}, (∀ b, A b → C b) → KeepA A w w' → ∀ l xs, Rep A w l xs → Rep C w' l xs)
  (snoc : ∀ {A : Nat → Prop} {w : World} {l : List α} {xs : List Value} {e : α} {cs : List Value}, Reps A w l xs → Rep A w e cs → Reps A w (l ++ [e]) (xs ++ cs))
  {B n size : Nat} {t : TypeId} {w w1 w2 w3 : World} {v v' : Value} {l : List α} {xs cs : List Value} {x : α}
  (ho : w.ownsRow B t size v n xs) (hk : Reps (KA B w v) w l xs) (h1 : Below w.heap.size w w1) (hx : Rep (Nw w w1) w1 x cs) (h2 : Below w1.heap.size w1 w2) (hB : B ≤ w.heap.size) (hg : w2.grownBy w3 v.ownBlock) (hl : v'.ownBlock = v.ownBlock ∨ v'.ownBlock = some w2.heap.size) :
  Reps (KA B w3 v') w3 (l ++ [x]) (xs ++ cs) := by
 have z1 := h1.size
 have z2 := h2.size
 have z3 := hg.size
 have hown : ∀ b, v.ownBlock = some b → b < w.heap.size := fun b hb => (ho.lt b hb).2
 refine snoc (imp (fun b hb => ?_) (fun b hb => ?_) _ _ hk) (impR (fun b hb => ?_) (fun b hb => ?_) _ _ hx)
 ·refine ⟨hb.1, by have := hb.2.1; omega, ?_⟩
  rcases hl with e | e
  ·rw [e]; exact hb.2.2
  ·rw [e]; intro e'; injection e' with e'; have := hb.2.1; omega
 ·have hbl := hb.2.1
  rw [hg.block b (by omega) (fun e => hb.2.2 e.symm), h2.block b (by omega), h1.block b hbl]
 ·have hb1 := hb.1
  refine ⟨by omega, by have := hb.2; omega, ?_⟩
  rcases hl with e | e
  ·rw [e]; intro e'; have := hown b e'; omega
  ·rw [e]; intro e'; injection e' with e'; have := hb.2; omega
 ·have hb1 := hb.1
  have hb2 := hb.2
  rw [hg.block b (by omega) (fun e => by have := hown b e.symm; omega), h2.block b hb2]
end Go.Proofs.YtlgejjmdanmglaaGreatDoor
namespace Go.Proofs.YtlgejjmdanmglaaGreatDoor
open Go.RowKit
theorem nd_info : (Tryz.prog.info? 55).map (fun i => (i.zero, i.size, i.bytes)) = some (some (.agg #[.string ⟨#[]⟩, .slice none 0 0, .int .i64 0, .string ⟨#[]⟩]), 4, 64) := by kernel_rfl
theorem nd_one (n : Nd) (a : Option Addr) (l c : Nat) : ∀ u ∈ ([.string ⟨n.kind.toArray⟩, .slice a l c, .int .i64 n.num, .string ⟨n.name.toArray⟩] : List Value), u.oneCell' = true := by
 intro u hu
 simp only [List.mem_cons, List.not_mem_nil, or_false] at hu
 rcases hu with rfl | rfl | rfl | rfl <;> rfl
theorem thr_blks (w : World) (a b c : Obj) : (((w.alloc a).alloc b).alloc c).heap[w.heap.size]? = some a ∧ (((w.alloc a).alloc b).alloc c).heap[w.heap.size + 1]? = some b ∧ (((w.alloc a).alloc b).alloc c).heap[w.heap.size + 1 + 1]? = some c := by
 refine ⟨?_, ?_, ?_⟩
 ·rw [Below.heap_alloc _ _ _ (by simp; omega), Below.heap_alloc _ _ _ (by simp), heap_alloc_new]
 ·rw [Below.heap_alloc _ _ _ (by simp)]
  have := heap_alloc_new (w.alloc a) b
  rwa [show (w.alloc a).heap.size = w.heap.size + 1 by simp] at this
 ·have := heap_alloc_new ((w.alloc a).alloc b) c
  rwa [show ((w.alloc a).alloc b).heap.size = w.heap.size + 1 + 1 by simp] at this
abbrev gcR (nm0 : List UInt8) (P : Int) (v : Value) : Array Value := #[.string ⟨nm0.toArray⟩, .int .i64 P, v]
theorem set3_far {w : World} {r k : Nat} {u0 u1 u2 : Value} (h : k ≠ r) : (((w.setCell ⟨r, 0, none⟩ u0).setCell ⟨r, 1, none⟩ u1).setCell ⟨r, 2, none⟩ u2).heap[k]? = w.heap[k]? := by
 rw [Below.heap_setCell _ _ _ _ h, Below.heap_setCell _ _ _ _ h, Below.heap_setCell _ _ _ _ h]
theorem set3_size {w : World} {r : Nat} {u0 u1 u2 : Value} : (((w.setCell ⟨r, 0, none⟩ u0).setCell ⟨r, 1, none⟩ u1).setCell ⟨r, 2, none⟩ u2).heap.size = w.heap.size := by simp [World.setCell]
theorem ret3 {fn : Func} {R : Ending → World → Prop} {tmps : Array Value} {w : World} {r sl : Nat} {x0 x1 x2 : Value} (hres : fn.results = #[ResultVar.cell sl 29]) (hsl : tmps[sl]? = some (.pointer (some ⟨r, 0, none⟩)))
  (hx : w.heap[r]? = some (.cells #[x0, x1, x2] 29 (0, 0))) (k : ByteArray) (n : Int) (v : Value)
  (h : R (.returned (.agg #[.string k, .int .i64 n, v])) (((w.setCell ⟨r, 0, none⟩ (.string k)).setCell ⟨r, 1, none⟩ (.int .i64 n)).setCell ⟨r, 2, none⟩ v)) :
  bodyPost Tryz.prog fn R Exit.ret { tmps := tmps, defers := [] } (((w.setCell ⟨r, 0, none⟩ (.string k)).setCell ⟨r, 1, none⟩ (.int .i64 n)).setCell ⟨r, 2, none⟩ v) := by
 have h4 : (((w.setCell ⟨r, 0, none⟩ (.string k)).setCell ⟨r, 1, none⟩ (.int .i64 n)).setCell ⟨r, 2, none⟩ v).heap[r]? = some (.cells #[.string k, .int .i64 n, v] 29 (0, 0)) := by
  have := blk_setCell (blk_setCell (blk_setCell hx 0 (.string k)) 1 (.int .i64 n)) 2 v
  simpa using this
 generalize (((w.setCell ⟨r, 0, none⟩ (.string k)).setCell ⟨r, 1, none⟩ (.int .i64 n)).setCell ⟨r, 2, none⟩ v) = W at h h4 ⊢
 have s0 : W.cell? ⟨r, 0, none⟩ = some (.string k) := cell_of_blk h4 0
 have s1 : W.cell? ⟨r, 1, none⟩ = some (.int .i64 n) := cell_of_blk h4 1
 have s2 : W.cell? ⟨r, 2, none⟩ = some v := cell_of_blk h4 2
 refine bodyPost_ret (v := .agg #[.string k, .int .i64 n, v]) ?_ rfl h
 simp [results, hres, hsl, go_sem, s0, s1, s2]
structure AsAt (w X : World) (nm0 : List UInt8) (P : Int) (nv lv : Value) (K : List Nd) : Prop where
 low : Below w.heap.size w X
 src : X.heap[w.heap.size]? = some (.cells (gcR nm0 P nv) 24 (0, 0))
 res : X.heap[w.heap.size + 1]? = some (.cells #[.string ⟨#[]⟩, .int .i64 0, .slice none 0 0] 29 (0, 0))
 out : X.heap[w.heap.size + 1 + 1]? = some (.cells (gcR nm0 P lv) 29 (0, 0))
 row : ∃ xs, X.ownsRow (w.heap.size + 3) 55 4 lv K.length xs ∧ XNs true (KA (w.heap.size + 3) X lv) X K xs
theorem AsAt.push {w X X1 W3 Z : World} {nm0 : List UInt8} {P : Int} {nv lv lv' : Value} {K : List Nd} {n : Nd} {xs : List Value} (h : AsAt w X nm0 P nv lv K) (ho : X.ownsRow (w.heap.size + 3) 55 4 lv K.length xs) (hx : XNs true (KA (w.heap.size + 3) X lv) X K xs)
  (h1 : Below X.heap.size X X1) {ad : Option Addr} {cap : Nat} (h3 : Below X1.heap.size X1 W3) (hi : W3.ownsRow X1.heap.size 3 1 (.slice ad n.ins.length cap) n.ins.length (intsG n.ins))
  (hg : (W3.alloc (.cells #[.string ⟨n.kind.toArray⟩, .slice ad n.ins.length cap, .int .i64 n.num, .string ⟨n.name.toArray⟩] 55)).grownBy Z lv.ownBlock)
  (hz : Z.ownsRow (w.heap.size + 3) 55 4 lv' (K.length + 1) (xs ++ [.string ⟨n.kind.toArray⟩, .slice ad n.ins.length cap, .int .i64 n.num, .string ⟨n.name.toArray⟩])) (hl : lv'.ownBlock = lv.ownBlock ∨ lv'.ownBlock = some (W3.heap.size + 1)) :
  AsAt w (Z.setCell ⟨w.heap.size + 1 + 1, 2, none⟩ lv') nm0 P nv lv' (K ++ [n]) := by
 have z1 := h1.size
 have z3 := h3.size
 have zz := hg.size
 rw [World.size_alloc] at zz
 have hzx := heap_lt h.out
 have hob : ∀ b, lv.ownBlock = some b → w.heap.size + 3 ≤ b ∧ b < X.heap.size := fun b hb => ho.lt b hb
 have hX3 : Below X.heap.size X W3 := bl_trans h1 h1.size h3
 have key : ∀ b, b < w.heap.size + 3 → Z.heap[b]? = X.heap[b]? := fun b hb => by
  rw [hg.block b (by rw [World.size_alloc]; omega) (fun e => by have := hob b e.symm; omega), Below.heap_alloc _ _ _ (by omega), hX3.block b (by omega)]
 have hoZ : Z.heap[w.heap.size + 1 + 1]? = some (.cells (gcR nm0 P lv) 29 (0, 0)) := (key _ (by omega)).trans h.out
 have hfar : ∀ b, b ≠ w.heap.size + 1 + 1 → (Z.setCell ⟨w.heap.size + 1 + 1, 2, none⟩ lv').heap[b]? = Z.heap[b]? := fun b hb => Below.heap_setCell _ _ _ _ hb
 have hsz : (Z.setCell ⟨w.heap.size + 1 + 1, 2, none⟩ lv').heap.size = Z.heap.size := by simp [World.setCell]
 have hown' : ∀ b, lv'.ownBlock = some b → w.heap.size + 3 ≤ b := fun b hb => (hz.lt b hb).1
 refine ⟨?_, ?_, ?_, ?_, ?_⟩
 ·have hwZ : Below w.heap.size w Z := ⟨hg.os.trans (by exact (hX3.os.trans h.low.os)), hg.tape.trans (hX3.tape.trans h.low.tape), hg.output.trans (hX3.output.trans h.low.output), by have := h.low.size; omega, fun b hb => (key b (by omega)).trans (h.low.block b hb)⟩
  exact hwZ.setCell (by simp; omega) _
 ·rw [hfar _ (by omega), key _ (by omega)]; exact h.src
 ·rw [hfar _ (by omega), key _ (by omega)]; exact h.res
 ·have := blk_setCell hoZ 2 lv'
  simpa using this
 ·refine ⟨_, own_same (w := Z) (by rw [List.length_append]; exact hz) (fun b hb => hfar b (by have := hown' b hb; omega)), ?_⟩
  have hX1 : XN true (Nw X W3) W3 n [.string ⟨n.kind.toArray⟩, .slice ad n.ins.length cap, .int .i64 n.num, .string ⟨n.name.toArray⟩] := by
   refine ⟨ad, cap, rfl, fun _ => ?_, (xrow_own hi).imp (fun b hb => ⟨by omega, hb.2⟩) (fun _ _ => rfl)⟩
   rcases id hi with ⟨_, ⟨e, e0⟩ | ⟨g, cp, cur, e, e1⟩⟩
   ·omega
   ·injection e with _ _ e
    subst e
    exact e1.2.2.1
  have := app_keep (Rep := XN true) (Reps := XNs true) (fun hA hk l xs h => XNs.imp hA hk l xs h) (fun hA hk l xs h => XN.imp hA hk h) XNs.snoc ho hx hX3 hX1 (box_blk W3 _ _) (by omega) hg (by rw [World.size_alloc]; exact hl)
  exact XNs.imp (fun b hb => ⟨hb.1, by rw [hsz]; exact hb.2.1, hb.2.2⟩) (fun b hb => hfar b (by have := hb.1; omega)) _ _ this
set_option maxRecDepth 100000 in
set_option maxHeartbeats 2000000 in
theorem asGraph_any {w : World} (nm0 : List UInt8) (P : Int) (nv : Value) (L : List Nd) (hL : L.length ≤ 1001) (hF : ∀ n ∈ L, FewN n) (hG : XG false (InH w) w nv L) :
  Calls Tryz.prog 8 #[.agg #[.string ⟨nm0.toArray⟩, .int .i64 P, nv]] w fun e w' => ∃ v, e = .returned (.agg #[.string ⟨nm0.toArray⟩, .int .i64 P, v]) ∧ XG true (InH w') w' v L ∧ Below w.heap.size w w' := by
 obtain ⟨ad, cap, rfl⟩ := hG.is
 have hL' : (L.length : Int) ≤ 1001 := by omega
 obtain ⟨W0, hW0⟩ : ∃ W0, W0 = (((w.alloc (.cells #[.string ⟨nm0.toArray⟩, .int .i64 P, .slice ad L.length cap] 24)).alloc (.cells #[.string ⟨#[]⟩, .int .i64 0, .slice none 0 0] 29)).alloc (.cells #[.string ⟨nm0.toArray⟩, .int .i64 P, .slice none 0 0] 29)) := ⟨_, rfl⟩
 have h0 : AsAt w W0 nm0 P (.slice ad L.length cap) (.slice none 0 0) (L.take 0) := by
  obtain ⟨t1, t2, t3⟩ := thr_blks w (.cells #[.string ⟨nm0.toArray⟩, .int .i64 P, .slice ad L.length cap] 24) (.cells #[.string ⟨#[]⟩, .int .i64 0, .slice none 0 0] 29) (.cells #[.string ⟨nm0.toArray⟩, .int .i64 P, .slice none 0 0] 29)
  rw [← hW0] at t1 t2 t3
  exact ⟨by rw [hW0]; (repeat (first | exact Below.refl _ _ | assumption | refine Below.drew ?_ | refine bT ?_ _ | refine bS ?_ _ | refine bA ?_ _)), t1, t2, t3, [], World.ownsRow_nil _ _ _ _, rfl⟩
 have HG := hidX hG
 have HF := hidX hF
 have H0 := hidX h0
 obtain ⟨i0, hi, iz0, iz1, iz2⟩ := info_parts nd_info
 clear hG hF h0
 go_enter Tryz.func8, Tryz.ntmps8
 go_wp2_with fail
 rw [← hW0]
 clear hW0
 go_loopw [4] (fun vi wr => ∃ (q : Nat) (lv : Value), q ≤ L.length ∧ vi = .int .i64 q ∧ Hid (AsAt w wr nm0 P (.slice ad L.length cap) lv (L.take q))) (fun vi _ => L.length - (intOf vi).toNat)
 case atStart => exact ⟨0, _, Nat.zero_le _, rfl, H0.out⟩
 case round =>
  obtain ⟨q, lv, hq, rfl, HA⟩ := hrel
  have b2 : wr.cell? ⟨w.heap.size, 2, none⟩ = some (.slice ad L.length cap) := cell_of_blk HA.out.src 2
  by_cases hlt : q < L.length
  ·have hlt' : (q : Int) < (L.length : Int) := by omega
   obtain ⟨g, off, ad1, cap1, e1, hg, _, hr, k0, k1, k2, k3⟩ := HG.out.node hlt
   subst e1
   have hlowq := HA.out.low
   replace k0 := (hlowq.cell (p := ⟨g, _, none⟩) hg).trans k0
   replace k1 := (hlowq.cell (p := ⟨g, _, none⟩) hg).trans k1
   replace k2 := (hlowq.cell (p := ⟨g, _, none⟩) hg).trans k2
   replace k3 := (hlowq.cell (p := ⟨g, _, none⟩) hg).trans k3
   have htk : L.take (q + 1) = L.take q ++ [L[q]] := List.take_succ_eq_append_getElem hlt
   have hfn := HF.out _ (List.getElem_mem hlt)
   have hln : (L.take q).length = q := by rw [List.length_take]; omega
   obtain ⟨xs, ho, hx⟩ := HA.out.row
   rw [hln] at ho
   generalize hK : L.take q = K at *
   generalize L[q] = n at *
   clear hK
   obtain ⟨o1, o2, o3⟩ := hfn
   obtain ⟨Xq, hXq⟩ : ∃ Xq, Xq = wr.alloc (.cells #[.string ⟨n.kind.toArray⟩, .slice ad1 n.ins.length cap1, .int .i64 n.num, .string ⟨n.name.toArray⟩] 54) := ⟨_, rfl⟩
   have hbx : Below wr.heap.size wr Xq := by rw [hXq]; (repeat (first | exact Below.refl _ _ | assumption | refine Below.drew ?_ | refine bT ?_ _ | refine bS ?_ _ | refine bA ?_ _))
   have hnx : Xq.heap[wr.heap.size]? = some (.cells #[.string ⟨n.kind.toArray⟩, .slice ad1 n.ins.length cap1, .int .i64 n.num, .string ⟨n.name.toArray⟩] 54 (0, 0)) := by rw [hXq]; exact heap_alloc_new _ _
   have hox : Xq.heap[w.heap.size + 1 + 1]? = some (.cells (gcR nm0 P lv) 29 (0, 0)) := (hbx.block _ (heap_lt HA.out.out)).trans HA.out.out
   have HROW := hidX (hr.imp (inH_up (bl_trans hlowq hlowq.size hbx)) (keepH (bl_trans hlowq hlowq.size hbx)))
   have HXW := hidX (owns_below ho hbx)
   have HBX := hidX hbx
   have HO := hidX ho
   have HX := hidX hx
   have HTK := hidX htk
   have HNX := hidX hnx
   have HOX := hidX hox
   obtain ⟨lad, lcap, rfl⟩ := own_is ho
   have hkeep : ∀ W : World, Below Xq.heap.size Xq W → W.cell? ⟨wr.heap.size, 0, none⟩ = some (.string ⟨n.kind.toArray⟩) ∧ W.cell? ⟨wr.heap.size, 1, none⟩ = some (.slice ad1 n.ins.length cap1) ∧ W.cell? ⟨wr.heap.size, 2, none⟩ = some (.int .i64 n.num) ∧ W.cell? ⟨wr.heap.size, 3, none⟩ = some (.string ⟨n.name.toArray⟩) ∧ W.cell? ⟨w.heap.size + 1 + 1, 2, none⟩ = some (.slice lad q lcap) := fun W hW => by
    have e1 := (hW.block _ (heap_lt hnx)).trans hnx
    have e2 := (hW.block _ (heap_lt hox)).trans hox
    exact ⟨cell_of_blk e1 0, cell_of_blk e1 1, cell_of_blk e1 2, cell_of_blk e1 3, cell_of_blk e2 2⟩
   have HK := hidX hkeep
   have hzo := heap_lt hox
   have hR := fun (W : World) (hW : Below Xq.heap.size Xq W) => HROW.out.imp (inH_up hW) (keepH hW)
   have HR := hidX hR
   have hps := fun X1 W3 Z lv' ad3 cap3 h1 h3 hi hg hz hl => HA.out.push (n := n) (X1 := X1) (W3 := W3) (Z := Z) (lv' := lv') (ad := ad3) (cap := cap3) (by rw [hln]; exact HO.out) HX.out (bl_trans HBX.out HBX.out.size h1) h3 hi hg (by rw [hln]; exact hz) hl
   have HPS := hidX hps
   have s0 := hkeep Xq (Below.refl _ _)
   have S0 := hidX s0
   have hfz := fun (Z : World) (h : Z.heap[w.heap.size + 1 + 1]? = Xq.heap[w.heap.size + 1 + 1]?) => (show ∃ c, Z.cell? ⟨w.heap.size + 1 + 1, 2, none⟩ = some c ∧ Z.frozen? ⟨w.heap.size + 1 + 1, 2, none⟩ = false from ⟨_, cell_of_blk (h.trans hox) 2, free_of_blk (h.trans hox) 2⟩)
   have HFZ := hidX hfz
   clear hr htk ho hx hbx hnx hox hlowq hkeep hR hps hfz s0 HROW
   go_wp2_with fail
   rw [← hXq]
   clear hXq k0 k1 k2 k3 b2
   refine wp_region_until (fun W => W.cell? ⟨wr.heap.size, 0, none⟩ = some (.string ⟨n.kind.toArray⟩) ∧ W.cell? ⟨wr.heap.size, 1, none⟩ = some (.slice ad1 n.ins.length cap1) ∧ W.cell? ⟨wr.heap.size, 2, none⟩ = some (.int .i64 n.num) ∧ W.cell? ⟨wr.heap.size, 3, none⟩ = some (.string ⟨n.name.toArray⟩) ∧ W.cell? ⟨w.heap.size + 1 + 1, 2, none⟩ = some (.slice lad q lcap)) 16 (by kernel_rfl) (HK.out _ (by (repeat (first | exact Below.refl _ _ | assumption | refine Below.drew ?_ | refine bT ?_ _ | refine bS ?_ _ | refine bA ?_ _)))) (fun hHeld => ?_)
   refine wpAnyU_put 0 (some 24) (v := ?v0) rfl rfl (by kernel_rfl) (by kernel_rfl) (by kernel_rfl) (by kernel_rfl) (fun _ _ _ h => h) (Or.inl ⟨by rfl, ?hy0⟩) hHeld ?rest0
   case hy0 => (intro w2 hSw; (try dsimp only at hSw); first | (go_simp; done) | (go_simp; with_reducible rfl))
   simp only [Act.put, List.setIfInBounds_toArray, List.set_cons_zero, List.set_cons_succ]
   refine wpAnyU_put 1 (some 25) (v := ?v1) rfl rfl (by kernel_rfl) (by kernel_rfl) (by kernel_rfl) (by kernel_rfl) (fun _ _ _ h => h) (Or.inl ⟨by rfl, ?hy1⟩) hHeld ?rest1
   case hy1 => (intro w2 hSw; (try dsimp only at hSw); first | (go_simp; done) | (go_simp; with_reducible rfl))
   simp only [Act.put, List.setIfInBounds_toArray, List.set_cons_zero, List.set_cons_succ]
   refine wpAnyU_put 2 (some 26) (v := ?v2) rfl rfl (by kernel_rfl) (by kernel_rfl) (by kernel_rfl) (by kernel_rfl) (fun _ _ _ h => h) (Or.inl ⟨by rfl, ?hy2⟩) hHeld ?rest2
   case hy2 => (intro w2 hSw; (try dsimp only at hSw); first | (go_simp; done) | (go_simp; with_reducible rfl))
   simp only [Act.put, List.setIfInBounds_toArray, List.set_cons_zero, List.set_cons_succ]
   refine wpAnyU_put 3 (some 27) (v := ?v3) rfl rfl (by kernel_rfl) (by kernel_rfl) (by kernel_rfl) (by kernel_rfl) (fun _ _ _ h => h) (Or.inl ⟨by rfl, ?hy3⟩) hHeld ?rest3
   case hy3 => (intro w2 hSw; (try dsimp only at hSw); first | (go_simp; done) | (go_simp; with_reducible rfl))
   simp only [Act.put, List.setIfInBounds_toArray, List.set_cons_zero, List.set_cons_succ]
   refine wpAnyU_put 4 (some 28) (v := ?v4) rfl rfl (by kernel_rfl) (by kernel_rfl) (by kernel_rfl) (by kernel_rfl) (fun _ _ _ h => h) (Or.inl ⟨by rfl, ?hy4⟩) hHeld ?rest4
   case hy4 => (intro w2 hSw; (try dsimp only at hSw); first | (go_simp; done) | (go_simp; with_reducible rfl))
   simp only [Act.put, List.setIfInBounds_toArray, List.set_cons_zero, List.set_cons_succ]
   refine wpAnyU_put 5 (some 29) (v := ?v5) rfl rfl (by kernel_rfl) (by kernel_rfl) (by kernel_rfl) (by kernel_rfl) (fun _ _ _ h => h) (Or.inl ⟨by rfl, ?hy5⟩) hHeld ?rest5
   case hy5 => (intro w2 hSw; (try dsimp only at hSw); first | (go_simp; done) | (go_simp; with_reducible rfl))
   simp only [Act.put, List.setIfInBounds_toArray, List.set_cons_zero, List.set_cons_succ]
   refine wpAnyU_put 6 (some 30) (v := ?v6) rfl rfl (by kernel_rfl) (by kernel_rfl) (by kernel_rfl) (by kernel_rfl) (fun _ _ _ h => h) (Or.inl ⟨by rfl, ?hy6⟩) hHeld ?rest6
   case hy6 => (intro w2 hSw; (try dsimp only at hSw); first | (go_simp; done) | (go_simp; with_reducible rfl))
   simp only [Act.put, List.setIfInBounds_toArray, List.set_cons_zero, List.set_cons_succ]
   refine wpAnyU_put 8 (some 32) (v := ?v8) rfl rfl (by kernel_rfl) (by kernel_rfl) (by kernel_rfl) (by kernel_rfl) (fun _ _ _ h => h) (Or.inl ⟨by rfl, ?hy8⟩) hHeld ?rest8
   case hy8 => (intro w2 hSw; (try dsimp only at hSw); first | (go_simp; done) | (go_simp; with_reducible rfl))
   simp only [Act.put, List.setIfInBounds_toArray, List.set_cons_zero, List.set_cons_succ]
   refine wpAnyU_put 9 (some 33) (v := ?v9) rfl rfl (by kernel_rfl) (by kernel_rfl) (by kernel_rfl) (by kernel_rfl) (fun _ _ _ h => h) (Or.inl ⟨by rfl, ?hy9⟩) hHeld ?rest9
   case hy9 => (intro w2 hSw; (try dsimp only at hSw); first | (go_simp; done) | (go_simp; with_reducible rfl))
   simp only [Act.put, List.setIfInBounds_toArray, List.set_cons_zero, List.set_cons_succ]
   refine wpAnyU_put 10 (some 34) (v := ?v10) rfl rfl (by kernel_rfl) (by kernel_rfl) (by kernel_rfl) (by kernel_rfl) (fun _ _ _ h => h) (Or.inl ⟨by rfl, ?hy10⟩) hHeld ?rest10
   case hy10 => (intro w2 hSw; (try dsimp only at hSw); first | (go_simp; done) | (go_simp; with_reducible rfl))
   simp only [Act.put, List.setIfInBounds_toArray, List.set_cons_zero, List.set_cons_succ]
   refine wpAnyU_put 11 (some 35) (v := ?v11) rfl rfl (by kernel_rfl) (by kernel_rfl) (by kernel_rfl) (by kernel_rfl) (fun _ _ _ h => h) (Or.inl ⟨by rfl, ?hy11⟩) hHeld ?rest11
   case hy11 => (intro w2 hSw; (try dsimp only at hSw); first | (go_simp; done) | (go_simp; with_reducible rfl))
   simp only [Act.put, List.setIfInBounds_toArray, List.set_cons_zero, List.set_cons_succ]
   refine wpAnyU_one (i := 7) (by kernel_rfl) rfl (fun K7 hK7 => ?_)
   refine step_append_intsG rfl (.tmp 28) (.tmp 30) rfl rfl (.slice ad1 n.ins.length cap1) rfl n.ins (by omega) (HR.out _ (by (repeat (first | exact Below.refl _ _ | assumption | refine Below.drew ?_ | refine bT ?_ _ | refine bS ?_ _ | refine bA ?_ _)))) ?_
   intro ad3 cap3 W3 ho3 hb3
   have hb3' : Below Xq.heap.size Xq W3 := bl_trans (Below.drew (Below.refl _ _)) (Nat.le_refl _) hb3
   have s3 := HK.out W3 hb3'
   change K7 (Act.put _ (some 31) _) W3
   refine hK7.out _ _ (fun _ => s3) (fun _ => ?_)
   clear hK7 hHeld K7
   have hHeld := s3
   clear s3
   simp only [Act.put, List.setIfInBounds_toArray, List.set_cons_zero, List.set_cons_succ]
   refine wpAnyU_put 12 (some 36) (v := ?v12) rfl rfl (by kernel_rfl) (by kernel_rfl) (by kernel_rfl) (by kernel_rfl) (fun _ _ _ h => h) (Or.inl ⟨by rfl, ?hy12⟩) hHeld ?rest12
   case hy12 => (intro w2 hSw; (try dsimp only at hSw); first | (go_simp; done) | (go_simp; with_reducible rfl))
   simp only [Act.put, List.setIfInBounds_toArray, List.set_cons_zero, List.set_cons_succ]
   have hbb : Below Xq.heap.size Xq (W3.alloc (.cells #[.string ⟨n.kind.toArray⟩, .slice ad3 n.ins.length cap3, .int .i64 n.num, .string ⟨n.name.toArray⟩] 55)) := bl_trans hb3' hb3'.size (box_blk _ _ _)
   have s13 := HK.out _ hbb
   refine wpAnyU_one (i := 13) (by kernel_rfl) rfl (fun K13 hK13 => ?_)
   go_simp
   refine hK13.out _ _ (fun _ => s13) (fun _ => ?_)
   clear hK13 hHeld K13
   refine wpAnyU_one (i := 14) (by kernel_rfl) rfl (fun K14 hK14 => ?_)
   refine step_append_lies _ rfl (.tmp 25) (.tmp 37) 27 rfl (w.heap.size + 3) 55 i0 _ 4 64 Tryz.underlying27 hi iz0 iz1 iz2 rfl (by decide) (.slice lad q lcap) q xs rfl (owns_below HXW.out hbb) ⟨W3.heap.size, 0, none⟩ 1 1 [.string ⟨n.kind.toArray⟩, .slice ad3 n.ins.length cap3, .int .i64 n.num, .string ⟨n.name.toArray⟩] rfl rfl (World.news_of_block (heap_alloc_new _ _)) (nd_one n ad3 n.ins.length cap3) (by decide) (by unfold maxLen; omega) (by omega) (by have := hb3'.size; simp; omega) _ rfl ?_
   intro g4 cap4 W4 ho4 hg4 hl4 _
   have hq4 : W4.heap[w.heap.size + 1 + 1]? = some (.cells (gcR nm0 P (.slice lad q lcap)) 29 (0, 0)) := ((hg4.block _ (by have := hb3'.size; simp; omega) (fun e => by have := (HO.out.lt _ e.symm).1; omega)).trans (hbb.block _ hzo)).trans HOX.out
   have hn4 : W4.heap[wr.heap.size]? = _ := ((hg4.block _ (by have := hb3'.size; have := heap_lt HNX.out; simp; omega) (fun e => by have := (HO.out.lt _ e.symm).2; omega)).trans (hbb.block _ (heap_lt HNX.out))).trans HNX.out
   have f3 := free_of_blk hq4 2
   have s3 := cell_of_blk hq4 2
   simp only [gcR, List.getElem?_toArray, List.getElem?_cons_zero, List.getElem?_cons_succ] at s3
   change K14 (Act.put _ (some 38) _) W4
   refine hK14.out _ _ (fun _ => ⟨cell_of_blk hn4 0, cell_of_blk hn4 1, cell_of_blk hn4 2, cell_of_blk hn4 3, cell_of_blk hq4 2⟩) (fun hHeld => ?_)
   clear hK14 K14
   simp only [Act.put, List.setIfInBounds_toArray, List.set_cons_zero, List.set_cons_succ]
   refine wpAnyU_put 15 (some 39) (v := ?v15) rfl rfl (by kernel_rfl) (by kernel_rfl) (by kernel_rfl) (by kernel_rfl) (fun _ _ _ h => h) (Or.inl ⟨by rfl, ?hy15⟩) (hHeld (by decide)) ?rest15
   case hy15 => (intro w2 hSw; (try dsimp only at hSw); first | (go_simp; done) | (go_simp; with_reducible rfl))
   simp only [Act.put, List.setIfInBounds_toArray, List.set_cons_zero, List.set_cons_succ]
   have hfin := HPS.out _ W3 W4 _ ad3 cap3 (Below.drew (Below.refl _ _)) hb3 ho3 hg4 ho4 (by rcases hl4 with e | e; exact Or.inl e.symm; right; simp only [Value.ownBlock]; rw [e]; simp)
   rw [← HTK.out] at hfin
   have HFIN := hidX hfin
   clear hfin hHeld ho3 hb3 hb3' hbb s13 ho4 hg4 hl4 hq4 hn4
   refine wpAnyU_one (i := 16) (by kernel_rfl) rfl (fun K16 hK16 => ?_)
   go_simp
   refine hK16.out _ _ (fun h => absurd rfl h) (fun _ => ?_)
   clear hK16 K16
   refine wpAnyU_done (by kernel_rfl) ?_ _
   go_wp2
   go_roundw
   case rel => exact ⟨q + 1, _, by omega, by go_num, HFIN.out⟩
   case measure => simp [intOf]; omega
  ·have hqn : q = L.length := by omega
   subst hqn
   have ha := HA.out
   rw [List.take_length] at ha
   obtain ⟨xs, ho, hx⟩ := ha.row
   have c0 : wr.cell? ⟨w.heap.size + 1 + 1, 0, none⟩ = some (.string ⟨nm0.toArray⟩) := cell_of_blk ha.out 0
   have c1 : wr.cell? ⟨w.heap.size + 1 + 1, 1, none⟩ = some (.int .i64 P) := cell_of_blk ha.out 1
   have c2 : wr.cell? ⟨w.heap.size + 1 + 1, 2, none⟩ = some lv := cell_of_blk ha.out 2
   have e0 : wr.cell? ⟨w.heap.size + 1, 0, none⟩ = some (.string ⟨#[]⟩) := cell_of_blk ha.res 0
   have e1 : wr.cell? ⟨w.heap.size + 1, 1, none⟩ = some (.int .i64 0) := cell_of_blk ha.res 1
   have e2 : wr.cell? ⟨w.heap.size + 1, 2, none⟩ = some (.slice none 0 0) := cell_of_blk ha.res 2
   have f0 := free_of_blk ha.res 0
   have f1 := free_of_blk ha.res 1
   have f2 := free_of_blk ha.res 2
   obtain ⟨lad, lcap, rfl⟩ := own_is ho
   have HAA := hidX ha
   have HO := hidX ho
   have HX := hidX hx
   clear ha ho hx HA
   go_wp2
   refine ret3 (sl := 2) (by kernel_rfl) rfl HAA.out.res _ _ _ ?_
   refine ⟨_, rfl, ⟨xs, (xrow_own HO.out).imp (fun b hb => by rw [InH, set3_size]; exact hb.2) (fun b hb => set3_far (by have := hb.1; omega)), XNs.imp (fun b hb => by rw [InH, set3_size]; exact hb.2.1) (fun b hb => set3_far (by have := hb.1; omega)) _ _ HX.out⟩, ?_⟩
   exact (((HAA.out.low.setCell (by show w.heap.size ≤ w.heap.size + 1; omega) _).setCell (by show w.heap.size ≤ w.heap.size + 1; omega) _).setCell (by show w.heap.size ≤ w.heap.size + 1; omega) _)
end Go.Proofs.YtlgejjmdanmglaaGreatDoor
