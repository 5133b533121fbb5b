/- Our own: texts joined: RwDone, GrSame, GrOfDone. -/
import Derived.Test.YtimccbilkjjakaaDoorZGRec
import Derived.BigQuiet
import Derived.Deep.QuietTactic
import Derived.Test.YtimccbilkjjakaaDoorZBase
import Derived.Test.YtimccbilkjjakaaDoorZRets
import Derived.Test.YtimccbilkjjakaaDoorZSetS
namespace Go.Proofs.YtimccbilkjjakaaDoor
open Go.RowKit
abbrev dnV (how : List UInt8) (val tks : Int) (outv callv : Value) : List Value := [.string ⟨how.toArray⟩, .int .i64 val, outv, .int .i64 tks, callv]
structure DnJ (S : Nat → Prop) (X : World) (rb : Nat) (s : Rst) (outv callv : Value) (xs : List Value) : Prop where
 blk : X.heap[rb]? = some (.cells (dnV s.how s.val s.tks outv callv).toArray 42 (0, 0))
 out : X.ownsRow 0 3 1 outv s.out.length (intsG s.out)
 outS : ∀ b, outv.ownBlock = some b → S b
 call : X.ownsRow 0 74 2 callv s.calls.length xs
 callS : ∀ b, callv.ownBlock = some b → S b
 tel : XCs (fun b => S b ∧ callv.ownBlock ≠ some b ∧ outv.ownBlock ≠ some b) X s.calls xs
 apart : ∀ b, outv.ownBlock = some b → callv.ownBlock ≠ some b
 sl : ∀ b, S b → b < X.heap.size ∧ b ≠ rb
def DnTo (S : Nat → Prop) (n0 : Nat) (X : World) (rb : Nat) (s : Rst) : Prop := ∃ S', (∀ b, S' b → S b ∨ n0 ≤ b) ∧ ∃ outv callv xs, DnJ S' X rb s outv callv xs
section
variable {S : Nat → Prop} {X Y : World} {rb : Nat} {s : Rst} {outv callv : Value} {xs : List Value}
theorem DnJ.rl (h : DnJ S X rb s outv callv xs) : rb < X.heap.size := heap_lt h.blk
theorem DnJ.keep (h : DnJ S X rb s outv callv xs) (hz : X.heap.size ≤ Y.heap.size) (hb : ∀ k, k = rb ∨ S k → Y.heap[k]? = X.heap[k]?) : DnJ S Y rb s outv callv xs :=
 ⟨(hb rb (Or.inl rfl)).trans h.blk, own_same h.out (fun b e => hb b (Or.inr (h.outS b e))), h.outS, own_same h.call (fun b e => hb b (Or.inr (h.callS b e))), h.callS, h.tel.imp (fun _ h => h) (fun b e => hb b (Or.inr e.1)), h.apart, fun b e => ⟨by have := (h.sl b e).1; omega, (h.sl b e).2⟩⟩
theorem DnJ.own (h : DnJ S X rb s outv callv xs) (hb : But rb X Y) {s' : Rst} (ho : s'.out = s.out) (hc : s'.calls = s.calls) (hk : Y.heap[rb]? = some (.cells (dnV s'.how s'.val s'.tks outv callv).toArray 42 (0, 0))) : DnJ S Y rb s' outv callv xs := by
 have hS : ∀ k, S k → Y.heap[k]? = X.heap[k]? := fun k e => hb.block k (h.sl k e).1 (h.sl k e).2
 refine ⟨hk, ?_, h.outS, ?_, h.callS, ?_, h.apart, fun b e => ⟨by have := (h.sl b e).1; have := hb.size; omega, (h.sl b e).2⟩⟩
 ·rw [ho]; exact own_same h.out (fun b e => hS b (h.outS b e))
 ·rw [hc]; exact own_same h.call (fun b e => hS b (h.callS b e))
 ·rw [hc]; exact h.tel.imp (fun _ h => h) (fun b e => hS b e.1)
theorem DnJ.set (h : DnJ S X rb s outv callv xs) {s' : Rst} (ho : s'.out = s.out) (hc : s'.calls = s.calls) (i : Nat) (u : Value) (hk : (dnV s.how s.val s.tks outv callv).set i u = dnV s'.how s'.val s'.tks outv callv) : DnJ S (X.setCell ⟨rb, i, none⟩ u) rb s' outv callv xs :=
 h.own ((But.refl _ _).set i u) ho hc (by rw [blk_setCell h.blk i u, List.setIfInBounds_toArray, hk])
theorem DnJ.print (h : DnJ S X rb s outv callv xs) {Z W4 : World} {v' : Value} {x : Int} (hZ : Below X.heap.size X Z) (hg : Z.grownBy W4 outv.ownBlock) (ho : W4.ownsRow 0 3 1 v' (s.out.length + 1) (intsG s.out ++ [.int .i64 x])) (hv : v'.ownBlock = outv.ownBlock ∨ ∃ b, v'.ownBlock = some b ∧ X.heap.size ≤ b) :
  (∀ b, b < X.heap.size → ¬ S b → W4.heap[b]? = X.heap[b]?) ∧ DnTo S X.heap.size (W4.setCell ⟨rb, 2, none⟩ v') rb { s with out := s.out ++ [x] } := by
 have zz := hg.size
 have zz' : X.heap.size ≤ W4.heap.size := Nat.le_trans hZ.size zz
 have hrl := h.rl
 have key : ∀ b, b < X.heap.size → outv.ownBlock ≠ some b → W4.heap[b]? = X.heap[b]? := fun b hb hne =>
  (hg.block b (Nat.lt_of_lt_of_le hb hZ.size) (fun e => hne e.symm)).trans (hZ.block b hb)
 have hrb : W4.heap[rb]? = X.heap[rb]? := key rb hrl (fun e => (h.sl rb (h.outS rb e)).2 rfl)
 have hfar : ∀ b, b ≠ rb → (W4.setCell ⟨rb, 2, none⟩ v').heap[b]? = W4.heap[b]? := fun b hb => Below.heap_setCell _ _ _ _ hb
 have hsz : (W4.setCell ⟨rb, 2, none⟩ v').heap.size = W4.heap.size := by simp [World.setCell]
 have hne : ∀ b, b < X.heap.size → outv.ownBlock ≠ some b → v'.ownBlock ≠ some b := fun b hl hn e => by
  rcases hv with hv | ⟨c, hv, hc⟩
  ·rw [hv] at e; exact hn e
  ·rw [hv] at e; injection e with e; omega
 have hvr : ∀ b, v'.ownBlock = some b → b ≠ rb := fun b e er => by
  subst er
  exact hne _ hrl (fun e => (h.sl _ (h.outS _ e)).2 rfl) e
 have hvl : ∀ b, v'.ownBlock = some b → b < W4.heap.size := fun b e => (ho.lt b e).2
 refine ⟨fun b hb hS => key b hb (fun e => hS (h.outS b e)), ⟨fun b => S b ∨ v'.ownBlock = some b, fun b e => ?_, v', callv, xs, ?_, ?_, fun b e => Or.inr e, ?_, fun b e => Or.inl (h.callS b e), ?_, fun b e e2 => ?_, fun b e => ?_⟩⟩
 ·rcases e with e | e
  ·exact Or.inl e
  ·rcases hv with hv | ⟨c, hv, hc⟩
   ·rw [hv] at e; exact Or.inl (h.outS b e)
   ·rw [hv] at e; injection e with e; subst e; exact Or.inr hc
 ·have := blk_setCell (hrb.trans h.blk) 2 v'
  simpa using this
 ·show World.ownsRow _ 0 _ 1 v' (s.out ++ [x]).length (intsG (s.out ++ [x]))
  rw [List.length_append]
  have hmap : intsG (s.out ++ [x]) = intsG s.out ++ [.int .i64 x] := by simp [intsG]
  rw [hmap]
  exact own_same ho (fun b hb => hfar b (hvr b hb))
 ·exact own_same h.call (fun b e => by
   have hsl := h.sl b (h.callS b e)
   rw [hfar b hsl.2]
   exact key b hsl.1 (fun e2 => h.apart b e2 e))
 ·exact h.tel.imp (fun b e => ⟨Or.inl e.1, e.2.1, hne b (h.sl b e.1).1 e.2.2⟩) (fun b e => by
   rw [hfar b (h.sl b e.1).2]
   exact key b (h.sl b e.1).1 e.2.2)
 ·have hsl := h.sl b (h.callS b e2)
  exact hne b hsl.1 (fun e3 => h.apart b e3 e2) e
 ·rw [hsz]
  rcases e with e | e
  ·have := h.sl b e; exact ⟨by omega, this.2⟩
  ·exact ⟨hvl b e, hvr b e⟩
theorem DnJ.called (h : DnJ S X rb s outv callv xs) {Z W4 : World} {v' av : Value} {nm : List UInt8} {vs : List Int} (hZ : Below X.heap.size X Z) (hg : Z.grownBy W4 callv.ownBlock) (ho : W4.ownsRow 0 74 2 v' (s.calls.length + 1) (xs ++ [.string ⟨nm.toArray⟩, av])) {V : Nat → Prop} {n0 : Nat} (hn0 : n0 ≤ X.heap.size) (hV : ∀ b, V b → b < Z.heap.size ∧ b ≠ rb ∧ ¬ S b ∧ n0 ≤ b) (hav : XRow V Z av vs.length (intsG vs)) (hv : v'.ownBlock = callv.ownBlock ∨ ∃ b, v'.ownBlock = some b ∧ Z.heap.size ≤ b) :
  (∀ b, b < X.heap.size → ¬ S b → W4.heap[b]? = X.heap[b]?) ∧ DnTo S n0 (W4.setCell ⟨rb, 4, none⟩ v') rb { s with calls := s.calls ++ [(nm, vs)] } := by
 have zz := hg.size
 have z1 := hZ.size
 have zz' : X.heap.size ≤ W4.heap.size := Nat.le_trans hZ.size zz
 have hrl := h.rl
 have key : ∀ b, b < X.heap.size → callv.ownBlock ≠ some b → W4.heap[b]? = X.heap[b]? := fun b hb hne =>
  (hg.block b (Nat.lt_of_lt_of_le hb hZ.size) (fun e => hne e.symm)).trans (hZ.block b hb)
 have hrb : W4.heap[rb]? = X.heap[rb]? := key rb hrl (fun e => (h.sl rb (h.callS rb e)).2 rfl)
 have hfar : ∀ b, b ≠ rb → (W4.setCell ⟨rb, 4, none⟩ v').heap[b]? = W4.heap[b]? := fun b hb => Below.heap_setCell _ _ _ _ hb
 have hsz : (W4.setCell ⟨rb, 4, none⟩ v').heap.size = W4.heap.size := by simp [World.setCell]
 have hne : ∀ b, b < Z.heap.size → callv.ownBlock ≠ some b → v'.ownBlock ≠ some b := fun b hl hn e => by
  rcases hv with hv | ⟨c, hv, hc⟩
  ·rw [hv] at e; exact hn e
  ·rw [hv] at e; injection e with e; omega
 have hvr : ∀ b, v'.ownBlock = some b → b ≠ rb := fun b e er => by
  subst er
  exact hne _ (by omega) (fun e => (h.sl _ (h.callS _ e)).2 rfl) e
 have hvl : ∀ b, v'.ownBlock = some b → b < W4.heap.size := fun b e => (ho.lt b e).2
 have hcl : ∀ b, callv.ownBlock = some b → b < X.heap.size := fun b e => (h.sl b (h.callS b e)).1
 have hol : ∀ b, outv.ownBlock = some b → b < X.heap.size := fun b e => (h.sl b (h.outS b e)).1
 refine ⟨fun b hb hS => key b hb (fun e => hS (h.callS b e)), ⟨fun b => S b ∨ v'.ownBlock = some b ∨ V b, fun b e => ?_, outv, v', _, ?_, ?_, fun b e => Or.inl (h.outS b e), (by show World.ownsRow _ 0 _ 2 v' (s.calls ++ [(nm, vs)]).length _; rw [List.length_append]; exact own_same ho (fun b hb => hfar b (hvr b hb))), fun b e => Or.inr (Or.inl e), ?_, fun b e e2 => ?_, fun b e => ?_⟩⟩
 ·rcases e with e | e | e
  ·exact Or.inl e
  ·rcases hv with hv | ⟨c, hv, hc⟩
   ·rw [hv] at e; exact Or.inl (h.callS b e)
   ·rw [hv] at e; injection e with e; subst e; exact Or.inr (by omega)
  ·exact Or.inr (hV b e).2.2.2
 ·have := blk_setCell (hrb.trans h.blk) 4 v'
  simpa using this
 ·exact own_same h.out (fun b e => by
   have hsl := h.sl b (h.outS b e)
   rw [hfar b hsl.2]
   exact key b hsl.1 (fun e2 => h.apart b e e2))
 ·refine XCs.snoc (h.tel.imp (fun b e => ⟨Or.inl e.1, hne b (by have := (h.sl b e.1).1; omega) e.2.1, e.2.2⟩) (fun b e => by
   rw [hfar b (h.sl b e.1).2]
   exact key b (h.sl b e.1).1 e.2.1)) ⟨av, rfl, hav.imp (fun b e => ⟨Or.inr (Or.inr e), hne b (hV b e).1 (fun e2 => (hV b e).2.2.1 (h.callS b e2)), fun e2 => (hV b e).2.2.1 (h.outS b e2)⟩) (fun b e => by
   rw [hfar b (hV b e).2.1]
   exact hg.block b (hV b e).1 (fun e2 => (hV b e).2.2.1 (h.callS b e2.symm)))⟩
 ·exact hne b (by have := hol b e; omega) (fun e3 => h.apart b e e3) e2
 ·rw [hsz]
  rcases e with e | e | e
  ·have := h.sl b e; exact ⟨by omega, this.2⟩
  ·exact ⟨hvl b e, hvr b e⟩
  ·exact ⟨by have := (hV b e).1; omega, (hV b e).2.1⟩
end
end Go.Proofs.YtimccbilkjjakaaDoor
namespace Go.Proofs.YtimccbilkjjakaaDoor
open Go.RowKit
theorem told_info : (Tryd.prog.info? 74).map (fun i => (i.zero, i.size, i.bytes)) = some (some (.agg #[.string ⟨#[]⟩, .slice none 0 0]), 2, 40) := by kernel_rfl
set_option maxRecDepth 100000 in
set_option maxHeartbeats 2000000 in
theorem sameInts_g (l : List Int) (hn : l.length ≤ 1000000) (w : World) (ad ad' : Option Addr) (c c' : Nat) (h1 : XRow (InH w) w (.slice ad l.length c) l.length (intsG l)) (h2 : XRow (InH w) w (.slice ad' l.length c') l.length (intsG l)) :
  Calls Tryd.prog 24 #[.slice ad l.length c, .slice ad' l.length c'] w fun e w' => e = .returned (.bool true) ∧ ∃ n, w' = w.drewN n := by
 have R1 := hidX h1
 have R2 := hidX h2
 have hn' : (l.length : Int) ≤ 1000000 := by omega
 clear h1 h2
 go_enter Tryd.func24, Tryd.ntmps24
 go_wp2_with fail
 go_loopw [5] (fun i wr => ∃ q : Nat, q ≤ l.length ∧ i = .int .i64 q ∧ Hid (∃ n, wr = w.drewN n)) (fun i _ => l.length - (intOf i).toNat)
 case atStart => exact ⟨0, by omega, rfl, 0, rfl⟩
 case round =>
  obtain ⟨q, hq, rfl, HN⟩ := hrel
  obtain ⟨nd, hnd⟩ := HN.out
  by_cases hlt : q < l.length
  ·have hlt' : (q : Int) < (l.length : Int) := by omega
   obtain ⟨g, off, e1, hg, ht0⟩ := R1.out.int hlt
   obtain ⟨g', off', e2, hg', ht0'⟩ := R2.out.int hlt
   subst e1 e2
   have ht : wr.cell? ⟨g, off + q, none⟩ = some (.int .i64 l[q]) := by rw [hnd]; exact ht0
   have ht' : wr.cell? ⟨g', off' + q, none⟩ = some (.int .i64 l[q]) := by rw [hnd]; exact ht0'
   generalize l[q] = x at ht ht' ht0 ht0'
   have HF := hidX (fun k => (show ∃ n, wr.drewN k = w.drewN n from ⟨nd + k, by rw [hnd, World.drewN_drewN]⟩))
   clear ht0 ht0' hnd HN
   go_wp2_with fail
   go_quiet (fail)
   go_wp2
   go_roundw
   case rel => exact ⟨q + 1, by omega, by go_num, HF.out _⟩
   case measure => simp [intOf]; omega
  ·have hqn : q = l.length := by omega
   subst hqn
   clear hnd
   go_wp2
   go_ret
   exact ⟨rfl, HN.out⟩
theorem XCs.at {A : Nat → Prop} {w : World} : ∀ {l : List (List UInt8 × List Int)} {xs : List Value} {i : Nat} (hi : i < l.length), XCs A w l xs → ∃ v, xs[i * 2]? = some (.string ⟨l[i].1.toArray⟩) ∧ xs[i * 2 + 1]? = some v ∧ XRow A w v l[i].2.length (intsG l[i].2)
 | [], _, _, hi, _ => absurd hi (by simp)
 | c :: r, _, 0, _, ⟨_, _, rfl, ⟨v, rfl, h⟩, _⟩ => ⟨v, rfl, rfl, h⟩
 | c :: r, _, i + 1, hi, ⟨_, zs, rfl, ⟨v, rfl, _⟩, h⟩ => by
  obtain ⟨u, h1, h2, h3⟩ := XCs.at (l := r) (i := i) (by simpa using hi) h
  refine ⟨u, ?_, ?_, h3⟩
  ·rw [show (i + 1) * 2 = i * 2 + 1 + 1 by omega]; exact h1
  ·rw [show (i + 1) * 2 + 1 = i * 2 + 1 + 1 + 1 by omega]; exact h2
def DoneR (w : World) (v : Value) (st : Rst) : Prop := ∃ outv callv xs, v = .agg (dnV st.how st.val st.tks outv callv).toArray ∧ XRow (InH w) w outv st.out.length (intsG st.out) ∧ XRow (InH w) w callv st.calls.length xs ∧ XCs (InH w) w st.calls xs
set_option maxRecDepth 100000 in
set_option maxHeartbeats 4000000 in
theorem sameDone_any {w : World} {v1 v2 : Value} {st : Rst} (h1 : DoneR w v1 st) (h2 : DoneR w v2 st) (ho : st.out.length ≤ 1000000) (hc : st.calls.length ≤ 1000000) (hca : ∀ c ∈ st.calls, c.2.length ≤ 1000000) :
  Calls Tryd.prog 12 #[v1, v2] w fun e w' => e = .returned (.bool true) ∧ Below w.heap.size w w' := by
 obtain ⟨o1, c1, xs1, rfl, ho1, hc1, hx1⟩ := h1
 obtain ⟨o2, c2, xs2, rfl, ho2, hc2, hx2⟩ := h2
 obtain ⟨oa1, oc1, rfl⟩ := ho1.is
 obtain ⟨oa2, oc2, rfl⟩ := ho2.is
 obtain ⟨ca1, cc1, rfl⟩ := hc1.is
 obtain ⟨ca2, cc2, rfl⟩ := hc2.is
 obtain ⟨W0, hW0⟩ : ∃ W0, W0 = (w.alloc (.cells (dnV st.how st.val st.tks (.slice oa1 st.out.length oc1) (.slice ca1 st.calls.length cc1)).toArray 42)).alloc (.cells (dnV st.how st.val st.tks (.slice oa2 st.out.length oc2) (.slice ca2 st.calls.length cc2)).toArray 42) := ⟨_, rfl⟩
 have hb0 : Below w.heap.size w W0 := by rw [hW0]; (repeat (first | exact Below.refl _ _ | assumption | refine Below.drew ?_ | refine bT ?_ _ | refine bS ?_ _ | refine bA ?_ _))
 have hy1 : W0.heap[w.heap.size]? = some (.cells (dnV st.how st.val st.tks (.slice oa1 st.out.length oc1) (.slice ca1 st.calls.length cc1)).toArray 42 (0, 0)) := by rw [hW0]; exact (Below.heap_alloc _ _ _ (by simp)).trans (heap_alloc_new w _)
 have hy2 : W0.heap[w.heap.size + 1]? = some (.cells (dnV st.how st.val st.tks (.slice oa2 st.out.length oc2) (.slice ca2 st.calls.length cc2)).toArray 42 (0, 0)) := by rw [hW0]; exact heap_alloc2_new w _ _
 have hcl : (st.calls.length : Int) ≤ 1000000 := by omega
 have HB0 := hidX hb0
 have HY1 := hidX hy1
 have HY2 := hidX hy2
 have HSI := hidX (fun nn => sameInts_g st.out ho (W0.drewN nn) oa1 oa2 oc1 oc2 (ho1.imp (fun b hb => Nat.lt_of_lt_of_le hb hb0.size) (fun b hb => hb0.block b hb)) (ho2.imp (fun b hb => Nat.lt_of_lt_of_le hb hb0.size) (fun b hb => hb0.block b hb)))
 have HC1 := hidX (hc1.imp (inH_up hb0) (keepH hb0))
 have HC2 := hidX (hc2.imp (inH_up hb0) (keepH hb0))
 have HX1 := hidX (hx1.imp (inH_up hb0) (keepH hb0))
 have HX2 := hidX (hx2.imp (inH_up hb0) (keepH hb0))
 have HCA := hidX hca
 clear ho1 ho2 hc1 hc2 hx1 hx2 hb0 hy1 hy2 hca
 have hzz : w.heap.size + 1 < W0.heap.size := heap_lt HY2.out
 have d0 := cell_of_blk HY1.out 0
 have d1 := cell_of_blk HY1.out 1
 have d3 := cell_of_blk HY1.out 3
 have d4 := cell_of_blk HY1.out 4
 have e0 := cell_of_blk HY2.out 0
 have e1 := cell_of_blk HY2.out 1
 have e3 := cell_of_blk HY2.out 3
 have e4 := cell_of_blk HY2.out 4
 simp only [List.getElem?_toArray, List.getElem?_cons_zero, List.getElem?_cons_succ] at d0 d1 d3 d4 e0 e1 e3 e4
 go_enter Tryd.func12, Tryd.ntmps12
 go_wp2_with fail
 rw [← hW0]
 clear hW0 d0 d1 d3 e0 e1 e3
 go_loopw [5] (fun i wr => ∃ q : Nat, q ≤ st.calls.length ∧ i = .int .i64 q ∧ Hid (∃ n, wr = W0.drewN n)) (fun i _ => st.calls.length - (intOf i).toNat)
 case atStart => exact ⟨0, by omega, rfl, 0, rfl⟩
 case round =>
  obtain ⟨q, hq, rfl, HN⟩ := hrel
  obtain ⟨nd, hnd⟩ := HN.out
  have d4' : wr.cell? ⟨w.heap.size, 4, none⟩ = some (.slice ca1 st.calls.length cc1) := by rw [hnd]; exact d4
  have e4' : wr.cell? ⟨w.heap.size + 1, 4, none⟩ = some (.slice ca2 st.calls.length cc2) := by rw [hnd]; exact e4
  by_cases hlt : q < st.calls.length
  ·have hlt' : (q : Int) < (st.calls.length : Int) := by omega
   obtain ⟨a1, x1, x2, hr1⟩ := HX1.out.at hlt
   obtain ⟨a2, y1, y2, hr2⟩ := HX2.out.at hlt
   obtain ⟨g1, f1, q1, q2, q3⟩ := HC1.out.el 2 hlt (cs := [.string ⟨st.calls[q].1.toArray⟩, a1]) (fun j hj => by
    match j, hj with
    | 0, _ => exact x1
    | 1, _ => exact x2)
   obtain ⟨g2, f2, p1, p2, p3⟩ := HC2.out.el 2 hlt (cs := [.string ⟨st.calls[q].1.toArray⟩, a2]) (fun j hj => by
    match j, hj with
    | 0, _ => exact y1
    | 1, _ => exact y2)
   subst q1 p1
   have m1 : wr.cell? ⟨g1, f1 + q * 2, none⟩ = some (.string ⟨st.calls[q].1.toArray⟩) := by rw [hnd]; exact q3 0 _ (by decide) rfl
   have m2 : wr.cell? ⟨g1, f1 + q * 2 + 1, none⟩ = some a1 := by rw [hnd]; have := q3 1 _ (by decide) rfl; rwa [← Nat.add_assoc] at this
   have m3 : wr.cell? ⟨g2, f2 + q * 2, none⟩ = some (.string ⟨st.calls[q].1.toArray⟩) := by rw [hnd]; exact p3 0 _ (by decide) rfl
   have m4 : wr.cell? ⟨g2, f2 + q * 2 + 1, none⟩ = some a2 := by rw [hnd]; have := p3 1 _ (by decide) rfl; rwa [← Nat.add_assoc] at this
   obtain ⟨b1, u1, rfl⟩ := hr1.is
   obtain ⟨b2, u2, rfl⟩ := hr2.is
   have HSQ := hidX (fun k => sameInts_g st.calls[q].2 (HCA.out _ (List.getElem_mem hlt)) (wr.drewN k) b1 b2 u1 u2 (by rw [hnd]; exact hr1.imp (fun _ h => h) (fun _ _ => rfl)) (by rw [hnd]; exact hr2.imp (fun _ h => h) (fun _ _ => rfl)))
   have HF := hidX (fun k => (show ∃ n, wr.drewN k = W0.drewN n from ⟨nd + k, by rw [hnd, World.drewN_drewN]⟩))
   have tt : (st.calls[q].1 == st.calls[q].1) = true := by simp
   generalize st.calls[q].1 = nmq at *
   generalize st.calls[q].2.length = lq at *
   clear hnd HN x1 x2 y1 y2 hr1 hr2 q3 p3 d4 e4
   go_wp2_with fail
   go_quiet ((go_at_call 24; exact Calls.quiet_of (HSQ.out _)))
   go_wp2
   go_roundw
   case rel => exact ⟨q + 1, by omega, by go_num, HF.out _⟩
   case measure => simp [intOf]; omega
  ·have hqn : q = st.calls.length := by omega
   subst hqn
   subst hnd
   have d2 : (W0.drewN nd).cell? ⟨w.heap.size, 2, none⟩ = some (.slice oa1 st.out.length oc1) := cell_of_blk HY1.out 2
   have e2 : (W0.drewN nd).cell? ⟨w.heap.size + 1, 2, none⟩ = some (.slice oa2 st.out.length oc2) := cell_of_blk HY2.out 2
   have HSF := hidX (HSI.out nd)
   clear HN d4 e4
   go_wp2_with fail
   refine HSF.out.mono ?_
   rintro e W9 ⟨rfl, n9, h9⟩
   have HF := hidX (show Below w.heap.size w W9 from by rw [h9]; exact bl_trans HB0.out HB0.out.size (show Below W0.heap.size W0 ((W0.drewN nd).drewN n9) from by (repeat (first | exact Below.refl _ _ | assumption | refine Below.drew ?_ | refine bT ?_ _ | refine bS ?_ _ | refine bA ?_ _))))
   clear h9
   go_wp2
   go_ret
   exact ⟨rfl, HF.out⟩
end Go.Proofs.YtimccbilkjjakaaDoor
namespace Go.Proofs.YtimccbilkjjakaaDoor
open Go.RowKit
structure Tds (w X : World) (st : Rst) (outv cv : Value) (q : Nat) (xs : List Value) : Prop where
 low : Below (w.heap.size + 1 + 1) X X
 blk : X.heap[w.heap.size + 1 + 1]? = some (.cells (dnV st.how st.val st.tks outv cv).toArray 42 (0, 0))
 own : X.ownsRow (w.heap.size + 3) 74 2 cv q xs
 tel : XCs (InH w) X (st.calls.take q) xs
set_option maxRecDepth 100000 in
set_option maxHeartbeats 4000000 in
theorem ofDone_any {w : World} {v : Value} {st : Rst} (h : DoneV w v st) (hc : st.calls.length ≤ 100000) :
  Calls Tryd.prog 13 #[v] w fun e w' => Below w.heap.size w w' ∧ ∃ v', e = .returned v' ∧ DoneR w' v' st := by
 obtain ⟨ov, cv0, xs0, rfl, ho, hcr, hx⟩ := h
 obtain ⟨oa, oc, rfl⟩ := ho.is
 obtain ⟨ca, cc, rfl⟩ := hcr.is
 obtain ⟨W0, hW0⟩ : ∃ W0, W0 = ((w.alloc (.cells #[.string ⟨st.how.toArray⟩, .int .i64 st.val, .int .i64 st.tks, (.slice oa st.out.length oc), .slice ca st.calls.length cc] 48)).alloc (.cells #[.string ⟨#[]⟩, .int .i64 0, .slice none 0 0, .int .i64 0, .slice none 0 0] 42)).alloc (.cells #[.string ⟨st.how.toArray⟩, .int .i64 st.val, (.slice oa st.out.length oc), .int .i64 st.tks, .slice none 0 0] 42) := ⟨_, rfl⟩
 obtain ⟨t0, t1, t2⟩ := threeG w (.cells #[.string ⟨st.how.toArray⟩, .int .i64 st.val, .int .i64 st.tks, (.slice oa st.out.length oc), .slice ca st.calls.length cc] 48) (.cells #[.string ⟨#[]⟩, .int .i64 0, .slice none 0 0, .int .i64 0, .slice none 0 0] 42) (.cells #[.string ⟨st.how.toArray⟩, .int .i64 st.val, (.slice oa st.out.length oc), .int .i64 st.tks, .slice none 0 0] 42)
 rw [← hW0] at t0 t1 t2
 have hb0 : Below w.heap.size w W0 := by rw [hW0]; (repeat (first | exact Below.refl _ _ | assumption | refine Below.drew ?_ | refine bT ?_ _ | refine bS ?_ _ | refine bA ?_ _))
 have hz0 : W0.heap.size = w.heap.size + 3 := by rw [hW0]; simp
 have hcl : (st.calls.length : Int) ≤ 100000 := by omega
 have HT0 := hidX t0
 have HT1 := hidX t1
 have HB0 := hidX hb0
 have HZ0 := hidX hz0
 have HO := hidX ho
 have HC := hidX hcr
 have HX := hidX hx
 have HD0 := hidX (show Tds w W0 st (.slice oa st.out.length oc) (.slice none 0 0) 0 [] from ⟨Below.refl _ _, t2, World.ownsRow_nil _ _ _ _, rfl⟩)
 obtain ⟨i0, hi0, iz0, iz1, iz2⟩ := info_parts told_info
 clear ho hcr hx t0 t1 t2 hb0 hz0
 go_enter Tryd.func13, Tryd.ntmps13
 go_wp2_with fail
 rw [← hW0]
 clear hW0
 go_loopw [4] (fun vi wr => ∃ (q : Nat) (cv : Value) (xs : List Value), q ≤ st.calls.length ∧ vi = .int .i64 (q : Int) ∧ Hid (Tds w wr st (.slice oa st.out.length oc) cv q xs) ∧ Hid (Below (w.heap.size + 2) W0 wr)) (fun vi _ => st.calls.length - (intOf vi).toNat)
 case atStart => exact ⟨0, _, _, Nat.zero_le _, rfl, HD0.out, Below.refl _ _⟩
 case round =>
  obtain ⟨q, cv, xs, hq, rfl, HD, HB⟩ := hrel
  obtain ⟨ta, tc, rfl⟩ := own_is HD.out.own
  have hdb : w.heap.size + 2 < wr.heap.size := heap_lt HD.out.blk
  have hx0 := (HB.out.block w.heap.size (by omega)).trans HT0.out
  have hx1 := (HB.out.block (w.heap.size + 1) (by omega)).trans HT1.out
  have d4 : wr.cell? ⟨w.heap.size, 4, none⟩ = some (.slice ca st.calls.length cc) := cell_of_blk hx0 4
  by_cases hlt : q < st.calls.length
  ·have hlt' : (q : Int) < (st.calls.length : Int) := by omega
   obtain ⟨a1, x1, x2, hr1⟩ := HX.out.at hlt
   obtain ⟨g1, f1, q1, q2, q3⟩ := HC.out.el 2 hlt (cs := [.string ⟨st.calls[q].1.toArray⟩, a1]) (fun j hj => by
    match j, hj with
    | 0, _ => exact x1
    | 1, _ => exact x2)
   subst q1
   obtain ⟨b1, u1, rfl⟩ := hr1.is
   have hg1 : g1 < w.heap.size := q2
   have hkw : ∀ b, b < w.heap.size → wr.heap[b]? = w.heap[b]? := fun b hb => (HB.out.block b (by omega)).trans (HB0.out.block b hb)
   have m1 : wr.cell? ⟨g1, f1 + q * 2, none⟩ = some (.string ⟨st.calls[q].1.toArray⟩) := (World.cell?_of_block (a := ⟨g1, _, none⟩) (hkw g1 hg1)).trans (q3 0 _ (by decide) rfl)
   have m2 : wr.cell? ⟨g1, f1 + q * 2 + 1, none⟩ = some (.slice b1 st.calls[q].2.length u1) := (World.cell?_of_block (a := ⟨g1, _, none⟩) (hkw g1 hg1)).trans (by have := q3 1 _ (by decide) rfl; rwa [← Nat.add_assoc] at this)
   have o4 : wr.cell? ⟨w.heap.size + 1 + 1, 4, none⟩ = some (.slice ta q tc) := cell_of_blk HD.out.blk 4
   have hsn : st.calls.take (q + 1) = st.calls.take q ++ [(st.calls[q].1, st.calls[q].2)] := by rw [List.take_succ_eq_append_getElem hlt]
   have hXC : XC (InH w) wr (st.calls[q].1, st.calls[q].2) [.string ⟨st.calls[q].1.toArray⟩, .slice b1 st.calls[q].2.length u1] := ⟨_, rfl, hr1.imp (fun _ h => h) (fun b hb => hkw b hb)⟩
   have htl : q ≤ 100000 := by omega
   generalize st.calls[q].1 = nmq at *
   generalize st.calls[q].2 = lq at *
   have HSN := hidX hsn
   have HXC := hidX hXC
   have HK := hidX (fun (Y : World) (hY : Below wr.heap.size wr Y) => (show Y.cell? ⟨w.heap.size + 1 + 1, 4, none⟩ = some (.slice ta q tc) ∧ Y.cell? ⟨w.heap.size, 4, none⟩ = some (.slice (some ⟨g1, f1, none⟩) st.calls.length cc) ∧ Y.cell? ⟨g1, f1 + q * 2, none⟩ = some (.string ⟨nmq.toArray⟩) ∧ Y.cell? ⟨g1, f1 + q * 2 + 1, none⟩ = some (.slice b1 lq.length u1) from ⟨(hY.cell (p := ⟨w.heap.size + 1 + 1, 4, none⟩) hdb).trans o4, (hY.cell (p := ⟨w.heap.size, 4, none⟩) (by show w.heap.size < wr.heap.size; omega)).trans d4, (hY.cell (p := ⟨g1, _, none⟩) (by show g1 < wr.heap.size; omega)).trans m1, (hY.cell (p := ⟨g1, _, none⟩) (by show g1 < wr.heap.size; omega)).trans m2⟩))
   clear hsn hXC hr1 x1 x2 q3 hx0 hx1
   go_wp2_with fail
   refine wp_region_until (fun Y => Y.cell? ⟨w.heap.size + 1 + 1, 4, none⟩ = some (.slice ta q tc) ∧ Y.cell? ⟨w.heap.size, 4, none⟩ = some (.slice (some ⟨g1, f1, none⟩) st.calls.length cc) ∧ Y.cell? ⟨g1, f1 + q * 2, none⟩ = some (.string ⟨nmq.toArray⟩) ∧ Y.cell? ⟨g1, f1 + q * 2 + 1, none⟩ = some (.slice b1 lq.length u1)) 18 (by kernel_rfl) (HK.out _ (by (repeat (first | exact Below.refl _ _ | assumption | refine Below.drew ?_ | refine bT ?_ _ | refine bS ?_ _ | refine bA ?_ _)))) (fun hHeld => ?_)
   refine wpAnyU_put 0 (some 21) (v := ?v0) rfl rfl (by kernel_rfl) (by kernel_rfl) (by kernel_rfl) (by kernel_rfl) (fun _ _ _ h => h) (Or.inl ⟨by rfl, ?hy0⟩) hHeld ?rest0
   case hy0 => (intro w2 hSw; (try dsimp only at hSw); first | (go_simp; done) | (go_simp; with_reducible rfl))
   simp only [Act.put, List.setIfInBounds_toArray, List.set_cons_zero, List.set_cons_succ]
   refine wpAnyU_put 1 (some 22) (v := ?v1) rfl rfl (by kernel_rfl) (by kernel_rfl) (by kernel_rfl) (by kernel_rfl) (fun _ _ _ h => h) (Or.inl ⟨by rfl, ?hy1⟩) hHeld ?rest1
   case hy1 => (intro w2 hSw; (try dsimp only at hSw); first | (go_simp; done) | (go_simp; with_reducible rfl))
   simp only [Act.put, List.setIfInBounds_toArray, List.set_cons_zero, List.set_cons_succ]
   refine wpAnyU_put 2 (some 23) (v := ?v2) rfl rfl (by kernel_rfl) (by kernel_rfl) (by kernel_rfl) (by kernel_rfl) (fun _ _ _ h => h) (Or.inl ⟨by rfl, ?hy2⟩) hHeld ?rest2
   case hy2 => (intro w2 hSw; (try dsimp only at hSw); first | (go_simp; done) | (go_simp; with_reducible rfl))
   simp only [Act.put, List.setIfInBounds_toArray, List.set_cons_zero, List.set_cons_succ]
   refine wpAnyU_put 3 (some 24) (v := ?v3) rfl rfl (by kernel_rfl) (by kernel_rfl) (by kernel_rfl) (by kernel_rfl) (fun _ _ _ h => h) (Or.inl ⟨by rfl, ?hy3⟩) hHeld ?rest3
   case hy3 => (intro w2 hSw; (try dsimp only at hSw); first | (go_simp; done) | (go_simp; with_reducible rfl))
   simp only [Act.put, List.setIfInBounds_toArray, List.set_cons_zero, List.set_cons_succ]
   refine wpAnyU_put 4 (some 25) (v := ?v4) rfl rfl (by kernel_rfl) (by kernel_rfl) (by kernel_rfl) (by kernel_rfl) (fun _ _ _ h => h) (Or.inl ⟨by rfl, ?hy4⟩) hHeld ?rest4
   case hy4 => (intro w2 hSw; (try dsimp only at hSw); first | (go_simp; done) | (go_simp; with_reducible rfl))
   simp only [Act.put, List.setIfInBounds_toArray, List.set_cons_zero, List.set_cons_succ]
   refine wpAnyU_put 5 (some 26) (v := ?v5) rfl rfl (by kernel_rfl) (by kernel_rfl) (by kernel_rfl) (by kernel_rfl) (fun _ _ _ h => h) (Or.inl ⟨by rfl, ?hy5⟩) hHeld ?rest5
   case hy5 => (intro w2 hSw; (try dsimp only at hSw); first | (go_simp; done) | (go_simp; with_reducible rfl))
   simp only [Act.put, List.setIfInBounds_toArray, List.set_cons_zero, List.set_cons_succ]
   refine wpAnyU_put 6 (some 27) (v := ?v6) rfl rfl (by kernel_rfl) (by kernel_rfl) (by kernel_rfl) (by kernel_rfl) (fun _ _ _ h => h) (Or.inl ⟨by rfl, ?hy6⟩) hHeld ?rest6
   case hy6 => (intro w2 hSw; (try dsimp only at hSw); first | (go_simp; done) | (go_simp; with_reducible rfl))
   simp only [Act.put, List.setIfInBounds_toArray, List.set_cons_zero, List.set_cons_succ]
   refine wpAnyU_put 7 (some 28) (v := ?v7) rfl rfl (by kernel_rfl) (by kernel_rfl) (by kernel_rfl) (by kernel_rfl) (fun _ _ _ h => h) (Or.inl ⟨by rfl, ?hy7⟩) hHeld ?rest7
   case hy7 => (intro w2 hSw; (try dsimp only at hSw); first | (go_simp; done) | (go_simp; with_reducible rfl))
   simp only [Act.put, List.setIfInBounds_toArray, List.set_cons_zero, List.set_cons_succ]
   refine wpAnyU_put 8 (some 29) (v := ?v8) rfl rfl (by kernel_rfl) (by kernel_rfl) (by kernel_rfl) (by kernel_rfl) (fun _ _ _ h => h) (Or.inl ⟨by rfl, ?hy8⟩) hHeld ?rest8
   case hy8 => (intro w2 hSw; (try dsimp only at hSw); first | (go_simp; done) | (go_simp; with_reducible rfl))
   simp only [Act.put, List.setIfInBounds_toArray, List.set_cons_zero, List.set_cons_succ]
   refine wpAnyU_put 9 (some 30) (v := ?v9) rfl rfl (by kernel_rfl) (by kernel_rfl) (by kernel_rfl) (by kernel_rfl) (fun _ _ _ h => h) (Or.inl ⟨by rfl, ?hy9⟩) hHeld ?rest9
   case hy9 => (intro w2 hSw; (try dsimp only at hSw); first | (go_simp; done) | (go_simp; with_reducible rfl))
   simp only [Act.put, List.setIfInBounds_toArray, List.set_cons_zero, List.set_cons_succ]
   refine wpAnyU_put 10 (some 31) (v := ?v10) rfl rfl (by kernel_rfl) (by kernel_rfl) (by kernel_rfl) (by kernel_rfl) (fun _ _ _ h => h) (Or.inl ⟨by rfl, ?hy10⟩) hHeld ?rest10
   case hy10 => (intro w2 hSw; (try dsimp only at hSw); first | (go_simp; done) | (go_simp; with_reducible rfl))
   simp only [Act.put, List.setIfInBounds_toArray, List.set_cons_zero, List.set_cons_succ]
   refine wpAnyU_put 11 (some 32) (v := ?v11) rfl rfl (by kernel_rfl) (by kernel_rfl) (by kernel_rfl) (by kernel_rfl) (fun _ _ _ h => h) (Or.inl ⟨by rfl, ?hy11⟩) hHeld ?rest11
   case hy11 => (intro w2 hSw; (try dsimp only at hSw); first | (go_simp; done) | (go_simp; with_reducible rfl))
   simp only [Act.put, List.setIfInBounds_toArray, List.set_cons_zero, List.set_cons_succ]
   refine wpAnyU_put 12 (some 33) (v := ?v12) rfl rfl (by kernel_rfl) (by kernel_rfl) (by kernel_rfl) (by kernel_rfl) (fun _ _ _ h => h) (Or.inl ⟨by rfl, ?hy12⟩) hHeld ?rest12
   case hy12 => (intro w2 hSw; (try dsimp only at hSw); first | (go_simp; done) | (go_simp; with_reducible rfl))
   simp only [Act.put, List.setIfInBounds_toArray, List.set_cons_zero, List.set_cons_succ]
   refine wpAnyU_put 13 (some 34) (v := ?v13) rfl rfl (by kernel_rfl) (by kernel_rfl) (by kernel_rfl) (by kernel_rfl) (fun _ _ _ h => h) (Or.inl ⟨by rfl, ?hy13⟩) hHeld ?rest13
   case hy13 => (intro w2 hSw; (try dsimp only at hSw); first | (go_simp; done) | (go_simp; with_reducible rfl))
   simp only [Act.put, List.setIfInBounds_toArray, List.set_cons_zero, List.set_cons_succ]
   refine wpAnyU_put 14 (some 35) (v := ?v14) rfl rfl (by kernel_rfl) (by kernel_rfl) (by kernel_rfl) (by kernel_rfl) (fun _ _ _ h => h) (Or.inl ⟨by rfl, ?hy14⟩) hHeld ?rest14
   case hy14 => (intro w2 hSw; (try dsimp only at hSw); first | (go_simp; done) | (go_simp; with_reducible rfl))
   simp only [Act.put, List.setIfInBounds_toArray, List.set_cons_zero, List.set_cons_succ]
   have hbb : Below wr.heap.size wr (wr.drew.alloc (.cells #[.string ⟨nmq.toArray⟩, .slice b1 lq.length u1] 74)) := by (repeat (first | exact Below.refl _ _ | assumption | refine Below.drew ?_ | refine bT ?_ _ | refine bS ?_ _ | refine bA ?_ _))
   have s9' := HK.out _ hbb
   refine wpAnyU_one (i := 15) (by kernel_rfl) rfl (fun K15 hK15 => ?_)
   go_simp
   refine hK15.out _ _ (fun _ => s9') (fun _ => ?_)
   clear hK15 hHeld K15
   refine wpAnyU_one (i := 16) (by kernel_rfl) rfl (fun K16 hK16 => ?_)
   refine step_append_lies _ rfl (.tmp 22) (.tmp 36) 40 rfl (w.heap.size + 3) 74 i0 _ 2 40 Tryd.underlying40 hi0 iz0 iz1 iz2 rfl (by decide) (.slice ta q tc) q xs rfl (owns_below HD.out.own hbb) ⟨wr.heap.size, 0, none⟩ 1 1 [.string ⟨nmq.toArray⟩, .slice b1 lq.length u1] rfl rfl (World.news_of_block (heap_alloc_new wr.drew _)) (cl_one nmq ⟨_, _, _, rfl⟩) (by decide) (by unfold maxLen; omega) (by omega) (by simp; omega) _ rfl ?_
   intro g4 cap4 W4 ho4 hg4 hl4 _
   have key : ∀ b, b < wr.heap.size → (Value.slice ta q tc).ownBlock ≠ some b → W4.heap[b]? = wr.heap[b]? := fun b hb hne => (hg4.block b (Nat.lt_of_lt_of_le hb hbb.size) (fun e => hne e.symm)).trans (hbb.block b hb)
   have hol : ∀ b, (Value.slice ta q tc).ownBlock = some b → w.heap.size + 3 ≤ b := fun b e => (HD.out.own.lt b e).1
   have low : ∀ b, b < w.heap.size + 3 → W4.heap[b]? = wr.heap[b]? := fun b hb => key b (by omega) (fun e => by have := hol b e; omega)
   have hdb4 : W4.heap[w.heap.size + 1 + 1]? = _ := (low _ (by omega)).trans HD.out.blk
   have hzz4 : wr.heap.size ≤ W4.heap.size := Nat.le_trans hbb.size hg4.size
   have HH4 := hidX (show W4.cell? ⟨w.heap.size + 1 + 1, 4, none⟩ = some (.slice ta q tc) ∧ W4.cell? ⟨w.heap.size, 4, none⟩ = some (.slice (some ⟨g1, f1, none⟩) st.calls.length cc) ∧ W4.cell? ⟨g1, f1 + q * 2, none⟩ = some (.string ⟨nmq.toArray⟩) ∧ W4.cell? ⟨g1, f1 + q * 2 + 1, none⟩ = some (.slice b1 lq.length u1) from ⟨cell_of_blk hdb4 4, (World.cell?_of_block (a := ⟨w.heap.size, 4, none⟩) (low w.heap.size (by omega))).trans d4, (World.cell?_of_block (a := ⟨g1, _, none⟩) (low g1 (by omega))).trans m1, (World.cell?_of_block (a := ⟨g1, _, none⟩) (low g1 (by omega))).trans m2⟩)
   have s4 : W4.cell? ⟨w.heap.size + 1 + 1, 4, none⟩ = some (.slice ta q tc) := cell_of_blk hdb4 4
   have fr4 := free_of_blk hdb4 4
   have hset := blk_setCell hdb4 4 (.slice (some ⟨g4, 0, none⟩) (q + 1) cap4)
   have hfar : ∀ b, b ≠ w.heap.size + 1 + 1 → (W4.setCell ⟨w.heap.size + 1 + 1, 4, none⟩ (.slice (some ⟨g4, 0, none⟩) (q + 1) cap4)).heap[b]? = W4.heap[b]? := fun b hb => Below.heap_setCell _ _ _ _ hb
   have HD9 := hidX (show Tds w (W4.setCell ⟨w.heap.size + 1 + 1, 4, none⟩ (.slice (some ⟨g4, 0, none⟩) (q + 1) cap4)) st (.slice oa st.out.length oc) (.slice (some ⟨g4, 0, none⟩) (q + 1) cap4) (q + 1) (xs ++ [.string ⟨nmq.toArray⟩, .slice b1 lq.length u1]) from by
    refine ⟨Below.refl _ _, by simpa using hset, ?_, ?_⟩
    ·exact own_same ho4 (fun b hb => hfar b (by have := (ho4.lt b hb).1; omega))
    ·rw [HSN.out]
     exact XCs.snoc (HD.out.tel.imp (fun _ h => h) (fun b hb => (hfar b (by have : b < w.heap.size := hb; omega)).trans (low b (by have : b < w.heap.size := hb; omega)))) (HXC.out.imp (fun _ h => h) (fun b hb => (hfar b (by have : b < w.heap.size := hb; omega)).trans (low b (by have : b < w.heap.size := hb; omega)))))
   have HB9 := hidX (show Below (w.heap.size + 2) W0 (W4.setCell ⟨w.heap.size + 1 + 1, 4, none⟩ (.slice (some ⟨g4, 0, none⟩) (q + 1) cap4)) from ⟨hg4.os.trans (hbb.os.trans HB.out.os), hg4.tape.trans (hbb.tape.trans HB.out.tape), hg4.output.trans (hbb.output.trans HB.out.output), by have := HB.out.size; simp [World.setCell]; omega, fun b hb => (hfar b (by omega)).trans ((low b (by omega)).trans (HB.out.block b hb))⟩)
   change K16 (Act.put _ (some 37) _) W4
   refine hK16.out _ _ (fun _ => HH4.out) (fun _ => ?_)
   clear hK16 K16 key hol low hdb4 hset hfar
   simp only [Act.put, List.setIfInBounds_toArray, List.set_cons_zero, List.set_cons_succ]
   refine wpAnyU_one (i := 17) (by kernel_rfl) rfl (fun K17 hK17 => ?_)
   go_simp
   refine hK17.out _ _ (fun _ => HH4.out) (fun _ => ?_)
   clear hK17 K17 ho4 hg4 hl4 hbb s9'
   refine wpAnyU_one (i := 18) (by kernel_rfl) rfl (fun K18 hK18 => ?_)
   go_simp
   refine hK18.out _ _ (fun h => absurd rfl h) (fun _ => ?_)
   clear hK18 K18
   refine wpAnyU_done (by kernel_rfl) ?_ _
   go_wp2
   go_roundw
   case rel => exact ⟨q + 1, _, _, by omega, by go_num, HD9.out, HB9.out⟩
   case measure => simp [intOf]; omega
  ·have hqn : q = st.calls.length := by omega
   have hD := HD.out.own
   have hT := HD.out.tel
   have hbk := HD.out.blk
   rw [hqn, List.take_length] at hT
   rw [hqn] at hbk hD
   have HBK := hidX hbk
   have HDD := hidX hD
   have HTT := hidX hT
   have HX1 := hidX hx1
   have j0 : wr.cell? ⟨w.heap.size + 1 + 1, 0, none⟩ = _ := cell_of_blk hbk 0
   have j1 : wr.cell? ⟨w.heap.size + 1 + 1, 1, none⟩ = _ := cell_of_blk hbk 1
   have j2 : wr.cell? ⟨w.heap.size + 1 + 1, 2, none⟩ = _ := cell_of_blk hbk 2
   have j3 : wr.cell? ⟨w.heap.size + 1 + 1, 3, none⟩ = _ := cell_of_blk hbk 3
   have j4 : wr.cell? ⟨w.heap.size + 1 + 1, 4, none⟩ = _ := cell_of_blk hbk 4
   have k0 := cell_of_blk hx1 0
   have k1 := cell_of_blk hx1 1
   have k2 := cell_of_blk hx1 2
   have k3 := cell_of_blk hx1 3
   have k4 := cell_of_blk hx1 4
   have f0 := free_of_blk hx1 0
   have f1 := free_of_blk hx1 1
   have f2 := free_of_blk hx1 2
   have f3 := free_of_blk hx1 3
   have f4 := free_of_blk hx1 4
   simp only [List.getElem?_toArray, List.getElem?_cons_zero, List.getElem?_cons_succ] at j0 j1 j2 j3 j4 k0 k1 k2 k3 k4
   subst hqn
   clear hD hT hbk hx0 hx1 HD
   go_wp2
   have hxx := set5_blk HX1.out (.string ⟨st.how.toArray⟩) (.int .i64 st.val) (.slice oa st.out.length oc) (.int .i64 st.tks) (.slice ta st.calls.length tc)
   have hlew : w.heap.size ≤ w.heap.size + 1 := by omega
   have hbw : Below w.heap.size w wr := HB0.out.trans (HB.out.mono (by omega))
   have hbf := ((((hbw.setCell (p := ⟨w.heap.size + 1, 0, none⟩) (by exact hlew) (.string ⟨st.how.toArray⟩)).setCell (p := ⟨w.heap.size + 1, 1, none⟩) (by exact hlew) (.int .i64 st.val)).setCell (p := ⟨w.heap.size + 1, 2, none⟩) (by exact hlew) (.slice oa st.out.length oc)).setCell (p := ⟨w.heap.size + 1, 3, none⟩) (by exact hlew) (.int .i64 st.tks)).setCell (p := ⟨w.heap.size + 1, 4, none⟩) (by exact hlew) (.slice ta st.calls.length tc)
   refine ret_row (w.heap.size + 1) 2 _ 42 rfl rfl hxx Tryd.underlying42 (by kernel_rfl) ⟨hbf, _, rfl, (.slice oa st.out.length oc), .slice ta st.calls.length tc, xs, rfl, ?_, ?_, ?_⟩
   ·exact HO.out.imp (fun b hb => Nat.lt_of_lt_of_le hb hbf.size) (fun b hb => hbf.block b hb)
   ·exact (xrow_own HDD.out).imp (fun b hb => by have := hb.2; show b < _; simp [World.setCell]; exact this) (fun b hb => by
     have h : b ≠ w.heap.size + 1 := by have := hb.1; omega
     rw [Below.heap_setCell _ _ _ _ h, Below.heap_setCell _ _ _ _ h, Below.heap_setCell _ _ _ _ h, Below.heap_setCell _ _ _ _ h, Below.heap_setCell _ _ _ _ h])
   ·exact HTT.out.imp (fun b hb => Nat.lt_of_lt_of_le hb hbf.size) (fun b hb => by
     have h : b ≠ w.heap.size + 1 := by have : b < w.heap.size := hb; omega
     rw [Below.heap_setCell _ _ _ _ h, Below.heap_setCell _ _ _ _ h, Below.heap_setCell _ _ _ _ h, Below.heap_setCell _ _ _ _ h, Below.heap_setCell _ _ _ _ h])
end Go.Proofs.YtimccbilkjjakaaDoor
