/-
  Our own: package graph: newFlow: how the ways of a graph go on, in memory.
-/
import Derived.Test.YtohjiggcbfjahacGreatDoorPileAll
import Derived.Test.YtohjiggcbfjahacGreatDoorShapes
import Derived.Test.YtohjiggcbfjahacGreatDoorFlowM
import Derived.Test.YtohjiggcbfjahacGreatDoorTools
import Derived.Deep.RegionLaw
import Derived.Deep.RegionHeld3
namespace Go.Proofs.YtohjiggcbfjahacGreatDoor
open Go.RowKit

theorem spot_info : (Tryz.prog.info? 151).map (fun i => (i.zero, i.size, i.bytes)) = some (some (.agg #[.int .i64 0, .int .i64 0]), 2, 16) := by kernel_rfl
theorem spots_zero : ∀ n, spotsC (List.replicate n (0, 0)) = List.replicate (n * 2) (.int .i64 0)
  | 0 => rfl
  | n + 1 => by rw [List.replicate_succ, spotsC, List.flatMap_cons, ← spotsC, spots_zero n, show (n + 1) * 2 = n * 2 + 1 + 1 by omega, List.replicate_succ, List.replicate_succ]; rfl
theorem made_spots (n : Nat) : madeCells #[.int .i64 0, .int .i64 0] (n * 2) = (spotsC (List.replicate n (0, 0))).toArray := by
  apply Array.ext'
  apply List.ext_getElem?
  intro i
  rw [spots_zero]
  simp [madeCells, List.getElem?_replicate]
  by_cases h : i < n * 2
  · simp [h]
    have : i % 2 = 0 ∨ i % 2 = 1 := by omega
    rcases this with e | e <;> (rw [e]; rfl)
  · simp [h]
theorem make_spots (n : Nat) (hn : n ≤ 100000) (w : World) : (Instr.makeSlice 108 (.int .i64 (n : Int)) (.int .i64 (n : Int))).run Tryz.prog w = .ok (.slice (some ⟨w.heap.size, 0, none⟩) n n) (w.alloc (.cells (spotsC (List.replicate n (0, 0))).toArray 151)) := by
  obtain ⟨i0, hi, hz, hs, hb⟩ := info_parts spot_info
  have hr := run_make (P := Tryz.prog) w 108 151 i0 _ Tryz.underlying108 hi hz .i64 .i64 n n (by omega) (Int.le_refl _) (by rw [hb]; omega) (by omega)
  simp only [Int.toNat_natCast, hs, show (Value.agg #[.int .i64 0, .int .i64 0]).cells = #[.int .i64 0, .int .i64 0] from rfl] at hr
  rw [made_spots] at hr
  exact hr
theorem made_ints (n : Nat) : madeCells #[.int .i64 0] n = (natsG (List.replicate n 0)).toArray := by
  apply Array.ext'
  apply List.ext_getElem?
  intro i
  simp [madeCells, natsG, List.getElem?_replicate]
  by_cases h : i < n <;> simp [h, Nat.mod_one]
theorem shp_five (k : List UInt8) : (shp k).ins.length ≤ 5 := by
  rcases shpIn_cases k shapesL with ⟨h, _⟩ | ⟨s, hs, _, h⟩
  · unfold shp; rw [h]; decide
  · unfold shp; rw [h]
    have : ∀ s ∈ shapesL, s.ins.length ≤ 5 := by decide
    exact this s hs
/-- A region whose orders all end in one frame but for four numbers. -/
theorem reg_cut4 {P : Program} {c : Code} {Q : Exit → Act → World → Prop} {a : Act} {w : World} (F : Nat → Nat → Nat → Nat → Act) (R : Nat → Nat → Nat → Nat → World → Prop) (h : c.wp P (Exit.then (fun a' w' => ∃ x y z u, a' = F x y z u ∧ R x y z u w') (fun _ _ _ => False)) a w) (k : ∀ x y z u w', R x y z u w' → Q .normal (F x y z u) w') : c.wp P Q a w :=
  Code.wp_mono (fun e a w g => by
    cases e with
    | normal => obtain ⟨x, y, z, u, rfl, g⟩ := g; exact k _ _ _ _ _ g
    | _ => exact g.elim) h
abbrev flowV (nm : List UInt8) (P : Int) (nv : Value) (t y o p n : Nat) : Array Value := #[.string ⟨nm.toArray⟩, .int .i64 P, nv, .slice (some ⟨t, 0, none⟩) n n, .slice (some ⟨y, 0, none⟩) n n, .slice (some ⟨o, 0, none⟩) n n, .slice (some ⟨p, 0, none⟩) n n]
/-- A flow that is being filled. -/
structure Nf (w X : World) (t y o p : Nat) (nm : List UInt8) (P : Int) (nv : Value) (n : Nat) (tk : List (Nat × Nat)) (ys ns : List Nat) (vs : List Value) (ph : List (List Nat)) : Prop where
  low : Below w.heap.size w X
  gbx : X.heap[w.heap.size]? = some (.cells #[.string ⟨nm.toArray⟩, .int .i64 P, nv] 52 (0, 0))
  blk : X.heap[w.heap.size + 1 + 1 + 1 + 1 + 1]? = some (.cells (flowV nm P nv t y o p n) 110 (0, 0))
  tks : X.heap[t]? = some (.cells (spotsC tk).toArray 151 (0, 0))
  yes : X.heap[y]? = some (.cells (natsG ys).toArray 3 (0, 0))
  no : X.heap[o]? = some (.cells (natsG ns).toArray 3 (0, 0))
  pile : PileAt X (w.heap.size + 6) p vs ph
  ord : (w.heap.size < t ∧ t < w.heap.size + 5) ∧ (w.heap.size < y ∧ y < w.heap.size + 5) ∧ (w.heap.size < o ∧ o < w.heap.size + 5) ∧ (w.heap.size < p ∧ p < w.heap.size + 5) ∧ t ≠ y ∧ t ≠ o ∧ t ≠ p ∧ y ≠ o ∧ y ≠ p ∧ o ≠ p
  len : tk.length = n ∧ ys.length = n ∧ ns.length = n ∧ ph.length = n
theorem sixG (w : World) (x0 x1 x2 x3 x4 x5 : Obj) : (((((((w.alloc x0).alloc x1).alloc x2).alloc x3).alloc x4).alloc x5).heap[w.heap.size]? = some x0) ∧ (((((((w.alloc x0).alloc x1).alloc x2).alloc x3).alloc x4).alloc x5).heap[w.heap.size + 1]? = some x1) ∧ (((((((w.alloc x0).alloc x1).alloc x2).alloc x3).alloc x4).alloc x5).heap[w.heap.size + 1 + 1]? = some x2) ∧ (((((((w.alloc x0).alloc x1).alloc x2).alloc x3).alloc x4).alloc x5).heap[w.heap.size + 1 + 1 + 1]? = some x3) ∧ (((((((w.alloc x0).alloc x1).alloc x2).alloc x3).alloc x4).alloc x5).heap[w.heap.size + 1 + 1 + 1 + 1]? = some x4) ∧ (((((((w.alloc x0).alloc x1).alloc x2).alloc x3).alloc x4).alloc x5).heap[w.heap.size + 1 + 1 + 1 + 1 + 1]? = some x5) := by
  obtain ⟨t0, t1, t2⟩ := threeG w x0 x1 x2
  obtain ⟨t3, t4, t5⟩ := threeG (((w.alloc x0).alloc x1).alloc x2) x3 x4 x5
  have e : (((w.alloc x0).alloc x1).alloc x2).heap.size = w.heap.size + 1 + 1 + 1 := by simp
  have hb : Below (w.heap.size + 3) (((w.alloc x0).alloc x1).alloc x2) ((((((w.alloc x0).alloc x1).alloc x2).alloc x3).alloc x4).alloc x5) := by (repeat (first | exact Below.refl _ _ | assumption | refine Below.drew ?_ | refine Below.trans ?_ (drewN_below' _ _ _) | refine Below.setCell ?_ (by first | (simp; done) | (simp; omega)) _ | refine Below.alloc ?_ (by first | (simp; done) | (simp; omega)) _))
  rw [e] at t3 t4 t5
  exact ⟨(hb.block _ (by omega)).trans t0, (hb.block _ (by omega)).trans t1, (hb.block _ (by omega)).trans t2, t3, t4, t5⟩
/-- Which of four it is. -/
def oneOf (w : World) (x1 x2 x3 x4 : Obj) (t : Nat) (x : Obj) : Prop := (t = w.heap.size + 1 ∧ x1 = x) ∨ (t = w.heap.size + 1 + 1 ∧ x2 = x) ∨ (t = w.heap.size + 1 + 1 + 1 ∧ x3 = x) ∨ (t = w.heap.size + 1 + 1 + 1 + 1 ∧ x4 = x)
theorem nf_new {w W : World} {x1 x2 x3 x4 : Obj} {t y o p : Nat} {nm : List UInt8} {P : Int} {nv : Value} {L : List Nd} {ss0 is0 vs0 : List Value} (hs : ss0 = spotsC (List.replicate L.length (0, 0))) (hi : is0 = natsG (List.replicate L.length 0)) (hv : vs0 = List.replicate L.length (.slice none 0 0))
    (hW : W = ((((((w.alloc (.cells #[.string ⟨nm.toArray⟩, .int .i64 P, nv] 52)).alloc x1).alloc x2).alloc x3).alloc x4).alloc (.cells (flowV nm P nv t y o p L.length) 110)).drew) (ht : oneOf w x1 x2 x3 x4 t (.cells ss0.toArray 151)) (hy : oneOf w x1 x2 x3 x4 y (.cells is0.toArray 3)) (ho : oneOf w x1 x2 x3 x4 o (.cells is0.toArray 3)) (hp : oneOf w x1 x2 x3 x4 p (.cells vs0.toArray 23)) (hne : t ≠ y ∧ t ≠ o ∧ t ≠ p ∧ y ≠ o ∧ y ≠ p ∧ o ≠ p) :
    Nf w W t y o p nm P nv L.length (tkI L 0) (ysI gYes L 0) (ysI gNo L 0) vs0 (phI L 0) := by
  obtain ⟨q0, q1, q2, q3, q4, q5⟩ := sixG w (.cells #[.string ⟨nm.toArray⟩, .int .i64 P, nv] 52) x1 x2 x3 x4 (.cells (flowV nm P nv t y o p L.length) 110)
  have key : ∀ b x, oneOf w x1 x2 x3 x4 b x → W.heap[b]? = some x ∧ w.heap.size < b ∧ b < w.heap.size + 5 := fun b x h => by
    rw [hW]
    rcases h with ⟨rfl, rfl⟩ | ⟨rfl, rfl⟩ | ⟨rfl, rfl⟩ | ⟨rfl, rfl⟩
    · exact ⟨q1, by omega, by omega⟩
    · exact ⟨q2, by omega, by omega⟩
    · exact ⟨q3, by omega, by omega⟩
    · exact ⟨q4, by omega, by omega⟩
  have k1 := key _ _ ht
  have k2 := key _ _ hy
  have k3 := key _ _ ho
  have k4 := key _ _ hp
  refine ⟨by rw [hW]; (repeat (first | exact Below.refl _ _ | assumption | refine Below.drew ?_ | refine Below.trans ?_ (drewN_below' _ _ _) | refine Below.setCell ?_ (by first | (simp; done) | (simp; omega)) _ | refine Below.alloc ?_ (by first | (simp; done) | (simp; omega)) _)), by rw [hW]; exact q0, by rw [hW]; exact q5, by rw [k1.1, hs]; rfl, by rw [k2.1, hi]; rfl, by rw [k3.1, hi]; rfl, ?_, by omega, by simp [tkI, ysI, phI]⟩
  rw [hv]
  refine pile_new (by rw [k4.1, hv]) (by omega)
theorem Nf.below {w X Y : World} {t y o p n : Nat} {nm : List UInt8} {P : Int} {nv : Value} {tk : List (Nat × Nat)} {ys ns : List Nat} {vs : List Value} {ph : List (List Nat)} (h : Nf w X t y o p nm P nv n tk ys ns vs ph) (hb : Below X.heap.size X Y) : Nf w Y t y o p nm P nv n tk ys ns vs ph :=
  ⟨bl_trans h.low h.low.size hb, (hb.block _ (heap_lt h.gbx)).trans h.gbx, (hb.block _ (heap_lt h.blk)).trans h.blk, (hb.block _ (heap_lt h.tks)).trans h.tks, (hb.block _ (heap_lt h.yes)).trans h.yes, (hb.block _ (heap_lt h.no)).trans h.no, h.pile.keep (fun b hb' _ => hb.block b hb'), h.ord, h.len⟩
theorem spots_set : ∀ (l : List (Nat × Nat)) (m j k : Nat), m < l.length → ((spotsC l).set (m * 2) (.int .i64 (j : Int))).set (m * 2 + 1) (.int .i64 (k : Int)) = spotsC (l.set m (j, k))
  | [], _, _, _, h => absurd h (by simp)
  | s :: r, 0, j, k, _ => by simp [spotsC]
  | s :: r, m + 1, j, k, h => by
    have ih := spots_set r m j k (by simpa using h)
    have e1 : (m + 1) * 2 = m * 2 + 1 + 1 := by omega
    simp only [List.set_cons_succ]
    show (((Value.int .i64 (s.1 : Int)) :: (.int .i64 (s.2 : Int)) :: spotsC r).set ((m + 1) * 2) _).set ((m + 1) * 2 + 1) _ = (.int .i64 (s.1 : Int)) :: (.int .i64 (s.2 : Int)) :: spotsC (r.set m (j, k))
    rw [e1, List.set_cons_succ, List.set_cons_succ, List.set_cons_succ, List.set_cons_succ, ih]
theorem nats_set : ∀ (l : List Nat) (m i : Nat), (natsG l).set m (.int .i64 (i : Int)) = natsG (l.set m i) := fun l m i => by simp [natsG, List.map_set]
/-- A store in a block that is one of its own. -/
theorem Nf.setTk {w X : World} {t y o p n : Nat} {nm : List UInt8} {P : Int} {nv : Value} {tk : List (Nat × Nat)} {ys ns : List Nat} {vs : List Value} {ph : List (List Nat)} (h : Nf w X t y o p nm P nv n tk ys ns vs ph) {m : Nat} (hm : m < n) (j k : Nat) :
    Nf w ((X.setCell ⟨t, m * 2, none⟩ (.int .i64 (j : Int))).setCell ⟨t, m * 2 + 1, none⟩ (.int .i64 (k : Int))) t y o p nm P nv n (tk.set m (j, k)) ys ns vs ph := by
  have ho := h.ord
  have hf : ∀ b, b ≠ t → ((X.setCell ⟨t, m * 2, none⟩ (.int .i64 (j : Int))).setCell ⟨t, m * 2 + 1, none⟩ (.int .i64 (k : Int))).heap[b]? = X.heap[b]? := fun b hb => by rw [Below.heap_setCell _ _ _ _ hb, Below.heap_setCell _ _ _ _ hb]
  refine ⟨(h.low.setCell (by show w.heap.size ≤ t; omega) _).setCell (by show w.heap.size ≤ t; omega) _, (hf _ (by omega)).trans h.gbx, (hf _ (by omega)).trans h.blk, ?_, (hf _ (by omega)).trans h.yes, (hf _ (by omega)).trans h.no, h.pile.keep (fun b hb hb' => hf b (by omega)), ho, by rw [List.length_set]; exact h.len⟩
  have e1 := blk_setCell h.tks (m * 2) (.int .i64 (j : Int))
  have e2 := blk_setCell e1 (m * 2 + 1) (.int .i64 (k : Int))
  rw [e2, List.setIfInBounds_toArray, List.setIfInBounds_toArray, spots_set tk m j k (by rw [h.len.1]; exact hm)]
theorem Nf.setYes {w X : World} {t y o p n : Nat} {nm : List UInt8} {P : Int} {nv : Value} {tk : List (Nat × Nat)} {ys ns : List Nat} {vs : List Value} {ph : List (List Nat)} (h : Nf w X t y o p nm P nv n tk ys ns vs ph) (m i : Nat) :
    Nf w (X.setCell ⟨y, m, none⟩ (.int .i64 (i : Int))) t y o p nm P nv n tk (ys.set m i) ns vs ph := by
  have ho := h.ord
  have hf : ∀ b, b ≠ y → (X.setCell ⟨y, m, none⟩ (.int .i64 (i : Int))).heap[b]? = X.heap[b]? := fun b hb => Below.heap_setCell _ _ _ _ hb
  refine ⟨h.low.setCell (by show w.heap.size ≤ y; omega) _, (hf _ (by omega)).trans h.gbx, (hf _ (by omega)).trans h.blk, (hf _ (by omega)).trans h.tks, ?_, (hf _ (by omega)).trans h.no, h.pile.keep (fun b hb hb' => hf b (by omega)), ho, by rw [List.length_set]; exact h.len⟩
  rw [blk_setCell h.yes m (.int .i64 (i : Int)), List.setIfInBounds_toArray, nats_set]
theorem Nf.setNo {w X : World} {t y o p n : Nat} {nm : List UInt8} {P : Int} {nv : Value} {tk : List (Nat × Nat)} {ys ns : List Nat} {vs : List Value} {ph : List (List Nat)} (h : Nf w X t y o p nm P nv n tk ys ns vs ph) (m i : Nat) :
    Nf w (X.setCell ⟨o, m, none⟩ (.int .i64 (i : Int))) t y o p nm P nv n tk ys (ns.set m i) vs ph := by
  have ho := h.ord
  have hf : ∀ b, b ≠ o → (X.setCell ⟨o, m, none⟩ (.int .i64 (i : Int))).heap[b]? = X.heap[b]? := fun b hb => Below.heap_setCell _ _ _ _ hb
  refine ⟨h.low.setCell (by show w.heap.size ≤ o; omega) _, (hf _ (by omega)).trans h.gbx, (hf _ (by omega)).trans h.blk, (hf _ (by omega)).trans h.tks, (hf _ (by omega)).trans h.yes, ?_, h.pile.keep (fun b hb hb' => hf b (by omega)), ho, by rw [List.length_set]; exact h.len⟩
  rw [blk_setCell h.no m (.int .i64 (i : Int)), List.setIfInBounds_toArray, nats_set]
theorem Nf.push {w X w1 W7 : World} {t y o p n : Nat} {nm : List UInt8} {P : Int} {nv : Value} {tk : List (Nat × Nat)} {ys ns : List Nat} {vs : List Value} {ph : List (List Nat)} (h : Nf w X t y o p nm P nv n tk ys ns vs ph) {m : Nat} {v : Value} {l : List Nat} (hv : vs[m]? = some v) (hl : ph[m]? = some l) (hw1 : Below X.heap.size X w1) {x : Nat} {v7 : Value} (hown : W7.ownsRow (w.heap.size + 6) 3 1 v7 (l.length + 1) (natsG l ++ [.int .i64 (x : Int)])) (hg : w1.grownBy W7 v.ownBlock) (h7 : v7.ownBlock = v.ownBlock ∨ v7.ownBlock = some w1.heap.size) :
    Nf w (W7.setCell ⟨p, m, none⟩ v7) t y o p nm P nv n tk ys ns (vs.set m v7) (ph.set m (l ++ [x])) := by
  obtain ⟨q1, q2⟩ := h.pile.push hv hl hw1 hown hg h7
  have ho := h.ord
  have hz := heap_lt h.blk
  have hf : ∀ b, b < w.heap.size + 6 → b ≠ p → (W7.setCell ⟨p, m, none⟩ v7).heap[b]? = X.heap[b]? := fun b hb hne => q2.block b hb (by omega) hne
  exact ⟨⟨q2.os.trans h.low.os, q2.tape.trans h.low.tape, q2.output.trans h.low.output, Nat.le_trans h.low.size q2.size, fun b hb => (hf b (by omega) (by omega)).trans (h.low.block b hb)⟩, (hf _ (by omega) (by omega)).trans h.gbx, (hf _ (by omega) (by omega)).trans h.blk, (hf _ (by omega) (by omega)).trans h.tks, (hf _ (by omega) (by omega)).trans h.yes, (hf _ (by omega) (by omega)).trans h.no, q1, ho, by rw [List.length_set]; exact h.len⟩
/-- What it is in the end. -/
theorem Nf.fl {w X : World} {t y o p : Nat} {nm : List UInt8} {P : Int} {nv : Value} {L : List Nd} {tk : List (Nat × Nat)} {ys ns : List Nat} {vs : List Value} {ph : List (List Nat)} (h : Nf w X t y o p nm P nv L.length tk ys ns vs ph) (hG : XG true (InH w) w nv L) :
    Fl (InH X) X (w.heap.size + 1 + 1 + 1 + 1 + 1) nm P nv (.slice (some ⟨t, 0, none⟩) L.length L.length) (.slice (some ⟨y, 0, none⟩) L.length L.length) (.slice (some ⟨o, 0, none⟩) L.length L.length) (.slice (some ⟨p, 0, none⟩) L.length L.length) L tk ys ns ph := by
  obtain ⟨l1, l2, l3, l4⟩ := h.len
  have row : ∀ (b : Nat) (cs : List Value) (T : TypeId), X.heap[b]? = some (.cells cs.toArray T (0, 0)) → XRow (InH X) X (.slice (some ⟨b, 0, none⟩) L.length L.length) L.length cs := fun b cs T hb => ⟨_, _, rfl, fun _ => ⟨b, 0, rfl, heap_lt hb, fun j u hu => by rw [Nat.zero_add, cell_of_blk hb, List.getElem?_toArray]; exact hu⟩⟩
  refine ⟨h.blk, hG.imp (inH_up h.low) (keepH h.low), by rw [l1]; exact row _ _ _ h.tks, by rw [l2]; exact row _ _ _ h.yes, by rw [l3]; exact row _ _ _ h.no, ⟨vs, by rw [l4]; exact row _ _ _ h.pile.blk, XPs.imp (fun b hb => hb.2) (fun _ _ => rfl) _ _ h.pile.xps⟩, l1, l2, l3, l4⟩
end Go.Proofs.YtohjiggcbfjahacGreatDoor
