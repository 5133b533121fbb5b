/- Our own: texts joined: GrNewS, GrNewF. -/
import Derived.Test.YtlgejjmdanmglaaGreatDoorVPileAll
import Derived.Test.YtlgejjmdanmglaaGreatDoorVShapes
import Derived.Test.YtlgejjmdanmglaaGreatDoorVFlowM
import Derived.Test.YtlgejjmdanmglaaGreatDoorVTools
import Derived.Deep.RegionLaw
import Derived.Deep.RegionHeld3
import Derived.Test.YtlgejjmdanmglaaGreatDoorVNewAll
import Derived.Deep.AppendLies
namespace Go.Proofs.YtlgejjmdanmglaaGreatDoor
open Go.RowKit
theorem spot_info : (Tryz.prog.info? 99).map (fun i => (i.zero, i.size, i.bytes)) = some (some (.agg #[.int .i64 0, .int .i64 0]), 2, 16) := by kernel_rfl
theorem spots_zero : ∀ n, spotsC (List.replicate n (0, 0)) = List.replicate (n * 2) (.int .i64 0)
 | 0 => rfl
 | n + 1 => by rw [List.replicate_succ, spotsC, List.flatMap_cons, ← spotsC, spots_zero n, show (n + 1) * 2 = n * 2 + 1 + 1 by omega, List.replicate_succ, List.replicate_succ]; rfl
theorem made_spots (n : Nat) : madeCells #[.int .i64 0, .int .i64 0] (n * 2) = (spotsC (List.replicate n (0, 0))).toArray := by
 apply Array.ext'
 apply List.ext_getElem?
 intro i
 rw [spots_zero]
 simp [madeCells, List.getElem?_replicate]
 by_cases h : i < n * 2
 ·simp [h]
  have : i % 2 = 0 ∨ i % 2 = 1 := by omega
  rcases this with e | e <;> (rw [e]; rfl)
 ·simp [h]
theorem make_spots (n : Nat) (hn : n ≤ 100000) (w : World) : (Instr.makeSlice 76 (.int .i64 (n : Int)) (.int .i64 (n : Int))).run Tryz.prog w = .ok (.slice (some ⟨w.heap.size, 0, none⟩) n n) (w.alloc (.cells (spotsC (List.replicate n (0, 0))).toArray 99)) := by
 obtain ⟨i0, hi, hz, hs, hb⟩ := info_parts spot_info
 have hr := run_make (P := Tryz.prog) w 76 99 i0 _ Tryz.underlying76 hi hz .i64 .i64 n n (by omega) (Int.le_refl _) (by rw [hb]; omega) (by omega)
 simp only [Int.toNat_natCast, hs, show (Value.agg #[.int .i64 0, .int .i64 0]).cells = #[.int .i64 0, .int .i64 0] from rfl] at hr
 rw [made_spots] at hr
 exact hr
theorem made_ints (n : Nat) : madeCells #[.int .i64 0] n = (natsG (List.replicate n 0)).toArray := by
 apply Array.ext'
 apply List.ext_getElem?
 intro i
 simp [madeCells, natsG, List.getElem?_replicate]
 by_cases h : i < n <;> simp [h, Nat.mod_one]
theorem shp_five (k : List UInt8) : (shp k).ins.length ≤ 5 := by
 rcases shpIn_cases k shapesL with ⟨h, _⟩ | ⟨s, hs, _, h⟩
 ·unfold shp; rw [h]; decide
 ·unfold shp; rw [h]
  have : ∀ s ∈ shapesL, s.ins.length ≤ 5 := by decide
  exact this s hs
theorem reg_cut4 {P : Program} {c : Code} {Q : Exit → Act → World → Prop} {a : Act} {w : World} (F : Nat → Nat → Nat → Nat → Act) (R : Nat → Nat → Nat → Nat → World → Prop) (h : c.wp P (Exit.then (fun a' w' => ∃ x y z u, a' = F x y z u ∧ R x y z u w') (fun _ _ _ => False)) a w) (k : ∀ x y z u w', R x y z u w' → Q .normal (F x y z u) w') : c.wp P Q a w :=
 Code.wp_mono (fun e a w g => by
  cases e with
  | normal => obtain ⟨x, y, z, u, rfl, g⟩ := g; exact k _ _ _ _ _ g
  | _ => exact g.elim) h
abbrev flowV (nm : List UInt8) (P : Int) (nv : Value) (t y o p n : Nat) : Array Value := #[.string ⟨nm.toArray⟩, .int .i64 P, nv, .slice (some ⟨t, 0, none⟩) n n, .slice (some ⟨y, 0, none⟩) n n, .slice (some ⟨o, 0, none⟩) n n, .slice (some ⟨p, 0, none⟩) n n]
structure Nf (w X : World) (gb t y o p : Nat) (nm : List UInt8) (P : Int) (nv : Value) (n : Nat) (tk : List (Nat × Nat)) (ys ns : List Nat) (vs : List Value) (ph : List (List Nat)) : Prop where
 low : Below w.heap.size w X
 gbl : gb < w.heap.size
 gbx : X.heap[gb]? = some (.cells #[.string ⟨nm.toArray⟩, .int .i64 P, nv] 29 (0, 0))
 blk : X.heap[w.heap.size + 1 + 1 + 1 + 1]? = some (.cells (flowV nm P nv t y o p n) 78 (0, 0))
 tks : X.heap[t]? = some (.cells (spotsC tk).toArray 99 (0, 0))
 yes : X.heap[y]? = some (.cells (natsG ys).toArray 3 (0, 0))
 no : X.heap[o]? = some (.cells (natsG ns).toArray 3 (0, 0))
 pile : PileAt X (w.heap.size + 5) p vs ph
 ord : (w.heap.size ≤ t ∧ t < w.heap.size + 4) ∧ (w.heap.size ≤ y ∧ y < w.heap.size + 4) ∧ (w.heap.size ≤ o ∧ o < w.heap.size + 4) ∧ (w.heap.size ≤ p ∧ p < w.heap.size + 4) ∧ t ≠ y ∧ t ≠ o ∧ t ≠ p ∧ y ≠ o ∧ y ≠ p ∧ o ≠ p
 len : tk.length = n ∧ ys.length = n ∧ ns.length = n ∧ ph.length = n
theorem fiveG (w : World) (x1 x2 x3 x4 x5 : Obj) : ((((((w.alloc x1).alloc x2).alloc x3).alloc x4).alloc x5).heap[w.heap.size]? = some x1) ∧ ((((((w.alloc x1).alloc x2).alloc x3).alloc x4).alloc x5).heap[w.heap.size + 1]? = some x2) ∧ ((((((w.alloc x1).alloc x2).alloc x3).alloc x4).alloc x5).heap[w.heap.size + 1 + 1]? = some x3) ∧ ((((((w.alloc x1).alloc x2).alloc x3).alloc x4).alloc x5).heap[w.heap.size + 1 + 1 + 1]? = some x4) ∧ ((((((w.alloc x1).alloc x2).alloc x3).alloc x4).alloc x5).heap[w.heap.size + 1 + 1 + 1 + 1]? = some x5) := by
 have t0 := (Below.heap_alloc (w.alloc x1) x2 _ (by simp)).trans (heap_alloc_new w x1)
 have t1 := heap_alloc2_new w x1 x2
 obtain ⟨t3, t4, t5⟩ := threeG ((w.alloc x1).alloc x2) x3 x4 x5
 have e : ((w.alloc x1).alloc x2).heap.size = w.heap.size + 1 + 1 := by simp
 have hb : Below (w.heap.size + 2) ((w.alloc x1).alloc x2) (((((w.alloc x1).alloc x2).alloc x3).alloc x4).alloc x5) := by (repeat (first | exact Below.refl _ _ | assumption | refine Below.drew ?_ | refine bT ?_ _ | refine bS ?_ _ | refine bA ?_ _))
 rw [e] at t3 t4 t5
 exact ⟨(hb.block _ (by omega)).trans t0, (hb.block _ (by omega)).trans t1, t3, t4, t5⟩
def oneOf (w : World) (x1 x2 x3 x4 : Obj) (t : Nat) (x : Obj) : Prop := (t = w.heap.size ∧ x1 = x) ∨ (t = w.heap.size + 1 ∧ x2 = x) ∨ (t = w.heap.size + 1 + 1 ∧ x3 = x) ∨ (t = w.heap.size + 1 + 1 + 1 ∧ x4 = x)
theorem nf_new {w W : World} {x1 x2 x3 x4 : Obj} {gb t y o p : Nat} {nm : List UInt8} {P : Int} {nv : Value} {L : List Nd} {ss0 is0 vs0 : List Value} (hgb : w.heap[gb]? = some (.cells #[.string ⟨nm.toArray⟩, .int .i64 P, nv] 29 (0, 0))) (hs : ss0 = spotsC (List.replicate L.length (0, 0))) (hi : is0 = natsG (List.replicate L.length 0)) (hv : vs0 = List.replicate L.length (.slice none 0 0))
  (hW : W = (((((w.alloc x1).alloc x2).alloc x3).alloc x4).alloc (.cells (flowV nm P nv t y o p L.length) 78)).drew) (ht : oneOf w x1 x2 x3 x4 t (.cells ss0.toArray 99)) (hy : oneOf w x1 x2 x3 x4 y (.cells is0.toArray 3)) (ho : oneOf w x1 x2 x3 x4 o (.cells is0.toArray 3)) (hp : oneOf w x1 x2 x3 x4 p (.cells vs0.toArray 40)) (hne : t ≠ y ∧ t ≠ o ∧ t ≠ p ∧ y ≠ o ∧ y ≠ p ∧ o ≠ p) :
  Nf w W gb t y o p nm P nv L.length (tkI L 0) (ysI gYes L 0) (ysI gNo L 0) vs0 (phI L 0) := by
 obtain ⟨q1, q2, q3, q4, q5⟩ := fiveG w x1 x2 x3 x4 (.cells (flowV nm P nv t y o p L.length) 78)
 have key : ∀ b x, oneOf w x1 x2 x3 x4 b x → W.heap[b]? = some x ∧ w.heap.size ≤ b ∧ b < w.heap.size + 4 := fun b x h => by
  rw [hW]
  rcases h with ⟨rfl, rfl⟩ | ⟨rfl, rfl⟩ | ⟨rfl, rfl⟩ | ⟨rfl, rfl⟩
  ·exact ⟨q1, by omega, by omega⟩
  ·exact ⟨q2, by omega, by omega⟩
  ·exact ⟨q3, by omega, by omega⟩
  ·exact ⟨q4, by omega, by omega⟩
 have k1 := key _ _ ht
 have k2 := key _ _ hy
 have k3 := key _ _ ho
 have k4 := key _ _ hp
 have hlow : Below w.heap.size w W := by rw [hW]; (repeat (first | exact Below.refl _ _ | assumption | refine Below.drew ?_ | refine bT ?_ _ | refine bS ?_ _ | refine bA ?_ _))
 refine ⟨hlow, heap_lt hgb, (hlow.block _ (heap_lt hgb)).trans hgb, by rw [hW]; exact q5, by rw [k1.1, hs]; rfl, by rw [k2.1, hi]; rfl, by rw [k3.1, hi]; rfl, ?_, by omega, by simp [tkI, ysI, phI]⟩
 rw [hv]
 refine pile_new (by rw [k4.1, hv]) (by omega)
theorem Nf.below {w X Y : World} {gb t y o p n : Nat} {nm : List UInt8} {P : Int} {nv : Value} {tk : List (Nat × Nat)} {ys ns : List Nat} {vs : List Value} {ph : List (List Nat)} (h : Nf w X gb t y o p nm P nv n tk ys ns vs ph) (hb : Below X.heap.size X Y) : Nf w Y gb t y o p nm P nv n tk ys ns vs ph :=
 ⟨bl_trans h.low h.low.size hb, h.gbl, (hb.block _ (heap_lt h.gbx)).trans h.gbx, (hb.block _ (heap_lt h.blk)).trans h.blk, (hb.block _ (heap_lt h.tks)).trans h.tks, (hb.block _ (heap_lt h.yes)).trans h.yes, (hb.block _ (heap_lt h.no)).trans h.no, h.pile.keep (fun b hb' _ => hb.block b hb'), h.ord, h.len⟩
theorem spots_set : ∀ (l : List (Nat × Nat)) (m j k : Nat), m < l.length → ((spotsC l).set (m * 2) (.int .i64 (j : Int))).set (m * 2 + 1) (.int .i64 (k : Int)) = spotsC (l.set m (j, k))
 | [], _, _, _, h => absurd h (by simp)
 | s :: r, 0, j, k, _ => by simp [spotsC]
 | s :: r, m + 1, j, k, h => by
  have ih := spots_set r m j k (by simpa using h)
  have e1 : (m + 1) * 2 = m * 2 + 1 + 1 := by omega
  simp only [List.set_cons_succ]
  show (((Value.int .i64 (s.1 : Int)) :: (.int .i64 (s.2 : Int)) :: spotsC r).set ((m + 1) * 2) _).set ((m + 1) * 2 + 1) _ = (.int .i64 (s.1 : Int)) :: (.int .i64 (s.2 : Int)) :: spotsC (r.set m (j, k))
  rw [e1, List.set_cons_succ, List.set_cons_succ, List.set_cons_succ, List.set_cons_succ, ih]
theorem nats_set : ∀ (l : List Nat) (m i : Nat), (natsG l).set m (.int .i64 (i : Int)) = natsG (l.set m i) := fun l m i => by simp [natsG, List.map_set]
theorem Nf.setTk {w X : World} {gb t y o p n : Nat} {nm : List UInt8} {P : Int} {nv : Value} {tk : List (Nat × Nat)} {ys ns : List Nat} {vs : List Value} {ph : List (List Nat)} (h : Nf w X gb t y o p nm P nv n tk ys ns vs ph) {m : Nat} (hm : m < n) (j k : Nat) :
  Nf w ((X.setCell ⟨t, m * 2, none⟩ (.int .i64 (j : Int))).setCell ⟨t, m * 2 + 1, none⟩ (.int .i64 (k : Int))) gb t y o p nm P nv n (tk.set m (j, k)) ys ns vs ph := by
 have ho := h.ord
 have hgl := h.gbl
 have hf : ∀ b, b ≠ t → ((X.setCell ⟨t, m * 2, none⟩ (.int .i64 (j : Int))).setCell ⟨t, m * 2 + 1, none⟩ (.int .i64 (k : Int))).heap[b]? = X.heap[b]? := fun b hb => by rw [Below.heap_setCell _ _ _ _ hb, Below.heap_setCell _ _ _ _ hb]
 refine ⟨(h.low.setCell (by show w.heap.size ≤ t; omega) _).setCell (by show w.heap.size ≤ t; omega) _, hgl, (hf _ (by omega)).trans h.gbx, (hf _ (by omega)).trans h.blk, ?_, (hf _ (by omega)).trans h.yes, (hf _ (by omega)).trans h.no, h.pile.keep (fun b hb hb' => hf b (by omega)), ho, by rw [List.length_set]; exact h.len⟩
 have e1 := blk_setCell h.tks (m * 2) (.int .i64 (j : Int))
 have e2 := blk_setCell e1 (m * 2 + 1) (.int .i64 (k : Int))
 rw [e2, List.setIfInBounds_toArray, List.setIfInBounds_toArray, spots_set tk m j k (by rw [h.len.1]; exact hm)]
theorem Nf.setYes {w X : World} {gb t y o p n : Nat} {nm : List UInt8} {P : Int} {nv : Value} {tk : List (Nat × Nat)} {ys ns : List Nat} {vs : List Value} {ph : List (List Nat)} (h : Nf w X gb t y o p nm P nv n tk ys ns vs ph) (m i : Nat) :
  Nf w (X.setCell ⟨y, m, none⟩ (.int .i64 (i : Int))) gb t y o p nm P nv n tk (ys.set m i) ns vs ph := by
 have ho := h.ord
 have hgl := h.gbl
 have hf : ∀ b, b ≠ y → (X.setCell ⟨y, m, none⟩ (.int .i64 (i : Int))).heap[b]? = X.heap[b]? := fun b hb => Below.heap_setCell _ _ _ _ hb
 refine ⟨h.low.setCell (by show w.heap.size ≤ y; omega) _, hgl, (hf _ (by omega)).trans h.gbx, (hf _ (by omega)).trans h.blk, (hf _ (by omega)).trans h.tks, ?_, (hf _ (by omega)).trans h.no, h.pile.keep (fun b hb hb' => hf b (by omega)), ho, by rw [List.length_set]; exact h.len⟩
 rw [blk_setCell h.yes m (.int .i64 (i : Int)), List.setIfInBounds_toArray, nats_set]
theorem Nf.setNo {w X : World} {gb t y o p n : Nat} {nm : List UInt8} {P : Int} {nv : Value} {tk : List (Nat × Nat)} {ys ns : List Nat} {vs : List Value} {ph : List (List Nat)} (h : Nf w X gb t y o p nm P nv n tk ys ns vs ph) (m i : Nat) :
  Nf w (X.setCell ⟨o, m, none⟩ (.int .i64 (i : Int))) gb t y o p nm P nv n tk ys (ns.set m i) vs ph := by
 have ho := h.ord
 have hgl := h.gbl
 have hf : ∀ b, b ≠ o → (X.setCell ⟨o, m, none⟩ (.int .i64 (i : Int))).heap[b]? = X.heap[b]? := fun b hb => Below.heap_setCell _ _ _ _ hb
 refine ⟨h.low.setCell (by show w.heap.size ≤ o; omega) _, hgl, (hf _ (by omega)).trans h.gbx, (hf _ (by omega)).trans h.blk, (hf _ (by omega)).trans h.tks, (hf _ (by omega)).trans h.yes, ?_, h.pile.keep (fun b hb hb' => hf b (by omega)), ho, by rw [List.length_set]; exact h.len⟩
 rw [blk_setCell h.no m (.int .i64 (i : Int)), List.setIfInBounds_toArray, nats_set]
theorem Nf.push {w X w1 W7 : World} {gb t y o p n : Nat} {nm : List UInt8} {P : Int} {nv : Value} {tk : List (Nat × Nat)} {ys ns : List Nat} {vs : List Value} {ph : List (List Nat)} (h : Nf w X gb t y o p nm P nv n tk ys ns vs ph) {m : Nat} {v : Value} {l : List Nat} (hv : vs[m]? = some v) (hl : ph[m]? = some l) (hw1 : Below X.heap.size X w1) {x : Nat} {v7 : Value} (hown : W7.ownsRow (w.heap.size + 5) 3 1 v7 (l.length + 1) (natsG l ++ [.int .i64 (x : Int)])) (hg : w1.grownBy W7 v.ownBlock) (h7 : v7.ownBlock = v.ownBlock ∨ v7.ownBlock = some w1.heap.size) :
  Nf w (W7.setCell ⟨p, m, none⟩ v7) gb t y o p nm P nv n tk ys ns (vs.set m v7) (ph.set m (l ++ [x])) := by
 obtain ⟨q1, q2⟩ := h.pile.push hv hl hw1 hown hg h7
 have ho := h.ord
 have hgl := h.gbl
 have hz := heap_lt h.blk
 have hf : ∀ b, b < w.heap.size + 5 → b ≠ p → (W7.setCell ⟨p, m, none⟩ v7).heap[b]? = X.heap[b]? := fun b hb hne => q2.block b hb (by omega) hne
 exact ⟨⟨q2.os.trans h.low.os, q2.tape.trans h.low.tape, q2.output.trans h.low.output, Nat.le_trans h.low.size q2.size, fun b hb => (hf b (by omega) (by omega)).trans (h.low.block b hb)⟩, hgl, (hf _ (by omega) (by omega)).trans h.gbx, (hf _ (by omega) (by omega)).trans h.blk, (hf _ (by omega) (by omega)).trans h.tks, (hf _ (by omega) (by omega)).trans h.yes, (hf _ (by omega) (by omega)).trans h.no, q1, ho, by rw [List.length_set]; exact h.len⟩
theorem Nf.fl {w X : World} {gb t y o p : Nat} {nm : List UInt8} {P : Int} {nv : Value} {L : List Nd} {tk : List (Nat × Nat)} {ys ns : List Nat} {vs : List Value} {ph : List (List Nat)} (h : Nf w X gb t y o p nm P nv L.length tk ys ns vs ph) (hG : XG true (InH w) w nv L) :
  Fl (InH X) X (w.heap.size + 1 + 1 + 1 + 1) nm P nv (.slice (some ⟨t, 0, none⟩) L.length L.length) (.slice (some ⟨y, 0, none⟩) L.length L.length) (.slice (some ⟨o, 0, none⟩) L.length L.length) (.slice (some ⟨p, 0, none⟩) L.length L.length) L tk ys ns ph := by
 obtain ⟨l1, l2, l3, l4⟩ := h.len
 have row : ∀ (b : Nat) (cs : List Value) (T : TypeId), X.heap[b]? = some (.cells cs.toArray T (0, 0)) → XRow (InH X) X (.slice (some ⟨b, 0, none⟩) L.length L.length) L.length cs := fun b cs T hb => ⟨_, _, rfl, fun _ => ⟨b, 0, rfl, heap_lt hb, fun j u hu => by rw [Nat.zero_add, cell_of_blk hb, List.getElem?_toArray]; exact hu⟩⟩
 refine ⟨h.blk, hG.imp (inH_up h.low) (keepH h.low), by rw [l1]; exact row _ _ _ h.tks, by rw [l2]; exact row _ _ _ h.yes, by rw [l3]; exact row _ _ _ h.no, ⟨vs, by rw [l4]; exact row _ _ _ h.pile.blk, XPs.imp (fun b hb => hb.2) (fun _ _ => rfl) _ _ h.pile.xps⟩, l1, l2, l3, l4⟩
end Go.Proofs.YtlgejjmdanmglaaGreatDoor
namespace Go.Proofs.YtlgejjmdanmglaaGreatDoor
open Go.RowKit
theorem ft_code {w w' : World} {a : Nat → Addr} {r : Nat × Int} {v : Value} (h : FtTo w a r (.returned v) w') : (r.1 = 0 ∧ v = .nilIface) ∨ (r.1 ≠ 0 ∧ ∃ t u, v = .iface t u) := by
 obtain ⟨_, h⟩ := h
 split at h
 ·next c => injection h with h; exact Or.inl ⟨c, h⟩
 ·next c =>
  split at h
  ·injection h with h; exact Or.inr ⟨c, _, _, h⟩
  ·obtain ⟨b, h, _⟩ := h
   injection h with h; exact Or.inr ⟨c, _, _, h⟩
set_option maxRecDepth 100000 in
set_option maxHeartbeats 4000000 in
theorem newFlow_any {w : World} {a : Nat → Addr} (hS : Sents w a) (hT : TabG w) (nm : List UInt8) (P : Int) (nv : Value) (L : List Nd) (hfc : (faultG onesE twosE P L).1 = 0) (hL0 : L.length ≤ 100000) (hlow : ∀ n ∈ L, LowN n) (hG : XG true (InH w) w nv L) :
  Calls Tryz.prog 35 #[.agg #[.string ⟨nm.toArray⟩, .int .i64 P, nv]] w fun e w' => Below w.heap.size w w' ∧ ∃ p tv yv ov pv, e = .returned (.tuple #[.pointer (some ⟨p, 0, none⟩), .nilIface]) ∧ Fl (InH w') w' p nm P nv tv yv ov pv L (tkI L L.length) (ysI gYes L L.length) (ysI gNo L L.length) (phI L L.length) := by
 have hW := wellG hfc
 have hL := hW.len.2
 obtain ⟨ad, cap, rfl⟩ := hG.is
 have hmp := run_make_row' (P := Tryz.prog) 74 40 (.slice none 0 0) 24 Tryz.underlying74 pile_info rfl .i64 .i64 L.length (by omega) (by omega)
 rw [made_pile] at hmp
 obtain ⟨vs0, hvs0⟩ : ∃ vs0, vs0 = List.replicate L.length (Value.slice none 0 0) := ⟨_, rfl⟩
 rw [← hvs0] at hmp
 have hmi := run_make_row' (P := Tryz.prog) 40 3 (.int .i64 0) 8 Tryz.underlying40 int_info rfl .i64 .i64 L.length (by omega) (by omega)
 rw [made_ints] at hmi
 obtain ⟨is0, his0⟩ : ∃ is0, is0 = natsG (List.replicate L.length 0) := ⟨_, rfl⟩
 rw [← his0] at hmi
 have hms := make_spots L.length (by omega)
 obtain ⟨ss0, hss0⟩ : ∃ ss0, ss0 = spotsC (List.replicate L.length (0, 0)) := ⟨_, rfl⟩
 rw [← hss0] at hms
 have HV0 := hidX hvs0
 have HI0 := hidX his0
 have HS0 := hidX hss0
 clear hvs0 his0 hss0
 have hL' : (L.length : Int) ≤ 1000 := by omega
 have HW := hidX hW
 have HLW := hidX hlow
 have hf : ∀ args w, (callFunc 54 args).run Tryz.prog w = .ok (.enter 54 args) w := enters_of Tryz.func54 (by kernel_rfl) rfl
 obtain ⟨W0, hW0⟩ : ∃ W0, W0 = w.alloc (.cells #[.string ⟨nm.toArray⟩, .int .i64 P, .slice ad L.length cap] 29) := ⟨_, rfl⟩
 have hb0 : Below w.heap.size w W0 := by rw [hW0]; (repeat (first | exact Below.refl _ _ | assumption | refine Below.drew ?_ | refine bT ?_ _ | refine bS ?_ _ | refine bA ?_ _))
 have hbx : W0.heap[w.heap.size]? = some (.cells #[.string ⟨nm.toArray⟩, .int .i64 P, .slice ad L.length cap] 29 (0, 0)) := by rw [hW0]; exact heap_alloc_new _ _
 have hG0 := hG.imp (inH_up hb0) (keepH hb0)
 have HCH := hidX (check_any (hS.below hb0) (hT.below hb0) nm P (.slice ad L.length cap) L hL0 hlow hG0)
 have HT0 := hidX (hT.below hb0)
 have HG0 := hidX hG0
 have HB0 := hidX hb0
 have HBX := hidX hbx
 have HFC := hidX hfc
 clear hT hW hlow hG hS hG0 hb0 hbx hfc
 go_enter Tryz.func35, Tryz.ntmps35
 go_wp2_with fail
 rw [← hW0]
 clear hW0
 refine HCH.out.mono ?_
 intro e W1 hft
 obtain ⟨v, rfl, hft2⟩ := ft_val hft
 have HB1 := hidX hft2.1
 have hft3 := ft_code hft2
 have hv0 : v = .nilIface := by
  rcases hft3 with h | h
  ·exact h.2
  ·exact absurd HFC.out h.1
 subst hv0
 clear hft hft2 hft3 HCH
 have hx1 := (HB1.out.block _ (heap_lt HBX.out)).trans HBX.out
 have HX1G := hidX hx1
 have hbw1 : Below w.heap.size w W1 := bl_trans HB0.out HB0.out.size HB1.out
 have HBW1 := hidX hbw1
 have HT := hidX (HT0.out.below HB1.out)
 have HG := hidX (HG0.out.imp (inH_up HB1.out) (keepH HB1.out))
 have d0 := cell_of_blk hx1 0
 have d1 := cell_of_blk hx1 1
 have d2 := cell_of_blk hx1 2
 simp only [List.getElem?_toArray, List.getElem?_cons_zero, List.getElem?_cons_succ] at d0 d1 d2
 have hgbl := heap_lt hx1
 have hgbl1 : w.heap.size < W1.heap.size + 1 := by omega
 have hgbl2 : w.heap.size < W1.heap.size + 1 + 1 := by omega
 have hgbl3 : w.heap.size < W1.heap.size + 1 + 1 + 1 := by omega
 have hgbl4 : w.heap.size < W1.heap.size + 1 + 1 + 1 + 1 := by omega
 clear hx1 hbw1 HT0 HG0 HB0 HB1 HBX
 go_wp2_with fail
 apply reg_cut4 (F := fun t y o p => { tmps := #[.agg #[.string ⟨nm.toArray⟩, .int .i64 P, .slice ad L.length cap], .pointer (some ⟨w.heap.size, 0, none⟩), .pointer none, .nilIface, .nilIface, .int .i64 L.length, .pointer (some ⟨W1.heap.size + 1 + 1 + 1 + 1, 0, none⟩), undef, undef, undef, undef, undef, .agg #[.string ⟨nm.toArray⟩, .int .i64 P, .slice ad L.length cap], .nilIface, .nilIface, .bool false, undef, .pointer (some ⟨w.heap.size, 2, none⟩), .slice ad L.length cap, .int .i64 L.length, .agg #[.string ⟨nm.toArray⟩, .int .i64 P, .slice ad L.length cap], .int .i64 L.length, .slice (some ⟨t, 0, none⟩) L.length L.length, .int .i64 L.length, .slice (some ⟨y, 0, none⟩) L.length L.length, .int .i64 L.length, .slice (some ⟨o, 0, none⟩) L.length L.length, .int .i64 L.length, .slice (some ⟨p, 0, none⟩) L.length L.length, .agg (flowV nm P (.slice ad L.length cap) t y o p L.length), .pointer (some ⟨W1.heap.size + 1 + 1 + 1 + 1, 0, none⟩), undef, undef, undef, undef, undef, undef, undef, undef, undef, undef, undef, undef, undef, undef, undef, undef, undef, undef, undef, undef, undef, undef, undef, undef, undef, undef, undef, undef, undef, undef, undef, undef, undef, undef, undef, undef, undef, undef, undef, undef, undef, undef, undef, undef, undef, undef, undef, undef, undef, undef, undef, undef, undef, undef, undef, undef, undef, undef, undef, undef, undef, undef, undef, undef, undef, undef, undef, undef, undef, undef, undef, undef, undef, undef, undef, undef, undef, undef, undef, undef, undef, undef, undef, undef, undef], defers := [] }) (R := fun t y o p W => Nf W1 W w.heap.size t y o p nm P (.slice ad L.length cap) L.length (tkI L 0) (ysI gYes L 0) (ysI gNo L 0) vs0 (phI L 0))
 ·go_region
  all_goals exact ⟨_, _, _, _, rfl, nf_new HX1G.out HS0.out HI0.out HV0.out rfl (by first | exact Or.inl ⟨rfl, rfl⟩ | exact Or.inr (Or.inl ⟨rfl, rfl⟩) | exact Or.inr (Or.inr (Or.inl ⟨rfl, rfl⟩)) | exact Or.inr (Or.inr (Or.inr ⟨rfl, rfl⟩))) (by first | exact Or.inl ⟨rfl, rfl⟩ | exact Or.inr (Or.inl ⟨rfl, rfl⟩) | exact Or.inr (Or.inr (Or.inl ⟨rfl, rfl⟩)) | exact Or.inr (Or.inr (Or.inr ⟨rfl, rfl⟩))) (by first | exact Or.inl ⟨rfl, rfl⟩ | exact Or.inr (Or.inl ⟨rfl, rfl⟩) | exact Or.inr (Or.inr (Or.inl ⟨rfl, rfl⟩)) | exact Or.inr (Or.inr (Or.inr ⟨rfl, rfl⟩))) (by first | exact Or.inl ⟨rfl, rfl⟩ | exact Or.inr (Or.inl ⟨rfl, rfl⟩) | exact Or.inr (Or.inr (Or.inl ⟨rfl, rfl⟩)) | exact Or.inr (Or.inr (Or.inr ⟨rfl, rfl⟩))) (by omega)⟩
 ·intro t y o p W hN
  clear hmp hmi hms d0 d1 d2 hgbl1 hgbl2 hgbl3 hgbl4
  have hx2 : W.cell? ⟨w.heap.size, 2, none⟩ = some (.slice ad L.length cap) := cell_of_blk hN.gbx 2
  have HN := hidX hN
  clear hN HV0 HI0 HS0
  go_wp2_with fail
  clear hx2
  go_loopw [34] (fun vi wr => ∃ (q : Nat) (vs : List Value), q ≤ L.length ∧ vi = .int .i64 q ∧ Hid (Nf W1 wr w.heap.size t y o p nm P (.slice ad L.length cap) L.length (tkI L q) (ysI gYes L q) (ysI gNo L q) vs (phI L q))) (fun vi _ => L.length - (intOf vi).toNat)
  case atStart => exact ⟨0, _, Nat.zero_le _, rfl, HN.out⟩
  case round =>
   obtain ⟨q, vs, hq, rfl, HQ⟩ := hrel
   obtain ⟨wo, hwo⟩ : ∃ wo, wo = wr := ⟨_, rfl⟩
   subst hwo
   by_cases hlt : q < L.length
   ·have hlt' : (q : Int) < (L.length : Int) := by omega
    obtain ⟨g, off, ad1, cap1, e1, hg, _, hr, k0, k1, k2, k3⟩ := HG.out.node hlt
    subst e1
    have hlowq := HQ.out.low
    replace k0 := (hlowq.cell (p := ⟨g, _, none⟩) hg).trans k0
    replace k1 := (hlowq.cell (p := ⟨g, _, none⟩) hg).trans k1
    replace k2 := (hlowq.cell (p := ⟨g, _, none⟩) hg).trans k2
    replace k3 := (hlowq.cell (p := ⟨g, _, none⟩) hg).trans k3
    have hnd : ndAt L (q : Int) = L[q] := by simp [ndAt, hlt]
    have hWn := HW.out.node.at (ndAt_ex hlt)
    have hln := HLW.out _ (List.getElem_mem hlt)
    have htk : tkI L (q + 1) = tkRow (ndAt L q) q (tkI L q) (ndAt L q).ins.length := rfl
    have hys : ysI gYes L (q + 1) = if (ndAt L q).kind = gYes then (ysI gYes L q).set ((ndAt L q).ins.getD 0 0).toNat q else ysI gYes L q := rfl
    have hns : ysI gNo L (q + 1) = if (ndAt L q).kind = gNo then (ysI gNo L q).set ((ndAt L q).ins.getD 0 0).toNat q else ysI gNo L q := rfl
    have hph : phI L (q + 1) = if (ndAt L q).kind = gPhi then (phI L q).set ((ndAt L q).ins.getD 0 0).toNat ((phI L q).getD ((ndAt L q).ins.getD 0 0).toNat [] ++ [q]) else phI L q := rfl
    have hphl := phI_few (HW.out) q (Nat.le_of_lt hlt)
    rw [hnd] at hWn htk hys hns hph
    have HNX := hidX (show tkI L (q + 1) = _ ∧ ysI gYes L (q + 1) = _ ∧ ysI gNo L (q + 1) = _ ∧ phI L (q + 1) = _ from ⟨htk, hys, hns, hph⟩)
    clear htk hys hns hph hnd
    generalize L[q] = n at *
    generalize tkI L q = tq at *
    generalize ysI gYes L q = yq at *
    generalize ysI gNo L q = nq at *
    generalize phI L q = pq at *
    obtain ⟨X1, hX1⟩ : ∃ X1, X1 = wo.alloc (.cells #[.string ⟨n.kind.toArray⟩, .slice ad1 n.ins.length cap1, .int .i64 n.num, .string ⟨n.name.toArray⟩] 55) := ⟨_, rfl⟩
    have hb1 : Below wo.heap.size wo X1 := by rw [hX1]; (repeat (first | exact Below.refl _ _ | assumption | refine Below.drew ?_ | refine bT ?_ _ | refine bS ?_ _ | refine bA ?_ _))
    have hx1 : X1.heap[wo.heap.size]? = some (.cells #[.string ⟨n.kind.toArray⟩, .slice ad1 n.ins.length cap1, .int .i64 n.num, .string ⟨n.name.toArray⟩] 55 (0, 0)) := by rw [hX1]; exact heap_alloc_new _ _
    have n0 : X1.cell? ⟨wo.heap.size, 0, none⟩ = some (.string ⟨n.kind.toArray⟩) := cell_of_blk hx1 0
    have hQ1 := HQ.out.below hb1
    have HQ1 := hidX hQ1
    have HX1 := hidX hx1
    have HSH := hidX (shapeOf_any n.kind X1 (HT.out.below hQ1.low))
    have HWN := hidX hWn
    have HLN := hidX hln
    have HROW := hidX hr
    have HPL := hidX hphl
    clear hQ1 hx1 hb1 hWn hln hr hphl
    go_wp2_with fail
    rw [← hX1]
    clear hX1 k0 k1 k2 k3
    refine HSH.out.mono ?_
    rintro e W2 ⟨rfl, hb2⟩
    have hns1 := (hb2.block _ (heap_lt HX1.out)).trans HX1.out
    obtain ⟨X3, hX3⟩ : ∃ X3, X3 = W2.alloc (.cells #[.string ⟨(shp n.kind).kind.toArray⟩, .string ⟨(shp n.kind).ins.toArray⟩, .string ⟨(shp n.kind).more.toArray⟩, .bool (shp n.kind).num, .bool (shp n.kind).name, .string ⟨(shp n.kind).gives.toArray⟩] 118) := ⟨_, rfl⟩
    have hb3 : Below W2.heap.size W2 X3 := by rw [hX3]; (repeat (first | exact Below.refl _ _ | assumption | refine Below.drew ?_ | refine bT ?_ _ | refine bS ?_ _ | refine bA ?_ _))
    have hxs : X3.heap[W2.heap.size]? = some (.cells #[.string ⟨(shp n.kind).kind.toArray⟩, .string ⟨(shp n.kind).ins.toArray⟩, .string ⟨(shp n.kind).more.toArray⟩, .bool (shp n.kind).num, .bool (shp n.kind).name, .string ⟨(shp n.kind).gives.toArray⟩] 118 (0, 0)) := by rw [hX3]; exact heap_alloc_new _ _
    have hxn := (hb3.block _ (heap_lt hns1)).trans hns1
    have HQ3 := hidX ((HQ1.out.below hb2).below hb3)
    have n1 : X3.cell? ⟨wo.heap.size, 1, none⟩ = some (.slice ad1 n.ins.length cap1) := cell_of_blk hxn 1
    have HXS := hidX hxs
    have HXN := hidX hxn
    have hsb : W2.heap.size < X3.heap.size := heap_lt hxs
    have hnb : wo.heap.size < W2.heap.size := heap_lt hns1
    have hll : (n.ins.length : Int) ≤ 1000 := by have := HLN.out.ins; omega
    have m1 := cell_of_blk hns1 1
    simp only [List.getElem?_toArray, List.getElem?_cons_zero, List.getElem?_cons_succ] at m1
    clear hb2 hb3 hns1 hxs hxn n0
    go_wp2_with fail
    rw [← hX3]
    clear hX3 n1 m1
    go_loopw [45] (fun vi wr => ∃ k : Nat, k ≤ n.ins.length ∧ vi = .int .i64 k ∧ Hid (Nf W1 wr w.heap.size t y o p nm P (.slice (some ⟨g, off, none⟩) L.length cap) L.length (tkRow n q tq k) yq nq vs pq) ∧ Hid (wr.heap[wo.heap.size]? = some (.cells #[.string ⟨n.kind.toArray⟩, .slice ad1 n.ins.length cap1, .int .i64 n.num, .string ⟨n.name.toArray⟩] 55 (0, 0))) ∧ Hid (wr.heap[W2.heap.size]? = some (.cells #[.string ⟨(shp n.kind).kind.toArray⟩, .string ⟨(shp n.kind).ins.toArray⟩, .string ⟨(shp n.kind).more.toArray⟩, .bool (shp n.kind).num, .bool (shp n.kind).name, .string ⟨(shp n.kind).gives.toArray⟩] 118 (0, 0)))) (fun vi _ => n.ins.length - (intOf vi).toNat)
    case atStart => exact ⟨0, Nat.zero_le _, rfl, HQ3.out, HXN.out, HXS.out⟩
    case round =>
     obtain ⟨k, hk, rfl, HQK, HNB, HSB⟩ := hrel
     have hfb : W1.heap.size + 4 < wo.heap.size := heap_lt HQ.out.blk
     have hord := HQ.out.ord
     by_cases hlk : k < n.ins.length
     ·have hlk' : (k : Int) < (n.ins.length : Int) := by omega
      obtain ⟨g3, off3, e3, hg3, kc⟩ := HROW.out.int hlk
      subst e3
      replace kc := (HQK.out.low.cell (p := ⟨g3, _, none⟩) hg3).trans kc
      have hbn := HWN.out.bnd _ (List.getElem_mem hlk)
      have hgk : n.ins.getD k 0 = n.ins[k] := by simp [hlk]
      obtain ⟨m, hm⟩ : ∃ m : Nat, n.ins[k] = (m : Int) := ⟨n.ins[k].toNat, by omega⟩
      rw [hm] at kc hbn hgk
      have hst : tkRow n q tq (k + 1) = if dueS (shp n.kind) k = 119 then (tkRow n q tq k).set m (q, k) else tkRow n q tq k := by rw [tkRow_succ]; unfold tkStep; rw [hgk, Int.toNat_natCast]
      have hfit : k < (shp n.kind).ins.length ∨ (shp n.kind).more ≠ [] := by
       have hF := HWN.out.fits
       unfold fitsB at hF
       simp only [Bool.and_eq_true, Bool.or_eq_true, beq_iff_eq, decide_eq_true_eq, bne_iff_ne, ne_eq] at hF
       rcases hF.1.1 with h | h
       ·left; omega
       ·right; exact h.2
      have hl5 : (shp n.kind).ins.length ≤ 5 := shp_five n.kind
      have hdue := due_any (shp n.kind) k hfit hl5 wr
      have c0 := cell_of_blk HSB.out 0
      have c1 := cell_of_blk HSB.out 1
      have c2 := cell_of_blk HSB.out 2
      have c3 := cell_of_blk HSB.out 3
      have c4 := cell_of_blk HSB.out 4
      have c5 := cell_of_blk HSB.out 5
      simp only [List.getElem?_toArray, List.getElem?_cons_zero, List.getElem?_cons_succ] at c0 c1 c2 c3 c4 c5
      have HDU := hidX hdue
      have HST := hidX hst
      have hm1 : (m : Int) < (L.length : Int) := hbn.2
      clear hdue hst hfit hl5 hgk hm hbn
      generalize hsd : dueS (shp n.kind) k = dd at *
      generalize hsh : shp n.kind = sh at *
      clear hsd hsh
      generalize hcode : ((dd.toNat : Nat) : Int) = dn at *
      have HCODE := hidX hcode
      clear hcode
      go_wp2_with fail
      refine HDU.out.mono ?_
      rintro e W4 ⟨rfl, hb4⟩
      have HQ4 := hidX (HQK.out.below hb4)
      have HN4 := hidX ((hb4.block _ (heap_lt HNB.out)).trans HNB.out)
      have HS4 := hidX ((hb4.block _ (heap_lt HSB.out)).trans HSB.out)
      clear hb4 c0 c1 c2 c3 c4 c5 kc
      by_cases hdd : dd = 119
      ·have t1 : (dn == 119) = true := by rw [← HCODE.out, hdd]; rfl
       have hs2 := HST.out
       rw [if_pos hdd] at hs2
       have HS2 := hidX hs2
       have d3 : W4.cell? ⟨W1.heap.size + 1 + 1 + 1 + 1, 3, none⟩ = some (.slice (some ⟨t, 0, none⟩) L.length L.length) := cell_of_blk HQ4.out.blk 3
       have hlen : (spotsC (tkRow n q tq k)).length = L.length * 2 := by rw [spots_len, HQ4.out.len.1]
       have f0 := free_of_blk HQ4.out.tks (m * 2)
       have f1 := free_of_blk HQ4.out.tks (m * 2 + 1)
       obtain ⟨u0, e0⟩ : ∃ u, W4.cell? ⟨t, m * 2, none⟩ = some u := by rw [cell_of_blk HQ4.out.tks, List.getElem?_toArray]; exact ⟨_, List.getElem?_eq_getElem (by omega)⟩
       obtain ⟨u1, e1⟩ : ∃ u, W4.cell? ⟨t, m * 2 + 1, none⟩ = some u := by rw [cell_of_blk HQ4.out.tks, List.getElem?_toArray]; exact ⟨_, List.getElem?_eq_getElem (by omega)⟩
       have hfin := HQ4.out.setTk (m := m) (by omega) q k
       rw [← hs2] at hfin
       have hfn : ∀ b, b ≠ t → ((W4.setCell ⟨t, m * 2, none⟩ (.int .i64 (q : Int))).setCell ⟨t, m * 2 + 1, none⟩ (.int .i64 (k : Int))).heap[b]? = W4.heap[b]? := fun b hb => by rw [Below.heap_setCell _ _ _ _ hb, Below.heap_setCell _ _ _ _ hb]
       have HFIN := hidX hfin
       have HFN := hidX hfn
       clear hs2 hdd hlen hfin hfn HST
       go_wp2
       go_roundw
       case rel => exact ⟨k + 1, by omega, by go_num, HFIN.out, (HFN.out _ (by omega)).trans HN4.out, (HFN.out _ (by omega)).trans HS4.out⟩
       case measure => simp [intOf]; omega
      ·have t1 : (dn == 119) = false := by
        rw [← HCODE.out, beq_eq_false_iff_ne]
        intro h
        exact hdd (UInt8.toNat_inj.1 (by show dd.toNat = 119; omega))
       have hs2 := HST.out
       rw [if_neg hdd] at hs2
       have hq4 := HQ4.out
       rw [← hs2] at hq4
       have HFIN := hidX hq4
       clear hs2 hdd hq4 HST
       go_wp2
       go_roundw
       case rel => exact ⟨k + 1, by omega, by go_num, HFIN.out, HN4.out, HS4.out⟩
       case measure => simp [intOf]; omega
     ·have hkn : k = n.ins.length := by omega
      subst hkn
      have hkk := HNB.out
      have z0 := cell_of_blk hkk 0
      have z1 := cell_of_blk hkk 1
      simp only [List.getElem?_toArray, List.getElem?_cons_zero, List.getElem?_cons_succ] at z0 z1
      obtain ⟨x1, x2, x3, x4⟩ := HNX.out
      have hl := fits_len HWN.out.fits
      have hq5 := HQK.out
      rw [← x1] at hq5
      have HQ5 := hidX hq5
      clear hq5 hkk x1 HQK
      by_cases cy : n.kind = gYes
      ·have t1 : (n.kind == [121, 101, 115]) = true := by rw [cy]; decide
       rw [if_pos cy] at x2
       rw [if_neg (by rw [cy]; decide)] at x3 x4
       have hil : n.ins.length = 1 := hl.2.2.2.2.2.2.2.2.1 cy
       have hlk : 0 < n.ins.length := by omega
       obtain ⟨g3, off3, e3, hg3, kc⟩ := HROW.out.int hlk
       subst e3
       replace kc := (HQ5.out.low.cell (p := ⟨g3, _, none⟩) hg3).trans kc
       have hbn := HWN.out.bnd _ (List.getElem_mem hlk)
       have hgk : n.ins.getD 0 0 = n.ins[0] := by simp [hlk]
       obtain ⟨m, hm⟩ : ∃ m : Nat, n.ins[0] = (m : Int) := ⟨n.ins[0].toNat, by omega⟩
       rw [hm] at kc hbn hgk
       rw [hgk, Int.toNat_natCast] at x2
       rw [Nat.add_zero] at kc
       have hm1 : (m : Int) < (L.length : Int) := hbn.2
       have hil' : (n.ins.length : Int) = 1 := by omega
       have HXX := hidX (show ysI gYes L (q + 1) = _ ∧ ysI gNo L (q + 1) = _ ∧ phI L (q + 1) = _ from ⟨x2, x3, x4⟩)
       have d4 : wr.cell? ⟨W1.heap.size + 1 + 1 + 1 + 1, 4, none⟩ = some (.slice (some ⟨y, 0, none⟩) L.length L.length) := cell_of_blk HQ5.out.blk 4
       have hyl := HQ5.out.len.2.1
       obtain ⟨u0, e0⟩ : ∃ u, wr.cell? ⟨y, m, none⟩ = some u := by rw [cell_of_blk HQ5.out.yes, List.getElem?_toArray]; exact ⟨_, List.getElem?_eq_getElem (by rw [natsG, List.length_map]; omega)⟩
       have f0 := free_of_blk HQ5.out.yes m
       have hfin := HQ5.out.setYes m q
       rw [← x2, ← x3, ← x4] at hfin
       have HFIN := hidX (show Nf W1 (wr.setCell ⟨y, m, none⟩ (.int .i64 (q : Int))).drew w.heap.size t y o p nm P (.slice (some ⟨g, off, none⟩) L.length cap) L.length (tkI L (q + 1)) (ysI gYes L (q + 1)) (ysI gNo L (q + 1)) vs (phI L (q + 1)) from hfin.below (Below.drew (Below.refl _ _)))
       clear x2 x3 x4 hl cy hgk hbn hm hyl hfin
       generalize n.ins.length = nl at *
       subst hil
       go_wp2_with fail
       go_region
       all_goals (
        go_wp2
        go_roundw
        case rel => exact ⟨q + 1, _, by omega, by go_num, HFIN.out⟩
        case measure => simp [intOf]; omega)
      ·by_cases cn : n.kind = gNo
       ·have t1 : (n.kind == [121, 101, 115]) = false := ne_lit cy
        have t2 : (n.kind == [110, 111]) = true := by rw [cn]; decide
        rw [if_neg cy] at x2
        rw [if_pos cn] at x3
        rw [if_neg (by rw [cn]; decide)] at x4
        have hil : n.ins.length = 1 := hl.2.2.2.2.2.2.2.2.2.1 cn
        have hlk : 0 < n.ins.length := by omega
        obtain ⟨g3, off3, e3, hg3, kc⟩ := HROW.out.int hlk
        subst e3
        replace kc := (HQ5.out.low.cell (p := ⟨g3, _, none⟩) hg3).trans kc
        have hbn := HWN.out.bnd _ (List.getElem_mem hlk)
        have hgk : n.ins.getD 0 0 = n.ins[0] := by simp [hlk]
        obtain ⟨m, hm⟩ : ∃ m : Nat, n.ins[0] = (m : Int) := ⟨n.ins[0].toNat, by omega⟩
        rw [hm] at kc hbn hgk
        rw [hgk, Int.toNat_natCast] at x3
        rw [Nat.add_zero] at kc
        have hm1 : (m : Int) < (L.length : Int) := hbn.2
        have d5 : wr.cell? ⟨W1.heap.size + 1 + 1 + 1 + 1, 5, none⟩ = some (.slice (some ⟨o, 0, none⟩) L.length L.length) := cell_of_blk HQ5.out.blk 5
        have hyl := HQ5.out.len.2.2.1
        obtain ⟨u0, e0⟩ : ∃ u, wr.cell? ⟨o, m, none⟩ = some u := by rw [cell_of_blk HQ5.out.no, List.getElem?_toArray]; exact ⟨_, List.getElem?_eq_getElem (by rw [natsG, List.length_map]; omega)⟩
        have f0 := free_of_blk HQ5.out.no m
        have hfin := HQ5.out.setNo m q
        rw [← x2, ← x3, ← x4] at hfin
        have HFIN := hidX (show Nf W1 (wr.setCell ⟨o, m, none⟩ (.int .i64 (q : Int))).drew w.heap.size t y o p nm P (.slice (some ⟨g, off, none⟩) L.length cap) L.length (tkI L (q + 1)) (ysI gYes L (q + 1)) (ysI gNo L (q + 1)) vs (phI L (q + 1)) from hfin.below (Below.drew (Below.refl _ _)))
        clear x2 x3 x4 hl cy cn hgk hbn hm hyl hfin
        generalize n.ins.length = nl at *
        subst hil
        go_wp2_with fail
        go_region
        all_goals (
         go_wp2
         go_roundw
         case rel => exact ⟨q + 1, _, by omega, by go_num, HFIN.out⟩
         case measure => simp [intOf]; omega)
       ·by_cases cp : n.kind = gPhi
        ·have t1 : (n.kind == [121, 101, 115]) = false := ne_lit cy
         have t2 : (n.kind == [110, 111]) = false := ne_lit cn
         have t3 : (n.kind == [112, 104, 105]) = true := by rw [cp]; decide
         rw [if_neg cy] at x2
         rw [if_neg cn] at x3
         rw [if_pos cp] at x4
         have hil : 1 ≤ n.ins.length := hl.2.2.2.2.2.1 cp
         have hlk : 0 < n.ins.length := by omega
         obtain ⟨g3, off3, e3, hg3, kc⟩ := HROW.out.int hlk
         subst e3
         replace kc := (HQ5.out.low.cell (p := ⟨g3, _, none⟩) hg3).trans kc
         have hbn := HWN.out.bnd _ (List.getElem_mem hlk)
         have hgk : n.ins.getD 0 0 = n.ins[0] := by simp [hlk]
         obtain ⟨m, hm⟩ : ∃ m : Nat, n.ins[0] = (m : Int) := ⟨n.ins[0].toNat, by omega⟩
         rw [hm] at kc hbn hgk
         rw [hgk, Int.toNat_natCast] at x4
         have hm1 : (m : Int) < (L.length : Int) := hbn.2
         have hml : m < pq.length := by have := HQ5.out.len.2.2.2; omega
         have hpm := HPL.out m
         rw [List.getD_eq_getElem?_getD, List.getElem?_eq_getElem hml, Option.getD_some] at x4 hpm
         obtain ⟨ada, capa, a1, a2, a3⟩ := HQ5.out.pile.get hml
         have a4 := List.getElem?_eq_getElem hml
         generalize pq[m] = lm at *
         have hil' : (1 : Int) ≤ (n.ins.length : Int) := by omega
         have d6 : wr.cell? ⟨W1.heap.size + 1 + 1 + 1 + 1, 6, none⟩ = some (.slice (some ⟨p, 0, none⟩) L.length L.length) := cell_of_blk HQ5.out.blk 6
         rw [Nat.add_zero] at kc
         have hfz := HQ5.out.pile.blk
         have hplw := heap_lt hfz
         have hg3l : g3 < wr.heap.size := cell_lt kc
         have hfl : W1.heap.size + 1 + 1 + 1 + 1 < wr.heap.size := cell_lt d6
         have hnl : wo.heap.size < wr.heap.size := cell_lt z1
         have hkeep : ∀ W : World, Below wr.heap.size wr W → W.cell? ⟨W1.heap.size + 1 + 1 + 1 + 1, 6, none⟩ = some (.slice (some ⟨p, 0, none⟩) L.length L.length) ∧ W.cell? ⟨wo.heap.size, 1, none⟩ = some (.slice (some ⟨g3, off3, none⟩) n.ins.length cap1) ∧ W.cell? ⟨g3, off3, none⟩ = some (.int .i64 (m : Int)) ∧ W.cell? ⟨p, m, none⟩ = some (.slice ada lm.length capa) := fun W hW => ⟨(hW.cell (p := ⟨W1.heap.size + 1 + 1 + 1 + 1, 6, none⟩) hfl).trans d6, (hW.cell (p := ⟨wo.heap.size, 1, none⟩) hnl).trans z1, (hW.cell (p := ⟨g3, off3, none⟩) hg3l).trans kc, (hW.cell (p := ⟨p, m, none⟩) hplw).trans a2⟩
         have HK := hidX hkeep
         have hbb : Below wr.heap.size wr (wr.alloc (.cells #[.int .i64 (q : Int)] 3)).drew := by (repeat (first | exact Below.refl _ _ | assumption | refine Below.drew ?_ | refine bT ?_ _ | refine bS ?_ _ | refine bA ?_ _))
         have hps := fun (W7 : World) (v7 : Value) h1 h2 h3 => HQ5.out.push (W7 := W7) (v7 := v7) (x := q) (m := m) a1 a4 hbb h1 h2 h3
         rw [← x2, ← x3, ← x4] at hps
         have HPS := hidX hps
         have HOW := hidX (owns_below a3 hbb)
         have HFZ := hidX hfz
         have HA1 := hidX (show vs.toArray[m]? = some (.slice ada lm.length capa) by rw [List.getElem?_toArray]; exact a1)
         obtain ⟨i0, hi, iz0, iz1, iz2⟩ := info_parts int_info
         have hwb : W1.heap.size + 5 ≤ wr.heap.size := by omega
         have hne : (Value.slice ada lm.length capa).ownBlock ≠ some wo.heap.size := fun e => by
          rcases id a3 with ⟨_, ⟨e0, _⟩ | ⟨g9, c9, cur9, e9, _, h9, _⟩⟩
          ·rw [e0] at e; simp [Value.ownBlock] at e
          ·rw [e9] at e
           have e8 : g9 = wo.heap.size := by simpa [Value.ownBlock] using e
           rw [e8, HNB.out] at h9
           simp at h9
         have HNE := hidX hne
         have HK0 := hidX (hkeep wr (Below.refl _ _))
         have HBK := hidX HQ5.out.blk
         have HNBX := hidX HNB.out
         have hg3w : g3 < W1.heap.size := hg3
         clear x2 x3 x4 hl cy cn cp hgk hbn hm hps a1 a4 a3 hfz hkeep hne
         go_wp2_with fail
         clear z0 z1 kc d6 a2
         refine wp_region_until (fun W => W.cell? ⟨W1.heap.size + 1 + 1 + 1 + 1, 6, none⟩ = some (.slice (some ⟨p, 0, none⟩) L.length L.length) ∧ W.cell? ⟨wo.heap.size, 1, none⟩ = some (.slice (some ⟨g3, off3, none⟩) n.ins.length cap1) ∧ W.cell? ⟨g3, off3, none⟩ = some (.int .i64 (m : Int)) ∧ W.cell? ⟨p, m, none⟩ = some (.slice ada lm.length capa)) 22 (by kernel_rfl) (HK.out _ (by (repeat (first | exact Below.refl _ _ | assumption | refine Below.drew ?_ | refine bT ?_ _ | refine bS ?_ _ | refine bA ?_ _)))) (fun hHeld => ?_)
         refine wpAnyU_put 0 (some 92) (v := ?v0) rfl rfl (by kernel_rfl) (by kernel_rfl) (by kernel_rfl) (by kernel_rfl) (fun _ _ _ h => h) (Or.inl ⟨by rfl, ?hy0⟩) hHeld ?rest0
         case hy0 => (intro w2 hSw; (try dsimp only at hSw); first | (go_simp; done) | (go_simp; with_reducible rfl))
         simp only [Act.put, List.setIfInBounds_toArray, List.set_cons_zero, List.set_cons_succ]
         refine wpAnyU_put 1 (some 93) (v := ?v1) rfl rfl (by kernel_rfl) (by kernel_rfl) (by kernel_rfl) (by kernel_rfl) (fun _ _ _ h => h) (Or.inl ⟨by rfl, ?hy1⟩) hHeld ?rest1
         case hy1 => (intro w2 hSw; (try dsimp only at hSw); first | (go_simp; done) | (go_simp; with_reducible rfl))
         simp only [Act.put, List.setIfInBounds_toArray, List.set_cons_zero, List.set_cons_succ]
         refine wpAnyU_put 2 (some 94) (v := ?v2) rfl rfl (by kernel_rfl) (by kernel_rfl) (by kernel_rfl) (by kernel_rfl) (fun _ _ _ h => h) (Or.inl ⟨by rfl, ?hy2⟩) hHeld ?rest2
         case hy2 => (intro w2 hSw; (try dsimp only at hSw); first | (go_simp; done) | (go_simp; with_reducible rfl))
         simp only [Act.put, List.setIfInBounds_toArray, List.set_cons_zero, List.set_cons_succ]
         refine wpAnyU_put 3 (some 95) (v := ?v3) rfl rfl (by kernel_rfl) (by kernel_rfl) (by kernel_rfl) (by kernel_rfl) (fun _ _ _ h => h) (Or.inl ⟨by rfl, ?hy3⟩) hHeld ?rest3
         case hy3 => (intro w2 hSw; (try dsimp only at hSw); first | (go_simp; done) | (go_simp; with_reducible rfl))
         simp only [Act.put, List.setIfInBounds_toArray, List.set_cons_zero, List.set_cons_succ]
         refine wpAnyU_put 4 (some 96) (v := ?v4) rfl rfl (by kernel_rfl) (by kernel_rfl) (by kernel_rfl) (by kernel_rfl) (fun _ _ _ h => h) (Or.inl ⟨by rfl, ?hy4⟩) hHeld ?rest4
         case hy4 => (intro w2 hSw; (try dsimp only at hSw); first | (go_simp; done) | (go_simp; with_reducible rfl))
         simp only [Act.put, List.setIfInBounds_toArray, List.set_cons_zero, List.set_cons_succ]
         refine wpAnyU_put 5 (some 97) (v := ?v5) rfl rfl (by kernel_rfl) (by kernel_rfl) (by kernel_rfl) (by kernel_rfl) (fun _ _ _ h => h) (Or.inl ⟨by rfl, ?hy5⟩) hHeld ?rest5
         case hy5 => (intro w2 hSw; (try dsimp only at hSw); first | (go_simp; done) | (go_simp; with_reducible rfl))
         simp only [Act.put, List.setIfInBounds_toArray, List.set_cons_zero, List.set_cons_succ]
         refine wpAnyU_put 6 (some 98) (v := ?v6) rfl rfl (by kernel_rfl) (by kernel_rfl) (by kernel_rfl) (by kernel_rfl) (fun _ _ _ h => h) (Or.inl ⟨by rfl, ?hy6⟩) hHeld ?rest6
         case hy6 => (intro w2 hSw; (try dsimp only at hSw); first | (go_simp; done) | (go_simp; with_reducible rfl))
         simp only [Act.put, List.setIfInBounds_toArray, List.set_cons_zero, List.set_cons_succ]
         refine wpAnyU_put 7 (some 99) (v := ?v7) rfl rfl (by kernel_rfl) (by kernel_rfl) (by kernel_rfl) (by kernel_rfl) (fun _ _ _ h => h) (Or.inl ⟨by rfl, ?hy7⟩) hHeld ?rest7
         case hy7 => (intro w2 hSw; (try dsimp only at hSw); first | (go_simp; done) | (go_simp; with_reducible rfl))
         simp only [Act.put, List.setIfInBounds_toArray, List.set_cons_zero, List.set_cons_succ]
         refine wpAnyU_put 8 (some 100) (v := ?v8) rfl rfl (by kernel_rfl) (by kernel_rfl) (by kernel_rfl) (by kernel_rfl) (fun _ _ _ h => h) (Or.inl ⟨by rfl, ?hy8⟩) hHeld ?rest8
         case hy8 => (intro w2 hSw; (try dsimp only at hSw); first | (go_simp; done) | (go_simp; with_reducible rfl))
         simp only [Act.put, List.setIfInBounds_toArray, List.set_cons_zero, List.set_cons_succ]
         refine wpAnyU_put 9 (some 101) (v := ?v9) rfl rfl (by kernel_rfl) (by kernel_rfl) (by kernel_rfl) (by kernel_rfl) (fun _ _ _ h => h) (Or.inl ⟨by rfl, ?hy9⟩) hHeld ?rest9
         case hy9 => (intro w2 hSw; (try dsimp only at hSw); first | (go_simp; done) | (go_simp; with_reducible rfl))
         simp only [Act.put, List.setIfInBounds_toArray, List.set_cons_zero, List.set_cons_succ]
         refine wpAnyU_put 10 (some 102) (v := ?v10) rfl rfl (by kernel_rfl) (by kernel_rfl) (by kernel_rfl) (by kernel_rfl) (fun _ _ _ h => h) (Or.inl ⟨by rfl, ?hy10⟩) hHeld ?rest10
         case hy10 => (intro w2 hSw; (try dsimp only at hSw); first | (go_simp; done) | (go_simp; with_reducible rfl))
         simp only [Act.put, List.setIfInBounds_toArray, List.set_cons_zero, List.set_cons_succ]
         refine wpAnyU_put 11 (some 103) (v := ?v11) rfl rfl (by kernel_rfl) (by kernel_rfl) (by kernel_rfl) (by kernel_rfl) (fun _ _ _ h => h) (Or.inl ⟨by rfl, ?hy11⟩) hHeld ?rest11
         case hy11 => (intro w2 hSw; (try dsimp only at hSw); first | (go_simp; done) | (go_simp; with_reducible rfl))
         simp only [Act.put, List.setIfInBounds_toArray, List.set_cons_zero, List.set_cons_succ]
         refine wpAnyU_put 12 (some 104) (v := ?v12) rfl rfl (by kernel_rfl) (by kernel_rfl) (by kernel_rfl) (by kernel_rfl) (fun _ _ _ h => h) (Or.inl ⟨by rfl, ?hy12⟩) hHeld ?rest12
         case hy12 => (intro w2 hSw; (try dsimp only at hSw); first | (go_simp; done) | (go_simp; with_reducible rfl))
         simp only [Act.put, List.setIfInBounds_toArray, List.set_cons_zero, List.set_cons_succ]
         refine wpAnyU_put 13 (some 105) (v := ?v13) rfl rfl (by kernel_rfl) (by kernel_rfl) (by kernel_rfl) (by kernel_rfl) (fun _ _ _ h => h) (Or.inl ⟨by rfl, ?hy13⟩) hHeld ?rest13
         case hy13 => (intro w2 hSw; (try dsimp only at hSw); first | (go_simp; done) | (go_simp; with_reducible rfl))
         simp only [Act.put, List.setIfInBounds_toArray, List.set_cons_zero, List.set_cons_succ]
         refine wpAnyU_put 14 (some 106) (v := ?v14) rfl rfl (by kernel_rfl) (by kernel_rfl) (by kernel_rfl) (by kernel_rfl) (fun _ _ _ h => h) (Or.inl ⟨by rfl, ?hy14⟩) hHeld ?rest14
         case hy14 => (intro w2 hSw; (try dsimp only at hSw); first | (go_simp; done) | (go_simp; with_reducible rfl))
         simp only [Act.put, List.setIfInBounds_toArray, List.set_cons_zero, List.set_cons_succ]
         refine wpAnyU_put 15 (some 107) (v := ?v15) rfl rfl (by kernel_rfl) (by kernel_rfl) (by kernel_rfl) (by kernel_rfl) (fun _ _ _ h => h) (Or.inl ⟨by rfl, ?hy15⟩) hHeld ?rest15
         case hy15 => (intro w2 hSw; (try dsimp only at hSw); first | (go_simp; done) | (go_simp; with_reducible rfl))
         simp only [Act.put, List.setIfInBounds_toArray, List.set_cons_zero, List.set_cons_succ]
         refine wpAnyU_put 16 (some 108) (v := ?v16) rfl rfl (by kernel_rfl) (by kernel_rfl) (by kernel_rfl) (by kernel_rfl) (fun _ _ _ h => h) (Or.inl ⟨by rfl, ?hy16⟩) hHeld ?rest16
         case hy16 => (intro w2 hSw; (try dsimp only at hSw); first | (go_simp; done) | (go_simp; with_reducible rfl))
         simp only [Act.put, List.setIfInBounds_toArray, List.set_cons_zero, List.set_cons_succ]
         refine wpAnyU_put 17 (some 109) (v := ?v17) rfl rfl (by kernel_rfl) (by kernel_rfl) (by kernel_rfl) (by kernel_rfl) (fun _ _ _ h => h) (Or.inl ⟨by rfl, ?hy17⟩) hHeld ?rest17
         case hy17 => (intro w2 hSw; (try dsimp only at hSw); first | (go_simp; done) | (go_simp; with_reducible rfl))
         simp only [Act.put, List.setIfInBounds_toArray, List.set_cons_zero, List.set_cons_succ]
         refine wpAnyU_put 18 (some 110) (v := ?v18) rfl rfl (by kernel_rfl) (by kernel_rfl) (by kernel_rfl) (by kernel_rfl) (fun _ _ _ h => h) (Or.inl ⟨by rfl, ?hy18⟩) hHeld ?rest18
         case hy18 => (intro w2 hSw; (try dsimp only at hSw); first | (go_simp; done) | (go_simp; with_reducible rfl))
         simp only [Act.put, List.setIfInBounds_toArray, List.set_cons_zero, List.set_cons_succ]
         have s19 := HK.out _ hbb
         refine wpAnyU_one (i := 19) (by kernel_rfl) rfl (fun K19 hK19 => ?_)
         go_simp
         refine hK19.out _ _ (fun _ => s19) (fun _ => ?_)
         clear hK19 hHeld K19
         refine wpAnyU_one (i := 20) (by kernel_rfl) rfl (fun K20 hK20 => ?_)
         refine step_append_lies _ rfl (.tmp 109) (.tmp 111) 40 rfl (W1.heap.size + 5) 3 i0 _ 1 8 Tryz.underlying40 hi iz0 iz1 iz2 rfl (by decide) (.slice ada lm.length capa) lm.length (natsG lm) rfl HOW.out ⟨wr.heap.size, 0, none⟩ 1 1 [.int .i64 (q : Int)] rfl rfl (World.news_of_block (heap_alloc_new _ _)) (int_one _) (by decide) (by unfold maxLen; omega) (by omega) (by simp; omega) _ rfl ?_
         intro g4 cap4 W4 ho4 hg4 hl4 _
         have hzz : (wr.alloc (.cells #[.int .i64 (q : Int)] 3)).drew.heap.size = wr.heap.size + 1 := by simp
         have hlo := fun b h => (HOW.out.lt b h).1
         have hp4 : W4.heap[p]? = _ := ((hg4.block p (by rw [hzz]; omega) (fun e => by have := hlo _ e.symm; omega)).trans (hbb.block p hplw)).trans HFZ.out
         have hq4 : W4.heap[W1.heap.size + 1 + 1 + 1 + 1]? = _ := ((hg4.block _ (by rw [hzz]; omega) (fun e => by have := hlo _ e.symm; omega)).trans (hbb.block _ hfl)).trans HBK.out
         have hn4 : W4.heap[wo.heap.size]? = _ := ((hg4.block _ (by rw [hzz]; omega) (fun e => HNE.out e.symm)).trans (hbb.block _ hnl)).trans HNBX.out
         have hg5 : W4.heap[g3]? = wr.heap[g3]? := (hg4.block _ (by rw [hzz]; omega) (fun e => by have := hlo _ e.symm; omega)).trans (hbb.block _ hg3l)
         have f3 := free_of_blk hp4 m
         have s3 := (cell_of_blk hp4 m).trans HA1.out
         have s20 := (show (W4.cell? ⟨W1.heap.size + 1 + 1 + 1 + 1, 6, none⟩ = some (.slice (some ⟨p, 0, none⟩) L.length L.length) ∧ W4.cell? ⟨wo.heap.size, 1, none⟩ = some (.slice (some ⟨g3, off3, none⟩) n.ins.length cap1) ∧ W4.cell? ⟨g3, off3, none⟩ = some (.int .i64 (m : Int)) ∧ W4.cell? ⟨p, m, none⟩ = some (.slice ada lm.length capa)) from ⟨cell_of_blk hq4 6, cell_of_blk hn4 1, (World.cell?_of_block (a := ⟨g3, off3, none⟩) hg5).trans HK0.out.2.2.1, (cell_of_blk hp4 m).trans HA1.out⟩)
         change K20 (Act.put _ (some 112) _) W4
         refine hK20.out _ _ (fun _ => s20) (fun hHeld => ?_)
         clear hK20 K20 s20
         simp only [Act.put, List.setIfInBounds_toArray, List.set_cons_zero, List.set_cons_succ]
         refine wpAnyU_put 21 (some 113) (v := ?v21) rfl rfl (by kernel_rfl) (by kernel_rfl) (by kernel_rfl) (by kernel_rfl) (fun _ _ _ h => h) (Or.inl ⟨by rfl, ?hy21⟩) (hHeld (by decide)) ?rest21
         case hy21 => (intro w2 hSw; (try dsimp only at hSw); first | (go_simp; done) | (go_simp; with_reducible rfl))
         simp only [Act.put, List.setIfInBounds_toArray, List.set_cons_zero, List.set_cons_succ]
         have hfin := HPS.out W4 _ ho4 hg4 (by rcases hl4 with e | e; exact Or.inl e.symm; right; simp only [Value.ownBlock]; rw [e])
         have HFIN := hidX hfin
         clear hfin hHeld ho4 hg4 hl4 hq4 hn4 hp4 hg5 hzz hlo HPS
         refine wpAnyU_one (i := 22) (by kernel_rfl) rfl (fun K22 hK22 => ?_)
         go_simp
         refine hK22.out _ _ (fun h => absurd rfl h) (fun _ => ?_)
         clear hK22 K22
         refine wpAnyU_done (by kernel_rfl) ?_ _
         go_wp2
         go_roundw
         case rel => exact ⟨q + 1, _, by omega, by go_num, HFIN.out⟩
         case measure => simp [intOf]; omega
        ·have t1 : (n.kind == [121, 101, 115]) = false := ne_lit cy
         have t2 : (n.kind == [110, 111]) = false := ne_lit cn
         have t3 : (n.kind == [112, 104, 105]) = false := ne_lit cp
         rw [if_neg cy] at x2
         rw [if_neg cn] at x3
         rw [if_neg cp] at x4
         have hq6 := HQ5.out
         rw [← x2, ← x3, ← x4] at hq6
         have HFIN := hidX hq6
         clear hq6 x2 x3 x4 hl cy cn cp
         go_wp2
         go_roundw
         case rel => exact ⟨q + 1, _, by omega, by go_num, HFIN.out⟩
         case measure => simp [intOf]; omega
   ·have hqn : q = L.length := by omega
    subst hqn
    have hfl := HQ.out.fl HG.out
    have HFL := hidX hfl
    have HLO := hidX HQ.out.low
    clear hfl
    go_wp2
    go_ret2
    exact ⟨bl_trans HBW1.out HBW1.out.size HLO.out, _, _, _, _, _, rfl, HFL.out⟩
set_option maxRecDepth 100000 in
set_option maxHeartbeats 2000000 in
theorem newFlow_bad {w : World} {a : Nat → Addr} (hS : Sents w a) (hT : TabG w) (nm : List UInt8) (P : Int) (nv : Value) (L : List Nd) (hfc : (faultG onesE twosE P L).1 ≠ 0) (hL0 : L.length ≤ 100000) (hlow : ∀ n ∈ L, LowN n) (hG : XG true (InH w) w nv L) :
  Calls Tryz.prog 35 #[.agg #[.string ⟨nm.toArray⟩, .int .i64 P, nv]] w fun e w' => ∃ v, e = .returned (.tuple #[.pointer none, v]) ∧ FtTo w a (faultG onesE twosE P L) (.returned v) w' := by
 obtain ⟨ad, cap, rfl⟩ := hG.is
 obtain ⟨W0, hW0⟩ : ∃ W0, W0 = w.alloc (.cells #[.string ⟨nm.toArray⟩, .int .i64 P, .slice ad L.length cap] 29) := ⟨_, rfl⟩
 have hb0 : Below w.heap.size w W0 := by rw [hW0]; (repeat (first | exact Below.refl _ _ | assumption | refine Below.drew ?_ | refine bT ?_ _ | refine bS ?_ _ | refine bA ?_ _))
 have HCH := hidX (check_any (hS.below hb0) (hT.below hb0) nm P (.slice ad L.length cap) L hL0 hlow (hG.imp (inH_up hb0) (keepH hb0)))
 have HB0 := hidX hb0
 have HFC := hidX hfc
 clear hT hlow hG hS hb0 hfc
 go_enter Tryz.func35, Tryz.ntmps35
 go_wp2_with fail
 rw [← hW0]
 clear hW0
 refine HCH.out.mono ?_
 intro e W1 hft
 obtain ⟨v, rfl, hft2⟩ := ft_val hft
 have HFT := hidX (ft_from hft2 HB0.out)
 have hft3 := ft_code hft2
 have hv0 : ∃ t u, v = .iface t u := by
  rcases hft3 with h | h
  ·exact absurd h.1 HFC.out
  ·exact h.2
 obtain ⟨t, u, rfl⟩ := hv0
 clear hft hft2 hft3 HCH
 go_wp2
 go_ret2
 exact ⟨_, rfl, HFT.out⟩
end Go.Proofs.YtlgejjmdanmglaaGreatDoor
