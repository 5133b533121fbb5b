/-
  Our own: package check: the list that a closure appends to.
-/
import Derived.Test.YtcebpmaggnephabGreatDoorCheckAs3
import Derived.Test.YtcebpmaggnephabGreatDoorCheckProg
namespace Go.Proofs.YtcebpmaggnephabGreatDoor
open Go.RowKit Go.Maps

/-- A variable of block lb that holds a list of texts. -/
def ListAt (w : World) (lb : Nat) (acc : List (List UInt8)) : Prop := ∃ ad c, w.heap[lb]? = some (.cells #[.slice ad acc.length c] 46 (0, 0)) ∧ w.ownsRow (lb + 1) 9 1 (.slice ad acc.length c) acc.length (textsC acc)
/-- Is b the block of that list's row? -/
def OwnB (w : World) (lb b : Nat) : Prop := ∃ ad n c, w.heap[lb]? = some (.cells #[.slice ad n c] 46 (0, 0)) ∧ (Value.slice ad n c).ownBlock = some b
/-- All is as it was but for blocks m, lb, and that list's row. -/
structure LFr (m lb : Nat) (w w' : World) : Prop where
  os : w'.os = w.os
  tape : w'.tape = w.tape
  output : w'.output = w.output
  size : w.heap.size ≤ w'.heap.size
  block : ∀ b, b < w.heap.size → b ≠ lb → b ≠ m → ¬ OwnB w lb b → w'.heap[b]? = w.heap[b]? ∧ ¬ OwnB w' lb b
theorem LFr.refl (m lb : Nat) (w : World) : LFr m lb w w := ⟨rfl, rfl, rfl, Nat.le_refl _, fun _ _ _ _ h => ⟨rfl, h⟩⟩
theorem LFr.trans {m lb : Nat} {a b c : World} (h : LFr m lb a b) (k : LFr m lb b c) : LFr m lb a c :=
  ⟨k.os.trans h.os, k.tape.trans h.tape, k.output.trans h.output, Nat.le_trans h.size k.size, fun i hi h1 h2 h3 => by
    obtain ⟨e1, e2⟩ := h.block i hi h1 h2 h3
    obtain ⟨e3, e4⟩ := k.block i (Nat.lt_of_lt_of_le hi h.size) h1 h2 e2
    exact ⟨e3.trans e1, e4⟩⟩
theorem OwnB.same {w w' : World} {lb b : Nat} (h : OwnB w' lb b) (e : w'.heap[lb]? = w.heap[lb]?) : OwnB w lb b := by
  obtain ⟨ad, n, c, h1, h2⟩ := h
  exact ⟨ad, n, c, e ▸ h1, h2⟩
theorem LFr.of {m lb : Nat} {w w' : World} (h : Below w.heap.size w w') (hl : lb < w.heap.size) : LFr m lb w w' :=
  ⟨h.os, h.tape, h.output, h.size, fun b hb _ _ ho => ⟨h.block b hb, fun hw => ho (hw.same (h.block lb hl))⟩⟩
theorem ListAt.lt {w : World} {lb : Nat} {acc : List (List UInt8)} (h : ListAt w lb acc) : lb < w.heap.size := by
  obtain ⟨ad, c, h1, _⟩ := h; exact heap_lt h1
theorem ListAt.own {w : World} {lb b : Nat} {acc : List (List UInt8)} (h : ListAt w lb acc) (hb : OwnB w lb b) : lb + 1 ≤ b ∧ b < w.heap.size := by
  obtain ⟨ad, c, h1, h2⟩ := h
  obtain ⟨ad', n', c', h3, h4⟩ := hb
  rw [h1] at h3
  injection h3 with h3
  injection h3 with h3
  have h5 : Value.slice ad acc.length c = .slice ad' n' c' := by simpa using h3
  rw [← h5] at h4
  exact h2.lt b h4
theorem ListAt.below {w w' : World} {lb : Nat} {acc : List (List UInt8)} (h : ListAt w lb acc) (hb : Below w.heap.size w w') : ListAt w' lb acc := by
  obtain ⟨ad, c, h1, h2⟩ := h
  exact ⟨ad, c, (hb.block lb (heap_lt h1)).trans h1, owns_below h2 hb⟩
/-- What lies ahead of the list's block stays. -/
theorem LFr.keep {m lb : Nat} {w w' : World} {acc : List (List UInt8)} (h : LFr m lb w w') (hl : ListAt w lb acc) (hm : lb ≤ m) : KeepA (fun b => b < lb) w w' := fun b hb =>
  (h.block b (by have := hl.lt; omega) (by omega) (by omega) (fun ho => by have := (hl.own ho).1; omega)).1
theorem LFr.below {m lb : Nat} {w w' : World} {acc : List (List UInt8)} (h : LFr m lb w w') (hl : ListAt w lb acc) (hm : lb ≤ m) {B : Nat} (hB : B ≤ lb) : Below B w w' :=
  ⟨h.os, h.tape, h.output, h.size, fun b hb => h.keep hl hm b (by omega)⟩
/-- One text more. -/
theorem list_push {m lb n : Nat} {w W w3 : World} {acc : List (List UInt8)} {x : List UInt8} {ad : Option Addr} {c gb capb : Nat} (h1 : w.heap[lb]? = some (.cells #[.slice ad acc.length c] 46 (0, 0))) (h2 : w.ownsRow (lb + 1) 9 1 (.slice ad acc.length c) acc.length (textsC acc))
    (hW : Below w.heap.size w W) (hown : w3.ownsRow (lb + 1) 9 1 (.slice (some ⟨gb, 0, none⟩) n capb) n (textsC acc ++ [.string ⟨x.toArray⟩])) (hn : n = acc.length + 1) (hg : W.grownBy w3 (Value.slice ad acc.length c).ownBlock)
    (hl : (Value.slice (some ⟨gb, 0, none⟩) n capb).ownBlock = (Value.slice ad acc.length c).ownBlock ∨ (Value.slice (some ⟨gb, 0, none⟩) n capb).ownBlock = some W.heap.size) :
    LFr m lb w (w3.setCell ⟨lb, 0, none⟩ (.slice (some ⟨gb, 0, none⟩) n capb)) ∧ ListAt (w3.setCell ⟨lb, 0, none⟩ (.slice (some ⟨gb, 0, none⟩) n capb)) lb (acc ++ [x]) := by
  subst hn
  have hlt := heap_lt h1
  have hz1 := hW.size
  have hz2 := hg.size
  have hlb : w3.heap[lb]? = some (.cells #[.slice ad acc.length c] 46 (0, 0)) := (hg.block lb (by omega) (fun e => by have := (h2.lt lb e.symm).1; omega)).trans ((hW.block lb hlt).trans h1)
  have hset := blk_setCell hlb 0 (.slice (some ⟨gb, 0, none⟩) (acc.length + 1) capb)
  have hset' : (w3.setCell ⟨lb, 0, none⟩ (.slice (some ⟨gb, 0, none⟩) (acc.length + 1) capb)).heap[lb]? = some (.cells #[.slice (some ⟨gb, 0, none⟩) (acc.length + 1) capb] 46 (0, 0)) := by simpa using hset
  refine ⟨⟨hg.os.trans hW.os, hg.tape.trans hW.tape, hg.output.trans hW.output, by simp only [World.setCell, Array.size_modify]; omega, fun b hb hbl _ ho => ?_⟩, ?_⟩
  · have hno : (Value.slice ad acc.length c).ownBlock ≠ some b := fun e => ho ⟨_, _, _, h1, e⟩
    refine ⟨?_, ?_⟩
    · rw [Below.heap_setCell _ _ _ _ (show b ≠ lb from hbl), hg.block b (by omega) (fun e => hno e.symm), hW.block b hb]
    · rintro ⟨ad', n', c', h3, h4⟩
      rw [hset'] at h3
      injection h3 with h3
      injection h3 with h3
      have h5 : Value.slice (some ⟨gb, 0, none⟩) (acc.length + 1) capb = .slice ad' n' c' := by simpa using h3
      rw [← h5] at h4
      rcases hl with e | e
      · rw [e] at h4; exact hno h4
      · rw [e] at h4; injection h4 with h4; omega
  · refine ⟨some ⟨gb, 0, none⟩, capb, by rw [List.length_append]; exact hset', ?_⟩
    rw [List.length_append, textsC_snoc]
    rcases hown with ⟨o1, o2 | ⟨gg, cc, cur, o3, o4, o5, o6⟩⟩
    · exact ⟨o1, Or.inl o2⟩
    · exact ⟨o1, Or.inr ⟨gg, cc, cur, o3, o4, (Below.heap_setCell _ _ _ _ (show gg ≠ lb by omega)).trans o5, o6⟩⟩
set_option maxRecDepth 100000 in
set_option maxHeartbeats 2000000 in
theorem varsClo_any (k m : List UInt8) (x0 x1 x2 x3 x4 x5 : Value) (w : World) (lb : Nat) (acc : List (List UInt8)) (h : ListAt w lb acc) (ha : acc.length ≤ 4000) :
    Calls Tryz.prog 43 #[.agg #[.string ⟨k.toArray⟩, .string ⟨m.toArray⟩, x0, x1, x2, x3, x4, x5], .pointer (some ⟨lb, 0, none⟩)] w fun ev w' => ev = .returned (.tuple #[]) ∧ LFr lb lb w w' ∧ ListAt w' lb (acc ++ if k = kVar then [m] else []) := by
  obtain ⟨i0, hi, hy0, hy1, hy2⟩ := info_parts text_info
  have hL := h
  obtain ⟨ad, c, h1, h2⟩ := h
  have hlt := heap_lt h1
  have c0 : w.cell? ⟨lb, 0, none⟩ = some (.slice ad acc.length c) := cell_of_blk h1 0
  have hbb := box_blk w #[.string ⟨k.toArray⟩, .string ⟨m.toArray⟩, x0, x1, x2, x3, x4, x5] 62
  by_cases k1 : k = kVar
  · subst k1
    rw [if_pos rfl]
    have H1 := hidX h1
    have H2 := hidX h2
    have hb2 : Below w.heap.size w ((w.alloc (.cells #[.string ⟨kVar.toArray⟩, .string ⟨m.toArray⟩, x0, x1, x2, x3, x4, x5] 62)).alloc (.cells #[.string ⟨m.toArray⟩] 9)) := bl_trans hbb (by simp) (box_blk _ _ _)
    have HB2 := hidX hb2
    have hnc := new_two w (.cells #[.string ⟨kVar.toArray⟩, .string ⟨m.toArray⟩, x0, x1, x2, x3, x4, x5] 62) #[.string ⟨m.toArray⟩] 9
    have HNC := hidX hnc
    clear hnc hb2 h1 h2 hL
    go_enter Tryz.func43, Tryz.ntmps43
    go_wp2_with (at_builtin; refine wpList_append_own_at _ rfl _ _ 46 rfl (lb + 1) 9 i0 _ 1 16 Tryz.underlying46 hi hy0 hy1 hy2 rfl (by decide) (.slice ad acc.length c) acc.length (textsC acc) rfl (owns_below H2.out HB2.out) ⟨w.heap.size + 1, 0, none⟩ 1 1 [.string ⟨m.toArray⟩] rfl rfl HNC.out (text_one m) (by unfold maxLen; omega) (by omega) (by simp; omega) ?_; intro v' w3 hown' hgrow _ hloc; obtain ⟨gb, capb, hvb⟩ := own_someX hown'; subst hvb; have f3 := grown_blk hgrow ((HB2.out.block _ hlt).trans H1.out) (fun e => (by have := (H2.out.lt _ e.symm).1; omega)); have g3 : w3.cell? ⟨lb, 0, none⟩ = some (.slice ad acc.length c) := cell_of_blk f3 0; have z3 := free_of_blk f3 0; clear f3)
    obtain ⟨q1, q2⟩ := list_push (m := lb) (x := m) H1.out H2.out HB2.out hown' rfl hgrow (by simpa using hloc)
    go_end0
    exact ⟨rfl, q1, q2⟩
  · rw [if_neg k1, List.append_nil]
    have n1 : (k == [118, 97, 114]) = false := ne_lit k1
    clear k1 h1 h2
    go_enter Tryz.func43, Tryz.ntmps43
    go_wp2
    go_end0
    exact ⟨rfl, LFr.of hbb hlt, hL.below hbb⟩
end Go.Proofs.YtcebpmaggnephabGreatDoor
