/-
  Our own: package tree's parser: a number; what the closures of an expression do.
-/
import Derived.Test.YtcebpmaggnephabDoorTreeNum
import Derived.Deep.RegionHeld3
import Derived.Deep.AppendLies
import Derived.Deep.LoopGhost
namespace Go.Proofs.YtcebpmaggnephabDoor
open Go.RowKit

/-- Blocks from n on that are there. -/
def InB (n : Nat) (w : World) (b : Nat) : Prop := n ≤ b ∧ b < w.heap.size
/-- From block n on nothing has turned. -/
structure Kept (n : Nat) (w w' : World) : Prop where
  size : w.heap.size ≤ w'.heap.size
  block : ∀ k, n ≤ k → k < w.heap.size → w'.heap[k]? = w.heap[k]?
theorem Kept.keepA {n : Nat} {w w' : World} (h : Kept n w w') : KeepA (InB n w) w w' := fun b hb => h.block b hb.1 hb.2
theorem Kept.inB {n m : Nat} {w w' : World} (h : Kept n w w') (hm : m ≤ n) : ∀ b, InB n w b → InB m w' b := fun _ hb => ⟨Nat.le_trans hm hb.1, Nat.lt_of_lt_of_le hb.2 h.size⟩
theorem But.kept {p n : Nat} {w w' : World} (h : But p w w') (hp : p < n) : Kept n w w' := ⟨h.size, fun k hk hl => h.block k hl (by omega)⟩
theorem Kept.of {n : Nat} {w w' : World} (h : Below w.heap.size w w') : Kept n w w' := ⟨h.size, fun k _ hl => h.block k hl⟩
/-- All but two blocks is as it was. -/
structure But2 (p q : Nat) (w w' : World) : Prop where
  os : w'.os = w.os
  tape : w'.tape = w.tape
  output : w'.output = w.output
  size : w.heap.size ≤ w'.heap.size
  block : ∀ k, k < w.heap.size → k ≠ p → k ≠ q → w'.heap[k]? = w.heap[k]?
theorem But2.refl (p q : Nat) (w : World) : But2 p q w w := ⟨rfl, rfl, rfl, Nat.le_refl _, fun _ _ _ _ => rfl⟩
theorem But2.trans {p q : Nat} {a b c : World} (h : But2 p q a b) (k : But2 p q b c) : But2 p q a c :=
  ⟨k.os.trans h.os, k.tape.trans h.tape, k.output.trans h.output, Nat.le_trans h.size k.size, fun i hi hp hq => (k.block i (Nat.lt_of_lt_of_le hi h.size) hp hq).trans (h.block i hi hp hq)⟩
theorem But2.of {p q : Nat} {w w' : World} (h : But p w w') : But2 p q w w' := ⟨h.os, h.tape, h.output, h.size, fun k hk hp _ => h.block k hk hp⟩
theorem But2.set {p q : Nat} {a w : World} (h : But2 p q a w) (i : Nat) (u : Value) : But2 p q a (w.setCell ⟨q, i, none⟩ u) :=
  h.trans ⟨rfl, rfl, rfl, by simp [World.setCell], fun k _ _ hq => Below.heap_setCell _ _ _ _ hq⟩
theorem But2.alloc {p q : Nat} {a w : World} (h : But2 p q a w) (o : Obj) : But2 p q a (w.alloc o) := h.trans (But2.of (But.of ((Below.refl _ _).alloc (Nat.le_refl _) o)))
theorem But2.drew {p q : Nat} {a w : World} (h : But2 p q a w) : But2 p q a w.drew := ⟨h.os, h.tape, h.output, h.size, h.block⟩
theorem But2.setNew {p q : Nat} {a w : World} (h : But2 p q a w) (b i : Nat) (hb : a.heap.size ≤ b) (u : Value) : But2 p q a (w.setCell ⟨b, i, none⟩ u) :=
  ⟨h.os, h.tape, h.output, by simpa [World.setCell] using h.size, fun k hk hp hq => (Below.heap_setCell _ _ _ _ (by show k ≠ b; omega)).trans (h.block k hk hp hq)⟩
/-- What stood ahead of block q. -/
theorem But2.base {p q : Nat} {a w w' : World} (h : But p a w) (k : But2 p q w w') (hq : a.heap.size ≤ q) : But p a w' :=
  ⟨k.os.trans h.os, k.tape.trans h.tape, k.output.trans h.output, Nat.le_trans h.size k.size, fun i hi hp => (k.block i (Nat.lt_of_lt_of_le hi h.size) hp (by omega)).trans (h.block i hi hp)⟩
theorem But2.kept {p q n : Nat} {w w' : World} (h : But2 p q w w') (hp : p < n) (hq : q < n) : Kept n w w' := ⟨h.size, fun k hk hl => h.block k hl (by omega) (by omega)⟩
/-- A reader from a state on. -/
def Rs.via {α : Type} (s : Rs Unit) (f : Nat → Rs α) : Rs α := s.bind fun _ i => f i
@[simp] theorem Rs.via_ok {α : Type} (u : Unit) (i : Nat) (f : Nat → Rs α) : Rs.via (.ok u i) f = f i := rfl
@[simp] theorem Rs.via_bad {α : Type} (c k : Nat) (f : Nat → Rs α) : Rs.via (.bad c k) f = .bad c k := rfl
abbrev exA (k : ByteArray) (n : Int) (m : ByteArray) (v : Value) : Value := .agg #[.string k, .int .i64 n, .string m, v]
/-- What a reader of an expression leaves. -/
def ExTo (T : List Tok) (a : Nat → Addr) (p d : Nat) (w : World) (r : Rs Ex) (e : Ending) (w' : World) : Prop :=
  ∃ k n m ad l c, e = .returned (exA k n m (.slice ad l c)) ∧ (∀ x j, r = .ok x j → RepE (InB w.heap.size w') w' x [.string k, .int .i64 n, .string m, .slice ad l c]) ∧ PAt T a p d r.st w' ∧ But p w w'
def EOk (T : List Tok) (a : Nat → Addr) (p n : Nat) : Prop := ∀ d l s w, 0 < l → l ≤ 9 → PAt T a p d s w → s.via (exprT T n d l) ≠ .out →
  Calls Tryd.prog 70 #[ptrV p, .int .i64 (l : Nat)] w (ExTo T a p d w (s.via (exprT T n d l)))
def SOk (T : List Tok) (a : Nat → Addr) (p n : Nat) : Prop := ∀ d s w, PAt T a p d s w → s.via (singleT T n d) ≠ .out →
  Calls Tryd.prog 79 #[ptrV p] w (ExTo T a p d w (s.via (singleT T n d)))

theorem good_num {t : Tok} (h : t.Good) (hk : t.kind = kNum) : t.text ≠ [] ∧ t.text.length ≤ 18 ∧ ∀ c ∈ t.text, isD c = true := by
  obtain ⟨h0, h1, _⟩ := h
  refine ⟨h0, ?_⟩
  cases ht : t.text with
  | nil => exact absurd ht h0
  | cons c r =>
    rw [ht, hk] at h1
    simp only [firstOf] at h1
    split at h1
    · unfold nameOf at h1
      split at h1
      · cases h1
      · split at h1 <;> simp [kWord, kName, kNum] at h1
    · split at h1
      · have h2 : numOf (c :: r) = (c :: r).length := (Prod.mk.inj h1).2
        unfold numOf at h2
        split at h2
        · simp at h2
        · next hn =>
          refine ⟨by rw [← h2]; omega, fun x hx => ?_⟩
          obtain ⟨i, hi, rfl⟩ := List.getElem_of_mem hx
          exact spanN_at isD _ i hi (by rw [h2]; exact hi)
      · simp [kSign, kNum] at h1

theorem fld_kind (kd tx : ByteArray) (ps : Int) (w : World) : (Instr.field 29 (.agg #[.string kd, .string tx, .int .i64 ps]) 0).run Tryd.prog w = .ok (.string kd) w := by kernel_rfl
theorem fld_text (kd tx : ByteArray) (ps : Int) (w : World) : (Instr.field 29 (.agg #[.string kd, .string tx, .int .i64 ps]) 1).run Tryd.prog w = .ok (.string tx) w := by kernel_rfl
/-- The end of a function that hands back an Expr out of block r. -/
theorem ret4 {fn : Func} {R : Ending → World → Prop} {tmps : Array Value} {w : World} {r sl : Nat} {x0 x1 x2 x3 : Value} (hres : fn.results = #[ResultVar.cell sl 55]) (hsl : tmps[sl]? = some (ptrV r))
    (hx : w.heap[r]? = some (.cells #[x0, x1, x2, x3] 55 (0, 0))) (k : ByteArray) (n : Int) (m : ByteArray) (v : Value)
    (h : R (.returned (exA k n m v)) ((((w.setCell ⟨r, 0, none⟩ (.string k)).setCell ⟨r, 1, none⟩ (.int .i64 n)).setCell ⟨r, 2, none⟩ (.string m)).setCell ⟨r, 3, none⟩ v)) :
    bodyPost Tryd.prog fn R Exit.ret { tmps := tmps, defers := [] } ((((w.setCell ⟨r, 0, none⟩ (.string k)).setCell ⟨r, 1, none⟩ (.int .i64 n)).setCell ⟨r, 2, none⟩ (.string m)).setCell ⟨r, 3, none⟩ v) := by
  have h4 := set4_blk hx (.string k) (.int .i64 n) (.string m) v
  generalize ((((w.setCell ⟨r, 0, none⟩ (.string k)).setCell ⟨r, 1, none⟩ (.int .i64 n)).setCell ⟨r, 2, none⟩ (.string m)).setCell ⟨r, 3, none⟩ v) = W at h h4 ⊢
  have s0 : W.cell? ⟨r, 0, none⟩ = some (.string k) := cell_of_blk h4 0
  have s1 : W.cell? ⟨r, 1, none⟩ = some (.int .i64 n) := cell_of_blk h4 1
  have s2 : W.cell? ⟨r, 2, none⟩ = some (.string m) := cell_of_blk h4 2
  have s3 : W.cell? ⟨r, 3, none⟩ = some v := cell_of_blk h4 3
  refine bodyPost_ret (v := exA k n m v) ?_ rfl h
  simp [results, hres, hsl, go_sem, s0, s1, s2, s3]
theorem heap_set4 {w : World} {r k : Nat} {u0 u1 u2 u3 : Value} (h : k ≠ r) : ((((w.setCell ⟨r, 0, none⟩ u0).setCell ⟨r, 1, none⟩ u1).setCell ⟨r, 2, none⟩ u2).setCell ⟨r, 3, none⟩ u3).heap[k]? = w.heap[k]? := by
  rw [heap_far h, heap_far h, heap_far h, heap_far h]
theorem size_set4 {w : World} {r : Nat} {u0 u1 u2 u3 : Value} : ((((w.setCell ⟨r, 0, none⟩ u0).setCell ⟨r, 1, none⟩ u1).setCell ⟨r, 2, none⟩ u2).setCell ⟨r, 3, none⟩ u3).heap.size = w.heap.size := by
  simp [World.setCell]
theorem kept_set4 {w : World} {r : Nat} {u0 u1 u2 u3 : Value} : Kept (r + 1) w ((((w.setCell ⟨r, 0, none⟩ u0).setCell ⟨r, 1, none⟩ u1).setCell ⟨r, 2, none⟩ u2).setCell ⟨r, 3, none⟩ u3) :=
  ⟨by rw [size_set4]; exact Nat.le_refl _, fun k hk _ => heap_set4 (by omega)⟩
/-- The end of a reader of an expression: its result is laid into block r. -/
theorem ret_ex {T : List Tok} {a : Nat → Addr} {p d : Nat} {w w1 : World} {res : Rs Ex} {fn : Func} {tmps : Array Value} {r sl : Nat} {x0 x1 x2 x3 : Value} {k : ByteArray} {n : Int} {m : ByteArray} {ad : Option Addr} {l c : Nat}
    (hres : fn.results = #[ResultVar.cell sl 55]) (hsl : tmps[sl]? = some (ptrV r)) (hr : p < r) (hs : w.heap.size ≤ r)
    (hx : w1.heap[r]? = some (.cells #[x0, x1, x2, x3] 55 (0, 0))) (hp : PAt T a p d res.st w1) (hb : But p w w1)
    (hrep : ∀ x j, res = .ok x j → RepE (InB (r + 1) w1) w1 x [.string k, .int .i64 n, .string m, .slice ad l c]) :
    bodyPost Tryd.prog fn (ExTo T a p d w res) Exit.ret { tmps := tmps, defers := [] } ((((w1.setCell ⟨r, 0, none⟩ (.string k)).setCell ⟨r, 1, none⟩ (.int .i64 n)).setCell ⟨r, 2, none⟩ (.string m)).setCell ⟨r, 3, none⟩ (.slice ad l c)) := by
  have hf : Far w1 r := ⟨_, _, hx, by decide⟩
  refine ret4 hres hsl hx _ _ _ _ ⟨_, _, _, _, _, _, rfl, fun x j hj => RepE.imp (kept_set4.inB (by omega)) kept_set4.keepA x _ (hrep x j hj), ?_, ?_⟩
  · exact (((hp.setCell hr hf _ _).setCell hr (hf.set _ _) _ _).setCell hr ((hf.set _ _).set _ _) _ _).setCell hr (((hf.set _ _).set _ _).set _ _) _ _
  · exact (((hb.setNew r 0 hs _).setNew r 1 hs _).setNew r 2 hs _).setNew r 3 hs _
set_option maxRecDepth 100000 in
theorem tnum_any {T : List Tok} {a : Nat → Addr} {p d i : Nat} {w : World} (HT : ∀ t ∈ T, t.Good) (h : PAt T a p d (.ok () i) w) (hk : (tk T i).kind = kNum) (n : Nat) :
    Calls Tryd.prog 87 #[ptrV p] w (ExTo T a p d w (singleT T (n + 1) d i)) := by
  have hi : i < T.length := tk_kind (by rw [hk]; simp [kNum])
  have hn := next_any h
  obtain ⟨kd, tx, ps, ht⟩ := tok_parts (tk T i)
  rw [show nxt T (.ok () i) = ⟨kd, tx, ps⟩ from ht] at hn
  unfold tokA at hn
  have hg := good_num (HT (tk T i) (by rw [tk_at hi]; exact List.getElem_mem _)) hk
  have he : singleT T (n + 1) d i = .ok (.mk kNumE (numV tx) [] []) (i + 1) := by rw [singleT, if_pos hk, ht]
  rw [ht] at hg
  rw [he]
  have hle := numV_le tx hg.2.2 tx.length (Nat.le_refl _) hg.2.1
  rw [List.take_of_length_le (Nat.le_refl _)] at hle
  have hle' : (numV tx : Int) ≤ 999999999999999999 := by omega
  have hge' : 0 ≤ (numV tx : Int) := by omega
  clear hle
  have HG : Hid (tx ≠ [] ∧ tx.length ≤ 18 ∧ ∀ c ∈ tx, isD c = true) := hg
  have HK : Hid (tk T i = ⟨kd, tx, ps⟩) := ht
  clear hg he ht hk hn HT
  have hlt := h.lt
  have hfd := fld_text ⟨kd.toArray⟩ ⟨tx.toArray⟩ ps
  go_enter Tryd.func87, Tryd.ntmps87
  go_wp2_with fail
  have hb0 : Below w.heap.size w (w.alloc (.cells #[.string ⟨#[]⟩, .int .i64 0, .string ⟨#[]⟩, .slice none 0 0] 55)) := by (repeat (first | exact Below.refl _ _ | assumption | refine Below.drew ?_ | refine Below.trans ?_ (drewN_below' _ _ _) | refine Below.setCell ?_ (by first | (simp; done) | (simp; omega)) _ | refine Below.alloc ?_ (by first | (simp; done) | (simp; omega)) _))
  refine (next_any (h.keep hb0)).mono ?_
  rw [show nxt T (.ok () i) = ⟨kd, tx, ps⟩ from HK.out]
  unfold tokA
  rintro e w1 ⟨rfl, hb1⟩
  have hb2 := bl_trans hb0 hb0.size hb1
  go_wp2_with fail
  refine (uint_any tx HG.out.1 HG.out.2.1 HG.out.2.2 w1).mono ?_
  rintro e w2 ⟨rfl, hb3⟩
  have hb4 := bl_trans hb2 hb2.size hb3
  obtain ⟨hf, hd, hg, tv, i, ev, hx, hi', htv, rfl, rfl⟩ := h.keep hb4
  have c1 : w2.cell? ⟨p, 1, none⟩ = some (.int .i64 i) := cell_of_blk hx 1
  have f1 : w2.frozen? ⟨p, 1, none⟩ = false := free_of_blk hx 1
  have hlt' := heap_lt hx
  have hr : w2.heap[w.heap.size]? = some (.cells #[.string ⟨#[]⟩, .int .i64 0, .string ⟨#[]⟩, .slice none 0 0] 55 (0, 0)) := by
    rw [hb3.block _ (by have := hb1.size; simp at this; omega), hb1.block _ (by simp)]
    exact heap_alloc_new _ _
  have r0 := cell_of_blk hr 0
  have r1 := cell_of_blk hr 1
  have r2 := cell_of_blk hr 2
  have r3 := cell_of_blk hr 3
  have q0 := free_of_blk hr 0
  have q1 := free_of_blk hr 1
  have q2 := free_of_blk hr 2
  have q3 := free_of_blk hr 3
  have HX : Hid (w2.heap[p]? = _) := hx
  have HR : Hid (w2.heap[w.heap.size]? = _) := hr
  clear hx hr
  go_wp2
  have hpr : p < w.heap.size := hlt
  have hx1 : (w2.setCell ⟨p, 1, none⟩ (.int .i64 ((i : Int) + 1))).heap[w.heap.size]? = _ := (heap_far (by omega)).trans HR.out
  refine ret_ex Tryd.results87 rfl hpr (Nat.le_refl _) hx1 ?_ ((But.of hb4).set _ _) (fun x j hx => ?_)
  · exact PAt.on hf hd hg htv ((But.refl p w2).set 1 _) hlt' hi (blk_setCell HX.out 1 _)
  · cases hx
    exact ⟨_, [], rfl, ⟨_, _, rfl, fun h => absurd rfl h⟩, rfl⟩
end Go.Proofs.YtcebpmaggnephabDoor
