/-
  Our own: the reference's parser: how its readers of expressions end.
-/
import Derived.Test.YtdleiajkihijhabGreatDoorRefTok
import Derived.Test.YtdleiajkihijhabGreatDoorTreeList
namespace Go.Proofs.YtdleiajkihijhabGreatDoor
open Go.RowKit

/-- What the reference's reader of an expression leaves. -/
def RxTo (T : List Tok) (q d : Nat) (w : World) (r : Rs Ex) (e : Ending) (w' : World) : Prop :=
  ∃ k n m ad l c, e = .returned (exA k n m (.slice ad l c)) ∧ (∀ x j, r = .ok x j → RepE (InB w.heap.size w') w' x [.string k, .int .i64 n, .string m, .slice ad l c]) ∧ RAt T q d r.st w' ∧ But q w w'
def REOk (T : List Tok) (q n : Nat) : Prop := ∀ d l s w, 0 < l → l ≤ 9 → RAt T q d s w → s.via (exprT T n d l) ≠ .out →
  Calls Tryz.prog 52 #[ptrV q, .int .i64 ((l : Int) - 1)] w (RxTo T q d w (s.via (exprT T n d l)))
def RSOk (T : List Tok) (q n : Nat) : Prop := ∀ d s w, RAt T q d s w → s.via (singleT T n d) ≠ .out →
  Calls Tryz.prog 65 #[ptrV q] w (RxTo T q d w (s.via (singleT T n d)))
/-- What the reference's reader of arguments leaves. -/
def RgTo (T : List Tok) (q d : Nat) (w : World) (r : Rs (List Ex)) (e : Ending) (w' : World) : Prop :=
  ∃ ad l c, e = .returned (.slice ad l c) ∧ (∀ x j, r = .ok x j → ∃ xs, Row (InB w.heap.size w') w' (.slice ad l c) x.length xs ∧ RepEs (InB w.heap.size w') w' x xs) ∧ RAt T q d r.st w' ∧ But q w w'
def RGOk (T : List Tok) (q n : Nat) : Prop := ∀ d i w, RAt T q d (.ok () i) w → argsT T n d i ≠ .out → Calls Tryz.prog 72 #[ptrV q] w (RgTo T q d w (argsT T n d i))
theorem ret4R {fn : Func} {R : Ending → World → Prop} {tmps : Array Value} {w : World} {r sl : Nat} {x0 x1 x2 x3 : Value} (hres : fn.results = #[ResultVar.cell sl 89]) (hsl : tmps[sl]? = some (ptrV r))
    (hx : w.heap[r]? = some (.cells #[x0, x1, x2, x3] 89 (0, 0))) (k : ByteArray) (n : Int) (m : ByteArray) (v : Value)
    (h : R (.returned (exA k n m v)) ((((w.setCell ⟨r, 0, none⟩ (.string k)).setCell ⟨r, 1, none⟩ (.int .i64 n)).setCell ⟨r, 2, none⟩ (.string m)).setCell ⟨r, 3, none⟩ v)) :
    bodyPost Tryz.prog fn R Exit.ret { tmps := tmps, defers := [] } ((((w.setCell ⟨r, 0, none⟩ (.string k)).setCell ⟨r, 1, none⟩ (.int .i64 n)).setCell ⟨r, 2, none⟩ (.string m)).setCell ⟨r, 3, none⟩ v) := by
  have h4 := set4_blk hx (.string k) (.int .i64 n) (.string m) v
  generalize ((((w.setCell ⟨r, 0, none⟩ (.string k)).setCell ⟨r, 1, none⟩ (.int .i64 n)).setCell ⟨r, 2, none⟩ (.string m)).setCell ⟨r, 3, none⟩ v) = W at h h4 ⊢
  have s0 : W.cell? ⟨r, 0, none⟩ = some (.string k) := cell_of_blk h4 0
  have s1 : W.cell? ⟨r, 1, none⟩ = some (.int .i64 n) := cell_of_blk h4 1
  have s2 : W.cell? ⟨r, 2, none⟩ = some (.string m) := cell_of_blk h4 2
  have s3 : W.cell? ⟨r, 3, none⟩ = some v := cell_of_blk h4 3
  refine bodyPost_ret (v := exA k n m v) ?_ rfl h
  simp [results, hres, hsl, go_sem, s0, s1, s2, s3]
theorem RAt.set4 {T : List Tok} {q d : Nat} {s : Rs Unit} {w : World} {r : Nat} (hp : RAt T q d s w) (hr : q < r) (u0 u1 u2 u3 : Value) :
    RAt T q d s ((((w.setCell ⟨r, 0, none⟩ u0).setCell ⟨r, 1, none⟩ u1).setCell ⟨r, 2, none⟩ u2).setCell ⟨r, 3, none⟩ u3) := (((hp.setCell hr _ _).setCell hr _ _).setCell hr _ _).setCell hr _ _
/-- The end of the reference's reader of an expression: its result is laid into block r. -/
theorem ret_rx {T : List Tok} {q d : Nat} {w w1 : World} {res : Rs Ex} {fn : Func} {tmps : Array Value} {r sl : Nat} {x0 x1 x2 x3 : Value} {k : ByteArray} {n : Int} {m : ByteArray} {ad : Option Addr} {l c : Nat}
    (hres : fn.results = #[ResultVar.cell sl 89]) (hsl : tmps[sl]? = some (ptrV r)) (hr : q < r) (hs : w.heap.size ≤ r)
    (hx : w1.heap[r]? = some (.cells #[x0, x1, x2, x3] 89 (0, 0))) (hp : RAt T q d res.st w1) (hb : But q w w1)
    (hrep : ∀ x j, res = .ok x j → RepE (InB (r + 1) w1) w1 x [.string k, .int .i64 n, .string m, .slice ad l c]) :
    bodyPost Tryz.prog fn (RxTo T q d w res) Exit.ret { tmps := tmps, defers := [] } ((((w1.setCell ⟨r, 0, none⟩ (.string k)).setCell ⟨r, 1, none⟩ (.int .i64 n)).setCell ⟨r, 2, none⟩ (.string m)).setCell ⟨r, 3, none⟩ (.slice ad l c)) := by
  refine ret4R hres hsl hx _ _ _ _ ⟨_, _, _, _, _, _, rfl, fun x j hj => RepE.imp (kept_set4.inB (by omega)) kept_set4.keepA x _ (hrep x j hj), hp.set4 hr _ _ _ _, ?_⟩
  exact (((hb.setNew r 0 hs _).setNew r 1 hs _).setNew r 2 hs _).setNew r 3 hs _
/-- The end of the reference's reader of an expression, whatever was laid besides. -/
theorem ret_rs {T : List Tok} {q d : Nat} {w W : World} {res : Rs Ex} {fn : Func} {tmps : Array Value} {r sl : Nat} {k : ByteArray} {n : Int} {m : ByteArray} {ad : Option Addr} {l c : Nat}
    (hres : fn.results = #[ResultVar.cell sl 89]) (hsl : tmps[sl]? = some (ptrV r))
    (hx : W.heap[r]? = some (.cells #[.string k, .int .i64 n, .string m, .slice ad l c] 89 (0, 0))) (hp : RAt T q d res.st W) (hb : But q w W)
    (hrep : ∀ x j, res = .ok x j → RepE (InB w.heap.size W) W x [.string k, .int .i64 n, .string m, .slice ad l c]) :
    bodyPost Tryz.prog fn (RxTo T q d w res) Exit.ret { tmps := tmps, defers := [] } W := by
  have s0 := cell_of_blk hx 0
  have s1 := cell_of_blk hx 1
  have s2 := cell_of_blk hx 2
  have s3 := cell_of_blk hx 3
  refine bodyPost_ret (v := exA k n m (.slice ad l c)) ?_ rfl ⟨_, _, _, _, _, _, rfl, hrep, hp, hb⟩
  simp [results, hres, hsl, go_sem, s0, s1, s2, s3]
theorem RxTo.rep {T : List Tok} {q d rb : Nat} {w : World} {r : Rs Ex} {e : Ending} {w' : World} (h : RxTo T q d w r e w') (hr : rb < w.heap.size) :
    ∃ k n m ad l c, e = .returned (exA k n m (.slice ad l c)) ∧ (∀ x j, r = .ok x j → RepE (InB (rb + 1) w') w' x [.string k, .int .i64 n, .string m, .slice ad l c]) ∧ RAt T q d r.st w' ∧ But q w w' := by
  obtain ⟨k, n, m, ad, l, c, h1, h2, h3, h4⟩ := h
  exact ⟨k, n, m, ad, l, c, h1, fun x j hx => RepE.imp (fun b hb => ⟨by have := hb.1; omega, hb.2⟩) (fun _ _ => rfl) _ _ (h2 x j hx), h3, h4⟩
/-- One less deep, whatever was read. -/
theorem RAt.up {T : List Tok} {q d : Nat} {s : Rs Unit} {w : World} (h : RAt T q (d + 1) s w) : ∃ dd : Int, w.cell? ⟨q, 2, none⟩ = some (.int .i64 dd) ∧ w.frozen? ⟨q, 2, none⟩ = false ∧ RAt T q d s (w.setCell ⟨q, 2, none⟩ (.int .i64 (wrap64 (dd - 1)))) := by
  obtain ⟨hf, hd, tv, i, dd, c, k, hx, hi, ht, he⟩ := h
  have hb : But q w (w.setCell ⟨q, 2, none⟩ (.int .i64 (wrap64 (dd - 1)))) := (But.refl q w).set 2 _
  refine ⟨dd, cell_of_blk hx 2, free_of_blk hx 2, hf, by omega, tv, i, _, c, k, (blk_setCell hx 2 _).trans rfl, hi, ht.keep hb (heap_lt hx), ?_⟩
  cases s with
  | out => exact he
  | bad c0 k0 => exact he
  | ok u j =>
    obtain ⟨h1, rfl, h3, h4⟩ := he
    exact ⟨h1, by unfold wrap64; omega, h3, h4⟩
/-- An Expr with new kids, as a result. -/
theorem rep_new {A : Nat → Prop} {w : World} {kk tx : List UInt8} {g L : Nat} {ys : List Ex} {row : List Value} (hl : ys.length = L) (hA : A g) (hc : ∀ j u, row[j]? = some u → w.cell? ⟨g, j, none⟩ = some u) (hr : RepEs A w ys row) :
    RepE A w (.mk kk 0 tx ys) [.string ⟨kk.toArray⟩, .int .i64 0, .string ⟨tx.toArray⟩, .slice (some ⟨g, 0, none⟩) L L] :=
  ⟨_, row, rfl, ⟨_, _, by rw [hl], fun _ => ⟨g, rfl, hA, hc⟩⟩, hr⟩
end Go.Proofs.YtdleiajkihijhabGreatDoor
