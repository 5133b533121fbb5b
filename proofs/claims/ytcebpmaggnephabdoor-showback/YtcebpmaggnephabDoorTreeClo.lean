/-
  Our own: package tree's parser: what the closures of an expression do.
-/
import Derived.Test.YtcebpmaggnephabDoorTreeOne
namespace Go.Proofs.YtcebpmaggnephabDoor
open Go.RowKit

/-- What a block of one Expr holds: the tree in blocks from n on. -/
def EbTo (n eb : Nat) (r : Rs Ex) (w' : World) : Prop :=
  ∃ k i m ad l c, w'.heap[eb]? = some (.cells #[.string k, .int .i64 i, .string m, .slice ad l c] 55 (0, 0)) ∧ ∀ x j, r = .ok x j → RepE (InB n w') w' x [.string k, .int .i64 i, .string m, .slice ad l c]
theorem PAt.set4 {T : List Tok} {a : Nat → Addr} {p d : Nat} {s : Rs Unit} {w : World} {r : Nat} {x0 x1 x2 x3 : Value} (hp : PAt T a p d s w) (hr : p < r) (hx : w.heap[r]? = some (.cells #[x0, x1, x2, x3] 55 (0, 0))) (u0 u1 u2 u3 : Value) :
    PAt T a p d s ((((w.setCell ⟨r, 0, none⟩ u0).setCell ⟨r, 1, none⟩ u1).setCell ⟨r, 2, none⟩ u2).setCell ⟨r, 3, none⟩ u3) := by
  have hf : Far w r := ⟨_, _, hx, by decide⟩
  exact (((hp.setCell hr hf _ _).setCell hr (hf.set _ _) _ _).setCell hr ((hf.set _ _).set _ _) _ _).setCell hr (((hf.set _ _).set _ _).set _ _) _ _
theorem size_alloc (w : World) (o : Obj) : (w.alloc o).heap.size = w.heap.size + 1 := by simp
theorem cell_row {w : World} {g : Nat} {cs : Array Value} {t : TypeId} (h : w.heap[g]? = some (.cells cs t (0, 0))) (j : Nat) (u : Value) (hu : cs.toList[j]? = some u) : w.cell? ⟨g, j, none⟩ = some u := by
  rw [cell_of_blk h j]; simpa using hu
/-- An Expr with new kids laid into block eb. -/
theorem eb_new {T : List Tok} {a : Nat → Addr} {p d n eb : Nat} {s : Rs Unit} {w : World} {x0 x1 x2 x3 : Value} (hp : PAt T a p d s w) (heb : w.heap[eb]? = some (.cells #[x0, x1, x2, x3] 55 (0, 0))) (hpe : p < eb) (hn : eb < n) (hnw : n ≤ w.heap.size)
    (kk tx : List UInt8) (row : Array Value) (L : Nat) (r : Rs Ex) (hrep : ∀ x j, r = .ok x j → ∃ ys, x = .mk kk 0 tx ys ∧ ys.length = L ∧ RepEs (InB n w) w ys row.toList) :
    ∃ W, W = (((((w.setCell ⟨eb, 0, none⟩ (.string ⟨kk.toArray⟩)).setCell ⟨eb, 1, none⟩ (.int .i64 0)).setCell ⟨eb, 2, none⟩ (.string ⟨tx.toArray⟩)).setCell ⟨eb, 3, none⟩ (.slice (some ⟨w.heap.size, 0, none⟩) L L)).alloc (.cells row 55)) ∧
      PAt T a p d s W ∧ But2 p eb w W ∧ EbTo n eb r W := by
  have h4 := set4_blk heb (.string ⟨kk.toArray⟩) (.int .i64 0) (.string ⟨tx.toArray⟩) (.slice (some ⟨w.heap.size, 0, none⟩) L L)
  have hp4 := hp.set4 hpe heb (.string ⟨kk.toArray⟩) (.int .i64 0) (.string ⟨tx.toArray⟩) (.slice (some ⟨w.heap.size, 0, none⟩) L L)
  have hb4 : But2 p eb w ((((w.setCell ⟨eb, 0, none⟩ (.string ⟨kk.toArray⟩)).setCell ⟨eb, 1, none⟩ (.int .i64 0)).setCell ⟨eb, 2, none⟩ (.string ⟨tx.toArray⟩)).setCell ⟨eb, 3, none⟩ (.slice (some ⟨w.heap.size, 0, none⟩) L L)) := ((((But2.refl p eb w).set 0 _).set 1 _).set 2 _).set 3 _
  have hs4 := @size_set4 w eb (.string ⟨kk.toArray⟩) (.int .i64 0) (.string ⟨tx.toArray⟩) (.slice (some ⟨w.heap.size, 0, none⟩) L L)
  have hk4 := @kept_set4 w eb (.string ⟨kk.toArray⟩) (.int .i64 0) (.string ⟨tx.toArray⟩) (.slice (some ⟨w.heap.size, 0, none⟩) L L)
  generalize ((((w.setCell ⟨eb, 0, none⟩ (.string ⟨kk.toArray⟩)).setCell ⟨eb, 1, none⟩ (.int .i64 0)).setCell ⟨eb, 2, none⟩ (.string ⟨tx.toArray⟩)).setCell ⟨eb, 3, none⟩ (.slice (some ⟨w.heap.size, 0, none⟩) L L)) = w4 at h4 hp4 hb4 hs4 hk4 ⊢
  have hnew : (w4.alloc (.cells row 55)).heap[w.heap.size]? = some (.cells row 55 (0, 0)) := by rw [← hs4]; exact heap_alloc_new _ _
  have hal : Below w4.heap.size w4 (w4.alloc (.cells row 55)) := (Below.refl _ _).alloc (Nat.le_refl _) _
  have hk5 : Kept n w (w4.alloc (.cells row 55)) := ⟨by rw [size_alloc, hs4]; omega, fun k hk hl => (hal.block k (by omega)).trans (hk4.block k (by omega) hl)⟩
  refine ⟨_, rfl, hp4.keep hal, hb4.alloc _, _, _, _, _, _, _, (hal.block eb (heap_lt h4)).trans h4, fun x j hj => ?_⟩
  obtain ⟨ys, rfl, hl, hr⟩ := hrep x j hj
  refine ⟨_, row.toList, rfl, ⟨_, _, by rw [hl], fun _ => ⟨w.heap.size, rfl, ⟨⟨hnw, by rw [size_alloc, hs4]; omega⟩, by omega⟩, fun j u hu => cell_row hnew j u hu⟩⟩, RepEs.imp (hk5.inB (Nat.le_refl _)) hk5.keepA _ _ hr⟩
theorem cell_al4 {w : World} {r b i : Nat} {u0 u1 u2 u3 : Value} {o : Obj} (hn : b ≠ r) (hl : b < w.heap.size) :
    (((((w.setCell ⟨r, 0, none⟩ u0).setCell ⟨r, 1, none⟩ u1).setCell ⟨r, 2, none⟩ u2).setCell ⟨r, 3, none⟩ u3).alloc o).cell? ⟨b, i, none⟩ = w.cell? ⟨b, i, none⟩ := by
  apply World.cell?_of_block
  rw [Below.heap_alloc _ _ _ (by rw [size_set4]; exact hl)]
  exact heap_set4 hn
set_option maxRecDepth 100000 in
theorem one_any {T : List Tok} {a : Nat → Addr} {p q d : Nat} {s : Rs Unit} {w : World} (hS : SOk T a p q) (h : PAt T a p d s w) (hout : s.via (singleT T q d) ≠ .out) (tb xb eb : Nat) (kd tx : List UInt8) (ps : Int) (x0 x1 x2 x3 : Value)
    (htb : w.heap[tb]? = some (.cells #[.string ⟨kd.toArray⟩, .string ⟨tx.toArray⟩, .int .i64 ps] 29 (0, 0))) (hxb : w.heap[xb]? = some (.cells #[ptrV p] 58 (0, 0)))
    (heb : w.heap[eb]? = some (.cells #[x0, x1, x2, x3] 55 (0, 0))) (h1 : p < tb) (h2 : p < xb) (h3 : p < eb) :
    Calls Tryd.prog 89 #[ptrV tb, ptrV xb, ptrV eb] w fun e w' => e = .returned (.tuple #[]) ∧ PAt T a p d (s.via (singleT T q d)).st w' ∧ But2 p eb w w' ∧
      EbTo w.heap.size eb ((s.via (singleT T q d)).bind fun x j => .ok (.mk kOne 0 tx [x]) j) w' := by
  have c1 : w.cell? ⟨tb, 1, none⟩ = some (.string ⟨tx.toArray⟩) := cell_of_blk htb 1
  have c2 : w.cell? ⟨xb, 0, none⟩ = some (ptrV p) := cell_of_blk hxb 0
  have n1 : tb ≠ eb := by rintro rfl; rw [htb] at heb; simp at heb
  have n2 : xb ≠ eb := by rintro rfl; rw [hxb] at heb; simp at heb
  have hc := hS d s w.drew (h.keep (by (repeat (first | exact Below.refl _ _ | assumption | refine Below.drew ?_ | refine Below.trans ?_ (drewN_below' _ _ _) | refine Below.setCell ?_ (by first | (simp; done) | (simp; omega)) _ | refine Below.alloc ?_ (by first | (simp; done) | (simp; omega)) _)))) hout
  have hlt := heap_lt heb
  have hl1 := heap_lt htb
  have hl2 := heap_lt hxb
  have HE : Hid (w.heap[eb]? = _) := heb
  clear htb hxb heb
  go_enter Tryd.func89, Tryd.ntmps89
  go_region_held3 (fun w' => w'.cell? ⟨tb, 1, none⟩ = some (.string ⟨tx.toArray⟩) ∧ w'.cell? ⟨xb, 0, none⟩ = some (ptrV p)) (first | (go_keep; done) | (refine ⟨?_, ?_⟩ <;> (rw [cell_al4 (by omega) (by omega)]; assumption)))
    (first | (go_at_call 79; refine hc.mono ?_; rintro e w2 ⟨k, n, m, ad, l, c, rfl, hrep, hp2, hb2⟩; have k1 : w2.cell? ⟨tb, 1, none⟩ = some (.string ⟨tx.toArray⟩) := cell_keep hb2 c1 (by omega); have k2 : w2.cell? ⟨xb, 0, none⟩ = some (ptrV p) := cell_keep hb2 c2 (by omega); have hz := hb2.size; have hx2 := heap_keep hb2 HE.out (by omega); have e0 : w2.cell? ⟨eb, 0, none⟩ = some x0 := cell_of_blk hx2 0; have e1 : w2.cell? ⟨eb, 1, none⟩ = some x1 := cell_of_blk hx2 1; have e2 : w2.cell? ⟨eb, 2, none⟩ = some x2 := cell_of_blk hx2 2; have e3 : w2.cell? ⟨eb, 3, none⟩ = some x3 := cell_of_blk hx2 3; have f0 := free_of_blk hx2 0; have f1 := free_of_blk hx2 1; have f2 := free_of_blk hx2 2; have f3 := free_of_blk hx2 3; have HX : Hid (w2.heap[eb]? = _) := hx2; have l1 := heap_lt hx2; have l2 := cell_lt k1; have l3 := cell_lt k2; clear hx2))
  have hb3 : But p w w2 := ((But.refl p w).drew).trans hb2
  obtain ⟨W, hW, r1, r2, r3⟩ := eb_new hp2 HX.out h3 hlt hb3.size kOne tx #[.string k, .int .i64 n, .string m, .slice ad l c] 1 ((s.via (singleT T q d)).bind fun x j => .ok (.mk kOne 0 tx [x]) j) (fun x j hx => by
    cases hr : s.via (singleT T q d) with
    | out => rw [hr] at hx; cases hx
    | bad c k => rw [hr] at hx; cases hx
    | ok y j' =>
      rw [hr] at hx
      cases hx
      exact ⟨[y], rfl, rfl, _, [], by simp, hrep y _ hr, rfl⟩)
  subst hW
  go_end0
  exact ⟨rfl, r1, (But2.of hb3).trans r2, r3⟩
end Go.Proofs.YtcebpmaggnephabDoor
