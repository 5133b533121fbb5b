/- Our own: texts joined: GrShape, GrFits. -/
import Derived.Test.YtlgejjmdanmglaaGreatDoorVGrRep
import Derived.Laws.Rows
namespace Go.Proofs.YtlgejjmdanmglaaGreatDoor
open Go.RowKit
def shpC (s : Shp) : List Value := [.string ⟨s.kind.toArray⟩, .string ⟨s.ins.toArray⟩, .string ⟨s.more.toArray⟩, .bool s.num, .bool s.name, .string ⟨s.gives.toArray⟩]
def tabC : List Value := shapesL.flatMap shpC
structure TabG (w : World) : Prop where
 tab : ∃ t, w.heap[11]? = some (.cells tabC.toArray t (0, 0))
theorem TabG.below {w w' : World} (h : TabG w) (hb : Below w.heap.size w w') : TabG w' := by
 obtain ⟨t, ht⟩ := h.tab
 exact ⟨t, (hb.block _ (heap_lt ht)).trans ht⟩
theorem tab_0 (w : World) : (Instr.index 157 (.agg tabC.toArray) (.int .i64 0)).run Tryz.prog w = .ok (shpV (shapesL[0]'(by decide))) w := by kernel_rfl
theorem tab_1 (w : World) : (Instr.index 157 (.agg tabC.toArray) (.int .i64 1)).run Tryz.prog w = .ok (shpV (shapesL[1]'(by decide))) w := by kernel_rfl
theorem tab_2 (w : World) : (Instr.index 157 (.agg tabC.toArray) (.int .i64 2)).run Tryz.prog w = .ok (shpV (shapesL[2]'(by decide))) w := by kernel_rfl
theorem tab_3 (w : World) : (Instr.index 157 (.agg tabC.toArray) (.int .i64 3)).run Tryz.prog w = .ok (shpV (shapesL[3]'(by decide))) w := by kernel_rfl
theorem tab_4 (w : World) : (Instr.index 157 (.agg tabC.toArray) (.int .i64 4)).run Tryz.prog w = .ok (shpV (shapesL[4]'(by decide))) w := by kernel_rfl
theorem tab_5 (w : World) : (Instr.index 157 (.agg tabC.toArray) (.int .i64 5)).run Tryz.prog w = .ok (shpV (shapesL[5]'(by decide))) w := by kernel_rfl
theorem tab_6 (w : World) : (Instr.index 157 (.agg tabC.toArray) (.int .i64 6)).run Tryz.prog w = .ok (shpV (shapesL[6]'(by decide))) w := by kernel_rfl
theorem tab_7 (w : World) : (Instr.index 157 (.agg tabC.toArray) (.int .i64 7)).run Tryz.prog w = .ok (shpV (shapesL[7]'(by decide))) w := by kernel_rfl
theorem tab_8 (w : World) : (Instr.index 157 (.agg tabC.toArray) (.int .i64 8)).run Tryz.prog w = .ok (shpV (shapesL[8]'(by decide))) w := by kernel_rfl
theorem tab_9 (w : World) : (Instr.index 157 (.agg tabC.toArray) (.int .i64 9)).run Tryz.prog w = .ok (shpV (shapesL[9]'(by decide))) w := by kernel_rfl
theorem tab_10 (w : World) : (Instr.index 157 (.agg tabC.toArray) (.int .i64 10)).run Tryz.prog w = .ok (shpV (shapesL[10]'(by decide))) w := by kernel_rfl
theorem tab_11 (w : World) : (Instr.index 157 (.agg tabC.toArray) (.int .i64 11)).run Tryz.prog w = .ok (shpV (shapesL[11]'(by decide))) w := by kernel_rfl
theorem tab_12 (w : World) : (Instr.index 157 (.agg tabC.toArray) (.int .i64 12)).run Tryz.prog w = .ok (shpV (shapesL[12]'(by decide))) w := by kernel_rfl
theorem tab_13 (w : World) : (Instr.index 157 (.agg tabC.toArray) (.int .i64 13)).run Tryz.prog w = .ok (shpV (shapesL[13]'(by decide))) w := by kernel_rfl
theorem tab_index (i : Nat) (hi : i < shapesL.length) (w : World) : (Instr.index 157 (.agg tabC.toArray) (.int .i64 i)).run Tryz.prog w = .ok (shpV shapesL[i]) w := by
 have h14 : i < 14 := hi
 rcases (by omega : i = 0 ∨ i = 1 ∨ i = 2 ∨ i = 3 ∨ i = 4 ∨ i = 5 ∨ i = 6 ∨ i = 7 ∨ i = 8 ∨ i = 9 ∨ i = 10 ∨ i = 11 ∨ i = 12 ∨ i = 13) with rfl | rfl | rfl | rfl | rfl | rfl | rfl | rfl | rfl | rfl | rfl | rfl | rfl | rfl
 ·exact tab_0 w
 ·exact tab_1 w
 ·exact tab_2 w
 ·exact tab_3 w
 ·exact tab_4 w
 ·exact tab_5 w
 ·exact tab_6 w
 ·exact tab_7 w
 ·exact tab_8 w
 ·exact tab_9 w
 ·exact tab_10 w
 ·exact tab_11 w
 ·exact tab_12 w
 ·exact tab_13 w
theorem set6_blk {w : World} {r : Nat} {x0 x1 x2 x3 x4 x5 : Value} {t : TypeId} (h : w.heap[r]? = some (.cells #[x0, x1, x2, x3, x4, x5] t (0, 0))) (u0 u1 u2 u3 u4 u5 : Value) :
  ((((((w.setCell ⟨r, 0, none⟩ u0).setCell ⟨r, 1, none⟩ u1).setCell ⟨r, 2, none⟩ u2).setCell ⟨r, 3, none⟩ u3).setCell ⟨r, 4, none⟩ u4).setCell ⟨r, 5, none⟩ u5).heap[r]? = some (.cells #[u0, u1, u2, u3, u4, u5] t (0, 0)) := by
 have := blk_setCell (blk_setCell (blk_setCell (blk_setCell (blk_setCell (blk_setCell h 0 u0) 1 u1) 2 u2) 3 u3) 4 u4) 5 u5
 simpa using this
theorem set6_below {B : Nat} {a w : World} {r : Nat} (h : Below B a w) (hr : B ≤ r) (u0 u1 u2 u3 u4 u5 : Value) : Below B a ((((((w.setCell ⟨r, 0, none⟩ u0).setCell ⟨r, 1, none⟩ u1).setCell ⟨r, 2, none⟩ u2).setCell ⟨r, 3, none⟩ u3).setCell ⟨r, 4, none⟩ u4).setCell ⟨r, 5, none⟩ u5) :=
 (((((h.setCell hr _).setCell hr _).setCell hr _).setCell hr _).setCell hr _).setCell hr _
theorem set6_size {w : World} {r : Nat} {u0 u1 u2 u3 u4 u5 : Value} : ((((((w.setCell ⟨r, 0, none⟩ u0).setCell ⟨r, 1, none⟩ u1).setCell ⟨r, 2, none⟩ u2).setCell ⟨r, 3, none⟩ u3).setCell ⟨r, 4, none⟩ u4).setCell ⟨r, 5, none⟩ u5).heap.size = w.heap.size := by simp [World.setCell]
theorem ret_row {fn : Func} {R : Ending → World → Prop} {tmps : Array Value} {w : World} (r sl : Nat) (cs : Array Value) (T : TypeId) {fs : Array Field} {t : TypeId} (hres : fn.results = #[ResultVar.cell sl T]) (hsl : tmps.getD sl undef = .pointer (some ⟨r, 0, none⟩))
  (hx : w.heap[r]? = some (.cells cs t (0, 0))) (hu : Tryz.prog.underlying T = some (.struct fs)) (hi : (Tryz.prog.info? T).map (·.size) = some cs.size) (h : R (.returned (.agg cs)) w) : bodyPost Tryz.prog fn R Exit.ret { tmps := tmps, defers := [] } w :=
 bodyPost_ret (v := .agg cs) (results_cell_row hres tmps w r t cs (0, 0) _ hsl hx hu rfl hi) rfl h
theorem shpIn_not {k : List UInt8} : ∀ {l : List Shp}, (∀ s ∈ l, s.kind ≠ k) → shpIn l k = noShp
 | [], _ => rfl
 | s :: r, h => by rw [shpIn, if_neg (h s (by simp)), shpIn_not fun t ht => h t (by simp [ht])]
theorem shpIn_at {k : List UInt8} : ∀ {l : List Shp} {q : Nat} (hq : q < l.length), (∀ j (hj : j < q), (l[j]'(by omega)).kind ≠ k) → l[q].kind = k → shpIn l k = l[q]
 | [], _, hq, _, _ => absurd hq (by simp)
 | s :: r, 0, _, _, h => by
  have h' : s.kind = k := h
  rw [shpIn, if_pos h']; rfl
 | s :: r, q + 1, hq, h, h' => by
  have h0 : s.kind ≠ k := h 0 (by omega)
  rw [shpIn, if_neg h0]
  exact shpIn_at (by simpa using hq) (fun j hj => h (j + 1) (by omega)) h'
set_option maxRecDepth 100000 in
set_option maxHeartbeats 1000000 in
theorem shapeOf_any (k : List UInt8) (w : World) (hT : TabG w) : Calls Tryz.prog 54 #[.string ⟨k.toArray⟩] w fun e w' => e = .returned (shpV (shp k)) ∧ Below w.heap.size w w' := by
 obtain ⟨t, ht⟩ := hT.tab
 have hlt := heap_lt ht
 have hb0 := box_blk w #[.string ⟨#[]⟩, .string ⟨#[]⟩, .string ⟨#[]⟩, .bool false, .bool false, .string ⟨#[]⟩] 118
 have ht1 := (hb0.block _ hlt).trans ht
 have hix := fun i hi => tab_index i hi
 have hsz : (Tryz.prog.info? 157).map (·.size) = some tabC.toArray.size := by kernel_rfl
 generalize htb : tabC.toArray = tb at ht1 hix hsz
 generalize hres : shp k = res
 have HRES := hidX hres
 have HIX := hidX hix
 clear htb ht hres hix hT
 go_enter Tryz.func54, Tryz.ntmps54
 go_wp2_with (first | (refine wpList_load_row rfl _ _ rfl 11 rfl t tb (0, 0) _ ht1 Tryz.underlying157 rfl hsz ?_) | fail)
 go_loopw [6] (fun vi wr => ∃ q : Nat, q ≤ 14 ∧ vi = .int .i64 q ∧ Below w.heap.size w wr ∧ w.heap.size < wr.heap.size ∧ wr.heap[w.heap.size]? = some (.cells #[.string ⟨#[]⟩, .string ⟨#[]⟩, .string ⟨#[]⟩, .bool false, .bool false, .string ⟨#[]⟩] 118 (0, 0)) ∧ Hid (∀ j (hj : j < q) (hq : q ≤ shapesL.length), (shapesL[j]'(by omega)).kind ≠ k)) (fun vi _ => 14 - (intOf vi).toNat)
 case atStart => exact ⟨0, by omega, rfl, hb0, by simp, heap_alloc_new _ _, fun j hj => absurd hj (by omega)⟩
 case round =>
  obtain ⟨q, hq, rfl, hbl, hz, hbk, HNO⟩ := hrel
  have f1 := free_of_blk hbk 0
  have f2 := free_of_blk hbk 1
  have f3 := free_of_blk hbk 2
  have f4 := free_of_blk hbk 3
  have f5 := free_of_blk hbk 4
  have f6 := free_of_blk hbk 5
  have c1 := cell_of_blk hbk 0
  have c2 := cell_of_blk hbk 1
  have c3 := cell_of_blk hbk 2
  have c4 := cell_of_blk hbk 3
  have c5 := cell_of_blk hbk 4
  have c6 := cell_of_blk hbk 5
  have HBK := hidX hbk
  by_cases hlt' : q < 14
  ·have hqi : (q : Int) < 14 := by omega
   have hi1 := HIX.out q hlt'
   have hk := fun (h : shapesL[q].kind = k) => shpIn_at (l := shapesL) (q := q) hlt' (fun j hj => HNO.out j hj (Nat.le_of_lt hlt')) h
   have hno2 := fun (h : shapesL[q].kind ≠ k) (j : Nat) (hj : j < q + 1) (hq : q + 1 ≤ shapesL.length) => show (shapesL[j]'(by omega)).kind ≠ k from by
    by_cases e : j = q
    ·subst e; exact h
    ·exact HNO.out j (by omega) (by omega)
   generalize shapesL[q] = s at hi1 hk hno2
   have HK := hidX hk
   have HN2 := hidX hno2
   clear hk hno2 hbk
   by_cases e : s.kind = k
   ·have e' : (s.kind == k) = true := by simpa using e
    have HE := hidX (HRES.out.symm.trans (HK.out e))
    clear e HK HN2
    go_wp2
    have hx := set6_blk HBK.out (.string ⟨s.kind.toArray⟩) (.string ⟨s.ins.toArray⟩) (.string ⟨s.more.toArray⟩) (.bool s.num) (.bool s.name) (.string ⟨s.gives.toArray⟩)
    have hb := set6_below hbl (Nat.le_refl _) (.string ⟨s.kind.toArray⟩) (.string ⟨s.ins.toArray⟩) (.string ⟨s.more.toArray⟩) (.bool s.num) (.bool s.name) (.string ⟨s.gives.toArray⟩)
    have hsz2 := set6_size (w := wr) (r := w.heap.size) (u0 := .string ⟨s.kind.toArray⟩) (u1 := .string ⟨s.ins.toArray⟩) (u2 := .string ⟨s.more.toArray⟩) (u3 := .bool s.num) (u4 := .bool s.name) (u5 := .string ⟨s.gives.toArray⟩)
    generalize (((((wr.setCell ⟨w.heap.size, 0, none⟩ (.string ⟨s.kind.toArray⟩)).setCell ⟨w.heap.size, 1, none⟩ (.string ⟨s.ins.toArray⟩)).setCell ⟨w.heap.size, 2, none⟩ (.string ⟨s.more.toArray⟩)).setCell ⟨w.heap.size, 3, none⟩ (.bool s.num)).setCell ⟨w.heap.size, 4, none⟩ (.bool s.name)).setCell ⟨w.heap.size, 5, none⟩ (.string ⟨s.gives.toArray⟩) = W at hx hb hsz2 ⊢
    refine ret_row w.heap.size 2 _ 118 rfl rfl ((Below.heap_alloc W _ _ (by omega)).trans hx) Tryz.underlying118 (by kernel_rfl) ⟨by rw [HE.out], hb.alloc (by omega) _⟩
   ·have e' : (s.kind == k) = false := by simpa using e
    have HN := hidX (HN2.out e)
    clear HK HN2 e
    go_wp2
    go_roundw
    case rel => exact ⟨q + 1, by omega, by go_num, hbl.alloc (by omega) _, by simp; omega, (Below.heap_alloc _ _ _ hz).trans HBK.out, HN.out⟩
    case measure => simp [intOf]; omega
  ·have hq14 : q = 14 := by omega
   subst hq14
   clear hbk
   go_wp2
   have hx := set6_blk HBK.out (.string ⟨#[]⟩) (.string ⟨#[]⟩) (.string ⟨#[]⟩) (.bool false) (.bool false) (.string ⟨#[]⟩)
   have hb := set6_below hbl (Nat.le_refl _) (.string ⟨#[]⟩) (.string ⟨#[]⟩) (.string ⟨#[]⟩) (.bool false) (.bool false) (.string ⟨#[]⟩)
   have hr : res = noShp := HRES.out.symm.trans (shpIn_not (l := shapesL) fun s hs => by
    obtain ⟨j, hj, e⟩ := List.getElem_of_mem hs
    rw [← e]; exact HNO.out j hj (Nat.le_refl _))
   subst hr
   exact ret_row w.heap.size 2 _ 118 rfl rfl hx Tryz.underlying118 (by kernel_rfl) ⟨rfl, hb⟩
end Go.Proofs.YtlgejjmdanmglaaGreatDoor
namespace Go.Proofs.YtlgejjmdanmglaaGreatDoor
open Go.RowKit
theorem arr_at {l : List UInt8} {k : Nat} (h : k < l.length) : (⟨l.toArray⟩ : ByteArray)[k]'(by simpa [ByteArray.size] using h) = l.getD k 0 := by
 show l.toArray[k] = _
 simp [List.getD_eq_getElem?_getD, h]
set_option maxRecDepth 100000 in
theorem due_any (s : Shp) (k : Nat) (hk : k < s.ins.length ∨ s.more ≠ []) (hl : s.ins.length ≤ 5) (w : World) : Calls Tryz.prog 67 #[shpV s, .int .i64 k] w fun e w' => e = .returned (.int .u8 ((dueS s k).toNat : Nat)) ∧ Below w.heap.size w w' := by
 have hb0 := box_blk w #[.string ⟨s.kind.toArray⟩, .string ⟨s.ins.toArray⟩, .string ⟨s.more.toArray⟩, .bool s.num, .bool s.name, .string ⟨s.gives.toArray⟩] 118
 by_cases h : k < s.ins.length
 ·have h' : (k : Int) < (s.ins.length : Int) := by omega
  have hd : dueS s k = s.ins.getD k 0 := by unfold dueS; rw [if_pos h]
  rw [hd, ← arr_at h]
  have hsz : k < (⟨s.ins.toArray⟩ : ByteArray).size := by simpa [ByteArray.size] using h
  clear hd
  go_enter Tryz.func67, Tryz.ntmps67
  go_wp2
  go_ret
  exact ⟨rfl, hb0⟩
 ·have hm := hk.resolve_left h
  obtain ⟨km, ki, more, kn, kn2, kg⟩ := s
  simp only at h hm hb0 hl ⊢
  cases more with
  | nil => exact absurd rfl hm
  | cons c r =>
   have hd : dueS ⟨km, ki, c :: r, kn, kn2, kg⟩ k = c := by unfold dueS; rw [if_neg h]; rfl
   rw [hd]
   have h' : ((k : Int) < (ki.length : Int)) = False := by simp; omega
   clear hd h hm hk
   go_enter Tryz.func67, Tryz.ntmps67
   go_wp2
   go_ret
   exact ⟨rfl, hb0⟩
set_option maxRecDepth 100000 in
set_option maxHeartbeats 2000000 in
theorem fits_any (s : Shp) (n : Nd) (ad : Option Addr) (cap : Nat) (hl : s.ins.length ≤ 5) (hn : n.ins.length ≤ 100000) (w : World) : Calls Tryz.prog 56 #[shpV s, ndV n ad cap] w fun e w' => e = .returned (.bool (fitsB s n)) ∧ Below w.heap.size w w' := by
 have hb0 := bl_trans (box_blk w #[.string ⟨s.kind.toArray⟩, .string ⟨s.ins.toArray⟩, .string ⟨s.more.toArray⟩, .bool s.num, .bool s.name, .string ⟨s.gives.toArray⟩] 118) (by simp) (box_blk (w.alloc (.cells #[.string ⟨s.kind.toArray⟩, .string ⟨s.ins.toArray⟩, .string ⟨s.more.toArray⟩, .bool s.num, .bool s.name, .string ⟨s.gives.toArray⟩] 118)) #[.string ⟨n.kind.toArray⟩, .slice ad n.ins.length cap, .int .i64 n.num, .string ⟨n.name.toArray⟩] 55)
 generalize hr : fitsB s n = res
 have HR := hidX hr
 clear hr
 obtain ⟨nk, ni, nn, nm⟩ := n
 obtain ⟨sk, si, sm, snum, sname, sg⟩ := s
 simp only at hl hn HR hb0 ⊢
 clear hb0
 go_enter Tryz.func56, Tryz.ntmps56
 go_wp2
 all_goals
  go_ret
  refine ⟨?_, by (repeat (first | exact Below.refl _ _ | assumption | refine Below.drew ?_ | refine bT ?_ _ | refine bS ?_ _ | refine bA ?_ _))⟩
  have hr := HR.out
  rw [← hr]
  clear hr
  have e3 : ((ni.length : Int) == (si.length : Int)) = (ni.length == si.length) := by rw [Bool.eq_iff_iff]; simp; omega
  first
  | (have e1 : ni.length = si.length := (by omega); clear HR; simp_all [fitsB])
  | (have e1 : ¬ ni.length = si.length := (by omega); have e2 : si.length < ni.length := (by omega); clear HR; cases sm <;> simp_all [fitsB] <;> (intros; omega))
  | (have e1 : ¬ ni.length = si.length := (by omega); have e2 : ¬ si.length < ni.length := (by omega); clear HR; cases sm <;> simp_all [fitsB] <;> (intros; omega))
end Go.Proofs.YtlgejjmdanmglaaGreatDoor
