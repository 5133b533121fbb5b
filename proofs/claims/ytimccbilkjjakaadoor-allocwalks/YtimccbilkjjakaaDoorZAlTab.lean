/- Our own: texts joined: AlTab. -/
import Derived.Test.YtimccbilkjjakaaDoorZAlMR
import Derived.Test.YtimccbilkjjakaaDoorZRets
namespace Go.Proofs.YtimccbilkjjakaaDoor
open Go.RowKit
def ashC (s : Ash) : List Value := [.string ⟨s.kind.toArray⟩, .bool s.d, .bool s.a, .bool s.b, .bool s.num, .bool s.name, .bool s.fin, .int .i64 (s.ways : Int)]
abbrev ashV (s : Ash) : Value := .agg #[.string ⟨s.kind.toArray⟩, .bool s.d, .bool s.a, .bool s.b, .bool s.num, .bool s.name, .bool s.fin, .int .i64 (s.ways : Int)]
def ashT : List Value := ashL.flatMap ashC
structure TabA (w : World) : Prop where
 tab : ∃ t, w.heap[11]? = some (.cells ashT.toArray t (0, 0))
theorem TabA.below {w w' : World} (h : TabA w) (hb : Below w.heap.size w w') : TabA w' := by
 obtain ⟨t, ht⟩ := h.tab
 exact ⟨t, (hb.block _ (heap_lt ht)).trans ht⟩
theorem ash_0 (w : World) : (Instr.index 123 (.agg ashT.toArray) (.int .i64 0)).run Tryd.prog w = .ok (ashV (ashL[0]'(by decide))) w := by kernel_rfl
theorem ash_1 (w : World) : (Instr.index 123 (.agg ashT.toArray) (.int .i64 1)).run Tryd.prog w = .ok (ashV (ashL[1]'(by decide))) w := by kernel_rfl
theorem ash_2 (w : World) : (Instr.index 123 (.agg ashT.toArray) (.int .i64 2)).run Tryd.prog w = .ok (ashV (ashL[2]'(by decide))) w := by kernel_rfl
theorem ash_3 (w : World) : (Instr.index 123 (.agg ashT.toArray) (.int .i64 3)).run Tryd.prog w = .ok (ashV (ashL[3]'(by decide))) w := by kernel_rfl
theorem ash_4 (w : World) : (Instr.index 123 (.agg ashT.toArray) (.int .i64 4)).run Tryd.prog w = .ok (ashV (ashL[4]'(by decide))) w := by kernel_rfl
theorem ash_5 (w : World) : (Instr.index 123 (.agg ashT.toArray) (.int .i64 5)).run Tryd.prog w = .ok (ashV (ashL[5]'(by decide))) w := by kernel_rfl
theorem ash_6 (w : World) : (Instr.index 123 (.agg ashT.toArray) (.int .i64 6)).run Tryd.prog w = .ok (ashV (ashL[6]'(by decide))) w := by kernel_rfl
theorem ash_7 (w : World) : (Instr.index 123 (.agg ashT.toArray) (.int .i64 7)).run Tryd.prog w = .ok (ashV (ashL[7]'(by decide))) w := by kernel_rfl
theorem ash_8 (w : World) : (Instr.index 123 (.agg ashT.toArray) (.int .i64 8)).run Tryd.prog w = .ok (ashV (ashL[8]'(by decide))) w := by kernel_rfl
theorem ash_9 (w : World) : (Instr.index 123 (.agg ashT.toArray) (.int .i64 9)).run Tryd.prog w = .ok (ashV (ashL[9]'(by decide))) w := by kernel_rfl
theorem ash_10 (w : World) : (Instr.index 123 (.agg ashT.toArray) (.int .i64 10)).run Tryd.prog w = .ok (ashV (ashL[10]'(by decide))) w := by kernel_rfl
theorem ash_11 (w : World) : (Instr.index 123 (.agg ashT.toArray) (.int .i64 11)).run Tryd.prog w = .ok (ashV (ashL[11]'(by decide))) w := by kernel_rfl
theorem ash_12 (w : World) : (Instr.index 123 (.agg ashT.toArray) (.int .i64 12)).run Tryd.prog w = .ok (ashV (ashL[12]'(by decide))) w := by kernel_rfl
theorem ash_13 (w : World) : (Instr.index 123 (.agg ashT.toArray) (.int .i64 13)).run Tryd.prog w = .ok (ashV (ashL[13]'(by decide))) w := by kernel_rfl
theorem ash_index (i : Nat) (hi : i < ashL.length) (w : World) : (Instr.index 123 (.agg ashT.toArray) (.int .i64 i)).run Tryd.prog w = .ok (ashV ashL[i]) w := by
 have h14 : i < 14 := hi
 rcases (by omega : i = 0 ∨ i = 1 ∨ i = 2 ∨ i = 3 ∨ i = 4 ∨ i = 5 ∨ i = 6 ∨ i = 7 ∨ i = 8 ∨ i = 9 ∨ i = 10 ∨ i = 11 ∨ i = 12 ∨ i = 13) with rfl | rfl | rfl | rfl | rfl | rfl | rfl | rfl | rfl | rfl | rfl | rfl | rfl | rfl
 ·exact ash_0 w
 ·exact ash_1 w
 ·exact ash_2 w
 ·exact ash_3 w
 ·exact ash_4 w
 ·exact ash_5 w
 ·exact ash_6 w
 ·exact ash_7 w
 ·exact ash_8 w
 ·exact ash_9 w
 ·exact ash_10 w
 ·exact ash_11 w
 ·exact ash_12 w
 ·exact ash_13 w
theorem ash_blk {w : World} {r : Nat} {x0 x1 x2 x3 x4 x5 x6 x7 : Value} {t : TypeId} (h : w.heap[r]? = some (.cells #[x0, x1, x2, x3, x4, x5, x6, x7] t (0, 0))) (u0 u1 u2 u3 u4 u5 u6 u7 : Value) :
  ((((((((w.setCell ⟨r, 0, none⟩ (u0)).setCell ⟨r, 1, none⟩ (u1)).setCell ⟨r, 2, none⟩ (u2)).setCell ⟨r, 3, none⟩ (u3)).setCell ⟨r, 4, none⟩ (u4)).setCell ⟨r, 5, none⟩ (u5)).setCell ⟨r, 6, none⟩ (u6)).setCell ⟨r, 7, none⟩ (u7)).heap[r]? = some (.cells #[u0, u1, u2, u3, u4, u5, u6, u7] t (0, 0)) := by
 have := blk_setCell (blk_setCell (blk_setCell (blk_setCell (blk_setCell (blk_setCell (blk_setCell (blk_setCell h 0 u0) 1 u1) 2 u2) 3 u3) 4 u4) 5 u5) 6 u6) 7 u7
 simpa using this
theorem ash_low {B : Nat} {a w : World} {r : Nat} (h : Below B a w) (hr : B ≤ r) (u0 u1 u2 u3 u4 u5 u6 u7 : Value) : Below B a ((((((((w.setCell ⟨r, 0, none⟩ (u0)).setCell ⟨r, 1, none⟩ (u1)).setCell ⟨r, 2, none⟩ (u2)).setCell ⟨r, 3, none⟩ (u3)).setCell ⟨r, 4, none⟩ (u4)).setCell ⟨r, 5, none⟩ (u5)).setCell ⟨r, 6, none⟩ (u6)).setCell ⟨r, 7, none⟩ (u7)) :=
 (((((((h.setCell hr _).setCell hr _).setCell hr _).setCell hr _).setCell hr _).setCell hr _).setCell hr _).setCell hr _
theorem ash_size {w : World} {r : Nat} {u0 u1 u2 u3 u4 u5 u6 u7 : Value} : ((((((((w.setCell ⟨r, 0, none⟩ (u0)).setCell ⟨r, 1, none⟩ (u1)).setCell ⟨r, 2, none⟩ (u2)).setCell ⟨r, 3, none⟩ (u3)).setCell ⟨r, 4, none⟩ (u4)).setCell ⟨r, 5, none⟩ (u5)).setCell ⟨r, 6, none⟩ (u6)).setCell ⟨r, 7, none⟩ (u7)).heap.size = w.heap.size := by simp [World.setCell]
theorem ashIn_not {k : List UInt8} {en : Bool} : ∀ {l : List Ash}, (∀ s ∈ l, ¬ (s.kind = k ∧ s.fin = en)) → ashIn l k en = noAsh
 | [], _ => rfl
 | s :: r, h => by rw [ashIn, if_neg (h s (by simp)), ashIn_not fun t ht => h t (by simp [ht])]
theorem ashIn_at {k : List UInt8} {en : Bool} : ∀ {l : List Ash} {q : Nat} (hq : q < l.length), (∀ j (hj : j < q), ¬ ((l[j]'(by omega)).kind = k ∧ (l[j]'(by omega)).fin = en)) → (l[q].kind = k ∧ l[q].fin = en) → ashIn l k en = l[q]
 | [], _, hq, _, _ => absurd hq (by simp)
 | s :: r, 0, _, _, h => by
  have h' : s.kind = k ∧ s.fin = en := h
  rw [ashIn, if_pos h']; rfl
 | s :: r, q + 1, hq, h, h' => by
  have h0 : ¬ (s.kind = k ∧ s.fin = en) := h 0 (by omega)
  rw [ashIn, if_neg h0]
  exact ashIn_at (by simpa using hq) (fun j hj => h (j + 1) (by omega)) h'
set_option maxRecDepth 100000 in
set_option maxHeartbeats 1000000 in
theorem shapeOf_any (k : List UInt8) (en : Bool) (w : World) (hT : TabA w) : Calls Tryd.prog 37 #[.string ⟨k.toArray⟩, .bool en] w fun e w' => e = .returned (ashV (ash k en)) ∧ Below w.heap.size w w' := by
 obtain ⟨t, ht⟩ := hT.tab
 have hlt := heap_lt ht
 have hb0 := box_blk w #[.string ⟨#[]⟩, .bool false, .bool false, .bool false, .bool false, .bool false, .bool false, .int .i64 0] 97
 have ht1 := (hb0.block _ hlt).trans ht
 have hix := fun i hi => ash_index i hi
 have hsz : (Tryd.prog.info? 123).map (·.size) = some ashT.toArray.size := by kernel_rfl
 generalize htb : ashT.toArray = tb at ht1 hix hsz
 generalize hres : ash k en = res
 have HRES := hidX hres
 have HIX := hidX hix
 clear htb ht hres hix hT
 go_enter Tryd.func37, Tryd.ntmps37
 go_wp2_with (first | (refine wpList_load_row rfl _ _ rfl 11 rfl t tb (0, 0) _ ht1 Tryd.underlying123 rfl hsz ?_) | fail)
 go_loopw [8] (fun vi wr => ∃ q : Nat, q ≤ 14 ∧ vi = .int .i64 q ∧ Below w.heap.size w wr ∧ w.heap.size < wr.heap.size ∧ wr.heap[w.heap.size]? = some (.cells #[.string ⟨#[]⟩, .bool false, .bool false, .bool false, .bool false, .bool false, .bool false, .int .i64 0] 97 (0, 0)) ∧ Hid (∀ j (hj : j < q) (hq : q ≤ ashL.length), ¬ ((ashL[j]'(by omega)).kind = k ∧ (ashL[j]'(by omega)).fin = en))) (fun vi _ => 14 - (intOf vi).toNat)
 case atStart => exact ⟨0, by omega, rfl, hb0, by simp, heap_alloc_new _ _, fun j hj => absurd hj (by omega)⟩
 case round =>
  obtain ⟨q, hq, rfl, hbl, hz, hbk, HNO⟩ := hrel
  have f0 := free_of_blk hbk 0
  have c0 := cell_of_blk hbk 0
  have f1 := free_of_blk hbk 1
  have c1 := cell_of_blk hbk 1
  have f2 := free_of_blk hbk 2
  have c2 := cell_of_blk hbk 2
  have f3 := free_of_blk hbk 3
  have c3 := cell_of_blk hbk 3
  have f4 := free_of_blk hbk 4
  have c4 := cell_of_blk hbk 4
  have f5 := free_of_blk hbk 5
  have c5 := cell_of_blk hbk 5
  have f6 := free_of_blk hbk 6
  have c6 := cell_of_blk hbk 6
  have f7 := free_of_blk hbk 7
  have c7 := cell_of_blk hbk 7
  have HBK := hidX hbk
  by_cases hlt' : q < 14
  ·have hqi : (q : Int) < 14 := by omega
   have hi1 := HIX.out q hlt'
   have hk := fun (h : ashL[q].kind = k ∧ ashL[q].fin = en) => ashIn_at (l := ashL) (q := q) hlt' (fun j hj => HNO.out j hj (Nat.le_of_lt hlt')) h
   have hno2 := fun (h : ¬ (ashL[q].kind = k ∧ ashL[q].fin = en)) (j : Nat) (hj : j < q + 1) (hq : q + 1 ≤ ashL.length) => show ¬ ((ashL[j]'(by omega)).kind = k ∧ (ashL[j]'(by omega)).fin = en) from by
    by_cases e : j = q
    ·subst e; exact h
    ·exact HNO.out j (by omega) (by omega)
   generalize ashL[q] = s at hi1 hk hno2
   have HK := hidX hk
   have HN2 := hidX hno2
   clear hk hno2 hbk
   by_cases e : s.kind = k ∧ s.fin = en
   ·have e' : (s.kind == k) = true := by simpa using e.1
    have e2 : (s.fin == en) = true := by simpa using e.2
    have HE := hidX (HRES.out.symm.trans (HK.out e))
    clear e HK HN2
    go_wp2
    have hx := ash_blk HBK.out (.string ⟨s.kind.toArray⟩) (.bool s.d) (.bool s.a) (.bool s.b) (.bool s.num) (.bool s.name) (.bool s.fin) (.int .i64 (s.ways : Int))
    have hb := ash_low hbl (Nat.le_refl _) (.string ⟨s.kind.toArray⟩) (.bool s.d) (.bool s.a) (.bool s.b) (.bool s.num) (.bool s.name) (.bool s.fin) (.int .i64 (s.ways : Int))
    have hsz2 := ash_size (w := wr) (r := w.heap.size) (u0 := .string ⟨s.kind.toArray⟩) (u1 := .bool s.d) (u2 := .bool s.a) (u3 := .bool s.b) (u4 := .bool s.num) (u5 := .bool s.name) (u6 := .bool s.fin) (u7 := .int .i64 (s.ways : Int))
    generalize (((((((wr.setCell ⟨w.heap.size, 0, none⟩ (.string ⟨s.kind.toArray⟩)).setCell ⟨w.heap.size, 1, none⟩ (.bool s.d)).setCell ⟨w.heap.size, 2, none⟩ (.bool s.a)).setCell ⟨w.heap.size, 3, none⟩ (.bool s.b)).setCell ⟨w.heap.size, 4, none⟩ (.bool s.num)).setCell ⟨w.heap.size, 5, none⟩ (.bool s.name)).setCell ⟨w.heap.size, 6, none⟩ (.bool s.fin)).setCell ⟨w.heap.size, 7, none⟩ (.int .i64 (s.ways : Int)) = W at hx hb hsz2 ⊢
    refine ret_row w.heap.size 4 _ 97 rfl rfl ((Below.heap_alloc W _ _ (by omega)).trans hx) Tryd.underlying97 (by kernel_rfl) ⟨by rw [HE.out], hb.alloc (by omega) _⟩
   ·have HN := hidX (HN2.out e)
    clear HK HN2
    by_cases e1 : s.kind = k
    ·have e' : (s.kind == k) = true := by simpa using e1
     have e2 : (s.fin == en) = false := by rw [beq_eq_false_iff_ne]; exact fun h => e ⟨e1, h⟩
     clear e e1
     go_wp2
     go_roundw
     case rel => exact ⟨q + 1, by omega, by go_num, hbl.alloc (by omega) _, by simp; omega, (Below.heap_alloc _ _ _ hz).trans HBK.out, HN.out⟩
     case measure => simp [intOf]; omega
    ·have e' : (s.kind == k) = false := by simpa using e1
     clear e e1
     go_wp2
     go_roundw
     case rel => exact ⟨q + 1, by omega, by go_num, hbl.alloc (by omega) _, by simp; omega, (Below.heap_alloc _ _ _ hz).trans HBK.out, HN.out⟩
     case measure => simp [intOf]; omega
  ·have hq14 : q = 14 := by omega
   subst hq14
   clear hbk
   go_wp2
   have hx := ash_blk HBK.out (.string ⟨#[]⟩) (.bool false) (.bool false) (.bool false) (.bool false) (.bool false) (.bool false) (.int .i64 0)
   have hb := ash_low hbl (Nat.le_refl _) (.string ⟨#[]⟩) (.bool false) (.bool false) (.bool false) (.bool false) (.bool false) (.bool false) (.int .i64 0)
   have hr : res = noAsh := HRES.out.symm.trans (ashIn_not (l := ashL) fun s hs => by
    obtain ⟨j, hj, e⟩ := List.getElem_of_mem hs
    rw [← e]; exact HNO.out j hj (Nat.le_refl _))
   subst hr
   exact ret_row w.heap.size 4 _ 97 rfl rfl hx Tryd.underlying97 (by kernel_rfl) ⟨rfl, hb⟩
end Go.Proofs.YtimccbilkjjakaaDoor
