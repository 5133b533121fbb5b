/- Our own: texts joined: PlTab. -/
import Derived.Test.YtmckajgacfjnhaaGreatDoorQPlMR
import Derived.Test.YtmckajgacfjnhaaGreatDoorQRets
namespace Go.Proofs.YtmckajgacfjnhaaGreatDoor
open Go.RowKit
def pshC (s : Psh) : List Value := [.string ⟨s.kind.toArray⟩, .int .i64 s.args, .bool s.d, .bool s.num, .bool s.name]
abbrev pshV (s : Psh) : Value := .agg #[.string ⟨s.kind.toArray⟩, .int .i64 s.args, .bool s.d, .bool s.num, .bool s.name]
def pshT : List Value := pshL.flatMap pshC
structure TabP (w : World) : Prop where
 tab : ∃ t, w.heap[12]? = some (.cells pshT.toArray t (0, 0))
theorem TabP.below {w w' : World} (h : TabP w) (hb : Below w.heap.size w w') : TabP w' := by
 obtain ⟨t, ht⟩ := h.tab
 exact ⟨t, (hb.block _ (heap_lt ht)).trans ht⟩
theorem psh_0 (w : World) : (Instr.index 158 (.agg pshT.toArray) (.int .i64 0)).run Tryz.prog w = .ok (pshV (pshL[0]'(by decide))) w := by kernel_rfl
theorem psh_1 (w : World) : (Instr.index 158 (.agg pshT.toArray) (.int .i64 1)).run Tryz.prog w = .ok (pshV (pshL[1]'(by decide))) w := by kernel_rfl
theorem psh_2 (w : World) : (Instr.index 158 (.agg pshT.toArray) (.int .i64 2)).run Tryz.prog w = .ok (pshV (pshL[2]'(by decide))) w := by kernel_rfl
theorem psh_3 (w : World) : (Instr.index 158 (.agg pshT.toArray) (.int .i64 3)).run Tryz.prog w = .ok (pshV (pshL[3]'(by decide))) w := by kernel_rfl
theorem psh_4 (w : World) : (Instr.index 158 (.agg pshT.toArray) (.int .i64 4)).run Tryz.prog w = .ok (pshV (pshL[4]'(by decide))) w := by kernel_rfl
theorem psh_5 (w : World) : (Instr.index 158 (.agg pshT.toArray) (.int .i64 5)).run Tryz.prog w = .ok (pshV (pshL[5]'(by decide))) w := by kernel_rfl
theorem psh_6 (w : World) : (Instr.index 158 (.agg pshT.toArray) (.int .i64 6)).run Tryz.prog w = .ok (pshV (pshL[6]'(by decide))) w := by kernel_rfl
theorem psh_index (i : Nat) (hi : i < pshL.length) (w : World) : (Instr.index 158 (.agg pshT.toArray) (.int .i64 i)).run Tryz.prog w = .ok (pshV pshL[i]) w := by
 have h14 : i < 7 := hi
 rcases (by omega : i = 0 ∨ i = 1 ∨ i = 2 ∨ i = 3 ∨ i = 4 ∨ i = 5 ∨ i = 6) with rfl | rfl | rfl | rfl | rfl | rfl | rfl
 ·exact psh_0 w
 ·exact psh_1 w
 ·exact psh_2 w
 ·exact psh_3 w
 ·exact psh_4 w
 ·exact psh_5 w
 ·exact psh_6 w
theorem psh_blk {w : World} {r : Nat} {x0 x1 x2 x3 x4 : Value} {t : TypeId} (h : w.heap[r]? = some (.cells #[x0, x1, x2, x3, x4] t (0, 0))) (u0 u1 u2 u3 u4 : Value) :
  (((((w.setCell ⟨r, 0, none⟩ (u0)).setCell ⟨r, 1, none⟩ (u1)).setCell ⟨r, 2, none⟩ (u2)).setCell ⟨r, 3, none⟩ (u3)).setCell ⟨r, 4, none⟩ (u4)).heap[r]? = some (.cells #[u0, u1, u2, u3, u4] t (0, 0)) := by
 have := blk_setCell (blk_setCell (blk_setCell (blk_setCell (blk_setCell h 0 u0) 1 u1) 2 u2) 3 u3) 4 u4
 simpa using this
theorem psh_low {B : Nat} {a w : World} {r : Nat} (h : Below B a w) (hr : B ≤ r) (u0 u1 u2 u3 u4 : Value) : Below B a (((((w.setCell ⟨r, 0, none⟩ (u0)).setCell ⟨r, 1, none⟩ (u1)).setCell ⟨r, 2, none⟩ (u2)).setCell ⟨r, 3, none⟩ (u3)).setCell ⟨r, 4, none⟩ (u4)) :=
 ((((h.setCell hr _).setCell hr _).setCell hr _).setCell hr _).setCell hr _
theorem psh_size {w : World} {r : Nat} {u0 u1 u2 u3 u4 : Value} : (((((w.setCell ⟨r, 0, none⟩ (u0)).setCell ⟨r, 1, none⟩ (u1)).setCell ⟨r, 2, none⟩ (u2)).setCell ⟨r, 3, none⟩ (u3)).setCell ⟨r, 4, none⟩ (u4)).heap.size = w.heap.size := by simp [World.setCell]
theorem pshIn_not {k : List UInt8} : ∀ {l : List Psh}, (∀ s ∈ l, s.kind ≠ k) → pshIn l k = ⟨[], 0, false, false, false⟩
 | [], _ => rfl
 | s :: r, h => by rw [pshIn, if_neg (h s (by simp)), pshIn_not fun t ht => h t (by simp [ht])]
theorem pshIn_at {k : List UInt8} : ∀ {l : List Psh} {q : Nat} (hq : q < l.length), (∀ j (hj : j < q), (l[j]'(by omega)).kind ≠ k) → l[q].kind = k → pshIn l k = l[q]
 | [], _, hq, _, _ => absurd hq (by simp)
 | s :: r, 0, _, _, h => by
  have h' : s.kind = k := h
  rw [pshIn, if_pos h']; rfl
 | s :: r, q + 1, hq, h, h' => by
  have h0 : s.kind ≠ k := h 0 (by omega)
  rw [pshIn, if_neg h0]
  exact pshIn_at (by simpa using hq) (fun j hj => h (j + 1) (by omega)) h'
set_option maxRecDepth 100000 in
set_option maxHeartbeats 1000000 in
theorem shapeOf_any (k : List UInt8) (w : World) (hT : TabP w) : Calls Tryz.prog 55 #[.string ⟨k.toArray⟩] w fun e w' => e = .returned (pshV (psh k)) ∧ Below w.heap.size w w' := by
 obtain ⟨t, ht⟩ := hT.tab
 have hlt := heap_lt ht
 have hb0 := box_blk w #[.string ⟨#[]⟩, .int .i64 0, .bool false, .bool false, .bool false] 124
 have ht1 := (hb0.block _ hlt).trans ht
 have hix := fun i hi => psh_index i hi
 have hsz : (Tryz.prog.info? 158).map (·.size) = some pshT.toArray.size := by kernel_rfl
 generalize htb : pshT.toArray = tb at ht1 hix hsz
 generalize hres : psh k = res
 have HRES := hidX hres
 have HIX := hidX hix
 clear htb ht hres hix hT
 go_enter Tryz.func55, Tryz.ntmps55
 go_wp2_with (first | (refine wpList_load_row rfl _ _ rfl 12 rfl t tb (0, 0) _ ht1 Tryz.underlying158 rfl hsz ?_) | fail)
 go_loopw [6] (fun vi wr => ∃ q : Nat, q ≤ 7 ∧ vi = .int .i64 q ∧ Below w.heap.size w wr ∧ w.heap.size < wr.heap.size ∧ wr.heap[w.heap.size]? = some (.cells #[.string ⟨#[]⟩, .int .i64 0, .bool false, .bool false, .bool false] 124 (0, 0)) ∧ Hid (∀ j (hj : j < q) (hq : q ≤ pshL.length), (pshL[j]'(by omega)).kind ≠ k)) (fun vi _ => 7 - (intOf vi).toNat)
 case atStart => exact ⟨0, by omega, rfl, hb0, by simp, heap_alloc_new _ _, fun j hj => absurd hj (by omega)⟩
 case round =>
  obtain ⟨q, hq, rfl, hbl, hz, hbk, HNO⟩ := hrel
  have f0 := free_of_blk hbk 0
  have c0 := cell_of_blk hbk 0
  have f1 := free_of_blk hbk 1
  have c1 := cell_of_blk hbk 1
  have f2 := free_of_blk hbk 2
  have c2 := cell_of_blk hbk 2
  have f3 := free_of_blk hbk 3
  have c3 := cell_of_blk hbk 3
  have f4 := free_of_blk hbk 4
  have c4 := cell_of_blk hbk 4
  have HBK := hidX hbk
  by_cases hlt' : q < 7
  ·have hqi : (q : Int) < 7 := by omega
   have hi1 := HIX.out q hlt'
   have hk := fun (h : pshL[q].kind = k) => pshIn_at (l := pshL) (q := q) hlt' (fun j hj => HNO.out j hj (Nat.le_of_lt hlt')) h
   have hno2 := fun (h : pshL[q].kind ≠ k) (j : Nat) (hj : j < q + 1) (hq : q + 1 ≤ pshL.length) => show (pshL[j]'(by omega)).kind ≠ k from by
    by_cases e : j = q
    ·subst e; exact h
    ·exact HNO.out j (by omega) (by omega)
   generalize pshL[q] = s at hi1 hk hno2
   have HK := hidX hk
   have HN2 := hidX hno2
   clear hk hno2 hbk
   by_cases e : s.kind = k
   ·have e' : (s.kind == k) = true := by simpa using e
    have HE := hidX (HRES.out.symm.trans (HK.out e))
    clear e HK HN2
    go_wp2
    have hx := psh_blk HBK.out (.string ⟨s.kind.toArray⟩) (.int .i64 s.args) (.bool s.d) (.bool s.num) (.bool s.name)
    have hb := psh_low hbl (Nat.le_refl _) (.string ⟨s.kind.toArray⟩) (.int .i64 s.args) (.bool s.d) (.bool s.num) (.bool s.name)
    have hsz2 := psh_size (w := wr) (r := w.heap.size) (u0 := .string ⟨s.kind.toArray⟩) (u1 := .int .i64 s.args) (u2 := .bool s.d) (u3 := .bool s.num) (u4 := .bool s.name)
    generalize ((((wr.setCell ⟨w.heap.size, 0, none⟩ (.string ⟨s.kind.toArray⟩)).setCell ⟨w.heap.size, 1, none⟩ (.int .i64 s.args)).setCell ⟨w.heap.size, 2, none⟩ (.bool s.d)).setCell ⟨w.heap.size, 3, none⟩ (.bool s.num)).setCell ⟨w.heap.size, 4, none⟩ (.bool s.name) = W at hx hb hsz2 ⊢
    refine ret_row w.heap.size 2 _ 124 rfl rfl ((Below.heap_alloc W _ _ (by omega)).trans hx) Tryz.underlying124 (by kernel_rfl) ⟨by rw [HE.out], hb.alloc (by omega) _⟩
   ·have e' : (s.kind == k) = false := by simpa using e
    have HN := hidX (HN2.out e)
    clear HK HN2 e
    go_wp2
    go_roundw
    case rel => exact ⟨q + 1, by omega, by go_num, hbl.alloc (by omega) _, by simp; omega, (Below.heap_alloc _ _ _ hz).trans HBK.out, HN.out⟩
    case measure => simp [intOf]; omega
  ·have hq14 : q = 7 := by omega
   subst hq14
   clear hbk
   go_wp2
   have hx := psh_blk HBK.out (.string ⟨#[]⟩) (.int .i64 0) (.bool false) (.bool false) (.bool false)
   have hb := psh_low hbl (Nat.le_refl _) (.string ⟨#[]⟩) (.int .i64 0) (.bool false) (.bool false) (.bool false)
   have hr : res = ⟨[], 0, false, false, false⟩ := HRES.out.symm.trans (pshIn_not (l := pshL) fun s hs => by
    obtain ⟨j, hj, e⟩ := List.getElem_of_mem hs
    rw [← e]; exact HNO.out j hj (Nat.le_refl _))
   subst hr
   exact ret_row w.heap.size 2 _ 124 rfl rfl hx Tryz.underlying124 (by kernel_rfl) ⟨rfl, hb⟩
def penC (s : Pen) : List Value := [.string ⟨s.kind.toArray⟩, .int .i64 (s.ways : Int), .bool s.v]
abbrev penV (s : Pen) : Value := .agg #[.string ⟨s.kind.toArray⟩, .int .i64 (s.ways : Int), .bool s.v]
def penT : List Value := penL.flatMap penC
structure TabE (w : World) : Prop where
 tab : ∃ t, w.heap[11]? = some (.cells penT.toArray t (0, 0))
theorem TabE.below {w w' : World} (h : TabE w) (hb : Below w.heap.size w w') : TabE w' := by
 obtain ⟨t, ht⟩ := h.tab
 exact ⟨t, (hb.block _ (heap_lt ht)).trans ht⟩
theorem pen_0 (w : World) : (Instr.index 157 (.agg penT.toArray) (.int .i64 0)).run Tryz.prog w = .ok (penV (penL[0]'(by decide))) w := by kernel_rfl
theorem pen_1 (w : World) : (Instr.index 157 (.agg penT.toArray) (.int .i64 1)).run Tryz.prog w = .ok (penV (penL[1]'(by decide))) w := by kernel_rfl
theorem pen_2 (w : World) : (Instr.index 157 (.agg penT.toArray) (.int .i64 2)).run Tryz.prog w = .ok (penV (penL[2]'(by decide))) w := by kernel_rfl
theorem pen_index (i : Nat) (hi : i < penL.length) (w : World) : (Instr.index 157 (.agg penT.toArray) (.int .i64 i)).run Tryz.prog w = .ok (penV penL[i]) w := by
 have h14 : i < 3 := hi
 rcases (by omega : i = 0 ∨ i = 1 ∨ i = 2) with rfl | rfl | rfl
 ·exact pen_0 w
 ·exact pen_1 w
 ·exact pen_2 w
theorem pen_blk {w : World} {r : Nat} {x0 x1 x2 : Value} {t : TypeId} (h : w.heap[r]? = some (.cells #[x0, x1, x2] t (0, 0))) (u0 u1 u2 : Value) :
  (((w.setCell ⟨r, 0, none⟩ (u0)).setCell ⟨r, 1, none⟩ (u1)).setCell ⟨r, 2, none⟩ (u2)).heap[r]? = some (.cells #[u0, u1, u2] t (0, 0)) := by
 have := blk_setCell (blk_setCell (blk_setCell h 0 u0) 1 u1) 2 u2
 simpa using this
theorem pen_low {B : Nat} {a w : World} {r : Nat} (h : Below B a w) (hr : B ≤ r) (u0 u1 u2 : Value) : Below B a (((w.setCell ⟨r, 0, none⟩ (u0)).setCell ⟨r, 1, none⟩ (u1)).setCell ⟨r, 2, none⟩ (u2)) :=
 ((h.setCell hr _).setCell hr _).setCell hr _
theorem pen_size {w : World} {r : Nat} {u0 u1 u2 : Value} : (((w.setCell ⟨r, 0, none⟩ (u0)).setCell ⟨r, 1, none⟩ (u1)).setCell ⟨r, 2, none⟩ (u2)).heap.size = w.heap.size := by simp [World.setCell]
theorem penIn_not {k : List UInt8} : ∀ {l : List Pen}, (∀ s ∈ l, s.kind ≠ k) → penIn l k = ⟨[], 0, false⟩
 | [], _ => rfl
 | s :: r, h => by rw [penIn, if_neg (h s (by simp)), penIn_not fun t ht => h t (by simp [ht])]
theorem penIn_at {k : List UInt8} : ∀ {l : List Pen} {q : Nat} (hq : q < l.length), (∀ j (hj : j < q), (l[j]'(by omega)).kind ≠ k) → l[q].kind = k → penIn l k = l[q]
 | [], _, hq, _, _ => absurd hq (by simp)
 | s :: r, 0, _, _, h => by
  have h' : s.kind = k := h
  rw [penIn, if_pos h']; rfl
 | s :: r, q + 1, hq, h, h' => by
  have h0 : s.kind ≠ k := h 0 (by omega)
  rw [penIn, if_neg h0]
  exact penIn_at (by simpa using hq) (fun j hj => h (j + 1) (by omega)) h'
set_option maxRecDepth 100000 in
set_option maxHeartbeats 1000000 in
theorem endingOf_any (k : List UInt8) (w : World) (hT : TabE w) : Calls Tryz.prog 52 #[.string ⟨k.toArray⟩] w fun e w' => e = .returned (penV (pen k)) ∧ Below w.heap.size w w' := by
 obtain ⟨t, ht⟩ := hT.tab
 have hlt := heap_lt ht
 have hb0 := box_blk w #[.string ⟨#[]⟩, .int .i64 0, .bool false] 120
 have ht1 := (hb0.block _ hlt).trans ht
 have hix := fun i hi => pen_index i hi
 have hsz : (Tryz.prog.info? 157).map (·.size) = some penT.toArray.size := by kernel_rfl
 generalize htb : penT.toArray = tb at ht1 hix hsz
 generalize hres : pen k = res
 have HRES := hidX hres
 have HIX := hidX hix
 clear htb ht hres hix hT
 go_enter Tryz.func52, Tryz.ntmps52
 go_wp2_with (first | (refine wpList_load_row rfl _ _ rfl 11 rfl t tb (0, 0) _ ht1 Tryz.underlying157 rfl hsz ?_) | fail)
 go_loopw [6] (fun vi wr => ∃ q : Nat, q ≤ 3 ∧ vi = .int .i64 q ∧ Below w.heap.size w wr ∧ w.heap.size < wr.heap.size ∧ wr.heap[w.heap.size]? = some (.cells #[.string ⟨#[]⟩, .int .i64 0, .bool false] 120 (0, 0)) ∧ Hid (∀ j (hj : j < q) (hq : q ≤ penL.length), (penL[j]'(by omega)).kind ≠ k)) (fun vi _ => 3 - (intOf vi).toNat)
 case atStart => exact ⟨0, by omega, rfl, hb0, by simp, heap_alloc_new _ _, fun j hj => absurd hj (by omega)⟩
 case round =>
  obtain ⟨q, hq, rfl, hbl, hz, hbk, HNO⟩ := hrel
  have f0 := free_of_blk hbk 0
  have c0 := cell_of_blk hbk 0
  have f1 := free_of_blk hbk 1
  have c1 := cell_of_blk hbk 1
  have f2 := free_of_blk hbk 2
  have c2 := cell_of_blk hbk 2
  have HBK := hidX hbk
  by_cases hlt' : q < 3
  ·have hqi : (q : Int) < 3 := by omega
   have hi1 := HIX.out q hlt'
   have hk := fun (h : penL[q].kind = k) => penIn_at (l := penL) (q := q) hlt' (fun j hj => HNO.out j hj (Nat.le_of_lt hlt')) h
   have hno2 := fun (h : penL[q].kind ≠ k) (j : Nat) (hj : j < q + 1) (hq : q + 1 ≤ penL.length) => show (penL[j]'(by omega)).kind ≠ k from by
    by_cases e : j = q
    ·subst e; exact h
    ·exact HNO.out j (by omega) (by omega)
   generalize penL[q] = s at hi1 hk hno2
   have HK := hidX hk
   have HN2 := hidX hno2
   clear hk hno2 hbk
   by_cases e : s.kind = k
   ·have e' : (s.kind == k) = true := by simpa using e
    have HE := hidX (HRES.out.symm.trans (HK.out e))
    clear e HK HN2
    go_wp2
    have hx := pen_blk HBK.out (.string ⟨s.kind.toArray⟩) (.int .i64 (s.ways : Int)) (.bool s.v)
    have hb := pen_low hbl (Nat.le_refl _) (.string ⟨s.kind.toArray⟩) (.int .i64 (s.ways : Int)) (.bool s.v)
    have hsz2 := pen_size (w := wr) (r := w.heap.size) (u0 := .string ⟨s.kind.toArray⟩) (u1 := .int .i64 (s.ways : Int)) (u2 := .bool s.v)
    generalize ((wr.setCell ⟨w.heap.size, 0, none⟩ (.string ⟨s.kind.toArray⟩)).setCell ⟨w.heap.size, 1, none⟩ (.int .i64 (s.ways : Int))).setCell ⟨w.heap.size, 2, none⟩ (.bool s.v) = W at hx hb hsz2 ⊢
    refine ret_row w.heap.size 2 _ 120 rfl rfl ((Below.heap_alloc W _ _ (by omega)).trans hx) Tryz.underlying120 (by kernel_rfl) ⟨by rw [HE.out], hb.alloc (by omega) _⟩
   ·have e' : (s.kind == k) = false := by simpa using e
    have HN := hidX (HN2.out e)
    clear HK HN2 e
    go_wp2
    go_roundw
    case rel => exact ⟨q + 1, by omega, by go_num, hbl.alloc (by omega) _, by simp; omega, (Below.heap_alloc _ _ _ hz).trans HBK.out, HN.out⟩
    case measure => simp [intOf]; omega
  ·have hq14 : q = 3 := by omega
   subst hq14
   clear hbk
   go_wp2
   have hx := pen_blk HBK.out (.string ⟨#[]⟩) (.int .i64 0) (.bool false)
   have hb := pen_low hbl (Nat.le_refl _) (.string ⟨#[]⟩) (.int .i64 0) (.bool false)
   have hr : res = ⟨[], 0, false⟩ := HRES.out.symm.trans (penIn_not (l := penL) fun s hs => by
    obtain ⟨j, hj, e⟩ := List.getElem_of_mem hs
    rw [← e]; exact HNO.out j hj (Nat.le_refl _))
   subst hr
   exact ret_row w.heap.size 2 _ 120 rfl rfl hx Tryz.underlying120 (by kernel_rfl) ⟨rfl, hb⟩
end Go.Proofs.YtmckajgacfjnhaaGreatDoor
