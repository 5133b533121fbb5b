/-
  Our own: package show: ops as text; every expression.
-/
import Derived.Test.YtcebpmaggnephabDoorShowEx
namespace Go.Proofs.YtcebpmaggnephabDoor
open Go.RowKit

set_option maxRecDepth 100000 in
set_option maxHeartbeats 1000000 in
theorem expr_one (m : List UInt8) (x : Ex) (hm : m = [45] ∨ m = [33]) (hp : PE x) (ih : ExOk x) : ExOk (.mk kOne 0 m [x]) := by
  intro w a B b k l cs hW hG hB hr hl
  obtain ⟨vv, xs, rfl, hrow, hes⟩ := hr
  obtain ⟨ad, cap, rfl, hx⟩ := hrow
  obtain ⟨g, rfl, ⟨hg, _⟩, hc⟩ := hx (by simp)
  obtain ⟨ca, e1, e2⟩ := repEs_at (q := 0) hes (by simp)
  rw [textE_one] at hl ⊢
  simp only [List.length_append] at hl
  have hb0 := box_blkS w #[.string ⟨kOne.toArray⟩, .int .i64 0, .string ⟨m.toArray⟩, .slice (some ⟨g, 0, none⟩) 1 cap] 55
  have hi := isOne_any (hG.on (below_le hb0 hB)) (Nat.le_trans hB hb0.size) kOne 0 m (some ⟨g, 0, none⟩) 1 cap
  rw [show oneB kOne m 1 = true by unfold oneB; simp [hm]] at hi
  have hs : ∀ X, Below w.heap.size w X → Calls Tryd.prog 41 #[.pointer (some ⟨b, 0, none⟩), .string ⟨m.toArray⟩] X fun e w' => e = .returned (.tuple #[.int .i64 (⟨m.toArray⟩ : ByteArray).size, .nilIface]) ∧ WTo B b k (l ++ m) X w' := fun X hX => wwstr_any B b k l ⟨m.toArray⟩ X (hW.keep hX) (by omega) (by rw [size_toArray]; omega) (by rcases hm with h | h <;> simp [h]) (Nat.le_trans hB hX.size)
  have hk : ∀ X l', Below B w X → Wr B b k l' X → l'.length + (textK x 9).length ≤ 1000000 → Calls Tryd.prog 58 #[.pointer (some ⟨b, 0, none⟩), .agg ca.toArray, .int .i64 9223372036854775807] X fun ev w' => ev = .returned (.tuple #[]) ∧ WTo B b k (l' ++ textK x 9) X w' := fun X l' hX hWX hl' =>
    kid_any hp ih (Nat.le_refl 9) (fun y hy => ⟨fun h => by omega, fun h => by omega⟩) hWX (hG.on hX) (Nat.le_trans hB hX.size) (repE_keep e1 hX) hl'
  have hbne : w.heap.size ≠ b := fun e => by have := hW.lt.2; omega
  obtain ⟨xk, xn, xm, xks⟩ := x
  obtain ⟨v1, x1, rfl, r1, _⟩ := e1
  obtain ⟨ad1, cap1, rfl, _⟩ := r1
  have c0 := hc _ _ (e2 0 _ rfl)
  have c1 := hc _ _ (e2 1 _ rfl)
  have c2 := hc _ _ (e2 2 _ rfl)
  have c3 := hc _ _ (e2 3 _ rfl)
  simp only [Nat.zero_mul, Nat.zero_add] at c0 c1 c2 c3
  have hcell : ∀ X, Below B w X → ∀ i u, w.cell? ⟨g, i, none⟩ = some u → X.cell? ⟨g, i, none⟩ = some u := fun X hX i u hu => (hX.cell (p := ⟨g, i, none⟩) hg).trans hu
  have C0 := hidS c0
  have C1 := hidS c1
  have C2 := hidS c2
  have C3 := hidS c3
  have HCE := hidS hcell
  have HS := hidS hs
  have HK := hidS hk
  have HI := hidS hi
  have HL := hidS hl
  clear hs hk hi hW hG hl hx hes ih hp e2 hc c0 c1 c2 c3 hcell hm
  unfold kOne at hb0 HI ⊢
  go_enter Tryd.func38, Tryd.ntmps38
  go_wp2_with fail
  refine HI.out.mono ?_
  rintro e w1 ⟨rfl, hb1⟩
  have hb01 : Below w.heap.size w w1 := bl_trans hb0 hb0.size hb1
  have bk : w1.heap[w.heap.size]? = some (.cells #[.string ⟨#[111, 110, 101]⟩, .int .i64 0, .string ⟨m.toArray⟩, .slice (some ⟨g, 0, none⟩) 1 cap] 55 (0, 0)) := (hb1.block _ (by simp)).trans (heap_alloc_new _ _)
  have d2 : w1.cell? ⟨w.heap.size, 2, none⟩ = some (.string ⟨m.toArray⟩) := cell_of_blk bk 2
  have BK := hidS bk
  clear hb1 HI bk
  go_wp2
  go_region_with (go_at_call 41; refine (HS.out _ (hb01.drew)).mono ?_; rintro e w2 ⟨rfl, hw2⟩)
  all_goals (
    have bk2 := hw2.blk (g := w.heap.size) (t := 55) BK.out hbne (by decide)
    have f3 : w2.cell? ⟨w.heap.size, 3, none⟩ = some (.slice (some ⟨g, 0, none⟩) 1 cap) := cell_of_blk bk2 3
    have HW2 := hidS (WTo.after (w := w) hb01.drew hB hw2)
    have c0 := HCE.out _ HW2.out.2.1 _ _ C0.out
    have c1 := HCE.out _ HW2.out.2.1 _ _ C1.out
    have c2 := HCE.out _ HW2.out.2.1 _ _ C2.out
    have c3 := HCE.out _ HW2.out.2.1 _ _ C3.out
    clear hw2 bk2 d2
    go_wp2_with fail
    refine (HK.out _ (l ++ m) HW2.out.2.1 HW2.out.1 (by have := HL.out; simp only [List.length_append]; omega)).mono ?_
    rintro e w3 ⟨rfl, hw3⟩
    have HF := hidS (HW2.out.trans hw3)
    clear hw3 f3 c0 c1 c2 c3
    go_wp2
    go_end0
    exact ⟨rfl, by simpa using HF.out⟩)
/-- Two strings, one behind the other. -/
theorem cat_any (a b : ByteArray) (h : a.size + b.size ≤ 9223372036854775807) : ∃ s : ByteArray, (∀ W, (Op.stringOp .add a b).run Tryd.prog W = .ok (.string s) W) ∧ s.data.toList = a.data.toList ++ b.data.toList ∧ s.size = a.size + b.size :=
  ⟨a ++ b, fun W => run_string_add_sum W a b h, by simp, by simp⟩
set_option maxRecDepth 100000 in
set_option maxHeartbeats 1000000 in
theorem expr_two (m : List UInt8) (x y : Ex) (hm : 1 ≤ signLevel m) (hp : PE x) (hq : PE y) (ih : ExOk x) (jh : ExOk y) : ExOk (.mk kTwo 0 m [x, y]) := by
  intro w a B b k l cs hW hG hB hr hl
  obtain ⟨vv, xs, rfl, hrow, hes⟩ := hr
  obtain ⟨ad, cap, rfl, hx⟩ := hrow
  obtain ⟨g, rfl, ⟨hg, _⟩, hc⟩ := hx (by simp)
  obtain ⟨ca, e1, e2⟩ := repEs_at (q := 0) hes (by simp)
  obtain ⟨cb, e3, e4⟩ := repEs_at (q := 1) hes (by simp)
  have hlv := signLevel_le m
  rw [textE_two] at hl ⊢
  simp only [List.length_append, List.length_cons, List.length_nil] at hl
  have hb0 := box_blkS w #[.string ⟨kTwo.toArray⟩, .int .i64 0, .string ⟨m.toArray⟩, .slice (some ⟨g, 0, none⟩) 2 cap] 55
  have hi1 := isOne_any (hG.on (below_le hb0 hB)) (Nat.le_trans hB hb0.size) kTwo 0 m (some ⟨g, 0, none⟩) 2 cap
  rw [show oneB kTwo m 2 = false by unfold oneB; simp] at hi1
  have hi2 : ∀ X, Below w.heap.size w X → _ := fun X hX => isTwo_any (hG.on (below_le hX hB)) (Nat.le_trans hB hX.size) kTwo 0 m (some ⟨g, 0, none⟩) 2 cap
  rw [show twoB kTwo m 2 = true from decide_eq_true ⟨rfl, hm, rfl⟩] at hi2
  have hs : ∀ X l' (t : ByteArray), Wr B b k l' X → B ≤ X.heap.size → l'.length ≤ 1000000 → t.data.toList = 32 :: (m ++ [32]) → Calls Tryd.prog 41 #[.pointer (some ⟨b, 0, none⟩), .string t] X fun e w' => e = .returned (.tuple #[.int .i64 t.size, .nilIface]) ∧ WTo B b k (l' ++ 32 :: (m ++ [32])) X w' := fun X l' t hX hBX hl' ht => by
    have := wwstr_any B b k l' t X hX hl' (by have : t.size = t.data.toList.length := by show t.data.size = _; rw [Array.length_toList]
                                              rw [this, ht]; simp; omega) (by rw [ht]; simp) hBX
    rwa [ht] at this
  have hk1 : ∀ X l', Below B w X → Wr B b k l' X → l'.length + (textK x (signLevel m)).length ≤ 1000000 → Calls Tryd.prog 58 #[.pointer (some ⟨b, 0, none⟩), .agg ca.toArray, .int .i64 (signLevel m : Nat)] X fun ev w' => ev = .returned (.tuple #[]) ∧ WTo B b k (l' ++ textK x (signLevel m)) X w' := fun X l' hX hWX hl' =>
    kid_any hp ih (by omega) (fun y hy => ⟨fun h => by omega, fun h => by omega⟩) hWX (hG.on hX) (Nat.le_trans hB hX.size) (repE_keep e1 hX) hl'
  have hk2 : ∀ X l', Below B w X → Wr B b k l' X → l'.length + (textK y (signLevel m + 1)).length ≤ 1000000 → Calls Tryd.prog 58 #[.pointer (some ⟨b, 0, none⟩), .agg cb.toArray, .int .i64 ((signLevel m : Nat) + 1)] X fun ev w' => ev = .returned (.tuple #[]) ∧ WTo B b k (l' ++ textK y (signLevel m + 1)) X w' := fun X l' hX hWX hl' =>
    kid_any hq jh (by omega) (fun y hy => ⟨fun h => by omega, fun h => by omega⟩) hWX (hG.on hX) (Nat.le_trans hB hX.size) (repE_keep e3 hX) hl'
  have hbne : w.heap.size ≠ b := fun e => by have := hW.lt.2; omega
  have h1sp : (⟨#[32]⟩ : ByteArray).size = 1 := rfl
  have hsm := size_toArray m
  obtain ⟨s1, hs1, hs2, hs3⟩ := cat_any ⟨#[32]⟩ ⟨m.toArray⟩ (by rw [h1sp, hsm]; omega)
  obtain ⟨s2, ht3, ht4, _⟩ := cat_any s1 ⟨#[32]⟩ (by rw [hs3, h1sp, hsm]; omega)
  have hS2 : s2.data.toList = 32 :: (m ++ [32]) := by rw [ht4, hs2]; simp
  have HS2 := hidS hS2
  clear hs2 hs3 ht4 hS2 h1sp hsm
  generalize ht1 : textK x (signLevel m) = t1 at hl hk1 ⊢
  generalize ht2 : textK y (signLevel m + 1) = t2 at hl hk2 ⊢
  obtain ⟨xk, xn, xm, xks⟩ := x
  obtain ⟨v1, x1, rfl, r1, _⟩ := e1
  obtain ⟨ad1, cap1, rfl, _⟩ := r1
  obtain ⟨yk, yn, ym, yks⟩ := y
  obtain ⟨v2, x2, rfl, r2, _⟩ := e3
  obtain ⟨ad2, cap2, rfl, _⟩ := r2
  have c0 := hc _ _ (e2 0 _ rfl)
  have c1 := hc _ _ (e2 1 _ rfl)
  have c2 := hc _ _ (e2 2 _ rfl)
  have c3 := hc _ _ (e2 3 _ rfl)
  have c4 := hc _ _ (e4 0 _ rfl)
  have c5 := hc _ _ (e4 1 _ rfl)
  have c6 := hc _ _ (e4 2 _ rfl)
  have c7 := hc _ _ (e4 3 _ rfl)
  simp only [Nat.zero_mul, Nat.zero_add, Nat.one_mul, Nat.add_zero, Nat.reduceAdd] at c0 c1 c2 c3 c4 c5 c6 c7
  have hcell : ∀ X, Below B w X → ∀ i u, w.cell? ⟨g, i, none⟩ = some u → X.cell? ⟨g, i, none⟩ = some u := fun X hX i u hu => (hX.cell (p := ⟨g, i, none⟩) hg).trans hu
  have C0 := hidS c0
  have C1 := hidS c1
  have C2 := hidS c2
  have C3 := hidS c3
  have C4 := hidS c4
  have C5 := hidS c5
  have C6 := hidS c6
  have C7 := hidS c7
  have HCE := hidS hcell
  have HS := hidS hs
  have HK1 := hidS hk1
  have HK2 := hidS hk2
  have HI1 := hidS hi1
  have HI2 := hidS hi2
  have HL := hidS hl
  have HW := hidS hW
  clear hs hk1 hk2 hi1 hi2 hW hG hl hx hes ih jh hp hq e2 e4 hc c0 c1 c2 c3 c4 c5 c6 c7 hcell ht1 ht2
  unfold kTwo at hb0 HI1 HI2 ⊢
  go_enter Tryd.func38, Tryd.ntmps38
  go_wp2_with fail
  refine HI1.out.mono ?_
  rintro e w1 ⟨rfl, hb1⟩
  have hb01 : Below w.heap.size w w1 := bl_trans hb0 hb0.size hb1
  have bk : w1.heap[w.heap.size]? = some (.cells #[.string ⟨#[116, 119, 111]⟩, .int .i64 0, .string ⟨m.toArray⟩, .slice (some ⟨g, 0, none⟩) 2 cap] 55 (0, 0)) := (hb1.block _ (by simp)).trans (heap_alloc_new _ _)
  have d0 : w1.cell? ⟨w.heap.size, 0, none⟩ = some (.string ⟨#[116, 119, 111]⟩) := cell_of_blk bk 0
  have d1 : w1.cell? ⟨w.heap.size, 1, none⟩ = some (.int .i64 0) := cell_of_blk bk 1
  have d2 : w1.cell? ⟨w.heap.size, 2, none⟩ = some (.string ⟨m.toArray⟩) := cell_of_blk bk 2
  have d3 : w1.cell? ⟨w.heap.size, 3, none⟩ = some (.slice (some ⟨g, 0, none⟩) 2 cap) := cell_of_blk bk 3
  clear hb1 HI1
  go_wp2_with fail
  refine (HI2.out _ hb01).mono ?_
  rintro e w2 ⟨rfl, hb2⟩
  have hb02 : Below w.heap.size w w2 := bl_trans hb01 hb01.size hb2
  have bk2 : w2.heap[w.heap.size]? = some (.cells #[.string ⟨#[116, 119, 111]⟩, .int .i64 0, .string ⟨m.toArray⟩, .slice (some ⟨g, 0, none⟩) 2 cap] 55 (0, 0)) := (hb2.block _ (heap_lt bk)).trans bk
  clear d0 d1 d2 d3 bk hb2 HI2
  have d2 : w2.cell? ⟨w.heap.size, 2, none⟩ = some (.string ⟨m.toArray⟩) := cell_of_blk bk2 2
  have d3 : w2.cell? ⟨w.heap.size, 3, none⟩ = some (.slice (some ⟨g, 0, none⟩) 2 cap) := cell_of_blk bk2 3
  have hbB := hb02.mono hB
  have c0 := HCE.out _ hbB _ _ C0.out
  have c1 := HCE.out _ hbB _ _ C1.out
  have c2 := HCE.out _ hbB _ _ C2.out
  have c3 := HCE.out _ hbB _ _ C3.out
  go_wp2_with fail
  refine (slevel_any m _).mono ?_
  rintro e w2' ⟨rfl, rfl⟩
  go_wp2_with fail
  refine (HK1.out _ l hbB (HW.out.keep hb02) (by have := HL.out; omega)).mono ?_
  rintro e w3 ⟨rfl, hw3⟩
  have bk3 := hw3.blk bk2 hbne (by decide)
  have HW3 := hidS (WTo.after hb02 hB hw3)
  clear d2 d3 c0 c1 c2 c3 hw3 bk2
  have d2 : w3.cell? ⟨w.heap.size, 2, none⟩ = some (.string ⟨m.toArray⟩) := cell_of_blk bk3 2
  have BK3 := hidS bk3
  clear bk3
  have z3 : B ≤ w3.heap.size := Nat.le_trans hB HW3.out.2.1.size
  go_wp2
  go_region_with (go_at_call 41; refine (HS.out _ (l ++ t1) _ (HW3.out.1.keep ((Below.refl _ _).drew)) z3 (by have := HL.out; simp only [List.length_append]; omega) HS2.out).mono ?_; rintro e w4 ⟨rfl, hw4⟩)
  all_goals (
    have bk4 := hw4.blk (g := w.heap.size) (t := 55) BK3.out hbne (by decide)
    have f3 : w4.cell? ⟨w.heap.size, 3, none⟩ = some (.slice (some ⟨g, 0, none⟩) 2 cap) := cell_of_blk bk4 3
    have HW4 := hidS (HW3.out.trans (WTo.after ((Below.refl _ _).drew) z3 hw4))
    have c4 := HCE.out _ HW4.out.2.1 _ _ C4.out
    have c5 := HCE.out _ HW4.out.2.1 _ _ C5.out
    have c6 := HCE.out _ HW4.out.2.1 _ _ C6.out
    have c7 := HCE.out _ HW4.out.2.1 _ _ C7.out
    clear hw4 bk4 d2
    go_wp2_with fail
    refine (HK2.out _ _ HW4.out.2.1 HW4.out.1 (by have := HL.out; simp only [List.length_append, List.length_cons, List.length_nil]; omega)).mono ?_
    rintro e w5 ⟨rfl, hw5⟩
    have HF := hidS (HW4.out.trans hw5)
    clear hw5 f3 c4 c5 c6 c7
    go_wp2
    go_end0
    exact ⟨rfl, by simpa using HF.out⟩)
mutual
theorem expr_all : ∀ (e : Ex), PE e → ExOk e
  | .mk k n m ks, hp => by
    have hl := exprs_all ks hp.2
    rcases hp.cases with ⟨v, hv, he⟩ | ⟨m', hm, he⟩ | ⟨m', ks', hm, _, he⟩ | ⟨m', a, hm, ha, he⟩ | ⟨m', a, b, hm, ha, hb, he⟩
    all_goals
      injection he with e1 e2 e3 e4
      subst e1; subst e2; subst e3; subst e4
    · exact expr_num v hv
    · exact expr_name _ hm
    · exact expr_call _ _ hm hl
    · exact expr_one _ _ hm ha (hl _ (by simp))
    · exact expr_two _ _ _ hm ha hb (hl _ (by simp)) (hl _ (by simp))
theorem exprs_all : ∀ (l : List Ex), PEs l → ∀ e ∈ l, ExOk e
  | [], _, _, h => absurd h (by simp)
  | x :: r, hp, s, h => by
    rcases List.mem_cons.1 h with h | h
    · rw [h]; exact expr_all x hp.1
    · exact exprs_all r hp.2 s h
end
end Go.Proofs.YtcebpmaggnephabDoor
