/-
  Our own: package tree's parser: an expression without an op of two that is not in parentheses.
-/
import Derived.Test.YtcebpmaggnephabDoorTreeNamed
namespace Go.Proofs.YtcebpmaggnephabDoor
open Go.RowKit

theorem EbTo.keep {p n m eb : Nat} {r : Rs Ex} {w w' : World} (h : EbTo n eb r w) (hb : But p w w') (hp : p < eb) (hn : p < n) (hm : m ≤ n) : EbTo m eb r w' := by
  obtain ⟨k, i, x, ad, l, c, h1, h2⟩ := h
  have hk : Kept n w w' := hb.kept hn
  exact ⟨k, i, x, ad, l, c, heap_keep hb h1 (by omega), fun y j hy => RepE.imp (hk.inB hm) hk.keepA _ _ (h2 y j hy)⟩
theorem EbTo.bad {n eb : Nat} {r : Rs Ex} {w : World} {k : ByteArray} {i : Int} {m : ByteArray} {ad : Option Addr} {l c : Nat} (h : w.heap[eb]? = some (.cells #[.string k, .int .i64 i, .string m, .slice ad l c] 55 (0, 0))) (hr : ∀ x j, r ≠ .ok x j) : EbTo n eb r w :=
  ⟨_, _, _, _, _, _, h, fun x j hx => absurd hx (hr x j)⟩
theorem ExTo.rep {T : List Tok} {a : Nat → Addr} {p d rb : Nat} {w : World} {r : Rs Ex} {e : Ending} {w' : World} (h : ExTo T a p d w r e w') (hr : rb < w.heap.size) :
    ∃ k n m ad l c, e = .returned (exA k n m (.slice ad l c)) ∧ (∀ x j, r = .ok x j → RepE (InB (rb + 1) w') w' x [.string k, .int .i64 n, .string m, .slice ad l c]) ∧ PAt T a p d r.st w' ∧ But p w w' := by
  obtain ⟨k, n, m, ad, l, c, h1, h2, h3, h4⟩ := h
  exact ⟨k, n, m, ad, l, c, h1, fun x j hx => RepE.imp (fun b hb => ⟨by have := hb.1; omega, hb.2⟩) (fun _ _ => rfl) _ _ (h2 x j hx), h3, h4⟩
set_option maxRecDepth 100000 in
theorem single_num {T : List Tok} {a : Nat → Addr} {p n d i : Nat} {w : World} (HT : ∀ t ∈ T, t.Good) (h : PAt T a p d (.ok () i) w) (hk : (tk T i).kind = kNum) :
    Calls Tryd.prog 79 #[ptrV p] w (ExTo T a p d w (singleT T (n + 1) d i)) := by
  have hlt := h.lt
  obtain ⟨r, hr⟩ : ∃ r, r = singleT T (n + 1) d i := ⟨_, rfl⟩
  
  rw [← hr]
  obtain ⟨kd, tx, ps, ht⟩ := tok_parts (tk T i)
  have hkd : kd = kNum := by rw [ht] at hk; exact hk
  subst hkd
  have ht0 : nxt T (.ok () i) = ⟨kNum, tx, ps⟩ := ht
  have HT0 := hid ht0
  have HK := hid hk
  have HR := hid hr
  have HG := hid HT
  
  clear hr hk ht ht0 HT
  go_enter Tryd.func79, Tryd.ntmps79
  go_wp2_with fail
  have hb0 : Below w.heap.size w ((w.alloc (.cells #[ptrV p] 58)).alloc (.cells #[.string ⟨#[]⟩, .int .i64 0, .string ⟨#[]⟩, .slice none 0 0] 55)) := by (repeat (first | exact Below.refl _ _ | assumption | refine Below.drew ?_ | refine Below.trans ?_ (drewN_below' _ _ _) | refine Below.setCell ?_ (by first | (simp; done) | (simp; omega)) _ | refine Below.alloc ?_ (by first | (simp; done) | (simp; omega)) _))
  have hx0 : ((w.alloc (.cells #[ptrV p] 58)).alloc (.cells #[.string ⟨#[]⟩, .int .i64 0, .string ⟨#[]⟩, .slice none 0 0] 55)).heap[w.heap.size]? = some (.cells #[ptrV p] 58 (0, 0)) := by
    rw [Below.heap_alloc _ _ _ (by simp)]; exact heap_alloc_new _ _
  have hr0 : ((w.alloc (.cells #[ptrV p] 58)).alloc (.cells #[.string ⟨#[]⟩, .int .i64 0, .string ⟨#[]⟩, .slice none 0 0] 55)).heap[w.heap.size + 1]? = some (.cells #[.string ⟨#[]⟩, .int .i64 0, .string ⟨#[]⟩, .slice none 0 0] 55 (0, 0)) := by
    have := heap_alloc_new (w.alloc (.cells #[ptrV p] 58)) (.cells #[.string ⟨#[]⟩, .int .i64 0, .string ⟨#[]⟩, .slice none 0 0] 55)
    rwa [size_alloc] at this
  have hz0 : ((w.alloc (.cells #[ptrV p] 58)).alloc (.cells #[.string ⟨#[]⟩, .int .i64 0, .string ⟨#[]⟩, .slice none 0 0] 55)).heap.size = w.heap.size + 2 := by rw [size_alloc, size_alloc]
  generalize (w.alloc (.cells #[ptrV p] 58)).alloc (.cells #[.string ⟨#[]⟩, .int .i64 0, .string ⟨#[]⟩, .slice none 0 0] 55) = w0 at hb0 hx0 hr0 hz0 ⊢
  refine (next_any (h.keep hb0)).mono ?_
  rw [HT0.out]
  unfold tokA
  rintro e w1 ⟨rfl, hb1⟩
  have hz1 := hb1.size
  have hx1 := (hb1.block _ (by omega)).trans hx0
  have hr1 := (hb1.block _ (by omega)).trans hr0
  have b1 : Below w.heap.size w w1 := bl_trans hb0 hb0.size hb1
  clear hx0 hr0
  have x1 : w1.cell? ⟨w.heap.size, 0, none⟩ = some (ptrV p) := cell_of_blk hx1 0
  have l1 := heap_lt hx1
  have l2 := heap_lt hr1
  have HX1 := hid hx1
  have HR1 := hid hr1
  clear hx1 hr1
  unfold kNum
  go_wp2_with fail
  rw [show ([110, 117, 109, 98, 101, 114] : List UInt8) = kNum from rfl]
  have b2 : Below w.heap.size w ((w1.alloc (.cells #[.string ⟨kNum.toArray⟩, .string ⟨tx.toArray⟩, .int .i64 ps] 29)).alloc (.cells #[.string ⟨#[]⟩, .int .i64 0, .string ⟨#[]⟩, .slice none 0 0] 55)) := (b1.alloc (by omega) _).alloc (by simp; omega) _
  have hx2 : ((w1.alloc (.cells #[.string ⟨kNum.toArray⟩, .string ⟨tx.toArray⟩, .int .i64 ps] 29)).alloc (.cells #[.string ⟨#[]⟩, .int .i64 0, .string ⟨#[]⟩, .slice none 0 0] 55)).heap[w.heap.size]? = _ := (Below.heap_alloc _ _ _ (by simp; omega)).trans ((Below.heap_alloc _ _ _ (by omega)).trans HX1.out)
  have hr2 : ((w1.alloc (.cells #[.string ⟨kNum.toArray⟩, .string ⟨tx.toArray⟩, .int .i64 ps] 29)).alloc (.cells #[.string ⟨#[]⟩, .int .i64 0, .string ⟨#[]⟩, .slice none 0 0] 55)).heap[w.heap.size + 1]? = _ := (Below.heap_alloc _ _ _ (by simp; omega)).trans ((Below.heap_alloc _ _ _ (by omega)).trans HR1.out)
  have ht2 : ((w1.alloc (.cells #[.string ⟨kNum.toArray⟩, .string ⟨tx.toArray⟩, .int .i64 ps] 29)).alloc (.cells #[.string ⟨#[]⟩, .int .i64 0, .string ⟨#[]⟩, .slice none 0 0] 55)).heap[w1.heap.size]? = some (.cells #[.string ⟨kNum.toArray⟩, .string ⟨tx.toArray⟩, .int .i64 ps] 29 (0, 0)) := (Below.heap_alloc _ _ _ (by simp)).trans (heap_alloc_new _ _)
  have he2 : ((w1.alloc (.cells #[.string ⟨kNum.toArray⟩, .string ⟨tx.toArray⟩, .int .i64 ps] 29)).alloc (.cells #[.string ⟨#[]⟩, .int .i64 0, .string ⟨#[]⟩, .slice none 0 0] 55)).heap[w1.heap.size + 1]? = some (.cells #[.string ⟨#[]⟩, .int .i64 0, .string ⟨#[]⟩, .slice none 0 0] 55 (0, 0)) := by
    have := heap_alloc_new (w1.alloc (.cells #[.string ⟨kNum.toArray⟩, .string ⟨tx.toArray⟩, .int .i64 ps] 29)) (.cells #[.string ⟨#[]⟩, .int .i64 0, .string ⟨#[]⟩, .slice none 0 0] 55)
    rwa [size_alloc] at this
  have hz2 : ((w1.alloc (.cells #[.string ⟨kNum.toArray⟩, .string ⟨tx.toArray⟩, .int .i64 ps] 29)).alloc (.cells #[.string ⟨#[]⟩, .int .i64 0, .string ⟨#[]⟩, .slice none 0 0] 55)).heap.size = w1.heap.size + 2 := by rw [size_alloc, size_alloc]
  generalize (w1.alloc (.cells #[.string ⟨kNum.toArray⟩, .string ⟨tx.toArray⟩, .int .i64 ps] 29)).alloc (.cells #[.string ⟨#[]⟩, .int .i64 0, .string ⟨#[]⟩, .slice none 0 0] 55) = w2 at b2 hx2 hr2 ht2 he2 hz2 ⊢
  have hp2 := h.keep b2
  refine (tnum_any HG.out hp2 HK.out n).mono ?_
  rintro e w3 hx3
  obtain ⟨k, m, x, ad, l, c, rfl, k1, k2, k3⟩ := hx3.rep (rb := w.heap.size + 1) (by omega)
  have hr3 := heap_keep k3 hr2 (by omega)
  have m2 := heap_lt hr3
  have r0 := cell_of_blk hr3 0
  have r1 := cell_of_blk hr3 1
  have r2 := cell_of_blk hr3 2
  have r3 := cell_of_blk hr3 3
  have q0 := free_of_blk hr3 0
  have q1 := free_of_blk hr3 1
  have q2 := free_of_blk hr3 2
  have q3 := free_of_blk hr3 3
  have HR3 := hid hr3
  have K1 := hid k1
  have K2 := hid k2
  clear hr3 k1 k2 hx3
  go_wp2
  rw [← HR.out] at K1 K2
  exact ret_ex Tryd.results79 rfl (by omega) (by omega) HR3.out K2.out ((But.of b2).trans k3) K1.out
set_option maxRecDepth 100000 in
theorem single_name {T : List Tok} {a : Nat → Addr} {p n d i : Nat} {w : World} (hE : ∀ m, m < n → EOk T a p m) (h : PAt T a p d (.ok () i) w) (hk : (tk T i).kind = kName) (hout : singleT T (n + 1) d i ≠ .out) :
    Calls Tryd.prog 79 #[ptrV p] w (ExTo T a p d w (singleT T (n + 1) d i)) := by
  have hlt := h.lt
  obtain ⟨r, hr⟩ : ∃ r, r = singleT T (n + 1) d i := ⟨_, rfl⟩
  rw [← hr] at hout
  rw [← hr]
  obtain ⟨kd, tx, ps, ht⟩ := tok_parts (tk T i)
  have hkd : kd = kName := by rw [ht] at hk; exact hk
  subst hkd
  have ht0 : nxt T (.ok () i) = ⟨kName, tx, ps⟩ := ht
  have HT0 := hid ht0
  have HK := hid hk
  have HR := hid hr
  have HE := hid hE
  have HO := hid hout
  clear hr hk ht ht0 hE hout
  go_enter Tryd.func79, Tryd.ntmps79
  go_wp2_with fail
  have hb0 : Below w.heap.size w ((w.alloc (.cells #[ptrV p] 58)).alloc (.cells #[.string ⟨#[]⟩, .int .i64 0, .string ⟨#[]⟩, .slice none 0 0] 55)) := by (repeat (first | exact Below.refl _ _ | assumption | refine Below.drew ?_ | refine Below.trans ?_ (drewN_below' _ _ _) | refine Below.setCell ?_ (by first | (simp; done) | (simp; omega)) _ | refine Below.alloc ?_ (by first | (simp; done) | (simp; omega)) _))
  have hx0 : ((w.alloc (.cells #[ptrV p] 58)).alloc (.cells #[.string ⟨#[]⟩, .int .i64 0, .string ⟨#[]⟩, .slice none 0 0] 55)).heap[w.heap.size]? = some (.cells #[ptrV p] 58 (0, 0)) := by
    rw [Below.heap_alloc _ _ _ (by simp)]; exact heap_alloc_new _ _
  have hr0 : ((w.alloc (.cells #[ptrV p] 58)).alloc (.cells #[.string ⟨#[]⟩, .int .i64 0, .string ⟨#[]⟩, .slice none 0 0] 55)).heap[w.heap.size + 1]? = some (.cells #[.string ⟨#[]⟩, .int .i64 0, .string ⟨#[]⟩, .slice none 0 0] 55 (0, 0)) := by
    have := heap_alloc_new (w.alloc (.cells #[ptrV p] 58)) (.cells #[.string ⟨#[]⟩, .int .i64 0, .string ⟨#[]⟩, .slice none 0 0] 55)
    rwa [size_alloc] at this
  have hz0 : ((w.alloc (.cells #[ptrV p] 58)).alloc (.cells #[.string ⟨#[]⟩, .int .i64 0, .string ⟨#[]⟩, .slice none 0 0] 55)).heap.size = w.heap.size + 2 := by rw [size_alloc, size_alloc]
  generalize (w.alloc (.cells #[ptrV p] 58)).alloc (.cells #[.string ⟨#[]⟩, .int .i64 0, .string ⟨#[]⟩, .slice none 0 0] 55) = w0 at hb0 hx0 hr0 hz0 ⊢
  refine (next_any (h.keep hb0)).mono ?_
  rw [HT0.out]
  unfold tokA
  rintro e w1 ⟨rfl, hb1⟩
  have hz1 := hb1.size
  have hx1 := (hb1.block _ (by omega)).trans hx0
  have hr1 := (hb1.block _ (by omega)).trans hr0
  have b1 : Below w.heap.size w w1 := bl_trans hb0 hb0.size hb1
  clear hx0 hr0
  have x1 : w1.cell? ⟨w.heap.size, 0, none⟩ = some (ptrV p) := cell_of_blk hx1 0
  have l1 := heap_lt hx1
  have l2 := heap_lt hr1
  have HX1 := hid hx1
  have HR1 := hid hr1
  clear hx1 hr1
  unfold kName
  go_wp2_with fail
  rw [show ([110, 97, 109, 101] : List UInt8) = kName from rfl]
  have b2 : Below w.heap.size w ((w1.alloc (.cells #[.string ⟨kName.toArray⟩, .string ⟨tx.toArray⟩, .int .i64 ps] 29)).alloc (.cells #[.string ⟨#[]⟩, .int .i64 0, .string ⟨#[]⟩, .slice none 0 0] 55)) := (b1.alloc (by omega) _).alloc (by simp; omega) _
  have hx2 : ((w1.alloc (.cells #[.string ⟨kName.toArray⟩, .string ⟨tx.toArray⟩, .int .i64 ps] 29)).alloc (.cells #[.string ⟨#[]⟩, .int .i64 0, .string ⟨#[]⟩, .slice none 0 0] 55)).heap[w.heap.size]? = _ := (Below.heap_alloc _ _ _ (by simp; omega)).trans ((Below.heap_alloc _ _ _ (by omega)).trans HX1.out)
  have hr2 : ((w1.alloc (.cells #[.string ⟨kName.toArray⟩, .string ⟨tx.toArray⟩, .int .i64 ps] 29)).alloc (.cells #[.string ⟨#[]⟩, .int .i64 0, .string ⟨#[]⟩, .slice none 0 0] 55)).heap[w.heap.size + 1]? = _ := (Below.heap_alloc _ _ _ (by simp; omega)).trans ((Below.heap_alloc _ _ _ (by omega)).trans HR1.out)
  have ht2 : ((w1.alloc (.cells #[.string ⟨kName.toArray⟩, .string ⟨tx.toArray⟩, .int .i64 ps] 29)).alloc (.cells #[.string ⟨#[]⟩, .int .i64 0, .string ⟨#[]⟩, .slice none 0 0] 55)).heap[w1.heap.size]? = some (.cells #[.string ⟨kName.toArray⟩, .string ⟨tx.toArray⟩, .int .i64 ps] 29 (0, 0)) := (Below.heap_alloc _ _ _ (by simp)).trans (heap_alloc_new _ _)
  have he2 : ((w1.alloc (.cells #[.string ⟨kName.toArray⟩, .string ⟨tx.toArray⟩, .int .i64 ps] 29)).alloc (.cells #[.string ⟨#[]⟩, .int .i64 0, .string ⟨#[]⟩, .slice none 0 0] 55)).heap[w1.heap.size + 1]? = some (.cells #[.string ⟨#[]⟩, .int .i64 0, .string ⟨#[]⟩, .slice none 0 0] 55 (0, 0)) := by
    have := heap_alloc_new (w1.alloc (.cells #[.string ⟨kName.toArray⟩, .string ⟨tx.toArray⟩, .int .i64 ps] 29)) (.cells #[.string ⟨#[]⟩, .int .i64 0, .string ⟨#[]⟩, .slice none 0 0] 55)
    rwa [size_alloc] at this
  have hz2 : ((w1.alloc (.cells #[.string ⟨kName.toArray⟩, .string ⟨tx.toArray⟩, .int .i64 ps] 29)).alloc (.cells #[.string ⟨#[]⟩, .int .i64 0, .string ⟨#[]⟩, .slice none 0 0] 55)).heap.size = w1.heap.size + 2 := by rw [size_alloc, size_alloc]
  generalize (w1.alloc (.cells #[.string ⟨kName.toArray⟩, .string ⟨tx.toArray⟩, .int .i64 ps] 29)).alloc (.cells #[.string ⟨#[]⟩, .int .i64 0, .string ⟨#[]⟩, .slice none 0 0] 55) = w2 at b2 hx2 hr2 ht2 he2 hz2 ⊢
  have hp2 := h.keep b2
  refine (named_any HE.out hp2 HK.out (by rw [← HR.out]; exact HO.out)).mono ?_
  rintro e w3 hx3
  obtain ⟨k, m, x, ad, l, c, rfl, k1, k2, k3⟩ := hx3.rep (rb := w.heap.size + 1) (by omega)
  have hr3 := heap_keep k3 hr2 (by omega)
  have m2 := heap_lt hr3
  have r0 := cell_of_blk hr3 0
  have r1 := cell_of_blk hr3 1
  have r2 := cell_of_blk hr3 2
  have r3 := cell_of_blk hr3 3
  have q0 := free_of_blk hr3 0
  have q1 := free_of_blk hr3 1
  have q2 := free_of_blk hr3 2
  have q3 := free_of_blk hr3 3
  have HR3 := hid hr3
  have K1 := hid k1
  have K2 := hid k2
  clear hr3 k1 k2 hx3
  go_wp2
  rw [← HR.out] at K1 K2
  exact ret_ex Tryd.results79 rfl (by omega) (by omega) HR3.out K2.out ((But.of b2).trans k3) K1.out
set_option maxRecDepth 100000 in
theorem single_minus {T : List Tok} {a : Nat → Addr} {p n d i : Nat} {w : World} (hS : SOk T a p n) (h : PAt T a p d (.ok () i) w) (hk : isT T kSign [45] i) (hout : singleT T (n + 1) d i ≠ .out) :
    Calls Tryd.prog 79 #[ptrV p] w (ExTo T a p d w (singleT T (n + 1) d i)) := by
  have hlt := h.lt
  obtain ⟨r, hr⟩ : ∃ r, r = singleT T (n + 1) d i := ⟨_, rfl⟩
  rw [← hr] at hout ⊢
  rw [singleT, if_neg (by rw [hk.1]; decide), if_neg (by rw [hk.1]; decide), if_pos (by exact Or.inl hk)] at hr
  have hs0 : seesB T kSign [45] (.ok () i) = true := by rw [sees_ok]; simpa using hk
  
  obtain ⟨kd, tx, ps, ht⟩ := tok_parts (tk T i)
  have hkd : kd = kSign := by have := hk.1; rw [ht] at this; exact this
  have htx : tx = [45] := by have := hk.2; rw [ht] at this; exact this
  rw [ht] at hr
  subst hkd
  have ht0 : nxt T (.ok () i) = ⟨kSign, tx, ps⟩ := ht
  have HT0 := hid ht0
  have HTX := hid htx
  have HK := hid hk
  have HR := hid hr
  have HS := hid hS
  have HO := hid hout
  have HS0 := hid hs0
  
  clear hr hk ht ht0 hS hout hs0 htx 
  go_enter Tryd.func79, Tryd.ntmps79
  go_wp2_with fail
  have hb0 : Below w.heap.size w ((w.alloc (.cells #[ptrV p] 58)).alloc (.cells #[.string ⟨#[]⟩, .int .i64 0, .string ⟨#[]⟩, .slice none 0 0] 55)) := by (repeat (first | exact Below.refl _ _ | assumption | refine Below.drew ?_ | refine Below.trans ?_ (drewN_below' _ _ _) | refine Below.setCell ?_ (by first | (simp; done) | (simp; omega)) _ | refine Below.alloc ?_ (by first | (simp; done) | (simp; omega)) _))
  have hx0 : ((w.alloc (.cells #[ptrV p] 58)).alloc (.cells #[.string ⟨#[]⟩, .int .i64 0, .string ⟨#[]⟩, .slice none 0 0] 55)).heap[w.heap.size]? = some (.cells #[ptrV p] 58 (0, 0)) := by
    rw [Below.heap_alloc _ _ _ (by simp)]; exact heap_alloc_new _ _
  have hr0 : ((w.alloc (.cells #[ptrV p] 58)).alloc (.cells #[.string ⟨#[]⟩, .int .i64 0, .string ⟨#[]⟩, .slice none 0 0] 55)).heap[w.heap.size + 1]? = some (.cells #[.string ⟨#[]⟩, .int .i64 0, .string ⟨#[]⟩, .slice none 0 0] 55 (0, 0)) := by
    have := heap_alloc_new (w.alloc (.cells #[ptrV p] 58)) (.cells #[.string ⟨#[]⟩, .int .i64 0, .string ⟨#[]⟩, .slice none 0 0] 55)
    rwa [size_alloc] at this
  have hz0 : ((w.alloc (.cells #[ptrV p] 58)).alloc (.cells #[.string ⟨#[]⟩, .int .i64 0, .string ⟨#[]⟩, .slice none 0 0] 55)).heap.size = w.heap.size + 2 := by rw [size_alloc, size_alloc]
  generalize (w.alloc (.cells #[ptrV p] 58)).alloc (.cells #[.string ⟨#[]⟩, .int .i64 0, .string ⟨#[]⟩, .slice none 0 0] 55) = w0 at hb0 hx0 hr0 hz0 ⊢
  refine (next_any (h.keep hb0)).mono ?_
  rw [HT0.out]
  unfold tokA
  rintro e w1 ⟨rfl, hb1⟩
  have hz1 := hb1.size
  have hx1 := (hb1.block _ (by omega)).trans hx0
  have hr1 := (hb1.block _ (by omega)).trans hr0
  have b1 : Below w.heap.size w w1 := bl_trans hb0 hb0.size hb1
  clear hx0 hr0
  have x1 : w1.cell? ⟨w.heap.size, 0, none⟩ = some (ptrV p) := cell_of_blk hx1 0
  have l1 := heap_lt hx1
  have l2 := heap_lt hr1
  have HX1 := hid hx1
  have HR1 := hid hr1
  clear hx1 hr1
  unfold kSign
  go_wp2_with fail
  rw [show ([115, 105, 103, 110] : List UInt8) = kSign from rfl]
  have b2 : Below w.heap.size w ((w1.alloc (.cells #[.string ⟨kSign.toArray⟩, .string ⟨tx.toArray⟩, .int .i64 ps] 29)).alloc (.cells #[.string ⟨#[]⟩, .int .i64 0, .string ⟨#[]⟩, .slice none 0 0] 55)) := (b1.alloc (by omega) _).alloc (by simp; omega) _
  have hx2 : ((w1.alloc (.cells #[.string ⟨kSign.toArray⟩, .string ⟨tx.toArray⟩, .int .i64 ps] 29)).alloc (.cells #[.string ⟨#[]⟩, .int .i64 0, .string ⟨#[]⟩, .slice none 0 0] 55)).heap[w.heap.size]? = _ := (Below.heap_alloc _ _ _ (by simp; omega)).trans ((Below.heap_alloc _ _ _ (by omega)).trans HX1.out)
  have hr2 : ((w1.alloc (.cells #[.string ⟨kSign.toArray⟩, .string ⟨tx.toArray⟩, .int .i64 ps] 29)).alloc (.cells #[.string ⟨#[]⟩, .int .i64 0, .string ⟨#[]⟩, .slice none 0 0] 55)).heap[w.heap.size + 1]? = _ := (Below.heap_alloc _ _ _ (by simp; omega)).trans ((Below.heap_alloc _ _ _ (by omega)).trans HR1.out)
  have ht2 : ((w1.alloc (.cells #[.string ⟨kSign.toArray⟩, .string ⟨tx.toArray⟩, .int .i64 ps] 29)).alloc (.cells #[.string ⟨#[]⟩, .int .i64 0, .string ⟨#[]⟩, .slice none 0 0] 55)).heap[w1.heap.size]? = some (.cells #[.string ⟨kSign.toArray⟩, .string ⟨tx.toArray⟩, .int .i64 ps] 29 (0, 0)) := (Below.heap_alloc _ _ _ (by simp)).trans (heap_alloc_new _ _)
  have he2 : ((w1.alloc (.cells #[.string ⟨kSign.toArray⟩, .string ⟨tx.toArray⟩, .int .i64 ps] 29)).alloc (.cells #[.string ⟨#[]⟩, .int .i64 0, .string ⟨#[]⟩, .slice none 0 0] 55)).heap[w1.heap.size + 1]? = some (.cells #[.string ⟨#[]⟩, .int .i64 0, .string ⟨#[]⟩, .slice none 0 0] 55 (0, 0)) := by
    have := heap_alloc_new (w1.alloc (.cells #[.string ⟨kSign.toArray⟩, .string ⟨tx.toArray⟩, .int .i64 ps] 29)) (.cells #[.string ⟨#[]⟩, .int .i64 0, .string ⟨#[]⟩, .slice none 0 0] 55)
    rwa [size_alloc] at this
  have hz2 : ((w1.alloc (.cells #[.string ⟨kSign.toArray⟩, .string ⟨tx.toArray⟩, .int .i64 ps] 29)).alloc (.cells #[.string ⟨#[]⟩, .int .i64 0, .string ⟨#[]⟩, .slice none 0 0] 55)).heap.size = w1.heap.size + 2 := by rw [size_alloc, size_alloc]
  generalize (w1.alloc (.cells #[.string ⟨kSign.toArray⟩, .string ⟨tx.toArray⟩, .int .i64 ps] 29)).alloc (.cells #[.string ⟨#[]⟩, .int .i64 0, .string ⟨#[]⟩, .slice none 0 0] 55) = w2 at b2 hx2 hr2 ht2 he2 hz2 ⊢
  have hp2 := h.keep b2
  refine (sees_any hp2 [45]).mono ?_
  rw [HS0.out]
  rintro e w4 ⟨rfl, hb4⟩
  have hz4 := hb4.size
  have b4 := bl_trans b2 (by omega) hb4
  have hp4 := h.keep b4
  have hx4 := (hb4.block _ (by omega)).trans hx2
  have hr4 := (hb4.block _ (by omega)).trans hr2
  have ht4 := (hb4.block _ (by omega)).trans ht2
  have he4 := (hb4.block _ (by omega)).trans he2
  have x4 : w4.cell? ⟨w.heap.size, 0, none⟩ = some (ptrV p) := cell_of_blk hx4 0
  have t4 : w4.cell? ⟨w1.heap.size, 1, none⟩ = some (.string ⟨tx.toArray⟩) := cell_of_blk ht4 1
  have HS4 := hid (And.intro hx4 (And.intro hr4 (And.intro ht4 he4)))
  clear hx4 hr4 ht4 he4 hx2 hr2 ht2 he2
  go_wp2_with fail
  obtain ⟨hx4, hr4, ht4, he4⟩ := HS4.out
  refine (inner_one (B := w1.heap.size + 1) hp4 tx w1.heap.size w.heap.size (w1.heap.size + 1) (fun i s2 w2 => s2 = (singleT T n (d + 1) (i + 1)).st ∧ EbTo (w1.heap.size + 2) (w1.heap.size + 1) ((singleT T n (d + 1) (i + 1)).bind fun e j => .ok (.mk kOne 0 tx [e]) j) w2) (by omega) ?_ ?_).mono ?_
  · intro wi i2 hi2 _ hd hpi hbi
    cases hi2
    have ho : Rs.via (.ok () (i + 1)) (singleT T n (d + 1)) ≠ .out := fun e => HO.out (by rw [HR.out, if_neg (by omega), show singleT T n (d + 1) (i + 1) = .out from e]; rfl)
    have hzi := hbi.size
    refine (one_any HS.out hpi ho w1.heap.size w.heap.size (w1.heap.size + 1) kSign tx ps _ _ _ _ (heap_keep hbi ht4 (by omega)) (heap_keep hbi hx4 (by omega)) (heap_keep hbi he4 (by omega)) (by omega) (by omega) (by omega)).mono ?_
    rintro e w2 ⟨rfl, g1, g2, g3⟩
    exact ⟨rfl, _, g1, g2.bb (by omega), rfl, g3.keep (But.refl p _) (by omega) (by omega) (by omega)⟩
  · rintro i s2 w2 w3 ⟨rfl, g⟩ hb
    exact ⟨rfl, g.keep hb (by omega) (by omega) (Nat.le_refl _)⟩
  rintro e w5 ⟨rfl, h5⟩
  have key : PAt T a p d r.st w5 ∧ Bb p (w1.heap.size + 1) w4 w5 ∧ EbTo (w1.heap.size + 2) (w1.heap.size + 1) r w5 := by
    rcases h5 with ⟨g1, _⟩ | ⟨_, g2, g3, g4⟩ | ⟨i2, s2, g1, _, g3, g4, g5, g6, g7⟩
    · rw [HTX.out, HS0.out] at g1; cases g1
    · have e : r = .bad 10 i := by rw [HR.out, if_pos g2]
      exact ⟨by rw [e]; exact g3, g4.bb (by omega), EbTo.bad (heap_keep g4 he4 (by omega)) (fun x j hx => by rw [e] at hx; cases hx)⟩
    · cases g1
      have e : r = (singleT T n (d + 1) (i + 1)).bind fun e j => .ok (.mk kOne 0 tx [e]) j := by rw [HR.out, if_neg (by omega)]
      refine ⟨?_, g5, by rw [e]; exact g7⟩
      rw [e]
      rw [g6] at g4
      cases hz : singleT T n (d + 1) (i + 1) with
      | out => rw [hz] at g4; exact g4
      | bad c k => rw [hz] at g4; exact g4
      | ok l k => rw [hz] at g4; exact g4
  obtain ⟨k2, k3, k, m, x, ad, l, c, k5, k6⟩ := key
  have hr5 := k3.heap hr4 (by omega) (by omega)
  have n2 := heap_lt hr5
  have n3 := heap_lt k5
  have e50 : w5.cell? ⟨w1.heap.size + 1, 0, none⟩ = some (.string k) := cell_of_blk k5 0
  have e51 : w5.cell? ⟨w1.heap.size + 1, 1, none⟩ = some (.int .i64 m) := cell_of_blk k5 1
  have e52 : w5.cell? ⟨w1.heap.size + 1, 2, none⟩ = some (.string x) := cell_of_blk k5 2
  have e53 : w5.cell? ⟨w1.heap.size + 1, 3, none⟩ = some (.slice ad l c) := cell_of_blk k5 3
  have r50 := cell_of_blk hr5 0
  have r51 := cell_of_blk hr5 1
  have r52 := cell_of_blk hr5 2
  have r53 := cell_of_blk hr5 3
  have q50 := free_of_blk hr5 0
  have q51 := free_of_blk hr5 1
  have q52 := free_of_blk hr5 2
  have q53 := free_of_blk hr5 3
  have HR5 := hid hr5
  have K2 := hid k2
  have K6 := hid k6
  clear hr5 k2 k5 k6 h5 he4 hx4 hr4 HS4
  go_wp2
  exact ret_ex Tryd.results79 rfl (by omega) (by omega) HR5.out K2.out (Bb.base (But.of b4) k3 (by omega)) (fun y j hy => RepE.imp (fun b hb => ⟨by have := hb.1; omega, hb.2⟩) (fun _ _ => rfl) _ _ (K6.out y j hy))
set_option maxRecDepth 100000 in
theorem single_not {T : List Tok} {a : Nat → Addr} {p n d i : Nat} {w : World} (hS : SOk T a p n) (h : PAt T a p d (.ok () i) w) (hk : isT T kSign [33] i) (hout : singleT T (n + 1) d i ≠ .out) :
    Calls Tryd.prog 79 #[ptrV p] w (ExTo T a p d w (singleT T (n + 1) d i)) := by
  have hlt := h.lt
  obtain ⟨r, hr⟩ : ∃ r, r = singleT T (n + 1) d i := ⟨_, rfl⟩
  rw [← hr] at hout ⊢
  rw [singleT, if_neg (by rw [hk.1]; decide), if_neg (by rw [hk.1]; decide), if_pos (by exact Or.inr hk)] at hr
  have hs0 : seesB T kSign [33] (.ok () i) = true := by rw [sees_ok]; simpa using hk
  have hs1 : seesB T kSign [45] (.ok () i) = false := by rw [sees_ok]; simpa using (fun h : isT T kSign [45] i => by have := hk.2.symm.trans h.2; simp at this)
  obtain ⟨kd, tx, ps, ht⟩ := tok_parts (tk T i)
  have hkd : kd = kSign := by have := hk.1; rw [ht] at this; exact this
  have htx : tx = [33] := by have := hk.2; rw [ht] at this; exact this
  rw [ht] at hr
  subst hkd
  have ht0 : nxt T (.ok () i) = ⟨kSign, tx, ps⟩ := ht
  have HT0 := hid ht0
  have HTX := hid htx
  have HK := hid hk
  have HR := hid hr
  have HS := hid hS
  have HO := hid hout
  have HS0 := hid hs0
  have HS1 := hid hs1
  clear hr hk ht ht0 hS hout hs0 htx hs1
  go_enter Tryd.func79, Tryd.ntmps79
  go_wp2_with fail
  have hb0 : Below w.heap.size w ((w.alloc (.cells #[ptrV p] 58)).alloc (.cells #[.string ⟨#[]⟩, .int .i64 0, .string ⟨#[]⟩, .slice none 0 0] 55)) := by (repeat (first | exact Below.refl _ _ | assumption | refine Below.drew ?_ | refine Below.trans ?_ (drewN_below' _ _ _) | refine Below.setCell ?_ (by first | (simp; done) | (simp; omega)) _ | refine Below.alloc ?_ (by first | (simp; done) | (simp; omega)) _))
  have hx0 : ((w.alloc (.cells #[ptrV p] 58)).alloc (.cells #[.string ⟨#[]⟩, .int .i64 0, .string ⟨#[]⟩, .slice none 0 0] 55)).heap[w.heap.size]? = some (.cells #[ptrV p] 58 (0, 0)) := by
    rw [Below.heap_alloc _ _ _ (by simp)]; exact heap_alloc_new _ _
  have hr0 : ((w.alloc (.cells #[ptrV p] 58)).alloc (.cells #[.string ⟨#[]⟩, .int .i64 0, .string ⟨#[]⟩, .slice none 0 0] 55)).heap[w.heap.size + 1]? = some (.cells #[.string ⟨#[]⟩, .int .i64 0, .string ⟨#[]⟩, .slice none 0 0] 55 (0, 0)) := by
    have := heap_alloc_new (w.alloc (.cells #[ptrV p] 58)) (.cells #[.string ⟨#[]⟩, .int .i64 0, .string ⟨#[]⟩, .slice none 0 0] 55)
    rwa [size_alloc] at this
  have hz0 : ((w.alloc (.cells #[ptrV p] 58)).alloc (.cells #[.string ⟨#[]⟩, .int .i64 0, .string ⟨#[]⟩, .slice none 0 0] 55)).heap.size = w.heap.size + 2 := by rw [size_alloc, size_alloc]
  generalize (w.alloc (.cells #[ptrV p] 58)).alloc (.cells #[.string ⟨#[]⟩, .int .i64 0, .string ⟨#[]⟩, .slice none 0 0] 55) = w0 at hb0 hx0 hr0 hz0 ⊢
  refine (next_any (h.keep hb0)).mono ?_
  rw [HT0.out]
  unfold tokA
  rintro e w1 ⟨rfl, hb1⟩
  have hz1 := hb1.size
  have hx1 := (hb1.block _ (by omega)).trans hx0
  have hr1 := (hb1.block _ (by omega)).trans hr0
  have b1 : Below w.heap.size w w1 := bl_trans hb0 hb0.size hb1
  clear hx0 hr0
  have x1 : w1.cell? ⟨w.heap.size, 0, none⟩ = some (ptrV p) := cell_of_blk hx1 0
  have l1 := heap_lt hx1
  have l2 := heap_lt hr1
  have HX1 := hid hx1
  have HR1 := hid hr1
  clear hx1 hr1
  unfold kSign
  go_wp2_with fail
  rw [show ([115, 105, 103, 110] : List UInt8) = kSign from rfl]
  have b2 : Below w.heap.size w ((w1.alloc (.cells #[.string ⟨kSign.toArray⟩, .string ⟨tx.toArray⟩, .int .i64 ps] 29)).alloc (.cells #[.string ⟨#[]⟩, .int .i64 0, .string ⟨#[]⟩, .slice none 0 0] 55)) := (b1.alloc (by omega) _).alloc (by simp; omega) _
  have hx2 : ((w1.alloc (.cells #[.string ⟨kSign.toArray⟩, .string ⟨tx.toArray⟩, .int .i64 ps] 29)).alloc (.cells #[.string ⟨#[]⟩, .int .i64 0, .string ⟨#[]⟩, .slice none 0 0] 55)).heap[w.heap.size]? = _ := (Below.heap_alloc _ _ _ (by simp; omega)).trans ((Below.heap_alloc _ _ _ (by omega)).trans HX1.out)
  have hr2 : ((w1.alloc (.cells #[.string ⟨kSign.toArray⟩, .string ⟨tx.toArray⟩, .int .i64 ps] 29)).alloc (.cells #[.string ⟨#[]⟩, .int .i64 0, .string ⟨#[]⟩, .slice none 0 0] 55)).heap[w.heap.size + 1]? = _ := (Below.heap_alloc _ _ _ (by simp; omega)).trans ((Below.heap_alloc _ _ _ (by omega)).trans HR1.out)
  have ht2 : ((w1.alloc (.cells #[.string ⟨kSign.toArray⟩, .string ⟨tx.toArray⟩, .int .i64 ps] 29)).alloc (.cells #[.string ⟨#[]⟩, .int .i64 0, .string ⟨#[]⟩, .slice none 0 0] 55)).heap[w1.heap.size]? = some (.cells #[.string ⟨kSign.toArray⟩, .string ⟨tx.toArray⟩, .int .i64 ps] 29 (0, 0)) := (Below.heap_alloc _ _ _ (by simp)).trans (heap_alloc_new _ _)
  have he2 : ((w1.alloc (.cells #[.string ⟨kSign.toArray⟩, .string ⟨tx.toArray⟩, .int .i64 ps] 29)).alloc (.cells #[.string ⟨#[]⟩, .int .i64 0, .string ⟨#[]⟩, .slice none 0 0] 55)).heap[w1.heap.size + 1]? = some (.cells #[.string ⟨#[]⟩, .int .i64 0, .string ⟨#[]⟩, .slice none 0 0] 55 (0, 0)) := by
    have := heap_alloc_new (w1.alloc (.cells #[.string ⟨kSign.toArray⟩, .string ⟨tx.toArray⟩, .int .i64 ps] 29)) (.cells #[.string ⟨#[]⟩, .int .i64 0, .string ⟨#[]⟩, .slice none 0 0] 55)
    rwa [size_alloc] at this
  have hz2 : ((w1.alloc (.cells #[.string ⟨kSign.toArray⟩, .string ⟨tx.toArray⟩, .int .i64 ps] 29)).alloc (.cells #[.string ⟨#[]⟩, .int .i64 0, .string ⟨#[]⟩, .slice none 0 0] 55)).heap.size = w1.heap.size + 2 := by rw [size_alloc, size_alloc]
  generalize (w1.alloc (.cells #[.string ⟨kSign.toArray⟩, .string ⟨tx.toArray⟩, .int .i64 ps] 29)).alloc (.cells #[.string ⟨#[]⟩, .int .i64 0, .string ⟨#[]⟩, .slice none 0 0] 55) = w2 at b2 hx2 hr2 ht2 he2 hz2 ⊢
  have hp2 := h.keep b2
  refine (sees_any hp2 [45]).mono ?_
  rw [HS1.out]
  rintro e w3 ⟨rfl, hb3⟩
  have hz3 := hb3.size
  have b3 := bl_trans b2 (by omega) hb3
  have hp3 := h.keep b3
  have hx3 := (hb3.block _ (by omega)).trans hx2
  have hr3 := (hb3.block _ (by omega)).trans hr2
  have ht3 := (hb3.block _ (by omega)).trans ht2
  have he3 := (hb3.block _ (by omega)).trans he2
  have x3 : w3.cell? ⟨w.heap.size, 0, none⟩ = some (ptrV p) := cell_of_blk hx3 0
  have t3 : w3.cell? ⟨w1.heap.size, 1, none⟩ = some (.string ⟨tx.toArray⟩) := cell_of_blk ht3 1
  have HS3 := hid (And.intro hx3 (And.intro hr3 (And.intro ht3 he3)))
  clear hx3 hr3 ht3 he3 hx2 hr2 ht2 he2
  go_wp2_with fail
  obtain ⟨hx3, hr3, ht3, he3⟩ := HS3.out
  refine (sees_any hp3 [33]).mono ?_
  rw [HS0.out]
  rintro e w4 ⟨rfl, hb4⟩
  have hz4 := hb4.size
  have b4 := bl_trans b3 (by omega) hb4
  have hp4 := h.keep b4
  have hx4 := (hb4.block _ (by omega)).trans hx3
  have hr4 := (hb4.block _ (by omega)).trans hr3
  have ht4 := (hb4.block _ (by omega)).trans ht3
  have he4 := (hb4.block _ (by omega)).trans he3
  have x4 : w4.cell? ⟨w.heap.size, 0, none⟩ = some (ptrV p) := cell_of_blk hx4 0
  have t4 : w4.cell? ⟨w1.heap.size, 1, none⟩ = some (.string ⟨tx.toArray⟩) := cell_of_blk ht4 1
  have HS4 := hid (And.intro hx4 (And.intro hr4 (And.intro ht4 he4)))
  clear hx4 hr4 ht4 he4 hx3 hr3 ht3 he3
  go_wp2_with fail
  obtain ⟨hx4, hr4, ht4, he4⟩ := HS4.out
  refine (inner_one (B := w1.heap.size + 1) hp4 tx w1.heap.size w.heap.size (w1.heap.size + 1) (fun i s2 w2 => s2 = (singleT T n (d + 1) (i + 1)).st ∧ EbTo (w1.heap.size + 2) (w1.heap.size + 1) ((singleT T n (d + 1) (i + 1)).bind fun e j => .ok (.mk kOne 0 tx [e]) j) w2) (by omega) ?_ ?_).mono ?_
  · intro wi i2 hi2 _ hd hpi hbi
    cases hi2
    have ho : Rs.via (.ok () (i + 1)) (singleT T n (d + 1)) ≠ .out := fun e => HO.out (by rw [HR.out, if_neg (by omega), show singleT T n (d + 1) (i + 1) = .out from e]; rfl)
    have hzi := hbi.size
    refine (one_any HS.out hpi ho w1.heap.size w.heap.size (w1.heap.size + 1) kSign tx ps _ _ _ _ (heap_keep hbi ht4 (by omega)) (heap_keep hbi hx4 (by omega)) (heap_keep hbi he4 (by omega)) (by omega) (by omega) (by omega)).mono ?_
    rintro e w2 ⟨rfl, g1, g2, g3⟩
    exact ⟨rfl, _, g1, g2.bb (by omega), rfl, g3.keep (But.refl p _) (by omega) (by omega) (by omega)⟩
  · rintro i s2 w2 w3 ⟨rfl, g⟩ hb
    exact ⟨rfl, g.keep hb (by omega) (by omega) (Nat.le_refl _)⟩
  rintro e w5 ⟨rfl, h5⟩
  have key : PAt T a p d r.st w5 ∧ Bb p (w1.heap.size + 1) w4 w5 ∧ EbTo (w1.heap.size + 2) (w1.heap.size + 1) r w5 := by
    rcases h5 with ⟨g1, _⟩ | ⟨_, g2, g3, g4⟩ | ⟨i2, s2, g1, _, g3, g4, g5, g6, g7⟩
    · rw [HTX.out, HS0.out] at g1; cases g1
    · have e : r = .bad 10 i := by rw [HR.out, if_pos g2]
      exact ⟨by rw [e]; exact g3, g4.bb (by omega), EbTo.bad (heap_keep g4 he4 (by omega)) (fun x j hx => by rw [e] at hx; cases hx)⟩
    · cases g1
      have e : r = (singleT T n (d + 1) (i + 1)).bind fun e j => .ok (.mk kOne 0 tx [e]) j := by rw [HR.out, if_neg (by omega)]
      refine ⟨?_, g5, by rw [e]; exact g7⟩
      rw [e]
      rw [g6] at g4
      cases hz : singleT T n (d + 1) (i + 1) with
      | out => rw [hz] at g4; exact g4
      | bad c k => rw [hz] at g4; exact g4
      | ok l k => rw [hz] at g4; exact g4
  obtain ⟨k2, k3, k, m, x, ad, l, c, k5, k6⟩ := key
  have hr5 := k3.heap hr4 (by omega) (by omega)
  have n2 := heap_lt hr5
  have n3 := heap_lt k5
  have e50 : w5.cell? ⟨w1.heap.size + 1, 0, none⟩ = some (.string k) := cell_of_blk k5 0
  have e51 : w5.cell? ⟨w1.heap.size + 1, 1, none⟩ = some (.int .i64 m) := cell_of_blk k5 1
  have e52 : w5.cell? ⟨w1.heap.size + 1, 2, none⟩ = some (.string x) := cell_of_blk k5 2
  have e53 : w5.cell? ⟨w1.heap.size + 1, 3, none⟩ = some (.slice ad l c) := cell_of_blk k5 3
  have r50 := cell_of_blk hr5 0
  have r51 := cell_of_blk hr5 1
  have r52 := cell_of_blk hr5 2
  have r53 := cell_of_blk hr5 3
  have q50 := free_of_blk hr5 0
  have q51 := free_of_blk hr5 1
  have q52 := free_of_blk hr5 2
  have q53 := free_of_blk hr5 3
  have HR5 := hid hr5
  have K2 := hid k2
  have K6 := hid k6
  clear hr5 k2 k5 k6 h5 he4 hx4 hr4 HS4
  go_wp2
  exact ret_ex Tryd.results79 rfl (by omega) (by omega) HR5.out K2.out (Bb.base (But.of b4) k3 (by omega)) (fun y j hy => RepE.imp (fun b hb => ⟨by have := hb.1; omega, hb.2⟩) (fun _ _ => rfl) _ _ (K6.out y j hy))
set_option maxRecDepth 100000 in
theorem single_par {T : List Tok} {a : Nat → Addr} {p n d : Nat} {s : Rs Unit} {w : World} (hE : (∃ i, s = .ok () i) → EOk T a p n) (h : PAt T a p d s w) (h1 : (nxt T s).kind ≠ kNum) (h2 : (nxt T s).kind ≠ kName) (h3 : seesB T kSign [45] s = false) (h4 : seesB T kSign [33] s = false) (hout : s.via (singleT T (n + 1) d) ≠ .out) :
    Calls Tryd.prog 79 #[ptrV p] w (ExTo T a p d w (s.via (singleT T (n + 1) d))) := by
  have hlt := h.lt
  obtain ⟨r, hr⟩ : ∃ r, r = s.via (singleT T (n + 1) d) := ⟨_, rfl⟩
  rw [← hr] at hout ⊢
  have hr2 : r = s.via fun i => if isT T kSign [40] i then (if d = 12 then .bad 10 i else (exprT T n (d + 1) 1 (i + 1)).bind fun e j => (needT T kSign [41] j).bind fun _ j => .ok e j) else .bad 1 i := by
    rw [hr]
    cases s with
    | out => rfl
    | bad c k => rfl
    | ok u i =>
      have h3' : ¬ isT T kSign [45] i := by rw [sees_ok] at h3; simpa using h3
      have h4' : ¬ isT T kSign [33] i := by rw [sees_ok] at h4; simpa using h4
      rw [Rs.via_ok, Rs.via_ok, singleT, if_neg (show (tk T i).kind ≠ kNum from h1), if_neg (show (tk T i).kind ≠ kName from h2), if_neg (by rintro (h | h); exact h3' h; exact h4' h)]
  obtain ⟨kd, tx, ps, ht⟩ := tok_parts (nxt T s)
  have n1 : kd ≠ kNum := by rw [ht] at h1; exact h1
  have n2 : kd ≠ kName := by rw [ht] at h2; exact h2
  have m1 := str_ne n1
  have m2 := str_ne n2
  unfold kNum at m1
  unfold kName at m2
  have HT0 := hid ht
  have HR := hid hr2
  have HE := hid hE
  have HO := hid hout
  have HS0 := hid h3
  have HS1 := hid h4
  clear hr hr2 ht hE hout h1 h2 h3 h4 n1 n2
  go_enter Tryd.func79, Tryd.ntmps79
  go_wp2_with fail
  have hb0 : Below w.heap.size w ((w.alloc (.cells #[ptrV p] 58)).alloc (.cells #[.string ⟨#[]⟩, .int .i64 0, .string ⟨#[]⟩, .slice none 0 0] 55)) := by (repeat (first | exact Below.refl _ _ | assumption | refine Below.drew ?_ | refine Below.trans ?_ (drewN_below' _ _ _) | refine Below.setCell ?_ (by first | (simp; done) | (simp; omega)) _ | refine Below.alloc ?_ (by first | (simp; done) | (simp; omega)) _))
  have hx0 : ((w.alloc (.cells #[ptrV p] 58)).alloc (.cells #[.string ⟨#[]⟩, .int .i64 0, .string ⟨#[]⟩, .slice none 0 0] 55)).heap[w.heap.size]? = some (.cells #[ptrV p] 58 (0, 0)) := by
    rw [Below.heap_alloc _ _ _ (by simp)]; exact heap_alloc_new _ _
  have hr0 : ((w.alloc (.cells #[ptrV p] 58)).alloc (.cells #[.string ⟨#[]⟩, .int .i64 0, .string ⟨#[]⟩, .slice none 0 0] 55)).heap[w.heap.size + 1]? = some (.cells #[.string ⟨#[]⟩, .int .i64 0, .string ⟨#[]⟩, .slice none 0 0] 55 (0, 0)) := by
    have := heap_alloc_new (w.alloc (.cells #[ptrV p] 58)) (.cells #[.string ⟨#[]⟩, .int .i64 0, .string ⟨#[]⟩, .slice none 0 0] 55)
    rwa [size_alloc] at this
  have hz0 : ((w.alloc (.cells #[ptrV p] 58)).alloc (.cells #[.string ⟨#[]⟩, .int .i64 0, .string ⟨#[]⟩, .slice none 0 0] 55)).heap.size = w.heap.size + 2 := by rw [size_alloc, size_alloc]
  generalize (w.alloc (.cells #[ptrV p] 58)).alloc (.cells #[.string ⟨#[]⟩, .int .i64 0, .string ⟨#[]⟩, .slice none 0 0] 55) = w0 at hb0 hx0 hr0 hz0 ⊢
  refine (next_any (h.keep hb0)).mono ?_
  rw [HT0.out]
  unfold tokA
  rintro e w1 ⟨rfl, hb1⟩
  have hz1 := hb1.size
  have hx1 := (hb1.block _ (by omega)).trans hx0
  have hr1 := (hb1.block _ (by omega)).trans hr0
  have b1 : Below w.heap.size w w1 := bl_trans hb0 hb0.size hb1
  clear hx0 hr0
  have x1 : w1.cell? ⟨w.heap.size, 0, none⟩ = some (ptrV p) := cell_of_blk hx1 0
  have l1 := heap_lt hx1
  have l2 := heap_lt hr1
  have HX1 := hid hx1
  have HR1 := hid hr1
  clear hx1 hr1
  go_wp2_with fail
  have b2 : Below w.heap.size w ((w1.alloc (.cells #[.string ⟨kd.toArray⟩, .string ⟨tx.toArray⟩, .int .i64 ps] 29)).alloc (.cells #[.string ⟨#[]⟩, .int .i64 0, .string ⟨#[]⟩, .slice none 0 0] 55)) := (b1.alloc (by omega) _).alloc (by simp; omega) _
  have hx2 : ((w1.alloc (.cells #[.string ⟨kd.toArray⟩, .string ⟨tx.toArray⟩, .int .i64 ps] 29)).alloc (.cells #[.string ⟨#[]⟩, .int .i64 0, .string ⟨#[]⟩, .slice none 0 0] 55)).heap[w.heap.size]? = _ := (Below.heap_alloc _ _ _ (by simp; omega)).trans ((Below.heap_alloc _ _ _ (by omega)).trans HX1.out)
  have hr2 : ((w1.alloc (.cells #[.string ⟨kd.toArray⟩, .string ⟨tx.toArray⟩, .int .i64 ps] 29)).alloc (.cells #[.string ⟨#[]⟩, .int .i64 0, .string ⟨#[]⟩, .slice none 0 0] 55)).heap[w.heap.size + 1]? = _ := (Below.heap_alloc _ _ _ (by simp; omega)).trans ((Below.heap_alloc _ _ _ (by omega)).trans HR1.out)
  have ht2 : ((w1.alloc (.cells #[.string ⟨kd.toArray⟩, .string ⟨tx.toArray⟩, .int .i64 ps] 29)).alloc (.cells #[.string ⟨#[]⟩, .int .i64 0, .string ⟨#[]⟩, .slice none 0 0] 55)).heap[w1.heap.size]? = some (.cells #[.string ⟨kd.toArray⟩, .string ⟨tx.toArray⟩, .int .i64 ps] 29 (0, 0)) := (Below.heap_alloc _ _ _ (by simp)).trans (heap_alloc_new _ _)
  have he2 : ((w1.alloc (.cells #[.string ⟨kd.toArray⟩, .string ⟨tx.toArray⟩, .int .i64 ps] 29)).alloc (.cells #[.string ⟨#[]⟩, .int .i64 0, .string ⟨#[]⟩, .slice none 0 0] 55)).heap[w1.heap.size + 1]? = some (.cells #[.string ⟨#[]⟩, .int .i64 0, .string ⟨#[]⟩, .slice none 0 0] 55 (0, 0)) := by
    have := heap_alloc_new (w1.alloc (.cells #[.string ⟨kd.toArray⟩, .string ⟨tx.toArray⟩, .int .i64 ps] 29)) (.cells #[.string ⟨#[]⟩, .int .i64 0, .string ⟨#[]⟩, .slice none 0 0] 55)
    rwa [size_alloc] at this
  have hz2 : ((w1.alloc (.cells #[.string ⟨kd.toArray⟩, .string ⟨tx.toArray⟩, .int .i64 ps] 29)).alloc (.cells #[.string ⟨#[]⟩, .int .i64 0, .string ⟨#[]⟩, .slice none 0 0] 55)).heap.size = w1.heap.size + 2 := by rw [size_alloc, size_alloc]
  generalize (w1.alloc (.cells #[.string ⟨kd.toArray⟩, .string ⟨tx.toArray⟩, .int .i64 ps] 29)).alloc (.cells #[.string ⟨#[]⟩, .int .i64 0, .string ⟨#[]⟩, .slice none 0 0] 55) = w2 at b2 hx2 hr2 ht2 he2 hz2 ⊢
  have hp2 := h.keep b2
  refine (sees_any hp2 [45]).mono ?_
  rw [HS0.out]
  rintro e w3 ⟨rfl, hb3⟩
  have hz3 := hb3.size
  have b3 := bl_trans b2 (by omega) hb3
  have hp3 := h.keep b3
  have hx3 := (hb3.block _ (by omega)).trans hx2
  have hr3 := (hb3.block _ (by omega)).trans hr2
  have ht3 := (hb3.block _ (by omega)).trans ht2
  have he3 := (hb3.block _ (by omega)).trans he2
  have x3 : w3.cell? ⟨w.heap.size, 0, none⟩ = some (ptrV p) := cell_of_blk hx3 0
  have t3 : w3.cell? ⟨w1.heap.size, 1, none⟩ = some (.string ⟨tx.toArray⟩) := cell_of_blk ht3 1
  have HS3 := hid (And.intro hx3 (And.intro hr3 (And.intro ht3 he3)))
  clear hx3 hr3 ht3 he3 hx2 hr2 ht2 he2
  go_wp2_with fail
  obtain ⟨hx3, hr3, ht3, he3⟩ := HS3.out
  refine (sees_any hp3 [33]).mono ?_
  rw [HS1.out]
  rintro e w4 ⟨rfl, hb4⟩
  have hz4 := hb4.size
  have b4 := bl_trans b3 (by omega) hb4
  have hp4 := h.keep b4
  have hx4 := (hb4.block _ (by omega)).trans hx3
  have hr4 := (hb4.block _ (by omega)).trans hr3
  have ht4 := (hb4.block _ (by omega)).trans ht3
  have he4 := (hb4.block _ (by omega)).trans he3
  have x4 : w4.cell? ⟨w.heap.size, 0, none⟩ = some (ptrV p) := cell_of_blk hx4 0
  have t4 : w4.cell? ⟨w1.heap.size, 1, none⟩ = some (.string ⟨tx.toArray⟩) := cell_of_blk ht4 1
  have HS4 := hid (And.intro hx4 (And.intro hr4 (And.intro ht4 he4)))
  clear hx4 hr4 ht4 he4 hx3 hr3 ht3 he3
  go_wp2_with fail
  obtain ⟨hx4, hr4, ht4, he4⟩ := HS4.out
  refine (inner_par (B := w1.heap.size + 1) hp4 [40] w.heap.size (w1.heap.size + 1) (fun i s2 w2 => s2 = ((exprT T n (d + 1) 1 (i + 1)).bind fun e j => (needT T kSign [41] j).bind fun _ j => .ok e j).st ∧ EbTo (w1.heap.size + 2) (w1.heap.size + 1) ((exprT T n (d + 1) 1 (i + 1)).bind fun e j => (needT T kSign [41] j).bind fun _ j => .ok e j) w2) (by omega) ?_ ?_).mono ?_
  · intro wi i2 hi2 hpar hd hpi hbi
    subst hi2
    have ho : Rs.via (.ok () (i2 + 1)) (exprT T n (d + 1) 1) ≠ .out := fun e => HO.out (by rw [HR.out, Rs.via_ok, if_pos hpar, if_neg (by omega), show exprT T n (d + 1) 1 (i2 + 1) = .out from e]; rfl)
    have hzi := hbi.size
    refine (par_any (HE.out ⟨i2, rfl⟩) hpi ho w.heap.size (w1.heap.size + 1) _ _ _ _ (heap_keep hbi hx4 (by omega)) (heap_keep hbi he4 (by omega)) (by omega) (by omega)).mono ?_
    rintro e w2 ⟨rfl, g1, g2, g3⟩
    exact ⟨rfl, _, g1, g2.bb (by omega), rfl, g3.keep (But.refl p _) (by omega) (by omega) (by omega)⟩
  · rintro i s2 w2 w3 ⟨rfl, g⟩ hb
    exact ⟨rfl, g.keep hb (by omega) (by omega) (Nat.le_refl _)⟩
  rintro e w5 ⟨rfl, h5⟩
  have key : PAt T a p d r.st w5 ∧ Bb p (w1.heap.size + 1) w4 w5 ∧ EbTo (w1.heap.size + 2) (w1.heap.size + 1) r w5 := by
    rcases h5 with ⟨g1, g2, g3⟩ | ⟨g0, g2, g3, g4⟩ | ⟨i2, s2, g1, g2, g3, g4, g5, g6, g7⟩
    · have e : r.st = s.fail 1 ∧ ∀ x j, r ≠ .ok x j := by
        rw [HR.out]
        cases s with
        | out => exact ⟨rfl, fun _ _ h => by cases h⟩
        | bad c k => exact ⟨rfl, fun _ _ h => by cases h⟩
        | ok u i =>
          rw [sees_ok] at g1
          rw [Rs.via_ok, if_neg (by simpa using g1)]
          exact ⟨rfl, fun _ _ h => by cases h⟩
      exact ⟨by rw [e.1]; exact g2, g3.bb (by omega), EbTo.bad (heap_keep g3 he4 (by omega)) e.2⟩
    · have e : r.st = s.fail 10 ∧ ∀ x j, r ≠ .ok x j := by
        rw [HR.out]
        cases s with
        | out => exact ⟨rfl, fun _ _ h => by cases h⟩
        | bad c k => exact ⟨rfl, fun _ _ h => by cases h⟩
        | ok u i =>
          rw [sees_ok] at g0
          rw [Rs.via_ok, if_pos (by simpa using g0), if_pos g2]
          exact ⟨rfl, fun _ _ h => by cases h⟩
      exact ⟨by rw [e.1]; exact g3, g4.bb (by omega), EbTo.bad (heap_keep g4 he4 (by omega)) e.2⟩
    · subst g1
      have e : r = (exprT T n (d + 1) 1 (i2 + 1)).bind fun e j => (needT T kSign [41] j).bind fun _ j => .ok e j := by rw [HR.out, Rs.via_ok, if_pos g2, if_neg (by omega)]
      exact ⟨by rw [e, ← g6]; exact g4, g5, by rw [e]; exact g7⟩
  obtain ⟨k2, k3, k, m, x, ad, l, c, k5, k6⟩ := key
  have hr5 := k3.heap hr4 (by omega) (by omega)
  have n2 := heap_lt hr5
  have n3 := heap_lt k5
  have e50 : w5.cell? ⟨w1.heap.size + 1, 0, none⟩ = some (.string k) := cell_of_blk k5 0
  have e51 : w5.cell? ⟨w1.heap.size + 1, 1, none⟩ = some (.int .i64 m) := cell_of_blk k5 1
  have e52 : w5.cell? ⟨w1.heap.size + 1, 2, none⟩ = some (.string x) := cell_of_blk k5 2
  have e53 : w5.cell? ⟨w1.heap.size + 1, 3, none⟩ = some (.slice ad l c) := cell_of_blk k5 3
  have r50 := cell_of_blk hr5 0
  have r51 := cell_of_blk hr5 1
  have r52 := cell_of_blk hr5 2
  have r53 := cell_of_blk hr5 3
  have q50 := free_of_blk hr5 0
  have q51 := free_of_blk hr5 1
  have q52 := free_of_blk hr5 2
  have q53 := free_of_blk hr5 3
  have HR5 := hid hr5
  have K2 := hid k2
  have K6 := hid k6
  clear hr5 k2 k5 k6 h5 he4 hx4 hr4 HS4
  go_wp2
  exact ret_ex Tryd.results79 rfl (by omega) (by omega) HR5.out K2.out (Bb.base (But.of b4) k3 (by omega)) (fun y j hy => RepE.imp (fun b hb => ⟨by have := hb.1; omega, hb.2⟩) (fun _ _ => rfl) _ _ (K6.out y j hy))
/-- A single expression, one deeper. -/
theorem single_ok {T : List Tok} {a : Nat → Addr} {p n : Nat} (HT : ∀ t ∈ T, t.Good) (hE : ∀ m, m ≤ n → EOk T a p m) (hS : SOk T a p n) : SOk T a p (n + 1) := by
  intro d s w h hout
  by_cases h1 : (nxt T s).kind = kNum
  · obtain ⟨i, rfl, _⟩ := nxt_ok h (by rw [h1]; decide)
    exact single_num HT h h1
  by_cases h2 : (nxt T s).kind = kName
  · obtain ⟨i, rfl, _⟩ := nxt_ok h (by rw [h2]; decide)
    exact single_name (fun m hm => hE m (by omega)) h h2 hout
  cases h3 : seesB T kSign [45] s with
  | true =>
    obtain ⟨i, rfl, _⟩ := nxt_ok h (by rw [(of_decide_eq_true h3).1]; decide)
    exact single_minus hS h (of_decide_eq_true h3) hout
  | false =>
    cases h4 : seesB T kSign [33] s with
    | true =>
      obtain ⟨i, rfl, _⟩ := nxt_ok h (by rw [(of_decide_eq_true h4).1]; decide)
      exact single_not hS h (of_decide_eq_true h4) hout
    | false => exact single_par (fun _ => hE n (Nat.le_refl _)) h h1 h2 h3 h4 hout
end Go.Proofs.YtcebpmaggnephabDoor
