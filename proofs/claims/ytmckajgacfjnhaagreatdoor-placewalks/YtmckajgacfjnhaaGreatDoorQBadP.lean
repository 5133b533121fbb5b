/- Our own: texts joined: PlWalkB, PlPlaced. -/
import Derived.Test.YtmckajgacfjnhaaGreatDoorQSetS
import Derived.Test.YtmckajgacfjnhaaGreatDoorQPlWalk
import Derived.Test.YtmckajgacfjnhaaGreatDoorQTold
import Derived.Test.YtmckajgacfjnhaaGreatDoorQNewAll
namespace Go.Proofs.YtmckajgacfjnhaaGreatDoor
open Go.RowKit
set_option maxRecDepth 100000 in
set_option maxHeartbeats 2000000 in
theorem plWalk_bad {w : World} {a : Nat → Addr} (hS : Sents w a) (hT : TabP w) (hE : TabE w) (hgs : 13 ≤ w.heap.size) (nm : List UInt8) (P V : Int) (L : List Pb) (hL : L.length ≤ 100000) (hlow : ∀ b ∈ L, LowB b) (hfew : ∀ b ∈ L, b.params.length ≤ 100 ∧ b.ins.length ≤ 100) (ba : Option Addr) (bc : Nat) (hC : XCo (InH w) w (.slice ba L.length bc) L) (nargs : Nat) (aad : Option Addr) (acap : Nat) (ansv : Value) (ticks : Int) (hbad : (codeF onesE twosE V P L).1 ≠ 0 ∨ (nargs : Int) ≠ P) :
  Calls Tryz.prog 14 #[.agg (codeV nm P V ba L.length bc), .slice aad nargs acap, ansv, .int .i64 ticks] w fun e w' => Below w.heap.size w w' ∧ e = .returned (.agg #[.string ⟨hStuck.toArray⟩, .int .i64 0, .int .i64 0, .slice none 0 0, .slice none 0 0]) := by
 obtain ⟨W0, hW0⟩ : ∃ W0, W0 = (w.alloc (.cells (codeV nm P V ba L.length bc) 31)).alloc (.cells doneZ 48) := ⟨_, rfl⟩
 have hb0 : Below w.heap.size w W0 := by rw [hW0]; (repeat (first | exact Below.refl _ _ | assumption | refine Below.drew ?_ | refine bT ?_ _ | refine bS ?_ _ | refine bA ?_ _))
 have hx0 : W0.heap[w.heap.size]? = some (.cells (codeV nm P V ba L.length bc) 31 (0, 0)) := by rw [hW0]; exact two_alloc w _ _
 have hx1 : W0.heap[w.heap.size + 1]? = some (.cells doneZ 48 (0, 0)) := by rw [hW0]; exact heap_alloc2_new w _ _
 have HCK := hidX (plCheck_any (hS.below hb0) (hT.below hb0) (hE.below hb0) (Nat.le_trans hgs hb0.size) nm P V L hL hlow hfew ba bc (hC.imp (inH_up hb0) (keepH hb0)))
 have HB0 := hidX hb0
 have HX0 := hidX hx0
 have HX1 := hidX hx1
 have HBAD := hidX hbad
 have HW0 := hidX hW0
 clear hS hT hE hlow hfew hC hb0 hx0 hx1 hbad hW0
 go_enter Tryz.func14, Tryz.ntmps14
 go_wp2_with fail
 rw [← HW0.out]
 clear HW0
 refine HCK.out.mono ?_
 intro e W1 hft
 obtain ⟨v, rfl, hft2⟩ := ft_val hft
 have HB1 := hidX hft2.1
 have hft3 := ft_codeP hft2
 have hx0 := (HB1.out.block _ (heap_lt HX0.out)).trans HX0.out
 have hx1 := (HB1.out.block _ (heap_lt HX1.out)).trans HX1.out
 have d1 : W1.cell? ⟨w.heap.size, 1, none⟩ = some (.int .i64 P) := cell_of_blk hx0 1
 have f0 := free_of_blk hx1 0
 have f1 := free_of_blk hx1 1
 have f2 := free_of_blk hx1 2
 have f3 := free_of_blk hx1 3
 have f4 := free_of_blk hx1 4
 have i0 := cell_of_blk hx1 0
 have i1 := cell_of_blk hx1 1
 have i2 := cell_of_blk hx1 2
 have i3 := cell_of_blk hx1 3
 have i4 := cell_of_blk hx1 4
 have hw1 : Below w.heap.size w W1 := bl_trans HB0.out HB0.out.size HB1.out
 have HD := hidX hx1
 have HW1 := hidX hw1
 have hdz := heap_lt hx1
 clear hft hft2 hx0 hx1 hw1 HCK HB0 HB1 HX0 HX1
 rcases hft3 with ⟨hc, rfl⟩ | ⟨hc, t, u, rfl⟩
 ·have hne : ((nargs : Int) != P) = true := by
   have : (nargs : Int) ≠ P := by
    rcases HBAD.out with h | h
    ·exact absurd hc h
    ·exact h
   simpa using this
  clear hc
  go_wp2
  have hx := set5_blk HD.out (.string ⟨hStuck.toArray⟩) (.int .i64 0) (.int .i64 0) (.slice none 0 0) (.slice none 0 0)
  exact ret_row (w.heap.size + 1) 8 _ 48 rfl rfl hx Tryz.underlying48 (by kernel_rfl) ⟨((((HW1.out.setCell (by show w.heap.size ≤ w.heap.size + 1; omega) _).setCell (by show w.heap.size ≤ w.heap.size + 1; omega) _).setCell (by show w.heap.size ≤ w.heap.size + 1; omega) _).setCell (by show w.heap.size ≤ w.heap.size + 1; omega) _).setCell (by show w.heap.size ≤ w.heap.size + 1; omega) _, rfl⟩
 ·clear hc
  go_wp2
  have hx := set5_blk HD.out (.string ⟨hStuck.toArray⟩) (.int .i64 0) (.int .i64 0) (.slice none 0 0) (.slice none 0 0)
  exact ret_row (w.heap.size + 1) 8 _ 48 rfl rfl hx Tryz.underlying48 (by kernel_rfl) ⟨((((HW1.out.setCell (by show w.heap.size ≤ w.heap.size + 1; omega) _).setCell (by show w.heap.size ≤ w.heap.size + 1; omega) _).setCell (by show w.heap.size ≤ w.heap.size + 1; omega) _).setCell (by show w.heap.size ≤ w.heap.size + 1; omega) _).setCell (by show w.heap.size ≤ w.heap.size + 1; omega) _, rfl⟩
end Go.Proofs.YtmckajgacfjnhaaGreatDoor
namespace Go.Proofs.YtmckajgacfjnhaaGreatDoor
open Go.RowKit
def c0I : Pi := ⟨gConst, 0, [], 7, []⟩
def c0B : Pb := ⟨[], [c0I], gReturn, 0, [], []⟩
def c0L : List Pb := [c0B]
theorem c0_well : codeF onesE twosE 1 0 c0L = (0, -1) := by decide +kernel
theorem c0_walk : walkP c0L [] [] 5 100000 0 st0 (fun _ => none) = ⟨hDone, 7, 0, [], []⟩ := by
 have hb : blkAt c0L ((0 : Nat) : Int) = c0B := rfl
 have h1 : insPs [] [] 5 [c0I] st0 (fun _ => none) = (st0, setP (fun _ => none) (0, 7)) := rfl
 have h2 : blockP c0L [] [] 5 c0B st0 (fun _ => none) = (retR 7 st0, setP (fun _ => none) (0, 7), 0) := by
  unfold blockP
  rw [show c0B.ins = [c0I] from rfl, h1]
  rfl
 show (if (blockP c0L [] [] 5 (blkAt c0L ((0 : Nat) : Int)) st0 (fun _ => none)).1.how ≠ [] then _ else _) = _
 rw [hb, h2]
 rfl
theorem c0_low : ∀ b ∈ c0L, LowB b := by
 intro b hb
 have : b = c0B := by simpa [c0L] using hb
 subst this
 exact ⟨by decide, by decide, by decide, by decide, by decide, by decide⟩
abbrev c0C : Array Value := #[.string ⟨gConst.toArray⟩, .int .i64 0, .slice none 0 0, .int .i64 7, .string ⟨#[]⟩]
abbrev c0D (ib : Nat) : Array Value := #[.slice none 0 0, .slice (some ⟨ib, 0, none⟩) 1 1, .string ⟨gReturn.toArray⟩, .int .i64 0, .slice none 0 0, .slice none 0 0]
theorem c0_rep {W : World} {ib nb : Nat} (hi : W.heap[ib]? = some (.cells c0C 52 (0, 0))) (hn : W.heap[nb]? = some (.cells (c0D ib) 56 (0, 0))) : XCo (InH W) W (.slice (some ⟨nb, 0, none⟩) c0L.length 1) c0L := by
 refine ⟨(c0D ib).toList, ⟨_, _, rfl, fun _ => ⟨nb, 0, rfl, heap_lt hn, fun j u hu => by rw [Nat.zero_add, cell_of_blk hn]; simpa using hu⟩⟩, (c0D ib).toList, [], by simp, ?_, rfl⟩
 refine ⟨none, 0, some ⟨ib, 0, none⟩, 1, none, 0, none, 0, rfl, xrow_nil _ _, ⟨c0C.toList, ⟨_, _, rfl, fun _ => ⟨ib, 0, rfl, heap_lt hi, fun j u hu => by rw [Nat.zero_add, cell_of_blk hi]; simpa using hu⟩⟩, c0C.toList, [], by simp, ⟨none, 0, rfl, xrow_nil _ _⟩, rfl⟩, xrow_nil _ _, ⟨[], xrow_nil _ _, rfl⟩⟩
set_option maxRecDepth 100000 in
set_option maxHeartbeats 2000000 in
theorem placed_any {w : World} {a : Nat → Addr} (hS : Sents w a) (hT : TabP w) (hE : TabE w) (hgs : 13 ≤ w.heap.size) :
  Calls Tryz.prog 4 #[] w fun e w' => e = .returned (.bool true) ∧ Below w.heap.size w w' := by
 have hck := fun (X : World) (hb : Below w.heap.size w X) (ib nb : Nat) hi hn => plCheck_any (hS.below hb) (hT.below hb) (hE.below hb) (Nat.le_trans hgs hb.size) [] 0 1 c0L (by decide) c0_low (by decide) (some ⟨nb, 0, none⟩) 1 (c0_rep (W := X) (ib := ib) (nb := nb) hi hn)
 have hwk := fun (X : World) (hb : Below w.heap.size w X) (ib nb : Nat) hi hn => plWalk_any (hS.below hb) (hT.below hb) (hE.below hb) (Nat.le_trans hgs hb.size) [] 0 1 c0L c0_low (by decide) (some ⟨nb, 0, none⟩) 1 (c0_rep (W := X) (ib := ib) (nb := nb) hi hn) (by rw [c0_well]) [] rfl none 0 (xrow_nil _ _) [] none 0 (xrow_nil _ _) (by decide) 5 (by decide)
 rw [c0_walk] at hwk
 have HCK := hidX hck
 have HWK := hidX hwk
 clear hck hwk hS hT hE
 go_enter Tryz.func4, Tryz.ntmps4
 go_wp2_with fail
 obtain ⟨t0, t1, t2⟩ := threeG w (.cells c0C 52) (.cells (c0D w.heap.size) 56) (.cells #[.string ⟨#[]⟩, .int .i64 0, .int .i64 1, .slice (some ⟨w.heap.size + 1, 0, none⟩) 1 1] 31)
 have hb0 : Below w.heap.size w (((w.alloc (.cells c0C 52)).alloc (.cells (c0D w.heap.size) 56)).alloc (.cells #[.string ⟨#[]⟩, .int .i64 0, .int .i64 1, .slice (some ⟨w.heap.size + 1, 0, none⟩) 1 1] 31)) := by (repeat (first | exact Below.refl _ _ | assumption | refine Below.drew ?_ | refine bT ?_ _ | refine bS ?_ _ | refine bA ?_ _))
 have hwk0 := HWK.out _ hb0 w.heap.size (w.heap.size + 1) t0 t1
 obtain ⟨W0, hW0⟩ : ∃ W0, W0 = (((w.alloc (.cells c0C 52)).alloc (.cells (c0D w.heap.size) 56)).alloc (.cells #[.string ⟨#[]⟩, .int .i64 0, .int .i64 1, .slice (some ⟨w.heap.size + 1, 0, none⟩) 1 1] 31)) := ⟨_, rfl⟩
 rw [← hW0] at t0 t1 t2 hb0 hwk0
 have hwk1 : Calls Tryz.prog 14 _ _ _ := hwk0
 rw [hW0] at hwk1
 refine hwk1.mono ?_
 rw [← hW0]
 rintro e W2 ⟨hb2, v2, rfl, outv, callv, xs2, rfl, ho2, hc2, _⟩
 obtain ⟨oo, co, rfl⟩ := ho2.is
 obtain ⟨oc, cc, rfl⟩ := hc2.is
 have hb2' : Below W0.heap.size W0 W2 := hb2
 have hx0 := (hb2'.block _ (heap_lt t0)).trans t0
 have hx1 := (hb2'.block _ (heap_lt t1)).trans t1
 have hx2 := (hb2'.block _ (heap_lt t2)).trans t2
 have hw2 : Below w.heap.size w W2 := bl_trans hb0 hb0.size hb2'
 clear ho2 hc2 hwk0 hwk1 hb2 hb2' t0 t1 t2 hb0 HWK
 clear hW0
 obtain ⟨W3, hW3⟩ : ∃ W3, W3 = W2.alloc (.cells #[.string ⟨hDone.toArray⟩, .int .i64 7, .int .i64 0, .slice oo 0 co, .slice oc 0 cc] 48) := ⟨_, rfl⟩
 have hb3 : Below W2.heap.size W2 W3 := by rw [hW3]; (repeat (first | exact Below.refl _ _ | assumption | refine Below.drew ?_ | refine bT ?_ _ | refine bS ?_ _ | refine bA ?_ _))
 have hx3 : W3.heap[W2.heap.size]? = some (.cells #[.string ⟨hDone.toArray⟩, .int .i64 7, .int .i64 0, .slice oo 0 co, .slice oc 0 cc] 48 (0, 0)) := by rw [hW3]; exact heap_alloc_new _ _
 have hy0 := (hb3.block _ (heap_lt hx0)).trans hx0
 have hy1 := (hb3.block _ (heap_lt hx1)).trans hx1
 have hw3 : Below w.heap.size w W3 := bl_trans hw2 hw2.size hb3
 have HCC := hidX (HCK.out W3 hw3 w.heap.size (w.heap.size + 1) hy0 hy1)
 have e0 : W2.cell? ⟨w.heap.size + 1 + 1, 0, none⟩ = some (.string ⟨#[]⟩) := cell_of_blk hx2 0
 have e1 : W2.cell? ⟨w.heap.size + 1 + 1, 1, none⟩ = some (.int .i64 0) := cell_of_blk hx2 1
 have e2 : W2.cell? ⟨w.heap.size + 1 + 1, 2, none⟩ = some (.int .i64 1) := cell_of_blk hx2 2
 have e3 : W2.cell? ⟨w.heap.size + 1 + 1, 3, none⟩ = some (.slice (some ⟨w.heap.size + 1, 0, none⟩) 1 1) := cell_of_blk hx2 3
 have hz2 := heap_lt hx2
 have HX3 := hidX hx3
 have HW3 := hidX hW3
 have HB3 := hidX hw3
 have HCN := hidX fun W => codedL_nil W
 clear hx0 hx1 hx2 hw2 hb3 hx3 hy0 hy1 hw3 hW3 HCK
 go_wp2_with fail
 have hcc := HCC.out
 rw [HW3.out] at hcc
 refine hcc.mono ?_
 rw [← HW3.out]
 intro e W4 hft
 obtain ⟨v, rfl, hft2⟩ := ft_val hft
 have hv0 : v = .nilIface := by
  rcases ft_codeP hft2 with h | h
  ·exact h.2
  ·rw [c0_well] at h; exact absurd rfl h.1
 subst hv0
 have hb4 := hft2.1
 have hx4 := (hb4.block _ (heap_lt HX3.out)).trans HX3.out
 have f0 : W4.cell? ⟨W2.heap.size, 0, none⟩ = some (.string ⟨hDone.toArray⟩) := cell_of_blk hx4 0
 have f1 : W4.cell? ⟨W2.heap.size, 1, none⟩ = some (.int .i64 7) := cell_of_blk hx4 1
 have HW4 := hidX (show Below w.heap.size w W4 from bl_trans HB3.out HB3.out.size hb4)
 clear hft hft2 hb4 hx4 hcc HCC e0 e1 e2 e3 HW3 HX3
 go_wp2_with (go_at_call 15; refine (HCN.out _).mono ?_; rintro e w' ⟨rfl, hh⟩; replace hh := hh.symm; subst hh)
 go_ret
 exact ⟨rfl, HW4.out⟩
end Go.Proofs.YtmckajgacfjnhaaGreatDoor
