/- Our own: texts joined: AlShared. -/
import Derived.Test.YtimccbilkjjakaaDoorZWalkBs
import Derived.Test.YtimccbilkjjakaaDoorZTold
import Derived.Test.YtimccbilkjjakaaDoorZBase
namespace Go.Proofs.YtimccbilkjjakaaDoor
open Go.RowKit
theorem codedA_nil (w : World) : Calls Tryd.prog 15 #[.nilIface, .int .i64 0] w fun e w' => e = .returned (.bool true) ∧ w' = w := by
 go_enter Tryd.func15, Tryd.ntmps15
 go_wp2_with (go_at_call 20; refine (code_nil _).mono ?_; rintro e w' ⟨rfl, rfl⟩)
 go_ret
 exact ⟨rfl, rfl⟩
def c0I : Li := ⟨gConst, 3, 0, 0, 7, []⟩
def c0B : Lb := ⟨[c0I], gReturn, 3, []⟩
def c0L : List Lb := [c0B]
theorem c0_well : lowF onesE twosE 0 0 c0L = (0, -1) := by decide +kernel
theorem c0_walk : walkL2 hStuck c0L [] [] 5 100000 0 st0 (raZ 0) = ⟨hDone, 7, 0, [], []⟩ := by
 have hb : lbAt c0L 0 = c0B := rfl
 have h1 : insLs [] [] 5 [c0I] st0 (raZ 0) = (st0, (raZ 0).put 3 7) := rfl
 have h2 : blockL [] [] 5 c0B st0 (raZ 0) = (retR 7 st0, (raZ 0).put 3 7, 0) := by
  unfold blockL
  rw [show c0B.ins = [c0I] from rfl, h1]
  rfl
 show (if (blockL [] [] 5 (lbAt c0L 0) st0 (raZ 0)).1.how ≠ [] then _ else _) = _
 rw [hb, h2]
 rfl
theorem c0_low : ∀ b ∈ c0L, b.ins.length ≤ 100000 ∧ b.tos.length ≤ 100000 := by
 intro b hb
 have : b = c0B := by simpa [c0L] using hb
 subst this
 exact ⟨by decide, by decide⟩
abbrev c0C : Array Value := #[.string ⟨gConst.toArray⟩, .int .i64 3, .int .i64 0, .int .i64 0, .int .i64 7, .string ⟨#[]⟩]
abbrev c0D (ib : Nat) : Array Value := #[.slice (some ⟨ib, 0, none⟩) 1 1, .string ⟨gReturn.toArray⟩, .int .i64 3, .slice none 0 0]
theorem c0_rep {W : World} {ib nb : Nat} (hi : W.heap[ib]? = some (.cells c0C 52 (0, 0))) (hn : W.heap[nb]? = some (.cells (c0D ib) 55 (0, 0))) : XLC (InH W) W (.slice (some ⟨nb, 0, none⟩) c0L.length 1) c0L := by
 refine ⟨(c0D ib).toList, ⟨_, _, rfl, fun _ => ⟨nb, 0, rfl, heap_lt hn, fun j u hu => by rw [Nat.zero_add, cell_of_blk hn]; simpa using hu⟩⟩, (c0D ib).toList, [], by simp, ?_, rfl⟩
 exact ⟨some ⟨ib, 0, none⟩, 1, none, 0, rfl, ⟨c0C.toList, ⟨_, _, rfl, fun _ => ⟨ib, 0, rfl, heap_lt hi, fun j u hu => by rw [Nat.zero_add, cell_of_blk hi]; simpa using hu⟩⟩, c0C.toList, [], by simp, rfl, rfl⟩, xrow_nil _ _⟩
set_option maxRecDepth 100000 in
set_option maxHeartbeats 2000000 in
theorem shared_any {w : World} {a : Nat → Addr} (hS : Sents w a) (hT : TabA w) :
  Calls Tryd.prog 4 #[] w fun e w' => e = .returned (.bool true) ∧ Below w.heap.size w w' := by
 have hck := fun (X : World) (hb : Below w.heap.size w X) (ib nb : Nat) hi hn => alCheck_any (hS.below hb) (hT.below hb) [] 0 0 c0L (by decide) c0_low (some ⟨nb, 0, none⟩) 1 (c0_rep (W := X) (ib := ib) (nb := nb) hi hn)
 have hwk := fun (X : World) (hb : Below w.heap.size w X) (ib nb : Nat) hi hn => alWalk_any (hS.below hb) (hT.below hb) [] 0 0 c0L c0_low (some ⟨nb, 0, none⟩) 1 (c0_rep (W := X) (ib := ib) (nb := nb) hi hn) (by rw [c0_well]) [] rfl none 0 (xrow_nil _ _) [] none 0 (xrow_nil _ _) (by decide) 5 (by decide)
 simp only [show (0 : Int).toNat = 0 from rfl, c0_walk] at hwk
 have HCK := hidX hck
 have HWK := hidX hwk
 clear hck hwk hS hT
 go_enter Tryd.func4, Tryd.ntmps4
 go_wp2_with fail
 obtain ⟨t0, t1, t2⟩ := threeG w (.cells c0C 52) (.cells (c0D w.heap.size) 55) (.cells #[.string ⟨#[]⟩, .int .i64 0, .int .i64 0, .slice (some ⟨w.heap.size + 1, 0, none⟩) 1 1] 31)
 have hb0 : Below w.heap.size w (((w.alloc (.cells c0C 52)).alloc (.cells (c0D w.heap.size) 55)).alloc (.cells #[.string ⟨#[]⟩, .int .i64 0, .int .i64 0, .slice (some ⟨w.heap.size + 1, 0, none⟩) 1 1] 31)) := by (repeat (first | exact Below.refl _ _ | assumption | refine Below.drew ?_ | refine bT ?_ _ | refine bS ?_ _ | refine bA ?_ _))
 have hwk0 := HWK.out _ hb0 w.heap.size (w.heap.size + 1) t0 t1
 obtain ⟨W0, hW0⟩ : ∃ W0, W0 = (((w.alloc (.cells c0C 52)).alloc (.cells (c0D w.heap.size) 55)).alloc (.cells #[.string ⟨#[]⟩, .int .i64 0, .int .i64 0, .slice (some ⟨w.heap.size + 1, 0, none⟩) 1 1] 31)) := ⟨_, rfl⟩
 rw [← hW0] at t0 t1 t2 hb0 hwk0
 have hwk1 : Calls Tryd.prog 14 _ _ _ := hwk0
 rw [hW0] at hwk1
 refine hwk1.mono ?_
 rw [← hW0]
 rintro e W2 ⟨hb2, v2, rfl, outv, callv, xs2, rfl, ho2, hc2, _⟩
 obtain ⟨oo, co, rfl⟩ := ho2.is
 obtain ⟨oc, cc, rfl⟩ := hc2.is
 have hb2' : Below W0.heap.size W0 W2 := hb2
 have hx0 := (hb2'.block _ (heap_lt t0)).trans t0
 have hx1 := (hb2'.block _ (heap_lt t1)).trans t1
 have hx2 := (hb2'.block _ (heap_lt t2)).trans t2
 have hw2 : Below w.heap.size w W2 := bl_trans hb0 hb0.size hb2'
 clear ho2 hc2 hwk0 hwk1 hb2 hb2' t0 t1 t2 hb0 HWK
 clear hW0
 obtain ⟨W3, hW3⟩ : ∃ W3, W3 = W2.alloc (.cells #[.string ⟨hDone.toArray⟩, .int .i64 7, .int .i64 0, .slice oo 0 co, .slice oc 0 cc] 48) := ⟨_, rfl⟩
 have hb3 : Below W2.heap.size W2 W3 := by rw [hW3]; (repeat (first | exact Below.refl _ _ | assumption | refine Below.drew ?_ | refine bT ?_ _ | refine bS ?_ _ | refine bA ?_ _))
 have hx3 : W3.heap[W2.heap.size]? = some (.cells #[.string ⟨hDone.toArray⟩, .int .i64 7, .int .i64 0, .slice oo 0 co, .slice oc 0 cc] 48 (0, 0)) := by rw [hW3]; exact heap_alloc_new _ _
 have hy0 := (hb3.block _ (heap_lt hx0)).trans hx0
 have hy1 := (hb3.block _ (heap_lt hx1)).trans hx1
 have hw3 : Below w.heap.size w W3 := bl_trans hw2 hw2.size hb3
 have HCC := hidX (HCK.out W3 hw3 w.heap.size (w.heap.size + 1) hy0 hy1)
 have e0 : W2.cell? ⟨w.heap.size + 1 + 1, 0, none⟩ = some (.string ⟨#[]⟩) := cell_of_blk hx2 0
 have e1 : W2.cell? ⟨w.heap.size + 1 + 1, 1, none⟩ = some (.int .i64 0) := cell_of_blk hx2 1
 have e2 : W2.cell? ⟨w.heap.size + 1 + 1, 2, none⟩ = some (.int .i64 0) := cell_of_blk hx2 2
 have e3 : W2.cell? ⟨w.heap.size + 1 + 1, 3, none⟩ = some (.slice (some ⟨w.heap.size + 1, 0, none⟩) 1 1) := cell_of_blk hx2 3
 have hz2 := heap_lt hx2
 have HX3 := hidX hx3
 have HW3 := hidX hW3
 have HB3 := hidX hw3
 have HCN := hidX fun W => codedA_nil W
 clear hx0 hx1 hx2 hw2 hb3 hx3 hy0 hy1 hw3 hW3 HCK
 go_wp2_with fail
 have hcc := HCC.out
 rw [HW3.out] at hcc
 refine hcc.mono ?_
 rw [← HW3.out]
 intro e W4 hft
 obtain ⟨v, rfl, hft2⟩ := ft_val hft
 have hv0 : v = .nilIface := by
  rcases ft_codeP hft2 with h | h
  ·exact h.2
  ·rw [c0_well] at h; exact absurd rfl h.1
 subst hv0
 have hb4 := hft2.1
 have hx4 := (hb4.block _ (heap_lt HX3.out)).trans HX3.out
 have f0 : W4.cell? ⟨W2.heap.size, 0, none⟩ = some (.string ⟨hDone.toArray⟩) := cell_of_blk hx4 0
 have f1 : W4.cell? ⟨W2.heap.size, 1, none⟩ = some (.int .i64 7) := cell_of_blk hx4 1
 have HW4 := hidX (show Below w.heap.size w W4 from bl_trans HB3.out HB3.out.size hb4)
 clear hft hft2 hb4 hx4 hcc HCC e0 e1 e2 e3 HW3 HX3
 go_wp2_with (go_at_call 15; refine (HCN.out _).mono ?_; rintro e w' ⟨rfl, hh⟩; replace hh := hh.symm; subst hh)
 go_ret
 exact ⟨rfl, HW4.out⟩
end Go.Proofs.YtimccbilkjjakaaDoor
