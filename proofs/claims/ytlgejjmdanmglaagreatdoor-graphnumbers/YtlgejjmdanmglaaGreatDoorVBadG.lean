/- Our own: texts joined: GrGraphed. -/
import Derived.Test.YtlgejjmdanmglaaGreatDoorVStepAll
import Derived.Test.YtlgejjmdanmglaaGreatDoorVGrSoundW
import Derived.Test.YtlgejjmdanmglaaGreatDoorVTold
namespace Go.Proofs.YtlgejjmdanmglaaGreatDoor
open Go.RowKit
def g0L : List Nd := [⟨gStart, [], 0, []⟩, ⟨gParam, [], 0, []⟩, ⟨gReturn, [0, 1], 0, []⟩]
theorem g0_kind (i : Nat) : (ndAt g0L i).kind = gStart ∨ (ndAt g0L i).kind = gParam ∨ (ndAt g0L i).kind = gReturn ∨ (ndAt g0L i).kind = [] := by
 rcases i with _ | _ | _ | i
 ·exact Or.inl rfl
 ·exact Or.inr (Or.inl rfl)
 ·exact Or.inr (Or.inr (Or.inl rfl))
 ·refine Or.inr (Or.inr (Or.inr ?_))
  have : g0L[(((i + 1 + 1 + 1 : Nat) : Int)).toNat]? = none := by rw [Int.toNat_natCast]; rfl
  unfold ndAt
  rw [this]
  rfl
theorem g0_reck (i : Nat) : reck g0L i = [] := by
 unfold reck
 rw [if_neg]
 rcases g0_kind i with h | h | h | h <;> rw [h] <;> decide
theorem g0_hang (i : Nat) : hangC g0L i = 0 := by
 unfold hangC
 rw [if_neg]
 rintro ⟨b, h, _⟩
 unfold Rk at h
 rw [g0_reck] at h
 simp at h
theorem g0_well : (faultG onesE twosE 1 g0L).1 = 0 := by
 unfold faultG faultW
 have h1 : firstC (nodeC onesE twosE 1 g0L) g0L.length 0 = (0, -1) := by decide +kernel
 have h2 : firstC (tkC g0L) g0L.length 0 = (0, -1) := by decide +kernel
 have h3 : firstC (hangC g0L) g0L.length 0 = (0, -1) := by
  show firstC (hangC g0L) 3 0 = (0, -1)
  simp [firstC, g0_hang]
 rw [if_neg (by decide), if_neg (by decide), if_neg (by decide), h1, h2, h3]
 rfl
theorem g0_sound : SoundP g0L := by
 intro i _ hk
 exfalso
 rcases g0_kind i with h | h | h | h <;> rw [h] at hk <;> exact absurd hk (by decide)
theorem g0_low : ∀ n ∈ g0L, LowN n := by
 intro n hn
 simp only [g0L, List.mem_cons, List.not_mem_nil, or_false] at hn
 rcases hn with rfl | rfl | rfl
 ·exact ⟨by decide, by decide, by decide, by decide, by simp⟩
 ·exact ⟨by decide, by decide, by decide, by decide, by simp⟩
 ·exact ⟨by decide, by decide, by decide, by decide, by simp⟩
theorem g0_ask : askL g0L 2 0 = [((1 : Nat) : Int)] := by
 unfold askL
 rw [if_neg (by decide)]
 rfl
def g0C (ib : Nat) : List Value := [.string ⟨gStart.toArray⟩, .slice none 0 0, .int .i64 0, .string ⟨#[]⟩, .string ⟨gParam.toArray⟩, .slice none 0 0, .int .i64 0, .string ⟨#[]⟩, .string ⟨gReturn.toArray⟩, .slice (some ⟨ib, 0, none⟩) 2 2, .int .i64 0, .string ⟨#[]⟩]
theorem g0_rep {W : World} {ib nb : Nat} (hi : W.heap[ib]? = some (.cells #[.int .i64 0, .int .i64 1] 3 (0, 0))) (hn : W.heap[nb]? = some (.cells (g0C ib).toArray 55 (0, 0))) : XG true (InH W) W (.slice (some ⟨nb, 0, none⟩) 3 3) g0L := by
 refine ⟨g0C ib, ⟨_, _, rfl, fun _ => ⟨nb, 0, rfl, heap_lt hn, fun j u hu => by rw [Nat.zero_add, cell_of_blk hn, List.getElem?_toArray]; exact hu⟩⟩, ?_⟩
 refine ⟨[.string ⟨gStart.toArray⟩, .slice none 0 0, .int .i64 0, .string ⟨#[]⟩], _, rfl, ⟨none, 0, rfl, fun _ => Nat.le_refl _, xrow_nil _ _⟩, [.string ⟨gParam.toArray⟩, .slice none 0 0, .int .i64 0, .string ⟨#[]⟩], _, rfl, ⟨none, 0, rfl, fun _ => Nat.le_refl _, xrow_nil _ _⟩, [.string ⟨gReturn.toArray⟩, .slice (some ⟨ib, 0, none⟩) 2 2, .int .i64 0, .string ⟨#[]⟩], _, rfl, ⟨some ⟨ib, 0, none⟩, 2, rfl, fun _ => Nat.le_refl _, ?_⟩, rfl⟩
 exact ⟨_, _, rfl, fun _ => ⟨ib, 0, rfl, heap_lt hi, fun j u hu => by rw [Nat.zero_add, cell_of_blk hi, List.getElem?_toArray]; exact hu⟩⟩
theorem g0_walk : walkW g0L [7] [] 5 100000 0 st0 (fun _ => none) = ⟨hDone, 7, 0, [], []⟩ := by
 have hW := wellG g0_well
 have hv : valOf g0L [7] (fun _ => none) 1 = some 7 := by
  rw [valOf_is hW [7] (fun _ => none) 1 (by decide)]
  rfl
 have ht : tkAt g0L 0 = (2, 0) := by decide
 have hstep : stepW g0L [7] [] 5 2 0 st0 (fun _ => none) = (retR 7 st0, fun _ => none, 2) := by
  unfold stepW
  rw [g0_ask, show natL [((1 : Nat) : Int)] = [1] from rfl, show askX (valOf g0L [7] (fun _ => none)) [1] = some [7] from by unfold askX; rw [hv]; rfl]
  rfl
 show (let r := stepW g0L [7] [] 5 (tkAt g0L 0).1 (tkAt g0L 0).2 st0 (fun _ => none); if r.1.how ≠ [] then r.1 else walkW g0L [7] [] 5 99999 r.2.2 r.1 r.2.1) = _
 rw [ht, hstep]
 rfl
set_option maxRecDepth 100000 in
set_option maxHeartbeats 2000000 in
theorem graphed_any {w : World} {a : Nat → Addr} (hS : Sents w a) (hT : TabG w) :
  Calls Tryz.prog 6 #[] w fun e w' => e = .returned (.bool true) ∧ Below w.heap.size w w' := by
 obtain ⟨W0, hW0⟩ : ∃ W0, W0 = ((w.alloc (.cells #[.int .i64 0, .int .i64 1] 3)).alloc (.cells (g0C w.heap.size).toArray 55)).alloc (.cells #[.string ⟨#[]⟩, .int .i64 1, .slice (some ⟨w.heap.size + 1, 0, none⟩) 3 3] 29) := ⟨_, rfl⟩
 obtain ⟨t0, t1, t2⟩ := threeG w (.cells #[.int .i64 0, .int .i64 1] 3) (.cells (g0C w.heap.size).toArray 55) (.cells #[.string ⟨#[]⟩, .int .i64 1, .slice (some ⟨w.heap.size + 1, 0, none⟩) 3 3] 29)
 rw [← hW0] at t0 t1 t2
 have hb0 : Below w.heap.size w W0 := by rw [hW0]; (repeat (first | exact Below.refl _ _ | assumption | refine Below.drew ?_ | refine bT ?_ _ | refine bS ?_ _ | refine bA ?_ _))
 have hz0 : W0.heap.size = w.heap.size + 1 + 1 + 1 := by rw [hW0]; simp
 have hG0 := g0_rep t0 t1
 obtain ⟨W1, hW1⟩ : ∃ W1, W1 = W0.alloc (.cells #[.int .i64 7] 3) := ⟨_, rfl⟩
 have hb1 : Below W0.heap.size W0 W1 := by rw [hW1]; (repeat (first | exact Below.refl _ _ | assumption | refine Below.drew ?_ | refine bT ?_ _ | refine bS ?_ _ | refine bA ?_ _))
 have hx1 : W1.heap[w.heap.size + 1 + 1 + 1]? = some (.cells #[.int .i64 7] 3 (0, 0)) := by
  rw [hW1]
  have := heap_alloc_new W0 (.cells #[.int .i64 7] 3)
  rwa [hz0] at this
 have hw1 : Below w.heap.size w W1 := bl_trans hb0 hb0.size hb1
 have hG1 := hG0.imp (inH_up hb1) (keepH hb1)
 have hrow : XRow (InH W1) W1 (.slice (some ⟨w.heap.size + 1 + 1 + 1, 0, none⟩) 1 1) ([7] : List Int).length (intsG [7]) := ⟨_, _, rfl, fun _ => ⟨_, 0, rfl, heap_lt hx1, fun j u hu => by rw [Nat.zero_add, cell_of_blk hx1, List.getElem?_toArray]; exact hu⟩⟩
 have hwk := walk_any (hS.below hw1) (hT.below hw1) [] 1 _ g0L g0_low hG1 g0_well [7] _ (.slice none 0 0) rfl hrow [] (xrow_nil _ _) (by decide) 5
 rw [g0_walk] at hwk
 have HWK := hidX hwk
 have HS := hidX hS
 have HT := hidX hT
 have HG0 := hidX hG0
 have HB0 := hidX hb0
 have HX2 := hidX t2
 have HW1 := hidX hw1
 have HB1 := hidX hb1
 have HZ0 := hidX hz0
 have d0 := cell_of_blk t2 0
 have d1 := cell_of_blk t2 1
 have d2 := cell_of_blk t2 2
 simp only [List.getElem?_toArray, List.getElem?_cons_zero, List.getElem?_cons_succ] at d0 d1 d2
 clear hwk hS hT t0 t1 t2 hb0 hG0 hb1 hx1 hw1 hG1 hrow hz0
 go_enter Tryz.func6, Tryz.ntmps6
 go_wp2_with fail
 have HWB := hidX (show Below w.heap.size w W1 ∧ Below W0.heap.size W0 W1 from ⟨HW1.out, HB1.out⟩)
 refine (show Calls Tryz.prog 18 _ _ _ from (by
  have h := HWK.out
  rw [hW1, hW0] at h
  exact h.mono (fun e w' h => h))).mono ?_
 rintro e W2 ⟨hb2, v2, rfl, outv, callv, xs2, rfl, ho2, hc2, _⟩
 obtain ⟨oo, co, rfl⟩ := ho2.is
 obtain ⟨oc, cc, rfl⟩ := hc2.is
 clear ho2 hc2
 have hb2' : Below W1.heap.size W1 W2 := by rw [hW1, hW0]; exact hb2
 have hw02 : Below W0.heap.size W0 W2 := bl_trans HB1.out HB1.out.size hb2'
 clear hb2 hb2' d0 d1 d2 hW1 hW0
 obtain ⟨W3, hW3⟩ : ∃ W3, W3 = W2.alloc (.cells #[.string ⟨hDone.toArray⟩, .int .i64 7, .int .i64 0, .slice oo 0 co, .slice oc 0 cc] 50) := ⟨_, rfl⟩
 have hb3 : Below W2.heap.size W2 W3 := by rw [hW3]; (repeat (first | exact Below.refl _ _ | assumption | refine Below.drew ?_ | refine bT ?_ _ | refine bS ?_ _ | refine bA ?_ _))
 have hx3 : W3.heap[W2.heap.size]? = some (.cells #[.string ⟨hDone.toArray⟩, .int .i64 7, .int .i64 0, .slice oo 0 co, .slice oc 0 cc] 50 (0, 0)) := by rw [hW3]; exact heap_alloc_new _ _
 have hw03 : Below W0.heap.size W0 W3 := bl_trans hw02 hw02.size hb3
 have hw3 : Below w.heap.size w W3 := bl_trans HB0.out HB0.out.size hw03
 have hgx := (hw03.block _ (heap_lt HX2.out)).trans HX2.out
 have e0 := cell_of_blk hgx 0
 have e1 := cell_of_blk hgx 1
 have e2 := cell_of_blk hgx 2
 have hgx2 := (hw02.block _ (heap_lt HX2.out)).trans HX2.out
 have e3 := cell_of_blk hgx2 0
 have e4 := cell_of_blk hgx2 1
 have e5 := cell_of_blk hgx2 2
 have hgz : w.heap.size + 1 + 1 < W2.heap.size := heap_lt hgx2
 simp only [List.getElem?_toArray, List.getElem?_cons_zero, List.getElem?_cons_succ] at e0 e1 e2 e3 e4 e5
 have hG3 := HG0.out.imp (inH_up hw03) (keepH hw03)
 have HCH := hidX (check_any (HS.out.below hw3) (HT.out.below hw3) [] 1 _ g0L (by decide) g0_low hG3)
 have HX3 := hidX hx3
 have HGX := hidX hgx
 have HW3 := hidX hw3
 have HW03 := hidX hw03
 clear hw02 hb3 hx3 hw03 hw3 hgx hG3 hgx2
 go_wp2_with fail
 rw [← hW3]
 clear hW3
 refine HCH.out.mono ?_
 intro e W4 hft
 obtain ⟨ev, rfl, hft2⟩ := ft_val hft
 have hb4 := hft2.1
 rcases ft_code hft2 with ⟨_, rfl⟩ | ⟨hc, _⟩
 ·have hw04 : Below W0.heap.size W0 W4 := bl_trans HW03.out HW03.out.size hb4
  have hw4 : Below w.heap.size w W4 := bl_trans HW3.out HW3.out.size hb4
  have hx4 := (hb4.block _ (heap_lt HX3.out)).trans HX3.out
  have hg4 := (hb4.block _ (heap_lt HGX.out)).trans HGX.out
  have m0 := cell_of_blk hx4 0
  have m1 := cell_of_blk hx4 1
  have n0 := cell_of_blk hg4 0
  have n1 := cell_of_blk hg4 1
  have n2 := cell_of_blk hg4 2
  simp only [List.getElem?_toArray, List.getElem?_cons_zero, List.getElem?_cons_succ] at m0 m1 n0 n1 n2
  have HSD := hidX (sound_any (HS.out.below hw4) (HT.out.below hw4) [] 1 _ g0L (by decide) g0_low (HG0.out.imp (inH_up hw04) (keepH hw04)))
  have HW4 := hidX hw4
  have HCD := hidX (codedL_nil W4)
  clear hft hft2 hb4 hw04 hw4 hx4 hg4 e0 e1 e2 e3 e4 e5
  go_wp2_with fail
  refine HCD.out.mono ?_
  rintro e W5 ⟨rfl, hh⟩
  replace hh := hh.symm
  subst hh
  go_wp2_with fail
  refine HSD.out.mono ?_
  rintro e W6 ⟨hb6, b, rfl, hbi⟩
  have hbt : b = true := hbi.2 ⟨g0_well, g0_sound⟩
  subst hbt
  have HW6 := hidX (bl_trans HW4.out HW4.out.size hb6)
  clear hb6 hbi
  go_wp2
  go_ret
  exact ⟨rfl, HW6.out⟩
 ·exact absurd g0_well hc
end Go.Proofs.YtlgejjmdanmglaaGreatDoor
