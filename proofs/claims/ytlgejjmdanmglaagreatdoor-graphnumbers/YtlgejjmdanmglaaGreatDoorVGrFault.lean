/- Our own: texts joined: GrFault. -/
import Derived.Test.YtlgejjmdanmglaaGreatDoorVHangQ
import Derived.Test.YtlgejjmdanmglaaGreatDoorVRefAF
import Derived.Test.YtlgejjmdanmglaaGreatDoorVGrRefB
import Derived.Test.YtlgejjmdanmglaaGreatDoorVGrRefC
import Derived.Test.YtlgejjmdanmglaaGreatDoorVGrRefD
import Derived.Test.YtlgejjmdanmglaaGreatDoorVGrRefE
import Derived.Test.YtlgejjmdanmglaaGreatDoorVGrRefG
namespace Go.Proofs.YtlgejjmdanmglaaGreatDoor
open Go.RowKit
theorem bareG (c : Int) (w : World) : Calls Tryz.prog 20 #[.int .i64 c] w fun e w' => e = .returned (.agg #[.int .i64 c, .int .i64 (-1)]) ∧ Below w.heap.size w w' := by
 go_enter Tryz.func20, Tryz.ntmps20
 go_wp2
 exact bodyPost_ret (v := .agg #[.int .i64 c, .int .i64 (-1)]) (by simp [results, Tryz.results20, go_sem]) rfl ⟨rfl, by (repeat (first | exact Below.refl _ _ | assumption | refine Below.drew ?_ | refine bT ?_ _ | refine bS ?_ _ | refine bA ?_ _))⟩
theorem fineG (w : World) : Calls Tryz.prog 26 #[] w fun e w' => e = .returned (.agg #[.int .i64 0, .int .i64 (-1)]) ∧ Below w.heap.size w w' := by
 go_enter Tryz.func26, Tryz.ntmps26
 go_wp2
 exact bodyPost_ret (v := .agg #[.int .i64 0, .int .i64 (-1)]) (by simp [results, Tryz.results26, go_sem]) rfl ⟨rfl, by (repeat (first | exact Below.refl _ _ | assumption | refine Below.drew ?_ | refine bT ?_ _ | refine bS ?_ _ | refine bA ?_ _))⟩
set_option maxRecDepth 100000 in
set_option maxHeartbeats 1000000 in
theorem rNode_none {w : World} {g off cap : Nat} {ad1 : Option Addr} {cap1 : Nat} {P : Int} {L : List Nd} {i : Nat} (nm0 : List UInt8) (k : List UInt8) (hk : shp k = noShp) (ni : List Int) (nn : Int) (nm : List UInt8) (h : Rn w g off cap ad1 cap1 P L i ⟨k, ni, nn, nm⟩) :
  Calls Tryz.prog 21 #[.agg #[.string ⟨nm0.toArray⟩, .int .i64 P, .slice (some ⟨g, off, none⟩) L.length cap], .int .i64 i] w fun e w' => e = .returned (.int .i64 ((nodeC onesE twosE P L i : Nat) : Int)) ∧ Below w.heap.size w w' := by
 have hn := node_none (P := P) h.at0 (show (shp k).kind = [] by rw [hk]; rfl)
 rw [hn]
 have hkb : kindB k = false := by rw [kind_k, hk]; decide
 have hi' : (i : Int) < (L.length : Int) := by have := h.hi; omega
 have hfew : (L.length : Int) ≤ 1000 := by have := h.few; omega
 have k0 := h.k0
 have k1 := h.k1
 have k2 := h.k2
 have k3 := h.k3
 have hgl : g < w.heap.size := h.low
 simp only at k0 k1 k2 k3
 have HKD := hidX (fun X => rKind_any k X)
 rw [hkb] at HKD
 clear h hn hk hkb
 go_enter Tryz.func21, Tryz.ntmps21
 go_wp2_with fail
 refine (HKD.out _).mono ?_
 rintro e W ⟨rfl, hb⟩
 have hb2 : Below w.heap.size w W := bl_trans (show Below w.heap.size w _ by (repeat (first | exact Below.refl _ _ | assumption | refine Below.drew ?_ | refine bT ?_ _ | refine bS ?_ _ | refine bA ?_ _))) (by simp; omega) hb
 clear hb
 go_wp2
 go_ret
 exact ⟨rfl, hb2⟩
theorem rNode_any {w : World} (nm0 : List UInt8) (P : Int) (g off cap : Nat) (L : List Nd) (hL : L.length ≤ 1000) (hlow : ∀ n ∈ L, LowN n) (hG : XG false (InH w) w (.slice (some ⟨g, off, none⟩) L.length cap) L) (i : Nat) (hi : i < L.length) :
  Calls Tryz.prog 21 #[.agg #[.string ⟨nm0.toArray⟩, .int .i64 P, .slice (some ⟨g, off, none⟩) L.length cap], .int .i64 i] w fun e w' => e = .returned (.int .i64 ((nodeC onesE twosE P L i : Nat) : Int)) ∧ Below w.heap.size w w' := by
 obtain ⟨g', off', ad1, cap1, e1, hg, _, hr, k0, k1, k2, k3⟩ := hG.node hi
 injection e1 with e1
 injection e1 with e1 e2
 subst e1 e2
 have h : Rn w g off cap ad1 cap1 P L i L[i] := ⟨hG, hg, ndAt_get hi, hi, k0, k1, k2, k3, hr, hlow _ (List.getElem_mem hi), hlow, hL⟩
 generalize L[i] = n at h
 obtain ⟨k, ni, nn, nm⟩ := n
 rcases kind_cases k with rfl | rfl | rfl | rfl | rfl | rfl | rfl | rfl | rfl | rfl | rfl | rfl | rfl | rfl | ⟨hk, _⟩
 ·exact rNode_start nm0 ni nn nm h
 ·exact rNode_param nm0 ni nn nm h
 ·exact rNode_const nm0 ni nn nm h
 ·exact rNode_one nm0 ni nn nm h
 ·exact rNode_two nm0 ni nn nm h
 ·exact rNode_phi nm0 ni nn nm h
 ·exact rNode_region nm0 ni nn nm h
 ·exact rNode_if nm0 ni nn nm h
 ·exact rNode_yes nm0 ni nn nm h
 ·exact rNode_no nm0 ni nn nm h
 ·exact rNode_tick nm0 ni nn nm h
 ·exact rNode_print nm0 ni nn nm h
 ·exact rNode_call nm0 ni nn nm h
 ·exact rNode_return nm0 ni nn nm h
 ·exact rNode_none nm0 k hk ni nn nm h
theorem ways_le {ones twos : List (List UInt8)} {P : Int} {L : List Nd} (h : AllW ones twos P L) : ∀ n ∈ L, waysN n ≤ n.ins.length := by
 intro n hn
 obtain ⟨i, hi⟩ := List.mem_iff_getElem?.1 hn
 have W := h.at hi
 obtain ⟨f1, f2, f3, f4, f5, f6, f7, f8, f9, f10, f11, f12, f13, f14⟩ := fits_len W.fits
 unfold waysN
 split
 ·exact Nat.le_refl _
 ·split
  ·next hk =>
   rcases hk with hk | hk | hk | hk | hk | hk | hk
   ·have := f8 hk; omega
   ·have := f12 hk; omega
   ·have := f14 hk; omega
   ·have := f13 hk; omega
   ·have := f11 hk; omega
   ·have := f9 hk; omega
   ·have := f10 hk; omega
  ·exact Nat.zero_le _
theorem ins_in {ones twos : List (List UInt8)} {P : Int} {L : List Nd} (h : AllW ones twos P L) : ∀ n ∈ L, ∀ y ∈ n.ins, 0 ≤ y ∧ y < (L.length : Int) := by
 intro n hn
 obtain ⟨i, hi⟩ := List.mem_iff_getElem?.1 hn
 exact (h.at hi).bnd
theorem own_pair {w : World} {B : Nat} {ad : Option Addr} {cap y0 y1 : Nat} (h : w.ownsRow B 3 1 (.slice ad ([y0, y1] : List Nat).length cap) ([y0, y1] : List Nat).length (natsG [y0, y1])) : ∃ gl, ad = some ⟨gl, 0, none⟩ ∧ w.cell? ⟨gl, 0, none⟩ = some (.int .i64 (y0 : Int)) ∧ w.cell? ⟨gl, 1, none⟩ = some (.int .i64 (y1 : Int)) := by
 rcases h with ⟨_, ⟨_, h2⟩ | ⟨gl, cp, cur, e, _, h4, _, _, _, h8⟩⟩
 ·simp at h2
 ·injection e with e1 _ _
  refine ⟨gl, e1, ?_, ?_⟩
  ·rw [cell_of_blk h4]
   have : (cur.toList.take (([y0, y1] : List Nat).length * 1))[0]? = some (.int .i64 (y0 : Int)) := by rw [h8]; rfl
   rw [List.getElem?_take_of_lt (by simp)] at this
   simpa using this
  ·rw [cell_of_blk h4]
   have : (cur.toList.take (([y0, y1] : List Nat).length * 1))[1]? = some (.int .i64 (y1 : Int)) := by rw [h8]; rfl
   rw [List.getElem?_take_of_lt (by simp)] at this
   simpa using this
theorem set2_blk {w : World} {r : Nat} {x0 x1 : Value} {t : TypeId} (h : w.heap[r]? = some (.cells #[x0, x1] t (0, 0))) (u0 u1 : Value) : ((w.setCell ⟨r, 0, none⟩ u0).setCell ⟨r, 1, none⟩ u1).heap[r]? = some (.cells #[u0, u1] t (0, 0)) := by
 have := blk_setCell (blk_setCell h 0 u0) 1 u1
 simpa using this
theorem set2_low {B : Nat} {a w : World} {r : Nat} (h : Below B a w) (hr : B ≤ r) (u0 u1 : Value) : Below B a ((w.setCell ⟨r, 0, none⟩ u0).setCell ⟨r, 1, none⟩ u1) := (h.setCell hr _).setCell hr _
structure Rf (w X : World) (nm0 : List UInt8) (P : Int) (gv : Value) : Prop where
 low : Below w.heap.size w X
 box : X.heap[w.heap.size]? = some (.cells #[.string ⟨nm0.toArray⟩, .int .i64 P, gv] 24 (0, 0))
 res : X.heap[w.heap.size + 1]? = some (.cells #[.int .i64 0, .int .i64 0] 32 (0, 0))
theorem Rf.below {w X Y : World} {nm0 : List UInt8} {P : Int} {gv : Value} (h : Rf w X nm0 P gv) (hb : Below X.heap.size X Y) : Rf w Y nm0 P gv :=
 ⟨bl_trans h.low h.low.size hb, (hb.block _ (heap_lt h.box)).trans h.box, (hb.block _ (heap_lt h.res)).trans h.res⟩
theorem fw_bare {onesx twosx : List (List UInt8)} {P : Int} {L : List Nd} {hg : Nat → Nat} : faultW onesx twosx P L hg = if 1000 < L.length then (8, -1) else if L.length = 0 ∨ (ndAt L 0).kind ≠ gStart then (3, -1) else if P < 0 ∨ 4 < P then (9, -1) else firstOf2 (firstC (nodeC onesx twosx P L) L.length 0) (firstOf2 (firstC (tkC L) L.length 0) (firstC hg L.length 0)) := rfl
set_option maxRecDepth 100000 in
set_option maxHeartbeats 4000000 in
theorem rFault_any {w : World} (nm0 : List UInt8) (P : Int) (nv : Value) (L : List Nd) (hL : L.length ≤ 100000) (hlow : ∀ n ∈ L, LowN n) (hG : XG false (InH w) w nv L) :
  Calls Tryz.prog 9 #[.agg #[.string ⟨nm0.toArray⟩, .int .i64 P, nv]] w fun e w' => e = .returned (.agg #[.int .i64 (((faultG onesE twosE P L).1 : Nat) : Int), .int .i64 (faultG onesE twosE P L).2]) ∧ Below w.heap.size w w' := by
 obtain ⟨ad, cap, rfl⟩ := hG.is
 obtain ⟨W0, hW0⟩ : ∃ W0, W0 = (w.alloc (.cells #[.string ⟨nm0.toArray⟩, .int .i64 P, .slice ad L.length cap] 24)).alloc (.cells #[.int .i64 0, .int .i64 0] 32) := ⟨_, rfl⟩
 have hF0 : Rf w W0 nm0 P (.slice ad L.length cap) := ⟨by rw [hW0]; (repeat (first | exact Below.refl _ _ | assumption | refine Below.drew ?_ | refine bT ?_ _ | refine bS ?_ _ | refine bA ?_ _)), by rw [hW0]; exact twoG w _ _, by rw [hW0]; exact heap_alloc2_new w _ _⟩
 have hL' : (L.length : Int) ≤ 100000 := by omega
 have hfw : faultG onesE twosE P L = _ := fw_bare (hg := hangC L)
 generalize faultG onesE twosE P L = res at hfw ⊢
 have HFW := hidX hfw
 have HF0 := hidX hF0
 have HG := hidX hG
 have HLW := hidX hlow
 have hdead : True := trivial
 clear hfw hF0 hG hlow hdead
 by_cases c1 : 1000 < L.length
 ·have hr : res = (8, -1) := by rw [HFW.out, if_pos c1]
  subst hr
  have c1' : (1000 : Int) < (L.length : Int) := by omega
  go_enter Tryz.func9, Tryz.ntmps9
  go_wp2_with fail
  rw [← hW0]
  refine (bareG 8 W0).mono ?_
  rintro e X ⟨rfl, hb⟩
  have HFX := hidX (HF0.out.below hb)
  have x0 := cell_of_blk HFX.out.res 0
  have x1 := cell_of_blk HFX.out.res 1
  have x2 := free_of_blk HFX.out.res 0
  have x3 := free_of_blk HFX.out.res 1
  simp only [List.getElem?_toArray, List.getElem?_cons_zero, List.getElem?_cons_succ] at x0 x1
  clear hW0 hb
  go_wp2
  exact ret_row (w.heap.size + 1) 2 _ 32 rfl rfl (set2_blk HFX.out.res _ _) Tryz.underlying32 (by kernel_rfl) ⟨rfl, set2_low HFX.out.low (Nat.le_succ _) _ _⟩
 ·have c1' : ¬ (1000 : Int) < (L.length : Int) := by omega
  by_cases c2 : L.length = 0
  ·have hL0 : L = [] := List.length_eq_zero_iff.1 c2
   subst hL0
   have hr : res = (3, -1) := by rw [HFW.out, if_neg c1, if_pos (show ([] : List Nd).length = 0 ∨ _ from Or.inl rfl)]
   subst hr
   simp only [List.length_nil] at hW0 HF0
   clear c1' c1 c2 hL'
   go_enter Tryz.func9, Tryz.ntmps9
   go_wp2_with fail
   rw [← hW0]
   refine (bareG 3 W0).mono ?_
   rintro e X ⟨rfl, hb⟩
   have HFX := hidX (HF0.out.below hb)
   have x0 := cell_of_blk HFX.out.res 0
   have x1 := cell_of_blk HFX.out.res 1
   have x2 := free_of_blk HFX.out.res 0
   have x3 := free_of_blk HFX.out.res 1
   simp only [List.getElem?_toArray, List.getElem?_cons_zero, List.getElem?_cons_succ] at x0 x1
   clear hW0 hb
   go_wp2
   exact ret_row (w.heap.size + 1) 2 _ 32 rfl rfl (set2_blk HFX.out.res _ _) Tryz.underlying32 (by kernel_rfl) ⟨rfl, set2_low HFX.out.low (Nat.le_succ _) _ _⟩
  ·have hpos : 0 < L.length := by omega
   have c2' : ¬ (L.length : Int) = 0 := by omega
   have c2'' : ((L.length : Int) == 0) = false := by simpa using c2'
   have c2p : (0 : Int) < (L.length : Int) := by omega
   obtain ⟨g, off, ad1, cap1, e1, hg, _, _, k0, _, _, _⟩ := HG.out.node hpos
   subst e1
   rw [Nat.zero_mul, Nat.add_zero] at k0
   have hgl : g < w.heap.size := hg
   have hnz := ndAt_zero hpos
   generalize hk0 : L[0].kind = kk at k0
   by_cases c3 : kk = gStart
   ·have t1 : (kk == [115, 116, 97, 114, 116]) = true := by rw [c3]; decide
    by_cases c4 : P < 0 ∨ 4 < P
    ·have hr : res = (9, -1) := by rw [HFW.out, if_neg c1, if_neg (by rintro (h | h); exact c2 h; exact h (by rw [hnz, hk0]; exact c3)), if_pos c4]
     subst hr
     clear hk0 hnz c3
     rcases c4 with c4 | c4
     ·skip
      go_enter Tryz.func9, Tryz.ntmps9
      go_wp2_with fail
      rw [← hW0]
      refine (bareG 9 W0).mono ?_
      rintro e X ⟨rfl, hb⟩
      have HFX := hidX (HF0.out.below hb)
      have x0 := cell_of_blk HFX.out.res 0
      have x1 := cell_of_blk HFX.out.res 1
      have x2 := free_of_blk HFX.out.res 0
      have x3 := free_of_blk HFX.out.res 1
      simp only [List.getElem?_toArray, List.getElem?_cons_zero, List.getElem?_cons_succ] at x0 x1
      clear hW0 hb
      go_wp2
      exact ret_row (w.heap.size + 1) 2 _ 32 rfl rfl (set2_blk HFX.out.res _ _) Tryz.underlying32 (by kernel_rfl) ⟨rfl, set2_low HFX.out.low (Nat.le_succ _) _ _⟩
     ·have c5 : ¬ P < 0 := by omega
      go_enter Tryz.func9, Tryz.ntmps9
      go_wp2_with fail
      rw [← hW0]
      refine (bareG 9 W0).mono ?_
      rintro e X ⟨rfl, hb⟩
      have HFX := hidX (HF0.out.below hb)
      have x0 := cell_of_blk HFX.out.res 0
      have x1 := cell_of_blk HFX.out.res 1
      have x2 := free_of_blk HFX.out.res 0
      have x3 := free_of_blk HFX.out.res 1
      simp only [List.getElem?_toArray, List.getElem?_cons_zero, List.getElem?_cons_succ] at x0 x1
      clear hW0 hb
      go_wp2
      exact ret_row (w.heap.size + 1) 2 _ 32 rfl rfl (set2_blk HFX.out.res _ _) Tryz.underlying32 (by kernel_rfl) ⟨rfl, set2_low HFX.out.low (Nat.le_succ _) _ _⟩
    ·have c5 : ¬ P < 0 := fun h => c4 (Or.inl h)
     have c6 : ¬ 4 < P := fun h => c4 (Or.inr h)
     have hres : res = firstOf2 (firstC (nodeC onesE twosE P L) L.length 0) (firstOf2 (firstC (tkC L) L.length 0) (firstC (hangC L) L.length 0)) := by rw [HFW.out, if_neg c1, if_neg (by rintro (h | h); exact c2 h; exact h (by rw [hnz, hk0]; exact c3)), if_neg c4]
     have HRS := hidX hres
     have hL1 : L.length ≤ 1000 := by omega
     have hGX : ∀ X, Below w.heap.size w X → XG false (InH X) X (.slice (some ⟨g, off, none⟩) L.length cap) L := fun X hX => HG.out.imp (inH_up hX) (keepH hX)
     have HGX := hidX hGX
     clear hk0 hnz c3 c4 hres hGX
     go_enter Tryz.func9, Tryz.ntmps9
     go_wp2_with fail
     rw [← hW0]
     clear hW0
     go_loopw [3] (fun vi wr => ∃ q : Nat, q ≤ L.length ∧ vi = .int .i64 q ∧ Hid (Rf w wr nm0 P (.slice (some ⟨g, off, none⟩) L.length cap)) ∧ Hid (firstC (nodeC onesE twosE P L) L.length 0 = firstC (nodeC onesE twosE P L) (L.length - q) q)) (fun vi _ => L.length - (intOf vi).toNat)
     case atStart => exact ⟨0, Nat.zero_le _, rfl, HF0.out, rfl⟩
     case round =>
      obtain ⟨q, hq, rfl, HF, HQ⟩ := hrel
      have b0 := cell_of_blk HF.out.box 0
      have b1 := cell_of_blk HF.out.box 1
      have b2 := cell_of_blk HF.out.box 2
      simp only [List.getElem?_toArray, List.getElem?_cons_zero, List.getElem?_cons_succ] at b0 b1 b2
      by_cases hlt : q < L.length
      ·have hlt' : (q : Int) < (L.length : Int) := by omega
       have HNC := hidX (rNode_any nm0 P g off cap L hL1 HLW.out (HGX.out wr HF.out.low) q hlt)
       have hh := firstC_hit (f := nodeC onesE twosE P L) hlt
       have hp := firstC_step (f := nodeC onesE twosE P L) hlt
       generalize hc : nodeC onesE twosE P L q = c at hh hp HNC
       by_cases cz : c = 0
       ·subst cz
        have HN := hidX (HQ.out.trans (hp rfl))
        clear hh hp hc
        go_wp2_with fail
        refine HNC.out.mono ?_
        rintro e X ⟨rfl, hb⟩
        have HFX := hidX (HF.out.below hb)
        clear hb
        go_wp2
        go_roundw
        case rel => exact ⟨q + 1, by omega, by go_num, HFX.out, HN.out⟩
        case measure => simp [intOf]; omega
       ·have hr : res = (c, (q : Int)) := by rw [HRS.out, HQ.out, hh cz]; unfold firstOf2; rw [if_neg cz]
        subst hr
        have cz' : (0 : Int) < (c : Int) := by omega
        clear hh hp hc HRS HQ cz HFW
        go_wp2_with fail
        refine HNC.out.mono ?_
        rintro e X ⟨rfl, hb⟩
        have HFX := hidX (HF.out.below hb)
        have x0 := cell_of_blk HFX.out.res 0
        have x1 := cell_of_blk HFX.out.res 1
        have x2 := free_of_blk HFX.out.res 0
        have x3 := free_of_blk HFX.out.res 1
        simp only [List.getElem?_toArray, List.getElem?_cons_zero, List.getElem?_cons_succ] at x0 x1
        clear hb
        go_wp2
        exact ret_row (w.heap.size + 1) 2 _ 32 rfl rfl (set2_blk HFX.out.res _ _) Tryz.underlying32 (by kernel_rfl) ⟨rfl, set2_low HFX.out.low (Nat.le_succ _) _ _⟩
      ·have hqn : q = L.length := by omega
       subst hqn
       have hz : (firstC (nodeC onesE twosE P L) L.length 0).1 = 0 := by rw [HQ.out, firstC_end]
       have hAW : AllW onesE twosE P L := fun j hj => (first_zero L.length 0).1 hz j (Nat.zero_le _) (by omega)
       have hr2 : res = firstOf2 (firstC (tkC L) L.length 0) (firstC (hangC L) L.length 0) := by rw [HRS.out]; unfold firstOf2; rw [if_pos hz]
       have HAW := hidX hAW
       have HR2 := hidX hr2
       clear hz hAW hr2 HQ HRS HFW
       go_wp2_with fail
       rename World => wo
       go_loopw [5] (fun vi wr => ∃ q : Nat, q ≤ L.length ∧ vi = .int .i64 q ∧ Hid (Rf w wr nm0 P (.slice (some ⟨g, off, none⟩) L.length cap)) ∧ Hid (firstC (tkC L) L.length 0 = firstC (tkC L) (L.length - q) q)) (fun vi _ => L.length - (intOf vi).toNat)
       case atStart => exact ⟨0, Nat.zero_le _, rfl, HF.out, rfl⟩
       case round =>
        clear HF b0 b1 b2
        obtain ⟨q, hq, rfl, HF, HQ⟩ := hrel
        have b0 := cell_of_blk HF.out.box 0
        have b1 := cell_of_blk HF.out.box 1
        have b2 := cell_of_blk HF.out.box 2
        simp only [List.getElem?_toArray, List.getElem?_cons_zero, List.getElem?_cons_succ] at b0 b1 b2
        by_cases hlt : q < L.length
        ·have hlt' : (q : Int) < (L.length : Int) := by omega
         obtain ⟨g', off', _, _, e1, _, _, _, kq, _, _, _⟩ := HG.out.node hlt
         injection e1 with e1
         injection e1 with e1 e2
         subst e1 e2
         replace kq := (HF.out.low.cell (p := ⟨g, _, none⟩) hgl).trans kq
         have HTK := hidX (takers_any nm0 P (.slice (some ⟨g, off, none⟩) L.length cap) L hL1 HLW.out (HGX.out wr HF.out.low) (ways_le HAW.out) (q : Int))
         have hTR : tkR L q = tkC L q := tkR_is HAW.out q
         have hTD : tkR L q = if 119 ∈ (shp L[q].kind).gives ∧ (takL L (q : Int)).length ≠ 1 then 3 else if L[q].kind = gIf then (if (takL L (q : Int)).length ≠ 2 then 3 else if (ndAt L (((takL L (q : Int)).getD 0 0 : Nat) : Int)).kind = (ndAt L (((takL L (q : Int)).getD 1 0 : Nat) : Int)).kind then 3 else 0) else 0 := by unfold tkR; rw [ndAt_get hlt]
         have HWA := hidX (fun X => rWay_any L[q].kind X)
         rw [way_k] at HWA
         have HTR := hidX hTR
         have HTD := hidX hTD
         have HMEM := hidX (fun x (hx : x ∈ takL L (q : Int)) => tk_lt (L := L) hx)
         generalize L[q].kind = kd at kq HWA HTD
         generalize takL L (q : Int) = tl at HTK HTD HMEM
         clear hTR hTD
         cases hcw : (shp kd).gives.contains 119 with
         | true =>
          rw [hcw] at HWA
          have hcm : 119 ∈ (shp kd).gives := by simpa using hcw
          have hni : (kd == [105, 102]) = false := ne_lit (fun e => by rw [show kd = gIf from e] at hcm; exact absurd hcm (by decide))
          have hni2 : ¬ kd = gIf := fun e => by rw [e] at hcm; exact absurd hcm (by decide)
          have HCM := hidX hcm
          have HNI := hidX hni2
          clear hcw hcm hni2
          by_cases l1 : tl.length = 1
          ·have l1' : (tl.length : Int) = 1 := by omega
           have l1'' : ((tl.length : Int) == 1) = true := by simpa using l1'
           have HL1 := hidX l1
           clear l1
           go_wp2_with fail
           refine HTK.out.mono ?_
           rintro e X ⟨v, rfl, hls⟩
           obtain ⟨lad, lcap, rfl⟩ := own_is hls.own
           have HLS := hidX hls
           have HFX := hidX (HF.out.below hls.low)
           clear hls b0 b1 b2
           go_wp2_with fail
           refine (HWA.out _).mono ?_
           rintro e Y ⟨rfl, hb⟩
           have HLY := hidX (HLS.out.below hb)
           have HFY := hidX (HFX.out.below hb)
           clear hb
           have HN := hidX (HQ.out.trans (firstC_step hlt (by rw [← HTR.out]; rw [HTD.out, if_neg (by simp [HL1.out]), if_neg HNI.out])))
           go_wp2
           go_roundw
           case rel => exact ⟨q + 1, by omega, by go_num, HFY.out, HN.out⟩
           case measure => simp [intOf]; omega
          ·have l1' : ¬ (tl.length : Int) = 1 := by omega
           have l1'' : ((tl.length : Int) == 1) = false := by simpa using l1'
           have HL1 := hidX l1
           clear l1
           go_wp2_with fail
           refine HTK.out.mono ?_
           rintro e X ⟨v, rfl, hls⟩
           obtain ⟨lad, lcap, rfl⟩ := own_is hls.own
           have HLS := hidX hls
           have HFX := hidX (HF.out.below hls.low)
           clear hls b0 b1 b2
           go_wp2_with fail
           refine (HWA.out _).mono ?_
           rintro e Y ⟨rfl, hb⟩
           have HLY := hidX (HLS.out.below hb)
           have HFY := hidX (HFX.out.below hb)
           clear hb
           have hr : res = (3, (q : Int)) := by rw [HR2.out, HQ.out, firstC_hit hlt (by rw [← HTR.out]; rw [HTD.out, if_pos ⟨HCM.out, HL1.out⟩]; decide), ← HTR.out]; rw [HTD.out, if_pos ⟨HCM.out, HL1.out⟩]; rfl
           subst hr
           have x0 := cell_of_blk HFY.out.res 0
           have x1 := cell_of_blk HFY.out.res 1
           have x2 := free_of_blk HFY.out.res 0
           have x3 := free_of_blk HFY.out.res 1
           simp only [List.getElem?_toArray, List.getElem?_cons_zero, List.getElem?_cons_succ] at x0 x1
           go_wp2
           exact ret_row (w.heap.size + 1) 2 _ 32 rfl rfl (set2_blk HFY.out.res _ _) Tryz.underlying32 (by kernel_rfl) ⟨rfl, set2_low HFY.out.low (Nat.le_succ _) _ _⟩
         | false =>
          rw [hcw] at HWA
          have hcm : ¬ 119 ∈ (shp kd).gives := by simpa using hcw
          have HCM := hidX hcm
          clear hcw hcm
          by_cases hif : kd = gIf
          ·have t9 : (kd == [105, 102]) = true := by rw [hif]; decide
           have HIF := hidX hif
           clear hif
           by_cases l2 : tl.length = 2
           ·obtain ⟨y0, y1, rfl⟩ : ∃ y0 y1, tl = [y0, y1] := by
             match tl, l2 with
             | [y0, y1], _ => exact ⟨y0, y1, rfl⟩
            have hy0 := HMEM.out y0 (by simp)
            have hy1 := HMEM.out y1 (by simp)
            obtain ⟨_, _, _, _, e3, _, _, _, ky0, _, _, _⟩ := HG.out.node hy0
            injection e3 with e3
            injection e3 with e3 e4
            subst e3 e4
            obtain ⟨_, _, _, _, e3, _, _, _, ky1, _, _, _⟩ := HG.out.node hy1
            injection e3 with e3
            injection e3 with e3 e4
            subst e3 e4
            have hy0' : (y0 : Int) < (L.length : Int) := by omega
            have hy1' : (y1 : Int) < (L.length : Int) := by omega
            have hk0 : (ndAt L (((([y0, y1] : List Nat).getD 0 0) : Nat) : Int)).kind = L[y0].kind := by show (ndAt L (y0 : Int)).kind = _; rw [ndAt_get hy0]
            have hk1 : (ndAt L (((([y0, y1] : List Nat).getD 1 0) : Nat) : Int)).kind = L[y1].kind := by show (ndAt L (y1 : Int)).kind = _; rw [ndAt_get hy1]
            have htd := HTD.out
            rw [hk0, hk1] at htd
            generalize L[y0].kind = d0 at ky0 htd
            generalize L[y1].kind = d1 at ky1 htd
            have HT2 := hidX htd
            have hlen2 : ([y0, y1] : List Nat).length = 2 := rfl
            clear htd hk0 hk1 l2
            clear hlen2
            go_wp2_with fail
            refine HTK.out.mono ?_
            rintro e X ⟨v, rfl, hls⟩
            obtain ⟨lad, lcap, rfl⟩ := own_is hls.own
            have HLS := hidX hls
            have HFX := hidX (HF.out.below hls.low)
            clear hls b0 b1 b2
            go_wp2_with fail
            refine (HWA.out _).mono ?_
            rintro e Y ⟨rfl, hb⟩
            have HLY := hidX (HLS.out.below hb)
            have HFY := hidX (HFX.out.below hb)
            clear hb
            have hLn : ([y0, y1] : List Nat).length = 2 := rfl
            have hro := own_pair HLY.out.own
            obtain ⟨gl, el, hl0, hl1⟩ := hro
            subst el
            have b2 : Y.cell? ⟨w.heap.size, 2, none⟩ = some (.slice (some ⟨g, off, none⟩) L.length cap) := cell_of_blk HFY.out.box 2
            have z0 := (HFY.out.low.cell (p := ⟨g, _, none⟩) hgl).trans ky0
            have z1 := (HFY.out.low.cell (p := ⟨g, _, none⟩) hgl).trans ky1
            simp only [hLn] at *
            by_cases hd : d0 = d1
            ·have hd' : (d0 == d1) = true := by simpa using hd
             have HD := hidX hd
             clear hd
             have hr : res = (3, (q : Int)) := by rw [HR2.out, HQ.out, firstC_hit hlt (by rw [← HTR.out]; rw [HT2.out, if_neg (fun h => HCM.out h.1), if_pos HIF.out, if_neg (by simp), if_pos HD.out]; decide), ← HTR.out]; rw [HT2.out, if_neg (fun h => HCM.out h.1), if_pos HIF.out, if_neg (by simp), if_pos HD.out]; rfl
             subst hr
             have x0 := cell_of_blk HFY.out.res 0
             have x1 := cell_of_blk HFY.out.res 1
             have x2 := free_of_blk HFY.out.res 0
             have x3 := free_of_blk HFY.out.res 1
             simp only [List.getElem?_toArray, List.getElem?_cons_zero, List.getElem?_cons_succ] at x0 x1
             go_wp2_with fail
             go_quiet (fail)
             have HFZ := hidX (HFY.out.below (show Below Y.heap.size Y (Y.drewN nq) by (repeat (first | exact Below.refl _ _ | assumption | refine Below.drew ?_ | refine bT ?_ _ | refine bS ?_ _ | refine bA ?_ _))))
             go_wp2
             exact ret_row (w.heap.size + 1) 2 _ 32 rfl rfl (set2_blk HFZ.out.res _ _) Tryz.underlying32 (by kernel_rfl) ⟨rfl, set2_low HFZ.out.low (Nat.le_succ _) _ _⟩
            ·have hd' : (d0 == d1) = false := by simpa using hd
             have HD := hidX hd
             clear hd
             have HN := hidX (HQ.out.trans (firstC_step hlt (by rw [← HTR.out]; rw [HT2.out, if_neg (fun h => HCM.out h.1), if_pos HIF.out, if_neg (by simp), if_neg HD.out])))
             go_wp2_with fail
             go_quiet (fail)
             go_wp2
             go_roundw
             case rel => exact ⟨q + 1, by omega, by go_num, HFY.out.below (by (repeat (first | exact Below.refl _ _ | assumption | refine Below.drew ?_ | refine bT ?_ _ | refine bS ?_ _ | refine bA ?_ _))), HN.out⟩
             case measure => simp [intOf]; omega
           ·have l2' : ¬ (tl.length : Int) = 2 := by omega
            have l2'' : ((tl.length : Int) == 2) = false := by simpa using l2'
            have HL2 := hidX l2
            clear l2
            go_wp2_with fail
            refine HTK.out.mono ?_
            rintro e X ⟨v, rfl, hls⟩
            obtain ⟨lad, lcap, rfl⟩ := own_is hls.own
            have HLS := hidX hls
            have HFX := hidX (HF.out.below hls.low)
            clear hls b0 b1 b2
            go_wp2_with fail
            refine (HWA.out _).mono ?_
            rintro e Y ⟨rfl, hb⟩
            have HLY := hidX (HLS.out.below hb)
            have HFY := hidX (HFX.out.below hb)
            clear hb
            have hr : res = (3, (q : Int)) := by rw [HR2.out, HQ.out, firstC_hit hlt (by rw [← HTR.out]; rw [HTD.out, if_neg (fun h => HCM.out h.1), if_pos HIF.out, if_pos HL2.out]; decide), ← HTR.out]; rw [HTD.out, if_neg (fun h => HCM.out h.1), if_pos HIF.out, if_pos HL2.out]; rfl
            subst hr
            have x0 := cell_of_blk HFY.out.res 0
            have x1 := cell_of_blk HFY.out.res 1
            have x2 := free_of_blk HFY.out.res 0
            have x3 := free_of_blk HFY.out.res 1
            simp only [List.getElem?_toArray, List.getElem?_cons_zero, List.getElem?_cons_succ] at x0 x1
            go_wp2
            exact ret_row (w.heap.size + 1) 2 _ 32 rfl rfl (set2_blk HFY.out.res _ _) Tryz.underlying32 (by kernel_rfl) ⟨rfl, set2_low HFY.out.low (Nat.le_succ _) _ _⟩
          ·have t9 : (kd == [105, 102]) = false := ne_lit hif
           have HIF := hidX hif
           clear hif
           go_wp2_with fail
           refine HTK.out.mono ?_
           rintro e X ⟨v, rfl, hls⟩
           obtain ⟨lad, lcap, rfl⟩ := own_is hls.own
           have HLS := hidX hls
           have HFX := hidX (HF.out.below hls.low)
           clear hls b0 b1 b2
           go_wp2_with fail
           refine (HWA.out _).mono ?_
           rintro e Y ⟨rfl, hb⟩
           have HLY := hidX (HLS.out.below hb)
           have HFY := hidX (HFX.out.below hb)
           clear hb
           have HN := hidX (HQ.out.trans (firstC_step hlt (by rw [← HTR.out]; rw [HTD.out, if_neg (fun h => HCM.out h.1), if_neg HIF.out])))
           go_wp2
           go_roundw
           case rel => exact ⟨q + 1, by omega, by go_num, HFY.out, HN.out⟩
           case measure => simp [intOf]; omega
        ·have hqn : q = L.length := by omega
         subst hqn
         have hz2 : (firstC (tkC L) L.length 0).1 = 0 := by rw [HQ.out, firstC_end]
         have hr3 : res = firstC (hangC L) L.length 0 := by rw [HR2.out]; unfold firstOf2; rw [if_pos hz2]
         have HR3 := hidX hr3
         clear hz2 hr3 HR2 HQ
         go_wp2_with fail
         rename World => wx
         go_loopw [9] (fun vi wr => ∃ q : Nat, q ≤ L.length ∧ vi = .int .i64 q ∧ Hid (Rf w wr nm0 P (.slice (some ⟨g, off, none⟩) L.length cap)) ∧ Hid (firstC (hangC L) L.length 0 = firstC (hangC L) (L.length - q) q)) (fun vi _ => L.length - (intOf vi).toNat)
         case atStart => exact ⟨0, Nat.zero_le _, rfl, HF.out, rfl⟩
         case round =>
          clear HF b0 b1 b2
          obtain ⟨q, hq, rfl, HF, HQ⟩ := hrel
          have b0 := cell_of_blk HF.out.box 0
          have b1 := cell_of_blk HF.out.box 1
          have b2 := cell_of_blk HF.out.box 2
          simp only [List.getElem?_toArray, List.getElem?_cons_zero, List.getElem?_cons_succ] at b0 b1 b2
          by_cases hlt : q < L.length
          ·have hlt' : (q : Int) < (L.length : Int) := by omega
           obtain ⟨g', off', _, _, e1, _, _, _, kq, _, _, _⟩ := HG.out.node hlt
           injection e1 with e1
           injection e1 with e1 e2
           subst e1 e2
           replace kq := (HF.out.low.cell (p := ⟨g, _, none⟩) hgl).trans kq
           have hsb : sumB L (q : Int) = (L[q].kind == gOne || L[q].kind == gTwo) := by unfold sumB; rw [ndAt_get hlt]
           have HSC := hidX (fun X => rSum_any L[q].kind X)
           rw [← hsb] at HSC
           generalize L[q].kind = kd at kq HSC
           clear hsb
           cases hsum : sumB L (q : Int) with
           | false =>
            rw [hsum] at HSC
            have hno : ¬ Hang L q := fun ⟨b, h1, _⟩ => by have := ((rk_iff L q b).1 h1).1; rw [hsum] at this; cases this
            have HN := hidX (HQ.out.trans (firstC_step hlt (by unfold hangC; rw [if_neg hno])))
            clear hsum hno
            go_wp2_with fail
            refine (HSC.out _).mono ?_
            rintro e w' ⟨rfl, hh⟩
            replace hh := hh.symm
            subst hh
            go_wp2
            go_roundw
            case rel => exact ⟨q + 1, by omega, by go_num, HF.out, HN.out⟩
            case measure => simp [intOf]; omega
           | true =>
            rw [hsum] at HSC
            have HHG := hidX (hangs_any nm0 P (.slice (some ⟨g, off, none⟩) L.length cap) L hL1 HLW.out (HGX.out wr HF.out.low) (ins_in HAW.out) q hlt hsum)
            by_cases hh : Hang L q
            ·rw [@decide_eq_true _ (Classical.propDecidable _) hh] at HHG
             have hr : res = (10, (q : Int)) := by rw [HR3.out, HQ.out, firstC_hit hlt (by unfold hangC; rw [if_pos hh]; decide)]; unfold hangC; rw [if_pos hh]
             subst hr
             clear hsum hh HR3 HQ
             go_wp2_with fail
             refine (HSC.out _).mono ?_
             rintro e w' ⟨rfl, hh⟩
             replace hh := hh.symm
             subst hh
             go_wp2_with fail
             refine HHG.out.mono ?_
             rintro e X ⟨rfl, hb⟩
             have HFX := hidX (HF.out.below hb)
             have x0 := cell_of_blk HFX.out.res 0
             have x1 := cell_of_blk HFX.out.res 1
             have x2 := free_of_blk HFX.out.res 0
             have x3 := free_of_blk HFX.out.res 1
             simp only [List.getElem?_toArray, List.getElem?_cons_zero, List.getElem?_cons_succ] at x0 x1
             clear hb
             go_wp2
             exact ret_row (w.heap.size + 1) 2 _ 32 rfl rfl (set2_blk HFX.out.res _ _) Tryz.underlying32 (by kernel_rfl) ⟨rfl, set2_low HFX.out.low (Nat.le_succ _) _ _⟩
            ·rw [@decide_eq_false _ (Classical.propDecidable _) hh] at HHG
             have HN := hidX (HQ.out.trans (firstC_step hlt (by unfold hangC; rw [if_neg hh])))
             clear hsum hh
             go_wp2_with fail
             refine (HSC.out _).mono ?_
             rintro e w' ⟨rfl, hh⟩
             replace hh := hh.symm
             subst hh
             go_wp2_with fail
             refine HHG.out.mono ?_
             rintro e X ⟨rfl, hb⟩
             have HFX := hidX (HF.out.below hb)
             clear hb
             go_wp2
             go_roundw
             case rel => exact ⟨q + 1, by omega, by go_num, HFX.out, HN.out⟩
             case measure => simp [intOf]; omega
          ·have hqn : q = L.length := by omega
           subst hqn
           have hr : res = (0, -1) := by rw [HR3.out, HQ.out, firstC_end]
           subst hr
           clear HR3 HQ
           go_wp2_with fail
           refine (fineG _).mono ?_
           rintro e X ⟨rfl, hb⟩
           have HFX := hidX (HF.out.below hb)
           have x0 := cell_of_blk HFX.out.res 0
           have x1 := cell_of_blk HFX.out.res 1
           have x2 := free_of_blk HFX.out.res 0
           have x3 := free_of_blk HFX.out.res 1
           simp only [List.getElem?_toArray, List.getElem?_cons_zero, List.getElem?_cons_succ] at x0 x1
           clear hb
           go_wp2
           exact ret_row (w.heap.size + 1) 2 _ 32 rfl rfl (set2_blk HFX.out.res _ _) Tryz.underlying32 (by kernel_rfl) ⟨rfl, set2_low HFX.out.low (Nat.le_succ _) _ _⟩
   ·have t1 : (kk == [115, 116, 97, 114, 116]) = false := ne_lit c3
    have hr : res = (3, -1) := by rw [HFW.out, if_neg c1, if_pos (Or.inr (by rw [hnz, hk0]; exact c3))]
    subst hr
    clear hk0 hnz c3
    go_enter Tryz.func9, Tryz.ntmps9
    go_wp2_with fail
    rw [← hW0]
    refine (bareG 3 W0).mono ?_
    rintro e X ⟨rfl, hb⟩
    have HFX := hidX (HF0.out.below hb)
    have x0 := cell_of_blk HFX.out.res 0
    have x1 := cell_of_blk HFX.out.res 1
    have x2 := free_of_blk HFX.out.res 0
    have x3 := free_of_blk HFX.out.res 1
    simp only [List.getElem?_toArray, List.getElem?_cons_zero, List.getElem?_cons_succ] at x0 x1
    clear hW0 hb
    go_wp2
    exact ret_row (w.heap.size + 1) 2 _ 32 rfl rfl (set2_blk HFX.out.res _ _) Tryz.underlying32 (by kernel_rfl) ⟨rfl, set2_low HFX.out.low (Nat.le_succ _) _ _⟩
end Go.Proofs.YtlgejjmdanmglaaGreatDoor
