/- Our own: texts joined: AlWalk, AlWalkB. -/
import Derived.Test.YtimccbilkjjakaaDoorZSetS
namespace Go.Proofs.YtimccbilkjjakaaDoor
open Go.RowKit
set_option maxRecDepth 100000 in
set_option maxHeartbeats 8000000 in
theorem alWalk_any {w : World} {a : Nat → Addr} (hS : Sents w a) (hT : TabA w) (nm : List UInt8) (P V : Int) (L : List Lb) (hlow : ∀ b ∈ L, b.ins.length ≤ 100000 ∧ b.tos.length ≤ 100000) (ba : Option Addr) (bc : Nat) (hC : XLC (InH w) w (.slice ba L.length bc) L) (hcf : (lowF onesE twosE P V L).1 = 0) (args : List Int) (hpa : (args.length : Int) = P) (aad : Option Addr) (acap : Nat) (hargs : XRow (InH w) w (.slice aad args.length acap) args.length (intsG args)) (ans : List Int) (nad : Option Addr) (ncap : Nat) (hans : XRow (InH w) w (.slice nad ans.length ncap) ans.length (intsG ans)) (hal2 : ans.length ≤ 100000) (ticks : Int) (htk : ticks ≤ 1000) :
  Calls Tryd.prog 14 #[.agg (lcV nm P V (.slice ba L.length bc)), .slice aad args.length acap, .slice nad ans.length ncap, .int .i64 ticks] w fun e w' => Below w.heap.size w w' ∧ ∃ v, e = .returned v ∧ DoneV w' v (walkL2 hStuck L args ans ticks 100000 0 st0 (raZ V.toNat)) := by
 have hW := low_well hcf
 obtain ⟨vn, hvn⟩ : ∃ vn : Nat, (vn : Int) = V := ⟨V.toNat, by have := hW.s0; omega⟩
 subst hvn
 have hl0 := hW.l0
 have hl1 := hW.l1
 have hal1 : args.length ≤ 1000 := by have := hW.p1; omega
 have hvn1 : vn ≤ 1000 := by have := hW.s1; omega
 obtain ⟨W0, hW0⟩ : ∃ W0, W0 = (w.alloc (.cells (lcV nm P vn (.slice ba L.length bc)) 31)).alloc (.cells doneZ 48) := ⟨_, rfl⟩
 have hb0 : Below w.heap.size w W0 := by rw [hW0]; (repeat (first | exact Below.refl _ _ | assumption | refine Below.drew ?_ | refine bT ?_ _ | refine bS ?_ _ | refine bA ?_ _))
 have hx0 : W0.heap[w.heap.size]? = some (.cells (lcV nm P vn (.slice ba L.length bc)) 31 (0, 0)) := by rw [hW0]; exact two_alloc w _ _
 have hx1 : W0.heap[w.heap.size + 1]? = some (.cells doneZ 48 (0, 0)) := by rw [hW0]; exact heap_alloc2_new w _ _
 have HCK := hidX (alCheck_any (hS.below hb0) (hT.below hb0) nm P vn L (by omega) hlow ba bc (hC.imp (inH_up hb0) (keepH hb0)))
 have HLE := hidX hW.fin
 have HIN := hidX (hW.ins hpa rfl)
 have HLW := hidX hlow
 have HB0 := hidX hb0
 have HX0 := hidX hx0
 have HX1 := hidX hx1
 have HCF := hidX hcf
 have HCO := hidX hC
 have HAR := hidX hargs
 have HAN := hidX hans
 have HW0 := hidX hW0
 have hne : ((args.length : Int) != P) = false := by simp [hpa]
 have HPA := hidX hpa
 rw [Int.toNat_natCast]
 generalize hgoal : walkL2 hStuck L args ans ticks 100000 0 st0 (raZ vn) = goal
 have HGO := hidX hgoal
 have hmk := make_intsA vn (by omega)
 clear hS hT hlow hC hb0 hx0 hx1 hW0 hW hcf hargs hans hpa hgoal
 go_enter Tryd.func14, Tryd.ntmps14
 go_wp2_with fail
 rw [← HW0.out]
 clear HW0
 refine HCK.out.mono ?_
 intro e W1 hft
 obtain ⟨v, rfl, hft2⟩ := ft_val hft
 have HB1 := hidX hft2.1
 have hv0 : v = .nilIface := by
  rcases ft_codeP hft2 with h | h
  ·exact h.2
  ·exact absurd HCF.out h.1
 subst hv0
 have hx0 := (HB1.out.block _ (heap_lt HX0.out)).trans HX0.out
 have hx1 := (HB1.out.block _ (heap_lt HX1.out)).trans HX1.out
 have d1 : W1.cell? ⟨w.heap.size, 1, none⟩ = some (.int .i64 P) := cell_of_blk hx0 1
 have d2 : W1.cell? ⟨w.heap.size, 2, none⟩ = some (.int .i64 (vn : Int)) := cell_of_blk hx0 2
 have d3 : W1.cell? ⟨w.heap.size, 3, none⟩ = some (.slice ba L.length bc) := cell_of_blk hx0 3
 have hw1 : Below w.heap.size w W1 := bl_trans HB0.out HB0.out.size HB1.out
 have hdz := heap_lt hx1
 have hcz := heap_lt hx0
 have HXC := hidX hx0
 have HXD := hidX hx1
 have HW1 := hidX hw1
 clear hft hft2 hx0 hx1 hw1 HCK HB0 HB1 HX0 HX1
 go_wp2_with fail
 have HCL := hidX (show ∀ Y : World, Below W1.heap.size W1 Y → Y.cell? ⟨w.heap.size, 2, none⟩ = some (.int .i64 (vn : Int)) from fun Y hY => (hY.cell hcz).trans d2)
 apply reg_cut3 (F := fun rb vb wb => { tmps := #[.agg (lcV nm P vn (.slice ba L.length bc)), .slice aad args.length acap, .slice nad ans.length ncap, .int .i64 ticks, .pointer (some ⟨w.heap.size, 0, none⟩), undef, undef, undef, .pointer (some ⟨w.heap.size + 1, 0, none⟩), .pointer (some ⟨wb, 0, none⟩), undef, .agg (lcV nm P vn (.slice ba L.length bc)), .nilIface, .bool false, .bool false, .slice aad args.length acap, .int .i64 (args.length : Int), .pointer (some ⟨w.heap.size, 1, none⟩), .int .i64 P, .bool false, .bool false, undef, .slice nad ans.length ncap, .int .i64 ticks, .pointer (some ⟨rb, 0, none⟩), .slice aad args.length acap, .pointer (some ⟨w.heap.size, 2, none⟩), .int .i64 (vn : Int), .slice (some ⟨vb, 0, none⟩) vn vn, .agg #[.pointer (some ⟨rb, 0, none⟩), .slice aad args.length acap, .int .i64 0, .int .i64 0, .int .i64 0, .int .i64 0, .int .i64 0, .int .i64 0, .int .i64 0, .int .i64 0, .slice (some ⟨vb, 0, none⟩) vn vn, .int .i64 0, .int .i64 0, .int .i64 0, .int .i64 0], .pointer (some ⟨wb, 0, none⟩), undef, undef, undef, undef, undef, undef, undef, undef, undef, undef, undef, undef, undef, undef, undef, undef, undef, undef, undef], defers := [] }) (R := fun rb vb wb W => AkJ (fun b => W1.heap.size ≤ b) (fun _ => False) W wb rb vb (.slice aad args.length acap) (.slice nad ans.length ncap) st0 ticks 0 (raZ vn) ∧ Below W1.heap.size W1 W)
 ·go_region_with (first
   | (go_at_call 25; refine (new_r _ (.slice nad ans.length ncap) ticks ⟨_, _, _, rfl⟩).mono ?_; rintro e W3 ⟨rfl, hrc, hb3, hz3⟩; have d4 := HCL.out W3 (bl_trans (show Below W1.heap.size W1 _ by (repeat (first | exact Below.refl _ _ | assumption | refine Below.drew ?_ | refine bT ?_ _ | refine bS ?_ _ | refine bA ?_ _))) (by first | exact Nat.le_refl _ | (simp; done)) hb3)))
  all_goals first
   | exact ⟨_, _, _, rfl, ak_newA hvn1 (Y := W1.drew) (by (repeat (first | exact Below.refl _ _ | assumption | refine Below.drew ?_ | refine bT ?_ _ | refine bS ?_ _ | refine bA ?_ _))) rfl hrc hb3 hz3⟩
   | exact ⟨_, _, _, rfl, ak_newB hvn1 (Y := (W1.alloc _).drew) (by (repeat (first | exact Below.refl _ _ | assumption | refine Below.drew ?_ | refine bT ?_ _ | refine bS ?_ _ | refine bA ?_ _))) (by simp) (heap_alloc_new W1 _) hrc hb3 hz3⟩
 ·intro rb vb wb W hR
  have HPK := hidX hR.1.e
  have HBW := hidX hR.2
  have hbc : (fun b => W1.heap.size ≤ b) wb ∧ (fun b => W1.heap.size ≤ b) rb := ⟨hR.1.lw, hR.1.lr⟩
  clear hR hmk d1 d2 d3 HCL
  go_wp2_with fail
  go_loopg [10] 100001 (fun k v10 wr => ∃ (q x : Nat) (st : Rst) (vq : Ra), v10 = .int .i64 (x : Int) ∧ q ≤ 100000 ∧ 100000 - q < k ∧ Hid (BdT ticks st) ∧ Hid ((st.how = [] ∧ x < L.length ∧ walkL2 hStuck L args ans ticks (100000 - q) x st vq = goal ∧ vq.slots.length = vn) ∨ (st.how ≠ [] ∧ st = goal)) ∧ Hid (AkE (fun b => W1.heap.size ≤ b) wr wb rb vb (.slice aad args.length acap) (.slice nad ans.length ncap) st ticks (q : Int) vq) ∧ Hid (Below W1.heap.size W1 wr))
  case atStart => exact ⟨0, 0, st0, raZ vn, rfl, by omega, by omega, ⟨Int.le_refl _, Or.inr (Int.le_refl _), by simp [st0]⟩, Or.inl ⟨rfl, hl0, HGO.out, List.length_replicate⟩, HPK.out, HBW.out⟩
  case round =>
   obtain ⟨q, x, st, vq, rfl, hq, hqk, HBD, HCA, HPQ, HBQ⟩ := hrel
   obtain ⟨S4, hp4⟩ := HPQ.out
   have hzr : W1.heap.size ≤ wr.heap.size := HBQ.out.size
   have v0 : wr.cell? ⟨wb, 0, none⟩ = some (.pointer (some ⟨rb, 0, none⟩)) := hp4.ptr
   have HSTP := hidX (step_r hp4.recd (by omega))
   have HP4 := hidX hp4
   clear hp4
   by_cases hgo : st.how = [] ∧ q < 100000
   ·have hb : decide (st.how = [] ∧ (q : Int) ≠ 100000) = true := decide_eq_true ⟨hgo.1, by omega⟩
    have hst : (if st.how = [] ∧ (q : Int) = 100000 then { st with how := hStuck } else st) = st := if_neg (fun h => by have := h.2; omega)
    rw [hb, hst] at HSTP
    have hca : x < L.length ∧ walkL2 hStuck L args ans ticks (100000 - q) x st vq = goal ∧ vq.slots.length = vn := by
     rcases HCA.out with h | h
     ·exact h.2
     ·exact absurd hgo.1 h.1
    obtain ⟨hx, hwk, hlv⟩ := hca
    have HLV := hidX hlv
    have HWK := hidX hwk
    have HQL := hidX hgo
    have hx' : (x : Int) < (L.length : Int) := by omega
    have hl1' : (L.length : Int) ≤ 3000 := by omega
    clear hb hst hgo hwk HCA hlv
    go_wp2_with fail
    refine HSTP.out.mono ?_
    rintro e W5 ⟨rfl, hr5⟩
    obtain ⟨hf5, S5, hp5⟩ := HP4.out.recTo hr5
    have hp5' : AkJ (fun b => W1.heap.size ≤ b) S5 W5 wb rb vb (.slice aad args.length acap) (.slice nad ans.length ncap) st ticks ((q : Int) + 1) vq := hp5.mono (fun b e => e.elim id (fun e => Nat.le_trans hzr e))
    have hb5 : Below W1.heap.size W1 W5 := HBQ.out.trans (butp_below hf5 hzr)
    have hw5 : Below w.heap.size w W5 := bl_trans HW1.out HW1.out.size hb5
    have hcx := (hb5.block _ hcz).trans HXC.out
    have d3 : W5.cell? ⟨w.heap.size, 3, none⟩ = some (.slice ba L.length bc) := cell_of_blk hcx 3
    obtain ⟨g, off, ia, ic, ta, tc, e1, hg, r2, r3, k0, k1, k2, k3⟩ := HCO.out.blk hx
    subst e1
    have kc : ∀ o v, w.cell? ⟨g, o, none⟩ = some v → W5.cell? ⟨g, o, none⟩ = some v := fun o v hv => (hw5.cell (p := ⟨g, o, none⟩) hg).trans hv
    replace k0 := kc _ _ k0
    replace k1 := kc _ _ k1
    replace k2 := kc _ _ k2
    replace k3 := kc _ _ k3
    have hAd : ∀ k, InH w k → k < W5.heap.size ∧ ¬ (W1.heap.size ≤ k) := fun k hk => ⟨Nat.lt_of_lt_of_le hk hw5.size, fun e => by have : k < w.heap.size := hk; omega⟩
    have hbm := List.getElem_mem hx
    have hbt : lbAt L x = L[x] := by unfold lbAt; simp [hx]
    have hlt := block_lt (HLE.out _ hbm) hl0 (args := args) (ans := ans) (most := ticks) st vq
    have hbd := block_bd (b := L[x]) (args := args) (ans := ans) (r := vq) HBD.out
    have hzl := block_zl (b := L[x]) (args := args) (ans := ans) (most := ticks) (s := st) HLV.out
    have hwk6 : walkL2 hStuck L args ans ticks (100000 - q) x st vq = if (blockL args ans ticks L[x] st vq).1.how ≠ [] then (blockL args ans ticks L[x] st vq).1 else walkL2 hStuck L args ans ticks (100000 - (q + 1)) (blockL args ans ticks L[x] st vq).2.2 (blockL args ans ticks L[x] st vq).1 (blockL args ans ticks L[x] st vq).2.1 := by
     rw [show 100000 - q = (100000 - (q + 1)) + 1 by have := HQL.out; omega, walkL2, hbt]
    have hBK := fun (Y : World) (hY : Below W5.heap.size W5 Y) => ablock_any (hp5'.below hY) (A := InH w) (fun k hk => ⟨Nat.lt_of_lt_of_le (hAd k hk).1 hY.size, (hAd k hk).2⟩) (HLE.out _ hbm) (r2.imp (fun _ h => h) (fun k hk => (bl_trans hw5 hw5.size hY).block k hk)) (r3.imp (fun _ h => h) (fun k hk => (bl_trans hw5 hw5.size hY).block k hk)) (args := args) (ans := ans) (by rw [HLV.out]; exact HIN.out _ hbm) (HAR.out.imp (fun _ h => h) (fun k hk => (bl_trans hw5 hw5.size hY).block k hk)) (HAN.out.imp (fun _ h => h) (fun k hk => (bl_trans hw5 hw5.size hY).block k hk)) hal2 hal1 htk HBD.out HQL.out.1 (Nat.le_trans (HLW.out _ hbm).1 (by decide))
    generalize L[x] = b at *
    have HBK := hidX hBK
    generalize blockL args ans ticks b st vq = r at HBK hlt hbd hwk6 hzl
    have HZL := hidX hzl
    have HLT := hidX hlt
    have HBD2 := hidX hbd
    have HWK6 := hidX hwk6
    have HB5 := hidX hb5
    have hz5 : W1.heap.size ≤ W5.heap.size := hb5.size
    clear hf5 hp5 hp5' hb5 hw5 hcx kc hAd hbm hbt hlt hbd hwk6 hBK r2 r3 hr5 HP4 HPQ hzl
    go_wp2_with fail
    refine (HBK.out _ (by (repeat (first | exact Below.refl _ _ | assumption | refine Below.drew ?_ | refine bT ?_ _ | refine bS ?_ _ | refine bA ?_ _)))).mono ?_
    rintro e W6 ⟨hf6, he, vl6, hv6, hp6⟩
    subst he
    have HB6 := hidX (show Below W1.heap.size W1 W6 from HB5.out.trans (butp_below hf6 hz5))
    have HP6 := hidX (show AkE (fun b => W1.heap.size ≤ b) W6 wb rb vb (.slice aad args.length acap) (.slice nad ans.length ncap) r.1 ticks ((q + 1 : Nat) : Int) vl6 from by
     have := hp6.mono (D' := fun b => W1.heap.size ≤ b) (fun b e => e.elim id (fun e => Nat.le_trans hz5 e))
     rw [show ((q + 1 : Nat) : Int) = (q : Int) + 1 by omega]; exact this)
    have HCA6 := hidX (show (r.1.how = [] ∧ r.2.2 < L.length ∧ walkL2 hStuck L args ans ticks (100000 - (q + 1)) r.2.2 r.1 vl6 = goal ∧ vl6 = r.2.1) ∨ (r.1.how ≠ [] ∧ r.1 = goal) from by
     by_cases hh : r.1.how = []
     ·left
      refine ⟨hh, HLT.out, ?_, hv6 hh⟩
      rw [← HWK.out, HWK6.out, if_neg (by simp [hh]), hv6 hh]
     ·right
      refine ⟨hh, ?_⟩
      rw [← HWK.out, HWK6.out, if_pos hh])
    have hq6 : q + 1 ≤ 100000 := by have := HQL.out; omega
    clear hf6 hv6 hp6 HBK HWK HWK6 HLT
    go_wp2
    go_roundg (100000 - (q + 1) + 1)
    case rel =>
     exact ⟨q + 1, r.2.2, r.1, vl6, rfl, by omega, by omega, HBD2.out, HCA6.out.imp (fun h => ⟨h.1, h.2.1, h.2.2.1, by rw [h.2.2.2]; exact HZL.out⟩) id, HP6.out, HB6.out⟩
    all_goals omega
   ·have hb : decide (st.how = [] ∧ (q : Int) ≠ 100000) = false := decide_eq_false (fun h => hgo ⟨h.1, by have := h.2; omega⟩)
    rw [hb] at HSTP
    generalize hst : (if st.how = [] ∧ (q : Int) = 100000 then { st with how := hStuck } else st) = st' at HSTP
    have hend : st' = goal := by
     rw [← hst]
     rcases HCA.out with h | h
     ·have hq3 : q = 100000 := by
       rcases Nat.lt_or_ge q 100000 with h' | h'
       ·exact absurd ⟨h.1, h'⟩ hgo
       ·omega
      rw [if_pos ⟨h.1, by omega⟩]
      have := h.2.2.1
      rw [hq3] at this
      exact this
     ·rw [if_neg (fun e => h.1 e.1)]; exact h.2
    subst hend
    clear hb hst hgo HCA
    go_wp2_with fail
    refine HSTP.out.mono ?_
    rintro e W5 ⟨rfl, hr5⟩
    obtain ⟨hf5, S5, hp5⟩ := HP4.out.recTo hr5
    have hb5 : Below W1.heap.size W1 W5 := HBQ.out.trans (butp_below hf5 hzr)
    have hd5 := (hb5.block _ hdz).trans HXD.out
    have e1 : W5.cell? ⟨wb, 0, none⟩ = some (.pointer (some ⟨rb, 0, none⟩)) := hp5.ptr
    have hls := hp5.ls
    obtain ⟨outv, callv, xs, hrc⟩ := hp5.recd
    obtain ⟨oo, co, rfl⟩ := own_is hrc.out
    obtain ⟨oc, cc, rfl⟩ := own_is hrc.call
    have i0 := cell_of_blk hd5 0
    have i1 := cell_of_blk hd5 1
    have i2 := cell_of_blk hd5 2
    have i3 := cell_of_blk hd5 3
    have i4 := cell_of_blk hd5 4
    have f0 := free_of_blk hd5 0
    have f1 := free_of_blk hd5 1
    have f2 := free_of_blk hd5 2
    have f3 := free_of_blk hd5 3
    have f4 := free_of_blk hd5 4
    have j0 := cell_of_blk hrc.blk 0
    have j1 := cell_of_blk hrc.blk 1
    have j2 := cell_of_blk hrc.blk 2
    have j3 := cell_of_blk hrc.blk 3
    have j4 := cell_of_blk hrc.blk 4
    simp only [List.getElem?_toArray, List.getElem?_cons_zero, List.getElem?_cons_succ] at i0 i1 i2 i3 i4 j0 j1 j2 j3 j4
    have hw5 : Below w.heap.size w W5 := bl_trans HW1.out HW1.out.size hb5
    have hnd : ∀ b, S5 b → b ≠ w.heap.size + 1 := fun b hb => by
     rcases (hls b hb).1 with e | e
     ·have : W1.heap.size ≤ b := e; omega
     ·omega
    have HRC := hidX hrc
    have HD5 := hidX hd5
    have HW5 := hidX hw5
    have HND := hidX hnd
    generalize st'.out.length = no at *
    generalize st'.calls.length = nc at *
    clear hrc hd5 hw5 hnd hf5 hp5 hb5 hls HP4 HPQ HSTP v0 HGO hr5
    go_wp2
    have hx := set5_blk HD5.out (.string ⟨st'.how.toArray⟩) (.int .i64 st'.val) (.int .i64 st'.tks) (.slice oo no co) (.slice oc nc cc)
    have hlew : w.heap.size ≤ w.heap.size + 1 := by omega
    have hbf := ((((HW5.out.setCell (p := ⟨w.heap.size + 1, 0, none⟩) (by exact hlew) (.string ⟨st'.how.toArray⟩)).setCell (p := ⟨w.heap.size + 1, 1, none⟩) (by exact hlew) (.int .i64 st'.val)).setCell (p := ⟨w.heap.size + 1, 2, none⟩) (by exact hlew) (.int .i64 st'.tks)).setCell (p := ⟨w.heap.size + 1, 3, none⟩) (by exact hlew) (.slice oo no co)).setCell (p := ⟨w.heap.size + 1, 4, none⟩) (by exact hlew) (.slice oc nc cc)
    refine ret_row (w.heap.size + 1) 8 _ 48 rfl rfl hx Tryd.underlying48 (by kernel_rfl) ⟨hbf, _, rfl, ?_⟩
    have hfar : ∀ k, S5 k → (((((W5.setCell ⟨w.heap.size + 1, 0, none⟩ (.string ⟨st'.how.toArray⟩)).setCell ⟨w.heap.size + 1, 1, none⟩ (.int .i64 st'.val)).setCell ⟨w.heap.size + 1, 2, none⟩ (.int .i64 st'.tks)).setCell ⟨w.heap.size + 1, 3, none⟩ (.slice oo no co)).setCell ⟨w.heap.size + 1, 4, none⟩ (.slice oc nc cc)).heap[k]? = W5.heap[k]? := fun k hk => by
     have h := HND.out k hk
     rw [Below.heap_setCell _ _ _ _ h, Below.heap_setCell _ _ _ _ h, Below.heap_setCell _ _ _ _ h, Below.heap_setCell _ _ _ _ h, Below.heap_setCell _ _ _ _ h]
    have hszz : (((((W5.setCell ⟨w.heap.size + 1, 0, none⟩ (.string ⟨st'.how.toArray⟩)).setCell ⟨w.heap.size + 1, 1, none⟩ (.int .i64 st'.val)).setCell ⟨w.heap.size + 1, 2, none⟩ (.int .i64 st'.tks)).setCell ⟨w.heap.size + 1, 3, none⟩ (.slice oo no co)).setCell ⟨w.heap.size + 1, 4, none⟩ (.slice oc nc cc)).heap.size = W5.heap.size := by simp [World.setCell]
    have hR := HRC.out
    exact done_of hR hfar hszz
end Go.Proofs.YtimccbilkjjakaaDoor
namespace Go.Proofs.YtimccbilkjjakaaDoor
open Go.RowKit
set_option maxRecDepth 100000 in
set_option maxHeartbeats 2000000 in
theorem alWalk_bad {w : World} {a : Nat → Addr} (hS : Sents w a) (hT : TabA w) (nm : List UInt8) (P V : Int) (L : List Lb) (hL : L.length ≤ 100000) (hlow : ∀ b ∈ L, b.ins.length ≤ 100000 ∧ b.tos.length ≤ 100000) (ba : Option Addr) (bc : Nat) (hC : XLC (InH w) w (.slice ba L.length bc) L) (nargs : Nat) (aad : Option Addr) (acap : Nat) (ansv : Value) (ticks : Int) (hbad : (lowF onesE twosE P V L).1 ≠ 0 ∨ (nargs : Int) ≠ P) :
  Calls Tryd.prog 14 #[.agg (lcV nm P V (.slice ba L.length bc)), .slice aad nargs acap, ansv, .int .i64 ticks] w fun e w' => Below w.heap.size w w' ∧ e = .returned (.agg #[.string ⟨hStuck.toArray⟩, .int .i64 0, .int .i64 0, .slice none 0 0, .slice none 0 0]) := by
 obtain ⟨W0, hW0⟩ : ∃ W0, W0 = (w.alloc (.cells (lcV nm P V (.slice ba L.length bc)) 31)).alloc (.cells doneZ 48) := ⟨_, rfl⟩
 have hb0 : Below w.heap.size w W0 := by rw [hW0]; (repeat (first | exact Below.refl _ _ | assumption | refine Below.drew ?_ | refine bT ?_ _ | refine bS ?_ _ | refine bA ?_ _))
 have hx0 : W0.heap[w.heap.size]? = some (.cells (lcV nm P V (.slice ba L.length bc)) 31 (0, 0)) := by rw [hW0]; exact two_alloc w _ _
 have hx1 : W0.heap[w.heap.size + 1]? = some (.cells doneZ 48 (0, 0)) := by rw [hW0]; exact heap_alloc2_new w _ _
 have HCK := hidX (alCheck_any (hS.below hb0) (hT.below hb0) nm P V L hL hlow ba bc (hC.imp (inH_up hb0) (keepH hb0)))
 have HB0 := hidX hb0
 have HX0 := hidX hx0
 have HX1 := hidX hx1
 have HBAD := hidX hbad
 have HW0 := hidX hW0
 clear hS hT hlow hC hb0 hx0 hx1 hbad hW0
 go_enter Tryd.func14, Tryd.ntmps14
 go_wp2_with fail
 rw [← HW0.out]
 clear HW0
 refine HCK.out.mono ?_
 intro e W1 hft
 obtain ⟨v, rfl, hft2⟩ := ft_val hft
 have HB1 := hidX hft2.1
 have hft3 := ft_codeP hft2
 have hx0 := (HB1.out.block _ (heap_lt HX0.out)).trans HX0.out
 have hx1 := (HB1.out.block _ (heap_lt HX1.out)).trans HX1.out
 have d1 : W1.cell? ⟨w.heap.size, 1, none⟩ = some (.int .i64 P) := cell_of_blk hx0 1
 have f0 := free_of_blk hx1 0
 have f1 := free_of_blk hx1 1
 have f2 := free_of_blk hx1 2
 have f3 := free_of_blk hx1 3
 have f4 := free_of_blk hx1 4
 have i0 := cell_of_blk hx1 0
 have i1 := cell_of_blk hx1 1
 have i2 := cell_of_blk hx1 2
 have i3 := cell_of_blk hx1 3
 have i4 := cell_of_blk hx1 4
 have hw1 : Below w.heap.size w W1 := bl_trans HB0.out HB0.out.size HB1.out
 have HD := hidX hx1
 have HW1 := hidX hw1
 have hdz := heap_lt hx1
 clear hft hft2 hx0 hx1 hw1 HCK HB0 HB1 HX0 HX1
 rcases hft3 with ⟨hc, rfl⟩ | ⟨hc, t, u, rfl⟩
 ·have hne : ((nargs : Int) != P) = true := by
   have : (nargs : Int) ≠ P := by
    rcases HBAD.out with h | h
    ·exact absurd hc h
    ·exact h
   simpa using this
  clear hc
  go_wp2
  have hx := set5_blk HD.out (.string ⟨hStuck.toArray⟩) (.int .i64 0) (.int .i64 0) (.slice none 0 0) (.slice none 0 0)
  exact ret_row (w.heap.size + 1) 8 _ 48 rfl rfl hx Tryd.underlying48 (by kernel_rfl) ⟨((((HW1.out.setCell (by show w.heap.size ≤ w.heap.size + 1; omega) _).setCell (by show w.heap.size ≤ w.heap.size + 1; omega) _).setCell (by show w.heap.size ≤ w.heap.size + 1; omega) _).setCell (by show w.heap.size ≤ w.heap.size + 1; omega) _).setCell (by show w.heap.size ≤ w.heap.size + 1; omega) _, rfl⟩
 ·clear hc
  go_wp2
  have hx := set5_blk HD.out (.string ⟨hStuck.toArray⟩) (.int .i64 0) (.int .i64 0) (.slice none 0 0) (.slice none 0 0)
  exact ret_row (w.heap.size + 1) 8 _ 48 rfl rfl hx Tryd.underlying48 (by kernel_rfl) ⟨((((HW1.out.setCell (by show w.heap.size ≤ w.heap.size + 1; omega) _).setCell (by show w.heap.size ≤ w.heap.size + 1; omega) _).setCell (by show w.heap.size ≤ w.heap.size + 1; omega) _).setCell (by show w.heap.size ≤ w.heap.size + 1; omega) _).setCell (by show w.heap.size ≤ w.heap.size + 1; omega) _, rfl⟩
end Go.Proofs.YtimccbilkjjakaaDoor
