/- Our own: texts joined: AlRef6. -/
import Derived.Test.YtimccbilkjjakaaDoorZAlRef4
import Derived.Test.YtimccbilkjjakaaDoorZAlRef5
namespace Go.Proofs.YtimccbilkjjakaaDoor
open Go.RowKit
set_option maxRecDepth 100000 in
set_option maxHeartbeats 8000000 in
theorem rturn1 {n : Nat} {W : World} {cb fb bb i N bc ic tc : Nat} {ba ia ta : Option Addr} {nm : List UInt8} {P S want : Int} {b : Lb} {le : Li → Nat} (hn : n ≤ fb) (hne : n ≤ W.heap.size)
  (hC : ∀ Y, Below W.heap.size W Y → (Y.cell? ⟨cb, 0, none⟩ = some (.string ⟨nm.toArray⟩) ∧ Y.cell? ⟨cb, 1, none⟩ = some (.int .i64 P) ∧ Y.cell? ⟨cb, 2, none⟩ = some (.int .i64 S) ∧ Y.cell? ⟨cb, 3, none⟩ = some (.slice ba N bc)) ∧ (Y.cell? ⟨bb, 0, none⟩ = some (.slice ia b.ins.length ic) ∧ Y.cell? ⟨bb, 1, none⟩ = some (.string ⟨b.fin.toArray⟩) ∧ Y.cell? ⟨bb, 2, none⟩ = some (.int .i64 b.a) ∧ Y.cell? ⟨bb, 3, none⟩ = some (.slice ta b.tos.length tc))) (hF : W.heap[fb]? = some (.cells #[.int .i64 0, .int .i64 0] 34 (0, 0))) (hI : XLs (InH W) W (.slice ia b.ins.length ic) b.ins) (hT : XRow (InH W) W (.slice ta b.tos.length tc) b.tos.length (intsG b.tos)) (hN' : N ≤ 100000) (htl : b.tos.length ≤ 100000) (hil : b.ins.length ≤ 100000)
  (hL : ∀ x ∈ b.ins, ∀ Y, Below W.heap.size W Y → Calls Tryd.prog 18 #[.agg (lcV nm P S (.slice ba N bc)), .agg (liV x).toArray, .int .i64 1] Y fun e w' => e = .returned (.int .i64 ((le x : Nat) : Int)) ∧ Below Y.heap.size Y w')
  {e : Nat} (he : e = if (if ((b.fin != lJump) && !inR 8 b.a) || !(b.tos.all (inR (N : Int))) then 2 else 0) = 0 then firstL le b.ins else (if ((b.fin != lJump) && !inR 8 b.a) || !(b.tos.all (inR (N : Int))) then 2 else 0))
  {c0 c11 c12 c13 c14 c15 c16 c17 c18 c19 c20 c21 c22 c23 c24 c25 c26 c27 c28 c29 c30 c31 c32 c33 c34 c35 c36 c37 c38 c39 c40 c41 c42 c43 c44 c45 c46 c47 c48 c49 c50 c51 c52 c53 c54 c55 c56 c57 c58 c59 c60 c61 c62 c148 : Value} {u7 u8 u9 u10 u63 u64 u65 u66 u67 u68 u69 u70 u71 u72 u73 u74 u75 u76 u77 u78 u79 u80 u81 u82 u83 u84 u85 u86 u87 u88 u89 u90 u91 u92 u93 u94 u95 u96 u97 u98 u99 u100 u101 u102 u103 u104 u105 u106 u107 u108 u109 u110 u111 u112 u113 u114 u115 u116 u117 u118 u119 u120 u121 u122 u123 u124 u125 u126 u127 u128 u129 u130 u131 u132 u133 u134 u135 u136 u137 u138 u139 u140 u141 u142 u143 u144 u145 u146 u147 : Value} {Q : Exit → Act → World → Prop}
  (hP : ∀ c (a : Act) (d : Option Tmp) (v : Value) (w : World), Q (.panic c) (a.put d v) w → Q (.panic c) a w)
  (hN : e = 0 → ∀ (u7 u8 u9 u10 u63 u64 u65 u66 u67 u68 u69 u70 u71 u72 u73 u74 u75 u76 u77 u78 u79 u80 u81 u82 u83 u84 u85 u86 u87 u88 u89 u90 u91 u92 u93 u94 u95 u96 u97 u98 u99 u100 u101 u102 u103 u104 u105 u106 u107 u108 u109 u110 u111 u112 u113 u114 u115 u116 u117 u118 u119 u120 u121 u122 u123 u124 u125 u126 u127 u128 u129 u130 u131 u132 u133 u134 u135 u136 u137 u138 u139 u140 u141 u142 u143 u144 u145 u146 u147 : Value) (w1 : World), Below W.heap.size W w1 → Q .normal ⟨#[c0, .pointer (some ⟨cb, 0, none⟩), .pointer (some ⟨fb, 0, none⟩), .int .i64 (i : Int), .pointer (some ⟨bb, 0, none⟩), .int .i64 want, .int .i64 1, u7, u8, u9, u10, c11, c12, c13, c14, c15, c16, c17, c18, c19, c20, c21, c22, c23, c24, c25, c26, c27, c28, c29, c30, c31, c32, c33, c34, c35, c36, c37, c38, c39, c40, c41, c42, c43, c44, c45, c46, c47, c48, c49, c50, c51, c52, c53, c54, c55, c56, c57, c58, c59, c60, c61, c62, u63, u64, u65, u66, u67, u68, u69, u70, u71, u72, u73, u74, u75, u76, u77, u78, u79, u80, u81, u82, u83, u84, u85, u86, u87, u88, u89, u90, u91, u92, u93, u94, u95, u96, u97, u98, u99, u100, u101, u102, u103, u104, u105, u106, u107, u108, u109, u110, u111, u112, u113, u114, u115, u116, u117, u118, u119, u120, u121, u122, u123, u124, u125, u126, u127, u128, u129, u130, u131, u132, u133, u134, u135, u136, u137, u138, u139, u140, u141, u142, u143, u144, u145, u146, u147, c148], []⟩ w1)
  (hR : e ≠ 0 → ∀ (u7 u8 u9 u10 u63 u64 u65 u66 u67 u68 u69 u70 u71 u72 u73 u74 u75 u76 u77 u78 u79 u80 u81 u82 u83 u84 u85 u86 u87 u88 u89 u90 u91 u92 u93 u94 u95 u96 u97 u98 u99 u100 u101 u102 u103 u104 u105 u106 u107 u108 u109 u110 u111 u112 u113 u114 u115 u116 u117 u118 u119 u120 u121 u122 u123 u124 u125 u126 u127 u128 u129 u130 u131 u132 u133 u134 u135 u136 u137 u138 u139 u140 u141 u142 u143 u144 u145 u146 u147 : Value) (w1 : World), Below n W w1 → w1.heap[fb]? = some (.cells #[.int .i64 (e : Int), .int .i64 (i : Int)] 34 (0, 0)) → Q .ret ⟨#[c0, .pointer (some ⟨cb, 0, none⟩), .pointer (some ⟨fb, 0, none⟩), .int .i64 (i : Int), .pointer (some ⟨bb, 0, none⟩), .int .i64 want, .int .i64 1, u7, u8, u9, u10, c11, c12, c13, c14, c15, c16, c17, c18, c19, c20, c21, c22, c23, c24, c25, c26, c27, c28, c29, c30, c31, c32, c33, c34, c35, c36, c37, c38, c39, c40, c41, c42, c43, c44, c45, c46, c47, c48, c49, c50, c51, c52, c53, c54, c55, c56, c57, c58, c59, c60, c61, c62, u63, u64, u65, u66, u67, u68, u69, u70, u71, u72, u73, u74, u75, u76, u77, u78, u79, u80, u81, u82, u83, u84, u85, u86, u87, u88, u89, u90, u91, u92, u93, u94, u95, u96, u97, u98, u99, u100, u101, u102, u103, u104, u105, u106, u107, u108, u109, u110, u111, u112, u113, u114, u115, u116, u117, u118, u119, u120, u121, u122, u123, u124, u125, u126, u127, u128, u129, u130, u131, u132, u133, u134, u135, u136, u137, u138, u139, u140, u141, u142, u143, u144, u145, u146, u147, c148], []⟩ w1) : Code.wp Tryd.prog turnC Q ⟨#[c0, .pointer (some ⟨cb, 0, none⟩), .pointer (some ⟨fb, 0, none⟩), .int .i64 (i : Int), .pointer (some ⟨bb, 0, none⟩), .int .i64 want, .int .i64 1, u7, u8, u9, u10, c11, c12, c13, c14, c15, c16, c17, c18, c19, c20, c21, c22, c23, c24, c25, c26, c27, c28, c29, c30, c31, c32, c33, c34, c35, c36, c37, c38, c39, c40, c41, c42, c43, c44, c45, c46, c47, c48, c49, c50, c51, c52, c53, c54, c55, c56, c57, c58, c59, c60, c61, c62, u63, u64, u65, u66, u67, u68, u69, u70, u71, u72, u73, u74, u75, u76, u77, u78, u79, u80, u81, u82, u83, u84, u85, u86, u87, u88, u89, u90, u91, u92, u93, u94, u95, u96, u97, u98, u99, u100, u101, u102, u103, u104, u105, u106, u107, u108, u109, u110, u111, u112, u113, u114, u115, u116, u117, u118, u119, u120, u121, u122, u123, u124, u125, u126, u127, u128, u129, u130, u131, u132, u133, u134, u135, u136, u137, u138, u139, u140, u141, u142, u143, u144, u145, u146, u147, c148], []⟩ W := by
 have HN := hidX hN
 have HR := hidX hR
 have HP := hidX hP
 have HC := hidX hC
 have HF := hidX hF
 have HI := hidX hI
 have HT := hidX hT
 have HL := hidX hL
 have hil' : (b.ins.length : Int) ≤ 100000 := by omega
 have hfl := heap_lt hF
 generalize he0 : (if ((b.fin != lJump) && !inR 8 b.a) || !(b.tos.all (inR (N : Int))) then 2 else 0) = e0 at he
 have HE := hidX he
 have HE0 := hidX he0
 obtain ⟨⟨k0, k1, k2, k3⟩, ⟨x0, x1, x2, x3⟩⟩ := HC.out W (Below.refl _ _)
 clear hN hR hP hC hF hI hT hL he he0
 conv => arg 2; whnf
 go_upto_if 70 with fail
 refine wp_cond (t := true) rfl ?_
 rw [if_pos rfl]
 refine rl28 (N := N) (ba := ba) (bc := bc) (ta := ta) (tc := tc) x1 x2 (fun Y hY => ⟨(HC.out Y hY).1.2.2.2, (HC.out Y hY).2.2.2.2⟩) HT.out hN' htl (fun c a d v w h => HP.out c a d v w h) ?_
 intro u8 u9 u71 u72 u73 u74 u75 u76 u77 u78 u79 u80 u81 u82 u83 u84 u85 u86 u87 u88 u89 u90 u91 u92 u93 u94 u95 u96 u97 u98 u99 u100 u101 u102 u103 u104 c w1 hc hb1
 have HEV := hidX (show e0 = c by rw [← HE0.out, hc])
 have HB1 := hidX hb1
 clear hc k0 k1 k2 k3 x0 x1 x2 x3
 obtain ⟨⟨k0, k1, k2, k3⟩, ⟨x0, x1, x2, x3⟩⟩ := HC.out w1 hb1
 clear hb1
 go_wp2_with fail
 go_loopw [7, 10] (fun v7 v10 wr => ∃ (q : Nat) (c : Nat), q ≤ b.ins.length ∧ v10 = .int .i64 (q : Int) ∧ v7 = .int .i64 (c : Int) ∧ Hid (c = if e0 = 0 then firstL le (b.ins.take q) else e0) ∧ Hid (Below W.heap.size W wr)) (fun _ v10 _ => b.ins.length - (intOf v10).toNat)
 case atStart => exact ⟨0, c, by omega, rfl, rfl, by rw [HEV.out]; exact (Nat.eq_zero_or_pos c).elim (fun h => h.trans ((if_pos h).trans rfl).symm) (fun h => (if_neg (show ¬ c = 0 by omega)).symm), HB1.out⟩
 case round =>
  obtain ⟨q, c, hq, rfl, rfl, HCQ, HBR⟩ := hrel
  obtain ⟨⟨k0, k1, k2, k3⟩, ⟨x0, x1, x2, x3⟩⟩ := HC.out wr HBR.out
  by_cases hgo : q < b.ins.length ∧ c = 0
  ·obtain ⟨hlt, hc0⟩ := hgo
   subst hc0
   have hlt' : (q : Int) < (b.ins.length : Int) := by omega
   have hz : e0 = 0 := by
    have := HCQ.out
    by_cases h : e0 = 0
    ·exact h
    ·rw [if_neg h] at this; exact this.symm
   have hz1 : firstL le (b.ins.take q) = 0 := by have := HCQ.out; rw [if_pos hz] at this; exact this.symm
   obtain ⟨gi, oi, ei, hgi, i0, i1, i2, i3, i4, i5⟩ := HI.out.ins hlt
   subst ei
   have kc : ∀ o v, W.cell? ⟨gi, o, none⟩ = some v → wr.cell? ⟨gi, o, none⟩ = some v := fun o v hv => (HBR.out.cell (p := ⟨gi, o, none⟩) hgi).trans hv
   replace i0 := kc _ _ i0
   replace i1 := kc _ _ i1
   replace i2 := kc _ _ i2
   replace i3 := kc _ _ i3
   replace i4 := kc _ _ i4
   replace i5 := kc _ _ i5
   have HLX := hidX (HL.out _ (List.getElem_mem hlt))
   have HNX := hidX (show le b.ins[q] = if e0 = 0 then firstL le (b.ins.take (q + 1)) else e0 from by rw [if_pos hz, firstL_snoc hlt hz1])
   generalize b.ins[q] = x at *
   obtain ⟨xk, xd, xa, xb, xn, xm⟩ := x
   dsimp only at i0 i1 i2 i3 i4 i5
   generalize le ⟨xk, xd, xa, xb, xn, xm⟩ = c1 at HLX HNX
   clear kc hz hz1 HCQ
   have HSS := hidX (show ∀ W1 : World, Below wr.heap.size wr W1 → ((W1.cell? ⟨cb, 0, none⟩ = some (.string ⟨nm.toArray⟩) ∧ W1.cell? ⟨cb, 1, none⟩ = some (.int .i64 P) ∧ W1.cell? ⟨cb, 2, none⟩ = some (.int .i64 S) ∧ W1.cell? ⟨cb, 3, none⟩ = some (.slice ba N bc)) ∧ W1.cell? ⟨bb, 0, none⟩ = some (.slice (some ⟨gi, oi, none⟩) b.ins.length ic) ∧ W1.cell? ⟨gi, oi + q * 6, none⟩ = some (.string ⟨xk.toArray⟩) ∧ W1.cell? ⟨gi, oi + q * 6 + 1, none⟩ = some (.int .i64 xd) ∧ W1.cell? ⟨gi, oi + q * 6 + 2, none⟩ = some (.int .i64 xa) ∧ W1.cell? ⟨gi, oi + q * 6 + 3, none⟩ = some (.int .i64 xb) ∧ W1.cell? ⟨gi, oi + q * 6 + 4, none⟩ = some (.int .i64 xn) ∧ W1.cell? ⟨gi, oi + q * 6 + 5, none⟩ = some (.string ⟨xm.toArray⟩)) from fun W1 hb => by
    have h1 := HC.out W1 (bl_trans HBR.out HBR.out.size hb)
    have kk : ∀ o v, wr.cell? ⟨gi, o, none⟩ = some v → W1.cell? ⟨gi, o, none⟩ = some v := fun o v hv => (hb.cell (p := ⟨gi, o, none⟩) (Nat.lt_of_lt_of_le hgi HBR.out.size)).trans hv
    exact ⟨h1.1, h1.2.1, kk _ _ i0, kk _ _ i1, kk _ _ i2, kk _ _ i3, kk _ _ i4, kk _ _ i5⟩)
   go_upto_region 41 with fail
   clear k0 k1 k2 k3 x0 x1 x2 x3 i0 i1 i2 i3 i4 i5 hgi
   refine wp_region_V (fun W => ((W.cell? ⟨cb, 0, none⟩ = some (.string ⟨nm.toArray⟩) ∧ W.cell? ⟨cb, 1, none⟩ = some (.int .i64 P) ∧ W.cell? ⟨cb, 2, none⟩ = some (.int .i64 S) ∧ W.cell? ⟨cb, 3, none⟩ = some (.slice ba N bc)) ∧ W.cell? ⟨bb, 0, none⟩ = some (.slice (some ⟨gi, oi, none⟩) b.ins.length ic) ∧ W.cell? ⟨gi, oi + q * 6, none⟩ = some (.string ⟨xk.toArray⟩) ∧ W.cell? ⟨gi, oi + q * 6 + 1, none⟩ = some (.int .i64 xd) ∧ W.cell? ⟨gi, oi + q * 6 + 2, none⟩ = some (.int .i64 xa) ∧ W.cell? ⟨gi, oi + q * 6 + 3, none⟩ = some (.int .i64 xb) ∧ W.cell? ⟨gi, oi + q * 6 + 4, none⟩ = some (.int .i64 xn) ∧ W.cell? ⟨gi, oi + q * 6 + 5, none⟩ = some (.string ⟨xm.toArray⟩))) 8 (by kernel_rfl) (HSS.out _ (by (repeat (first | exact Below.refl _ _ | assumption | refine Below.drew ?_ | refine bT ?_ _ | refine bS ?_ _ | refine bA ?_ _)))) (fun hHeld => ?_)
   refine wpAnyV_put 0 (some 135) (v := ?v0r3) rfl rfl (by kernel_rfl) (by kernel_rfl) (by kernel_rfl) (by kernel_rfl) (by kernel_rfl) (fun _ _ _ h => HP.out _ _ _ _ _ h) (Or.inl ⟨by rfl, ?hy0r3⟩) hHeld ?rest0r3
   case hy0r3 => (intro w2 hSw; (try dsimp only at hSw); first | (go_simp; done) | (go_simp; with_reducible rfl))
   simp only [Act.put, List.setIfInBounds_toArray, List.set_cons_zero, List.set_cons_succ]
   refine wpAnyV_put 1 (some 136) (v := ?v1r3) rfl rfl (by kernel_rfl) (by kernel_rfl) (by kernel_rfl) (by kernel_rfl) (by kernel_rfl) (fun _ _ _ h => HP.out _ _ _ _ _ h) (Or.inl ⟨by rfl, ?hy1r3⟩) hHeld ?rest1r3
   case hy1r3 => (intro w2 hSw; (try dsimp only at hSw); first | (go_simp; done) | (go_simp; with_reducible rfl))
   simp only [Act.put, List.setIfInBounds_toArray, List.set_cons_zero, List.set_cons_succ]
   refine wpAnyV_put 2 (some 137) (v := ?v2r3) rfl rfl (by kernel_rfl) (by kernel_rfl) (by kernel_rfl) (by kernel_rfl) (by kernel_rfl) (fun _ _ _ h => HP.out _ _ _ _ _ h) (Or.inl ⟨by rfl, ?hy2r3⟩) hHeld ?rest2r3
   case hy2r3 => (intro w2 hSw; (try dsimp only at hSw); first | (go_simp; done) | (go_simp; with_reducible rfl))
   simp only [Act.put, List.setIfInBounds_toArray, List.set_cons_zero, List.set_cons_succ]
   refine wpAnyV_put 3 (some 138) (v := ?v3r3) rfl rfl (by kernel_rfl) (by kernel_rfl) (by kernel_rfl) (by kernel_rfl) (by kernel_rfl) (fun _ _ _ h => HP.out _ _ _ _ _ h) (Or.inl ⟨by rfl, ?hy3r3⟩) hHeld ?rest3r3
   case hy3r3 => (intro w2 hSw; (try dsimp only at hSw); first | (go_simp; done) | (go_simp; with_reducible rfl))
   simp only [Act.put, List.setIfInBounds_toArray, List.set_cons_zero, List.set_cons_succ]
   refine wpAnyV_put 4 (some 139) (v := ?v4r3) rfl rfl (by kernel_rfl) (by kernel_rfl) (by kernel_rfl) (by kernel_rfl) (by kernel_rfl) (fun _ _ _ h => HP.out _ _ _ _ _ h) (Or.inl ⟨by rfl, ?hy4r3⟩) hHeld ?rest4r3
   case hy4r3 => (intro w2 hSw; (try dsimp only at hSw); first | (go_simp; done) | (go_simp; with_reducible rfl))
   simp only [Act.put, List.setIfInBounds_toArray, List.set_cons_zero, List.set_cons_succ]
   refine wpAnyV_put 5 (some 140) (v := ?v5r3) rfl rfl (by kernel_rfl) (by kernel_rfl) (by kernel_rfl) (by kernel_rfl) (by kernel_rfl) (fun _ _ _ h => HP.out _ _ _ _ _ h) (Or.inl ⟨by rfl, ?hy5r3⟩) hHeld ?rest5r3
   case hy5r3 => (intro w2 hSw; (try dsimp only at hSw); first | (go_simp; done) | (go_simp; with_reducible rfl))
   simp only [Act.put, List.setIfInBounds_toArray, List.set_cons_zero, List.set_cons_succ]
   refine wpAnyV_put 6 (some 141) (v := ?v6r3) rfl rfl (by kernel_rfl) (by kernel_rfl) (by kernel_rfl) (by kernel_rfl) (by kernel_rfl) (fun _ _ _ h => HP.out _ _ _ _ _ h) (Or.inl ⟨by rfl, ?hy6r3⟩) hHeld ?rest6r3
   case hy6r3 => (intro w2 hSw; (try dsimp only at hSw); first | (go_simp; done) | (go_simp; with_reducible rfl))
   simp only [Act.put, List.setIfInBounds_toArray, List.set_cons_zero, List.set_cons_succ]
   refine wpAnyV_one (i := 7) (by kernel_rfl) rfl (fun K7 hK7 => ?_)
   go_simp
   refine (HLX.out _ (bl_trans HBR.out HBR.out.size (show Below wr.heap.size wr _ by (repeat (first | exact Below.refl _ _ | assumption | refine Below.drew ?_ | refine bT ?_ _ | refine bS ?_ _ | refine bA ?_ _))))).mono ?_
   rintro e X1 ⟨rfl, hb1⟩
   have hx1 := bl_trans HBR.out HBR.out.size (bl_trans (show Below wr.heap.size wr _ by (repeat (first | exact Below.refl _ _ | assumption | refine Below.drew ?_ | refine bT ?_ _ | refine bS ?_ _ | refine bA ?_ _))) (by first | exact Nat.le_refl _ | (simp; done)) hb1)
   have hHeld := HSS.out _ (bl_trans (show Below wr.heap.size wr _ by (repeat (first | exact Below.refl _ _ | assumption | refine Below.drew ?_ | refine bT ?_ _ | refine bS ?_ _ | refine bA ?_ _))) (by first | exact Nat.le_refl _ | (simp; done)) hb1)
   refine hK7.out _ _ (fun _ => hHeld) (fun _ => ?_)
   clear hK7 K7
   try simp only [Act.put, List.setIfInBounds_toArray, List.set_cons_zero, List.set_cons_succ]
   refine wpAnyV_one (i := 8) (by kernel_rfl) rfl (fun K8 hK8 => ?_)
   go_simp
   refine hK8.out _ _ (fun h => absurd rfl h) (fun _ => ?_)
   clear hK8 K8 hHeld
   try simp only [Act.put, List.setIfInBounds_toArray, List.set_cons_zero, List.set_cons_succ]
   refine wpAnyV_done (by kernel_rfl) ?_ _
   have HB3 := hidX hx1
   clear hb1 hx1
   go_wp2
   go_roundw
   case rel => exact ⟨q + 1, c1, by omega, by go_num, rfl, HNX.out, HB3.out⟩
   all_goals (simp [intOf]; omega)
  ·have hend : e = c := by
    rw [HE.out, HCQ.out]
    by_cases h : e0 = 0
    ·rw [if_pos h, if_pos h]
     rcases Nat.lt_or_ge q b.ins.length with hl | hl
     ·have : firstL le (b.ins.take q) ≠ 0 := fun h2 => hgo ⟨hl, by have := HCQ.out; rw [if_pos h, h2] at this; exact this⟩
      exact firstL_more this
     ·rw [List.take_of_length_le (by omega)]
    ·rw [if_neg h, if_neg h]
   subst hend
   have f0 := cell_of_blk ((HBR.out.block fb hfl).trans HF.out) 0
   have f1 := cell_of_blk ((HBR.out.block fb hfl).trans HF.out) 1
   have g0 := free_of_blk ((HBR.out.block fb hfl).trans HF.out) 0
   have g1 := free_of_blk ((HBR.out.block fb hfl).trans HF.out) 1
   have HBK := hidX ((HBR.out.block fb hfl).trans HF.out)
   simp only [List.getElem?_toArray, List.getElem?_cons_zero, List.getElem?_cons_succ] at f0 f1
   have HQ := hidX hgo
   have hlow : Below n W wr := HBR.out.mono hne
   have HLO := hidX hlow
   by_cases hc : e = 0
   ·have HZ := hidX hc
    have hcz : ((e : Int) == 0) = true := by simpa using hc
    have hcp : ¬ ((0 : Int) < (e : Int)) := by omega
    have hql : ¬ ((q : Int) < (b.ins.length : Int)) := by have := fun h => hgo ⟨h, hc⟩; omega
    clear hgo hlow hc
    go_wp2
    exact HN.out HZ.out _ _ _ _ _ _ _ _ _ _ _ _ _ _ _ _ _ _ _ _ _ _ _ _ _ _ _ _ _ _ _ _ _ _ _ _ _ _ _ _ _ _ _ _ _ _ _ _ _ _ _ _ _ _ _ _ _ _ _ _ _ _ _ _ _ _ _ _ _ _ _ _ _ _ _ _ _ _ _ _ _ _ _ _ _ _ _ _ _ _ HBR.out
   ·have HZ := hidX hc
    have hcz : ((e : Int) == 0) = false := by simp; omega
    have hcp : (0 : Int) < (e : Int) := by omega
    clear hgo hlow hc
    by_cases hql : (q : Int) < (b.ins.length : Int)
    ·go_wp2
     refine HR.out HZ.out _ _ _ _ _ _ _ _ _ _ _ _ _ _ _ _ _ _ _ _ _ _ _ _ _ _ _ _ _ _ _ _ _ _ _ _ _ _ _ _ _ _ _ _ _ _ _ _ _ _ _ _ _ _ _ _ _ _ _ _ _ _ _ _ _ _ _ _ _ _ _ _ _ _ _ _ _ _ _ _ _ _ _ _ _ _ _ _ _ _ ?_ ?_
     ·exact (HLO.out.setCell (p := ⟨fb, 0, none⟩) (by exact hn) _).setCell (p := ⟨fb, 1, none⟩) (by exact hn) _
     ·have := blk_setCell (blk_setCell HBK.out 0 (.int .i64 (e : Int))) 1 (.int .i64 (i : Int))
      simpa using this
    ·go_wp2
     refine HR.out HZ.out _ _ _ _ _ _ _ _ _ _ _ _ _ _ _ _ _ _ _ _ _ _ _ _ _ _ _ _ _ _ _ _ _ _ _ _ _ _ _ _ _ _ _ _ _ _ _ _ _ _ _ _ _ _ _ _ _ _ _ _ _ _ _ _ _ _ _ _ _ _ _ _ _ _ _ _ _ _ _ _ _ _ _ _ _ _ _ _ _ _ ?_ ?_
     ·exact (HLO.out.setCell (p := ⟨fb, 0, none⟩) (by exact hn) _).setCell (p := ⟨fb, 1, none⟩) (by exact hn) _
     ·have := blk_setCell (blk_setCell HBK.out 0 (.int .i64 (e : Int))) 1 (.int .i64 (i : Int))
      simpa using this
end Go.Proofs.YtimccbilkjjakaaDoor
