/- Our own: texts joined: AlRunOf. -/
import Derived.Test.YtimccbilkjjakaaDoorZAlRun
import Derived.Test.YtimccbilkjjakaaDoorZSetS
import Derived.Deep.DeepCutAuto
namespace Go.Proofs.YtimccbilkjjakaaDoor
open Go.RowKit
theorem insL_bndR {args ans : List Int} {most : Int} {x : Li} {s : Rst} {r : Ra} (hr : r.next.length = 4) (h : BndR ans s) : BndR ans (insL args ans most x s r).1 := insL_bnd (by omega) h
theorem dnA_start {X : World} {db : Nat} (h : X.heap[db]? = some (.cells dnZA 42 (0, 0))) : DnJ (fun _ => False) X db st0 (.slice none 0 0) (.slice none 0 0) [] :=
 ⟨h, World.ownsRow_nil _ _ _ _, fun b e => by simp [Value.ownBlock] at e, World.ownsRow_nil _ _ _ _, fun b e => by simp [Value.ownBlock] at e, rfl, fun b e => by simp [Value.ownBlock] at e, fun _ e => e.elim⟩
noncomputable def r14C : Code := ((Tryd.f11.body.bind (regionOf 14)).getD .skip)
set_option maxRecDepth 100000 in
theorem r14 {W : World} {xb : Nat} {k : List UInt8} (h : W.cell? ⟨xb, 0, none⟩ = some (.string ⟨k.toArray⟩)) {c0 c1 c2 c3 c4 c5 c6 c7 c8 c9 c10 c11 c12 c13 c14 c15 c16 c17 c18 c20 c21 c22 c23 c24 c25 c26 c27 c28 c29 c30 c31 c32 c33 c34 c35 c36 c37 c38 c39 c40 c41 c42 c43 c44 c45 c46 c47 c48 c49 c52 c53 c54 c55 c56 c57 c58 c59 c60 c61 c62 c63 c64 c65 c66 c67 c68 c69 c70 c71 c72 c73 c74 c75 c76 c77 c78 c79 c80 c81 c82 c83 c84 c85 c86 c87 c88 c89 c90 c91 c92 c93 c94 c95 c96 c97 c98 c99 c100 c101 c102 c103 c104 c105 c106 c107 c108 c109 c110 c111 c112 c113 c114 c115 c116 c117 c118 c119 c120 c121 c122 c123 c124 c125 c126 c127 c128 c129 c130 c131 c132 c133 c134 c135 c136 c137 c138 c139 c140 c141 c142 c143 c144 c145 c146 c147 c148 c149 c150 c151 c152 c153 c154 c155 c156 c157 c158 c159 c160 c161 c162 c163 c164 c165 c166 c167 c168 c169 c170 c171 c172 c173 c174 c175 c176 c177 c178 c179 c180 c181 c182 c183 c184 c185 c186 c187 c188 c189 c190 c191 c192 c193 c194 c195 c196 c197 c198 c199 c200 c201 c202 c203 c204 c205 c206 c207 c208 c209 c210 c211 c212 c213 c214 c215 c216 c217 c218 c219 c220 c221 c222 c223 c224 c225 c226 c227 c228 c229 c230 c231 c232 c233 c234 c235 c236 c237 c238 c239 c240 c241 c242 u50 u51 : Value} {Q : Exit → Act → World → Prop}
  (hN : ∀ u50 : Value, Q .normal ⟨#[c0, c1, c2, c3, c4, c5, c6, c7, c8, c9, c10, c11, c12, c13, c14, c15, c16, c17, c18, .pointer (some ⟨xb, 0, none⟩), c20, c21, c22, c23, c24, c25, c26, c27, c28, c29, c30, c31, c32, c33, c34, c35, c36, c37, c38, c39, c40, c41, c42, c43, c44, c45, c46, c47, c48, c49, u50, .string ⟨k.toArray⟩, c52, c53, c54, c55, c56, c57, c58, c59, c60, c61, c62, c63, c64, c65, c66, c67, c68, c69, c70, c71, c72, c73, c74, c75, c76, c77, c78, c79, c80, c81, c82, c83, c84, c85, c86, c87, c88, c89, c90, c91, c92, c93, c94, c95, c96, c97, c98, c99, c100, c101, c102, c103, c104, c105, c106, c107, c108, c109, c110, c111, c112, c113, c114, c115, c116, c117, c118, c119, c120, c121, c122, c123, c124, c125, c126, c127, c128, c129, c130, c131, c132, c133, c134, c135, c136, c137, c138, c139, c140, c141, c142, c143, c144, c145, c146, c147, c148, c149, c150, c151, c152, c153, c154, c155, c156, c157, c158, c159, c160, c161, c162, c163, c164, c165, c166, c167, c168, c169, c170, c171, c172, c173, c174, c175, c176, c177, c178, c179, c180, c181, c182, c183, c184, c185, c186, c187, c188, c189, c190, c191, c192, c193, c194, c195, c196, c197, c198, c199, c200, c201, c202, c203, c204, c205, c206, c207, c208, c209, c210, c211, c212, c213, c214, c215, c216, c217, c218, c219, c220, c221, c222, c223, c224, c225, c226, c227, c228, c229, c230, c231, c232, c233, c234, c235, c236, c237, c238, c239, c240, c241, c242], []⟩ W) : Code.wp Tryd.prog r14C Q ⟨#[c0, c1, c2, c3, c4, c5, c6, c7, c8, c9, c10, c11, c12, c13, c14, c15, c16, c17, c18, .pointer (some ⟨xb, 0, none⟩), c20, c21, c22, c23, c24, c25, c26, c27, c28, c29, c30, c31, c32, c33, c34, c35, c36, c37, c38, c39, c40, c41, c42, c43, c44, c45, c46, c47, c48, c49, u50, u51, c52, c53, c54, c55, c56, c57, c58, c59, c60, c61, c62, c63, c64, c65, c66, c67, c68, c69, c70, c71, c72, c73, c74, c75, c76, c77, c78, c79, c80, c81, c82, c83, c84, c85, c86, c87, c88, c89, c90, c91, c92, c93, c94, c95, c96, c97, c98, c99, c100, c101, c102, c103, c104, c105, c106, c107, c108, c109, c110, c111, c112, c113, c114, c115, c116, c117, c118, c119, c120, c121, c122, c123, c124, c125, c126, c127, c128, c129, c130, c131, c132, c133, c134, c135, c136, c137, c138, c139, c140, c141, c142, c143, c144, c145, c146, c147, c148, c149, c150, c151, c152, c153, c154, c155, c156, c157, c158, c159, c160, c161, c162, c163, c164, c165, c166, c167, c168, c169, c170, c171, c172, c173, c174, c175, c176, c177, c178, c179, c180, c181, c182, c183, c184, c185, c186, c187, c188, c189, c190, c191, c192, c193, c194, c195, c196, c197, c198, c199, c200, c201, c202, c203, c204, c205, c206, c207, c208, c209, c210, c211, c212, c213, c214, c215, c216, c217, c218, c219, c220, c221, c222, c223, c224, c225, c226, c227, c228, c229, c230, c231, c232, c233, c234, c235, c236, c237, c238, c239, c240, c241, c242], []⟩ W := by
 have HN := hidX hN
 clear hN
 conv => arg 2; whnf
 go_wp2
 exact HN.out _
set_option maxRecDepth 100000 in
set_option maxHeartbeats 8000000 in
theorem runA_any {w : World} (nm : List UInt8) (P : Int) (zn : Nat) (L : List Lb) (hW : WellL P (zn : Int) L) (hil : ∀ b ∈ L, b.ins.length ≤ 100000) (h64 : ∀ b ∈ L, ∀ x ∈ b.ins, In64 x.num) (ba : Option Addr) (bc : Nat) (hC : XLC (InH w) w (.slice ba L.length bc) L) (args : List Int) (hpa : (args.length : Int) = P) (aad : Option Addr) (acap : Nat) (hargs : XRow (InH w) w (.slice aad args.length acap) args.length (intsG args)) (ha64 : ∀ v ∈ args, In64 v) (ans : List Int) (nad : Option Addr) (ncap : Nat) (hans : XRow (InH w) w (.slice nad ans.length ncap) ans.length (intsG ans)) (hn64 : ∀ v ∈ ans, In64 v) (hal : ans.length ≤ 100000) (ticks : Int) (htk : ticks ≤ 1000) (most : Nat) (hmost : most ≤ 100000) :
  Calls Tryd.prog 11 #[.agg (lcV nm P (zn : Int) (.slice ba L.length bc)), .slice aad args.length acap, .slice nad ans.length ncap, .int .i64 ticks, .int .i64 (most : Int)] w fun e w' => Below w.heap.size w w' ∧ ∃ v, e = .returned v ∧ DoneA w.heap.size w' v (walkL2 hLongL L args ans ticks most 0 st0 (raZ zn)) := by
 have hl0 := hW.l0
 have hl1 := hW.l1
 have hl1' : (L.length : Int) ≤ 3000 := by have := hW.l1; omega
 have hzn : zn ≤ 1000 := by have := hW.s1; omega
 have hzn' : (zn : Int) ≤ 1000 := by omega
 have hmost' : (most : Int) ≤ 100000 := by omega
 obtain ⟨W0, hW0⟩ : ∃ W0, W0 = (((((w.alloc (.cells (lcV nm P (zn : Int) (.slice ba L.length bc)) 24)).alloc (.cells dnZA 42)).alloc (.cells (intsG (List.replicate 8 0)).toArray 3)).alloc (.cells (intsG (List.replicate zn 0)).toArray 3)).alloc (.cells (intsG (List.replicate 4 0)).toArray 3)).alloc (.cells dnZA 42) := ⟨_, rfl⟩
 have hJ0 : LwJ (fun _ => False) w (lcV nm P (zn : Int) (.slice ba L.length bc)) W0 w.heap.size (w.heap.size + 1) (w.heap.size + 1 + 1) (w.heap.size + 1 + 1 + 1) (w.heap.size + 1 + 1 + 1 + 1) (w.heap.size + 1 + 1 + 1 + 1 + 1) st0 (raZ zn) := by
  have z : ∀ (Y : World) (o : Obj), (Y.alloc o).heap.size = Y.heap.size + 1 := fun Y o => by simp
  have n0 := heap_alloc_new w (.cells (lcV nm P (zn : Int) (.slice ba L.length bc)) 24)
  have kk : ∀ (Y : World) (o p : Obj) (k : Nat), k < Y.heap.size → Y.heap[k]? = some p → (Y.alloc o).heap[k]? = some p := fun Y o p k hk h => (Below.heap_alloc _ _ _ hk).trans h
  have nn : ∀ (Y : World) (o : Obj) (k : Nat), k = Y.heap.size → (Y.alloc o).heap[k]? = some o := fun Y o k hk => by rw [hk]; exact heap_alloc_new Y o
  rw [hW0]
  refine ⟨by (repeat (first | exact Below.refl _ _ | assumption | refine Below.drew ?_ | refine bT ?_ _ | refine bS ?_ _ | refine bA ?_ _)), by omega, ?_, ?_, ?_, ?_, ?_, by omega, ⟨_, _, _, _, dnA_start (nn _ _ _ (by simp only [z])), fun _ e => e.elim⟩, fun e => e, fun _ e => e.elim, rfl, rfl, by rw [show (raZ zn).slots.length = zn from List.length_replicate]; exact hzn⟩
  ·exact kk _ _ _ _ (by simp only [z]; omega) (kk _ _ _ _ (by simp only [z]; omega) (kk _ _ _ _ (by simp only [z]; omega) (kk _ _ _ _ (by simp only [z]; omega) (kk _ _ _ _ (by simp only [z]; omega) n0))))
  ·exact kk _ _ _ _ (by simp only [z]; omega) (kk _ _ _ _ (by simp only [z]; omega) (kk _ _ _ _ (by simp only [z]; omega) (kk _ _ _ _ (by simp only [z]; omega) (nn _ _ _ (by simp only [z])))))
  ·exact kk _ _ _ _ (by simp only [z]; omega) (kk _ _ _ _ (by simp only [z]; omega) (kk _ _ _ _ (by simp only [z]; omega) (nn _ _ _ (by simp only [z]))))
  ·exact kk _ _ _ _ (by simp only [z]; omega) (kk _ _ _ _ (by simp only [z]; omega) (nn _ _ _ (by simp only [z])))
  ·exact kk _ _ _ _ (by simp only [z]; omega) (nn _ _ _ (by simp only [z]))
 have hmk : ∀ (k : Nat) (Y : World), k ≤ 100000 → (Instr.makeSlice 25 (.int .i64 (k : Int)) (.int .i64 (k : Int))).run Tryd.prog Y = .ok (.slice (some ⟨Y.heap.size, 0, none⟩) k k) (Y.alloc (.cells (intsG (List.replicate k 0)).toArray 3)) := fun k Y hk => make_intsA k hk Y
 have hmkz := fun Y : World => hmk zn Y (by omega)
 have hmk8 : ∀ Y : World, (Instr.makeSlice 25 (.int .i64 8) (.int .i64 8)).run Tryd.prog Y = .ok (.slice (some ⟨Y.heap.size, 0, none⟩) 8 8) (Y.alloc (.cells (intsG (List.replicate 8 0)).toArray 3)) := fun Y => hmk 8 Y (by decide)
 have hmk4 : ∀ Y : World, (Instr.makeSlice 25 (.int .i64 4) (.int .i64 4)).run Tryd.prog Y = .ok (.slice (some ⟨Y.heap.size, 0, none⟩) 4 4) (Y.alloc (.cells (intsG (List.replicate 4 0)).toArray 3)) := fun Y => hmk 4 Y (by decide)
 generalize hz8 : intsG (List.replicate 8 0) = z8 at hmk8 hW0
 generalize hz4 : intsG (List.replicate 4 0) = z4 at hmk4 hW0
 generalize hzz : intsG (List.replicate zn 0) = zz at hmkz hW0
 have HJ0 := hidX hJ0
 have HFI := hidX hW.fin
 have HIN := hidX (hW.ins hpa rfl)
 have HIL := hidX hil
 have H64 := hidX h64
 have HCO := hidX hC
 have HAR := hidX hargs
 have HAN := hidX hans
 have HA6 := hidX ha64
 have HN6 := hidX hn64
 have HR0 := hidX (show R64 (raZ zn) from ⟨fun v hv => by rw [List.eq_of_mem_replicate hv]; exact in64_zero, fun v hv => by rw [List.eq_of_mem_replicate hv]; exact in64_zero⟩)
 generalize hgoal : walkL2 hLongL L args ans ticks most 0 st0 (raZ zn) = goal
 have HGO := hidX hgoal
 clear hJ0 hW hil h64 hC hargs hans ha64 hn64 hpa hgoal hz8 hz4 hzz hmk
 go_enter Tryd.func11, Tryd.ntmps11
 go_wp2_with fail
 rw [← hW0]
 clear hW0 hmkz hmk8 hmk4
 go_loopw [13, 15, 16, 17, 18, 19, 20, 21] (fun v13 v15 v16 _ _ _ _ _ wr => ∃ (q x : Nat) (s : Rst) (r : Ra) (nb : Nat), q ≤ most ∧ v16 = .int .i64 (q : Int) ∧ v15 = .int .i64 (x : Int) ∧ v13 = .slice (some ⟨nb, 0, none⟩) 4 4 ∧ Hid (LwJ (fun _ => False) w (lcV nm P (zn : Int) (.slice ba L.length bc)) wr w.heap.size (w.heap.size + 1) (w.heap.size + 1 + 1) (w.heap.size + 1 + 1 + 1) nb (w.heap.size + 1 + 1 + 1 + 1 + 1) s r) ∧ Hid (s.how = [] ∧ x < L.length ∧ BdT ticks s ∧ BndR ans s ∧ R64 r ∧ r.slots.length = zn ∧ walkL2 hLongL L args ans ticks (most - q) x s r = goal)) (fun _ _ v16 _ _ _ _ _ _ => most - (intOf v16).toNat)
 case atStart => exact ⟨0, 0, st0, raZ zn, _, by omega, rfl, rfl, rfl, HJ0.out, rfl, hl0, ⟨Int.le_refl _, Or.inr (Int.le_refl _), by simp [st0]⟩, ⟨by simp [st0], by simp [st0], fun c hc => by simp [st0] at hc⟩, HR0.out, List.length_replicate, HGO.out⟩
 case round =>
  obtain ⟨q, x, s, r, nb, hq, rfl, rfl, rfl, HJ, HM⟩ := hrel
  by_cases hqm : q < most
  ·have hqm' : (q : Int) < (most : Int) := by omega
   have hx := HM.out.2.1
   have hx' : (x : Int) < (L.length : Int) := by omega
   obtain ⟨wo, hwo⟩ : ∃ wo, wo = wr := ⟨_, rfl⟩
   subst hwo
   obtain ⟨g, off, ia, ic, ta, tc, e1, hg, r2, r3, k0, k1, k2, k3⟩ := HCO.out.blk hx
   subst e1
   have kc : ∀ o v, w.cell? ⟨g, o, none⟩ = some v → wo.cell? ⟨g, o, none⟩ = some v := fun o v hv => (HJ.out.low.cell (p := ⟨g, o, none⟩) hg).trans hv
   replace k0 := kc _ _ k0
   replace k1 := kc _ _ k1
   replace k2 := kc _ _ k2
   replace k3 := kc _ _ k3
   have d3 : wo.cell? ⟨w.heap.size, 3, none⟩ = some (.slice (some ⟨g, off, none⟩) L.length bc) := cell_of_blk HJ.out.code 3
   have hbm := List.getElem_mem hx
   have hbt : lbAt L x = L[x] := by unfold lbAt; simp [hx]
   have HFB := hidX (HFI.out _ hbm)
   have HDB := hidX (HIN.out _ hbm)
   have H6B := hidX (H64.out _ hbm)
   have hilb := HIL.out _ hbm
   have hwk6 : goal = if (blockL args ans ticks L[x] s r).1.how ≠ [] then (blockL args ans ticks L[x] s r).1 else walkL2 hLongL L args ans ticks (most - (q + 1)) (blockL args ans ticks L[x] s r).2.2 (blockL args ans ticks L[x] s r).1 (blockL args ans ticks L[x] s r).2.1 := by
    rw [← HM.out.2.2.2.2.2.2, show most - q = (most - (q + 1)) + 1 by omega, walkL2, hbt]
   generalize L[x] = b at *
   have HWK := hidX hwk6
   obtain ⟨Wb, hWb⟩ : ∃ Wb, Wb = wo.alloc (.cells #[.slice ia b.ins.length ic, .string ⟨b.fin.toArray⟩, .int .i64 b.a, .slice ta b.tos.length tc] 59) := ⟨_, rfl⟩
   have hwb : Below wo.heap.size wo Wb := by rw [hWb]; (repeat (first | exact Below.refl _ _ | assumption | refine Below.drew ?_ | refine bT ?_ _ | refine bS ?_ _ | refine bA ?_ _))
   have hxb : Wb.heap[wo.heap.size]? = some (.cells #[.slice ia b.ins.length ic, .string ⟨b.fin.toArray⟩, .int .i64 b.a, .slice ta b.tos.length tc] 59 (0, 0)) := by rw [hWb]; exact heap_alloc_new _ _
   have hJb := HJ.out.more hwb (heap_lt hxb)
   have HJB := hidX (hJb.less (K' := fun k => k = wo.heap.size) (fun k hk => Or.inr hk))
   have HXB := hidX hxb
   have HZO := hidX (show w.heap.size < wo.heap.size from by have := HJ.out.dl; omega)
   have HWB := hidX hWb
   clear hwk6 hbt hJb hxb kc hbm hwb
   go_upto_region 10 with fail
   rw [← hWb]
   clear hWb k0 k1 k2 k3 d3
   go_wp2_with fail
   go_loopw [13, 18, 19, 20, 21] (fun v13 v18 _ _ _ wr => ∃ (k : Nat) (s2 : Rst) (rr : Ra) (nb2 : Nat), k ≤ b.ins.length ∧ v18 = .int .i64 (k : Int) ∧ v13 = .slice (some ⟨nb2, 0, none⟩) 4 4 ∧ Hid (LwJ (fun k => k = wo.heap.size) w (lcV nm P (zn : Int) (.slice (some ⟨g, off, none⟩) L.length bc)) wr w.heap.size (w.heap.size + 1) (w.heap.size + 1 + 1) (w.heap.size + 1 + 1 + 1) nb2 (w.heap.size + 1 + 1 + 1 + 1 + 1) s2 rr) ∧ Hid (wr.heap[wo.heap.size]? = some (.cells #[.slice ia b.ins.length ic, .string ⟨b.fin.toArray⟩, .int .i64 b.a, .slice ta b.tos.length tc] 59 (0, 0))) ∧ Hid (s2.how = [] ∧ BdT ticks s2 ∧ BndR ans s2 ∧ R64 rr ∧ rr.slots.length = zn ∧ insLs args ans ticks b.ins s r = insLs args ans ticks (b.ins.drop k) s2 rr)) (fun _ v18 _ _ _ _ => b.ins.length - (intOf v18).toNat)
   case atStart => exact ⟨0, s, r, nb, by omega, rfl, rfl, HJB.out, HXB.out, HM.out.1, HM.out.2.2.1, HM.out.2.2.2.1, HM.out.2.2.2.2.1, HM.out.2.2.2.2.2.1, rfl⟩
   case round =>
    obtain ⟨k, s2, rr, nb2, hk, rfl, rfl, HJ2, HX2, HM2⟩ := hrel
    obtain ⟨wi, hwi⟩ : ∃ wi, wi = wr := ⟨_, rfl⟩
    subst hwi
    have c0 : wi.cell? ⟨wo.heap.size, 0, none⟩ = some (.slice ia b.ins.length ic) := cell_of_blk HX2.out 0
    by_cases hlt : k < b.ins.length
    ·have hlt' : (k : Int) < (b.ins.length : Int) := by omega
     have HB2X := hidX (show ∀ Y : World, Below wi.heap.size wi Y → Y.heap[wo.heap.size]? = some (.cells #[.slice ia b.ins.length ic, .string ⟨b.fin.toArray⟩, .int .i64 b.a, .slice ta b.tos.length tc] 59 (0, 0)) from fun Y hY => (hY.block _ (heap_lt HX2.out)).trans HX2.out)
     obtain ⟨gi, oi, ei, hgi, i0, i1, i2, i3, i4, i5⟩ := r2.ins hlt
     subst ei
     have kc2 : ∀ o v, w.cell? ⟨gi, o, none⟩ = some v → wi.cell? ⟨gi, o, none⟩ = some v := fun o v hv => (HJ2.out.low.cell (p := ⟨gi, o, none⟩) hgi).trans hv
     replace i0 := kc2 _ _ i0
     replace i1 := kc2 _ _ i1
     replace i2 := kc2 _ _ i2
     replace i3 := kc2 _ _ i3
     replace i4 := kc2 _ _ i4
     replace i5 := kc2 _ _ i5
     have HDX := hidX (HDB.out _ (List.getElem_mem hlt))
     have h6x := H6B.out _ (List.getElem_mem hlt)
     have hst := insLs_drop (args := args) (ans := ans) (most := ticks) hlt (s := s2) (r := rr)
     rw [← HM2.out.2.2.2.2.2] at hst
     generalize b.ins[k] = y at *
     have hI64 := insL_64 (most := ticks) (s := s2) HA6.out HN6.out h6x HM2.out.2.2.2.1
     have hIbd := insL_bd (args := args) (ans := ans) (x := y) (r := rr) HM2.out.2.1
     have hIbn := insL_bndR (args := args) (most := ticks) (x := y) HJ2.out.nl HM2.out.2.2.1
     have hIzl := insL_zl (args := args) (ans := ans) (most := ticks) (x := y) (s := s2) HM2.out.2.2.2.2.1
     obtain ⟨RR, hRR⟩ : ∃ RR, RR = insL args ans ticks y s2 rr := ⟨_, rfl⟩
     rw [← hRR] at hst hI64 hIbd hIbn hIzl
     have HST := hidX hst
     have HI := hidX (And.intro hI64 (And.intro hIbd (And.intro hIbn hIzl)))
     obtain ⟨Wx, hWx⟩ : ∃ Wx, Wx = wi.alloc (.cells #[.string ⟨y.kind.toArray⟩, .int .i64 y.d, .int .i64 y.a, .int .i64 y.b, .int .i64 y.num, .string ⟨y.name.toArray⟩] 60) := ⟨_, rfl⟩
     have hwx : Below wi.heap.size wi Wx := by rw [hWx]; (repeat (first | exact Below.refl _ _ | assumption | refine Below.drew ?_ | refine bT ?_ _ | refine bS ?_ _ | refine bA ?_ _))
     have hxx : Wx.heap[wi.heap.size]? = some (.cells #[.string ⟨y.kind.toArray⟩, .int .i64 y.d, .int .i64 y.a, .int .i64 y.b, .int .i64 y.num, .string ⟨y.name.toArray⟩] 60 (0, 0)) := by rw [hWx]; exact heap_alloc_new _ _
     have HJX := hidX (HJ2.out.more hwx (heap_lt hxx))
     have HXX := hidX hxx
     have HBX := hidX (HB2X.out Wx hwx)
     have HRRX := hidX hRR
     clear hst hI64 hIbd hIbn hIzl hRR hwx hxx h6x
     go_upto_region 14 with fail
     rw [← hWx]
     clear hWx i0 i1 i2 i3 i4 i5 kc2 c0 hgi
     have m0 : Wx.cell? ⟨wi.heap.size, 0, none⟩ = some (.string ⟨y.kind.toArray⟩) := cell_of_blk HXX.out 0
     rename_i K14 hK14
     refine r14 m0 ?_
     intro u50
     refine hK14 _ _ ?_
     clear hK14
     refine wp_block (ral_any (K := fun k => k = wo.heap.size ∨ k = wi.heap.size) (RR := RR) (zn := zn) HJX.out (Or.inr rfl) HXX.out HAR.out HAN.out hal HM2.out.2.2.2.1 ⟨HM2.out.2.1.lo, by have := HM2.out.2.1.hi; omega⟩ HM2.out.2.1.out (Nat.le_trans HM2.out.2.2.1.calls hal) HDX.out HRRX.out HM2.out.2.2.2.2.1 (fun _ _ d _ _ h => by cases d <;> exact h) ?_ ?_)
     ·intro hh _ _ _ _ _ _ _ _ _ _ _ _ _ _ _ _ _ _ _ _ _ _ _ _ _ _ _ _ _ _ _ _ _ _ _ _ _ _ _ _ _ _ _ _ _ _ _ _ _ _ _ _ _ _ _ _ _ _ _ _ _ _ _ _ _ _ _ _ _ _ _ _ _ _ _ _ _ _ _ _ _ _ _ _ _ _ _ _ _ _ _ _ _ _ _ _ _ _ _ _ _ _ _ _ _ _ _ _ _ _ _ _ _ _ _ _ _ _ _ _ _ _ _ _ _ _ _ _ _ _ _ _ _ _ _ _ _ _ _ _ _ _ _ _ _ _ _ _ _ _ _ _ _ _ _ _ _ _ _ _ _ _ _ nb3 w1 hJ1 hk1 hz1
      have hw0 : RR.1.how = [] := by rw [hh, HM2.out.1]
      have HJN := hidX (hJ1.less (K' := fun k => k = wo.heap.size) (fun k hk => Or.inl hk))
      have HXN := hidX ((hk1 _ (Or.inl rfl)).trans HBX.out)
      have HRL := hidX (show RR.1.how = [] ∧ BdT ticks RR.1 ∧ BndR ans RR.1 ∧ R64 RR.2 ∧ RR.2.slots.length = zn ∧ insLs args ans ticks b.ins s r = insLs args ans ticks (b.ins.drop (k + 1)) RR.1 RR.2 from ⟨hw0, HI.out.2.1, HI.out.2.2.1, HI.out.1, HI.out.2.2.2, by rw [HST.out, if_pos hw0]⟩)
      clear hJ1 hk1 hz1 hh hw0 HST HI HRRX HJX HXX HBX HDX
      go_wp2
      go_roundw
      case rel => first | exact ⟨k + 1, RR.1, RR.2, nb3, by omega, by go_num, rfl, HJN.out, HXN.out, HRL.out⟩ | ((repeat apply Exists.intro); exact ⟨⟨k + 1, RR.1, RR.2, nb3, by omega, by go_num, rfl, HJN.out, HXN.out, HRL.out⟩, rfl⟩)
      all_goals (simp [intOf]; omega)
     ·intro hh _ _ _ _ _ _ _ _ _ _ _ _ _ _ _ _ _ _ _ _ _ _ _ _ _ _ _ _ _ _ _ _ _ _ _ _ _ _ _ _ _ _ _ _ _ _ _ _ _ _ _ _ _ _ _ _ _ _ _ _ _ _ _ _ _ _ _ _ _ _ _ _ _ _ _ _ _ _ _ _ _ _ _ _ _ _ _ _ _ _ _ _ _ _ _ _ _ _ _ _ _ _ _ _ _ _ _ _ _ _ _ _ _ _ _ _ _ _ _ _ _ _ _ _ _ _ _ _ _ _ _ _ _ _ _ _ _ _ _ _ _ _ _ _ _ _ _ _ _ _ _ _ _ _ _ _ _ _ _ _ _ _ _ w1 o c h1 h2 h3
      have hne : RR.1.how ≠ [] := by rw [hh]; decide
      have hend : goal = RR.1 := by
       have hbl : blockL args ans ticks b s r = (RR.1, RR.2, 0) := by unfold blockL; rw [HST.out, if_neg hne, if_neg hne]
       rw [HWK.out, hbl, if_pos hne]
      have HD := hidX h3
      have HX2 := hidX h2
      have HL := hidX h1
      have HE := hidX hend
      clear h1 h2 h3 hend hne HST HI HRRX HJX HXX HBX HDX
      simp only [Exit.inBlock, Exit.then]
      go_wp2
      refine ret_row (w.heap.size + 1) 10 _ 42 rfl rfl HX2.out Tryd.underlying42 (by kernel_rfl) ⟨HL.out, _, rfl, ?_⟩
      rw [HE.out]
      exact HD.out
    ·have hkn : k = b.ins.length := by omega
     have hnlt : ¬ ((k : Int) < (b.ins.length : Int)) := by omega
     have hfin : insLs args ans ticks b.ins s r = (s2, rr) := by rw [HM2.out.2.2.2.2.2, hkn, List.drop_length]; rfl
     have hbl : blockL args ans ticks b s r = leaveL b s2 rr := by unfold blockL; rw [hfin, if_pos HM2.out.1]
     have hgn := HWK.out
     rw [hbl] at hgn
     have HGN := hidX hgn
     have HJK := hidX (HJ2.out.less (K' := fun _ => False) (fun _ e => e.elim))
     have c1 : wi.cell? ⟨wo.heap.size, 1, none⟩ = some (.string ⟨b.fin.toArray⟩) := cell_of_blk HX2.out 1
     have c2 : wi.cell? ⟨wo.heap.size, 2, none⟩ = some (.int .i64 b.a) := cell_of_blk HX2.out 2
     have c3 : wi.cell? ⟨wo.heap.size, 3, none⟩ = some (.slice ta b.tos.length tc) := cell_of_blk HX2.out 3
     have HTW := hidX (show XRow (InH wi) wi (.slice ta b.tos.length tc) b.tos.length (intsG b.tos) from r3.imp (inH_up HJ2.out.low) (keepH HJ2.out.low))
     clear hlt hkn hfin hbl hgn
     rcases HFB.out.fin with ⟨hf, hl⟩ | ⟨hf, hl, hr8⟩ | ⟨hf, hr8⟩
     ·rw [hf] at c1
      replace c1 : wi.cell? ⟨wo.heap.size, 1, none⟩ = some (.string ⟨([106, 117, 109, 112] : List UInt8).toArray⟩) := c1
      obtain ⟨k0, hk⟩ := one_to HFB.out hl
      have hq : leaveL b s2 rr = (s2, rr, k0) := by unfold leaveL; rw [if_neg (by rw [hf]; decide), if_neg (fun e => by have := e.1; rw [hf] at this; exact absurd this (by decide)), hk]; rfl
      have HNX := hidX (show s2.how = [] ∧ k0 < L.length ∧ BdT ticks s2 ∧ BndR ans s2 ∧ R64 rr ∧ rr.slots.length = zn ∧ walkL2 hLongL L args ans ticks (most - (q + 1)) k0 s2 rr = goal from ⟨HM2.out.1, by have := leaveL_lt HFB.out hl0 s2 rr; rw [hq] at this; exact this, HM2.out.2.1, HM2.out.2.2.1, HM2.out.2.2.2.1, HM2.out.2.2.2.2.1, by have := HGN.out; rw [hq, if_neg (by simp [HM2.out.1])] at this; exact this.symm⟩)
      have htw := HTW.out
      rw [hk] at htw c3
      obtain ⟨gt, ot, et, _, kt⟩ := htw.int (k := 0) (by simp)
      subst et
      replace kt : wi.cell? ⟨gt, ot, none⟩ = some (.int .i64 (k0 : Int)) := kt
      replace c3 : wi.cell? ⟨wo.heap.size, 3, none⟩ = some (.slice (some ⟨gt, ot, none⟩) 1 tc) := c3
      clear hq hf htw hk c2
      go_wp2
      go_roundw
      case rel => first | exact ⟨q + 1, k0, s2, rr, nb2, by omega, by go_num, rfl, rfl, HJK.out, HNX.out⟩ | ((repeat apply Exists.intro); exact ⟨⟨q + 1, k0, s2, rr, nb2, by omega, by go_num, rfl, rfl, HJK.out, HNX.out⟩, rfl⟩)
      all_goals (simp [intOf]; omega)
     ·rw [hf] at c1
      replace c1 : wi.cell? ⟨wo.heap.size, 1, none⟩ = some (.string ⟨([105, 102] : List UInt8).toArray⟩) := c1
      obtain ⟨am, ham⟩ : ∃ k : Nat, b.a = (k : Int) := ⟨b.a.toNat, by have := hr8; unfold r8 at this; omega⟩
      have ham8 : am < 8 := by have := hr8; unfold r8 at this; omega
      have hami : (am : Int) < 8 := by omega
      rw [ham] at c2
      have ra : wi.cell? ⟨w.heap.size + 1 + 1, am, none⟩ = some (.int .i64 (rr.regs.getD am 0)) := by rw [cell_of_blk HJ2.out.reg, List.getElem?_toArray, intsG_gd (by rw [HJ2.out.rl]; exact ham8)]
      obtain ⟨k0, k1, hk⟩ := two_to HFB.out hl
      have hq0 : leaveL b s2 rr = (s2, rr, if rr.regs.getD am 0 = 0 then k1 else k0) := by
       unfold leaveL; rw [if_neg (by rw [hf]; decide), hk]; unfold Ra.get; rw [ham]
       by_cases h0 : rr.regs.getD am 0 = 0
       ·rw [if_pos h0]; exact if_pos ⟨hf, h0⟩
       ·rw [if_neg h0]; exact if_neg (fun e => h0 e.2)
      generalize rr.regs.getD am 0 = va at ra hq0
      have htw := HTW.out
      rw [hk] at htw c3
      obtain ⟨gt, ot, et, _, kt⟩ := htw.int (k := 0) (by simp)
      subst et
      obtain ⟨gt', ot', et, _, ku⟩ := htw.int (k := 1) (by simp)
      injection et with et
      injection et with e1 e2
      subst e1 e2
      replace kt : wi.cell? ⟨gt, ot, none⟩ = some (.int .i64 (k0 : Int)) := kt
      replace ku : wi.cell? ⟨gt, ot + 1, none⟩ = some (.int .i64 (k1 : Int)) := ku
      replace c3 : wi.cell? ⟨wo.heap.size, 3, none⟩ = some (.slice (some ⟨gt, ot, none⟩) 2 tc) := c3
      by_cases h0 : va = 0
      ·have hq : leaveL b s2 rr = (s2, rr, k1) := by rw [hq0, if_pos h0]
       have HNX := hidX (show s2.how = [] ∧ k1 < L.length ∧ BdT ticks s2 ∧ BndR ans s2 ∧ R64 rr ∧ rr.slots.length = zn ∧ walkL2 hLongL L args ans ticks (most - (q + 1)) k1 s2 rr = goal from ⟨HM2.out.1, by have := leaveL_lt HFB.out hl0 s2 rr; rw [hq] at this; exact this, HM2.out.2.1, HM2.out.2.2.1, HM2.out.2.2.2.1, HM2.out.2.2.2.2.1, by have := HGN.out; rw [hq, if_neg (by simp [HM2.out.1])] at this; exact this.symm⟩)
       have t0 : (va == 0) = true := by simpa using h0
       clear hq hq0 hf htw hk h0 ham hr8
       go_wp2
       go_roundw
       case rel => first | exact ⟨q + 1, k1, s2, rr, nb2, by omega, by go_num, rfl, rfl, HJK.out, HNX.out⟩ | ((repeat apply Exists.intro); exact ⟨⟨q + 1, k1, s2, rr, nb2, by omega, by go_num, rfl, rfl, HJK.out, HNX.out⟩, rfl⟩)
       all_goals (simp [intOf]; omega)
      ·have hq : leaveL b s2 rr = (s2, rr, k0) := by rw [hq0, if_neg h0]
       have HNX := hidX (show s2.how = [] ∧ k0 < L.length ∧ BdT ticks s2 ∧ BndR ans s2 ∧ R64 rr ∧ rr.slots.length = zn ∧ walkL2 hLongL L args ans ticks (most - (q + 1)) k0 s2 rr = goal from ⟨HM2.out.1, by have := leaveL_lt HFB.out hl0 s2 rr; rw [hq] at this; exact this, HM2.out.2.1, HM2.out.2.2.1, HM2.out.2.2.2.1, HM2.out.2.2.2.2.1, by have := HGN.out; rw [hq, if_neg (by simp [HM2.out.1])] at this; exact this.symm⟩)
       have t0 : (va == 0) = false := by simpa using h0
       clear hq hq0 hf htw hk h0 ham hr8
       go_wp2
       go_roundw
       case rel => first | exact ⟨q + 1, k0, s2, rr, nb2, by omega, by go_num, rfl, rfl, HJK.out, HNX.out⟩ | ((repeat apply Exists.intro); exact ⟨⟨q + 1, k0, s2, rr, nb2, by omega, by go_num, rfl, rfl, HJK.out, HNX.out⟩, rfl⟩)
       all_goals (simp [intOf]; omega)
     ·rw [hf] at c1
      replace c1 : wi.cell? ⟨wo.heap.size, 1, none⟩ = some (.string ⟨([114, 101, 116, 117, 114, 110] : List UInt8).toArray⟩) := c1
      obtain ⟨am, ham⟩ : ∃ k : Nat, b.a = (k : Int) := ⟨b.a.toNat, by have := hr8; unfold r8 at this; omega⟩
      have ham8 : am < 8 := by have := hr8; unfold r8 at this; omega
      have hami : (am : Int) < 8 := by omega
      rw [ham] at c2
      have ra : wi.cell? ⟨w.heap.size + 1 + 1, am, none⟩ = some (.int .i64 (rr.regs.getD am 0)) := by rw [cell_of_blk HJ2.out.reg, List.getElem?_toArray, intsG_gd (by rw [HJ2.out.rl]; exact ham8)]
      have hend : goal = retR (rr.regs.getD am 0) s2 := by
       have hq : leaveL b s2 rr = (retR (rr.regs.getD am 0) s2, rr, 0) := by unfold leaveL; rw [if_pos hf]; unfold Ra.get; rw [ham]; rfl
       have := HGN.out
       rw [hq] at this
       exact this.trans (if_pos (show hDone ≠ [] by decide))
      generalize rr.regs.getD am 0 = va at ra hend
      subst hend
      clear hf hr8 ham c3 HGN HWK
      obtain ⟨S, outv, callv, xs, hdn, hsn⟩ := HJ2.out.dn
      obtain ⟨oad, ocap, rfl⟩ := own_is hdn.out
      obtain ⟨cad, ccap, rfl⟩ := own_is hdn.call
      have HZ := hidX (HJ2.out.field hdn hsn (s' := { s2 with how := hDone }) rfl rfl 0 (.string ⟨(hDone).toArray⟩) rfl).1
      have HDZ := hidX (hdn.set (s' := { s2 with how := hDone }) rfl rfl 0 (.string ⟨(hDone).toArray⟩) rfl)
      have HSN := hidX hsn
      have HZ2 := hidX (HZ.out.field HDZ.out hsn (s' := (retR va s2)) rfl rfl 1 (.int .i64 va) rfl).1
      have HDZ2 := hidX (HDZ.out.set (s' := (retR va s2)) rfl rfl 1 (.int .i64 va) rfl)
      have j01 := free_of_blk hdn.blk 1
      have i0 := cell_of_blk HJ2.out.res 0
      have fi0 := free_of_blk HJ2.out.res 0
      have j0 := cell_of_blk hdn.blk 0
      have i1 := cell_of_blk HJ2.out.res 1
      have fi1 := free_of_blk HJ2.out.res 1
      have j1 := cell_of_blk hdn.blk 1
      have i2 := cell_of_blk HJ2.out.res 2
      have fi2 := free_of_blk HJ2.out.res 2
      have j2 := cell_of_blk hdn.blk 2
      have i3 := cell_of_blk HJ2.out.res 3
      have fi3 := free_of_blk HJ2.out.res 3
      have j3 := cell_of_blk hdn.blk 3
      have i4 := cell_of_blk HJ2.out.res 4
      have fi4 := free_of_blk HJ2.out.res 4
      have j4 := cell_of_blk hdn.blk 4
      have fj0 := free_of_blk hdn.blk 0
      simp only [List.getElem?_toArray, List.getElem?_cons_zero, List.getElem?_cons_succ] at i0 i1 i2 i3 i4 j0 j1 j2 j3 j4
      clear hdn hsn
      go_wp2
      (try simp only [Exit.inBlock, Exit.then])
      have hrf := runA_fin HZ2.out HDZ2.out HSN.out
      exact ret_row (w.heap.size + 1) 10 _ 42 rfl rfl hrf.2.1 Tryd.underlying42 (by kernel_rfl) ⟨hrf.1, _, rfl, hrf.2.2⟩
  ·have hqn : q = most := by omega
   have hnq : ¬ ((q : Int) < (most : Int)) := by omega
   have hend : goal = { s with how := hLongL } := by
    rw [← HM.out.2.2.2.2.2.2, hqn, Nat.sub_self]; rfl
   subst hend
   clear hqm hqn
   obtain ⟨S, outv, callv, xs, hdn, hsn⟩ := HJ.out.dn
   obtain ⟨oad, ocap, rfl⟩ := own_is hdn.out
   obtain ⟨cad, ccap, rfl⟩ := own_is hdn.call
   have HZ := hidX (HJ.out.field hdn hsn (s' := { s with how := hLongL }) rfl rfl 0 (.string ⟨(hLongL).toArray⟩) rfl).1
   have HDZ := hidX (hdn.set (s' := { s with how := hLongL }) rfl rfl 0 (.string ⟨(hLongL).toArray⟩) rfl)
   have HSN := hidX hsn
   have i0 := cell_of_blk HJ.out.res 0
   have fi0 := free_of_blk HJ.out.res 0
   have j0 := cell_of_blk hdn.blk 0
   have i1 := cell_of_blk HJ.out.res 1
   have fi1 := free_of_blk HJ.out.res 1
   have j1 := cell_of_blk hdn.blk 1
   have i2 := cell_of_blk HJ.out.res 2
   have fi2 := free_of_blk HJ.out.res 2
   have j2 := cell_of_blk hdn.blk 2
   have i3 := cell_of_blk HJ.out.res 3
   have fi3 := free_of_blk HJ.out.res 3
   have j3 := cell_of_blk hdn.blk 3
   have i4 := cell_of_blk HJ.out.res 4
   have fi4 := free_of_blk HJ.out.res 4
   have j4 := cell_of_blk hdn.blk 4
   have fj0 := free_of_blk hdn.blk 0
   simp only [List.getElem?_toArray, List.getElem?_cons_zero, List.getElem?_cons_succ] at i0 i1 i2 i3 i4 j0 j1 j2 j3 j4
   clear hdn hsn
   go_wp2
   (try simp only [Exit.inBlock, Exit.then])
   have hrf := runA_fin HZ.out HDZ.out HSN.out
   exact ret_row (w.heap.size + 1) 10 _ 42 rfl rfl hrf.2.1 Tryd.underlying42 (by kernel_rfl) ⟨hrf.1, _, rfl, hrf.2.2⟩
end Go.Proofs.YtimccbilkjjakaaDoor
