/- Our own: texts joined: MoOpRet. -/
import Derived.Test.YtbcpomdcmilpjaaDoorXMoA
namespace Go.Proofs.YtbcpomdcmilpjaaDoor
open Go.RowKit
set_option maxRecDepth 100000 in
set_option maxHeartbeats 4000000 in
theorem sw_ret {w W : World} {I : Im} {adf : Option Addr} {cf : Nat} {wv : Value} {ticks most : Nat} {S0 : Sm} {n t : Nat} {h : Mf} {f : Fm} {fb sb ib : Nat} {S : List En} {gb ob ccap : Nat} {ov : Value} {g : Gm} {nx : List Int} {v : Nat} {op : List UInt8} {d a b : Nat} {imm ra : Int}
  (hX : Sit w W I adf cf wv ticks S0 n t h f fb sb ib S (.slice (some ⟨gb, ob, none⟩) (S.length + 1) ccap) ov g nx v op d a b imm ra) (hnm : n < most) (hk : op = mRet)
  {c0 c1 c2 c4 c6 c7 c8 c9 c15 c18 c21 c24 c25 c26 c27 c28 c29 c30 c31 c32 c33 c34 c35 c36 c37 c38 c39 c40 c41 c42 c43 c44 c45 c46 c47 c48 c49 c50 c51 c52 c53 c54 c55 c56 c57 c58 c59 c60 c61 c62 c63 c64 c65 c66 c67 c68 c69 c70 c71 c72 c73 c74 c75 c76 c77 c78 c79 c80 c81 c82 c83 c84 c85 c86 c87 c88 c89 c90 c91 c92 c93 c94 c95 c96 c97 c98 c99 c100 c101 c102 c103 c104 c105 c106 c107 c108 c109 c110 c111 c112 c113 c114 c115 c116 c117 c118 c119 c120 c121 c122 c123 c124 c375 c376 : Value} {u23 u126 u127 u128 u129 u130 u131 u132 u133 u134 u135 u136 u137 u138 u139 u140 u141 u142 u143 u144 u145 u146 u147 u148 u149 u150 u151 u152 u153 u154 u155 u156 u157 u158 u159 u160 u161 u162 u163 u164 u165 u166 u167 u168 u169 u170 u171 u172 u173 u174 u175 u176 u177 u178 u179 u180 u181 u182 u183 u184 u185 u186 u187 u188 u189 u190 u191 u192 u193 u194 u195 u196 u197 u198 u199 u200 u201 u202 u203 u204 u205 u206 u207 u208 u209 u210 u211 u212 u213 u214 u215 u216 u217 u218 u219 u220 u221 u222 u223 u224 u225 u226 u227 u228 u229 u230 u231 u232 u233 u234 u235 u236 u237 u238 u239 u240 u241 u242 u243 u244 u245 u246 u247 u248 u249 u250 u251 u252 u253 u254 u255 u256 u257 u258 u259 u260 u261 u262 u263 u264 u265 u266 u267 u268 u269 u270 u271 u272 u273 u274 u275 u276 u277 u278 u279 u280 u281 u282 u283 u284 u285 u286 u287 u288 u289 u290 u291 u292 u293 u294 u295 u296 u297 u298 u299 u300 u301 u302 u303 u304 u305 u306 u307 u308 u309 u310 u311 u312 u313 u314 u315 u316 u317 u318 u319 u320 u321 u322 u323 u324 u325 u326 u327 u328 u329 u330 u331 u332 u333 u334 u335 u336 u337 u338 u339 u340 u341 u342 u343 u344 u345 u346 u347 u348 u349 u350 u351 u352 u353 u354 u355 u356 u357 u358 u359 u360 u361 u362 u363 u364 u365 u366 u367 u368 u369 u370 u371 u372 u373 u374 : Value} {Q : Exit → Act → World → Prop}
  (hN : NextH w I (.slice adf I.funs.length cf) wv ticks S0 n most fb ib ra op c0 c1 c2 c4 c6 c7 c8 c9 c15 c18 c21 c24 c25 c26 c27 c28 c29 c30 c31 c32 c33 c34 c35 c36 c37 c38 c39 c40 c41 c42 c43 c44 c45 c46 c47 c48 c49 c50 c51 c52 c53 c54 c55 c56 c57 c58 c59 c60 c61 c62 c63 c64 c65 c66 c67 c68 c69 c70 c71 c72 c73 c74 c75 c76 c77 c78 c79 c80 c81 c82 c83 c84 c85 c86 c87 c88 c89 c90 c91 c92 c93 c94 c95 c96 c97 c98 c99 c100 c101 c102 c103 c104 c105 c106 c107 c108 c109 c110 c111 c112 c113 c114 c115 c116 c117 c118 c119 c120 c121 c122 c123 c124 c375 c376 Q) (hE : RetH w I (.slice adf I.funs.length cf) wv ticks S0 n most fb ib ra op c0 c1 c2 c4 c6 c7 c8 c9 c15 c18 c21 c24 c25 c26 c27 c28 c29 c30 c31 c32 c33 c34 c35 c36 c37 c38 c39 c40 c41 c42 c43 c44 c45 c46 c47 c48 c49 c50 c51 c52 c53 c54 c55 c56 c57 c58 c59 c60 c61 c62 c63 c64 c65 c66 c67 c68 c69 c70 c71 c72 c73 c74 c75 c76 c77 c78 c79 c80 c81 c82 c83 c84 c85 c86 c87 c88 c89 c90 c91 c92 c93 c94 c95 c96 c97 c98 c99 c100 c101 c102 c103 c104 c105 c106 c107 c108 c109 c110 c111 c112 c113 c114 c115 c116 c117 c118 c119 c120 c121 c122 c123 c124 c375 c376 Q) (hP : ∀ c (a : Act) (d : Option Tmp) (v : Value) w, Q (.panic c) (a.put d v) w → Q (.panic c) a w) :
  Code.wp Tryd.prog swC Q ⟨#[c0, c1, c2, .int .i64 (ticks : Int), c4, .pointer (some ⟨w.heap.size, 0, none⟩), c6, c7, c8, c9, .pointer (some ⟨w.heap.size + 1, 0, none⟩), .pointer (some ⟨w.heap.size + 1 + 1, 0, none⟩), .slice (some ⟨gb, ob, none⟩) (S.length + 1) ccap, .int .i64 (-1), .pointer (some ⟨w.heap.size + 1 + 1 + 1, 0, none⟩), c15, .int .i64 (t : Int), .int .i64 (n : Int), c18, .pointer (some ⟨fb, 0, none⟩), .pointer (some ⟨ib, 0, none⟩), c21, .int .i64 ra, u23, c24, c25, c26, c27, c28, c29, c30, c31, c32, c33, c34, c35, c36, c37, c38, c39, c40, c41, c42, c43, c44, c45, c46, c47, c48, c49, c50, c51, c52, c53, c54, c55, c56, c57, c58, c59, c60, c61, c62, c63, c64, c65, c66, c67, c68, c69, c70, c71, c72, c73, c74, c75, c76, c77, c78, c79, c80, c81, c82, c83, c84, c85, c86, c87, c88, c89, c90, c91, c92, c93, c94, c95, c96, c97, c98, c99, c100, c101, c102, c103, c104, c105, c106, c107, c108, c109, c110, c111, c112, c113, c114, c115, c116, c117, c118, c119, c120, c121, c122, c123, c124, .string ⟨op.toArray⟩, u126, u127, u128, u129, u130, u131, u132, u133, u134, u135, u136, u137, u138, u139, u140, u141, u142, u143, u144, u145, u146, u147, u148, u149, u150, u151, u152, u153, u154, u155, u156, u157, u158, u159, u160, u161, u162, u163, u164, u165, u166, u167, u168, u169, u170, u171, u172, u173, u174, u175, u176, u177, u178, u179, u180, u181, u182, u183, u184, u185, u186, u187, u188, u189, u190, u191, u192, u193, u194, u195, u196, u197, u198, u199, u200, u201, u202, u203, u204, u205, u206, u207, u208, u209, u210, u211, u212, u213, u214, u215, u216, u217, u218, u219, u220, u221, u222, u223, u224, u225, u226, u227, u228, u229, u230, u231, u232, u233, u234, u235, u236, u237, u238, u239, u240, u241, u242, u243, u244, u245, u246, u247, u248, u249, u250, u251, u252, u253, u254, u255, u256, u257, u258, u259, u260, u261, u262, u263, u264, u265, u266, u267, u268, u269, u270, u271, u272, u273, u274, u275, u276, u277, u278, u279, u280, u281, u282, u283, u284, u285, u286, u287, u288, u289, u290, u291, u292, u293, u294, u295, u296, u297, u298, u299, u300, u301, u302, u303, u304, u305, u306, u307, u308, u309, u310, u311, u312, u313, u314, u315, u316, u317, u318, u319, u320, u321, u322, u323, u324, u325, u326, u327, u328, u329, u330, u331, u332, u333, u334, u335, u336, u337, u338, u339, u340, u341, u342, u343, u344, u345, u346, u347, u348, u349, u350, u351, u352, u353, u354, u355, u356, u357, u358, u359, u360, u361, u362, u363, u364, u365, u366, u367, u368, u369, u370, u371, u372, u373, u374, c375, c376], []⟩ W := by
 subst hk
 have q0 : W.cell? ⟨ib, 0, none⟩ = some (.string ⟨([114, 101, 116, 117, 114, 110] : List UInt8).toArray⟩) := cell_of_blk hX.ins 0
 have HNM := hidX hnm
 have HN := hidX hN
 have HE := hidX hE
 have hd8 := hX.d8
 have ha8 := hX.a8
 have hb8 := hX.b8
 have hd8' : (d : Int) < 8 := by omega
 have ha8' : (a : Int) < 8 := by omega
 have hb8' : (b : Int) < 8 := by omega
 clear hN hE
 cases S with
 | nil =>
  have hsub : ((([] : List En).length + 1 : Nat) : Int) - 1 = 0 := rfl
  obtain ⟨sl, hsl⟩ : ∃ sl : Nat, sl = ([] : List En).length + 1 := ⟨_, rfl⟩
  rw [← hsl] at hX ⊢
  have hsub : (sl : Int) - 1 = ((0 : Nat) : Int) := by rw [hsl]; rfl
  have hc0 : ((0 : Nat) : Int) ≤ (ccap : Int) := by omega
  have hcb := (own_le hX.mo.row).2
  have hc1 := (own_le hX.mo.row).1
  have hs1 : (sl : Int) ≤ (ccap : Int) := by simp at hc1; omega
  have hs40 : (sl : Int) ≤ 40 := by rw [hsl]; decide
  clear hsl hc1
  obtain ⟨oad, ocap, rfl⟩ := own_is hX.mo.out
  have o0 : W.cell? ⟨w.heap.size + 1 + 1, 0, none⟩ = some (.string ⟨#[]⟩) := cell_of_blk hX.mo.ob 0
  have o1 : W.cell? ⟨w.heap.size + 1 + 1, 1, none⟩ = some (.int .i64 0) := cell_of_blk hX.mo.ob 1
  have o2 : W.cell? ⟨w.heap.size + 1 + 1, 2, none⟩ = some (.slice oad g.out.length ocap) := cell_of_blk hX.mo.ob 2
  have o3 : W.cell? ⟨w.heap.size + 1 + 1, 3, none⟩ = some (.int .i64 (g.ticks : Int)) := cell_of_blk hX.mo.ob 3
  have fo0 := free_of_blk hX.mo.ob 0
  have fo1 := free_of_blk hX.mo.ob 1
  have r0 : W.cell? ⟨w.heap.size + 1, 0, none⟩ = some (.string ⟨#[]⟩) := cell_of_blk hX.mo.res 0
  have r1 : W.cell? ⟨w.heap.size + 1, 1, none⟩ = some (.int .i64 0) := cell_of_blk hX.mo.res 1
  have r2 : W.cell? ⟨w.heap.size + 1, 2, none⟩ = some (.slice none 0 0) := cell_of_blk hX.mo.res 2
  have r3 : W.cell? ⟨w.heap.size + 1, 3, none⟩ = some (.int .i64 0) := cell_of_blk hX.mo.res 3
  have fr0 := free_of_blk hX.mo.res 0
  have fr1 := free_of_blk hX.mo.res 1
  have fr2 := free_of_blk hX.mo.res 2
  have fr3 := free_of_blk hX.mo.res 3
  have HST := hidX ((doM_ret (I := I) (m := ticks) (g := g) (f := f.go (f.pc + 1)) (fs := ([] : List Fm)) (i := ⟨mRet, (d : Int), (a : Int), (b : Int), imm⟩) rfl).trans (b := retM g ([] : List Fm) _ _) (c := Sm.halt hDone ra g) (by rw [show reg (f.go (f.pc + 1)) (a : Int) = ra from hX.ra.symm]; rfl))
  replace HX := hidX hX
  clear hX
  conv => arg 2; whnf
  go_wp2
  exact HE.out _ _ _ _ _ _ _ _ _ _ _ _ _ _ _ _ _ _ _ _ _ _ _ _ _ _ _ _ _ _ _ _ _ _ _ _ _ _ _ _ _ _ _ _ _ _ _ _ _ _ _ _ _ _ _ _ _ _ _ _ _ _ _ _ _ _ _ _ _ _ _ _ _ _ _ _ _ _ _ _ _ _ _ _ _ _ _ _ _ _ _ _ _ _ _ _ _ _ _ _ _ _ _ _ _ _ _ _ _ _ _ _ _ _ _ _ _ _ _ _ _ _ _ _ _ _ _ _ _ _ _ _ _ _ _ _ _ _ _ _ _ _ _ _ _ _ _ _ _ _ _ _ _ _ _ _ _ _ _ _ _ _ _ _ _ _ _ _ _ _ _ _ _ _ _ _ _ _ _ _ _ _ _ _ _ _ _ _ _ _ _ _ _ _ _ _ _ _ _ _ _ _ _ _ _ _ _ _ _ _ _ _ _ _ _ _ _ _ _ _ _ _ _ _ _ _ _ _ _ _ _ _ _ _ _ _ _ _ _ _ _ _ _ _ _ _ _ _ _ _ _ _ _ _ ⟨hDone, ra, _, _, HX.out.mo.fin (Y := _) (by (repeat (first | exact But.refl _ _ | assumption | refine But.drew ?_ | refine But.drewN ?_ _ | refine But.set ?_ _ _ | refine But.setNew ?_ _ _ (by first | (simp; done) | (simp; omega)) _ | refine But.alloc ?_ _))) hDone ra, HX.out.run.ol, endO_of (HX.out.st.trans HST.out) hnm⟩
 | cons c S2 =>
  obtain ⟨sl, hsl⟩ : ∃ sl : Nat, sl = (c :: S2).length + 1 := ⟨_, rfl⟩
  obtain ⟨k0, hk0⟩ : ∃ k0 : Nat, k0 = (c :: S2).length := ⟨_, rfl⟩
  obtain ⟨k1, hk1⟩ : ∃ k1 : Nat, k1 = S2.length := ⟨_, rfl⟩
  have hk01 : k0 = k1 + 1 := by rw [hk0, hk1]; rfl
  have hs01 : sl = k0 + 1 := by rw [hsl, hk0]
  have hdl := hX.run.dl
  rw [← hk0] at hdl
  rw [← hsl] at hX ⊢
  have hc1 := own_le hX.mo.row
  have hc2 : k0 + 1 ≤ ccap := by have := hc1.1; simp only [List.length_cons] at this hk0; omega
  have hsub : (sl : Int) - 1 = (k0 : Int) := by omega
  have hk0c : (k0 : Int) ≤ (ccap : Int) := by omega
  have hs40 : (sl : Int) ≤ 40 := by omega
  have hk00 : ((k0 : Int) == 0) = false := by rw [beq_eq_false_iff_ne]; omega
  have hk0n : ¬ (k0 : Int) = 0 := by omega
  have hsub2 : (k0 : Int) - 1 = (k1 : Int) := by omega
  have hk10 : (k1 : Int) < (k0 : Int) := by omega
  have hk140 : (k1 : Int) ≤ 40 := by omega
  have hw1 : IntKind.i64.wrap (k1 : Int) = (k1 : Int) := by rw [IntKind.wrap_i64]; omega
  obtain ⟨gb2, ob2, hcad, hz1, hz2, hcl⟩ := (xrow_own hX.mo.row).get (by simp)
  cases hcad
  clear hz1 hz2
  have p0 : W.cell? ⟨gb, ob + k1, none⟩ = some (.pointer (some ⟨c.fb, 0, none⟩)) := hcl k1 _ (by rw [hk1]; simp [enP])
  clear hcl
  have HP := hidX hX.mo.pop
  rw [← hk0] at HP
  have hfc := HP.out.fr c List.mem_cons_self
  have hfd : f.d < 8 := hX.run.d8 ⟨h, f, fb, sb⟩ List.mem_cons_self
  have hfd' : (f.d : Int) < 8 := by omega
  have p22 : W.cell? ⟨fb, 22, none⟩ = some (.int .i64 (f.d : Int)) := by rw [cell_of_blk (hX.mo.fr _ List.mem_cons_self).blk, List.getElem?_toArray, (enL_end (hX.mo.fr _ List.mem_cons_self).rl (hX.mo.fr _ List.mem_cons_self).al (hX.mo.fr _ List.mem_cons_self).nl).2]; rfl
  have fr := free_of_blk hfc.blk (4 + f.d)
  have rd : W.cell? ⟨c.fb, 4 + f.d, none⟩ = some (.int .i64 (c.f.regs.getD f.d 0)) := by rw [cell_of_blk hfc.blk, List.getElem?_toArray, enL_reg hfc.rl hfd]
  generalize c.f.regs.getD f.d 0 = vd at rd
  have HST := hidX (show itM I ticks (n + 1) S0 = .run g (c.f.put f.d ra) (S2.map En.f) from hX.st.trans ((doM_ret rfl).trans (by rw [show reg (f.go (f.pc + 1)) (a : Int) = ra from hX.ra.symm]; rfl)))
  have ra64 : In64 ra := by rw [hX.ra]; exact getD64G (hX.mo.fr _ List.mem_cons_self).r64 a
  have HX := hidX hX
  have HFD := hidX hfd
  have HK := hidX hk0
  obtain ⟨fd, hfdq⟩ : ∃ fd, fd = f.d := ⟨_, rfl⟩
  rw [← hfdq] at p22 fr rd hfd' HST HFD
  clear hfc hsl hk0 hk1 hk01 hs01 hdl hc1 hc2 hfd hfdq
  clear hX
  conv => arg 2; whnf
  go_wp2_with fail
  refine wp_region_V (fun W => W.cell? ⟨gb, ob + k1, none⟩ = some (.pointer (some ⟨c.fb, 0, none⟩)) ∧ W.cell? ⟨fb, 22, none⟩ = some (.int .i64 (fd : Int))) 14 (by kernel_rfl) ⟨p0, p22⟩ (fun hHeld => ?_)
  refine wpAnyV_any 0 (some 341) (v := ?v0r5) rfl rfl (by kernel_rfl) (by kernel_rfl) (by kernel_rfl) (by kernel_rfl) (fun _ _ _ h => hP _ _ _ _ _ h) (Or.inl ⟨by rfl, ?hy0r5⟩) hHeld ?rest0r5
  case hy0r5 => (intro w2 hSw; (try dsimp only at hSw); first | (go_simp; done) | (go_simp; with_reducible rfl))
  simp only [Act.put, List.setIfInBounds_toArray, List.set_cons_zero, List.set_cons_succ]
  refine wpAnyV_any 1 (some 342) (v := ?v1r5) rfl rfl (by kernel_rfl) (by kernel_rfl) (by kernel_rfl) (by kernel_rfl) (fun _ _ _ h => hP _ _ _ _ _ h) (Or.inl ⟨by rfl, ?hy1r5⟩) hHeld ?rest1r5
  case hy1r5 => (intro w2 hSw; (try dsimp only at hSw); first | (go_simp; done) | (go_simp; with_reducible rfl))
  simp only [Act.put, List.setIfInBounds_toArray, List.set_cons_zero, List.set_cons_succ]
  refine wpAnyV_any 2 (some 343) (v := ?v2r5) rfl rfl (by kernel_rfl) (by kernel_rfl) (by kernel_rfl) (by kernel_rfl) (fun _ _ _ h => hP _ _ _ _ _ h) (Or.inl ⟨by rfl, ?hy2r5⟩) hHeld ?rest2r5
  case hy2r5 => (intro w2 hSw; (try dsimp only at hSw); first | (go_simp; done) | (go_simp; with_reducible rfl))
  simp only [Act.put, List.setIfInBounds_toArray, List.set_cons_zero, List.set_cons_succ]
  refine wpAnyV_any 3 (some 344) (v := ?v3r5) rfl rfl (by kernel_rfl) (by kernel_rfl) (by kernel_rfl) (by kernel_rfl) (fun _ _ _ h => hP _ _ _ _ _ h) (Or.inl ⟨by rfl, ?hy3r5⟩) hHeld ?rest3r5
  case hy3r5 => (intro w2 hSw; (try dsimp only at hSw); first | (go_simp; done) | (go_simp; with_reducible rfl))
  simp only [Act.put, List.setIfInBounds_toArray, List.set_cons_zero, List.set_cons_succ]
  refine wpAnyV_any 4 (some 345) (v := ?v4r5) rfl rfl (by kernel_rfl) (by kernel_rfl) (by kernel_rfl) (by kernel_rfl) (fun _ _ _ h => hP _ _ _ _ _ h) (Or.inl ⟨by rfl, ?hy4r5⟩) hHeld ?rest4r5
  case hy4r5 => (intro w2 hSw; (try dsimp only at hSw); first | (go_simp; done) | (go_simp; with_reducible rfl))
  simp only [Act.put, List.setIfInBounds_toArray, List.set_cons_zero, List.set_cons_succ]
  refine wpAnyV_put 5 (some 346) (v := ?v5r5) rfl rfl (by kernel_rfl) (by kernel_rfl) (by kernel_rfl) (by kernel_rfl) (by kernel_rfl) (fun _ _ _ h => hP _ _ _ _ _ h) (Or.inl ⟨by rfl, ?hy5r5⟩) hHeld ?rest5r5
  case hy5r5 => (intro w2 hSw; (try dsimp only at hSw); first | (go_simp; done) | (go_simp; with_reducible rfl))
  simp only [Act.put, List.setIfInBounds_toArray, List.set_cons_zero, List.set_cons_succ]
  refine wpAnyV_any 6 (some 347) (v := ?v6r5) rfl rfl (by kernel_rfl) (by kernel_rfl) (by kernel_rfl) (by kernel_rfl) (fun _ _ _ h => hP _ _ _ _ _ h) (Or.inl ⟨by rfl, ?hy6r5⟩) hHeld ?rest6r5
  case hy6r5 => (intro w2 hSw; (try dsimp only at hSw); first | (go_simp; done) | (go_simp; with_reducible rfl))
  simp only [Act.put, List.setIfInBounds_toArray, List.set_cons_zero, List.set_cons_succ]
  refine wpAnyV_any 7 (some 348) (v := ?v7r5) rfl rfl (by kernel_rfl) (by kernel_rfl) (by kernel_rfl) (by kernel_rfl) (fun _ _ _ h => hP _ _ _ _ _ h) (Or.inl ⟨by rfl, ?hy7r5⟩) hHeld ?rest7r5
  case hy7r5 => (intro w2 hSw; (try dsimp only at hSw); first | (go_simp; done) | (go_simp; with_reducible rfl))
  simp only [Act.put, List.setIfInBounds_toArray, List.set_cons_zero, List.set_cons_succ]
  refine wpAnyV_any 8 (some 349) (v := ?v8r5) rfl rfl (by kernel_rfl) (by kernel_rfl) (by kernel_rfl) (by kernel_rfl) (fun _ _ _ h => hP _ _ _ _ _ h) (Or.inl ⟨by rfl, ?hy8r5⟩) hHeld ?rest8r5
  case hy8r5 => (intro w2 hSw; (try dsimp only at hSw); first | (go_simp; done) | (go_simp; with_reducible rfl))
  simp only [Act.put, List.setIfInBounds_toArray, List.set_cons_zero, List.set_cons_succ]
  refine wpAnyV_put 9 (some 350) (v := ?v9r5) rfl rfl (by kernel_rfl) (by kernel_rfl) (by kernel_rfl) (by kernel_rfl) (by kernel_rfl) (fun _ _ _ h => hP _ _ _ _ _ h) (Or.inl ⟨by rfl, ?hy9r5⟩) hHeld ?rest9r5
  case hy9r5 => (intro w2 hSw; (try dsimp only at hSw); first | (go_simp; done) | (go_simp; with_reducible rfl))
  simp only [Act.put, List.setIfInBounds_toArray, List.set_cons_zero, List.set_cons_succ]
  refine wpAnyV_any 10 (some 351) (v := ?v10r5) rfl rfl (by kernel_rfl) (by kernel_rfl) (by kernel_rfl) (by kernel_rfl) (fun _ _ _ h => hP _ _ _ _ _ h) (Or.inl ⟨by rfl, ?hy10r5⟩) hHeld ?rest10r5
  case hy10r5 => (intro w2 hSw; (try dsimp only at hSw); first | (go_simp; done) | (go_simp; with_reducible rfl))
  simp only [Act.put, List.setIfInBounds_toArray, List.set_cons_zero, List.set_cons_succ]
  refine wpAnyV_any 11 (some 352) (v := ?v11r5) rfl rfl (by kernel_rfl) (by kernel_rfl) (by kernel_rfl) (by kernel_rfl) (fun _ _ _ h => hP _ _ _ _ _ h) (Or.inl ⟨by rfl, ?hy11r5⟩) hHeld ?rest11r5
  case hy11r5 => (intro w2 hSw; (try dsimp only at hSw); first | (go_simp; done) | (go_simp; with_reducible rfl))
  simp only [Act.put, List.setIfInBounds_toArray, List.set_cons_zero, List.set_cons_succ]
  refine wpAnyV_any 12 (some 353) (v := ?v12r5) rfl rfl (by kernel_rfl) (by kernel_rfl) (by kernel_rfl) (by kernel_rfl) (fun _ _ _ h => hP _ _ _ _ _ h) (Or.inl ⟨by rfl, ?hy12r5⟩) hHeld ?rest12r5
  case hy12r5 => (intro w2 hSw; (try dsimp only at hSw); first | (go_simp; done) | (go_simp; with_reducible rfl))
  simp only [Act.put, List.setIfInBounds_toArray, List.set_cons_zero, List.set_cons_succ]
  refine wpAnyV_any 13 (some 354) (v := ?v13r5) rfl rfl (by kernel_rfl) (by kernel_rfl) (by kernel_rfl) (by kernel_rfl) (fun _ _ _ h => hP _ _ _ _ _ h) (Or.inl ⟨by rfl, ?hy13r5⟩) hHeld ?rest13r5
  case hy13r5 => (intro w2 hSw; (try dsimp only at hSw); first | (go_simp; done) | (go_simp; with_reducible rfl))
  simp only [Act.put, List.setIfInBounds_toArray, List.set_cons_zero, List.set_cons_succ]
  refine wpAnyV_one (i := 14) (by kernel_rfl) rfl (fun K14 hK14 => ?_)
  go_simp
  refine hK14.out _ _ (fun h => absurd rfl h) (fun _ => ?_)
  clear hK14 K14 hHeld
  try simp only [Act.put, List.setIfInBounds_toArray, List.set_cons_zero, List.set_cons_succ]
  refine wpAnyV_done (by kernel_rfl) ?_ _
  go_wp2
  exact HN.out _ _ _ _ _ _ _ _ _ _ _ _ _ _ _ _ _ _ _ _ _ _ _ _ _ _ _ _ _ _ _ _ _ _ _ _ _ _ _ _ _ _ _ _ _ _ _ _ _ _ _ _ _ _ _ _ _ _ _ _ _ _ _ _ _ _ _ _ _ _ _ _ _ _ _ _ _ _ _ _ _ _ _ _ _ _ _ _ _ _ _ _ _ _ _ _ _ _ _ _ _ _ _ _ _ _ _ _ _ _ _ _ _ _ _ _ _ _ _ _ _ _ _ _ _ _ _ _ _ _ _ _ _ _ _ _ _ _ _ _ _ _ _ _ _ _ _ _ _ _ _ _ _ _ _ _ _ _ _ _ _ _ _ _ _ _ _ _ _ _ _ _ _ _ _ _ _ _ _ _ _ _ _ _ _ _ _ _ _ _ _ _ _ _ _ _ _ _ _ _ _ _ _ _ _ _ _ _ _ _ _ _ _ _ _ _ _ _ _ _ _ _ _ _ _ _ _ _ _ _ _ _ _ _ _ _ _ _ _ _ _ _ _ _ _ _ _ _ _ _ _ _ _ _ ⟨(-1), t, (c.with (c.f.put fd ra) :: S2), _, g, nx, rfl, rfl, RunM.back (c' := c.f.put fd ra) HX.out.run HX.out.t8 HST.out rfl rfl rfl, (HP.out.put HFD.out ra64).below (by (repeat (first | exact Below.refl _ _ | assumption | refine Below.drew ?_ | refine bT ?_ _ | refine bS ?_ _ | refine bA ?_ _)))⟩
end Go.Proofs.YtbcpomdcmilpjaaDoor
