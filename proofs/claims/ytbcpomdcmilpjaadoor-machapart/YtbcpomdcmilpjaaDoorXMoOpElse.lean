/- Our own: texts joined: MoOpElse. -/
import Derived.Test.YtbcpomdcmilpjaaDoorXMoA
namespace Go.Proofs.YtbcpomdcmilpjaaDoor
open Go.RowKit
set_option maxRecDepth 100000 in
set_option maxHeartbeats 4000000 in
theorem sw_else {w W : World} {I : Im} {adf : Option Addr} {cf : Nat} {wv : Value} {ticks most : Nat} {S0 : Sm} {n t : Nat} {h : Mf} {f : Fm} {fb sb ib : Nat} {S : List En} {gb ob ccap : Nat} {ov : Value} {g : Gm} {nx : List Int} {v : Nat} {op : List UInt8} {d a b : Nat} {imm ra : Int}
  (hX : Sit w W I adf cf wv ticks S0 n t h f fb sb ib S (.slice (some ⟨gb, ob, none⟩) (S.length + 1) ccap) ov g nx v op d a b imm ra) (hnm : n < most) (n_const : op ≠ mConst) (n_high : op ≠ mHigh) (n_move : op ≠ mMove) (n_load : op ≠ mLoad) (n_store : op ≠ mStore) (n_param : op ≠ mParam) (n_arg : op ≠ mArg) (n_call : op ≠ mCall) (n_tick : op ≠ mTick) (n_print : op ≠ mPrint) (n_jump : op ≠ mJump) (n_if : op ≠ mIf) (n_ret : op ≠ mRet) (n_neg : op ≠ mNeg) (n_not : op ≠ mNot)
  {c0 c1 c2 c4 c6 c7 c8 c9 c15 c18 c21 c24 c25 c26 c27 c28 c29 c30 c31 c32 c33 c34 c35 c36 c37 c38 c39 c40 c41 c42 c43 c44 c45 c46 c47 c48 c49 c50 c51 c52 c53 c54 c55 c56 c57 c58 c59 c60 c61 c62 c63 c64 c65 c66 c67 c68 c69 c70 c71 c72 c73 c74 c75 c76 c77 c78 c79 c80 c81 c82 c83 c84 c85 c86 c87 c88 c89 c90 c91 c92 c93 c94 c95 c96 c97 c98 c99 c100 c101 c102 c103 c104 c105 c106 c107 c108 c109 c110 c111 c112 c113 c114 c115 c116 c117 c118 c119 c120 c121 c122 c123 c124 c375 c376 : Value} {u23 u126 u127 u128 u129 u130 u131 u132 u133 u134 u135 u136 u137 u138 u139 u140 u141 u142 u143 u144 u145 u146 u147 u148 u149 u150 u151 u152 u153 u154 u155 u156 u157 u158 u159 u160 u161 u162 u163 u164 u165 u166 u167 u168 u169 u170 u171 u172 u173 u174 u175 u176 u177 u178 u179 u180 u181 u182 u183 u184 u185 u186 u187 u188 u189 u190 u191 u192 u193 u194 u195 u196 u197 u198 u199 u200 u201 u202 u203 u204 u205 u206 u207 u208 u209 u210 u211 u212 u213 u214 u215 u216 u217 u218 u219 u220 u221 u222 u223 u224 u225 u226 u227 u228 u229 u230 u231 u232 u233 u234 u235 u236 u237 u238 u239 u240 u241 u242 u243 u244 u245 u246 u247 u248 u249 u250 u251 u252 u253 u254 u255 u256 u257 u258 u259 u260 u261 u262 u263 u264 u265 u266 u267 u268 u269 u270 u271 u272 u273 u274 u275 u276 u277 u278 u279 u280 u281 u282 u283 u284 u285 u286 u287 u288 u289 u290 u291 u292 u293 u294 u295 u296 u297 u298 u299 u300 u301 u302 u303 u304 u305 u306 u307 u308 u309 u310 u311 u312 u313 u314 u315 u316 u317 u318 u319 u320 u321 u322 u323 u324 u325 u326 u327 u328 u329 u330 u331 u332 u333 u334 u335 u336 u337 u338 u339 u340 u341 u342 u343 u344 u345 u346 u347 u348 u349 u350 u351 u352 u353 u354 u355 u356 u357 u358 u359 u360 u361 u362 u363 u364 u365 u366 u367 u368 u369 u370 u371 u372 u373 u374 : Value} {Q : Exit → Act → World → Prop}
  (hN : NextH w I (.slice adf I.funs.length cf) wv ticks S0 n most fb ib ra op c0 c1 c2 c4 c6 c7 c8 c9 c15 c18 c21 c24 c25 c26 c27 c28 c29 c30 c31 c32 c33 c34 c35 c36 c37 c38 c39 c40 c41 c42 c43 c44 c45 c46 c47 c48 c49 c50 c51 c52 c53 c54 c55 c56 c57 c58 c59 c60 c61 c62 c63 c64 c65 c66 c67 c68 c69 c70 c71 c72 c73 c74 c75 c76 c77 c78 c79 c80 c81 c82 c83 c84 c85 c86 c87 c88 c89 c90 c91 c92 c93 c94 c95 c96 c97 c98 c99 c100 c101 c102 c103 c104 c105 c106 c107 c108 c109 c110 c111 c112 c113 c114 c115 c116 c117 c118 c119 c120 c121 c122 c123 c124 c375 c376 Q) (hE : RetH w I (.slice adf I.funs.length cf) wv ticks S0 n most fb ib ra op c0 c1 c2 c4 c6 c7 c8 c9 c15 c18 c21 c24 c25 c26 c27 c28 c29 c30 c31 c32 c33 c34 c35 c36 c37 c38 c39 c40 c41 c42 c43 c44 c45 c46 c47 c48 c49 c50 c51 c52 c53 c54 c55 c56 c57 c58 c59 c60 c61 c62 c63 c64 c65 c66 c67 c68 c69 c70 c71 c72 c73 c74 c75 c76 c77 c78 c79 c80 c81 c82 c83 c84 c85 c86 c87 c88 c89 c90 c91 c92 c93 c94 c95 c96 c97 c98 c99 c100 c101 c102 c103 c104 c105 c106 c107 c108 c109 c110 c111 c112 c113 c114 c115 c116 c117 c118 c119 c120 c121 c122 c123 c124 c375 c376 Q) (hP : ∀ c (a : Act) (d : Option Tmp) (v : Value) w, Q (.panic c) (a.put d v) w → Q (.panic c) a w) :
  Code.wp Tryd.prog swC Q ⟨#[c0, c1, c2, .int .i64 (ticks : Int), c4, .pointer (some ⟨w.heap.size, 0, none⟩), c6, c7, c8, c9, .pointer (some ⟨w.heap.size + 1, 0, none⟩), .pointer (some ⟨w.heap.size + 1 + 1, 0, none⟩), .slice (some ⟨gb, ob, none⟩) (S.length + 1) ccap, .int .i64 (-1), .pointer (some ⟨w.heap.size + 1 + 1 + 1, 0, none⟩), c15, .int .i64 (t : Int), .int .i64 (n : Int), c18, .pointer (some ⟨fb, 0, none⟩), .pointer (some ⟨ib, 0, none⟩), c21, .int .i64 ra, u23, c24, c25, c26, c27, c28, c29, c30, c31, c32, c33, c34, c35, c36, c37, c38, c39, c40, c41, c42, c43, c44, c45, c46, c47, c48, c49, c50, c51, c52, c53, c54, c55, c56, c57, c58, c59, c60, c61, c62, c63, c64, c65, c66, c67, c68, c69, c70, c71, c72, c73, c74, c75, c76, c77, c78, c79, c80, c81, c82, c83, c84, c85, c86, c87, c88, c89, c90, c91, c92, c93, c94, c95, c96, c97, c98, c99, c100, c101, c102, c103, c104, c105, c106, c107, c108, c109, c110, c111, c112, c113, c114, c115, c116, c117, c118, c119, c120, c121, c122, c123, c124, .string ⟨op.toArray⟩, u126, u127, u128, u129, u130, u131, u132, u133, u134, u135, u136, u137, u138, u139, u140, u141, u142, u143, u144, u145, u146, u147, u148, u149, u150, u151, u152, u153, u154, u155, u156, u157, u158, u159, u160, u161, u162, u163, u164, u165, u166, u167, u168, u169, u170, u171, u172, u173, u174, u175, u176, u177, u178, u179, u180, u181, u182, u183, u184, u185, u186, u187, u188, u189, u190, u191, u192, u193, u194, u195, u196, u197, u198, u199, u200, u201, u202, u203, u204, u205, u206, u207, u208, u209, u210, u211, u212, u213, u214, u215, u216, u217, u218, u219, u220, u221, u222, u223, u224, u225, u226, u227, u228, u229, u230, u231, u232, u233, u234, u235, u236, u237, u238, u239, u240, u241, u242, u243, u244, u245, u246, u247, u248, u249, u250, u251, u252, u253, u254, u255, u256, u257, u258, u259, u260, u261, u262, u263, u264, u265, u266, u267, u268, u269, u270, u271, u272, u273, u274, u275, u276, u277, u278, u279, u280, u281, u282, u283, u284, u285, u286, u287, u288, u289, u290, u291, u292, u293, u294, u295, u296, u297, u298, u299, u300, u301, u302, u303, u304, u305, u306, u307, u308, u309, u310, u311, u312, u313, u314, u315, u316, u317, u318, u319, u320, u321, u322, u323, u324, u325, u326, u327, u328, u329, u330, u331, u332, u333, u334, u335, u336, u337, u338, u339, u340, u341, u342, u343, u344, u345, u346, u347, u348, u349, u350, u351, u352, u353, u354, u355, u356, u357, u358, u359, u360, u361, u362, u363, u364, u365, u366, u367, u368, u369, u370, u371, u372, u373, u374, c375, c376], []⟩ W := by
 have q0 : W.cell? ⟨ib, 0, none⟩ = some (.string ⟨op.toArray⟩) := cell_of_blk hX.ins 0
 have q1 : W.cell? ⟨ib, 1, none⟩ = some (.int .i64 (d : Int)) := cell_of_blk hX.ins 1
 have q3 : W.cell? ⟨ib, 3, none⟩ = some (.int .i64 (b : Int)) := cell_of_blk hX.ins 3
 have HNM := hidX hnm
 have HX := hidX hX
 have HN := hidX hN
 have HE := hidX hE
 have hd8 := hX.d8
 have ha8 := hX.a8
 have hb8 := hX.b8
 have hd8' : (d : Int) < 8 := by omega
 have ha8' : (a : Int) < 8 := by omega
 have hb8' : (b : Int) < 8 := by omega
 have t_const : (op == [99, 111, 110, 115, 116]) = false := ne_lit n_const
 have t_high : (op == [104, 105, 103, 104]) = false := ne_lit n_high
 have t_move : (op == [109, 111, 118, 101]) = false := ne_lit n_move
 have t_load : (op == [108, 111, 97, 100]) = false := ne_lit n_load
 have t_store : (op == [115, 116, 111, 114, 101]) = false := ne_lit n_store
 have t_param : (op == [112, 97, 114, 97, 109]) = false := ne_lit n_param
 have t_arg : (op == [97, 114, 103]) = false := ne_lit n_arg
 have t_call : (op == [99, 97, 108, 108]) = false := ne_lit n_call
 have t_tick : (op == [116, 105, 99, 107]) = false := ne_lit n_tick
 have t_print : (op == [112, 114, 105, 110, 116]) = false := ne_lit n_print
 have t_jump : (op == [106, 117, 109, 112]) = false := ne_lit n_jump
 have t_if : (op == [105, 102]) = false := ne_lit n_if
 have t_ret : (op == [114, 101, 116, 117, 114, 110]) = false := ne_lit n_ret
 have t_neg : (op == [110, 101, 103]) = false := ne_lit n_neg
 have t_not : (op == [110, 111, 116]) = false := ne_lit n_not
 have hm : (coNamed op).2.sg ∈ twosE := by
  have := hX.okw.two
  rw [hX.dec] at this
  exact this n_const n_high n_move n_load n_store n_param n_arg n_call n_tick n_print n_neg n_not n_jump n_if n_ret
 obtain ⟨q, hq14, hqn, hqs⟩ := two_no hm n_neg
 have ra64 : In64 ra := by rw [hX.ra]; exact getD64G (HX.out.mo.fr _ List.mem_cons_self).r64 a
 obtain ⟨rb, hrb⟩ : ∃ rb, rb = f.regs.getD b 0 := ⟨_, rfl⟩
 have hl1 := heap_lt hX.ins
 have hl2 := heap_lt (HX.out.mo.fr _ List.mem_cons_self).blk
 have HCS := hidX (show ∀ V : World, Below W.heap.size W V → V.cell? ⟨ib, 1, none⟩ = some (.int .i64 (d : Int)) ∧ V.cell? ⟨ib, 0, none⟩ = some (.string ⟨op.toArray⟩) ∧ V.cell? ⟨ib, 3, none⟩ = some (.int .i64 (b : Int)) ∧ V.cell? ⟨fb, 4 + b, none⟩ = some (.int .i64 rb) from fun V hb => ⟨cell_of_blk ((hb.block _ hl1).trans hX.ins) 1, cell_of_blk ((hb.block _ hl1).trans hX.ins) 0, cell_of_blk ((hb.block _ hl1).trans hX.ins) 3, by rw [cell_of_blk ((hb.block _ hl2).trans (hX.mo.fr _ List.mem_cons_self).blk), List.getElem?_toArray, enL_reg (hX.mo.fr _ List.mem_cons_self).rl hX.b8, hrb]; rfl⟩)
 have HRD := hidX (show ∀ V : World, Below W.heap.size W V → V.cell? ⟨fb, 4 + d, none⟩ = some (.int .i64 (f.regs.getD d 0)) from fun V hb => by rw [cell_of_blk ((hb.block _ hl2).trans (hX.mo.fr _ List.mem_cons_self).blk), List.getElem?_toArray, enL_reg (hX.mo.fr _ List.mem_cons_self).rl hX.d8]; rfl)
 have H3 := hidX (fun X : World => threeOf_any op q hq14 hqn (coNamed op).2.sg hqs X)
 have HC := hidX (fun X : World => rtwo_val (coNamed op).2.sg hm ra rb ra64 X)
 have v64 : In64 (twoV (coNamed op).2.sg ra rb) := vOp_fit _ _ _ ra64
 have HST := hidX (show itM I ticks (n + 1) S0 = .run g ((f.go (f.pc + 1)).put d (twoV (coNamed op).2.sg ra rb)) (S.map En.f) from hX.st.trans ((doM_else n_jump n_if n_ret n_const n_high n_move n_load n_store n_param n_arg n_call n_tick n_print).trans (by
  have h1 : reckV op (reg (f.go (f.pc + 1)) (a : Int)) (reg (f.go (f.pc + 1)) (b : Int)) = twoV (coNamed op).2.sg ra rb := by
   unfold reckV
   rw [if_neg (by rintro (e | e); exact n_neg e; exact n_not e), show reg (f.go (f.pc + 1)) (a : Int) = ra from hX.ra.symm, show reg (f.go (f.pc + 1)) (b : Int) = rb from hrb.symm]
  show Sm.run g ((f.go (f.pc + 1)).put d (reckV op _ _)) _ = _
  rw [h1])))
 generalize twoV (coNamed op).2.sg ra rb = va at HC v64 HST
 generalize (coNamed op).2.sg = sg at H3 HC
 generalize f.regs.getD d 0 = vd at HRD
 clear hm hqs hqn hq14 hrb hl1 hl2 q0 q1 q3 n_const n_high n_move n_load n_store n_param n_arg n_call n_tick n_print n_jump n_if n_ret n_neg n_not
 clear hX hN hE
 conv => arg 2; whnf
 go_wp2_with fail
 refine wp_region_V (fun W => W.cell? ⟨ib, 1, none⟩ = some (.int .i64 (d : Int)) ∧ W.cell? ⟨ib, 0, none⟩ = some (.string ⟨op.toArray⟩) ∧ W.cell? ⟨ib, 3, none⟩ = some (.int .i64 (b : Int)) ∧ W.cell? ⟨fb, 4 + b, none⟩ = some (.int .i64 rb)) 18 (by kernel_rfl) (HCS.out _ (by (repeat (first | exact Below.refl _ _ | assumption | refine Below.drew ?_ | refine bT ?_ _ | refine bS ?_ _ | refine bA ?_ _)))) (fun hHeld => ?_)
 refine wpAnyV_any 0 (some 126) (v := ?v0r8) rfl rfl (by kernel_rfl) (by kernel_rfl) (by kernel_rfl) (by kernel_rfl) (fun _ _ _ h => hP _ _ _ _ _ h) (Or.inl ⟨by rfl, ?hy0r8⟩) hHeld ?rest0r8
 case hy0r8 => (intro w2 hSw; (try dsimp only at hSw); first | (go_simp; done) | (go_simp; with_reducible rfl))
 simp only [Act.put, List.setIfInBounds_toArray, List.set_cons_zero, List.set_cons_succ]
 refine wpAnyV_any 1 (some 127) (v := ?v1r8) rfl rfl (by kernel_rfl) (by kernel_rfl) (by kernel_rfl) (by kernel_rfl) (fun _ _ _ h => hP _ _ _ _ _ h) (Or.inl ⟨by rfl, ?hy1r8⟩) hHeld ?rest1r8
 case hy1r8 => (intro w2 hSw; (try dsimp only at hSw); first | (go_simp; done) | (go_simp; with_reducible rfl))
 simp only [Act.put, List.setIfInBounds_toArray, List.set_cons_zero, List.set_cons_succ]
 refine wpAnyV_put 2 (some 128) (v := ?v2r8) rfl rfl (by kernel_rfl) (by kernel_rfl) (by kernel_rfl) (by kernel_rfl) (by kernel_rfl) (fun _ _ _ h => hP _ _ _ _ _ h) (Or.inl ⟨by rfl, ?hy2r8⟩) hHeld ?rest2r8
 case hy2r8 => (intro w2 hSw; (try dsimp only at hSw); first | (go_simp; done) | (go_simp; with_reducible rfl))
 simp only [Act.put, List.setIfInBounds_toArray, List.set_cons_zero, List.set_cons_succ]
 refine wpAnyV_any 3 (some 129) (v := ?v3r8) rfl rfl (by kernel_rfl) (by kernel_rfl) (by kernel_rfl) (by kernel_rfl) (fun _ _ _ h => hP _ _ _ _ _ h) (Or.inl ⟨by rfl, ?hy3r8⟩) hHeld ?rest3r8
 case hy3r8 => (intro w2 hSw; (try dsimp only at hSw); first | (go_simp; done) | (go_simp; with_reducible rfl))
 simp only [Act.put, List.setIfInBounds_toArray, List.set_cons_zero, List.set_cons_succ]
 refine wpAnyV_put 4 (some 130) (v := ?v4r8) rfl rfl (by kernel_rfl) (by kernel_rfl) (by kernel_rfl) (by kernel_rfl) (by kernel_rfl) (fun _ _ _ h => hP _ _ _ _ _ h) (Or.inl ⟨by rfl, ?hy4r8⟩) hHeld ?rest4r8
 case hy4r8 => (intro w2 hSw; (try dsimp only at hSw); first | (go_simp; done) | (go_simp; with_reducible rfl))
 simp only [Act.put, List.setIfInBounds_toArray, List.set_cons_zero, List.set_cons_succ]
 refine wpAnyV_any 6 (some 132) (v := ?v6r8) rfl rfl (by kernel_rfl) (by kernel_rfl) (by kernel_rfl) (by kernel_rfl) (fun _ _ _ h => hP _ _ _ _ _ h) (Or.inl ⟨by rfl, ?hy6r8⟩) hHeld ?rest6r8
 case hy6r8 => (intro w2 hSw; (try dsimp only at hSw); first | (go_simp; done) | (go_simp; with_reducible rfl))
 simp only [Act.put, List.setIfInBounds_toArray, List.set_cons_zero, List.set_cons_succ]
 refine wpAnyV_any 7 (some 133) (v := ?v7r8) rfl rfl (by kernel_rfl) (by kernel_rfl) (by kernel_rfl) (by kernel_rfl) (fun _ _ _ h => hP _ _ _ _ _ h) (Or.inl ⟨by rfl, ?hy7r8⟩) hHeld ?rest7r8
 case hy7r8 => (intro w2 hSw; (try dsimp only at hSw); first | (go_simp; done) | (go_simp; with_reducible rfl))
 simp only [Act.put, List.setIfInBounds_toArray, List.set_cons_zero, List.set_cons_succ]
 refine wpAnyV_any 8 (some 134) (v := ?v8r8) rfl rfl (by kernel_rfl) (by kernel_rfl) (by kernel_rfl) (by kernel_rfl) (fun _ _ _ h => hP _ _ _ _ _ h) (Or.inl ⟨by rfl, ?hy8r8⟩) hHeld ?rest8r8
 case hy8r8 => (intro w2 hSw; (try dsimp only at hSw); first | (go_simp; done) | (go_simp; with_reducible rfl))
 simp only [Act.put, List.setIfInBounds_toArray, List.set_cons_zero, List.set_cons_succ]
 refine wpAnyV_put 9 (some 135) (v := ?v9r8) rfl rfl (by kernel_rfl) (by kernel_rfl) (by kernel_rfl) (by kernel_rfl) (by kernel_rfl) (fun _ _ _ h => hP _ _ _ _ _ h) (Or.inl ⟨by rfl, ?hy9r8⟩) hHeld ?rest9r8
 case hy9r8 => (intro w2 hSw; (try dsimp only at hSw); first | (go_simp; done) | (go_simp; with_reducible rfl))
 simp only [Act.put, List.setIfInBounds_toArray, List.set_cons_zero, List.set_cons_succ]
 refine wpAnyV_any 10 (some 136) (v := ?v10r8) rfl rfl (by kernel_rfl) (by kernel_rfl) (by kernel_rfl) (by kernel_rfl) (fun _ _ _ h => hP _ _ _ _ _ h) (Or.inl ⟨by rfl, ?hy10r8⟩) hHeld ?rest10r8
 case hy10r8 => (intro w2 hSw; (try dsimp only at hSw); first | (go_simp; done) | (go_simp; with_reducible rfl))
 simp only [Act.put, List.setIfInBounds_toArray, List.set_cons_zero, List.set_cons_succ]
 refine wpAnyV_any 11 (some 137) (v := ?v11r8) rfl rfl (by kernel_rfl) (by kernel_rfl) (by kernel_rfl) (by kernel_rfl) (fun _ _ _ h => hP _ _ _ _ _ h) (Or.inl ⟨by rfl, ?hy11r8⟩) hHeld ?rest11r8
 case hy11r8 => (intro w2 hSw; (try dsimp only at hSw); first | (go_simp; done) | (go_simp; with_reducible rfl))
 simp only [Act.put, List.setIfInBounds_toArray, List.set_cons_zero, List.set_cons_succ]
 refine wpAnyV_any 12 (some 138) (v := ?v12r8) rfl rfl (by kernel_rfl) (by kernel_rfl) (by kernel_rfl) (by kernel_rfl) (fun _ _ _ h => hP _ _ _ _ _ h) (Or.inl ⟨by rfl, ?hy12r8⟩) hHeld ?rest12r8
 case hy12r8 => (intro w2 hSw; (try dsimp only at hSw); first | (go_simp; done) | (go_simp; with_reducible rfl))
 simp only [Act.put, List.setIfInBounds_toArray, List.set_cons_zero, List.set_cons_succ]
 refine wpAnyV_put 13 (some 139) (v := ?v13r8) rfl rfl (by kernel_rfl) (by kernel_rfl) (by kernel_rfl) (by kernel_rfl) (by kernel_rfl) (fun _ _ _ h => hP _ _ _ _ _ h) (Or.inl ⟨by rfl, ?hy13r8⟩) hHeld ?rest13r8
 case hy13r8 => (intro w2 hSw; (try dsimp only at hSw); first | (go_simp; done) | (go_simp; with_reducible rfl))
 simp only [Act.put, List.setIfInBounds_toArray, List.set_cons_zero, List.set_cons_succ]
 refine wpAnyV_any 15 (some 141) (v := ?v15r8) rfl rfl (by kernel_rfl) (by kernel_rfl) (by kernel_rfl) (by kernel_rfl) (fun _ _ _ h => hP _ _ _ _ _ h) (Or.inl ⟨by rfl, ?hy15r8⟩) hHeld ?rest15r8
 case hy15r8 => (intro w2 hSw; (try dsimp only at hSw); first | (go_simp; done) | (go_simp; with_reducible rfl))
 simp only [Act.put, List.setIfInBounds_toArray, List.set_cons_zero, List.set_cons_succ]
 refine wpAnyV_any 16 (some 142) (v := ?v16r8) rfl rfl (by kernel_rfl) (by kernel_rfl) (by kernel_rfl) (by kernel_rfl) (fun _ _ _ h => hP _ _ _ _ _ h) (Or.inl ⟨by rfl, ?hy16r8⟩) hHeld ?rest16r8
 case hy16r8 => (intro w2 hSw; (try dsimp only at hSw); first | (go_simp; done) | (go_simp; with_reducible rfl))
 simp only [Act.put, List.setIfInBounds_toArray, List.set_cons_zero, List.set_cons_succ]
 refine wpAnyV_one (i := 5) (by kernel_rfl) rfl (fun K5 hK5 => ?_)
 go_simp
 refine (H3.out _).mono ?_
 rintro e X2 ⟨rfl, hb⟩
 have hbX2 := bl_trans (show Below W.heap.size W W.drew from by (repeat (first | exact Below.refl _ _ | assumption | refine Below.drew ?_ | refine bT ?_ _ | refine bS ?_ _ | refine bA ?_ _))) (Nat.le_refl _) hb
 replace hHeld := HCS.out _ hbX2
 have fr := free_of_blk ((HX.out.mo.below hbX2).fr _ List.mem_cons_self).blk (4 + d)
 have rd := HRD.out _ hbX2
 refine hK5.out _ _ (fun _ => hHeld) (fun _ => ?_)
 clear hK5 K5
 try simp only [Act.put, List.setIfInBounds_toArray, List.set_cons_zero, List.set_cons_succ]
 refine wpAnyV_one (i := 14) (by kernel_rfl) rfl (fun K14 hK14 => ?_)
 go_simp
 refine (HC.out _).mono ?_
 rintro e w' ⟨rfl, hw'⟩
 replace hw' := hw'.symm
 subst hw'
 refine hK14.out _ _ (fun _ => hHeld) (fun _ => ?_)
 clear hK14 K14
 try simp only [Act.put, List.setIfInBounds_toArray, List.set_cons_zero, List.set_cons_succ]
 refine wpAnyV_any 17 (some 143) (v := ?v17r8) rfl rfl (by kernel_rfl) (by kernel_rfl) (by kernel_rfl) (by kernel_rfl) (fun _ _ _ h => hP _ _ _ _ _ h) (Or.inl ⟨by rfl, ?hy17r8⟩) hHeld ?rest17r8
 case hy17r8 => (intro w2 hSw; (try dsimp only at hSw); first | (go_simp; done) | (go_simp; with_reducible rfl))
 simp only [Act.put, List.setIfInBounds_toArray, List.set_cons_zero, List.set_cons_succ]
 refine wpAnyV_one (i := 18) (by kernel_rfl) rfl (fun K18 hK18 => ?_)
 go_simp
 refine hK18.out _ _ (fun h => absurd rfl h) (fun _ => ?_)
 clear hK18 K18 hHeld
 try simp only [Act.put, List.setIfInBounds_toArray, List.set_cons_zero, List.set_cons_succ]
 refine wpAnyV_done (by kernel_rfl) ?_ _
 go_wp2
 exact HN.out _ _ _ _ _ _ _ _ _ _ _ _ _ _ _ _ _ _ _ _ _ _ _ _ _ _ _ _ _ _ _ _ _ _ _ _ _ _ _ _ _ _ _ _ _ _ _ _ _ _ _ _ _ _ _ _ _ _ _ _ _ _ _ _ _ _ _ _ _ _ _ _ _ _ _ _ _ _ _ _ _ _ _ _ _ _ _ _ _ _ _ _ _ _ _ _ _ _ _ _ _ _ _ _ _ _ _ _ _ _ _ _ _ _ _ _ _ _ _ _ _ _ _ _ _ _ _ _ _ _ _ _ _ _ _ _ _ _ _ _ _ _ _ _ _ _ _ _ _ _ _ _ _ _ _ _ _ _ _ _ _ _ _ _ _ _ _ _ _ _ _ _ _ _ _ _ _ _ _ _ _ _ _ _ _ _ _ _ _ _ _ _ _ _ _ _ _ _ _ _ _ _ _ _ _ _ _ _ _ _ _ _ _ _ _ _ _ _ _ _ _ _ _ _ _ _ _ _ _ _ _ _ _ _ _ _ _ _ _ _ _ _ _ _ _ _ _ _ _ _ _ _ _ _ ⟨(-1), t, (⟨h, ((f.go (f.pc + 1)).put d va), fb, sb⟩ :: S), _, g, nx, rfl, rfl, RunM.goes (f' := ((f.go (f.pc + 1)).put d va)) HX.out.run HX.out.t8 HST.out rfl rfl (by show f.pc + 1 ≤ _; exact HX.out.pcl) HX.out.run.ol HX.out.run.tk, ((HX.out.mo.below hbX2).put hd8 v64).below (by (repeat (first | exact Below.refl _ _ | assumption | refine Below.drew ?_ | refine bT ?_ _ | refine bS ?_ _ | refine bA ?_ _)))⟩
end Go.Proofs.YtbcpomdcmilpjaaDoor
