/- Our own: texts joined: MoOpNeg, MoOpNot. -/
import Derived.Test.YtbcpomdcmilpjaaDoorXMoA
namespace Go.Proofs.YtbcpomdcmilpjaaDoor
open Go.RowKit
set_option maxRecDepth 100000 in
set_option maxHeartbeats 4000000 in
theorem sw_neg {w W : World} {I : Im} {adf : Option Addr} {cf : Nat} {wv : Value} {ticks most : Nat} {S0 : Sm} {n t : Nat} {h : Mf} {f : Fm} {fb sb ib : Nat} {S : List En} {gb ob ccap : Nat} {ov : Value} {g : Gm} {nx : List Int} {v : Nat} {op : List UInt8} {d a b : Nat} {imm ra : Int}
  (hX : Sit w W I adf cf wv ticks S0 n t h f fb sb ib S (.slice (some ⟨gb, ob, none⟩) (S.length + 1) ccap) ov g nx v op d a b imm ra) (hnm : n < most) (hk : op = mNeg)
  {c0 c1 c2 c4 c6 c7 c8 c9 c15 c18 c21 c24 c25 c26 c27 c28 c29 c30 c31 c32 c33 c34 c35 c36 c37 c38 c39 c40 c41 c42 c43 c44 c45 c46 c47 c48 c49 c50 c51 c52 c53 c54 c55 c56 c57 c58 c59 c60 c61 c62 c63 c64 c65 c66 c67 c68 c69 c70 c71 c72 c73 c74 c75 c76 c77 c78 c79 c80 c81 c82 c83 c84 c85 c86 c87 c88 c89 c90 c91 c92 c93 c94 c95 c96 c97 c98 c99 c100 c101 c102 c103 c104 c105 c106 c107 c108 c109 c110 c111 c112 c113 c114 c115 c116 c117 c118 c119 c120 c121 c122 c123 c124 c375 c376 : Value} {u23 u126 u127 u128 u129 u130 u131 u132 u133 u134 u135 u136 u137 u138 u139 u140 u141 u142 u143 u144 u145 u146 u147 u148 u149 u150 u151 u152 u153 u154 u155 u156 u157 u158 u159 u160 u161 u162 u163 u164 u165 u166 u167 u168 u169 u170 u171 u172 u173 u174 u175 u176 u177 u178 u179 u180 u181 u182 u183 u184 u185 u186 u187 u188 u189 u190 u191 u192 u193 u194 u195 u196 u197 u198 u199 u200 u201 u202 u203 u204 u205 u206 u207 u208 u209 u210 u211 u212 u213 u214 u215 u216 u217 u218 u219 u220 u221 u222 u223 u224 u225 u226 u227 u228 u229 u230 u231 u232 u233 u234 u235 u236 u237 u238 u239 u240 u241 u242 u243 u244 u245 u246 u247 u248 u249 u250 u251 u252 u253 u254 u255 u256 u257 u258 u259 u260 u261 u262 u263 u264 u265 u266 u267 u268 u269 u270 u271 u272 u273 u274 u275 u276 u277 u278 u279 u280 u281 u282 u283 u284 u285 u286 u287 u288 u289 u290 u291 u292 u293 u294 u295 u296 u297 u298 u299 u300 u301 u302 u303 u304 u305 u306 u307 u308 u309 u310 u311 u312 u313 u314 u315 u316 u317 u318 u319 u320 u321 u322 u323 u324 u325 u326 u327 u328 u329 u330 u331 u332 u333 u334 u335 u336 u337 u338 u339 u340 u341 u342 u343 u344 u345 u346 u347 u348 u349 u350 u351 u352 u353 u354 u355 u356 u357 u358 u359 u360 u361 u362 u363 u364 u365 u366 u367 u368 u369 u370 u371 u372 u373 u374 : Value} {Q : Exit → Act → World → Prop}
  (hN : NextH w I (.slice adf I.funs.length cf) wv ticks S0 n most fb ib ra op c0 c1 c2 c4 c6 c7 c8 c9 c15 c18 c21 c24 c25 c26 c27 c28 c29 c30 c31 c32 c33 c34 c35 c36 c37 c38 c39 c40 c41 c42 c43 c44 c45 c46 c47 c48 c49 c50 c51 c52 c53 c54 c55 c56 c57 c58 c59 c60 c61 c62 c63 c64 c65 c66 c67 c68 c69 c70 c71 c72 c73 c74 c75 c76 c77 c78 c79 c80 c81 c82 c83 c84 c85 c86 c87 c88 c89 c90 c91 c92 c93 c94 c95 c96 c97 c98 c99 c100 c101 c102 c103 c104 c105 c106 c107 c108 c109 c110 c111 c112 c113 c114 c115 c116 c117 c118 c119 c120 c121 c122 c123 c124 c375 c376 Q) (hE : RetH w I (.slice adf I.funs.length cf) wv ticks S0 n most fb ib ra op c0 c1 c2 c4 c6 c7 c8 c9 c15 c18 c21 c24 c25 c26 c27 c28 c29 c30 c31 c32 c33 c34 c35 c36 c37 c38 c39 c40 c41 c42 c43 c44 c45 c46 c47 c48 c49 c50 c51 c52 c53 c54 c55 c56 c57 c58 c59 c60 c61 c62 c63 c64 c65 c66 c67 c68 c69 c70 c71 c72 c73 c74 c75 c76 c77 c78 c79 c80 c81 c82 c83 c84 c85 c86 c87 c88 c89 c90 c91 c92 c93 c94 c95 c96 c97 c98 c99 c100 c101 c102 c103 c104 c105 c106 c107 c108 c109 c110 c111 c112 c113 c114 c115 c116 c117 c118 c119 c120 c121 c122 c123 c124 c375 c376 Q) (hP : ∀ c (a : Act) (d : Option Tmp) (v : Value) w, Q (.panic c) (a.put d v) w → Q (.panic c) a w) :
  Code.wp Tryd.prog swC Q ⟨#[c0, c1, c2, .int .i64 (ticks : Int), c4, .pointer (some ⟨w.heap.size, 0, none⟩), c6, c7, c8, c9, .pointer (some ⟨w.heap.size + 1, 0, none⟩), .pointer (some ⟨w.heap.size + 1 + 1, 0, none⟩), .slice (some ⟨gb, ob, none⟩) (S.length + 1) ccap, .int .i64 (-1), .pointer (some ⟨w.heap.size + 1 + 1 + 1, 0, none⟩), c15, .int .i64 (t : Int), .int .i64 (n : Int), c18, .pointer (some ⟨fb, 0, none⟩), .pointer (some ⟨ib, 0, none⟩), c21, .int .i64 ra, u23, c24, c25, c26, c27, c28, c29, c30, c31, c32, c33, c34, c35, c36, c37, c38, c39, c40, c41, c42, c43, c44, c45, c46, c47, c48, c49, c50, c51, c52, c53, c54, c55, c56, c57, c58, c59, c60, c61, c62, c63, c64, c65, c66, c67, c68, c69, c70, c71, c72, c73, c74, c75, c76, c77, c78, c79, c80, c81, c82, c83, c84, c85, c86, c87, c88, c89, c90, c91, c92, c93, c94, c95, c96, c97, c98, c99, c100, c101, c102, c103, c104, c105, c106, c107, c108, c109, c110, c111, c112, c113, c114, c115, c116, c117, c118, c119, c120, c121, c122, c123, c124, .string ⟨op.toArray⟩, u126, u127, u128, u129, u130, u131, u132, u133, u134, u135, u136, u137, u138, u139, u140, u141, u142, u143, u144, u145, u146, u147, u148, u149, u150, u151, u152, u153, u154, u155, u156, u157, u158, u159, u160, u161, u162, u163, u164, u165, u166, u167, u168, u169, u170, u171, u172, u173, u174, u175, u176, u177, u178, u179, u180, u181, u182, u183, u184, u185, u186, u187, u188, u189, u190, u191, u192, u193, u194, u195, u196, u197, u198, u199, u200, u201, u202, u203, u204, u205, u206, u207, u208, u209, u210, u211, u212, u213, u214, u215, u216, u217, u218, u219, u220, u221, u222, u223, u224, u225, u226, u227, u228, u229, u230, u231, u232, u233, u234, u235, u236, u237, u238, u239, u240, u241, u242, u243, u244, u245, u246, u247, u248, u249, u250, u251, u252, u253, u254, u255, u256, u257, u258, u259, u260, u261, u262, u263, u264, u265, u266, u267, u268, u269, u270, u271, u272, u273, u274, u275, u276, u277, u278, u279, u280, u281, u282, u283, u284, u285, u286, u287, u288, u289, u290, u291, u292, u293, u294, u295, u296, u297, u298, u299, u300, u301, u302, u303, u304, u305, u306, u307, u308, u309, u310, u311, u312, u313, u314, u315, u316, u317, u318, u319, u320, u321, u322, u323, u324, u325, u326, u327, u328, u329, u330, u331, u332, u333, u334, u335, u336, u337, u338, u339, u340, u341, u342, u343, u344, u345, u346, u347, u348, u349, u350, u351, u352, u353, u354, u355, u356, u357, u358, u359, u360, u361, u362, u363, u364, u365, u366, u367, u368, u369, u370, u371, u372, u373, u374, c375, c376], []⟩ W := by
 subst hk
 have q0 : W.cell? ⟨ib, 0, none⟩ = some (.string ⟨([110, 101, 103] : List UInt8).toArray⟩) := cell_of_blk hX.ins 0
 have q1 : W.cell? ⟨ib, 1, none⟩ = some (.int .i64 (d : Int)) := cell_of_blk hX.ins 1
 have HNM := hidX hnm
 have HX := hidX hX
 have HN := hidX hN
 have HE := hidX hE
 have hd8 := hX.d8
 have ha8 := hX.a8
 have hb8 := hX.b8
 have hd8' : (d : Int) < 8 := by omega
 have ha8' : (a : Int) < 8 := by omega
 have hb8' : (b : Int) < 8 := by omega
 have fr := free_of_blk (HX.out.mo.fr _ List.mem_cons_self).blk (4 + d)
 have rd : W.cell? ⟨fb, 4 + d, none⟩ = some (.int .i64 (f.regs.getD d 0)) := by rw [cell_of_blk (HX.out.mo.fr _ List.mem_cons_self).blk, List.getElem?_toArray, enL_reg (HX.out.mo.fr _ List.mem_cons_self).rl hd8]; rfl
 obtain ⟨vd, hvd⟩ : ∃ vd, vd = f.regs.getD d 0 := ⟨_, rfl⟩
 rw [← hvd] at rd
 have HC := hidX (fun X : World => rone_val [45] (by decide) ra X)
 have v64 : In64 (oneV [45] ra) := oneV_fit _ _
 have HST := hidX (show itM I ticks (n + 1) S0 = .run g ((f.go (f.pc + 1)).put d (oneV [45] ra)) (S.map En.f) from hX.st.trans ((doM_else (show mNeg ≠ mJump by decide) (show mNeg ≠ mIf by decide) (show mNeg ≠ mRet by decide) (show mNeg ≠ mConst by decide) (show mNeg ≠ mHigh by decide) (show mNeg ≠ mMove by decide) (show mNeg ≠ mLoad by decide) (show mNeg ≠ mStore by decide) (show mNeg ≠ mParam by decide) (show mNeg ≠ mArg by decide) (show mNeg ≠ mCall by decide) (show mNeg ≠ mTick by decide) (show mNeg ≠ mPrint by decide)).trans (by
  have h1 : reckV mNeg (reg (f.go (f.pc + 1)) (a : Int)) (reg (f.go (f.pc + 1)) (b : Int)) = oneV [45] ra := by
   unfold reckV
   rw [if_pos (Or.inl rfl), show reg (f.go (f.pc + 1)) (a : Int) = ra from hX.ra.symm]
   rfl
  show Sm.run g ((f.go (f.pc + 1)).put d (reckV mNeg _ _)) _ = _
  rw [h1])))
 generalize oneV [45] ra = va at HC v64 HST
 clear hvd
 clear hX hN hE
 conv => arg 2; whnf
 go_wp2_with fail
 refine wp_region_V (fun W => W.cell? ⟨ib, 1, none⟩ = some (.int .i64 (d : Int))) 8 (by kernel_rfl) q1 (fun hHeld => ?_)
 refine wpAnyV_any 0 (some 357) (v := ?v0r6) rfl rfl (by kernel_rfl) (by kernel_rfl) (by kernel_rfl) (by kernel_rfl) (fun _ _ _ h => hP _ _ _ _ _ h) (Or.inl ⟨by rfl, ?hy0r6⟩) hHeld ?rest0r6
 case hy0r6 => (intro w2 hSw; (try dsimp only at hSw); first | (go_simp; done) | (go_simp; with_reducible rfl))
 simp only [Act.put, List.setIfInBounds_toArray, List.set_cons_zero, List.set_cons_succ]
 refine wpAnyV_any 1 (some 358) (v := ?v1r6) rfl rfl (by kernel_rfl) (by kernel_rfl) (by kernel_rfl) (by kernel_rfl) (fun _ _ _ h => hP _ _ _ _ _ h) (Or.inl ⟨by rfl, ?hy1r6⟩) hHeld ?rest1r6
 case hy1r6 => (intro w2 hSw; (try dsimp only at hSw); first | (go_simp; done) | (go_simp; with_reducible rfl))
 simp only [Act.put, List.setIfInBounds_toArray, List.set_cons_zero, List.set_cons_succ]
 refine wpAnyV_put 2 (some 359) (v := ?v2r6) rfl rfl (by kernel_rfl) (by kernel_rfl) (by kernel_rfl) (by kernel_rfl) (by kernel_rfl) (fun _ _ _ h => hP _ _ _ _ _ h) (Or.inl ⟨by rfl, ?hy2r6⟩) hHeld ?rest2r6
 case hy2r6 => (intro w2 hSw; (try dsimp only at hSw); first | (go_simp; done) | (go_simp; with_reducible rfl))
 simp only [Act.put, List.setIfInBounds_toArray, List.set_cons_zero, List.set_cons_succ]
 refine wpAnyV_any 3 (some 360) (v := ?v3r6) rfl rfl (by kernel_rfl) (by kernel_rfl) (by kernel_rfl) (by kernel_rfl) (fun _ _ _ h => hP _ _ _ _ _ h) (Or.inl ⟨by rfl, ?hy3r6⟩) hHeld ?rest3r6
 case hy3r6 => (intro w2 hSw; (try dsimp only at hSw); first | (go_simp; done) | (go_simp; with_reducible rfl))
 simp only [Act.put, List.setIfInBounds_toArray, List.set_cons_zero, List.set_cons_succ]
 refine wpAnyV_any 5 (some 362) (v := ?v5r6) rfl rfl (by kernel_rfl) (by kernel_rfl) (by kernel_rfl) (by kernel_rfl) (fun _ _ _ h => hP _ _ _ _ _ h) (Or.inl ⟨by rfl, ?hy5r6⟩) hHeld ?rest5r6
 case hy5r6 => (intro w2 hSw; (try dsimp only at hSw); first | (go_simp; done) | (go_simp; with_reducible rfl))
 simp only [Act.put, List.setIfInBounds_toArray, List.set_cons_zero, List.set_cons_succ]
 refine wpAnyV_any 6 (some 363) (v := ?v6r6) rfl rfl (by kernel_rfl) (by kernel_rfl) (by kernel_rfl) (by kernel_rfl) (fun _ _ _ h => hP _ _ _ _ _ h) (Or.inl ⟨by rfl, ?hy6r6⟩) hHeld ?rest6r6
 case hy6r6 => (intro w2 hSw; (try dsimp only at hSw); first | (go_simp; done) | (go_simp; with_reducible rfl))
 simp only [Act.put, List.setIfInBounds_toArray, List.set_cons_zero, List.set_cons_succ]
 refine wpAnyV_one (i := 4) (by kernel_rfl) rfl (fun K4 hK4 => ?_)
 go_simp
 refine (HC.out _).mono ?_
 rintro e w' ⟨rfl, hw'⟩
 replace hw' := hw'.symm
 subst hw'
 refine hK4.out _ _ (fun _ => hHeld) (fun _ => ?_)
 clear hK4 K4
 try simp only [Act.put, List.setIfInBounds_toArray, List.set_cons_zero, List.set_cons_succ]
 refine wpAnyV_any 7 (some 364) (v := ?v7r6) rfl rfl (by kernel_rfl) (by kernel_rfl) (by kernel_rfl) (by kernel_rfl) (fun _ _ _ h => hP _ _ _ _ _ h) (Or.inl ⟨by rfl, ?hy7r6⟩) hHeld ?rest7r6
 case hy7r6 => (intro w2 hSw; (try dsimp only at hSw); first | (go_simp; done) | (go_simp; with_reducible rfl))
 simp only [Act.put, List.setIfInBounds_toArray, List.set_cons_zero, List.set_cons_succ]
 refine wpAnyV_one (i := 8) (by kernel_rfl) rfl (fun K8 hK8 => ?_)
 go_simp
 refine hK8.out _ _ (fun h => absurd rfl h) (fun _ => ?_)
 clear hK8 K8 hHeld
 try simp only [Act.put, List.setIfInBounds_toArray, List.set_cons_zero, List.set_cons_succ]
 refine wpAnyV_done (by kernel_rfl) ?_ _
 go_wp2
 exact HN.out _ _ _ _ _ _ _ _ _ _ _ _ _ _ _ _ _ _ _ _ _ _ _ _ _ _ _ _ _ _ _ _ _ _ _ _ _ _ _ _ _ _ _ _ _ _ _ _ _ _ _ _ _ _ _ _ _ _ _ _ _ _ _ _ _ _ _ _ _ _ _ _ _ _ _ _ _ _ _ _ _ _ _ _ _ _ _ _ _ _ _ _ _ _ _ _ _ _ _ _ _ _ _ _ _ _ _ _ _ _ _ _ _ _ _ _ _ _ _ _ _ _ _ _ _ _ _ _ _ _ _ _ _ _ _ _ _ _ _ _ _ _ _ _ _ _ _ _ _ _ _ _ _ _ _ _ _ _ _ _ _ _ _ _ _ _ _ _ _ _ _ _ _ _ _ _ _ _ _ _ _ _ _ _ _ _ _ _ _ _ _ _ _ _ _ _ _ _ _ _ _ _ _ _ _ _ _ _ _ _ _ _ _ _ _ _ _ _ _ _ _ _ _ _ _ _ _ _ _ _ _ _ _ _ _ _ _ _ _ _ _ _ _ _ _ _ _ _ _ _ _ _ _ _ ⟨(-1), t, (⟨h, ((f.go (f.pc + 1)).put d va), fb, sb⟩ :: S), _, g, nx, rfl, rfl, RunM.goes (f' := ((f.go (f.pc + 1)).put d va)) HX.out.run HX.out.t8 HST.out rfl rfl (by show f.pc + 1 ≤ _; exact HX.out.pcl) HX.out.run.ol HX.out.run.tk, (HX.out.mo.put hd8 v64).below (by (repeat (first | exact Below.refl _ _ | assumption | refine Below.drew ?_ | refine bT ?_ _ | refine bS ?_ _ | refine bA ?_ _)))⟩
end Go.Proofs.YtbcpomdcmilpjaaDoor
namespace Go.Proofs.YtbcpomdcmilpjaaDoor
open Go.RowKit
set_option maxRecDepth 100000 in
set_option maxHeartbeats 4000000 in
theorem sw_not {w W : World} {I : Im} {adf : Option Addr} {cf : Nat} {wv : Value} {ticks most : Nat} {S0 : Sm} {n t : Nat} {h : Mf} {f : Fm} {fb sb ib : Nat} {S : List En} {gb ob ccap : Nat} {ov : Value} {g : Gm} {nx : List Int} {v : Nat} {op : List UInt8} {d a b : Nat} {imm ra : Int}
  (hX : Sit w W I adf cf wv ticks S0 n t h f fb sb ib S (.slice (some ⟨gb, ob, none⟩) (S.length + 1) ccap) ov g nx v op d a b imm ra) (hnm : n < most) (hk : op = mNot)
  {c0 c1 c2 c4 c6 c7 c8 c9 c15 c18 c21 c24 c25 c26 c27 c28 c29 c30 c31 c32 c33 c34 c35 c36 c37 c38 c39 c40 c41 c42 c43 c44 c45 c46 c47 c48 c49 c50 c51 c52 c53 c54 c55 c56 c57 c58 c59 c60 c61 c62 c63 c64 c65 c66 c67 c68 c69 c70 c71 c72 c73 c74 c75 c76 c77 c78 c79 c80 c81 c82 c83 c84 c85 c86 c87 c88 c89 c90 c91 c92 c93 c94 c95 c96 c97 c98 c99 c100 c101 c102 c103 c104 c105 c106 c107 c108 c109 c110 c111 c112 c113 c114 c115 c116 c117 c118 c119 c120 c121 c122 c123 c124 c375 c376 : Value} {u23 u126 u127 u128 u129 u130 u131 u132 u133 u134 u135 u136 u137 u138 u139 u140 u141 u142 u143 u144 u145 u146 u147 u148 u149 u150 u151 u152 u153 u154 u155 u156 u157 u158 u159 u160 u161 u162 u163 u164 u165 u166 u167 u168 u169 u170 u171 u172 u173 u174 u175 u176 u177 u178 u179 u180 u181 u182 u183 u184 u185 u186 u187 u188 u189 u190 u191 u192 u193 u194 u195 u196 u197 u198 u199 u200 u201 u202 u203 u204 u205 u206 u207 u208 u209 u210 u211 u212 u213 u214 u215 u216 u217 u218 u219 u220 u221 u222 u223 u224 u225 u226 u227 u228 u229 u230 u231 u232 u233 u234 u235 u236 u237 u238 u239 u240 u241 u242 u243 u244 u245 u246 u247 u248 u249 u250 u251 u252 u253 u254 u255 u256 u257 u258 u259 u260 u261 u262 u263 u264 u265 u266 u267 u268 u269 u270 u271 u272 u273 u274 u275 u276 u277 u278 u279 u280 u281 u282 u283 u284 u285 u286 u287 u288 u289 u290 u291 u292 u293 u294 u295 u296 u297 u298 u299 u300 u301 u302 u303 u304 u305 u306 u307 u308 u309 u310 u311 u312 u313 u314 u315 u316 u317 u318 u319 u320 u321 u322 u323 u324 u325 u326 u327 u328 u329 u330 u331 u332 u333 u334 u335 u336 u337 u338 u339 u340 u341 u342 u343 u344 u345 u346 u347 u348 u349 u350 u351 u352 u353 u354 u355 u356 u357 u358 u359 u360 u361 u362 u363 u364 u365 u366 u367 u368 u369 u370 u371 u372 u373 u374 : Value} {Q : Exit → Act → World → Prop}
  (hN : NextH w I (.slice adf I.funs.length cf) wv ticks S0 n most fb ib ra op c0 c1 c2 c4 c6 c7 c8 c9 c15 c18 c21 c24 c25 c26 c27 c28 c29 c30 c31 c32 c33 c34 c35 c36 c37 c38 c39 c40 c41 c42 c43 c44 c45 c46 c47 c48 c49 c50 c51 c52 c53 c54 c55 c56 c57 c58 c59 c60 c61 c62 c63 c64 c65 c66 c67 c68 c69 c70 c71 c72 c73 c74 c75 c76 c77 c78 c79 c80 c81 c82 c83 c84 c85 c86 c87 c88 c89 c90 c91 c92 c93 c94 c95 c96 c97 c98 c99 c100 c101 c102 c103 c104 c105 c106 c107 c108 c109 c110 c111 c112 c113 c114 c115 c116 c117 c118 c119 c120 c121 c122 c123 c124 c375 c376 Q) (hE : RetH w I (.slice adf I.funs.length cf) wv ticks S0 n most fb ib ra op c0 c1 c2 c4 c6 c7 c8 c9 c15 c18 c21 c24 c25 c26 c27 c28 c29 c30 c31 c32 c33 c34 c35 c36 c37 c38 c39 c40 c41 c42 c43 c44 c45 c46 c47 c48 c49 c50 c51 c52 c53 c54 c55 c56 c57 c58 c59 c60 c61 c62 c63 c64 c65 c66 c67 c68 c69 c70 c71 c72 c73 c74 c75 c76 c77 c78 c79 c80 c81 c82 c83 c84 c85 c86 c87 c88 c89 c90 c91 c92 c93 c94 c95 c96 c97 c98 c99 c100 c101 c102 c103 c104 c105 c106 c107 c108 c109 c110 c111 c112 c113 c114 c115 c116 c117 c118 c119 c120 c121 c122 c123 c124 c375 c376 Q) (hP : ∀ c (a : Act) (d : Option Tmp) (v : Value) w, Q (.panic c) (a.put d v) w → Q (.panic c) a w) :
  Code.wp Tryd.prog swC Q ⟨#[c0, c1, c2, .int .i64 (ticks : Int), c4, .pointer (some ⟨w.heap.size, 0, none⟩), c6, c7, c8, c9, .pointer (some ⟨w.heap.size + 1, 0, none⟩), .pointer (some ⟨w.heap.size + 1 + 1, 0, none⟩), .slice (some ⟨gb, ob, none⟩) (S.length + 1) ccap, .int .i64 (-1), .pointer (some ⟨w.heap.size + 1 + 1 + 1, 0, none⟩), c15, .int .i64 (t : Int), .int .i64 (n : Int), c18, .pointer (some ⟨fb, 0, none⟩), .pointer (some ⟨ib, 0, none⟩), c21, .int .i64 ra, u23, c24, c25, c26, c27, c28, c29, c30, c31, c32, c33, c34, c35, c36, c37, c38, c39, c40, c41, c42, c43, c44, c45, c46, c47, c48, c49, c50, c51, c52, c53, c54, c55, c56, c57, c58, c59, c60, c61, c62, c63, c64, c65, c66, c67, c68, c69, c70, c71, c72, c73, c74, c75, c76, c77, c78, c79, c80, c81, c82, c83, c84, c85, c86, c87, c88, c89, c90, c91, c92, c93, c94, c95, c96, c97, c98, c99, c100, c101, c102, c103, c104, c105, c106, c107, c108, c109, c110, c111, c112, c113, c114, c115, c116, c117, c118, c119, c120, c121, c122, c123, c124, .string ⟨op.toArray⟩, u126, u127, u128, u129, u130, u131, u132, u133, u134, u135, u136, u137, u138, u139, u140, u141, u142, u143, u144, u145, u146, u147, u148, u149, u150, u151, u152, u153, u154, u155, u156, u157, u158, u159, u160, u161, u162, u163, u164, u165, u166, u167, u168, u169, u170, u171, u172, u173, u174, u175, u176, u177, u178, u179, u180, u181, u182, u183, u184, u185, u186, u187, u188, u189, u190, u191, u192, u193, u194, u195, u196, u197, u198, u199, u200, u201, u202, u203, u204, u205, u206, u207, u208, u209, u210, u211, u212, u213, u214, u215, u216, u217, u218, u219, u220, u221, u222, u223, u224, u225, u226, u227, u228, u229, u230, u231, u232, u233, u234, u235, u236, u237, u238, u239, u240, u241, u242, u243, u244, u245, u246, u247, u248, u249, u250, u251, u252, u253, u254, u255, u256, u257, u258, u259, u260, u261, u262, u263, u264, u265, u266, u267, u268, u269, u270, u271, u272, u273, u274, u275, u276, u277, u278, u279, u280, u281, u282, u283, u284, u285, u286, u287, u288, u289, u290, u291, u292, u293, u294, u295, u296, u297, u298, u299, u300, u301, u302, u303, u304, u305, u306, u307, u308, u309, u310, u311, u312, u313, u314, u315, u316, u317, u318, u319, u320, u321, u322, u323, u324, u325, u326, u327, u328, u329, u330, u331, u332, u333, u334, u335, u336, u337, u338, u339, u340, u341, u342, u343, u344, u345, u346, u347, u348, u349, u350, u351, u352, u353, u354, u355, u356, u357, u358, u359, u360, u361, u362, u363, u364, u365, u366, u367, u368, u369, u370, u371, u372, u373, u374, c375, c376], []⟩ W := by
 subst hk
 have q0 : W.cell? ⟨ib, 0, none⟩ = some (.string ⟨([110, 111, 116] : List UInt8).toArray⟩) := cell_of_blk hX.ins 0
 have q1 : W.cell? ⟨ib, 1, none⟩ = some (.int .i64 (d : Int)) := cell_of_blk hX.ins 1
 have HNM := hidX hnm
 have HX := hidX hX
 have HN := hidX hN
 have HE := hidX hE
 have hd8 := hX.d8
 have ha8 := hX.a8
 have hb8 := hX.b8
 have hd8' : (d : Int) < 8 := by omega
 have ha8' : (a : Int) < 8 := by omega
 have hb8' : (b : Int) < 8 := by omega
 have fr := free_of_blk (HX.out.mo.fr _ List.mem_cons_self).blk (4 + d)
 have rd : W.cell? ⟨fb, 4 + d, none⟩ = some (.int .i64 (f.regs.getD d 0)) := by rw [cell_of_blk (HX.out.mo.fr _ List.mem_cons_self).blk, List.getElem?_toArray, enL_reg (HX.out.mo.fr _ List.mem_cons_self).rl hd8]; rfl
 obtain ⟨vd, hvd⟩ : ∃ vd, vd = f.regs.getD d 0 := ⟨_, rfl⟩
 rw [← hvd] at rd
 have HC := hidX (fun X : World => rone_val [33] (by decide) ra X)
 have v64 : In64 (oneV [33] ra) := oneV_fit _ _
 have HST := hidX (show itM I ticks (n + 1) S0 = .run g ((f.go (f.pc + 1)).put d (oneV [33] ra)) (S.map En.f) from hX.st.trans ((doM_else (show mNot ≠ mJump by decide) (show mNot ≠ mIf by decide) (show mNot ≠ mRet by decide) (show mNot ≠ mConst by decide) (show mNot ≠ mHigh by decide) (show mNot ≠ mMove by decide) (show mNot ≠ mLoad by decide) (show mNot ≠ mStore by decide) (show mNot ≠ mParam by decide) (show mNot ≠ mArg by decide) (show mNot ≠ mCall by decide) (show mNot ≠ mTick by decide) (show mNot ≠ mPrint by decide)).trans (by
  have h1 : reckV mNot (reg (f.go (f.pc + 1)) (a : Int)) (reg (f.go (f.pc + 1)) (b : Int)) = oneV [33] ra := by
   unfold reckV
   rw [if_pos (Or.inr rfl), show reg (f.go (f.pc + 1)) (a : Int) = ra from hX.ra.symm]
   rfl
  show Sm.run g ((f.go (f.pc + 1)).put d (reckV mNot _ _)) _ = _
  rw [h1])))
 generalize oneV [33] ra = va at HC v64 HST
 clear hvd
 clear hX hN hE
 conv => arg 2; whnf
 go_wp2_with fail
 refine wp_region_V (fun W => W.cell? ⟨ib, 1, none⟩ = some (.int .i64 (d : Int))) 8 (by kernel_rfl) q1 (fun hHeld => ?_)
 refine wpAnyV_any 0 (some 367) (v := ?v0r7) rfl rfl (by kernel_rfl) (by kernel_rfl) (by kernel_rfl) (by kernel_rfl) (fun _ _ _ h => hP _ _ _ _ _ h) (Or.inl ⟨by rfl, ?hy0r7⟩) hHeld ?rest0r7
 case hy0r7 => (intro w2 hSw; (try dsimp only at hSw); first | (go_simp; done) | (go_simp; with_reducible rfl))
 simp only [Act.put, List.setIfInBounds_toArray, List.set_cons_zero, List.set_cons_succ]
 refine wpAnyV_any 1 (some 368) (v := ?v1r7) rfl rfl (by kernel_rfl) (by kernel_rfl) (by kernel_rfl) (by kernel_rfl) (fun _ _ _ h => hP _ _ _ _ _ h) (Or.inl ⟨by rfl, ?hy1r7⟩) hHeld ?rest1r7
 case hy1r7 => (intro w2 hSw; (try dsimp only at hSw); first | (go_simp; done) | (go_simp; with_reducible rfl))
 simp only [Act.put, List.setIfInBounds_toArray, List.set_cons_zero, List.set_cons_succ]
 refine wpAnyV_put 2 (some 369) (v := ?v2r7) rfl rfl (by kernel_rfl) (by kernel_rfl) (by kernel_rfl) (by kernel_rfl) (by kernel_rfl) (fun _ _ _ h => hP _ _ _ _ _ h) (Or.inl ⟨by rfl, ?hy2r7⟩) hHeld ?rest2r7
 case hy2r7 => (intro w2 hSw; (try dsimp only at hSw); first | (go_simp; done) | (go_simp; with_reducible rfl))
 simp only [Act.put, List.setIfInBounds_toArray, List.set_cons_zero, List.set_cons_succ]
 refine wpAnyV_any 3 (some 370) (v := ?v3r7) rfl rfl (by kernel_rfl) (by kernel_rfl) (by kernel_rfl) (by kernel_rfl) (fun _ _ _ h => hP _ _ _ _ _ h) (Or.inl ⟨by rfl, ?hy3r7⟩) hHeld ?rest3r7
 case hy3r7 => (intro w2 hSw; (try dsimp only at hSw); first | (go_simp; done) | (go_simp; with_reducible rfl))
 simp only [Act.put, List.setIfInBounds_toArray, List.set_cons_zero, List.set_cons_succ]
 refine wpAnyV_any 5 (some 372) (v := ?v5r7) rfl rfl (by kernel_rfl) (by kernel_rfl) (by kernel_rfl) (by kernel_rfl) (fun _ _ _ h => hP _ _ _ _ _ h) (Or.inl ⟨by rfl, ?hy5r7⟩) hHeld ?rest5r7
 case hy5r7 => (intro w2 hSw; (try dsimp only at hSw); first | (go_simp; done) | (go_simp; with_reducible rfl))
 simp only [Act.put, List.setIfInBounds_toArray, List.set_cons_zero, List.set_cons_succ]
 refine wpAnyV_any 6 (some 373) (v := ?v6r7) rfl rfl (by kernel_rfl) (by kernel_rfl) (by kernel_rfl) (by kernel_rfl) (fun _ _ _ h => hP _ _ _ _ _ h) (Or.inl ⟨by rfl, ?hy6r7⟩) hHeld ?rest6r7
 case hy6r7 => (intro w2 hSw; (try dsimp only at hSw); first | (go_simp; done) | (go_simp; with_reducible rfl))
 simp only [Act.put, List.setIfInBounds_toArray, List.set_cons_zero, List.set_cons_succ]
 refine wpAnyV_one (i := 4) (by kernel_rfl) rfl (fun K4 hK4 => ?_)
 go_simp
 refine (HC.out _).mono ?_
 rintro e w' ⟨rfl, hw'⟩
 replace hw' := hw'.symm
 subst hw'
 refine hK4.out _ _ (fun _ => hHeld) (fun _ => ?_)
 clear hK4 K4
 try simp only [Act.put, List.setIfInBounds_toArray, List.set_cons_zero, List.set_cons_succ]
 refine wpAnyV_any 7 (some 374) (v := ?v7r7) rfl rfl (by kernel_rfl) (by kernel_rfl) (by kernel_rfl) (by kernel_rfl) (fun _ _ _ h => hP _ _ _ _ _ h) (Or.inl ⟨by rfl, ?hy7r7⟩) hHeld ?rest7r7
 case hy7r7 => (intro w2 hSw; (try dsimp only at hSw); first | (go_simp; done) | (go_simp; with_reducible rfl))
 simp only [Act.put, List.setIfInBounds_toArray, List.set_cons_zero, List.set_cons_succ]
 refine wpAnyV_one (i := 8) (by kernel_rfl) rfl (fun K8 hK8 => ?_)
 go_simp
 refine hK8.out _ _ (fun h => absurd rfl h) (fun _ => ?_)
 clear hK8 K8 hHeld
 try simp only [Act.put, List.setIfInBounds_toArray, List.set_cons_zero, List.set_cons_succ]
 refine wpAnyV_done (by kernel_rfl) ?_ _
 go_wp2
 exact HN.out _ _ _ _ _ _ _ _ _ _ _ _ _ _ _ _ _ _ _ _ _ _ _ _ _ _ _ _ _ _ _ _ _ _ _ _ _ _ _ _ _ _ _ _ _ _ _ _ _ _ _ _ _ _ _ _ _ _ _ _ _ _ _ _ _ _ _ _ _ _ _ _ _ _ _ _ _ _ _ _ _ _ _ _ _ _ _ _ _ _ _ _ _ _ _ _ _ _ _ _ _ _ _ _ _ _ _ _ _ _ _ _ _ _ _ _ _ _ _ _ _ _ _ _ _ _ _ _ _ _ _ _ _ _ _ _ _ _ _ _ _ _ _ _ _ _ _ _ _ _ _ _ _ _ _ _ _ _ _ _ _ _ _ _ _ _ _ _ _ _ _ _ _ _ _ _ _ _ _ _ _ _ _ _ _ _ _ _ _ _ _ _ _ _ _ _ _ _ _ _ _ _ _ _ _ _ _ _ _ _ _ _ _ _ _ _ _ _ _ _ _ _ _ _ _ _ _ _ _ _ _ _ _ _ _ _ _ _ _ _ _ _ _ _ _ _ _ _ _ _ _ _ _ _ ⟨(-1), t, (⟨h, ((f.go (f.pc + 1)).put d va), fb, sb⟩ :: S), _, g, nx, rfl, rfl, RunM.goes (f' := ((f.go (f.pc + 1)).put d va)) HX.out.run HX.out.t8 HST.out rfl rfl (by show f.pc + 1 ≤ _; exact HX.out.pcl) HX.out.run.ol HX.out.run.tk, (HX.out.mo.put hd8 v64).below (by (repeat (first | exact Below.refl _ _ | assumption | refine Below.drew ?_ | refine bT ?_ _ | refine bS ?_ _ | refine bA ?_ _)))⟩
end Go.Proofs.YtbcpomdcmilpjaaDoor
