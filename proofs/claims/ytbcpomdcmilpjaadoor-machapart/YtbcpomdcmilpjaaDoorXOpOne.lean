/- Our own: texts joined: MoOpConst, MoOpMove, MoOpStore, MoOpArg, MoOpJump, MoOpIf, MoOpTick, MoOpPrint, MoOpCall. -/
import Derived.Test.YtbcpomdcmilpjaaDoorXMoA
namespace Go.Proofs.YtbcpomdcmilpjaaDoor
open Go.RowKit
set_option maxRecDepth 100000 in
set_option maxHeartbeats 4000000 in
theorem sw_const {w W : World} {I : Im} {adf : Option Addr} {cf : Nat} {wv : Value} {ticks most : Nat} {S0 : Sm} {n t : Nat} {h : Mf} {f : Fm} {fb sb ib : Nat} {S : List En} {gb ob ccap : Nat} {ov : Value} {g : Gm} {nx : List Int} {v : Nat} {op : List UInt8} {d a b : Nat} {imm ra : Int}
  (hX : Sit w W I adf cf wv ticks S0 n t h f fb sb ib S (.slice (some ⟨gb, ob, none⟩) (S.length + 1) ccap) ov g nx v op d a b imm ra) (hnm : n < most) (hk : op = mConst)
  {c0 c1 c2 c4 c6 c7 c8 c9 c15 c18 c21 c24 c25 c26 c27 c28 c29 c30 c31 c32 c33 c34 c35 c36 c37 c38 c39 c40 c41 c42 c43 c44 c45 c46 c47 c48 c49 c50 c51 c52 c53 c54 c55 c56 c57 c58 c59 c60 c61 c62 c63 c64 c65 c66 c67 c68 c69 c70 c71 c72 c73 c74 c75 c76 c77 c78 c79 c80 c81 c82 c83 c84 c85 c86 c87 c88 c89 c90 c91 c92 c93 c94 c95 c96 c97 c98 c99 c100 c101 c102 c103 c104 c105 c106 c107 c108 c109 c110 c111 c112 c113 c114 c115 c116 c117 c118 c119 c120 c121 c122 c123 c124 c375 c376 : Value} {u23 u126 u127 u128 u129 u130 u131 u132 u133 u134 u135 u136 u137 u138 u139 u140 u141 u142 u143 u144 u145 u146 u147 u148 u149 u150 u151 u152 u153 u154 u155 u156 u157 u158 u159 u160 u161 u162 u163 u164 u165 u166 u167 u168 u169 u170 u171 u172 u173 u174 u175 u176 u177 u178 u179 u180 u181 u182 u183 u184 u185 u186 u187 u188 u189 u190 u191 u192 u193 u194 u195 u196 u197 u198 u199 u200 u201 u202 u203 u204 u205 u206 u207 u208 u209 u210 u211 u212 u213 u214 u215 u216 u217 u218 u219 u220 u221 u222 u223 u224 u225 u226 u227 u228 u229 u230 u231 u232 u233 u234 u235 u236 u237 u238 u239 u240 u241 u242 u243 u244 u245 u246 u247 u248 u249 u250 u251 u252 u253 u254 u255 u256 u257 u258 u259 u260 u261 u262 u263 u264 u265 u266 u267 u268 u269 u270 u271 u272 u273 u274 u275 u276 u277 u278 u279 u280 u281 u282 u283 u284 u285 u286 u287 u288 u289 u290 u291 u292 u293 u294 u295 u296 u297 u298 u299 u300 u301 u302 u303 u304 u305 u306 u307 u308 u309 u310 u311 u312 u313 u314 u315 u316 u317 u318 u319 u320 u321 u322 u323 u324 u325 u326 u327 u328 u329 u330 u331 u332 u333 u334 u335 u336 u337 u338 u339 u340 u341 u342 u343 u344 u345 u346 u347 u348 u349 u350 u351 u352 u353 u354 u355 u356 u357 u358 u359 u360 u361 u362 u363 u364 u365 u366 u367 u368 u369 u370 u371 u372 u373 u374 : Value} {Q : Exit → Act → World → Prop}
  (hN : NextH w I (.slice adf I.funs.length cf) wv ticks S0 n most fb ib ra op c0 c1 c2 c4 c6 c7 c8 c9 c15 c18 c21 c24 c25 c26 c27 c28 c29 c30 c31 c32 c33 c34 c35 c36 c37 c38 c39 c40 c41 c42 c43 c44 c45 c46 c47 c48 c49 c50 c51 c52 c53 c54 c55 c56 c57 c58 c59 c60 c61 c62 c63 c64 c65 c66 c67 c68 c69 c70 c71 c72 c73 c74 c75 c76 c77 c78 c79 c80 c81 c82 c83 c84 c85 c86 c87 c88 c89 c90 c91 c92 c93 c94 c95 c96 c97 c98 c99 c100 c101 c102 c103 c104 c105 c106 c107 c108 c109 c110 c111 c112 c113 c114 c115 c116 c117 c118 c119 c120 c121 c122 c123 c124 c375 c376 Q) (hE : RetH w I (.slice adf I.funs.length cf) wv ticks S0 n most fb ib ra op c0 c1 c2 c4 c6 c7 c8 c9 c15 c18 c21 c24 c25 c26 c27 c28 c29 c30 c31 c32 c33 c34 c35 c36 c37 c38 c39 c40 c41 c42 c43 c44 c45 c46 c47 c48 c49 c50 c51 c52 c53 c54 c55 c56 c57 c58 c59 c60 c61 c62 c63 c64 c65 c66 c67 c68 c69 c70 c71 c72 c73 c74 c75 c76 c77 c78 c79 c80 c81 c82 c83 c84 c85 c86 c87 c88 c89 c90 c91 c92 c93 c94 c95 c96 c97 c98 c99 c100 c101 c102 c103 c104 c105 c106 c107 c108 c109 c110 c111 c112 c113 c114 c115 c116 c117 c118 c119 c120 c121 c122 c123 c124 c375 c376 Q) :
  Code.wp Tryd.prog swC Q ⟨#[c0, c1, c2, .int .i64 (ticks : Int), c4, .pointer (some ⟨w.heap.size, 0, none⟩), c6, c7, c8, c9, .pointer (some ⟨w.heap.size + 1, 0, none⟩), .pointer (some ⟨w.heap.size + 1 + 1, 0, none⟩), .slice (some ⟨gb, ob, none⟩) (S.length + 1) ccap, .int .i64 (-1), .pointer (some ⟨w.heap.size + 1 + 1 + 1, 0, none⟩), c15, .int .i64 (t : Int), .int .i64 (n : Int), c18, .pointer (some ⟨fb, 0, none⟩), .pointer (some ⟨ib, 0, none⟩), c21, .int .i64 ra, u23, c24, c25, c26, c27, c28, c29, c30, c31, c32, c33, c34, c35, c36, c37, c38, c39, c40, c41, c42, c43, c44, c45, c46, c47, c48, c49, c50, c51, c52, c53, c54, c55, c56, c57, c58, c59, c60, c61, c62, c63, c64, c65, c66, c67, c68, c69, c70, c71, c72, c73, c74, c75, c76, c77, c78, c79, c80, c81, c82, c83, c84, c85, c86, c87, c88, c89, c90, c91, c92, c93, c94, c95, c96, c97, c98, c99, c100, c101, c102, c103, c104, c105, c106, c107, c108, c109, c110, c111, c112, c113, c114, c115, c116, c117, c118, c119, c120, c121, c122, c123, c124, .string ⟨op.toArray⟩, u126, u127, u128, u129, u130, u131, u132, u133, u134, u135, u136, u137, u138, u139, u140, u141, u142, u143, u144, u145, u146, u147, u148, u149, u150, u151, u152, u153, u154, u155, u156, u157, u158, u159, u160, u161, u162, u163, u164, u165, u166, u167, u168, u169, u170, u171, u172, u173, u174, u175, u176, u177, u178, u179, u180, u181, u182, u183, u184, u185, u186, u187, u188, u189, u190, u191, u192, u193, u194, u195, u196, u197, u198, u199, u200, u201, u202, u203, u204, u205, u206, u207, u208, u209, u210, u211, u212, u213, u214, u215, u216, u217, u218, u219, u220, u221, u222, u223, u224, u225, u226, u227, u228, u229, u230, u231, u232, u233, u234, u235, u236, u237, u238, u239, u240, u241, u242, u243, u244, u245, u246, u247, u248, u249, u250, u251, u252, u253, u254, u255, u256, u257, u258, u259, u260, u261, u262, u263, u264, u265, u266, u267, u268, u269, u270, u271, u272, u273, u274, u275, u276, u277, u278, u279, u280, u281, u282, u283, u284, u285, u286, u287, u288, u289, u290, u291, u292, u293, u294, u295, u296, u297, u298, u299, u300, u301, u302, u303, u304, u305, u306, u307, u308, u309, u310, u311, u312, u313, u314, u315, u316, u317, u318, u319, u320, u321, u322, u323, u324, u325, u326, u327, u328, u329, u330, u331, u332, u333, u334, u335, u336, u337, u338, u339, u340, u341, u342, u343, u344, u345, u346, u347, u348, u349, u350, u351, u352, u353, u354, u355, u356, u357, u358, u359, u360, u361, u362, u363, u364, u365, u366, u367, u368, u369, u370, u371, u372, u373, u374, c375, c376], []⟩ W := by
 subst hk
 have q0 : W.cell? ⟨ib, 0, none⟩ = some (.string ⟨([99, 111, 110, 115, 116] : List UInt8).toArray⟩) := cell_of_blk hX.ins 0
 have q1 : W.cell? ⟨ib, 1, none⟩ = some (.int .i64 (d : Int)) := cell_of_blk hX.ins 1
 have q4 : W.cell? ⟨ib, 4, none⟩ = some (.int .i64 imm) := cell_of_blk hX.ins 4
 have HNM := hidX hnm
 have HX := hidX hX
 have HN := hidX hN
 have HE := hidX hE
 have hd8 := hX.d8
 have ha8 := hX.a8
 have hb8 := hX.b8
 have hd8' : (d : Int) < 8 := by omega
 have ha8' : (a : Int) < 8 := by omega
 have hb8' : (b : Int) < 8 := by omega
 have fr := free_of_blk (HX.out.mo.fr _ List.mem_cons_self).blk (4 + d)
 have rd : W.cell? ⟨fb, 4 + d, none⟩ = some (.int .i64 (f.regs.getD d 0)) := by rw [cell_of_blk (HX.out.mo.fr _ List.mem_cons_self).blk, List.getElem?_toArray, enL_reg (HX.out.mo.fr _ List.mem_cons_self).rl hd8]; rfl
 obtain ⟨vd, hvd⟩ : ∃ vd, vd = f.regs.getD d 0 := ⟨_, rfl⟩
 rw [← hvd] at rd
 have v64 : In64 imm := by have := hX.iml; have := hX.imh; unfold In64; omega
 clear hvd
 clear hX hN hE
 conv => arg 2; whnf
 go_wp2_with fail
 go_region
 go_wp2
 exact HN.out _ _ _ _ _ _ _ _ _ _ _ _ _ _ _ _ _ _ _ _ _ _ _ _ _ _ _ _ _ _ _ _ _ _ _ _ _ _ _ _ _ _ _ _ _ _ _ _ _ _ _ _ _ _ _ _ _ _ _ _ _ _ _ _ _ _ _ _ _ _ _ _ _ _ _ _ _ _ _ _ _ _ _ _ _ _ _ _ _ _ _ _ _ _ _ _ _ _ _ _ _ _ _ _ _ _ _ _ _ _ _ _ _ _ _ _ _ _ _ _ _ _ _ _ _ _ _ _ _ _ _ _ _ _ _ _ _ _ _ _ _ _ _ _ _ _ _ _ _ _ _ _ _ _ _ _ _ _ _ _ _ _ _ _ _ _ _ _ _ _ _ _ _ _ _ _ _ _ _ _ _ _ _ _ _ _ _ _ _ _ _ _ _ _ _ _ _ _ _ _ _ _ _ _ _ _ _ _ _ _ _ _ _ _ _ _ _ _ _ _ _ _ _ _ _ _ _ _ _ _ _ _ _ _ _ _ _ _ _ _ _ _ _ _ _ _ _ _ _ _ _ _ _ _ ⟨(-1), t, (⟨h, ((f.go (f.pc + 1)).put d imm), fb, sb⟩ :: S), _, g, nx, rfl, rfl, RunM.goes (f' := ((f.go (f.pc + 1)).put d imm)) HX.out.run HX.out.t8 HX.out.st (doM_const rfl) rfl (by show f.pc + 1 ≤ _; exact HX.out.pcl) HX.out.run.ol HX.out.run.tk, (HX.out.mo.put hd8 v64).below (by (repeat (first | exact Below.refl _ _ | assumption | refine Below.drew ?_ | refine bT ?_ _ | refine bS ?_ _ | refine bA ?_ _)))⟩
end Go.Proofs.YtbcpomdcmilpjaaDoor
namespace Go.Proofs.YtbcpomdcmilpjaaDoor
open Go.RowKit
set_option maxRecDepth 100000 in
set_option maxHeartbeats 4000000 in
theorem sw_move {w W : World} {I : Im} {adf : Option Addr} {cf : Nat} {wv : Value} {ticks most : Nat} {S0 : Sm} {n t : Nat} {h : Mf} {f : Fm} {fb sb ib : Nat} {S : List En} {gb ob ccap : Nat} {ov : Value} {g : Gm} {nx : List Int} {v : Nat} {op : List UInt8} {d a b : Nat} {imm ra : Int}
  (hX : Sit w W I adf cf wv ticks S0 n t h f fb sb ib S (.slice (some ⟨gb, ob, none⟩) (S.length + 1) ccap) ov g nx v op d a b imm ra) (hnm : n < most) (hk : op = mMove)
  {c0 c1 c2 c4 c6 c7 c8 c9 c15 c18 c21 c24 c25 c26 c27 c28 c29 c30 c31 c32 c33 c34 c35 c36 c37 c38 c39 c40 c41 c42 c43 c44 c45 c46 c47 c48 c49 c50 c51 c52 c53 c54 c55 c56 c57 c58 c59 c60 c61 c62 c63 c64 c65 c66 c67 c68 c69 c70 c71 c72 c73 c74 c75 c76 c77 c78 c79 c80 c81 c82 c83 c84 c85 c86 c87 c88 c89 c90 c91 c92 c93 c94 c95 c96 c97 c98 c99 c100 c101 c102 c103 c104 c105 c106 c107 c108 c109 c110 c111 c112 c113 c114 c115 c116 c117 c118 c119 c120 c121 c122 c123 c124 c375 c376 : Value} {u23 u126 u127 u128 u129 u130 u131 u132 u133 u134 u135 u136 u137 u138 u139 u140 u141 u142 u143 u144 u145 u146 u147 u148 u149 u150 u151 u152 u153 u154 u155 u156 u157 u158 u159 u160 u161 u162 u163 u164 u165 u166 u167 u168 u169 u170 u171 u172 u173 u174 u175 u176 u177 u178 u179 u180 u181 u182 u183 u184 u185 u186 u187 u188 u189 u190 u191 u192 u193 u194 u195 u196 u197 u198 u199 u200 u201 u202 u203 u204 u205 u206 u207 u208 u209 u210 u211 u212 u213 u214 u215 u216 u217 u218 u219 u220 u221 u222 u223 u224 u225 u226 u227 u228 u229 u230 u231 u232 u233 u234 u235 u236 u237 u238 u239 u240 u241 u242 u243 u244 u245 u246 u247 u248 u249 u250 u251 u252 u253 u254 u255 u256 u257 u258 u259 u260 u261 u262 u263 u264 u265 u266 u267 u268 u269 u270 u271 u272 u273 u274 u275 u276 u277 u278 u279 u280 u281 u282 u283 u284 u285 u286 u287 u288 u289 u290 u291 u292 u293 u294 u295 u296 u297 u298 u299 u300 u301 u302 u303 u304 u305 u306 u307 u308 u309 u310 u311 u312 u313 u314 u315 u316 u317 u318 u319 u320 u321 u322 u323 u324 u325 u326 u327 u328 u329 u330 u331 u332 u333 u334 u335 u336 u337 u338 u339 u340 u341 u342 u343 u344 u345 u346 u347 u348 u349 u350 u351 u352 u353 u354 u355 u356 u357 u358 u359 u360 u361 u362 u363 u364 u365 u366 u367 u368 u369 u370 u371 u372 u373 u374 : Value} {Q : Exit → Act → World → Prop}
  (hN : NextH w I (.slice adf I.funs.length cf) wv ticks S0 n most fb ib ra op c0 c1 c2 c4 c6 c7 c8 c9 c15 c18 c21 c24 c25 c26 c27 c28 c29 c30 c31 c32 c33 c34 c35 c36 c37 c38 c39 c40 c41 c42 c43 c44 c45 c46 c47 c48 c49 c50 c51 c52 c53 c54 c55 c56 c57 c58 c59 c60 c61 c62 c63 c64 c65 c66 c67 c68 c69 c70 c71 c72 c73 c74 c75 c76 c77 c78 c79 c80 c81 c82 c83 c84 c85 c86 c87 c88 c89 c90 c91 c92 c93 c94 c95 c96 c97 c98 c99 c100 c101 c102 c103 c104 c105 c106 c107 c108 c109 c110 c111 c112 c113 c114 c115 c116 c117 c118 c119 c120 c121 c122 c123 c124 c375 c376 Q) (hE : RetH w I (.slice adf I.funs.length cf) wv ticks S0 n most fb ib ra op c0 c1 c2 c4 c6 c7 c8 c9 c15 c18 c21 c24 c25 c26 c27 c28 c29 c30 c31 c32 c33 c34 c35 c36 c37 c38 c39 c40 c41 c42 c43 c44 c45 c46 c47 c48 c49 c50 c51 c52 c53 c54 c55 c56 c57 c58 c59 c60 c61 c62 c63 c64 c65 c66 c67 c68 c69 c70 c71 c72 c73 c74 c75 c76 c77 c78 c79 c80 c81 c82 c83 c84 c85 c86 c87 c88 c89 c90 c91 c92 c93 c94 c95 c96 c97 c98 c99 c100 c101 c102 c103 c104 c105 c106 c107 c108 c109 c110 c111 c112 c113 c114 c115 c116 c117 c118 c119 c120 c121 c122 c123 c124 c375 c376 Q) :
  Code.wp Tryd.prog swC Q ⟨#[c0, c1, c2, .int .i64 (ticks : Int), c4, .pointer (some ⟨w.heap.size, 0, none⟩), c6, c7, c8, c9, .pointer (some ⟨w.heap.size + 1, 0, none⟩), .pointer (some ⟨w.heap.size + 1 + 1, 0, none⟩), .slice (some ⟨gb, ob, none⟩) (S.length + 1) ccap, .int .i64 (-1), .pointer (some ⟨w.heap.size + 1 + 1 + 1, 0, none⟩), c15, .int .i64 (t : Int), .int .i64 (n : Int), c18, .pointer (some ⟨fb, 0, none⟩), .pointer (some ⟨ib, 0, none⟩), c21, .int .i64 ra, u23, c24, c25, c26, c27, c28, c29, c30, c31, c32, c33, c34, c35, c36, c37, c38, c39, c40, c41, c42, c43, c44, c45, c46, c47, c48, c49, c50, c51, c52, c53, c54, c55, c56, c57, c58, c59, c60, c61, c62, c63, c64, c65, c66, c67, c68, c69, c70, c71, c72, c73, c74, c75, c76, c77, c78, c79, c80, c81, c82, c83, c84, c85, c86, c87, c88, c89, c90, c91, c92, c93, c94, c95, c96, c97, c98, c99, c100, c101, c102, c103, c104, c105, c106, c107, c108, c109, c110, c111, c112, c113, c114, c115, c116, c117, c118, c119, c120, c121, c122, c123, c124, .string ⟨op.toArray⟩, u126, u127, u128, u129, u130, u131, u132, u133, u134, u135, u136, u137, u138, u139, u140, u141, u142, u143, u144, u145, u146, u147, u148, u149, u150, u151, u152, u153, u154, u155, u156, u157, u158, u159, u160, u161, u162, u163, u164, u165, u166, u167, u168, u169, u170, u171, u172, u173, u174, u175, u176, u177, u178, u179, u180, u181, u182, u183, u184, u185, u186, u187, u188, u189, u190, u191, u192, u193, u194, u195, u196, u197, u198, u199, u200, u201, u202, u203, u204, u205, u206, u207, u208, u209, u210, u211, u212, u213, u214, u215, u216, u217, u218, u219, u220, u221, u222, u223, u224, u225, u226, u227, u228, u229, u230, u231, u232, u233, u234, u235, u236, u237, u238, u239, u240, u241, u242, u243, u244, u245, u246, u247, u248, u249, u250, u251, u252, u253, u254, u255, u256, u257, u258, u259, u260, u261, u262, u263, u264, u265, u266, u267, u268, u269, u270, u271, u272, u273, u274, u275, u276, u277, u278, u279, u280, u281, u282, u283, u284, u285, u286, u287, u288, u289, u290, u291, u292, u293, u294, u295, u296, u297, u298, u299, u300, u301, u302, u303, u304, u305, u306, u307, u308, u309, u310, u311, u312, u313, u314, u315, u316, u317, u318, u319, u320, u321, u322, u323, u324, u325, u326, u327, u328, u329, u330, u331, u332, u333, u334, u335, u336, u337, u338, u339, u340, u341, u342, u343, u344, u345, u346, u347, u348, u349, u350, u351, u352, u353, u354, u355, u356, u357, u358, u359, u360, u361, u362, u363, u364, u365, u366, u367, u368, u369, u370, u371, u372, u373, u374, c375, c376], []⟩ W := by
 subst hk
 have q0 : W.cell? ⟨ib, 0, none⟩ = some (.string ⟨([109, 111, 118, 101] : List UInt8).toArray⟩) := cell_of_blk hX.ins 0
 have q1 : W.cell? ⟨ib, 1, none⟩ = some (.int .i64 (d : Int)) := cell_of_blk hX.ins 1
 have HNM := hidX hnm
 have HX := hidX hX
 have HN := hidX hN
 have HE := hidX hE
 have hd8 := hX.d8
 have ha8 := hX.a8
 have hb8 := hX.b8
 have hd8' : (d : Int) < 8 := by omega
 have ha8' : (a : Int) < 8 := by omega
 have hb8' : (b : Int) < 8 := by omega
 have fr := free_of_blk (HX.out.mo.fr _ List.mem_cons_self).blk (4 + d)
 have rd : W.cell? ⟨fb, 4 + d, none⟩ = some (.int .i64 (f.regs.getD d 0)) := by rw [cell_of_blk (HX.out.mo.fr _ List.mem_cons_self).blk, List.getElem?_toArray, enL_reg (HX.out.mo.fr _ List.mem_cons_self).rl hd8]; rfl
 obtain ⟨vd, hvd⟩ : ∃ vd, vd = f.regs.getD d 0 := ⟨_, rfl⟩
 rw [← hvd] at rd
 have ra64 : In64 ra := by rw [hX.ra]; exact getD64G (hX.mo.fr _ List.mem_cons_self).r64 a
 clear hvd
 clear hX hN hE
 conv => arg 2; whnf
 go_wp2_with fail
 go_region
 go_wp2
 exact HN.out _ _ _ _ _ _ _ _ _ _ _ _ _ _ _ _ _ _ _ _ _ _ _ _ _ _ _ _ _ _ _ _ _ _ _ _ _ _ _ _ _ _ _ _ _ _ _ _ _ _ _ _ _ _ _ _ _ _ _ _ _ _ _ _ _ _ _ _ _ _ _ _ _ _ _ _ _ _ _ _ _ _ _ _ _ _ _ _ _ _ _ _ _ _ _ _ _ _ _ _ _ _ _ _ _ _ _ _ _ _ _ _ _ _ _ _ _ _ _ _ _ _ _ _ _ _ _ _ _ _ _ _ _ _ _ _ _ _ _ _ _ _ _ _ _ _ _ _ _ _ _ _ _ _ _ _ _ _ _ _ _ _ _ _ _ _ _ _ _ _ _ _ _ _ _ _ _ _ _ _ _ _ _ _ _ _ _ _ _ _ _ _ _ _ _ _ _ _ _ _ _ _ _ _ _ _ _ _ _ _ _ _ _ _ _ _ _ _ _ _ _ _ _ _ _ _ _ _ _ _ _ _ _ _ _ _ _ _ _ _ _ _ _ _ _ _ _ _ _ _ _ _ _ _ ⟨(-1), t, (⟨h, ((f.go (f.pc + 1)).put d ra), fb, sb⟩ :: S), _, g, nx, rfl, rfl, RunM.goes (f' := ((f.go (f.pc + 1)).put d ra)) HX.out.run HX.out.t8 HX.out.st (by rw [HX.out.ra]; exact doM_move rfl) rfl (by show f.pc + 1 ≤ _; exact HX.out.pcl) HX.out.run.ol HX.out.run.tk, (HX.out.mo.put hd8 ra64).below (by (repeat (first | exact Below.refl _ _ | assumption | refine Below.drew ?_ | refine bT ?_ _ | refine bS ?_ _ | refine bA ?_ _)))⟩
end Go.Proofs.YtbcpomdcmilpjaaDoor
namespace Go.Proofs.YtbcpomdcmilpjaaDoor
open Go.RowKit
set_option maxRecDepth 100000 in
set_option maxHeartbeats 4000000 in
theorem sw_store {w W : World} {I : Im} {adf : Option Addr} {cf : Nat} {wv : Value} {ticks most : Nat} {S0 : Sm} {n t : Nat} {h : Mf} {f : Fm} {fb sb ib : Nat} {S : List En} {gb ob ccap : Nat} {ov : Value} {g : Gm} {nx : List Int} {v : Nat} {op : List UInt8} {d a b : Nat} {imm ra : Int}
  (hX : Sit w W I adf cf wv ticks S0 n t h f fb sb ib S (.slice (some ⟨gb, ob, none⟩) (S.length + 1) ccap) ov g nx v op d a b imm ra) (hnm : n < most) (hk : op = mStore)
  {c0 c1 c2 c4 c6 c7 c8 c9 c15 c18 c21 c24 c25 c26 c27 c28 c29 c30 c31 c32 c33 c34 c35 c36 c37 c38 c39 c40 c41 c42 c43 c44 c45 c46 c47 c48 c49 c50 c51 c52 c53 c54 c55 c56 c57 c58 c59 c60 c61 c62 c63 c64 c65 c66 c67 c68 c69 c70 c71 c72 c73 c74 c75 c76 c77 c78 c79 c80 c81 c82 c83 c84 c85 c86 c87 c88 c89 c90 c91 c92 c93 c94 c95 c96 c97 c98 c99 c100 c101 c102 c103 c104 c105 c106 c107 c108 c109 c110 c111 c112 c113 c114 c115 c116 c117 c118 c119 c120 c121 c122 c123 c124 c375 c376 : Value} {u23 u126 u127 u128 u129 u130 u131 u132 u133 u134 u135 u136 u137 u138 u139 u140 u141 u142 u143 u144 u145 u146 u147 u148 u149 u150 u151 u152 u153 u154 u155 u156 u157 u158 u159 u160 u161 u162 u163 u164 u165 u166 u167 u168 u169 u170 u171 u172 u173 u174 u175 u176 u177 u178 u179 u180 u181 u182 u183 u184 u185 u186 u187 u188 u189 u190 u191 u192 u193 u194 u195 u196 u197 u198 u199 u200 u201 u202 u203 u204 u205 u206 u207 u208 u209 u210 u211 u212 u213 u214 u215 u216 u217 u218 u219 u220 u221 u222 u223 u224 u225 u226 u227 u228 u229 u230 u231 u232 u233 u234 u235 u236 u237 u238 u239 u240 u241 u242 u243 u244 u245 u246 u247 u248 u249 u250 u251 u252 u253 u254 u255 u256 u257 u258 u259 u260 u261 u262 u263 u264 u265 u266 u267 u268 u269 u270 u271 u272 u273 u274 u275 u276 u277 u278 u279 u280 u281 u282 u283 u284 u285 u286 u287 u288 u289 u290 u291 u292 u293 u294 u295 u296 u297 u298 u299 u300 u301 u302 u303 u304 u305 u306 u307 u308 u309 u310 u311 u312 u313 u314 u315 u316 u317 u318 u319 u320 u321 u322 u323 u324 u325 u326 u327 u328 u329 u330 u331 u332 u333 u334 u335 u336 u337 u338 u339 u340 u341 u342 u343 u344 u345 u346 u347 u348 u349 u350 u351 u352 u353 u354 u355 u356 u357 u358 u359 u360 u361 u362 u363 u364 u365 u366 u367 u368 u369 u370 u371 u372 u373 u374 : Value} {Q : Exit → Act → World → Prop}
  (hN : NextH w I (.slice adf I.funs.length cf) wv ticks S0 n most fb ib ra op c0 c1 c2 c4 c6 c7 c8 c9 c15 c18 c21 c24 c25 c26 c27 c28 c29 c30 c31 c32 c33 c34 c35 c36 c37 c38 c39 c40 c41 c42 c43 c44 c45 c46 c47 c48 c49 c50 c51 c52 c53 c54 c55 c56 c57 c58 c59 c60 c61 c62 c63 c64 c65 c66 c67 c68 c69 c70 c71 c72 c73 c74 c75 c76 c77 c78 c79 c80 c81 c82 c83 c84 c85 c86 c87 c88 c89 c90 c91 c92 c93 c94 c95 c96 c97 c98 c99 c100 c101 c102 c103 c104 c105 c106 c107 c108 c109 c110 c111 c112 c113 c114 c115 c116 c117 c118 c119 c120 c121 c122 c123 c124 c375 c376 Q) (hE : RetH w I (.slice adf I.funs.length cf) wv ticks S0 n most fb ib ra op c0 c1 c2 c4 c6 c7 c8 c9 c15 c18 c21 c24 c25 c26 c27 c28 c29 c30 c31 c32 c33 c34 c35 c36 c37 c38 c39 c40 c41 c42 c43 c44 c45 c46 c47 c48 c49 c50 c51 c52 c53 c54 c55 c56 c57 c58 c59 c60 c61 c62 c63 c64 c65 c66 c67 c68 c69 c70 c71 c72 c73 c74 c75 c76 c77 c78 c79 c80 c81 c82 c83 c84 c85 c86 c87 c88 c89 c90 c91 c92 c93 c94 c95 c96 c97 c98 c99 c100 c101 c102 c103 c104 c105 c106 c107 c108 c109 c110 c111 c112 c113 c114 c115 c116 c117 c118 c119 c120 c121 c122 c123 c124 c375 c376 Q) :
  Code.wp Tryd.prog swC Q ⟨#[c0, c1, c2, .int .i64 (ticks : Int), c4, .pointer (some ⟨w.heap.size, 0, none⟩), c6, c7, c8, c9, .pointer (some ⟨w.heap.size + 1, 0, none⟩), .pointer (some ⟨w.heap.size + 1 + 1, 0, none⟩), .slice (some ⟨gb, ob, none⟩) (S.length + 1) ccap, .int .i64 (-1), .pointer (some ⟨w.heap.size + 1 + 1 + 1, 0, none⟩), c15, .int .i64 (t : Int), .int .i64 (n : Int), c18, .pointer (some ⟨fb, 0, none⟩), .pointer (some ⟨ib, 0, none⟩), c21, .int .i64 ra, u23, c24, c25, c26, c27, c28, c29, c30, c31, c32, c33, c34, c35, c36, c37, c38, c39, c40, c41, c42, c43, c44, c45, c46, c47, c48, c49, c50, c51, c52, c53, c54, c55, c56, c57, c58, c59, c60, c61, c62, c63, c64, c65, c66, c67, c68, c69, c70, c71, c72, c73, c74, c75, c76, c77, c78, c79, c80, c81, c82, c83, c84, c85, c86, c87, c88, c89, c90, c91, c92, c93, c94, c95, c96, c97, c98, c99, c100, c101, c102, c103, c104, c105, c106, c107, c108, c109, c110, c111, c112, c113, c114, c115, c116, c117, c118, c119, c120, c121, c122, c123, c124, .string ⟨op.toArray⟩, u126, u127, u128, u129, u130, u131, u132, u133, u134, u135, u136, u137, u138, u139, u140, u141, u142, u143, u144, u145, u146, u147, u148, u149, u150, u151, u152, u153, u154, u155, u156, u157, u158, u159, u160, u161, u162, u163, u164, u165, u166, u167, u168, u169, u170, u171, u172, u173, u174, u175, u176, u177, u178, u179, u180, u181, u182, u183, u184, u185, u186, u187, u188, u189, u190, u191, u192, u193, u194, u195, u196, u197, u198, u199, u200, u201, u202, u203, u204, u205, u206, u207, u208, u209, u210, u211, u212, u213, u214, u215, u216, u217, u218, u219, u220, u221, u222, u223, u224, u225, u226, u227, u228, u229, u230, u231, u232, u233, u234, u235, u236, u237, u238, u239, u240, u241, u242, u243, u244, u245, u246, u247, u248, u249, u250, u251, u252, u253, u254, u255, u256, u257, u258, u259, u260, u261, u262, u263, u264, u265, u266, u267, u268, u269, u270, u271, u272, u273, u274, u275, u276, u277, u278, u279, u280, u281, u282, u283, u284, u285, u286, u287, u288, u289, u290, u291, u292, u293, u294, u295, u296, u297, u298, u299, u300, u301, u302, u303, u304, u305, u306, u307, u308, u309, u310, u311, u312, u313, u314, u315, u316, u317, u318, u319, u320, u321, u322, u323, u324, u325, u326, u327, u328, u329, u330, u331, u332, u333, u334, u335, u336, u337, u338, u339, u340, u341, u342, u343, u344, u345, u346, u347, u348, u349, u350, u351, u352, u353, u354, u355, u356, u357, u358, u359, u360, u361, u362, u363, u364, u365, u366, u367, u368, u369, u370, u371, u372, u373, u374, c375, c376], []⟩ W := by
 subst hk
 have q0 : W.cell? ⟨ib, 0, none⟩ = some (.string ⟨([115, 116, 111, 114, 101] : List UInt8).toArray⟩) := cell_of_blk hX.ins 0
 have HNM := hidX hnm
 have hi0 : 0 ≤ imm := by have := hX.okw.slot (by rw [hX.dec]; exact Or.inr rfl); have h2 := hX.dec; rw [h2] at this; dsimp only at this; omega
 obtain ⟨m, rfl⟩ : ∃ m : Nat, imm = (m : Int) := ⟨imm.toNat, by omega⟩
 have q4 : W.cell? ⟨ib, 4, none⟩ = some (.int .i64 (m : Int)) := cell_of_blk hX.ins 4
 have HX := hidX hX
 have HN := hidX hN
 have HE := hidX hE
 have hd8 := hX.d8
 have ha8 := hX.a8
 have hb8 := hX.b8
 have hd8' : (d : Int) < 8 := by omega
 have ha8' : (a : Int) < 8 := by omega
 have hb8' : (b : Int) < 8 := by omega
 have p12 : W.cell? ⟨fb, 12, none⟩ = some (.slice (some ⟨sb, 0, none⟩) f.slots.length f.slots.length) := by rw [cell_of_blk (HX.out.mo.fr _ List.mem_cons_self).blk, List.getElem?_toArray, enL_sv (HX.out.mo.fr _ List.mem_cons_self).rl]; rfl
 have p2 : W.cell? ⟨fb, 2, none⟩ = some (.int .i64 (f.slots.length : Int)) := by have hsz := (HX.out.mo.fr _ List.mem_cons_self).sz; rw [cell_of_blk (HX.out.mo.fr _ List.mem_cons_self).blk]; show some (Value.int .i64 h.slots) = _; rw [show h.slots = (f.slots.length : Int) from hsz]
 have hzl : f.slots.length ≤ 1000 := (HX.out.mo.fr _ List.mem_cons_self).zl
 have hzl' : (f.slots.length : Int) ≤ 1000 := by omega
 by_cases hlt : m < f.slots.length
 ·have hlt' : (m : Int) < (f.slots.length : Int) := by omega
  have s0 : W.cell? ⟨sb, m, none⟩ = some (.int .i64 (f.slots.getD m 0)) := by rw [cell_of_blk (HX.out.mo.fr _ List.mem_cons_self).sl, List.getElem?_toArray]; show (intsG f.slots)[m]? = _; rw [intsG_at hlt]; simp [List.getD, hlt]
  have fr := free_of_blk (HX.out.mo.fr _ List.mem_cons_self).sl m
  have HST := hidX (hX.st.trans ((doM_store rfl).trans (if_pos (show (m : Int) < ((f.go (f.pc + 1)).slots.length : Int) from hlt'))))
  have ra64 : In64 ra := by rw [hX.ra]; exact getD64G (hX.mo.fr _ List.mem_cons_self).r64 a
  generalize f.slots.getD m 0 = vs at s0
  clear hlt
  obtain ⟨zl, hzq⟩ : ∃ zl, zl = f.slots.length := ⟨_, rfl⟩
  rw [← hzq] at p12 p2 hzl' hlt'
  clear hzl hzq
  clear hX hN hE
  conv => arg 2; whnf
  go_wp2_with fail
  go_quiet (fail)
  go_wp2_with fail
  go_region
  go_wp2
  exact HN.out _ _ _ _ _ _ _ _ _ _ _ _ _ _ _ _ _ _ _ _ _ _ _ _ _ _ _ _ _ _ _ _ _ _ _ _ _ _ _ _ _ _ _ _ _ _ _ _ _ _ _ _ _ _ _ _ _ _ _ _ _ _ _ _ _ _ _ _ _ _ _ _ _ _ _ _ _ _ _ _ _ _ _ _ _ _ _ _ _ _ _ _ _ _ _ _ _ _ _ _ _ _ _ _ _ _ _ _ _ _ _ _ _ _ _ _ _ _ _ _ _ _ _ _ _ _ _ _ _ _ _ _ _ _ _ _ _ _ _ _ _ _ _ _ _ _ _ _ _ _ _ _ _ _ _ _ _ _ _ _ _ _ _ _ _ _ _ _ _ _ _ _ _ _ _ _ _ _ _ _ _ _ _ _ _ _ _ _ _ _ _ _ _ _ _ _ _ _ _ _ _ _ _ _ _ _ _ _ _ _ _ _ _ _ _ _ _ _ _ _ _ _ _ _ _ _ _ _ _ _ _ _ _ _ _ _ _ _ _ _ _ _ _ _ _ _ _ _ _ _ _ _ _ _ ⟨(-1), t, (⟨h, { (f.go (f.pc + 1)) with slots := (f.go (f.pc + 1)).slots.set m ra }, fb, sb⟩ :: S), _, g, nx, rfl, rfl, RunM.goes (f' := { (f.go (f.pc + 1)) with slots := (f.go (f.pc + 1)).slots.set m ra }) HX.out.run HX.out.t8 HST.out (by rw [HX.out.ra]; rfl) rfl (by show f.pc + 1 ≤ _; exact HX.out.pcl) HX.out.run.ol HX.out.run.tk, (HX.out.mo.below (by (repeat (first | exact Below.refl _ _ | assumption | refine Below.drew ?_ | refine bT ?_ _ | refine bS ?_ _ | refine bA ?_ _)))).slot m ra64⟩
 ·have hlt' : ¬ (m : Int) < (f.slots.length : Int) := by omega
  have HST := hidX (doM_store (I := I) (m := ticks) (g := g) (f := f.go (f.pc + 1)) (fs := S.map En.f) (i := ⟨mStore, (d : Int), (a : Int), (b : Int), (m : Int)⟩) rfl |>.trans (if_neg (show ¬ (m : Int) < ((f.go (f.pc + 1)).slots.length : Int) from hlt')))
  obtain ⟨oad, ocap, rfl⟩ := own_is hX.mo.out
  have o0 : W.cell? ⟨w.heap.size + 1 + 1, 0, none⟩ = some (.string ⟨#[]⟩) := cell_of_blk hX.mo.ob 0
  have o1 : W.cell? ⟨w.heap.size + 1 + 1, 1, none⟩ = some (.int .i64 0) := cell_of_blk hX.mo.ob 1
  have o2 : W.cell? ⟨w.heap.size + 1 + 1, 2, none⟩ = some (.slice oad g.out.length ocap) := cell_of_blk hX.mo.ob 2
  have o3 : W.cell? ⟨w.heap.size + 1 + 1, 3, none⟩ = some (.int .i64 (g.ticks : Int)) := cell_of_blk hX.mo.ob 3
  have fo0 := free_of_blk hX.mo.ob 0
  have fo1 := free_of_blk hX.mo.ob 1
  have r0 : W.cell? ⟨w.heap.size + 1, 0, none⟩ = some (.string ⟨#[]⟩) := cell_of_blk hX.mo.res 0
  have r1 : W.cell? ⟨w.heap.size + 1, 1, none⟩ = some (.int .i64 0) := cell_of_blk hX.mo.res 1
  have r2 : W.cell? ⟨w.heap.size + 1, 2, none⟩ = some (.slice none 0 0) := cell_of_blk hX.mo.res 2
  have r3 : W.cell? ⟨w.heap.size + 1, 3, none⟩ = some (.int .i64 0) := cell_of_blk hX.mo.res 3
  have fr0 := free_of_blk hX.mo.res 0
  have fr1 := free_of_blk hX.mo.res 1
  have fr2 := free_of_blk hX.mo.res 2
  have fr3 := free_of_blk hX.mo.res 3
  clear hlt
  obtain ⟨zl, hzq⟩ : ∃ zl, zl = f.slots.length := ⟨_, rfl⟩
  rw [← hzq] at p12 p2 hzl' hlt'
  clear hzl hzq
  clear hX hN hE
  conv => arg 2; whnf
  go_wp2_with fail
  go_quiet (fail)
  go_wp2
  exact HE.out _ _ _ _ _ _ _ _ _ _ _ _ _ _ _ _ _ _ _ _ _ _ _ _ _ _ _ _ _ _ _ _ _ _ _ _ _ _ _ _ _ _ _ _ _ _ _ _ _ _ _ _ _ _ _ _ _ _ _ _ _ _ _ _ _ _ _ _ _ _ _ _ _ _ _ _ _ _ _ _ _ _ _ _ _ _ _ _ _ _ _ _ _ _ _ _ _ _ _ _ _ _ _ _ _ _ _ _ _ _ _ _ _ _ _ _ _ _ _ _ _ _ _ _ _ _ _ _ _ _ _ _ _ _ _ _ _ _ _ _ _ _ _ _ _ _ _ _ _ _ _ _ _ _ _ _ _ _ _ _ _ _ _ _ _ _ _ _ _ _ _ _ _ _ _ _ _ _ _ _ _ _ _ _ _ _ _ _ _ _ _ _ _ _ _ _ _ _ _ _ _ _ _ _ _ _ _ _ _ _ _ _ _ _ _ _ _ _ _ _ _ _ _ _ _ _ _ _ _ _ _ _ _ _ _ _ _ _ _ _ _ _ _ _ _ _ _ _ _ _ _ _ _ _ ⟨hStuck, 0, _, _, HX.out.mo.fin (Y := _) (by (repeat (first | exact But.refl _ _ | assumption | refine But.drew ?_ | refine But.drewN ?_ _ | refine But.set ?_ _ _ | refine But.setNew ?_ _ _ (by first | (simp; done) | (simp; omega)) _ | refine But.alloc ?_ _))) hStuck 0, HX.out.run.ol, endO_of (HX.out.st.trans HST.out) hnm⟩
end Go.Proofs.YtbcpomdcmilpjaaDoor
namespace Go.Proofs.YtbcpomdcmilpjaaDoor
open Go.RowKit
set_option maxRecDepth 100000 in
set_option maxHeartbeats 4000000 in
theorem sw_arg {w W : World} {I : Im} {adf : Option Addr} {cf : Nat} {wv : Value} {ticks most : Nat} {S0 : Sm} {n t : Nat} {h : Mf} {f : Fm} {fb sb ib : Nat} {S : List En} {gb ob ccap : Nat} {ov : Value} {g : Gm} {nx : List Int} {v : Nat} {op : List UInt8} {d a b : Nat} {imm ra : Int}
  (hX : Sit w W I adf cf wv ticks S0 n t h f fb sb ib S (.slice (some ⟨gb, ob, none⟩) (S.length + 1) ccap) ov g nx v op d a b imm ra) (hnm : n < most) (hk : op = mArg)
  {c0 c1 c2 c4 c6 c7 c8 c9 c15 c18 c21 c24 c25 c26 c27 c28 c29 c30 c31 c32 c33 c34 c35 c36 c37 c38 c39 c40 c41 c42 c43 c44 c45 c46 c47 c48 c49 c50 c51 c52 c53 c54 c55 c56 c57 c58 c59 c60 c61 c62 c63 c64 c65 c66 c67 c68 c69 c70 c71 c72 c73 c74 c75 c76 c77 c78 c79 c80 c81 c82 c83 c84 c85 c86 c87 c88 c89 c90 c91 c92 c93 c94 c95 c96 c97 c98 c99 c100 c101 c102 c103 c104 c105 c106 c107 c108 c109 c110 c111 c112 c113 c114 c115 c116 c117 c118 c119 c120 c121 c122 c123 c124 c375 c376 : Value} {u23 u126 u127 u128 u129 u130 u131 u132 u133 u134 u135 u136 u137 u138 u139 u140 u141 u142 u143 u144 u145 u146 u147 u148 u149 u150 u151 u152 u153 u154 u155 u156 u157 u158 u159 u160 u161 u162 u163 u164 u165 u166 u167 u168 u169 u170 u171 u172 u173 u174 u175 u176 u177 u178 u179 u180 u181 u182 u183 u184 u185 u186 u187 u188 u189 u190 u191 u192 u193 u194 u195 u196 u197 u198 u199 u200 u201 u202 u203 u204 u205 u206 u207 u208 u209 u210 u211 u212 u213 u214 u215 u216 u217 u218 u219 u220 u221 u222 u223 u224 u225 u226 u227 u228 u229 u230 u231 u232 u233 u234 u235 u236 u237 u238 u239 u240 u241 u242 u243 u244 u245 u246 u247 u248 u249 u250 u251 u252 u253 u254 u255 u256 u257 u258 u259 u260 u261 u262 u263 u264 u265 u266 u267 u268 u269 u270 u271 u272 u273 u274 u275 u276 u277 u278 u279 u280 u281 u282 u283 u284 u285 u286 u287 u288 u289 u290 u291 u292 u293 u294 u295 u296 u297 u298 u299 u300 u301 u302 u303 u304 u305 u306 u307 u308 u309 u310 u311 u312 u313 u314 u315 u316 u317 u318 u319 u320 u321 u322 u323 u324 u325 u326 u327 u328 u329 u330 u331 u332 u333 u334 u335 u336 u337 u338 u339 u340 u341 u342 u343 u344 u345 u346 u347 u348 u349 u350 u351 u352 u353 u354 u355 u356 u357 u358 u359 u360 u361 u362 u363 u364 u365 u366 u367 u368 u369 u370 u371 u372 u373 u374 : Value} {Q : Exit → Act → World → Prop}
  (hN : NextH w I (.slice adf I.funs.length cf) wv ticks S0 n most fb ib ra op c0 c1 c2 c4 c6 c7 c8 c9 c15 c18 c21 c24 c25 c26 c27 c28 c29 c30 c31 c32 c33 c34 c35 c36 c37 c38 c39 c40 c41 c42 c43 c44 c45 c46 c47 c48 c49 c50 c51 c52 c53 c54 c55 c56 c57 c58 c59 c60 c61 c62 c63 c64 c65 c66 c67 c68 c69 c70 c71 c72 c73 c74 c75 c76 c77 c78 c79 c80 c81 c82 c83 c84 c85 c86 c87 c88 c89 c90 c91 c92 c93 c94 c95 c96 c97 c98 c99 c100 c101 c102 c103 c104 c105 c106 c107 c108 c109 c110 c111 c112 c113 c114 c115 c116 c117 c118 c119 c120 c121 c122 c123 c124 c375 c376 Q) (hE : RetH w I (.slice adf I.funs.length cf) wv ticks S0 n most fb ib ra op c0 c1 c2 c4 c6 c7 c8 c9 c15 c18 c21 c24 c25 c26 c27 c28 c29 c30 c31 c32 c33 c34 c35 c36 c37 c38 c39 c40 c41 c42 c43 c44 c45 c46 c47 c48 c49 c50 c51 c52 c53 c54 c55 c56 c57 c58 c59 c60 c61 c62 c63 c64 c65 c66 c67 c68 c69 c70 c71 c72 c73 c74 c75 c76 c77 c78 c79 c80 c81 c82 c83 c84 c85 c86 c87 c88 c89 c90 c91 c92 c93 c94 c95 c96 c97 c98 c99 c100 c101 c102 c103 c104 c105 c106 c107 c108 c109 c110 c111 c112 c113 c114 c115 c116 c117 c118 c119 c120 c121 c122 c123 c124 c375 c376 Q) :
  Code.wp Tryd.prog swC Q ⟨#[c0, c1, c2, .int .i64 (ticks : Int), c4, .pointer (some ⟨w.heap.size, 0, none⟩), c6, c7, c8, c9, .pointer (some ⟨w.heap.size + 1, 0, none⟩), .pointer (some ⟨w.heap.size + 1 + 1, 0, none⟩), .slice (some ⟨gb, ob, none⟩) (S.length + 1) ccap, .int .i64 (-1), .pointer (some ⟨w.heap.size + 1 + 1 + 1, 0, none⟩), c15, .int .i64 (t : Int), .int .i64 (n : Int), c18, .pointer (some ⟨fb, 0, none⟩), .pointer (some ⟨ib, 0, none⟩), c21, .int .i64 ra, u23, c24, c25, c26, c27, c28, c29, c30, c31, c32, c33, c34, c35, c36, c37, c38, c39, c40, c41, c42, c43, c44, c45, c46, c47, c48, c49, c50, c51, c52, c53, c54, c55, c56, c57, c58, c59, c60, c61, c62, c63, c64, c65, c66, c67, c68, c69, c70, c71, c72, c73, c74, c75, c76, c77, c78, c79, c80, c81, c82, c83, c84, c85, c86, c87, c88, c89, c90, c91, c92, c93, c94, c95, c96, c97, c98, c99, c100, c101, c102, c103, c104, c105, c106, c107, c108, c109, c110, c111, c112, c113, c114, c115, c116, c117, c118, c119, c120, c121, c122, c123, c124, .string ⟨op.toArray⟩, u126, u127, u128, u129, u130, u131, u132, u133, u134, u135, u136, u137, u138, u139, u140, u141, u142, u143, u144, u145, u146, u147, u148, u149, u150, u151, u152, u153, u154, u155, u156, u157, u158, u159, u160, u161, u162, u163, u164, u165, u166, u167, u168, u169, u170, u171, u172, u173, u174, u175, u176, u177, u178, u179, u180, u181, u182, u183, u184, u185, u186, u187, u188, u189, u190, u191, u192, u193, u194, u195, u196, u197, u198, u199, u200, u201, u202, u203, u204, u205, u206, u207, u208, u209, u210, u211, u212, u213, u214, u215, u216, u217, u218, u219, u220, u221, u222, u223, u224, u225, u226, u227, u228, u229, u230, u231, u232, u233, u234, u235, u236, u237, u238, u239, u240, u241, u242, u243, u244, u245, u246, u247, u248, u249, u250, u251, u252, u253, u254, u255, u256, u257, u258, u259, u260, u261, u262, u263, u264, u265, u266, u267, u268, u269, u270, u271, u272, u273, u274, u275, u276, u277, u278, u279, u280, u281, u282, u283, u284, u285, u286, u287, u288, u289, u290, u291, u292, u293, u294, u295, u296, u297, u298, u299, u300, u301, u302, u303, u304, u305, u306, u307, u308, u309, u310, u311, u312, u313, u314, u315, u316, u317, u318, u319, u320, u321, u322, u323, u324, u325, u326, u327, u328, u329, u330, u331, u332, u333, u334, u335, u336, u337, u338, u339, u340, u341, u342, u343, u344, u345, u346, u347, u348, u349, u350, u351, u352, u353, u354, u355, u356, u357, u358, u359, u360, u361, u362, u363, u364, u365, u366, u367, u368, u369, u370, u371, u372, u373, u374, c375, c376], []⟩ W := by
 subst hk
 have q0 : W.cell? ⟨ib, 0, none⟩ = some (.string ⟨([97, 114, 103] : List UInt8).toArray⟩) := cell_of_blk hX.ins 0
 have HNM := hidX hnm
 have hi0 : 0 ≤ imm := by have := (hX.okw.par (by rw [hX.dec]; exact Or.inr rfl)).1; have h2 := hX.dec; rw [h2] at this; dsimp only at this; omega
 obtain ⟨m, rfl⟩ : ∃ m : Nat, imm = (m : Int) := ⟨imm.toNat, by omega⟩
 have q4 : W.cell? ⟨ib, 4, none⟩ = some (.int .i64 (m : Int)) := cell_of_blk hX.ins 4
 have hm4 : m < 4 := by have := (hX.okw.par (by rw [hX.dec]; exact Or.inr rfl)).2; have h2 := hX.dec; rw [h2] at this; dsimp only at this; omega
 have hm4' : (m : Int) < 4 := by omega
 have HX := hidX hX
 have HN := hidX hN
 have HE := hidX hE
 have hd8 := hX.d8
 have ha8 := hX.a8
 have hb8 := hX.b8
 have hd8' : (d : Int) < 8 := by omega
 have ha8' : (a : Int) < 8 := by omega
 have hb8' : (b : Int) < 8 := by omega
 have fr := free_of_blk (HX.out.mo.fr _ List.mem_cons_self).blk (17 + m)
 have rd : W.cell? ⟨fb, 17 + m, none⟩ = some (.int .i64 (f.next.getD m 0)) := by rw [cell_of_blk (HX.out.mo.fr _ List.mem_cons_self).blk, List.getElem?_toArray, enL_next (HX.out.mo.fr _ List.mem_cons_self).rl (HX.out.mo.fr _ List.mem_cons_self).al (HX.out.mo.fr _ List.mem_cons_self).nl hm4]; rfl
 generalize f.next.getD m 0 = vd at rd
 have ra64 : In64 ra := by rw [hX.ra]; exact getD64G (hX.mo.fr _ List.mem_cons_self).r64 a
 clear hX hN hE
 conv => arg 2; whnf
 go_wp2_with fail
 go_region
 go_wp2
 exact HN.out _ _ _ _ _ _ _ _ _ _ _ _ _ _ _ _ _ _ _ _ _ _ _ _ _ _ _ _ _ _ _ _ _ _ _ _ _ _ _ _ _ _ _ _ _ _ _ _ _ _ _ _ _ _ _ _ _ _ _ _ _ _ _ _ _ _ _ _ _ _ _ _ _ _ _ _ _ _ _ _ _ _ _ _ _ _ _ _ _ _ _ _ _ _ _ _ _ _ _ _ _ _ _ _ _ _ _ _ _ _ _ _ _ _ _ _ _ _ _ _ _ _ _ _ _ _ _ _ _ _ _ _ _ _ _ _ _ _ _ _ _ _ _ _ _ _ _ _ _ _ _ _ _ _ _ _ _ _ _ _ _ _ _ _ _ _ _ _ _ _ _ _ _ _ _ _ _ _ _ _ _ _ _ _ _ _ _ _ _ _ _ _ _ _ _ _ _ _ _ _ _ _ _ _ _ _ _ _ _ _ _ _ _ _ _ _ _ _ _ _ _ _ _ _ _ _ _ _ _ _ _ _ _ _ _ _ _ _ _ _ _ _ _ _ _ _ _ _ _ _ _ _ _ _ ⟨(-1), t, (⟨h, { (f.go (f.pc + 1)) with next := (f.go (f.pc + 1)).next.set m ra }, fb, sb⟩ :: S), _, g, nx, rfl, rfl, RunM.goes (f' := { (f.go (f.pc + 1)) with next := (f.go (f.pc + 1)).next.set m ra }) HX.out.run HX.out.t8 HX.out.st (by rw [HX.out.ra]; exact doM_arg rfl) rfl (by show f.pc + 1 ≤ _; exact HX.out.pcl) HX.out.run.ol HX.out.run.tk, (HX.out.mo.told hm4 ra64).below (by (repeat (first | exact Below.refl _ _ | assumption | refine Below.drew ?_ | refine bT ?_ _ | refine bS ?_ _ | refine bA ?_ _)))⟩
end Go.Proofs.YtbcpomdcmilpjaaDoor
namespace Go.Proofs.YtbcpomdcmilpjaaDoor
open Go.RowKit
set_option maxRecDepth 100000 in
set_option maxHeartbeats 4000000 in
theorem sw_jump {w W : World} {I : Im} {adf : Option Addr} {cf : Nat} {wv : Value} {ticks most : Nat} {S0 : Sm} {n t : Nat} {h : Mf} {f : Fm} {fb sb ib : Nat} {S : List En} {gb ob ccap : Nat} {ov : Value} {g : Gm} {nx : List Int} {v : Nat} {op : List UInt8} {d a b : Nat} {imm ra : Int}
  (hX : Sit w W I adf cf wv ticks S0 n t h f fb sb ib S (.slice (some ⟨gb, ob, none⟩) (S.length + 1) ccap) ov g nx v op d a b imm ra) (hnm : n < most) (hk : op = mJump)
  {c0 c1 c2 c4 c6 c7 c8 c9 c15 c18 c21 c24 c25 c26 c27 c28 c29 c30 c31 c32 c33 c34 c35 c36 c37 c38 c39 c40 c41 c42 c43 c44 c45 c46 c47 c48 c49 c50 c51 c52 c53 c54 c55 c56 c57 c58 c59 c60 c61 c62 c63 c64 c65 c66 c67 c68 c69 c70 c71 c72 c73 c74 c75 c76 c77 c78 c79 c80 c81 c82 c83 c84 c85 c86 c87 c88 c89 c90 c91 c92 c93 c94 c95 c96 c97 c98 c99 c100 c101 c102 c103 c104 c105 c106 c107 c108 c109 c110 c111 c112 c113 c114 c115 c116 c117 c118 c119 c120 c121 c122 c123 c124 c375 c376 : Value} {u23 u126 u127 u128 u129 u130 u131 u132 u133 u134 u135 u136 u137 u138 u139 u140 u141 u142 u143 u144 u145 u146 u147 u148 u149 u150 u151 u152 u153 u154 u155 u156 u157 u158 u159 u160 u161 u162 u163 u164 u165 u166 u167 u168 u169 u170 u171 u172 u173 u174 u175 u176 u177 u178 u179 u180 u181 u182 u183 u184 u185 u186 u187 u188 u189 u190 u191 u192 u193 u194 u195 u196 u197 u198 u199 u200 u201 u202 u203 u204 u205 u206 u207 u208 u209 u210 u211 u212 u213 u214 u215 u216 u217 u218 u219 u220 u221 u222 u223 u224 u225 u226 u227 u228 u229 u230 u231 u232 u233 u234 u235 u236 u237 u238 u239 u240 u241 u242 u243 u244 u245 u246 u247 u248 u249 u250 u251 u252 u253 u254 u255 u256 u257 u258 u259 u260 u261 u262 u263 u264 u265 u266 u267 u268 u269 u270 u271 u272 u273 u274 u275 u276 u277 u278 u279 u280 u281 u282 u283 u284 u285 u286 u287 u288 u289 u290 u291 u292 u293 u294 u295 u296 u297 u298 u299 u300 u301 u302 u303 u304 u305 u306 u307 u308 u309 u310 u311 u312 u313 u314 u315 u316 u317 u318 u319 u320 u321 u322 u323 u324 u325 u326 u327 u328 u329 u330 u331 u332 u333 u334 u335 u336 u337 u338 u339 u340 u341 u342 u343 u344 u345 u346 u347 u348 u349 u350 u351 u352 u353 u354 u355 u356 u357 u358 u359 u360 u361 u362 u363 u364 u365 u366 u367 u368 u369 u370 u371 u372 u373 u374 : Value} {Q : Exit → Act → World → Prop}
  (hN : NextH w I (.slice adf I.funs.length cf) wv ticks S0 n most fb ib ra op c0 c1 c2 c4 c6 c7 c8 c9 c15 c18 c21 c24 c25 c26 c27 c28 c29 c30 c31 c32 c33 c34 c35 c36 c37 c38 c39 c40 c41 c42 c43 c44 c45 c46 c47 c48 c49 c50 c51 c52 c53 c54 c55 c56 c57 c58 c59 c60 c61 c62 c63 c64 c65 c66 c67 c68 c69 c70 c71 c72 c73 c74 c75 c76 c77 c78 c79 c80 c81 c82 c83 c84 c85 c86 c87 c88 c89 c90 c91 c92 c93 c94 c95 c96 c97 c98 c99 c100 c101 c102 c103 c104 c105 c106 c107 c108 c109 c110 c111 c112 c113 c114 c115 c116 c117 c118 c119 c120 c121 c122 c123 c124 c375 c376 Q) (hE : RetH w I (.slice adf I.funs.length cf) wv ticks S0 n most fb ib ra op c0 c1 c2 c4 c6 c7 c8 c9 c15 c18 c21 c24 c25 c26 c27 c28 c29 c30 c31 c32 c33 c34 c35 c36 c37 c38 c39 c40 c41 c42 c43 c44 c45 c46 c47 c48 c49 c50 c51 c52 c53 c54 c55 c56 c57 c58 c59 c60 c61 c62 c63 c64 c65 c66 c67 c68 c69 c70 c71 c72 c73 c74 c75 c76 c77 c78 c79 c80 c81 c82 c83 c84 c85 c86 c87 c88 c89 c90 c91 c92 c93 c94 c95 c96 c97 c98 c99 c100 c101 c102 c103 c104 c105 c106 c107 c108 c109 c110 c111 c112 c113 c114 c115 c116 c117 c118 c119 c120 c121 c122 c123 c124 c375 c376 Q) :
  Code.wp Tryd.prog swC Q ⟨#[c0, c1, c2, .int .i64 (ticks : Int), c4, .pointer (some ⟨w.heap.size, 0, none⟩), c6, c7, c8, c9, .pointer (some ⟨w.heap.size + 1, 0, none⟩), .pointer (some ⟨w.heap.size + 1 + 1, 0, none⟩), .slice (some ⟨gb, ob, none⟩) (S.length + 1) ccap, .int .i64 (-1), .pointer (some ⟨w.heap.size + 1 + 1 + 1, 0, none⟩), c15, .int .i64 (t : Int), .int .i64 (n : Int), c18, .pointer (some ⟨fb, 0, none⟩), .pointer (some ⟨ib, 0, none⟩), c21, .int .i64 ra, u23, c24, c25, c26, c27, c28, c29, c30, c31, c32, c33, c34, c35, c36, c37, c38, c39, c40, c41, c42, c43, c44, c45, c46, c47, c48, c49, c50, c51, c52, c53, c54, c55, c56, c57, c58, c59, c60, c61, c62, c63, c64, c65, c66, c67, c68, c69, c70, c71, c72, c73, c74, c75, c76, c77, c78, c79, c80, c81, c82, c83, c84, c85, c86, c87, c88, c89, c90, c91, c92, c93, c94, c95, c96, c97, c98, c99, c100, c101, c102, c103, c104, c105, c106, c107, c108, c109, c110, c111, c112, c113, c114, c115, c116, c117, c118, c119, c120, c121, c122, c123, c124, .string ⟨op.toArray⟩, u126, u127, u128, u129, u130, u131, u132, u133, u134, u135, u136, u137, u138, u139, u140, u141, u142, u143, u144, u145, u146, u147, u148, u149, u150, u151, u152, u153, u154, u155, u156, u157, u158, u159, u160, u161, u162, u163, u164, u165, u166, u167, u168, u169, u170, u171, u172, u173, u174, u175, u176, u177, u178, u179, u180, u181, u182, u183, u184, u185, u186, u187, u188, u189, u190, u191, u192, u193, u194, u195, u196, u197, u198, u199, u200, u201, u202, u203, u204, u205, u206, u207, u208, u209, u210, u211, u212, u213, u214, u215, u216, u217, u218, u219, u220, u221, u222, u223, u224, u225, u226, u227, u228, u229, u230, u231, u232, u233, u234, u235, u236, u237, u238, u239, u240, u241, u242, u243, u244, u245, u246, u247, u248, u249, u250, u251, u252, u253, u254, u255, u256, u257, u258, u259, u260, u261, u262, u263, u264, u265, u266, u267, u268, u269, u270, u271, u272, u273, u274, u275, u276, u277, u278, u279, u280, u281, u282, u283, u284, u285, u286, u287, u288, u289, u290, u291, u292, u293, u294, u295, u296, u297, u298, u299, u300, u301, u302, u303, u304, u305, u306, u307, u308, u309, u310, u311, u312, u313, u314, u315, u316, u317, u318, u319, u320, u321, u322, u323, u324, u325, u326, u327, u328, u329, u330, u331, u332, u333, u334, u335, u336, u337, u338, u339, u340, u341, u342, u343, u344, u345, u346, u347, u348, u349, u350, u351, u352, u353, u354, u355, u356, u357, u358, u359, u360, u361, u362, u363, u364, u365, u366, u367, u368, u369, u370, u371, u372, u373, u374, c375, c376], []⟩ W := by
 subst hk
 have q0 : W.cell? ⟨ib, 0, none⟩ = some (.string ⟨([106, 117, 109, 112] : List UInt8).toArray⟩) := cell_of_blk hX.ins 0
 have HNM := hidX hnm
 have hi0 : 0 ≤ imm := by have := (hX.okw.jump (by rw [hX.dec]; exact Or.inl rfl)).1; have h2 := hX.dec; rw [h2] at this; dsimp only at this; omega
 obtain ⟨m, rfl⟩ : ∃ m : Nat, imm = (m : Int) := ⟨imm.toNat, by omega⟩
 have q4 : W.cell? ⟨ib, 4, none⟩ = some (.int .i64 (m : Int)) := cell_of_blk hX.ins 4
 have hml : m ≤ I.words.length := by have := (hX.okw.jump (by rw [hX.dec]; exact Or.inl rfl)).2; have h2 := hX.dec; rw [h2] at this; dsimp only at this; omega
 have HX := hidX hX
 have HN := hidX hN
 have HE := hidX hE
 have hd8 := hX.d8
 have ha8 := hX.a8
 have hb8 := hX.b8
 have hd8' : (d : Int) < 8 := by omega
 have ha8' : (a : Int) < 8 := by omega
 have hb8' : (b : Int) < 8 := by omega
 have fr := free_of_blk (HX.out.mo.fr _ List.mem_cons_self).blk 21
 have rd : W.cell? ⟨fb, 21, none⟩ = some (.int .i64 ((f.pc + 1 : Nat) : Int)) := by rw [cell_of_blk (HX.out.mo.fr _ List.mem_cons_self).blk, List.getElem?_toArray, (enL_end (HX.out.mo.fr _ List.mem_cons_self).rl (HX.out.mo.fr _ List.mem_cons_self).al (HX.out.mo.fr _ List.mem_cons_self).nl).1]; rfl
 generalize ((f.pc + 1 : Nat) : Int) = vd at rd
 clear hX hN hE
 conv => arg 2; whnf
 go_wp2
 exact HN.out _ _ _ _ _ _ _ _ _ _ _ _ _ _ _ _ _ _ _ _ _ _ _ _ _ _ _ _ _ _ _ _ _ _ _ _ _ _ _ _ _ _ _ _ _ _ _ _ _ _ _ _ _ _ _ _ _ _ _ _ _ _ _ _ _ _ _ _ _ _ _ _ _ _ _ _ _ _ _ _ _ _ _ _ _ _ _ _ _ _ _ _ _ _ _ _ _ _ _ _ _ _ _ _ _ _ _ _ _ _ _ _ _ _ _ _ _ _ _ _ _ _ _ _ _ _ _ _ _ _ _ _ _ _ _ _ _ _ _ _ _ _ _ _ _ _ _ _ _ _ _ _ _ _ _ _ _ _ _ _ _ _ _ _ _ _ _ _ _ _ _ _ _ _ _ _ _ _ _ _ _ _ _ _ _ _ _ _ _ _ _ _ _ _ _ _ _ _ _ _ _ _ _ _ _ _ _ _ _ _ _ _ _ _ _ _ _ _ _ _ _ _ _ _ _ _ _ _ _ _ _ _ _ _ _ _ _ _ _ _ _ _ _ _ _ _ _ _ _ _ _ _ _ _ ⟨(-1), t, (⟨h, ((f.go (f.pc + 1)).go m), fb, sb⟩ :: S), _, g, nx, rfl, rfl, RunM.goes (f' := ((f.go (f.pc + 1)).go m)) HX.out.run HX.out.t8 HX.out.st (doM_jump rfl) rfl hml HX.out.run.ol HX.out.run.tk, (HX.out.mo.go m).below (by (repeat (first | exact Below.refl _ _ | assumption | refine Below.drew ?_ | refine bT ?_ _ | refine bS ?_ _ | refine bA ?_ _)))⟩
end Go.Proofs.YtbcpomdcmilpjaaDoor
namespace Go.Proofs.YtbcpomdcmilpjaaDoor
open Go.RowKit
set_option maxRecDepth 100000 in
set_option maxHeartbeats 4000000 in
theorem sw_if {w W : World} {I : Im} {adf : Option Addr} {cf : Nat} {wv : Value} {ticks most : Nat} {S0 : Sm} {n t : Nat} {h : Mf} {f : Fm} {fb sb ib : Nat} {S : List En} {gb ob ccap : Nat} {ov : Value} {g : Gm} {nx : List Int} {v : Nat} {op : List UInt8} {d a b : Nat} {imm ra : Int}
  (hX : Sit w W I adf cf wv ticks S0 n t h f fb sb ib S (.slice (some ⟨gb, ob, none⟩) (S.length + 1) ccap) ov g nx v op d a b imm ra) (hnm : n < most) (hk : op = mIf)
  {c0 c1 c2 c4 c6 c7 c8 c9 c15 c18 c21 c24 c25 c26 c27 c28 c29 c30 c31 c32 c33 c34 c35 c36 c37 c38 c39 c40 c41 c42 c43 c44 c45 c46 c47 c48 c49 c50 c51 c52 c53 c54 c55 c56 c57 c58 c59 c60 c61 c62 c63 c64 c65 c66 c67 c68 c69 c70 c71 c72 c73 c74 c75 c76 c77 c78 c79 c80 c81 c82 c83 c84 c85 c86 c87 c88 c89 c90 c91 c92 c93 c94 c95 c96 c97 c98 c99 c100 c101 c102 c103 c104 c105 c106 c107 c108 c109 c110 c111 c112 c113 c114 c115 c116 c117 c118 c119 c120 c121 c122 c123 c124 c375 c376 : Value} {u23 u126 u127 u128 u129 u130 u131 u132 u133 u134 u135 u136 u137 u138 u139 u140 u141 u142 u143 u144 u145 u146 u147 u148 u149 u150 u151 u152 u153 u154 u155 u156 u157 u158 u159 u160 u161 u162 u163 u164 u165 u166 u167 u168 u169 u170 u171 u172 u173 u174 u175 u176 u177 u178 u179 u180 u181 u182 u183 u184 u185 u186 u187 u188 u189 u190 u191 u192 u193 u194 u195 u196 u197 u198 u199 u200 u201 u202 u203 u204 u205 u206 u207 u208 u209 u210 u211 u212 u213 u214 u215 u216 u217 u218 u219 u220 u221 u222 u223 u224 u225 u226 u227 u228 u229 u230 u231 u232 u233 u234 u235 u236 u237 u238 u239 u240 u241 u242 u243 u244 u245 u246 u247 u248 u249 u250 u251 u252 u253 u254 u255 u256 u257 u258 u259 u260 u261 u262 u263 u264 u265 u266 u267 u268 u269 u270 u271 u272 u273 u274 u275 u276 u277 u278 u279 u280 u281 u282 u283 u284 u285 u286 u287 u288 u289 u290 u291 u292 u293 u294 u295 u296 u297 u298 u299 u300 u301 u302 u303 u304 u305 u306 u307 u308 u309 u310 u311 u312 u313 u314 u315 u316 u317 u318 u319 u320 u321 u322 u323 u324 u325 u326 u327 u328 u329 u330 u331 u332 u333 u334 u335 u336 u337 u338 u339 u340 u341 u342 u343 u344 u345 u346 u347 u348 u349 u350 u351 u352 u353 u354 u355 u356 u357 u358 u359 u360 u361 u362 u363 u364 u365 u366 u367 u368 u369 u370 u371 u372 u373 u374 : Value} {Q : Exit → Act → World → Prop}
  (hN : NextH w I (.slice adf I.funs.length cf) wv ticks S0 n most fb ib ra op c0 c1 c2 c4 c6 c7 c8 c9 c15 c18 c21 c24 c25 c26 c27 c28 c29 c30 c31 c32 c33 c34 c35 c36 c37 c38 c39 c40 c41 c42 c43 c44 c45 c46 c47 c48 c49 c50 c51 c52 c53 c54 c55 c56 c57 c58 c59 c60 c61 c62 c63 c64 c65 c66 c67 c68 c69 c70 c71 c72 c73 c74 c75 c76 c77 c78 c79 c80 c81 c82 c83 c84 c85 c86 c87 c88 c89 c90 c91 c92 c93 c94 c95 c96 c97 c98 c99 c100 c101 c102 c103 c104 c105 c106 c107 c108 c109 c110 c111 c112 c113 c114 c115 c116 c117 c118 c119 c120 c121 c122 c123 c124 c375 c376 Q) (hE : RetH w I (.slice adf I.funs.length cf) wv ticks S0 n most fb ib ra op c0 c1 c2 c4 c6 c7 c8 c9 c15 c18 c21 c24 c25 c26 c27 c28 c29 c30 c31 c32 c33 c34 c35 c36 c37 c38 c39 c40 c41 c42 c43 c44 c45 c46 c47 c48 c49 c50 c51 c52 c53 c54 c55 c56 c57 c58 c59 c60 c61 c62 c63 c64 c65 c66 c67 c68 c69 c70 c71 c72 c73 c74 c75 c76 c77 c78 c79 c80 c81 c82 c83 c84 c85 c86 c87 c88 c89 c90 c91 c92 c93 c94 c95 c96 c97 c98 c99 c100 c101 c102 c103 c104 c105 c106 c107 c108 c109 c110 c111 c112 c113 c114 c115 c116 c117 c118 c119 c120 c121 c122 c123 c124 c375 c376 Q) :
  Code.wp Tryd.prog swC Q ⟨#[c0, c1, c2, .int .i64 (ticks : Int), c4, .pointer (some ⟨w.heap.size, 0, none⟩), c6, c7, c8, c9, .pointer (some ⟨w.heap.size + 1, 0, none⟩), .pointer (some ⟨w.heap.size + 1 + 1, 0, none⟩), .slice (some ⟨gb, ob, none⟩) (S.length + 1) ccap, .int .i64 (-1), .pointer (some ⟨w.heap.size + 1 + 1 + 1, 0, none⟩), c15, .int .i64 (t : Int), .int .i64 (n : Int), c18, .pointer (some ⟨fb, 0, none⟩), .pointer (some ⟨ib, 0, none⟩), c21, .int .i64 ra, u23, c24, c25, c26, c27, c28, c29, c30, c31, c32, c33, c34, c35, c36, c37, c38, c39, c40, c41, c42, c43, c44, c45, c46, c47, c48, c49, c50, c51, c52, c53, c54, c55, c56, c57, c58, c59, c60, c61, c62, c63, c64, c65, c66, c67, c68, c69, c70, c71, c72, c73, c74, c75, c76, c77, c78, c79, c80, c81, c82, c83, c84, c85, c86, c87, c88, c89, c90, c91, c92, c93, c94, c95, c96, c97, c98, c99, c100, c101, c102, c103, c104, c105, c106, c107, c108, c109, c110, c111, c112, c113, c114, c115, c116, c117, c118, c119, c120, c121, c122, c123, c124, .string ⟨op.toArray⟩, u126, u127, u128, u129, u130, u131, u132, u133, u134, u135, u136, u137, u138, u139, u140, u141, u142, u143, u144, u145, u146, u147, u148, u149, u150, u151, u152, u153, u154, u155, u156, u157, u158, u159, u160, u161, u162, u163, u164, u165, u166, u167, u168, u169, u170, u171, u172, u173, u174, u175, u176, u177, u178, u179, u180, u181, u182, u183, u184, u185, u186, u187, u188, u189, u190, u191, u192, u193, u194, u195, u196, u197, u198, u199, u200, u201, u202, u203, u204, u205, u206, u207, u208, u209, u210, u211, u212, u213, u214, u215, u216, u217, u218, u219, u220, u221, u222, u223, u224, u225, u226, u227, u228, u229, u230, u231, u232, u233, u234, u235, u236, u237, u238, u239, u240, u241, u242, u243, u244, u245, u246, u247, u248, u249, u250, u251, u252, u253, u254, u255, u256, u257, u258, u259, u260, u261, u262, u263, u264, u265, u266, u267, u268, u269, u270, u271, u272, u273, u274, u275, u276, u277, u278, u279, u280, u281, u282, u283, u284, u285, u286, u287, u288, u289, u290, u291, u292, u293, u294, u295, u296, u297, u298, u299, u300, u301, u302, u303, u304, u305, u306, u307, u308, u309, u310, u311, u312, u313, u314, u315, u316, u317, u318, u319, u320, u321, u322, u323, u324, u325, u326, u327, u328, u329, u330, u331, u332, u333, u334, u335, u336, u337, u338, u339, u340, u341, u342, u343, u344, u345, u346, u347, u348, u349, u350, u351, u352, u353, u354, u355, u356, u357, u358, u359, u360, u361, u362, u363, u364, u365, u366, u367, u368, u369, u370, u371, u372, u373, u374, c375, c376], []⟩ W := by
 subst hk
 have q0 : W.cell? ⟨ib, 0, none⟩ = some (.string ⟨([105, 102] : List UInt8).toArray⟩) := cell_of_blk hX.ins 0
 have HNM := hidX hnm
 have hi0 : 0 ≤ imm := by have := (hX.okw.jump (by rw [hX.dec]; exact Or.inr rfl)).1; have h2 := hX.dec; rw [h2] at this; dsimp only at this; omega
 obtain ⟨m, rfl⟩ : ∃ m : Nat, imm = (m : Int) := ⟨imm.toNat, by omega⟩
 have q4 : W.cell? ⟨ib, 4, none⟩ = some (.int .i64 (m : Int)) := cell_of_blk hX.ins 4
 have hml : m ≤ I.words.length := by have := (hX.okw.jump (by rw [hX.dec]; exact Or.inr rfl)).2; have h2 := hX.dec; rw [h2] at this; dsimp only at this; omega
 have HX := hidX hX
 have HN := hidX hN
 have HE := hidX hE
 have hd8 := hX.d8
 have ha8 := hX.a8
 have hb8 := hX.b8
 have hd8' : (d : Int) < 8 := by omega
 have ha8' : (a : Int) < 8 := by omega
 have hb8' : (b : Int) < 8 := by omega
 by_cases hz : ra = 0
 ·have HZ := hidX (hX.ra.symm.trans hz)
  have hz2 : (ra == 0) = true := by simp [hz]
  clear hz
  clear hX hN hE
  conv => arg 2; whnf
  go_wp2
  exact HN.out _ _ _ _ _ _ _ _ _ _ _ _ _ _ _ _ _ _ _ _ _ _ _ _ _ _ _ _ _ _ _ _ _ _ _ _ _ _ _ _ _ _ _ _ _ _ _ _ _ _ _ _ _ _ _ _ _ _ _ _ _ _ _ _ _ _ _ _ _ _ _ _ _ _ _ _ _ _ _ _ _ _ _ _ _ _ _ _ _ _ _ _ _ _ _ _ _ _ _ _ _ _ _ _ _ _ _ _ _ _ _ _ _ _ _ _ _ _ _ _ _ _ _ _ _ _ _ _ _ _ _ _ _ _ _ _ _ _ _ _ _ _ _ _ _ _ _ _ _ _ _ _ _ _ _ _ _ _ _ _ _ _ _ _ _ _ _ _ _ _ _ _ _ _ _ _ _ _ _ _ _ _ _ _ _ _ _ _ _ _ _ _ _ _ _ _ _ _ _ _ _ _ _ _ _ _ _ _ _ _ _ _ _ _ _ _ _ _ _ _ _ _ _ _ _ _ _ _ _ _ _ _ _ _ _ _ _ _ _ _ _ _ _ _ _ _ _ _ _ _ _ _ _ _ ⟨(-1), t, (⟨h, (f.go (f.pc + 1)), fb, sb⟩ :: S), _, g, nx, rfl, rfl, RunM.goes (f' := (f.go (f.pc + 1))) HX.out.run HX.out.t8 HX.out.st ((doM_if rfl).trans (by rw [if_pos (show reg (f.go (f.pc + 1)) (a : Int) = 0 from HZ.out)])) rfl (by show f.pc + 1 ≤ _; exact HX.out.pcl) HX.out.run.ol HX.out.run.tk, HX.out.mo.below (by (repeat (first | exact Below.refl _ _ | assumption | refine Below.drew ?_ | refine bT ?_ _ | refine bS ?_ _ | refine bA ?_ _)))⟩
 ·have HZ := hidX (show ¬ f.regs.getD a 0 = 0 from fun e => hz (hX.ra.trans e))
  have hz2 : (ra == 0) = false := by simpa using hz
  have fr := free_of_blk (HX.out.mo.fr _ List.mem_cons_self).blk 21
  have rd : W.cell? ⟨fb, 21, none⟩ = some (.int .i64 ((f.pc + 1 : Nat) : Int)) := by rw [cell_of_blk (HX.out.mo.fr _ List.mem_cons_self).blk, List.getElem?_toArray, (enL_end (HX.out.mo.fr _ List.mem_cons_self).rl (HX.out.mo.fr _ List.mem_cons_self).al (HX.out.mo.fr _ List.mem_cons_self).nl).1]; rfl
  generalize ((f.pc + 1 : Nat) : Int) = vd at rd
  clear hX hN hE
  conv => arg 2; whnf
  go_wp2
  exact HN.out _ _ _ _ _ _ _ _ _ _ _ _ _ _ _ _ _ _ _ _ _ _ _ _ _ _ _ _ _ _ _ _ _ _ _ _ _ _ _ _ _ _ _ _ _ _ _ _ _ _ _ _ _ _ _ _ _ _ _ _ _ _ _ _ _ _ _ _ _ _ _ _ _ _ _ _ _ _ _ _ _ _ _ _ _ _ _ _ _ _ _ _ _ _ _ _ _ _ _ _ _ _ _ _ _ _ _ _ _ _ _ _ _ _ _ _ _ _ _ _ _ _ _ _ _ _ _ _ _ _ _ _ _ _ _ _ _ _ _ _ _ _ _ _ _ _ _ _ _ _ _ _ _ _ _ _ _ _ _ _ _ _ _ _ _ _ _ _ _ _ _ _ _ _ _ _ _ _ _ _ _ _ _ _ _ _ _ _ _ _ _ _ _ _ _ _ _ _ _ _ _ _ _ _ _ _ _ _ _ _ _ _ _ _ _ _ _ _ _ _ _ _ _ _ _ _ _ _ _ _ _ _ _ _ _ _ _ _ _ _ _ _ _ _ _ _ _ _ _ _ _ _ _ _ ⟨(-1), t, (⟨h, ((f.go (f.pc + 1)).go m), fb, sb⟩ :: S), _, g, nx, rfl, rfl, RunM.goes (f' := ((f.go (f.pc + 1)).go m)) HX.out.run HX.out.t8 HX.out.st ((doM_if rfl).trans (by rw [if_neg (show ¬ reg (f.go (f.pc + 1)) (a : Int) = 0 from HZ.out)]; rfl)) rfl hml HX.out.run.ol HX.out.run.tk, (HX.out.mo.go m).below (by (repeat (first | exact Below.refl _ _ | assumption | refine Below.drew ?_ | refine bT ?_ _ | refine bS ?_ _ | refine bA ?_ _)))⟩
end Go.Proofs.YtbcpomdcmilpjaaDoor
namespace Go.Proofs.YtbcpomdcmilpjaaDoor
open Go.RowKit
set_option maxRecDepth 100000 in
set_option maxHeartbeats 4000000 in
theorem sw_tick {w W : World} {I : Im} {adf : Option Addr} {cf : Nat} {wv : Value} {ticks most : Nat} {S0 : Sm} {n t : Nat} {h : Mf} {f : Fm} {fb sb ib : Nat} {S : List En} {gb ob ccap : Nat} {ov : Value} {g : Gm} {nx : List Int} {v : Nat} {op : List UInt8} {d a b : Nat} {imm ra : Int}
  (hX : Sit w W I adf cf wv ticks S0 n t h f fb sb ib S (.slice (some ⟨gb, ob, none⟩) (S.length + 1) ccap) ov g nx v op d a b imm ra) (hnm : n < most) (hk : op = mTick)
  {c0 c1 c2 c4 c6 c7 c8 c9 c15 c18 c21 c24 c25 c26 c27 c28 c29 c30 c31 c32 c33 c34 c35 c36 c37 c38 c39 c40 c41 c42 c43 c44 c45 c46 c47 c48 c49 c50 c51 c52 c53 c54 c55 c56 c57 c58 c59 c60 c61 c62 c63 c64 c65 c66 c67 c68 c69 c70 c71 c72 c73 c74 c75 c76 c77 c78 c79 c80 c81 c82 c83 c84 c85 c86 c87 c88 c89 c90 c91 c92 c93 c94 c95 c96 c97 c98 c99 c100 c101 c102 c103 c104 c105 c106 c107 c108 c109 c110 c111 c112 c113 c114 c115 c116 c117 c118 c119 c120 c121 c122 c123 c124 c375 c376 : Value} {u23 u126 u127 u128 u129 u130 u131 u132 u133 u134 u135 u136 u137 u138 u139 u140 u141 u142 u143 u144 u145 u146 u147 u148 u149 u150 u151 u152 u153 u154 u155 u156 u157 u158 u159 u160 u161 u162 u163 u164 u165 u166 u167 u168 u169 u170 u171 u172 u173 u174 u175 u176 u177 u178 u179 u180 u181 u182 u183 u184 u185 u186 u187 u188 u189 u190 u191 u192 u193 u194 u195 u196 u197 u198 u199 u200 u201 u202 u203 u204 u205 u206 u207 u208 u209 u210 u211 u212 u213 u214 u215 u216 u217 u218 u219 u220 u221 u222 u223 u224 u225 u226 u227 u228 u229 u230 u231 u232 u233 u234 u235 u236 u237 u238 u239 u240 u241 u242 u243 u244 u245 u246 u247 u248 u249 u250 u251 u252 u253 u254 u255 u256 u257 u258 u259 u260 u261 u262 u263 u264 u265 u266 u267 u268 u269 u270 u271 u272 u273 u274 u275 u276 u277 u278 u279 u280 u281 u282 u283 u284 u285 u286 u287 u288 u289 u290 u291 u292 u293 u294 u295 u296 u297 u298 u299 u300 u301 u302 u303 u304 u305 u306 u307 u308 u309 u310 u311 u312 u313 u314 u315 u316 u317 u318 u319 u320 u321 u322 u323 u324 u325 u326 u327 u328 u329 u330 u331 u332 u333 u334 u335 u336 u337 u338 u339 u340 u341 u342 u343 u344 u345 u346 u347 u348 u349 u350 u351 u352 u353 u354 u355 u356 u357 u358 u359 u360 u361 u362 u363 u364 u365 u366 u367 u368 u369 u370 u371 u372 u373 u374 : Value} {Q : Exit → Act → World → Prop}
  (hN : NextH w I (.slice adf I.funs.length cf) wv ticks S0 n most fb ib ra op c0 c1 c2 c4 c6 c7 c8 c9 c15 c18 c21 c24 c25 c26 c27 c28 c29 c30 c31 c32 c33 c34 c35 c36 c37 c38 c39 c40 c41 c42 c43 c44 c45 c46 c47 c48 c49 c50 c51 c52 c53 c54 c55 c56 c57 c58 c59 c60 c61 c62 c63 c64 c65 c66 c67 c68 c69 c70 c71 c72 c73 c74 c75 c76 c77 c78 c79 c80 c81 c82 c83 c84 c85 c86 c87 c88 c89 c90 c91 c92 c93 c94 c95 c96 c97 c98 c99 c100 c101 c102 c103 c104 c105 c106 c107 c108 c109 c110 c111 c112 c113 c114 c115 c116 c117 c118 c119 c120 c121 c122 c123 c124 c375 c376 Q) (hE : RetH w I (.slice adf I.funs.length cf) wv ticks S0 n most fb ib ra op c0 c1 c2 c4 c6 c7 c8 c9 c15 c18 c21 c24 c25 c26 c27 c28 c29 c30 c31 c32 c33 c34 c35 c36 c37 c38 c39 c40 c41 c42 c43 c44 c45 c46 c47 c48 c49 c50 c51 c52 c53 c54 c55 c56 c57 c58 c59 c60 c61 c62 c63 c64 c65 c66 c67 c68 c69 c70 c71 c72 c73 c74 c75 c76 c77 c78 c79 c80 c81 c82 c83 c84 c85 c86 c87 c88 c89 c90 c91 c92 c93 c94 c95 c96 c97 c98 c99 c100 c101 c102 c103 c104 c105 c106 c107 c108 c109 c110 c111 c112 c113 c114 c115 c116 c117 c118 c119 c120 c121 c122 c123 c124 c375 c376 Q) :
  Code.wp Tryd.prog swC Q ⟨#[c0, c1, c2, .int .i64 (ticks : Int), c4, .pointer (some ⟨w.heap.size, 0, none⟩), c6, c7, c8, c9, .pointer (some ⟨w.heap.size + 1, 0, none⟩), .pointer (some ⟨w.heap.size + 1 + 1, 0, none⟩), .slice (some ⟨gb, ob, none⟩) (S.length + 1) ccap, .int .i64 (-1), .pointer (some ⟨w.heap.size + 1 + 1 + 1, 0, none⟩), c15, .int .i64 (t : Int), .int .i64 (n : Int), c18, .pointer (some ⟨fb, 0, none⟩), .pointer (some ⟨ib, 0, none⟩), c21, .int .i64 ra, u23, c24, c25, c26, c27, c28, c29, c30, c31, c32, c33, c34, c35, c36, c37, c38, c39, c40, c41, c42, c43, c44, c45, c46, c47, c48, c49, c50, c51, c52, c53, c54, c55, c56, c57, c58, c59, c60, c61, c62, c63, c64, c65, c66, c67, c68, c69, c70, c71, c72, c73, c74, c75, c76, c77, c78, c79, c80, c81, c82, c83, c84, c85, c86, c87, c88, c89, c90, c91, c92, c93, c94, c95, c96, c97, c98, c99, c100, c101, c102, c103, c104, c105, c106, c107, c108, c109, c110, c111, c112, c113, c114, c115, c116, c117, c118, c119, c120, c121, c122, c123, c124, .string ⟨op.toArray⟩, u126, u127, u128, u129, u130, u131, u132, u133, u134, u135, u136, u137, u138, u139, u140, u141, u142, u143, u144, u145, u146, u147, u148, u149, u150, u151, u152, u153, u154, u155, u156, u157, u158, u159, u160, u161, u162, u163, u164, u165, u166, u167, u168, u169, u170, u171, u172, u173, u174, u175, u176, u177, u178, u179, u180, u181, u182, u183, u184, u185, u186, u187, u188, u189, u190, u191, u192, u193, u194, u195, u196, u197, u198, u199, u200, u201, u202, u203, u204, u205, u206, u207, u208, u209, u210, u211, u212, u213, u214, u215, u216, u217, u218, u219, u220, u221, u222, u223, u224, u225, u226, u227, u228, u229, u230, u231, u232, u233, u234, u235, u236, u237, u238, u239, u240, u241, u242, u243, u244, u245, u246, u247, u248, u249, u250, u251, u252, u253, u254, u255, u256, u257, u258, u259, u260, u261, u262, u263, u264, u265, u266, u267, u268, u269, u270, u271, u272, u273, u274, u275, u276, u277, u278, u279, u280, u281, u282, u283, u284, u285, u286, u287, u288, u289, u290, u291, u292, u293, u294, u295, u296, u297, u298, u299, u300, u301, u302, u303, u304, u305, u306, u307, u308, u309, u310, u311, u312, u313, u314, u315, u316, u317, u318, u319, u320, u321, u322, u323, u324, u325, u326, u327, u328, u329, u330, u331, u332, u333, u334, u335, u336, u337, u338, u339, u340, u341, u342, u343, u344, u345, u346, u347, u348, u349, u350, u351, u352, u353, u354, u355, u356, u357, u358, u359, u360, u361, u362, u363, u364, u365, u366, u367, u368, u369, u370, u371, u372, u373, u374, c375, c376], []⟩ W := by
 subst hk
 have q0 : W.cell? ⟨ib, 0, none⟩ = some (.string ⟨([116, 105, 99, 107] : List UInt8).toArray⟩) := cell_of_blk hX.ins 0
 have HNM := hidX hnm
 have HX := hidX hX
 have HN := hidX hN
 have HE := hidX hE
 have hd8 := hX.d8
 have ha8 := hX.a8
 have hb8 := hX.b8
 have hd8' : (d : Int) < 8 := by omega
 have ha8' : (a : Int) < 8 := by omega
 have hb8' : (b : Int) < 8 := by omega
 obtain ⟨oad, ocap, rfl⟩ := own_is hX.mo.out
 have o0 : W.cell? ⟨w.heap.size + 1 + 1, 0, none⟩ = some (.string ⟨#[]⟩) := cell_of_blk hX.mo.ob 0
 have o1 : W.cell? ⟨w.heap.size + 1 + 1, 1, none⟩ = some (.int .i64 0) := cell_of_blk hX.mo.ob 1
 have o2 : W.cell? ⟨w.heap.size + 1 + 1, 2, none⟩ = some (.slice oad g.out.length ocap) := cell_of_blk hX.mo.ob 2
 have o3 : W.cell? ⟨w.heap.size + 1 + 1, 3, none⟩ = some (.int .i64 (g.ticks : Int)) := cell_of_blk hX.mo.ob 3
 have fo0 := free_of_blk hX.mo.ob 0
 have fo1 := free_of_blk hX.mo.ob 1
 have r0 : W.cell? ⟨w.heap.size + 1, 0, none⟩ = some (.string ⟨#[]⟩) := cell_of_blk hX.mo.res 0
 have r1 : W.cell? ⟨w.heap.size + 1, 1, none⟩ = some (.int .i64 0) := cell_of_blk hX.mo.res 1
 have r2 : W.cell? ⟨w.heap.size + 1, 2, none⟩ = some (.slice none 0 0) := cell_of_blk hX.mo.res 2
 have r3 : W.cell? ⟨w.heap.size + 1, 3, none⟩ = some (.int .i64 0) := cell_of_blk hX.mo.res 3
 have fr0 := free_of_blk hX.mo.res 0
 have fr1 := free_of_blk hX.mo.res 1
 have fr2 := free_of_blk hX.mo.res 2
 have fr3 := free_of_blk hX.mo.res 3
 by_cases ht : ticks ≤ g.ticks
 ·have ht' : (ticks : Int) ≤ (g.ticks : Int) := by omega
  have HST := hidX (doM_tick (I := I) (m := ticks) (g := g) (f := f.go (f.pc + 1)) (fs := S.map En.f) (i := ⟨mTick, (d : Int), (a : Int), (b : Int), imm⟩) rfl |>.trans (if_pos ht))
  clear ht
  clear hX hN hE
  conv => arg 2; whnf
  go_wp2
  exact HE.out _ _ _ _ _ _ _ _ _ _ _ _ _ _ _ _ _ _ _ _ _ _ _ _ _ _ _ _ _ _ _ _ _ _ _ _ _ _ _ _ _ _ _ _ _ _ _ _ _ _ _ _ _ _ _ _ _ _ _ _ _ _ _ _ _ _ _ _ _ _ _ _ _ _ _ _ _ _ _ _ _ _ _ _ _ _ _ _ _ _ _ _ _ _ _ _ _ _ _ _ _ _ _ _ _ _ _ _ _ _ _ _ _ _ _ _ _ _ _ _ _ _ _ _ _ _ _ _ _ _ _ _ _ _ _ _ _ _ _ _ _ _ _ _ _ _ _ _ _ _ _ _ _ _ _ _ _ _ _ _ _ _ _ _ _ _ _ _ _ _ _ _ _ _ _ _ _ _ _ _ _ _ _ _ _ _ _ _ _ _ _ _ _ _ _ _ _ _ _ _ _ _ _ _ _ _ _ _ _ _ _ _ _ _ _ _ _ _ _ _ _ _ _ _ _ _ _ _ _ _ _ _ _ _ _ _ _ _ _ _ _ _ _ _ _ _ _ _ _ _ _ _ _ _ ⟨hTired, 0, _, _, HX.out.mo.fin (Y := _) (by (repeat (first | exact But.refl _ _ | assumption | refine But.drew ?_ | refine But.drewN ?_ _ | refine But.set ?_ _ _ | refine But.setNew ?_ _ _ (by first | (simp; done) | (simp; omega)) _ | refine But.alloc ?_ _))) hTired 0, HX.out.run.ol, endO_of (HX.out.st.trans HST.out) hnm⟩
 ·have ht' : ¬ (ticks : Int) ≤ (g.ticks : Int) := by omega
  have HST := hidX (hX.st.trans ((doM_tick rfl).trans (if_neg ht)))
  have HJ := hidX (hX.mo.tick (g.ticks + 1))
  rw [show ((g.ticks + 1 : Nat) : Int) = (g.ticks : Int) + 1 from by omega] at HJ
  have hgt : g.ticks + 1 ≤ 1000000 := by have := hX.tkl; omega
  have hg5 : (g.ticks : Int) ≤ 5000 := by have := hX.tkl; omega
  have fo3 := free_of_blk hX.mo.ob 3
  clear ht
  clear hX hN hE
  conv => arg 2; whnf
  go_wp2
  exact HN.out _ _ _ _ _ _ _ _ _ _ _ _ _ _ _ _ _ _ _ _ _ _ _ _ _ _ _ _ _ _ _ _ _ _ _ _ _ _ _ _ _ _ _ _ _ _ _ _ _ _ _ _ _ _ _ _ _ _ _ _ _ _ _ _ _ _ _ _ _ _ _ _ _ _ _ _ _ _ _ _ _ _ _ _ _ _ _ _ _ _ _ _ _ _ _ _ _ _ _ _ _ _ _ _ _ _ _ _ _ _ _ _ _ _ _ _ _ _ _ _ _ _ _ _ _ _ _ _ _ _ _ _ _ _ _ _ _ _ _ _ _ _ _ _ _ _ _ _ _ _ _ _ _ _ _ _ _ _ _ _ _ _ _ _ _ _ _ _ _ _ _ _ _ _ _ _ _ _ _ _ _ _ _ _ _ _ _ _ _ _ _ _ _ _ _ _ _ _ _ _ _ _ _ _ _ _ _ _ _ _ _ _ _ _ _ _ _ _ _ _ _ _ _ _ _ _ _ _ _ _ _ _ _ _ _ _ _ _ _ _ _ _ _ _ _ _ _ _ _ _ _ _ _ _ ⟨(-1), t, (⟨h, (f.go (f.pc + 1)), fb, sb⟩ :: S), _, ⟨g.out, g.ticks + 1⟩, nx, rfl, rfl, RunM.goes (f' := (f.go (f.pc + 1))) HX.out.run HX.out.t8 HST.out rfl rfl (by show f.pc + 1 ≤ _; exact HX.out.pcl) HX.out.run.ol hgt, HJ.out.below (by (repeat (first | exact Below.refl _ _ | assumption | refine Below.drew ?_ | refine bT ?_ _ | refine bS ?_ _ | refine bA ?_ _)))⟩
end Go.Proofs.YtbcpomdcmilpjaaDoor
namespace Go.Proofs.YtbcpomdcmilpjaaDoor
open Go.RowKit
set_option maxRecDepth 100000 in
set_option maxHeartbeats 4000000 in
theorem sw_print {w W : World} {I : Im} {adf : Option Addr} {cf : Nat} {wv : Value} {ticks most : Nat} {S0 : Sm} {n t : Nat} {h : Mf} {f : Fm} {fb sb ib : Nat} {S : List En} {gb ob ccap : Nat} {ov : Value} {g : Gm} {nx : List Int} {v : Nat} {op : List UInt8} {d a b : Nat} {imm ra : Int}
  (hX : Sit w W I adf cf wv ticks S0 n t h f fb sb ib S (.slice (some ⟨gb, ob, none⟩) (S.length + 1) ccap) ov g nx v op d a b imm ra) (hnm : n < most) (hk : op = mPrint)
  {c0 c1 c2 c4 c6 c7 c8 c9 c15 c18 c21 c24 c25 c26 c27 c28 c29 c30 c31 c32 c33 c34 c35 c36 c37 c38 c39 c40 c41 c42 c43 c44 c45 c46 c47 c48 c49 c50 c51 c52 c53 c54 c55 c56 c57 c58 c59 c60 c61 c62 c63 c64 c65 c66 c67 c68 c69 c70 c71 c72 c73 c74 c75 c76 c77 c78 c79 c80 c81 c82 c83 c84 c85 c86 c87 c88 c89 c90 c91 c92 c93 c94 c95 c96 c97 c98 c99 c100 c101 c102 c103 c104 c105 c106 c107 c108 c109 c110 c111 c112 c113 c114 c115 c116 c117 c118 c119 c120 c121 c122 c123 c124 c375 c376 : Value} {u23 u126 u127 u128 u129 u130 u131 u132 u133 u134 u135 u136 u137 u138 u139 u140 u141 u142 u143 u144 u145 u146 u147 u148 u149 u150 u151 u152 u153 u154 u155 u156 u157 u158 u159 u160 u161 u162 u163 u164 u165 u166 u167 u168 u169 u170 u171 u172 u173 u174 u175 u176 u177 u178 u179 u180 u181 u182 u183 u184 u185 u186 u187 u188 u189 u190 u191 u192 u193 u194 u195 u196 u197 u198 u199 u200 u201 u202 u203 u204 u205 u206 u207 u208 u209 u210 u211 u212 u213 u214 u215 u216 u217 u218 u219 u220 u221 u222 u223 u224 u225 u226 u227 u228 u229 u230 u231 u232 u233 u234 u235 u236 u237 u238 u239 u240 u241 u242 u243 u244 u245 u246 u247 u248 u249 u250 u251 u252 u253 u254 u255 u256 u257 u258 u259 u260 u261 u262 u263 u264 u265 u266 u267 u268 u269 u270 u271 u272 u273 u274 u275 u276 u277 u278 u279 u280 u281 u282 u283 u284 u285 u286 u287 u288 u289 u290 u291 u292 u293 u294 u295 u296 u297 u298 u299 u300 u301 u302 u303 u304 u305 u306 u307 u308 u309 u310 u311 u312 u313 u314 u315 u316 u317 u318 u319 u320 u321 u322 u323 u324 u325 u326 u327 u328 u329 u330 u331 u332 u333 u334 u335 u336 u337 u338 u339 u340 u341 u342 u343 u344 u345 u346 u347 u348 u349 u350 u351 u352 u353 u354 u355 u356 u357 u358 u359 u360 u361 u362 u363 u364 u365 u366 u367 u368 u369 u370 u371 u372 u373 u374 : Value} {Q : Exit → Act → World → Prop}
  (hN : NextH w I (.slice adf I.funs.length cf) wv ticks S0 n most fb ib ra op c0 c1 c2 c4 c6 c7 c8 c9 c15 c18 c21 c24 c25 c26 c27 c28 c29 c30 c31 c32 c33 c34 c35 c36 c37 c38 c39 c40 c41 c42 c43 c44 c45 c46 c47 c48 c49 c50 c51 c52 c53 c54 c55 c56 c57 c58 c59 c60 c61 c62 c63 c64 c65 c66 c67 c68 c69 c70 c71 c72 c73 c74 c75 c76 c77 c78 c79 c80 c81 c82 c83 c84 c85 c86 c87 c88 c89 c90 c91 c92 c93 c94 c95 c96 c97 c98 c99 c100 c101 c102 c103 c104 c105 c106 c107 c108 c109 c110 c111 c112 c113 c114 c115 c116 c117 c118 c119 c120 c121 c122 c123 c124 c375 c376 Q) (hE : RetH w I (.slice adf I.funs.length cf) wv ticks S0 n most fb ib ra op c0 c1 c2 c4 c6 c7 c8 c9 c15 c18 c21 c24 c25 c26 c27 c28 c29 c30 c31 c32 c33 c34 c35 c36 c37 c38 c39 c40 c41 c42 c43 c44 c45 c46 c47 c48 c49 c50 c51 c52 c53 c54 c55 c56 c57 c58 c59 c60 c61 c62 c63 c64 c65 c66 c67 c68 c69 c70 c71 c72 c73 c74 c75 c76 c77 c78 c79 c80 c81 c82 c83 c84 c85 c86 c87 c88 c89 c90 c91 c92 c93 c94 c95 c96 c97 c98 c99 c100 c101 c102 c103 c104 c105 c106 c107 c108 c109 c110 c111 c112 c113 c114 c115 c116 c117 c118 c119 c120 c121 c122 c123 c124 c375 c376 Q) :
  Code.wp Tryd.prog swC Q ⟨#[c0, c1, c2, .int .i64 (ticks : Int), c4, .pointer (some ⟨w.heap.size, 0, none⟩), c6, c7, c8, c9, .pointer (some ⟨w.heap.size + 1, 0, none⟩), .pointer (some ⟨w.heap.size + 1 + 1, 0, none⟩), .slice (some ⟨gb, ob, none⟩) (S.length + 1) ccap, .int .i64 (-1), .pointer (some ⟨w.heap.size + 1 + 1 + 1, 0, none⟩), c15, .int .i64 (t : Int), .int .i64 (n : Int), c18, .pointer (some ⟨fb, 0, none⟩), .pointer (some ⟨ib, 0, none⟩), c21, .int .i64 ra, u23, c24, c25, c26, c27, c28, c29, c30, c31, c32, c33, c34, c35, c36, c37, c38, c39, c40, c41, c42, c43, c44, c45, c46, c47, c48, c49, c50, c51, c52, c53, c54, c55, c56, c57, c58, c59, c60, c61, c62, c63, c64, c65, c66, c67, c68, c69, c70, c71, c72, c73, c74, c75, c76, c77, c78, c79, c80, c81, c82, c83, c84, c85, c86, c87, c88, c89, c90, c91, c92, c93, c94, c95, c96, c97, c98, c99, c100, c101, c102, c103, c104, c105, c106, c107, c108, c109, c110, c111, c112, c113, c114, c115, c116, c117, c118, c119, c120, c121, c122, c123, c124, .string ⟨op.toArray⟩, u126, u127, u128, u129, u130, u131, u132, u133, u134, u135, u136, u137, u138, u139, u140, u141, u142, u143, u144, u145, u146, u147, u148, u149, u150, u151, u152, u153, u154, u155, u156, u157, u158, u159, u160, u161, u162, u163, u164, u165, u166, u167, u168, u169, u170, u171, u172, u173, u174, u175, u176, u177, u178, u179, u180, u181, u182, u183, u184, u185, u186, u187, u188, u189, u190, u191, u192, u193, u194, u195, u196, u197, u198, u199, u200, u201, u202, u203, u204, u205, u206, u207, u208, u209, u210, u211, u212, u213, u214, u215, u216, u217, u218, u219, u220, u221, u222, u223, u224, u225, u226, u227, u228, u229, u230, u231, u232, u233, u234, u235, u236, u237, u238, u239, u240, u241, u242, u243, u244, u245, u246, u247, u248, u249, u250, u251, u252, u253, u254, u255, u256, u257, u258, u259, u260, u261, u262, u263, u264, u265, u266, u267, u268, u269, u270, u271, u272, u273, u274, u275, u276, u277, u278, u279, u280, u281, u282, u283, u284, u285, u286, u287, u288, u289, u290, u291, u292, u293, u294, u295, u296, u297, u298, u299, u300, u301, u302, u303, u304, u305, u306, u307, u308, u309, u310, u311, u312, u313, u314, u315, u316, u317, u318, u319, u320, u321, u322, u323, u324, u325, u326, u327, u328, u329, u330, u331, u332, u333, u334, u335, u336, u337, u338, u339, u340, u341, u342, u343, u344, u345, u346, u347, u348, u349, u350, u351, u352, u353, u354, u355, u356, u357, u358, u359, u360, u361, u362, u363, u364, u365, u366, u367, u368, u369, u370, u371, u372, u373, u374, c375, c376], []⟩ W := by
 subst hk
 have q0 : W.cell? ⟨ib, 0, none⟩ = some (.string ⟨([112, 114, 105, 110, 116] : List UInt8).toArray⟩) := cell_of_blk hX.ins 0
 have HNM := hidX hnm
 have HX := hidX hX
 have HN := hidX hN
 have HE := hidX hE
 have hd8 := hX.d8
 have ha8 := hX.a8
 have hb8 := hX.b8
 have hd8' : (d : Int) < 8 := by omega
 have ha8' : (a : Int) < 8 := by omega
 have hb8' : (b : Int) < 8 := by omega
 obtain ⟨oad, ocap, rfl⟩ := own_is hX.mo.out
 have o0 : W.cell? ⟨w.heap.size + 1 + 1, 0, none⟩ = some (.string ⟨#[]⟩) := cell_of_blk hX.mo.ob 0
 have o1 : W.cell? ⟨w.heap.size + 1 + 1, 1, none⟩ = some (.int .i64 0) := cell_of_blk hX.mo.ob 1
 have o2 : W.cell? ⟨w.heap.size + 1 + 1, 2, none⟩ = some (.slice oad g.out.length ocap) := cell_of_blk hX.mo.ob 2
 have o3 : W.cell? ⟨w.heap.size + 1 + 1, 3, none⟩ = some (.int .i64 (g.ticks : Int)) := cell_of_blk hX.mo.ob 3
 have fo0 := free_of_blk hX.mo.ob 0
 have fo1 := free_of_blk hX.mo.ob 1
 have r0 : W.cell? ⟨w.heap.size + 1, 0, none⟩ = some (.string ⟨#[]⟩) := cell_of_blk hX.mo.res 0
 have r1 : W.cell? ⟨w.heap.size + 1, 1, none⟩ = some (.int .i64 0) := cell_of_blk hX.mo.res 1
 have r2 : W.cell? ⟨w.heap.size + 1, 2, none⟩ = some (.slice none 0 0) := cell_of_blk hX.mo.res 2
 have r3 : W.cell? ⟨w.heap.size + 1, 3, none⟩ = some (.int .i64 0) := cell_of_blk hX.mo.res 3
 have fr0 := free_of_blk hX.mo.res 0
 have fr1 := free_of_blk hX.mo.res 1
 have fr2 := free_of_blk hX.mo.res 2
 have fr3 := free_of_blk hX.mo.res 3
 have ho : g.out.length ≤ 1000 := hX.run.ol
 have ho' : (g.out.length : Int) ≤ 1000 := by omega
 by_cases ht : 1000 ≤ g.out.length
 ·have ht' : (1000 : Int) ≤ (g.out.length : Int) := by omega
  have HST := hidX (doM_print (I := I) (m := ticks) (g := g) (f := f.go (f.pc + 1)) (fs := S.map En.f) (i := ⟨mPrint, (d : Int), (a : Int), (b : Int), imm⟩) rfl |>.trans (if_pos ht))
  clear ht
  clear hX hN hE
  conv => arg 2; whnf
  go_wp2
  exact HE.out _ _ _ _ _ _ _ _ _ _ _ _ _ _ _ _ _ _ _ _ _ _ _ _ _ _ _ _ _ _ _ _ _ _ _ _ _ _ _ _ _ _ _ _ _ _ _ _ _ _ _ _ _ _ _ _ _ _ _ _ _ _ _ _ _ _ _ _ _ _ _ _ _ _ _ _ _ _ _ _ _ _ _ _ _ _ _ _ _ _ _ _ _ _ _ _ _ _ _ _ _ _ _ _ _ _ _ _ _ _ _ _ _ _ _ _ _ _ _ _ _ _ _ _ _ _ _ _ _ _ _ _ _ _ _ _ _ _ _ _ _ _ _ _ _ _ _ _ _ _ _ _ _ _ _ _ _ _ _ _ _ _ _ _ _ _ _ _ _ _ _ _ _ _ _ _ _ _ _ _ _ _ _ _ _ _ _ _ _ _ _ _ _ _ _ _ _ _ _ _ _ _ _ _ _ _ _ _ _ _ _ _ _ _ _ _ _ _ _ _ _ _ _ _ _ _ _ _ _ _ _ _ _ _ _ _ _ _ _ _ _ _ _ _ _ _ _ _ _ _ _ _ _ _ ⟨hLoud, 0, _, _, HX.out.mo.fin (Y := _) (by (repeat (first | exact But.refl _ _ | assumption | refine But.drew ?_ | refine But.drewN ?_ _ | refine But.set ?_ _ _ | refine But.setNew ?_ _ _ (by first | (simp; done) | (simp; omega)) _ | refine But.alloc ?_ _))) hLoud 0, HX.out.run.ol, endO_of (HX.out.st.trans HST.out) hnm⟩
 ·have ht' : ¬ (1000 : Int) ≤ (g.out.length : Int) := by omega
  have HST := hidX (hX.st.trans ((doM_print rfl).trans (if_neg ht)))
  have hol1 : (g.out ++ [ra]).length ≤ 1000 := by rw [List.length_append]; simp; omega
  have hml := heap_lt hX.mo.ob
  obtain ⟨i0, hi, hz0, hz1, hz2⟩ := info_parts int_info
  clear ht
  clear hX hN hE
  conv => arg 2; whnf
  go_wp2_with (at_builtin; refine wpList_append_lies _ rfl _ _ 26 rfl (w.heap.size + 4) 3 i0 _ 1 8 Tryd.underlying26 hi hz0 hz1 hz2 rfl (by decide) (.slice oad g.out.length ocap) g.out.length (intsG g.out) rfl (owns_below HX.out.mo.out (by (repeat (first | exact Below.refl _ _ | assumption | refine Below.drew ?_ | refine bT ?_ _ | refine bS ?_ _ | refine bA ?_ _)))) ⟨W.heap.size, 0, none⟩ 1 1 [.int .i64 ra] rfl rfl (World.news_of_block (heap_alloc_new W _)) (int_one ra) (by decide) (by unfold maxLen; omega) (by omega) (by have := HX.out.mo.size; simp; omega) _ rfl ?_; intro g4 cap4 w4 hown4 hgrow hloc _; have hp4 : w4.heap[w.heap.size + 1 + 1]? = _ := (hgrow.block (w.heap.size + 1 + 1) (by simp; omega) (fun e => by have := HX.out.mo.out.lt _ e.symm; omega)).trans ((show Below W.heap.size W _ by (repeat (first | exact Below.refl _ _ | assumption | refine Below.drew ?_ | refine bT ?_ _ | refine bS ?_ _ | refine bA ?_ _))).block (w.heap.size + 1 + 1) hml |>.trans HX.out.mo.ob); have f2 := free_of_blk hp4 2; have s2 : w4.cell? ⟨w.heap.size + 1 + 1, 2, none⟩ = some (.slice oad g.out.length ocap) := cell_of_blk hp4 2; clear hp4)
  exact HN.out _ _ _ _ _ _ _ _ _ _ _ _ _ _ _ _ _ _ _ _ _ _ _ _ _ _ _ _ _ _ _ _ _ _ _ _ _ _ _ _ _ _ _ _ _ _ _ _ _ _ _ _ _ _ _ _ _ _ _ _ _ _ _ _ _ _ _ _ _ _ _ _ _ _ _ _ _ _ _ _ _ _ _ _ _ _ _ _ _ _ _ _ _ _ _ _ _ _ _ _ _ _ _ _ _ _ _ _ _ _ _ _ _ _ _ _ _ _ _ _ _ _ _ _ _ _ _ _ _ _ _ _ _ _ _ _ _ _ _ _ _ _ _ _ _ _ _ _ _ _ _ _ _ _ _ _ _ _ _ _ _ _ _ _ _ _ _ _ _ _ _ _ _ _ _ _ _ _ _ _ _ _ _ _ _ _ _ _ _ _ _ _ _ _ _ _ _ _ _ _ _ _ _ _ _ _ _ _ _ _ _ _ _ _ _ _ _ _ _ _ _ _ _ _ _ _ _ _ _ _ _ _ _ _ _ _ _ _ _ _ _ _ _ _ _ _ _ _ _ _ _ _ _ _ ⟨(-1), t, (⟨h, (f.go (f.pc + 1)), fb, sb⟩ :: S), _, ⟨g.out ++ [ra], g.ticks⟩, nx, rfl, rfl, RunM.goes (f' := (f.go (f.pc + 1))) HX.out.run HX.out.t8 HST.out (by rw [HX.out.ra]; rfl) rfl (by show f.pc + 1 ≤ _; exact HX.out.pcl) hol1 HX.out.run.tk, (HX.out.mo.below (by (repeat (first | exact Below.refl _ _ | assumption | refine Below.drew ?_ | refine bT ?_ _ | refine bS ?_ _ | refine bA ?_ _)))).prints hgrow hown4 hloc⟩
end Go.Proofs.YtbcpomdcmilpjaaDoor
namespace Go.Proofs.YtbcpomdcmilpjaaDoor
open Go.RowKit
set_option maxRecDepth 100000 in
set_option maxHeartbeats 4000000 in
theorem sw_call {w W : World} {I : Im} {adf : Option Addr} {cf : Nat} {wv : Value} {ticks most : Nat} {S0 : Sm} {n t : Nat} {h : Mf} {f : Fm} {fb sb ib : Nat} {S : List En} {gb ob ccap : Nat} {ov : Value} {g : Gm} {nx : List Int} {v : Nat} {op : List UInt8} {d a b : Nat} {imm ra : Int}
  (hX : Sit w W I adf cf wv ticks S0 n t h f fb sb ib S (.slice (some ⟨gb, ob, none⟩) (S.length + 1) ccap) ov g nx v op d a b imm ra) (hnm : n < most) (hk : op = mCall)
  {c0 c1 c2 c4 c6 c7 c8 c9 c15 c18 c21 c24 c25 c26 c27 c28 c29 c30 c31 c32 c33 c34 c35 c36 c37 c38 c39 c40 c41 c42 c43 c44 c45 c46 c47 c48 c49 c50 c51 c52 c53 c54 c55 c56 c57 c58 c59 c60 c61 c62 c63 c64 c65 c66 c67 c68 c69 c70 c71 c72 c73 c74 c75 c76 c77 c78 c79 c80 c81 c82 c83 c84 c85 c86 c87 c88 c89 c90 c91 c92 c93 c94 c95 c96 c97 c98 c99 c100 c101 c102 c103 c104 c105 c106 c107 c108 c109 c110 c111 c112 c113 c114 c115 c116 c117 c118 c119 c120 c121 c122 c123 c124 c375 c376 : Value} {u23 u126 u127 u128 u129 u130 u131 u132 u133 u134 u135 u136 u137 u138 u139 u140 u141 u142 u143 u144 u145 u146 u147 u148 u149 u150 u151 u152 u153 u154 u155 u156 u157 u158 u159 u160 u161 u162 u163 u164 u165 u166 u167 u168 u169 u170 u171 u172 u173 u174 u175 u176 u177 u178 u179 u180 u181 u182 u183 u184 u185 u186 u187 u188 u189 u190 u191 u192 u193 u194 u195 u196 u197 u198 u199 u200 u201 u202 u203 u204 u205 u206 u207 u208 u209 u210 u211 u212 u213 u214 u215 u216 u217 u218 u219 u220 u221 u222 u223 u224 u225 u226 u227 u228 u229 u230 u231 u232 u233 u234 u235 u236 u237 u238 u239 u240 u241 u242 u243 u244 u245 u246 u247 u248 u249 u250 u251 u252 u253 u254 u255 u256 u257 u258 u259 u260 u261 u262 u263 u264 u265 u266 u267 u268 u269 u270 u271 u272 u273 u274 u275 u276 u277 u278 u279 u280 u281 u282 u283 u284 u285 u286 u287 u288 u289 u290 u291 u292 u293 u294 u295 u296 u297 u298 u299 u300 u301 u302 u303 u304 u305 u306 u307 u308 u309 u310 u311 u312 u313 u314 u315 u316 u317 u318 u319 u320 u321 u322 u323 u324 u325 u326 u327 u328 u329 u330 u331 u332 u333 u334 u335 u336 u337 u338 u339 u340 u341 u342 u343 u344 u345 u346 u347 u348 u349 u350 u351 u352 u353 u354 u355 u356 u357 u358 u359 u360 u361 u362 u363 u364 u365 u366 u367 u368 u369 u370 u371 u372 u373 u374 : Value} {Q : Exit → Act → World → Prop}
  (hN : NextH w I (.slice adf I.funs.length cf) wv ticks S0 n most fb ib ra op c0 c1 c2 c4 c6 c7 c8 c9 c15 c18 c21 c24 c25 c26 c27 c28 c29 c30 c31 c32 c33 c34 c35 c36 c37 c38 c39 c40 c41 c42 c43 c44 c45 c46 c47 c48 c49 c50 c51 c52 c53 c54 c55 c56 c57 c58 c59 c60 c61 c62 c63 c64 c65 c66 c67 c68 c69 c70 c71 c72 c73 c74 c75 c76 c77 c78 c79 c80 c81 c82 c83 c84 c85 c86 c87 c88 c89 c90 c91 c92 c93 c94 c95 c96 c97 c98 c99 c100 c101 c102 c103 c104 c105 c106 c107 c108 c109 c110 c111 c112 c113 c114 c115 c116 c117 c118 c119 c120 c121 c122 c123 c124 c375 c376 Q) (hE : RetH w I (.slice adf I.funs.length cf) wv ticks S0 n most fb ib ra op c0 c1 c2 c4 c6 c7 c8 c9 c15 c18 c21 c24 c25 c26 c27 c28 c29 c30 c31 c32 c33 c34 c35 c36 c37 c38 c39 c40 c41 c42 c43 c44 c45 c46 c47 c48 c49 c50 c51 c52 c53 c54 c55 c56 c57 c58 c59 c60 c61 c62 c63 c64 c65 c66 c67 c68 c69 c70 c71 c72 c73 c74 c75 c76 c77 c78 c79 c80 c81 c82 c83 c84 c85 c86 c87 c88 c89 c90 c91 c92 c93 c94 c95 c96 c97 c98 c99 c100 c101 c102 c103 c104 c105 c106 c107 c108 c109 c110 c111 c112 c113 c114 c115 c116 c117 c118 c119 c120 c121 c122 c123 c124 c375 c376 Q) :
  Code.wp Tryd.prog swC Q ⟨#[c0, c1, c2, .int .i64 (ticks : Int), c4, .pointer (some ⟨w.heap.size, 0, none⟩), c6, c7, c8, c9, .pointer (some ⟨w.heap.size + 1, 0, none⟩), .pointer (some ⟨w.heap.size + 1 + 1, 0, none⟩), .slice (some ⟨gb, ob, none⟩) (S.length + 1) ccap, .int .i64 (-1), .pointer (some ⟨w.heap.size + 1 + 1 + 1, 0, none⟩), c15, .int .i64 (t : Int), .int .i64 (n : Int), c18, .pointer (some ⟨fb, 0, none⟩), .pointer (some ⟨ib, 0, none⟩), c21, .int .i64 ra, u23, c24, c25, c26, c27, c28, c29, c30, c31, c32, c33, c34, c35, c36, c37, c38, c39, c40, c41, c42, c43, c44, c45, c46, c47, c48, c49, c50, c51, c52, c53, c54, c55, c56, c57, c58, c59, c60, c61, c62, c63, c64, c65, c66, c67, c68, c69, c70, c71, c72, c73, c74, c75, c76, c77, c78, c79, c80, c81, c82, c83, c84, c85, c86, c87, c88, c89, c90, c91, c92, c93, c94, c95, c96, c97, c98, c99, c100, c101, c102, c103, c104, c105, c106, c107, c108, c109, c110, c111, c112, c113, c114, c115, c116, c117, c118, c119, c120, c121, c122, c123, c124, .string ⟨op.toArray⟩, u126, u127, u128, u129, u130, u131, u132, u133, u134, u135, u136, u137, u138, u139, u140, u141, u142, u143, u144, u145, u146, u147, u148, u149, u150, u151, u152, u153, u154, u155, u156, u157, u158, u159, u160, u161, u162, u163, u164, u165, u166, u167, u168, u169, u170, u171, u172, u173, u174, u175, u176, u177, u178, u179, u180, u181, u182, u183, u184, u185, u186, u187, u188, u189, u190, u191, u192, u193, u194, u195, u196, u197, u198, u199, u200, u201, u202, u203, u204, u205, u206, u207, u208, u209, u210, u211, u212, u213, u214, u215, u216, u217, u218, u219, u220, u221, u222, u223, u224, u225, u226, u227, u228, u229, u230, u231, u232, u233, u234, u235, u236, u237, u238, u239, u240, u241, u242, u243, u244, u245, u246, u247, u248, u249, u250, u251, u252, u253, u254, u255, u256, u257, u258, u259, u260, u261, u262, u263, u264, u265, u266, u267, u268, u269, u270, u271, u272, u273, u274, u275, u276, u277, u278, u279, u280, u281, u282, u283, u284, u285, u286, u287, u288, u289, u290, u291, u292, u293, u294, u295, u296, u297, u298, u299, u300, u301, u302, u303, u304, u305, u306, u307, u308, u309, u310, u311, u312, u313, u314, u315, u316, u317, u318, u319, u320, u321, u322, u323, u324, u325, u326, u327, u328, u329, u330, u331, u332, u333, u334, u335, u336, u337, u338, u339, u340, u341, u342, u343, u344, u345, u346, u347, u348, u349, u350, u351, u352, u353, u354, u355, u356, u357, u358, u359, u360, u361, u362, u363, u364, u365, u366, u367, u368, u369, u370, u371, u372, u373, u374, c375, c376], []⟩ W := by
 subst hk
 have q0 : W.cell? ⟨ib, 0, none⟩ = some (.string ⟨([99, 97, 108, 108] : List UInt8).toArray⟩) := cell_of_blk hX.ins 0
 have q1 : W.cell? ⟨ib, 1, none⟩ = some (.int .i64 (d : Int)) := cell_of_blk hX.ins 1
 have q3 : W.cell? ⟨ib, 3, none⟩ = some (.int .i64 (b : Int)) := cell_of_blk hX.ins 3
 have HNM := hidX hnm
 have hi0 : 0 ≤ imm := by have := (hX.okw.call (by rw [hX.dec])).1; have h2 := hX.dec; rw [h2] at this; dsimp only at this; omega
 obtain ⟨m, rfl⟩ : ∃ m : Nat, imm = (m : Int) := ⟨imm.toNat, by omega⟩
 have q4 : W.cell? ⟨ib, 4, none⟩ = some (.int .i64 (m : Int)) := cell_of_blk hX.ins 4
 have hml : m < I.funs.length := by have := (hX.okw.call (by rw [hX.dec])).2; have h2 := hX.dec; rw [h2] at this; dsimp only at this; omega
 have hml' : (m : Int) < (I.funs.length : Int) := by omega
 have hfl : (I.funs.length : Int) ≤ 8 := by have := hX.well.fl; omega
 have HX := hidX hX
 have HN := hidX hN
 have HE := hidX hE
 have hd8 := hX.d8
 have ha8 := hX.a8
 have hb8 := hX.b8
 have hd8' : (d : Int) < 8 := by omega
 have ha8' : (a : Int) < 8 := by omega
 have hb8' : (b : Int) < 8 := by omega
 obtain ⟨gf, off, eadf, hgf, _, k1, _, _⟩ := hX.fun_.at hml
 subst eadf
 replace k1 := (hX.mo.low.cell (p := ⟨gf, _, none⟩) hgf).trans k1
 have i0 : W.cell? ⟨w.heap.size, 0, none⟩ = some (.slice (some ⟨gf, off, none⟩) I.funs.length cf) := cell_of_blk hX.mo.img 0
 have hD := doM_call (I := I) (m := ticks) (g := g) (f := f.go (f.pc + 1)) (fs := S.map En.f) (i := ⟨mCall, (d : Int), (a : Int), (b : Int), (m : Int)⟩) rfl
 have hfun : funAt I (m : Int) = I.funs[m] := by simp [funAt, hml]
 replace hD : doM I ticks g (f.go (f.pc + 1)) (S.map En.f) ⟨mCall, (d : Int), (a : Int), (b : Int), (m : Int)⟩ = if (b : Int) = I.funs[m].params then enterM I ticks g ({ f.go (f.pc + 1) with next := zeros 4 } :: S.map En.f) (m : Int) f.next d else .halt hStuck 0 g := by rw [← hfun]; exact hD
 clear hfun
 obtain ⟨pp, hpp⟩ : ∃ pp, pp = I.funs[m].params := ⟨_, rfl⟩
 rw [← hpp] at k1 hD
 clear hpp hgf
 by_cases hlt : (b : Int) = pp
 ·have hlt2 : ((b : Int) == pp) = true := by simpa using hlt
  have HST := hidX (hX.st.trans (hD.trans (if_pos hlt)))
  obtain ⟨x0, x1, x2, x3, hx⟩ := list4 (HX.out.mo.fr _ List.mem_cons_self).nl
  replace hx : f.next = [x0, x1, x2, x3] := hx
  have n0 : W.cell? ⟨fb, 17, none⟩ = some (.int .i64 x0) := by rw [cell_of_blk (HX.out.mo.fr _ List.mem_cons_self).blk, List.getElem?_toArray, enL_next (HX.out.mo.fr _ List.mem_cons_self).rl (HX.out.mo.fr _ List.mem_cons_self).al (HX.out.mo.fr _ List.mem_cons_self).nl (k := 0) (by omega)]; show some (Value.int .i64 (f.next.getD 0 0)) = _; rw [hx]; rfl
  have n1 : W.cell? ⟨fb, 18, none⟩ = some (.int .i64 x1) := by rw [cell_of_blk (HX.out.mo.fr _ List.mem_cons_self).blk, List.getElem?_toArray, enL_next (HX.out.mo.fr _ List.mem_cons_self).rl (HX.out.mo.fr _ List.mem_cons_self).al (HX.out.mo.fr _ List.mem_cons_self).nl (k := 1) (by omega)]; show some (Value.int .i64 (f.next.getD 1 0)) = _; rw [hx]; rfl
  have n2 : W.cell? ⟨fb, 19, none⟩ = some (.int .i64 x2) := by rw [cell_of_blk (HX.out.mo.fr _ List.mem_cons_self).blk, List.getElem?_toArray, enL_next (HX.out.mo.fr _ List.mem_cons_self).rl (HX.out.mo.fr _ List.mem_cons_self).al (HX.out.mo.fr _ List.mem_cons_self).nl (k := 2) (by omega)]; show some (Value.int .i64 (f.next.getD 2 0)) = _; rw [hx]; rfl
  have n3 : W.cell? ⟨fb, 20, none⟩ = some (.int .i64 x3) := by rw [cell_of_blk (HX.out.mo.fr _ List.mem_cons_self).blk, List.getElem?_toArray, enL_next (HX.out.mo.fr _ List.mem_cons_self).rl (HX.out.mo.fr _ List.mem_cons_self).al (HX.out.mo.fr _ List.mem_cons_self).nl (k := 3) (by omega)]; show some (Value.int .i64 (f.next.getD 3 0)) = _; rw [hx]; rfl
  have fn0 := free_of_blk (HX.out.mo.fr _ List.mem_cons_self).blk 17
  have fn1 := free_of_blk (HX.out.mo.fr _ List.mem_cons_self).blk 18
  have fn2 := free_of_blk (HX.out.mo.fr _ List.mem_cons_self).blk 19
  have fn3 := free_of_blk (HX.out.mo.fr _ List.mem_cons_self).blk 20
  obtain ⟨y0, y1, y2, y3, rfl⟩ := list4 hX.mo.n4
  have b0 : W.cell? ⟨w.heap.size + 1 + 1 + 1, 0, none⟩ = some (.int .i64 y0) := cell_of_blk hX.mo.nb 0
  have b1 : W.cell? ⟨w.heap.size + 1 + 1 + 1, 1, none⟩ = some (.int .i64 y1) := cell_of_blk hX.mo.nb 1
  have b2 : W.cell? ⟨w.heap.size + 1 + 1 + 1, 2, none⟩ = some (.int .i64 y2) := cell_of_blk hX.mo.nb 2
  have b3 : W.cell? ⟨w.heap.size + 1 + 1 + 1, 3, none⟩ = some (.int .i64 y3) := cell_of_blk hX.mo.nb 3
  have fb0 := free_of_blk hX.mo.nb 0
  have fb1 := free_of_blk hX.mo.nb 1
  have fb2 := free_of_blk hX.mo.nb 2
  have fb3 := free_of_blk hX.mo.nb 3
  have hib : w.heap.size + 1 + 1 + 1 < ib := by have := hX.ibl; omega
  have hfb : w.heap.size + 1 + 1 + 1 < fb := by have := (HX.out.mo.fr _ List.mem_cons_self).hf; dsimp only at this; omega
  have h64 : ∀ v ∈ [x0, x1, x2, x3], In64 v := by rw [← hx]; exact (HX.out.mo.fr _ List.mem_cons_self).n64
  rw [hx] at HST
  clear hD hx hlt
  clear hX hN hE
  conv => arg 2; whnf
  go_wp2_with fail
  go_quiet (fail)
  go_wp2
  exact HN.out _ _ _ _ _ _ _ _ _ _ _ _ _ _ _ _ _ _ _ _ _ _ _ _ _ _ _ _ _ _ _ _ _ _ _ _ _ _ _ _ _ _ _ _ _ _ _ _ _ _ _ _ _ _ _ _ _ _ _ _ _ _ _ _ _ _ _ _ _ _ _ _ _ _ _ _ _ _ _ _ _ _ _ _ _ _ _ _ _ _ _ _ _ _ _ _ _ _ _ _ _ _ _ _ _ _ _ _ _ _ _ _ _ _ _ _ _ _ _ _ _ _ _ _ _ _ _ _ _ _ _ _ _ _ _ _ _ _ _ _ _ _ _ _ _ _ _ _ _ _ _ _ _ _ _ _ _ _ _ _ _ _ _ _ _ _ _ _ _ _ _ _ _ _ _ _ _ _ _ _ _ _ _ _ _ _ _ _ _ _ _ _ _ _ _ _ _ _ _ _ _ _ _ _ _ _ _ _ _ _ _ _ _ _ _ _ _ _ _ _ _ _ _ _ _ _ _ _ _ _ _ _ _ _ _ _ _ _ _ _ _ _ _ _ _ _ _ _ _ _ _ _ _ _ ⟨(m : Int), d, (⟨h, { (f.go (f.pc + 1)) with next := zeros 4 }, fb, sb⟩ :: S), _, g, [x0, x1, x2, x3], rfl, rfl, RunM.calls (f' := { (f.go (f.pc + 1)) with next := zeros 4 }) HX.out.run hd8 (by omega) hml' HST.out rfl rfl (by show f.pc + 1 ≤ _; exact HX.out.pcl), ((HX.out.mo.below (by (repeat (first | exact Below.refl _ _ | assumption | refine Below.drew ?_ | refine bT ?_ _ | refine bS ?_ _ | refine bA ?_ _)))).next4 h64).zero⟩
 ·have hlt2 : ((b : Int) == pp) = false := by simpa using hlt
  have HST := hidX (hD.trans (if_neg hlt))
  obtain ⟨oad, ocap, rfl⟩ := own_is hX.mo.out
  have o0 : W.cell? ⟨w.heap.size + 1 + 1, 0, none⟩ = some (.string ⟨#[]⟩) := cell_of_blk hX.mo.ob 0
  have o1 : W.cell? ⟨w.heap.size + 1 + 1, 1, none⟩ = some (.int .i64 0) := cell_of_blk hX.mo.ob 1
  have o2 : W.cell? ⟨w.heap.size + 1 + 1, 2, none⟩ = some (.slice oad g.out.length ocap) := cell_of_blk hX.mo.ob 2
  have o3 : W.cell? ⟨w.heap.size + 1 + 1, 3, none⟩ = some (.int .i64 (g.ticks : Int)) := cell_of_blk hX.mo.ob 3
  have fo0 := free_of_blk hX.mo.ob 0
  have fo1 := free_of_blk hX.mo.ob 1
  have r0 : W.cell? ⟨w.heap.size + 1, 0, none⟩ = some (.string ⟨#[]⟩) := cell_of_blk hX.mo.res 0
  have r1 : W.cell? ⟨w.heap.size + 1, 1, none⟩ = some (.int .i64 0) := cell_of_blk hX.mo.res 1
  have r2 : W.cell? ⟨w.heap.size + 1, 2, none⟩ = some (.slice none 0 0) := cell_of_blk hX.mo.res 2
  have r3 : W.cell? ⟨w.heap.size + 1, 3, none⟩ = some (.int .i64 0) := cell_of_blk hX.mo.res 3
  have fr0 := free_of_blk hX.mo.res 0
  have fr1 := free_of_blk hX.mo.res 1
  have fr2 := free_of_blk hX.mo.res 2
  have fr3 := free_of_blk hX.mo.res 3
  clear hD hlt
  clear hX hN hE
  conv => arg 2; whnf
  go_wp2_with fail
  go_quiet (fail)
  go_wp2
  exact HE.out _ _ _ _ _ _ _ _ _ _ _ _ _ _ _ _ _ _ _ _ _ _ _ _ _ _ _ _ _ _ _ _ _ _ _ _ _ _ _ _ _ _ _ _ _ _ _ _ _ _ _ _ _ _ _ _ _ _ _ _ _ _ _ _ _ _ _ _ _ _ _ _ _ _ _ _ _ _ _ _ _ _ _ _ _ _ _ _ _ _ _ _ _ _ _ _ _ _ _ _ _ _ _ _ _ _ _ _ _ _ _ _ _ _ _ _ _ _ _ _ _ _ _ _ _ _ _ _ _ _ _ _ _ _ _ _ _ _ _ _ _ _ _ _ _ _ _ _ _ _ _ _ _ _ _ _ _ _ _ _ _ _ _ _ _ _ _ _ _ _ _ _ _ _ _ _ _ _ _ _ _ _ _ _ _ _ _ _ _ _ _ _ _ _ _ _ _ _ _ _ _ _ _ _ _ _ _ _ _ _ _ _ _ _ _ _ _ _ _ _ _ _ _ _ _ _ _ _ _ _ _ _ _ _ _ _ _ _ _ _ _ _ _ _ _ _ _ _ _ _ _ _ _ _ ⟨hStuck, 0, _, _, HX.out.mo.fin (Y := _) (by (repeat (first | exact But.refl _ _ | assumption | refine But.drew ?_ | refine But.drewN ?_ _ | refine But.set ?_ _ _ | refine But.setNew ?_ _ _ (by first | (simp; done) | (simp; omega)) _ | refine But.alloc ?_ _))) hStuck 0, HX.out.run.ol, endO_of (HX.out.st.trans HST.out) hnm⟩
end Go.Proofs.YtbcpomdcmilpjaaDoor
