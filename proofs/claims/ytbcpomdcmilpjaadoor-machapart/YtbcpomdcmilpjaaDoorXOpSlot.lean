/- Our own: texts joined: MoOpLoad, MoOpParam. -/
import Derived.Test.YtbcpomdcmilpjaaDoorXMoA
namespace Go.Proofs.YtbcpomdcmilpjaaDoor
open Go.RowKit
set_option maxRecDepth 100000 in
set_option maxHeartbeats 4000000 in
theorem sw_load {w W : World} {I : Im} {adf : Option Addr} {cf : Nat} {wv : Value} {ticks most : Nat} {S0 : Sm} {n t : Nat} {h : Mf} {f : Fm} {fb sb ib : Nat} {S : List En} {gb ob ccap : Nat} {ov : Value} {g : Gm} {nx : List Int} {v : Nat} {op : List UInt8} {d a b : Nat} {imm ra : Int}
  (hX : Sit w W I adf cf wv ticks S0 n t h f fb sb ib S (.slice (some ⟨gb, ob, none⟩) (S.length + 1) ccap) ov g nx v op d a b imm ra) (hnm : n < most) (hk : op = mLoad)
  {c0 c1 c2 c4 c6 c7 c8 c9 c15 c18 c21 c24 c25 c26 c27 c28 c29 c30 c31 c32 c33 c34 c35 c36 c37 c38 c39 c40 c41 c42 c43 c44 c45 c46 c47 c48 c49 c50 c51 c52 c53 c54 c55 c56 c57 c58 c59 c60 c61 c62 c63 c64 c65 c66 c67 c68 c69 c70 c71 c72 c73 c74 c75 c76 c77 c78 c79 c80 c81 c82 c83 c84 c85 c86 c87 c88 c89 c90 c91 c92 c93 c94 c95 c96 c97 c98 c99 c100 c101 c102 c103 c104 c105 c106 c107 c108 c109 c110 c111 c112 c113 c114 c115 c116 c117 c118 c119 c120 c121 c122 c123 c124 c375 c376 : Value} {u23 u126 u127 u128 u129 u130 u131 u132 u133 u134 u135 u136 u137 u138 u139 u140 u141 u142 u143 u144 u145 u146 u147 u148 u149 u150 u151 u152 u153 u154 u155 u156 u157 u158 u159 u160 u161 u162 u163 u164 u165 u166 u167 u168 u169 u170 u171 u172 u173 u174 u175 u176 u177 u178 u179 u180 u181 u182 u183 u184 u185 u186 u187 u188 u189 u190 u191 u192 u193 u194 u195 u196 u197 u198 u199 u200 u201 u202 u203 u204 u205 u206 u207 u208 u209 u210 u211 u212 u213 u214 u215 u216 u217 u218 u219 u220 u221 u222 u223 u224 u225 u226 u227 u228 u229 u230 u231 u232 u233 u234 u235 u236 u237 u238 u239 u240 u241 u242 u243 u244 u245 u246 u247 u248 u249 u250 u251 u252 u253 u254 u255 u256 u257 u258 u259 u260 u261 u262 u263 u264 u265 u266 u267 u268 u269 u270 u271 u272 u273 u274 u275 u276 u277 u278 u279 u280 u281 u282 u283 u284 u285 u286 u287 u288 u289 u290 u291 u292 u293 u294 u295 u296 u297 u298 u299 u300 u301 u302 u303 u304 u305 u306 u307 u308 u309 u310 u311 u312 u313 u314 u315 u316 u317 u318 u319 u320 u321 u322 u323 u324 u325 u326 u327 u328 u329 u330 u331 u332 u333 u334 u335 u336 u337 u338 u339 u340 u341 u342 u343 u344 u345 u346 u347 u348 u349 u350 u351 u352 u353 u354 u355 u356 u357 u358 u359 u360 u361 u362 u363 u364 u365 u366 u367 u368 u369 u370 u371 u372 u373 u374 : Value} {Q : Exit → Act → World → Prop}
  (hN : NextH w I (.slice adf I.funs.length cf) wv ticks S0 n most fb ib ra op c0 c1 c2 c4 c6 c7 c8 c9 c15 c18 c21 c24 c25 c26 c27 c28 c29 c30 c31 c32 c33 c34 c35 c36 c37 c38 c39 c40 c41 c42 c43 c44 c45 c46 c47 c48 c49 c50 c51 c52 c53 c54 c55 c56 c57 c58 c59 c60 c61 c62 c63 c64 c65 c66 c67 c68 c69 c70 c71 c72 c73 c74 c75 c76 c77 c78 c79 c80 c81 c82 c83 c84 c85 c86 c87 c88 c89 c90 c91 c92 c93 c94 c95 c96 c97 c98 c99 c100 c101 c102 c103 c104 c105 c106 c107 c108 c109 c110 c111 c112 c113 c114 c115 c116 c117 c118 c119 c120 c121 c122 c123 c124 c375 c376 Q) (hE : RetH w I (.slice adf I.funs.length cf) wv ticks S0 n most fb ib ra op c0 c1 c2 c4 c6 c7 c8 c9 c15 c18 c21 c24 c25 c26 c27 c28 c29 c30 c31 c32 c33 c34 c35 c36 c37 c38 c39 c40 c41 c42 c43 c44 c45 c46 c47 c48 c49 c50 c51 c52 c53 c54 c55 c56 c57 c58 c59 c60 c61 c62 c63 c64 c65 c66 c67 c68 c69 c70 c71 c72 c73 c74 c75 c76 c77 c78 c79 c80 c81 c82 c83 c84 c85 c86 c87 c88 c89 c90 c91 c92 c93 c94 c95 c96 c97 c98 c99 c100 c101 c102 c103 c104 c105 c106 c107 c108 c109 c110 c111 c112 c113 c114 c115 c116 c117 c118 c119 c120 c121 c122 c123 c124 c375 c376 Q) (hP : ∀ c (a : Act) (d : Option Tmp) (v : Value) w, Q (.panic c) (a.put d v) w → Q (.panic c) a w) :
  Code.wp Tryd.prog swC Q ⟨#[c0, c1, c2, .int .i64 (ticks : Int), c4, .pointer (some ⟨w.heap.size, 0, none⟩), c6, c7, c8, c9, .pointer (some ⟨w.heap.size + 1, 0, none⟩), .pointer (some ⟨w.heap.size + 1 + 1, 0, none⟩), .slice (some ⟨gb, ob, none⟩) (S.length + 1) ccap, .int .i64 (-1), .pointer (some ⟨w.heap.size + 1 + 1 + 1, 0, none⟩), c15, .int .i64 (t : Int), .int .i64 (n : Int), c18, .pointer (some ⟨fb, 0, none⟩), .pointer (some ⟨ib, 0, none⟩), c21, .int .i64 ra, u23, c24, c25, c26, c27, c28, c29, c30, c31, c32, c33, c34, c35, c36, c37, c38, c39, c40, c41, c42, c43, c44, c45, c46, c47, c48, c49, c50, c51, c52, c53, c54, c55, c56, c57, c58, c59, c60, c61, c62, c63, c64, c65, c66, c67, c68, c69, c70, c71, c72, c73, c74, c75, c76, c77, c78, c79, c80, c81, c82, c83, c84, c85, c86, c87, c88, c89, c90, c91, c92, c93, c94, c95, c96, c97, c98, c99, c100, c101, c102, c103, c104, c105, c106, c107, c108, c109, c110, c111, c112, c113, c114, c115, c116, c117, c118, c119, c120, c121, c122, c123, c124, .string ⟨op.toArray⟩, u126, u127, u128, u129, u130, u131, u132, u133, u134, u135, u136, u137, u138, u139, u140, u141, u142, u143, u144, u145, u146, u147, u148, u149, u150, u151, u152, u153, u154, u155, u156, u157, u158, u159, u160, u161, u162, u163, u164, u165, u166, u167, u168, u169, u170, u171, u172, u173, u174, u175, u176, u177, u178, u179, u180, u181, u182, u183, u184, u185, u186, u187, u188, u189, u190, u191, u192, u193, u194, u195, u196, u197, u198, u199, u200, u201, u202, u203, u204, u205, u206, u207, u208, u209, u210, u211, u212, u213, u214, u215, u216, u217, u218, u219, u220, u221, u222, u223, u224, u225, u226, u227, u228, u229, u230, u231, u232, u233, u234, u235, u236, u237, u238, u239, u240, u241, u242, u243, u244, u245, u246, u247, u248, u249, u250, u251, u252, u253, u254, u255, u256, u257, u258, u259, u260, u261, u262, u263, u264, u265, u266, u267, u268, u269, u270, u271, u272, u273, u274, u275, u276, u277, u278, u279, u280, u281, u282, u283, u284, u285, u286, u287, u288, u289, u290, u291, u292, u293, u294, u295, u296, u297, u298, u299, u300, u301, u302, u303, u304, u305, u306, u307, u308, u309, u310, u311, u312, u313, u314, u315, u316, u317, u318, u319, u320, u321, u322, u323, u324, u325, u326, u327, u328, u329, u330, u331, u332, u333, u334, u335, u336, u337, u338, u339, u340, u341, u342, u343, u344, u345, u346, u347, u348, u349, u350, u351, u352, u353, u354, u355, u356, u357, u358, u359, u360, u361, u362, u363, u364, u365, u366, u367, u368, u369, u370, u371, u372, u373, u374, c375, c376], []⟩ W := by
 subst hk
 have q0 : W.cell? ⟨ib, 0, none⟩ = some (.string ⟨([108, 111, 97, 100] : List UInt8).toArray⟩) := cell_of_blk hX.ins 0
 have q1 : W.cell? ⟨ib, 1, none⟩ = some (.int .i64 (d : Int)) := cell_of_blk hX.ins 1
 have HNM := hidX hnm
 have hi0 : 0 ≤ imm := by have := hX.okw.slot (by rw [hX.dec]; exact Or.inl rfl); have h2 := hX.dec; rw [h2] at this; dsimp only at this; omega
 obtain ⟨m, rfl⟩ : ∃ m : Nat, imm = (m : Int) := ⟨imm.toNat, by omega⟩
 have q4 : W.cell? ⟨ib, 4, none⟩ = some (.int .i64 (m : Int)) := cell_of_blk hX.ins 4
 have HX := hidX hX
 have HN := hidX hN
 have HE := hidX hE
 have hd8 := hX.d8
 have ha8 := hX.a8
 have hb8 := hX.b8
 have hd8' : (d : Int) < 8 := by omega
 have ha8' : (a : Int) < 8 := by omega
 have hb8' : (b : Int) < 8 := by omega
 have p12 : W.cell? ⟨fb, 12, none⟩ = some (.slice (some ⟨sb, 0, none⟩) f.slots.length f.slots.length) := by rw [cell_of_blk (HX.out.mo.fr _ List.mem_cons_self).blk, List.getElem?_toArray, enL_sv (HX.out.mo.fr _ List.mem_cons_self).rl]; rfl
 have p2 : W.cell? ⟨fb, 2, none⟩ = some (.int .i64 (f.slots.length : Int)) := by have hsz := (HX.out.mo.fr _ List.mem_cons_self).sz; rw [cell_of_blk (HX.out.mo.fr _ List.mem_cons_self).blk]; show some (Value.int .i64 h.slots) = _; rw [show h.slots = (f.slots.length : Int) from hsz]
 have hzl : f.slots.length ≤ 1000 := (HX.out.mo.fr _ List.mem_cons_self).zl
 have hzl' : (f.slots.length : Int) ≤ 1000 := by omega
 by_cases hlt : m < f.slots.length
 ·have hlt' : (m : Int) < (f.slots.length : Int) := by omega
  have s0 : W.cell? ⟨sb, m, none⟩ = some (.int .i64 (f.slots.getD m 0)) := by rw [cell_of_blk (HX.out.mo.fr _ List.mem_cons_self).sl, List.getElem?_toArray]; show (intsG f.slots)[m]? = _; rw [intsG_at hlt]; simp [List.getD, hlt]
  have fr := free_of_blk (HX.out.mo.fr _ List.mem_cons_self).blk (4 + d)
  have rd : W.cell? ⟨fb, 4 + d, none⟩ = some (.int .i64 (f.regs.getD d 0)) := by rw [cell_of_blk (HX.out.mo.fr _ List.mem_cons_self).blk, List.getElem?_toArray, enL_reg (HX.out.mo.fr _ List.mem_cons_self).rl hd8]; rfl
  obtain ⟨vd, hvd⟩ : ∃ vd, vd = f.regs.getD d 0 := ⟨_, rfl⟩
  rw [← hvd] at rd
  have v64 : In64 (f.slots.getD m 0) := getD64G (HX.out.mo.fr _ List.mem_cons_self).s64 m
  have HST := hidX (show itM I ticks (n + 1) S0 = .run g ((f.go (f.pc + 1)).put d (f.slots.getD m 0)) (S.map En.f) from hX.st.trans ((doM_load rfl).trans (if_pos (show (m : Int) < ((f.go (f.pc + 1)).slots.length : Int) from hlt'))))
  clear hvd
  generalize f.slots.getD m 0 = vs at s0 v64 HST
  clear hlt
  obtain ⟨zl, hzq⟩ : ∃ zl, zl = f.slots.length := ⟨_, rfl⟩
  rw [← hzq] at p12 p2 hzl' hlt'
  clear hzl hzq
  clear hX hN hE
  conv => arg 2; whnf
  go_wp2_with fail
  go_quiet (fail)
  go_wp2_with fail
  refine wp_region_V (fun W => W.cell? ⟨ib, 1, none⟩ = some (.int .i64 (d : Int)) ∧ W.cell? ⟨fb, 12, none⟩ = some (.slice (some ⟨sb, 0, none⟩) zl zl) ∧ W.cell? ⟨ib, 4, none⟩ = some (.int .i64 (m : Int)) ∧ W.cell? ⟨sb, m, none⟩ = some (.int .i64 vs)) 14 (by kernel_rfl) ⟨q1, p12, q4, s0⟩ (fun hHeld => ?_)
  refine wpAnyV_any 0 (some 203) (v := ?v0r3) rfl rfl (by kernel_rfl) (by kernel_rfl) (by kernel_rfl) (by kernel_rfl) (fun _ _ _ h => hP _ _ _ _ _ h) (Or.inl ⟨by rfl, ?hy0r3⟩) hHeld ?rest0r3
  case hy0r3 => (intro w2 hSw; (try dsimp only at hSw); first | (go_simp; done) | (go_simp; with_reducible rfl))
  simp only [Act.put, List.setIfInBounds_toArray, List.set_cons_zero, List.set_cons_succ]
  refine wpAnyV_any 1 (some 204) (v := ?v1r3) rfl rfl (by kernel_rfl) (by kernel_rfl) (by kernel_rfl) (by kernel_rfl) (fun _ _ _ h => hP _ _ _ _ _ h) (Or.inl ⟨by rfl, ?hy1r3⟩) hHeld ?rest1r3
  case hy1r3 => (intro w2 hSw; (try dsimp only at hSw); first | (go_simp; done) | (go_simp; with_reducible rfl))
  simp only [Act.put, List.setIfInBounds_toArray, List.set_cons_zero, List.set_cons_succ]
  refine wpAnyV_put 2 (some 205) (v := ?v2r3) rfl rfl (by kernel_rfl) (by kernel_rfl) (by kernel_rfl) (by kernel_rfl) (by kernel_rfl) (fun _ _ _ h => hP _ _ _ _ _ h) (Or.inl ⟨by rfl, ?hy2r3⟩) hHeld ?rest2r3
  case hy2r3 => (intro w2 hSw; (try dsimp only at hSw); first | (go_simp; done) | (go_simp; with_reducible rfl))
  simp only [Act.put, List.setIfInBounds_toArray, List.set_cons_zero, List.set_cons_succ]
  refine wpAnyV_any 3 (some 206) (v := ?v3r3) rfl rfl (by kernel_rfl) (by kernel_rfl) (by kernel_rfl) (by kernel_rfl) (fun _ _ _ h => hP _ _ _ _ _ h) (Or.inl ⟨by rfl, ?hy3r3⟩) hHeld ?rest3r3
  case hy3r3 => (intro w2 hSw; (try dsimp only at hSw); first | (go_simp; done) | (go_simp; with_reducible rfl))
  simp only [Act.put, List.setIfInBounds_toArray, List.set_cons_zero, List.set_cons_succ]
  refine wpAnyV_any 4 (some 207) (v := ?v4r3) rfl rfl (by kernel_rfl) (by kernel_rfl) (by kernel_rfl) (by kernel_rfl) (fun _ _ _ h => hP _ _ _ _ _ h) (Or.inl ⟨by rfl, ?hy4r3⟩) hHeld ?rest4r3
  case hy4r3 => (intro w2 hSw; (try dsimp only at hSw); first | (go_simp; done) | (go_simp; with_reducible rfl))
  simp only [Act.put, List.setIfInBounds_toArray, List.set_cons_zero, List.set_cons_succ]
  refine wpAnyV_any 5 (some 208) (v := ?v5r3) rfl rfl (by kernel_rfl) (by kernel_rfl) (by kernel_rfl) (by kernel_rfl) (fun _ _ _ h => hP _ _ _ _ _ h) (Or.inl ⟨by rfl, ?hy5r3⟩) hHeld ?rest5r3
  case hy5r3 => (intro w2 hSw; (try dsimp only at hSw); first | (go_simp; done) | (go_simp; with_reducible rfl))
  simp only [Act.put, List.setIfInBounds_toArray, List.set_cons_zero, List.set_cons_succ]
  refine wpAnyV_put 6 (some 209) (v := ?v6r3) rfl rfl (by kernel_rfl) (by kernel_rfl) (by kernel_rfl) (by kernel_rfl) (by kernel_rfl) (fun _ _ _ h => hP _ _ _ _ _ h) (Or.inl ⟨by rfl, ?hy6r3⟩) hHeld ?rest6r3
  case hy6r3 => (intro w2 hSw; (try dsimp only at hSw); first | (go_simp; done) | (go_simp; with_reducible rfl))
  simp only [Act.put, List.setIfInBounds_toArray, List.set_cons_zero, List.set_cons_succ]
  refine wpAnyV_any 7 (some 210) (v := ?v7r3) rfl rfl (by kernel_rfl) (by kernel_rfl) (by kernel_rfl) (by kernel_rfl) (fun _ _ _ h => hP _ _ _ _ _ h) (Or.inl ⟨by rfl, ?hy7r3⟩) hHeld ?rest7r3
  case hy7r3 => (intro w2 hSw; (try dsimp only at hSw); first | (go_simp; done) | (go_simp; with_reducible rfl))
  simp only [Act.put, List.setIfInBounds_toArray, List.set_cons_zero, List.set_cons_succ]
  refine wpAnyV_put 8 (some 211) (v := ?v8r3) rfl rfl (by kernel_rfl) (by kernel_rfl) (by kernel_rfl) (by kernel_rfl) (by kernel_rfl) (fun _ _ _ h => hP _ _ _ _ _ h) (Or.inl ⟨by rfl, ?hy8r3⟩) hHeld ?rest8r3
  case hy8r3 => (intro w2 hSw; (try dsimp only at hSw); first | (go_simp; done) | (go_simp; with_reducible rfl))
  simp only [Act.put, List.setIfInBounds_toArray, List.set_cons_zero, List.set_cons_succ]
  refine wpAnyV_any 9 (some 212) (v := ?v9r3) rfl rfl (by kernel_rfl) (by kernel_rfl) (by kernel_rfl) (by kernel_rfl) (fun _ _ _ h => hP _ _ _ _ _ h) (Or.inl ⟨by rfl, ?hy9r3⟩) hHeld ?rest9r3
  case hy9r3 => (intro w2 hSw; (try dsimp only at hSw); first | (go_simp; done) | (go_simp; with_reducible rfl))
  simp only [Act.put, List.setIfInBounds_toArray, List.set_cons_zero, List.set_cons_succ]
  refine wpAnyV_put 10 (some 213) (v := ?v10r3) rfl rfl (by kernel_rfl) (by kernel_rfl) (by kernel_rfl) (by kernel_rfl) (by kernel_rfl) (fun _ _ _ h => hP _ _ _ _ _ h) (Or.inl ⟨by rfl, ?hy10r3⟩) hHeld ?rest10r3
  case hy10r3 => (intro w2 hSw; (try dsimp only at hSw); first | (go_simp; done) | (go_simp; with_reducible rfl))
  simp only [Act.put, List.setIfInBounds_toArray, List.set_cons_zero, List.set_cons_succ]
  refine wpAnyV_any 11 (some 214) (v := ?v11r3) rfl rfl (by kernel_rfl) (by kernel_rfl) (by kernel_rfl) (by kernel_rfl) (fun _ _ _ h => hP _ _ _ _ _ h) (Or.inl ⟨by rfl, ?hy11r3⟩) hHeld ?rest11r3
  case hy11r3 => (intro w2 hSw; (try dsimp only at hSw); first | (go_simp; done) | (go_simp; with_reducible rfl))
  simp only [Act.put, List.setIfInBounds_toArray, List.set_cons_zero, List.set_cons_succ]
  refine wpAnyV_any 12 (some 215) (v := ?v12r3) rfl rfl (by kernel_rfl) (by kernel_rfl) (by kernel_rfl) (by kernel_rfl) (fun _ _ _ h => hP _ _ _ _ _ h) (Or.inl ⟨by rfl, ?hy12r3⟩) hHeld ?rest12r3
  case hy12r3 => (intro w2 hSw; (try dsimp only at hSw); first | (go_simp; done) | (go_simp; with_reducible rfl))
  simp only [Act.put, List.setIfInBounds_toArray, List.set_cons_zero, List.set_cons_succ]
  refine wpAnyV_any 13 (some 216) (v := ?v13r3) rfl rfl (by kernel_rfl) (by kernel_rfl) (by kernel_rfl) (by kernel_rfl) (fun _ _ _ h => hP _ _ _ _ _ h) (Or.inl ⟨by rfl, ?hy13r3⟩) hHeld ?rest13r3
  case hy13r3 => (intro w2 hSw; (try dsimp only at hSw); first | (go_simp; done) | (go_simp; with_reducible rfl))
  simp only [Act.put, List.setIfInBounds_toArray, List.set_cons_zero, List.set_cons_succ]
  refine wpAnyV_one (i := 14) (by kernel_rfl) rfl (fun K14 hK14 => ?_)
  go_simp
  refine hK14.out _ _ (fun h => absurd rfl h) (fun _ => ?_)
  clear hK14 K14 hHeld
  try simp only [Act.put, List.setIfInBounds_toArray, List.set_cons_zero, List.set_cons_succ]
  refine wpAnyV_done (by kernel_rfl) ?_ _
  go_wp2
  exact HN.out _ _ _ _ _ _ _ _ _ _ _ _ _ _ _ _ _ _ _ _ _ _ _ _ _ _ _ _ _ _ _ _ _ _ _ _ _ _ _ _ _ _ _ _ _ _ _ _ _ _ _ _ _ _ _ _ _ _ _ _ _ _ _ _ _ _ _ _ _ _ _ _ _ _ _ _ _ _ _ _ _ _ _ _ _ _ _ _ _ _ _ _ _ _ _ _ _ _ _ _ _ _ _ _ _ _ _ _ _ _ _ _ _ _ _ _ _ _ _ _ _ _ _ _ _ _ _ _ _ _ _ _ _ _ _ _ _ _ _ _ _ _ _ _ _ _ _ _ _ _ _ _ _ _ _ _ _ _ _ _ _ _ _ _ _ _ _ _ _ _ _ _ _ _ _ _ _ _ _ _ _ _ _ _ _ _ _ _ _ _ _ _ _ _ _ _ _ _ _ _ _ _ _ _ _ _ _ _ _ _ _ _ _ _ _ _ _ _ _ _ _ _ _ _ _ _ _ _ _ _ _ _ _ _ _ _ _ _ _ _ _ _ _ _ _ _ _ _ _ _ _ _ _ _ ⟨(-1), t, (⟨h, ((f.go (f.pc + 1)).put d vs), fb, sb⟩ :: S), _, g, nx, rfl, rfl, RunM.goes (f' := ((f.go (f.pc + 1)).put d vs)) HX.out.run HX.out.t8 HST.out rfl rfl (by show f.pc + 1 ≤ _; exact HX.out.pcl) HX.out.run.ol HX.out.run.tk, (HX.out.mo.below (by (repeat (first | exact Below.refl _ _ | assumption | refine Below.drew ?_ | refine bT ?_ _ | refine bS ?_ _ | refine bA ?_ _)))).put hd8 v64⟩
 ·have hlt' : ¬ (m : Int) < (f.slots.length : Int) := by omega
  have HST := hidX (doM_load (I := I) (m := ticks) (g := g) (f := f.go (f.pc + 1)) (fs := S.map En.f) (i := ⟨mLoad, (d : Int), (a : Int), (b : Int), (m : Int)⟩) rfl |>.trans (if_neg (show ¬ (m : Int) < ((f.go (f.pc + 1)).slots.length : Int) from hlt')))
  obtain ⟨oad, ocap, rfl⟩ := own_is hX.mo.out
  have o0 : W.cell? ⟨w.heap.size + 1 + 1, 0, none⟩ = some (.string ⟨#[]⟩) := cell_of_blk hX.mo.ob 0
  have o1 : W.cell? ⟨w.heap.size + 1 + 1, 1, none⟩ = some (.int .i64 0) := cell_of_blk hX.mo.ob 1
  have o2 : W.cell? ⟨w.heap.size + 1 + 1, 2, none⟩ = some (.slice oad g.out.length ocap) := cell_of_blk hX.mo.ob 2
  have o3 : W.cell? ⟨w.heap.size + 1 + 1, 3, none⟩ = some (.int .i64 (g.ticks : Int)) := cell_of_blk hX.mo.ob 3
  have fo0 := free_of_blk hX.mo.ob 0
  have fo1 := free_of_blk hX.mo.ob 1
  have r0 : W.cell? ⟨w.heap.size + 1, 0, none⟩ = some (.string ⟨#[]⟩) := cell_of_blk hX.mo.res 0
  have r1 : W.cell? ⟨w.heap.size + 1, 1, none⟩ = some (.int .i64 0) := cell_of_blk hX.mo.res 1
  have r2 : W.cell? ⟨w.heap.size + 1, 2, none⟩ = some (.slice none 0 0) := cell_of_blk hX.mo.res 2
  have r3 : W.cell? ⟨w.heap.size + 1, 3, none⟩ = some (.int .i64 0) := cell_of_blk hX.mo.res 3
  have fr0 := free_of_blk hX.mo.res 0
  have fr1 := free_of_blk hX.mo.res 1
  have fr2 := free_of_blk hX.mo.res 2
  have fr3 := free_of_blk hX.mo.res 3
  clear hlt
  obtain ⟨zl, hzq⟩ : ∃ zl, zl = f.slots.length := ⟨_, rfl⟩
  rw [← hzq] at p12 p2 hzl' hlt'
  clear hzl hzq
  clear hX hN hE
  conv => arg 2; whnf
  go_wp2_with fail
  go_quiet (fail)
  go_wp2
  exact HE.out _ _ _ _ _ _ _ _ _ _ _ _ _ _ _ _ _ _ _ _ _ _ _ _ _ _ _ _ _ _ _ _ _ _ _ _ _ _ _ _ _ _ _ _ _ _ _ _ _ _ _ _ _ _ _ _ _ _ _ _ _ _ _ _ _ _ _ _ _ _ _ _ _ _ _ _ _ _ _ _ _ _ _ _ _ _ _ _ _ _ _ _ _ _ _ _ _ _ _ _ _ _ _ _ _ _ _ _ _ _ _ _ _ _ _ _ _ _ _ _ _ _ _ _ _ _ _ _ _ _ _ _ _ _ _ _ _ _ _ _ _ _ _ _ _ _ _ _ _ _ _ _ _ _ _ _ _ _ _ _ _ _ _ _ _ _ _ _ _ _ _ _ _ _ _ _ _ _ _ _ _ _ _ _ _ _ _ _ _ _ _ _ _ _ _ _ _ _ _ _ _ _ _ _ _ _ _ _ _ _ _ _ _ _ _ _ _ _ _ _ _ _ _ _ _ _ _ _ _ _ _ _ _ _ _ _ _ _ _ _ _ _ _ _ _ _ _ _ _ _ _ _ _ _ ⟨hStuck, 0, _, _, HX.out.mo.fin (Y := _) (by (repeat (first | exact But.refl _ _ | assumption | refine But.drew ?_ | refine But.drewN ?_ _ | refine But.set ?_ _ _ | refine But.setNew ?_ _ _ (by first | (simp; done) | (simp; omega)) _ | refine But.alloc ?_ _))) hStuck 0, HX.out.run.ol, endO_of (HX.out.st.trans HST.out) hnm⟩
end Go.Proofs.YtbcpomdcmilpjaaDoor
namespace Go.Proofs.YtbcpomdcmilpjaaDoor
open Go.RowKit
set_option maxRecDepth 100000 in
set_option maxHeartbeats 4000000 in
theorem sw_param {w W : World} {I : Im} {adf : Option Addr} {cf : Nat} {wv : Value} {ticks most : Nat} {S0 : Sm} {n t : Nat} {h : Mf} {f : Fm} {fb sb ib : Nat} {S : List En} {gb ob ccap : Nat} {ov : Value} {g : Gm} {nx : List Int} {v : Nat} {op : List UInt8} {d a b : Nat} {imm ra : Int}
  (hX : Sit w W I adf cf wv ticks S0 n t h f fb sb ib S (.slice (some ⟨gb, ob, none⟩) (S.length + 1) ccap) ov g nx v op d a b imm ra) (hnm : n < most) (hk : op = mParam)
  {c0 c1 c2 c4 c6 c7 c8 c9 c15 c18 c21 c24 c25 c26 c27 c28 c29 c30 c31 c32 c33 c34 c35 c36 c37 c38 c39 c40 c41 c42 c43 c44 c45 c46 c47 c48 c49 c50 c51 c52 c53 c54 c55 c56 c57 c58 c59 c60 c61 c62 c63 c64 c65 c66 c67 c68 c69 c70 c71 c72 c73 c74 c75 c76 c77 c78 c79 c80 c81 c82 c83 c84 c85 c86 c87 c88 c89 c90 c91 c92 c93 c94 c95 c96 c97 c98 c99 c100 c101 c102 c103 c104 c105 c106 c107 c108 c109 c110 c111 c112 c113 c114 c115 c116 c117 c118 c119 c120 c121 c122 c123 c124 c375 c376 : Value} {u23 u126 u127 u128 u129 u130 u131 u132 u133 u134 u135 u136 u137 u138 u139 u140 u141 u142 u143 u144 u145 u146 u147 u148 u149 u150 u151 u152 u153 u154 u155 u156 u157 u158 u159 u160 u161 u162 u163 u164 u165 u166 u167 u168 u169 u170 u171 u172 u173 u174 u175 u176 u177 u178 u179 u180 u181 u182 u183 u184 u185 u186 u187 u188 u189 u190 u191 u192 u193 u194 u195 u196 u197 u198 u199 u200 u201 u202 u203 u204 u205 u206 u207 u208 u209 u210 u211 u212 u213 u214 u215 u216 u217 u218 u219 u220 u221 u222 u223 u224 u225 u226 u227 u228 u229 u230 u231 u232 u233 u234 u235 u236 u237 u238 u239 u240 u241 u242 u243 u244 u245 u246 u247 u248 u249 u250 u251 u252 u253 u254 u255 u256 u257 u258 u259 u260 u261 u262 u263 u264 u265 u266 u267 u268 u269 u270 u271 u272 u273 u274 u275 u276 u277 u278 u279 u280 u281 u282 u283 u284 u285 u286 u287 u288 u289 u290 u291 u292 u293 u294 u295 u296 u297 u298 u299 u300 u301 u302 u303 u304 u305 u306 u307 u308 u309 u310 u311 u312 u313 u314 u315 u316 u317 u318 u319 u320 u321 u322 u323 u324 u325 u326 u327 u328 u329 u330 u331 u332 u333 u334 u335 u336 u337 u338 u339 u340 u341 u342 u343 u344 u345 u346 u347 u348 u349 u350 u351 u352 u353 u354 u355 u356 u357 u358 u359 u360 u361 u362 u363 u364 u365 u366 u367 u368 u369 u370 u371 u372 u373 u374 : Value} {Q : Exit → Act → World → Prop}
  (hN : NextH w I (.slice adf I.funs.length cf) wv ticks S0 n most fb ib ra op c0 c1 c2 c4 c6 c7 c8 c9 c15 c18 c21 c24 c25 c26 c27 c28 c29 c30 c31 c32 c33 c34 c35 c36 c37 c38 c39 c40 c41 c42 c43 c44 c45 c46 c47 c48 c49 c50 c51 c52 c53 c54 c55 c56 c57 c58 c59 c60 c61 c62 c63 c64 c65 c66 c67 c68 c69 c70 c71 c72 c73 c74 c75 c76 c77 c78 c79 c80 c81 c82 c83 c84 c85 c86 c87 c88 c89 c90 c91 c92 c93 c94 c95 c96 c97 c98 c99 c100 c101 c102 c103 c104 c105 c106 c107 c108 c109 c110 c111 c112 c113 c114 c115 c116 c117 c118 c119 c120 c121 c122 c123 c124 c375 c376 Q) (hE : RetH w I (.slice adf I.funs.length cf) wv ticks S0 n most fb ib ra op c0 c1 c2 c4 c6 c7 c8 c9 c15 c18 c21 c24 c25 c26 c27 c28 c29 c30 c31 c32 c33 c34 c35 c36 c37 c38 c39 c40 c41 c42 c43 c44 c45 c46 c47 c48 c49 c50 c51 c52 c53 c54 c55 c56 c57 c58 c59 c60 c61 c62 c63 c64 c65 c66 c67 c68 c69 c70 c71 c72 c73 c74 c75 c76 c77 c78 c79 c80 c81 c82 c83 c84 c85 c86 c87 c88 c89 c90 c91 c92 c93 c94 c95 c96 c97 c98 c99 c100 c101 c102 c103 c104 c105 c106 c107 c108 c109 c110 c111 c112 c113 c114 c115 c116 c117 c118 c119 c120 c121 c122 c123 c124 c375 c376 Q) (hP : ∀ c (a : Act) (d : Option Tmp) (v : Value) w, Q (.panic c) (a.put d v) w → Q (.panic c) a w) :
  Code.wp Tryd.prog swC Q ⟨#[c0, c1, c2, .int .i64 (ticks : Int), c4, .pointer (some ⟨w.heap.size, 0, none⟩), c6, c7, c8, c9, .pointer (some ⟨w.heap.size + 1, 0, none⟩), .pointer (some ⟨w.heap.size + 1 + 1, 0, none⟩), .slice (some ⟨gb, ob, none⟩) (S.length + 1) ccap, .int .i64 (-1), .pointer (some ⟨w.heap.size + 1 + 1 + 1, 0, none⟩), c15, .int .i64 (t : Int), .int .i64 (n : Int), c18, .pointer (some ⟨fb, 0, none⟩), .pointer (some ⟨ib, 0, none⟩), c21, .int .i64 ra, u23, c24, c25, c26, c27, c28, c29, c30, c31, c32, c33, c34, c35, c36, c37, c38, c39, c40, c41, c42, c43, c44, c45, c46, c47, c48, c49, c50, c51, c52, c53, c54, c55, c56, c57, c58, c59, c60, c61, c62, c63, c64, c65, c66, c67, c68, c69, c70, c71, c72, c73, c74, c75, c76, c77, c78, c79, c80, c81, c82, c83, c84, c85, c86, c87, c88, c89, c90, c91, c92, c93, c94, c95, c96, c97, c98, c99, c100, c101, c102, c103, c104, c105, c106, c107, c108, c109, c110, c111, c112, c113, c114, c115, c116, c117, c118, c119, c120, c121, c122, c123, c124, .string ⟨op.toArray⟩, u126, u127, u128, u129, u130, u131, u132, u133, u134, u135, u136, u137, u138, u139, u140, u141, u142, u143, u144, u145, u146, u147, u148, u149, u150, u151, u152, u153, u154, u155, u156, u157, u158, u159, u160, u161, u162, u163, u164, u165, u166, u167, u168, u169, u170, u171, u172, u173, u174, u175, u176, u177, u178, u179, u180, u181, u182, u183, u184, u185, u186, u187, u188, u189, u190, u191, u192, u193, u194, u195, u196, u197, u198, u199, u200, u201, u202, u203, u204, u205, u206, u207, u208, u209, u210, u211, u212, u213, u214, u215, u216, u217, u218, u219, u220, u221, u222, u223, u224, u225, u226, u227, u228, u229, u230, u231, u232, u233, u234, u235, u236, u237, u238, u239, u240, u241, u242, u243, u244, u245, u246, u247, u248, u249, u250, u251, u252, u253, u254, u255, u256, u257, u258, u259, u260, u261, u262, u263, u264, u265, u266, u267, u268, u269, u270, u271, u272, u273, u274, u275, u276, u277, u278, u279, u280, u281, u282, u283, u284, u285, u286, u287, u288, u289, u290, u291, u292, u293, u294, u295, u296, u297, u298, u299, u300, u301, u302, u303, u304, u305, u306, u307, u308, u309, u310, u311, u312, u313, u314, u315, u316, u317, u318, u319, u320, u321, u322, u323, u324, u325, u326, u327, u328, u329, u330, u331, u332, u333, u334, u335, u336, u337, u338, u339, u340, u341, u342, u343, u344, u345, u346, u347, u348, u349, u350, u351, u352, u353, u354, u355, u356, u357, u358, u359, u360, u361, u362, u363, u364, u365, u366, u367, u368, u369, u370, u371, u372, u373, u374, c375, c376], []⟩ W := by
 subst hk
 have q0 : W.cell? ⟨ib, 0, none⟩ = some (.string ⟨([112, 97, 114, 97, 109] : List UInt8).toArray⟩) := cell_of_blk hX.ins 0
 have q1 : W.cell? ⟨ib, 1, none⟩ = some (.int .i64 (d : Int)) := cell_of_blk hX.ins 1
 have HNM := hidX hnm
 have hi0 : 0 ≤ imm := by have := (hX.okw.par (by rw [hX.dec]; exact Or.inl rfl)).1; have h2 := hX.dec; rw [h2] at this; dsimp only at this; omega
 obtain ⟨m, rfl⟩ : ∃ m : Nat, imm = (m : Int) := ⟨imm.toNat, by omega⟩
 have q4 : W.cell? ⟨ib, 4, none⟩ = some (.int .i64 (m : Int)) := cell_of_blk hX.ins 4
 have hm4 : m < 4 := by have := (hX.okw.par (by rw [hX.dec]; exact Or.inl rfl)).2; have h2 := hX.dec; rw [h2] at this; dsimp only at this; omega
 have hm4' : (m : Int) < 4 := by omega
 have HX := hidX hX
 have HN := hidX hN
 have HE := hidX hE
 have hd8 := hX.d8
 have ha8 := hX.a8
 have hb8 := hX.b8
 have hd8' : (d : Int) < 8 := by omega
 have ha8' : (a : Int) < 8 := by omega
 have hb8' : (b : Int) < 8 := by omega
 have p1 : W.cell? ⟨fb, 1, none⟩ = some (.int .i64 f.params) := by have hpl := (HX.out.mo.fr _ List.mem_cons_self).pl; rw [cell_of_blk (HX.out.mo.fr _ List.mem_cons_self).blk]; show some (Value.int .i64 h.params) = _; rw [show h.params = f.params from hpl]
 have hD := doM_param (I := I) (m := ticks) (g := g) (f := f.go (f.pc + 1)) (fs := S.map En.f) (i := ⟨mParam, (d : Int), (a : Int), (b : Int), (m : Int)⟩) rfl
 replace hD : doM I ticks g (f.go (f.pc + 1)) (S.map En.f) ⟨mParam, (d : Int), (a : Int), (b : Int), (m : Int)⟩ = if (m : Int) < f.params then .run g ((f.go (f.pc + 1)).put d (f.args.getD m 0)) (S.map En.f) else .halt hStuck 0 g := hD
 by_cases hlt' : (m : Int) < f.params
 ·have HST := hidX (hX.st.trans (hD.trans (if_pos hlt')))
  have s0 : W.cell? ⟨fb, 13 + m, none⟩ = some (.int .i64 (f.args.getD m 0)) := by rw [cell_of_blk (HX.out.mo.fr _ List.mem_cons_self).blk, List.getElem?_toArray, enL_arg (HX.out.mo.fr _ List.mem_cons_self).rl (HX.out.mo.fr _ List.mem_cons_self).al hm4]; rfl
  have v64 : In64 (f.args.getD m 0) := getD64G (HX.out.mo.fr _ List.mem_cons_self).a64 m
  have fr := free_of_blk (HX.out.mo.fr _ List.mem_cons_self).blk (4 + d)
  have rd : W.cell? ⟨fb, 4 + d, none⟩ = some (.int .i64 (f.regs.getD d 0)) := by rw [cell_of_blk (HX.out.mo.fr _ List.mem_cons_self).blk, List.getElem?_toArray, enL_reg (HX.out.mo.fr _ List.mem_cons_self).rl hd8]; rfl
  obtain ⟨vd, hvd⟩ : ∃ vd, vd = f.regs.getD d 0 := ⟨_, rfl⟩
  rw [← hvd] at rd
  clear hvd hD
  generalize f.args.getD m 0 = va at s0 v64 HST
  obtain ⟨pl, hpq⟩ : ∃ pl, pl = f.params := ⟨_, rfl⟩
  rw [← hpq] at p1 hlt'
  clear hpq
  clear hX hN hE
  conv => arg 2; whnf
  go_wp2_with fail
  go_quiet (fail)
  go_wp2_with fail
  refine wp_region_V (fun W => W.cell? ⟨ib, 1, none⟩ = some (.int .i64 (d : Int)) ∧ W.cell? ⟨ib, 4, none⟩ = some (.int .i64 (m : Int)) ∧ W.cell? ⟨fb, 13 + m, none⟩ = some (.int .i64 va)) 13 (by kernel_rfl) ⟨q1, q4, s0⟩ (fun hHeld => ?_)
  refine wpAnyV_any 0 (some 237) (v := ?v0r4) rfl rfl (by kernel_rfl) (by kernel_rfl) (by kernel_rfl) (by kernel_rfl) (fun _ _ _ h => hP _ _ _ _ _ h) (Or.inl ⟨by rfl, ?hy0r4⟩) hHeld ?rest0r4
  case hy0r4 => (intro w2 hSw; (try dsimp only at hSw); first | (go_simp; done) | (go_simp; with_reducible rfl))
  simp only [Act.put, List.setIfInBounds_toArray, List.set_cons_zero, List.set_cons_succ]
  refine wpAnyV_any 1 (some 238) (v := ?v1r4) rfl rfl (by kernel_rfl) (by kernel_rfl) (by kernel_rfl) (by kernel_rfl) (fun _ _ _ h => hP _ _ _ _ _ h) (Or.inl ⟨by rfl, ?hy1r4⟩) hHeld ?rest1r4
  case hy1r4 => (intro w2 hSw; (try dsimp only at hSw); first | (go_simp; done) | (go_simp; with_reducible rfl))
  simp only [Act.put, List.setIfInBounds_toArray, List.set_cons_zero, List.set_cons_succ]
  refine wpAnyV_put 2 (some 239) (v := ?v2r4) rfl rfl (by kernel_rfl) (by kernel_rfl) (by kernel_rfl) (by kernel_rfl) (by kernel_rfl) (fun _ _ _ h => hP _ _ _ _ _ h) (Or.inl ⟨by rfl, ?hy2r4⟩) hHeld ?rest2r4
  case hy2r4 => (intro w2 hSw; (try dsimp only at hSw); first | (go_simp; done) | (go_simp; with_reducible rfl))
  simp only [Act.put, List.setIfInBounds_toArray, List.set_cons_zero, List.set_cons_succ]
  refine wpAnyV_any 3 (some 240) (v := ?v3r4) rfl rfl (by kernel_rfl) (by kernel_rfl) (by kernel_rfl) (by kernel_rfl) (fun _ _ _ h => hP _ _ _ _ _ h) (Or.inl ⟨by rfl, ?hy3r4⟩) hHeld ?rest3r4
  case hy3r4 => (intro w2 hSw; (try dsimp only at hSw); first | (go_simp; done) | (go_simp; with_reducible rfl))
  simp only [Act.put, List.setIfInBounds_toArray, List.set_cons_zero, List.set_cons_succ]
  refine wpAnyV_any 4 (some 241) (v := ?v4r4) rfl rfl (by kernel_rfl) (by kernel_rfl) (by kernel_rfl) (by kernel_rfl) (fun _ _ _ h => hP _ _ _ _ _ h) (Or.inl ⟨by rfl, ?hy4r4⟩) hHeld ?rest4r4
  case hy4r4 => (intro w2 hSw; (try dsimp only at hSw); first | (go_simp; done) | (go_simp; with_reducible rfl))
  simp only [Act.put, List.setIfInBounds_toArray, List.set_cons_zero, List.set_cons_succ]
  refine wpAnyV_put 5 (some 242) (v := ?v5r4) rfl rfl (by kernel_rfl) (by kernel_rfl) (by kernel_rfl) (by kernel_rfl) (by kernel_rfl) (fun _ _ _ h => hP _ _ _ _ _ h) (Or.inl ⟨by rfl, ?hy5r4⟩) hHeld ?rest5r4
  case hy5r4 => (intro w2 hSw; (try dsimp only at hSw); first | (go_simp; done) | (go_simp; with_reducible rfl))
  simp only [Act.put, List.setIfInBounds_toArray, List.set_cons_zero, List.set_cons_succ]
  refine wpAnyV_any 6 (some 243) (v := ?v6r4) rfl rfl (by kernel_rfl) (by kernel_rfl) (by kernel_rfl) (by kernel_rfl) (fun _ _ _ h => hP _ _ _ _ _ h) (Or.inl ⟨by rfl, ?hy6r4⟩) hHeld ?rest6r4
  case hy6r4 => (intro w2 hSw; (try dsimp only at hSw); first | (go_simp; done) | (go_simp; with_reducible rfl))
  simp only [Act.put, List.setIfInBounds_toArray, List.set_cons_zero, List.set_cons_succ]
  refine wpAnyV_any 7 (some 244) (v := ?v7r4) rfl rfl (by kernel_rfl) (by kernel_rfl) (by kernel_rfl) (by kernel_rfl) (fun _ _ _ h => hP _ _ _ _ _ h) (Or.inl ⟨by rfl, ?hy7r4⟩) hHeld ?rest7r4
  case hy7r4 => (intro w2 hSw; (try dsimp only at hSw); first | (go_simp; done) | (go_simp; with_reducible rfl))
  simp only [Act.put, List.setIfInBounds_toArray, List.set_cons_zero, List.set_cons_succ]
  refine wpAnyV_any 8 (some 245) (v := ?v8r4) rfl rfl (by kernel_rfl) (by kernel_rfl) (by kernel_rfl) (by kernel_rfl) (fun _ _ _ h => hP _ _ _ _ _ h) (Or.inl ⟨by rfl, ?hy8r4⟩) hHeld ?rest8r4
  case hy8r4 => (intro w2 hSw; (try dsimp only at hSw); first | (go_simp; done) | (go_simp; with_reducible rfl))
  simp only [Act.put, List.setIfInBounds_toArray, List.set_cons_zero, List.set_cons_succ]
  refine wpAnyV_put 9 (some 246) (v := ?v9r4) rfl rfl (by kernel_rfl) (by kernel_rfl) (by kernel_rfl) (by kernel_rfl) (by kernel_rfl) (fun _ _ _ h => hP _ _ _ _ _ h) (Or.inl ⟨by rfl, ?hy9r4⟩) hHeld ?rest9r4
  case hy9r4 => (intro w2 hSw; (try dsimp only at hSw); first | (go_simp; done) | (go_simp; with_reducible rfl))
  simp only [Act.put, List.setIfInBounds_toArray, List.set_cons_zero, List.set_cons_succ]
  refine wpAnyV_any 10 (some 247) (v := ?v10r4) rfl rfl (by kernel_rfl) (by kernel_rfl) (by kernel_rfl) (by kernel_rfl) (fun _ _ _ h => hP _ _ _ _ _ h) (Or.inl ⟨by rfl, ?hy10r4⟩) hHeld ?rest10r4
  case hy10r4 => (intro w2 hSw; (try dsimp only at hSw); first | (go_simp; done) | (go_simp; with_reducible rfl))
  simp only [Act.put, List.setIfInBounds_toArray, List.set_cons_zero, List.set_cons_succ]
  refine wpAnyV_any 11 (some 248) (v := ?v11r4) rfl rfl (by kernel_rfl) (by kernel_rfl) (by kernel_rfl) (by kernel_rfl) (fun _ _ _ h => hP _ _ _ _ _ h) (Or.inl ⟨by rfl, ?hy11r4⟩) hHeld ?rest11r4
  case hy11r4 => (intro w2 hSw; (try dsimp only at hSw); first | (go_simp; done) | (go_simp; with_reducible rfl))
  simp only [Act.put, List.setIfInBounds_toArray, List.set_cons_zero, List.set_cons_succ]
  refine wpAnyV_any 12 (some 249) (v := ?v12r4) rfl rfl (by kernel_rfl) (by kernel_rfl) (by kernel_rfl) (by kernel_rfl) (fun _ _ _ h => hP _ _ _ _ _ h) (Or.inl ⟨by rfl, ?hy12r4⟩) hHeld ?rest12r4
  case hy12r4 => (intro w2 hSw; (try dsimp only at hSw); first | (go_simp; done) | (go_simp; with_reducible rfl))
  simp only [Act.put, List.setIfInBounds_toArray, List.set_cons_zero, List.set_cons_succ]
  refine wpAnyV_one (i := 13) (by kernel_rfl) rfl (fun K13 hK13 => ?_)
  go_simp
  refine hK13.out _ _ (fun h => absurd rfl h) (fun _ => ?_)
  clear hK13 K13 hHeld
  try simp only [Act.put, List.setIfInBounds_toArray, List.set_cons_zero, List.set_cons_succ]
  refine wpAnyV_done (by kernel_rfl) ?_ _
  go_wp2
  exact HN.out _ _ _ _ _ _ _ _ _ _ _ _ _ _ _ _ _ _ _ _ _ _ _ _ _ _ _ _ _ _ _ _ _ _ _ _ _ _ _ _ _ _ _ _ _ _ _ _ _ _ _ _ _ _ _ _ _ _ _ _ _ _ _ _ _ _ _ _ _ _ _ _ _ _ _ _ _ _ _ _ _ _ _ _ _ _ _ _ _ _ _ _ _ _ _ _ _ _ _ _ _ _ _ _ _ _ _ _ _ _ _ _ _ _ _ _ _ _ _ _ _ _ _ _ _ _ _ _ _ _ _ _ _ _ _ _ _ _ _ _ _ _ _ _ _ _ _ _ _ _ _ _ _ _ _ _ _ _ _ _ _ _ _ _ _ _ _ _ _ _ _ _ _ _ _ _ _ _ _ _ _ _ _ _ _ _ _ _ _ _ _ _ _ _ _ _ _ _ _ _ _ _ _ _ _ _ _ _ _ _ _ _ _ _ _ _ _ _ _ _ _ _ _ _ _ _ _ _ _ _ _ _ _ _ _ _ _ _ _ _ _ _ _ _ _ _ _ _ _ _ _ _ _ _ ⟨(-1), t, (⟨h, ((f.go (f.pc + 1)).put d va), fb, sb⟩ :: S), _, g, nx, rfl, rfl, RunM.goes (f' := ((f.go (f.pc + 1)).put d va)) HX.out.run HX.out.t8 HST.out rfl rfl (by show f.pc + 1 ≤ _; exact HX.out.pcl) HX.out.run.ol HX.out.run.tk, (HX.out.mo.below (by (repeat (first | exact Below.refl _ _ | assumption | refine Below.drew ?_ | refine bT ?_ _ | refine bS ?_ _ | refine bA ?_ _)))).put hd8 v64⟩
 ·have HST := hidX (hD.trans (if_neg hlt'))
  obtain ⟨oad, ocap, rfl⟩ := own_is hX.mo.out
  have o0 : W.cell? ⟨w.heap.size + 1 + 1, 0, none⟩ = some (.string ⟨#[]⟩) := cell_of_blk hX.mo.ob 0
  have o1 : W.cell? ⟨w.heap.size + 1 + 1, 1, none⟩ = some (.int .i64 0) := cell_of_blk hX.mo.ob 1
  have o2 : W.cell? ⟨w.heap.size + 1 + 1, 2, none⟩ = some (.slice oad g.out.length ocap) := cell_of_blk hX.mo.ob 2
  have o3 : W.cell? ⟨w.heap.size + 1 + 1, 3, none⟩ = some (.int .i64 (g.ticks : Int)) := cell_of_blk hX.mo.ob 3
  have fo0 := free_of_blk hX.mo.ob 0
  have fo1 := free_of_blk hX.mo.ob 1
  have r0 : W.cell? ⟨w.heap.size + 1, 0, none⟩ = some (.string ⟨#[]⟩) := cell_of_blk hX.mo.res 0
  have r1 : W.cell? ⟨w.heap.size + 1, 1, none⟩ = some (.int .i64 0) := cell_of_blk hX.mo.res 1
  have r2 : W.cell? ⟨w.heap.size + 1, 2, none⟩ = some (.slice none 0 0) := cell_of_blk hX.mo.res 2
  have r3 : W.cell? ⟨w.heap.size + 1, 3, none⟩ = some (.int .i64 0) := cell_of_blk hX.mo.res 3
  have fr0 := free_of_blk hX.mo.res 0
  have fr1 := free_of_blk hX.mo.res 1
  have fr2 := free_of_blk hX.mo.res 2
  have fr3 := free_of_blk hX.mo.res 3
  clear hD
  obtain ⟨pl, hpq⟩ : ∃ pl, pl = f.params := ⟨_, rfl⟩
  rw [← hpq] at p1 hlt'
  clear hpq
  clear hX hN hE
  conv => arg 2; whnf
  go_wp2_with fail
  go_quiet (fail)
  go_wp2
  exact HE.out _ _ _ _ _ _ _ _ _ _ _ _ _ _ _ _ _ _ _ _ _ _ _ _ _ _ _ _ _ _ _ _ _ _ _ _ _ _ _ _ _ _ _ _ _ _ _ _ _ _ _ _ _ _ _ _ _ _ _ _ _ _ _ _ _ _ _ _ _ _ _ _ _ _ _ _ _ _ _ _ _ _ _ _ _ _ _ _ _ _ _ _ _ _ _ _ _ _ _ _ _ _ _ _ _ _ _ _ _ _ _ _ _ _ _ _ _ _ _ _ _ _ _ _ _ _ _ _ _ _ _ _ _ _ _ _ _ _ _ _ _ _ _ _ _ _ _ _ _ _ _ _ _ _ _ _ _ _ _ _ _ _ _ _ _ _ _ _ _ _ _ _ _ _ _ _ _ _ _ _ _ _ _ _ _ _ _ _ _ _ _ _ _ _ _ _ _ _ _ _ _ _ _ _ _ _ _ _ _ _ _ _ _ _ _ _ _ _ _ _ _ _ _ _ _ _ _ _ _ _ _ _ _ _ _ _ _ _ _ _ _ _ _ _ _ _ _ _ _ _ _ _ _ _ ⟨hStuck, 0, _, _, HX.out.mo.fin (Y := _) (by (repeat (first | exact But.refl _ _ | assumption | refine But.drew ?_ | refine But.drewN ?_ _ | refine But.set ?_ _ _ | refine But.setNew ?_ _ _ (by first | (simp; done) | (simp; omega)) _ | refine But.alloc ?_ _))) hStuck 0, HX.out.run.ol, endO_of (HX.out.st.trans HST.out) hnm⟩
end Go.Proofs.YtbcpomdcmilpjaaDoor
