/- Our own: texts joined: MoEnt. -/
import Derived.Test.YtbcpomdcmilpjaaDoorXMoWd
namespace Go.Proofs.YtbcpomdcmilpjaaDoor
open Go.RowKit
noncomputable def p13C : Code := fstC ((Tryd.f14.body.bind (fromOf 13)).getD .skip)
set_option maxRecDepth 100000 in
set_option maxHeartbeats 4000000 in
theorem enter_any {w W : World} {I : Im} {adf adw : Option Addr} {cf cw : Nat} {ticks most : Nat} {S0 : Sm} {n t : Nat} {en : Int} {S : List En} {cv ov : Value} {g : Gm} {nx : List Int}
  (hA : AtM I ticks S0 n en t S g nx) (hM : Mo w W (.slice adf I.funs.length cf) (.slice adw I.words.length cw) S cv ov g nx) (hF : XMf (InH w) w (.slice adf I.funs.length cf) I.funs) (hW : WellI I) (htk : ticks ≤ 5000) (hn : n ≤ most)
  {c0 c1 c2 c4 c6 c7 c8 c9 c15 c17 c19 c20 c21 c22 c23 c24 c25 c26 c27 c28 c29 c30 c31 c32 c33 c34 c35 c36 c37 c38 c39 c40 c41 c42 c78 c79 c80 c81 c82 c83 c84 c85 c86 c87 c88 c89 c90 c91 c92 c93 c94 c95 c96 c97 c98 c99 c100 c101 c102 c103 c104 c105 c106 c107 c108 c109 c110 c111 c112 c113 c114 c115 c116 c117 c118 c119 c120 c121 c122 c123 c124 c125 c126 c127 c128 c129 c130 c131 c132 c133 c134 c135 c136 c137 c138 c139 c140 c141 c142 c143 c144 c145 c146 c147 c148 c149 c150 c151 c152 c153 c154 c155 c156 c157 c158 c159 c160 c161 c162 c163 c164 c165 c166 c167 c168 c169 c170 c171 c172 c173 c174 c175 c176 c177 c178 c179 c180 c181 c182 c183 c184 c185 c186 c187 c188 c189 c190 c191 c192 c193 c194 c195 c196 c197 c198 c199 c200 c201 c202 c203 c204 c205 c206 c207 c208 c209 c210 c211 c212 c213 c214 c215 c216 c217 c218 c219 c220 c221 c222 c223 c224 c225 c226 c227 c228 c229 c230 c231 c232 c233 c234 c235 c236 c237 c238 c239 c240 c241 c242 c243 c244 c245 c246 c247 c248 c249 c250 c251 c252 c253 c254 c255 c256 c257 c258 c259 c260 c261 c262 c263 c264 c265 c266 c267 c268 c269 c270 c271 c272 c273 c274 c275 c276 c277 c278 c279 c280 c281 c282 c283 c284 c285 c286 c287 c288 c289 c290 c291 c292 c293 c294 c295 c296 c297 c298 c299 c300 c301 c302 c303 c304 c305 c306 c307 c308 c309 c310 c311 c312 c313 c314 c315 c316 c317 c318 c319 c320 c321 c322 c323 c324 c325 c326 c327 c328 c329 c330 c331 c332 c333 c334 c335 c336 c337 c338 c339 c340 c341 c342 c343 c344 c345 c346 c347 c348 c349 c350 c351 c352 c353 c354 c355 c356 c357 c358 c359 c360 c361 c362 c363 c364 c365 c366 c367 c368 c369 c370 c371 c372 c373 c374 c375 c376 : Value} {u18 u43 u44 u45 u46 u47 u48 u49 u50 u51 u52 u53 u54 u55 u56 u57 u58 u59 u60 u61 u62 u63 u64 u65 u66 u67 u68 u69 u70 u71 u72 u73 u74 u75 u76 u77 : Value} {Q : Exit → Act → World → Prop} (hPan : ∀ c (a : Act) (d : Option Tmp) (v : Value) w, Q (.panic c) (a.put d v) w → Q (.panic c) a w)
  (hN : ∀ (u12 u13 u18 u43 u44 u45 u46 u47 u48 u49 u50 u51 u52 u53 u54 u55 u56 u57 u58 u59 u60 u61 u62 u63 u64 u65 u66 u67 u68 u69 u70 u71 u72 u73 u74 u75 u76 u77 : Value) (w1 : World), (∃ (e : En) (S2 : List En) (ov2 : Value) (g2 : Gm), u13 = .int .i64 (-1) ∧ RunM I ticks S0 n e S2 g2 ∧ Mo w w1 (.slice adf I.funs.length cf) (.slice adw I.words.length cw) (e :: S2) u12 ov2 g2 nx) → Q .normal ⟨#[c0, c1, c2, .int .i64 (ticks : Int), c4, .pointer (some ⟨w.heap.size, 0, none⟩), c6, c7, c8, c9, .pointer (some ⟨w.heap.size + 1, 0, none⟩), .pointer (some ⟨w.heap.size + 1 + 1, 0, none⟩), u12, u13, .pointer (some ⟨w.heap.size + 1 + 1 + 1, 0, none⟩), c15, .int .i64 (t : Int), c17, u18, c19, c20, c21, c22, c23, c24, c25, c26, c27, c28, c29, c30, c31, c32, c33, c34, c35, c36, c37, c38, c39, c40, c41, c42, u43, u44, u45, u46, u47, u48, u49, u50, u51, u52, u53, u54, u55, u56, u57, u58, u59, u60, u61, u62, u63, u64, u65, u66, u67, u68, u69, u70, u71, u72, u73, u74, u75, u76, u77, c78, c79, c80, c81, c82, c83, c84, c85, c86, c87, c88, c89, c90, c91, c92, c93, c94, c95, c96, c97, c98, c99, c100, c101, c102, c103, c104, c105, c106, c107, c108, c109, c110, c111, c112, c113, c114, c115, c116, c117, c118, c119, c120, c121, c122, c123, c124, c125, c126, c127, c128, c129, c130, c131, c132, c133, c134, c135, c136, c137, c138, c139, c140, c141, c142, c143, c144, c145, c146, c147, c148, c149, c150, c151, c152, c153, c154, c155, c156, c157, c158, c159, c160, c161, c162, c163, c164, c165, c166, c167, c168, c169, c170, c171, c172, c173, c174, c175, c176, c177, c178, c179, c180, c181, c182, c183, c184, c185, c186, c187, c188, c189, c190, c191, c192, c193, c194, c195, c196, c197, c198, c199, c200, c201, c202, c203, c204, c205, c206, c207, c208, c209, c210, c211, c212, c213, c214, c215, c216, c217, c218, c219, c220, c221, c222, c223, c224, c225, c226, c227, c228, c229, c230, c231, c232, c233, c234, c235, c236, c237, c238, c239, c240, c241, c242, c243, c244, c245, c246, c247, c248, c249, c250, c251, c252, c253, c254, c255, c256, c257, c258, c259, c260, c261, c262, c263, c264, c265, c266, c267, c268, c269, c270, c271, c272, c273, c274, c275, c276, c277, c278, c279, c280, c281, c282, c283, c284, c285, c286, c287, c288, c289, c290, c291, c292, c293, c294, c295, c296, c297, c298, c299, c300, c301, c302, c303, c304, c305, c306, c307, c308, c309, c310, c311, c312, c313, c314, c315, c316, c317, c318, c319, c320, c321, c322, c323, c324, c325, c326, c327, c328, c329, c330, c331, c332, c333, c334, c335, c336, c337, c338, c339, c340, c341, c342, c343, c344, c345, c346, c347, c348, c349, c350, c351, c352, c353, c354, c355, c356, c357, c358, c359, c360, c361, c362, c363, c364, c365, c366, c367, c368, c369, c370, c371, c372, c373, c374, c375, c376], []⟩ w1)
  (hE : ∀ (u12 u13 u18 u43 u44 u45 u46 u47 u48 u49 u50 u51 u52 u53 u54 u55 u56 u57 u58 u59 u60 u61 u62 u63 u64 u65 u66 u67 u68 u69 u70 u71 u72 u73 u74 u75 u76 u77 : Value) (w1 : World), SwE w w1 I ticks most S0 → Q .ret ⟨#[c0, c1, c2, .int .i64 (ticks : Int), c4, .pointer (some ⟨w.heap.size, 0, none⟩), c6, c7, c8, c9, .pointer (some ⟨w.heap.size + 1, 0, none⟩), .pointer (some ⟨w.heap.size + 1 + 1, 0, none⟩), u12, u13, .pointer (some ⟨w.heap.size + 1 + 1 + 1, 0, none⟩), c15, .int .i64 (t : Int), c17, u18, c19, c20, c21, c22, c23, c24, c25, c26, c27, c28, c29, c30, c31, c32, c33, c34, c35, c36, c37, c38, c39, c40, c41, c42, u43, u44, u45, u46, u47, u48, u49, u50, u51, u52, u53, u54, u55, u56, u57, u58, u59, u60, u61, u62, u63, u64, u65, u66, u67, u68, u69, u70, u71, u72, u73, u74, u75, u76, u77, c78, c79, c80, c81, c82, c83, c84, c85, c86, c87, c88, c89, c90, c91, c92, c93, c94, c95, c96, c97, c98, c99, c100, c101, c102, c103, c104, c105, c106, c107, c108, c109, c110, c111, c112, c113, c114, c115, c116, c117, c118, c119, c120, c121, c122, c123, c124, c125, c126, c127, c128, c129, c130, c131, c132, c133, c134, c135, c136, c137, c138, c139, c140, c141, c142, c143, c144, c145, c146, c147, c148, c149, c150, c151, c152, c153, c154, c155, c156, c157, c158, c159, c160, c161, c162, c163, c164, c165, c166, c167, c168, c169, c170, c171, c172, c173, c174, c175, c176, c177, c178, c179, c180, c181, c182, c183, c184, c185, c186, c187, c188, c189, c190, c191, c192, c193, c194, c195, c196, c197, c198, c199, c200, c201, c202, c203, c204, c205, c206, c207, c208, c209, c210, c211, c212, c213, c214, c215, c216, c217, c218, c219, c220, c221, c222, c223, c224, c225, c226, c227, c228, c229, c230, c231, c232, c233, c234, c235, c236, c237, c238, c239, c240, c241, c242, c243, c244, c245, c246, c247, c248, c249, c250, c251, c252, c253, c254, c255, c256, c257, c258, c259, c260, c261, c262, c263, c264, c265, c266, c267, c268, c269, c270, c271, c272, c273, c274, c275, c276, c277, c278, c279, c280, c281, c282, c283, c284, c285, c286, c287, c288, c289, c290, c291, c292, c293, c294, c295, c296, c297, c298, c299, c300, c301, c302, c303, c304, c305, c306, c307, c308, c309, c310, c311, c312, c313, c314, c315, c316, c317, c318, c319, c320, c321, c322, c323, c324, c325, c326, c327, c328, c329, c330, c331, c332, c333, c334, c335, c336, c337, c338, c339, c340, c341, c342, c343, c344, c345, c346, c347, c348, c349, c350, c351, c352, c353, c354, c355, c356, c357, c358, c359, c360, c361, c362, c363, c364, c365, c366, c367, c368, c369, c370, c371, c372, c373, c374, c375, c376], []⟩ w1) :
  Code.wp Tryd.prog p13C Q ⟨#[c0, c1, c2, .int .i64 (ticks : Int), c4, .pointer (some ⟨w.heap.size, 0, none⟩), c6, c7, c8, c9, .pointer (some ⟨w.heap.size + 1, 0, none⟩), .pointer (some ⟨w.heap.size + 1 + 1, 0, none⟩), cv, .int .i64 en, .pointer (some ⟨w.heap.size + 1 + 1 + 1, 0, none⟩), c15, .int .i64 (t : Int), c17, u18, c19, c20, c21, c22, c23, c24, c25, c26, c27, c28, c29, c30, c31, c32, c33, c34, c35, c36, c37, c38, c39, c40, c41, c42, u43, u44, u45, u46, u47, u48, u49, u50, u51, u52, u53, u54, u55, u56, u57, u58, u59, u60, u61, u62, u63, u64, u65, u66, u67, u68, u69, u70, u71, u72, u73, u74, u75, u76, u77, c78, c79, c80, c81, c82, c83, c84, c85, c86, c87, c88, c89, c90, c91, c92, c93, c94, c95, c96, c97, c98, c99, c100, c101, c102, c103, c104, c105, c106, c107, c108, c109, c110, c111, c112, c113, c114, c115, c116, c117, c118, c119, c120, c121, c122, c123, c124, c125, c126, c127, c128, c129, c130, c131, c132, c133, c134, c135, c136, c137, c138, c139, c140, c141, c142, c143, c144, c145, c146, c147, c148, c149, c150, c151, c152, c153, c154, c155, c156, c157, c158, c159, c160, c161, c162, c163, c164, c165, c166, c167, c168, c169, c170, c171, c172, c173, c174, c175, c176, c177, c178, c179, c180, c181, c182, c183, c184, c185, c186, c187, c188, c189, c190, c191, c192, c193, c194, c195, c196, c197, c198, c199, c200, c201, c202, c203, c204, c205, c206, c207, c208, c209, c210, c211, c212, c213, c214, c215, c216, c217, c218, c219, c220, c221, c222, c223, c224, c225, c226, c227, c228, c229, c230, c231, c232, c233, c234, c235, c236, c237, c238, c239, c240, c241, c242, c243, c244, c245, c246, c247, c248, c249, c250, c251, c252, c253, c254, c255, c256, c257, c258, c259, c260, c261, c262, c263, c264, c265, c266, c267, c268, c269, c270, c271, c272, c273, c274, c275, c276, c277, c278, c279, c280, c281, c282, c283, c284, c285, c286, c287, c288, c289, c290, c291, c292, c293, c294, c295, c296, c297, c298, c299, c300, c301, c302, c303, c304, c305, c306, c307, c308, c309, c310, c311, c312, c313, c314, c315, c316, c317, c318, c319, c320, c321, c322, c323, c324, c325, c326, c327, c328, c329, c330, c331, c332, c333, c334, c335, c336, c337, c338, c339, c340, c341, c342, c343, c344, c345, c346, c347, c348, c349, c350, c351, c352, c353, c354, c355, c356, c357, c358, c359, c360, c361, c362, c363, c364, c365, c366, c367, c368, c369, c370, c371, c372, c373, c374, c375, c376], []⟩ W := by
 have HA := hidX hA
 have HJ := hidX hM
 have HF := hidX hF
 have HW := hidX hW
 have HNX := hidX hN
 have HRET := hidX hE
 have hfl' : (I.funs.length : Int) ≤ 8 := by have := hW.fl; omega
 have htk' : (ticks : Int) ≤ 5000 := by omega
 have ht8 := hA.t8
 clear hA hM hF hW hN hE
 conv => arg 2; whnf
 rcases HA.out.st with ⟨h0, h1, hst⟩ | ⟨rfl, e, S', rfl, hst⟩
 ·obtain ⟨cad, ccap, rfl⟩ := own_is HJ.out.row
  have o3 : W.cell? ⟨w.heap.size + 1 + 1, 3, none⟩ = some (.int .i64 (g.ticks : Int)) := cell_of_blk HJ.out.ob 3
  have HOL := hidX HA.out.ol
  have HST := hidX hst
  clear hst
  have htb := HA.out.tk
  by_cases hti : ticks ≤ g.ticks
  ·have hti' : (ticks : Int) ≤ (g.ticks : Int) := by omega
   have HE := hidX (show EndO I ticks most S0 hTired 0 g from Or.inl (itM_stay (n := n) (by rw [HST.out]; unfold enterM; rw [if_pos hti]) hn))
   clear HST hti HA o3
   obtain ⟨oad, ocap, rfl⟩ := own_is HJ.out.out
   have hmo2 := HJ.out
   have o0 := cell_of_blk hmo2.ob 0
   have o1 := cell_of_blk hmo2.ob 1
   have o2 := cell_of_blk hmo2.ob 2
   have o3 := cell_of_blk hmo2.ob 3
   have fo0 := free_of_blk hmo2.ob 0
   have fo1 := free_of_blk hmo2.ob 1
   have r0 := cell_of_blk hmo2.res 0
   have r1 := cell_of_blk hmo2.res 1
   have r2 := cell_of_blk hmo2.res 2
   have r3 := cell_of_blk hmo2.res 3
   have fr0 := free_of_blk hmo2.res 0
   have fr1 := free_of_blk hmo2.res 1
   have fr2 := free_of_blk hmo2.res 2
   have fr3 := free_of_blk hmo2.res 3
   simp only [List.getElem?_toArray, List.getElem?_cons_zero, List.getElem?_cons_succ] at o0 o1 o2 o3 r0 r1 r2 r3
   clear hmo2
   go_wp2
   exact HRET.out _ _ _ _ _ _ _ _ _ _ _ _ _ _ _ _ _ _ _ _ _ _ _ _ _ _ _ _ _ _ _ _ _ _ _ _ _ _  _ ⟨hTired, 0, _, _, HJ.out.fin (Y := _) (by (repeat (first | exact But.refl _ _ | assumption | refine But.drew ?_ | refine But.drewN ?_ _ | refine But.set ?_ _ _ | refine But.setNew ?_ _ _ (by first | (simp; done) | (simp; omega)) _ | refine But.alloc ?_ _))) hTired 0, HOL.out, HE.out⟩
  ·have hti' : ¬ (ticks : Int) ≤ (g.ticks : Int) := by omega
   have ht1 : (g.ticks : Int) ≤ 5000 := by omega
   have HJ1 := hidX (HJ.out.tick (g.ticks + 1))
   rw [show ((g.ticks + 1 : Nat) : Int) = (g.ticks : Int) + 1 from by omega] at HJ1
   have fo3 := free_of_blk HJ.out.ob 3
   have hsl : (S.length : Int) ≤ 40 := by have := HA.out.dl; omega
   obtain ⟨W1, hW1⟩ : ∃ W1, W1 = W.setCell ⟨w.heap.size + 1 + 1, 3, none⟩ (.int .i64 ((g.ticks : Int) + 1)) := ⟨_, rfl⟩
   go_upto_region 18 with fail
   rw [← hW1] at HJ1 ⊢
   clear hW1 o3 fo3
   by_cases hd : 40 ≤ S.length
   ·have hd' : (40 : Int) ≤ (S.length : Int) := by omega
    have HE := hidX (show EndO I ticks most S0 hDeep 0 ⟨g.out, g.ticks + 1⟩ from Or.inl (itM_stay (n := n) (by rw [HST.out]; unfold enterM; rw [if_neg hti, if_pos (by simpa using hd)]) hn))
    clear hti HA HST hti'
    obtain ⟨oad, ocap, rfl⟩ := own_is HJ1.out.out
    have hmo2 := HJ1.out
    have o0 := cell_of_blk hmo2.ob 0
    have o1 := cell_of_blk hmo2.ob 1
    have o2 := cell_of_blk hmo2.ob 2
    have o3 := cell_of_blk hmo2.ob 3
    have fo0 := free_of_blk hmo2.ob 0
    have fo1 := free_of_blk hmo2.ob 1
    have r0 := cell_of_blk hmo2.res 0
    have r1 := cell_of_blk hmo2.res 1
    have r2 := cell_of_blk hmo2.res 2
    have r3 := cell_of_blk hmo2.res 3
    have fr0 := free_of_blk hmo2.res 0
    have fr1 := free_of_blk hmo2.res 1
    have fr2 := free_of_blk hmo2.res 2
    have fr3 := free_of_blk hmo2.res 3
    simp only [List.getElem?_toArray, List.getElem?_cons_zero, List.getElem?_cons_succ] at o0 o1 o2 o3 r0 r1 r2 r3
    clear hmo2
    go_wp2
    exact HRET.out _ _ _ _ _ _ _ _ _ _ _ _ _ _ _ _ _ _ _ _ _ _ _ _ _ _ _ _ _ _ _ _ _ _ _ _ _ _  _ ⟨hDeep, 0, _, _, HJ1.out.fin (Y := _) (by (repeat (first | exact But.refl _ _ | assumption | refine But.drew ?_ | refine But.drewN ?_ _ | refine But.set ?_ _ _ | refine But.setNew ?_ _ _ (by first | (simp; done) | (simp; omega)) _ | refine But.alloc ?_ _))) hDeep 0, HOL.out, HE.out⟩
   ·have hd' : ¬ (40 : Int) ≤ (S.length : Int) := by omega
    obtain ⟨q, rfl⟩ : ∃ q : Nat, en = (q : Int) := ⟨en.toNat, by omega⟩
    have hq : q < I.funs.length := by omega
    have hq' : (q : Int) < (I.funs.length : Int) := h1
    obtain ⟨gf, off, eadf, hgf, k0, k1, k2, k3⟩ := HF.out.at hq
    subst eadf
    have kc : ∀ o v, w.cell? ⟨gf, o, none⟩ = some v → W1.cell? ⟨gf, o, none⟩ = some v := fun o v hv => (HJ1.out.low.cell (p := ⟨gf, o, none⟩) hgf).trans hv
    replace k0 := kc _ _ k0
    replace k1 := kc _ _ k1
    replace k2 := kc _ _ k2
    replace k3 := kc _ _ k3
    have i0 : W1.cell? ⟨w.heap.size, 0, none⟩ = some (.slice (some ⟨gf, off, none⟩) I.funs.length cf) := cell_of_blk HJ1.out.img 0
    have HOF := hidX (HW.out.funs _ (List.getElem_mem hq))
    have hfun : funAt I (q : Int) = I.funs[q] := by simp [funAt, hq]
    have hst2 := HST.out
    unfold enterM at hst2
    rw [if_neg hti, if_neg (by simpa using hd), hfun] at hst2
    have HST2 := hidX hst2
    generalize I.funs[q] = h at k0 k1 k2 k3 HOF HST2
    clear hst2 HST hfun kc
    obtain ⟨W2, hW2⟩ : ∃ W2, W2 = W1.alloc (.cells #[.string ⟨h.name.toArray⟩, .int .i64 h.params, .int .i64 h.slots, .int .i64 h.entry] 33) := ⟨_, rfl⟩
    go_upto_region 22 with fail
    rw [← hW2]
    have hb2 : Below W1.heap.size W1 W2 := by rw [hW2]; (repeat (first | exact Below.refl _ _ | assumption | refine Below.drew ?_ | refine bT ?_ _ | refine bS ?_ _ | refine bA ?_ _))
    have hx2 : W2.heap[W1.heap.size]? = some (.cells #[.string ⟨h.name.toArray⟩, .int .i64 h.params, .int .i64 h.slots, .int .i64 h.entry] 33 (0, 0)) := by rw [hW2]; exact heap_alloc_new _ _
    have HJ2 := hidX (HJ1.out.below hb2)
    have HB2 := hidX hb2
    have HX2 := hidX hx2
    clear hW2 k0 k1 k2 k3 i0 hx2 hb2
    obtain ⟨ns, hns⟩ : ∃ ns : Nat, h.slots = (ns : Int) := ⟨h.slots.toNat, by have := HOF.out.slots; omega⟩
    have hns1 : ns ≤ 1000 := by have := HOF.out.slots; omega
    obtain ⟨np, hnp⟩ : ∃ np : Nat, h.entry = (np : Int) := ⟨h.entry.toNat, by have := HOF.out.entry; omega⟩
    have hmk := run_make_row' (P := Tryd.prog) 26 3 (.int .i64 0) 8 Tryd.underlying26 int_info rfl .i64 .i64 ns (by omega) (by omega)
    rw [made_intsM] at hmk
    obtain ⟨is0, his0⟩ : ∃ is0, is0 = intsG (List.replicate ns 0) := ⟨_, rfl⟩
    rw [← his0] at hmk
    obtain ⟨a0, a1, a2, a3, rfl⟩ : ∃ a0 a1 a2 a3, nx = [a0, a1, a2, a3] := by
     have := HJ2.out.n4
     match nx, this with
     | [a, b, c, d], _ => exact ⟨a, b, c, d, rfl⟩
    obtain ⟨hn, hP, hS, hE⟩ := h
    dsimp only at hns hnp
    subst hns hnp
    have HIS := hidX his0
    have hxl : W1.heap.size < W2.heap.size := heap_lt HX2.out
    have hnl : w.heap.size + 1 + 1 + 1 < W2.heap.size := heap_lt HJ2.out.nb
    have HCS := hidX (show ∀ V : World, V.heap[W1.heap.size]? = W2.heap[W1.heap.size]? → V.heap[w.heap.size + 1 + 1 + 1]? = W2.heap[w.heap.size + 1 + 1 + 1]? → V.cell? ⟨W1.heap.size, 0, none⟩ = some (.string ⟨hn.toArray⟩) ∧ V.cell? ⟨W1.heap.size, 1, none⟩ = some (.int .i64 hP) ∧ V.cell? ⟨W1.heap.size, 2, none⟩ = some (.int .i64 (ns : Int)) ∧ V.cell? ⟨W1.heap.size, 3, none⟩ = some (.int .i64 (np : Int)) ∧ V.cell? ⟨w.heap.size + 1 + 1 + 1, 0, none⟩ = some (.int .i64 a0) ∧ V.cell? ⟨w.heap.size + 1 + 1 + 1, 1, none⟩ = some (.int .i64 a1) ∧ V.cell? ⟨w.heap.size + 1 + 1 + 1, 2, none⟩ = some (.int .i64 a2) ∧ V.cell? ⟨w.heap.size + 1 + 1 + 1, 3, none⟩ = some (.int .i64 a3) from fun V e1 e2 => ⟨cell_of_blk (e1.trans HX2.out) 0, cell_of_blk (e1.trans HX2.out) 1, cell_of_blk (e1.trans HX2.out) 2, cell_of_blk (e1.trans HX2.out) 3, cell_of_blk (e2.trans HJ2.out.nb) 0, cell_of_blk (e2.trans HJ2.out.nb) 1, cell_of_blk (e2.trans HJ2.out.nb) 2, cell_of_blk (e2.trans HJ2.out.nb) 3⟩)
    clear his0
    refine wp_region_V (fun W => W.cell? ⟨W1.heap.size, 0, none⟩ = some (.string ⟨hn.toArray⟩) ∧ W.cell? ⟨W1.heap.size, 1, none⟩ = some (.int .i64 hP) ∧ W.cell? ⟨W1.heap.size, 2, none⟩ = some (.int .i64 (ns : Int)) ∧ W.cell? ⟨W1.heap.size, 3, none⟩ = some (.int .i64 (np : Int)) ∧ W.cell? ⟨w.heap.size + 1 + 1 + 1, 0, none⟩ = some (.int .i64 a0) ∧ W.cell? ⟨w.heap.size + 1 + 1 + 1, 1, none⟩ = some (.int .i64 a1) ∧ W.cell? ⟨w.heap.size + 1 + 1 + 1, 2, none⟩ = some (.int .i64 a2) ∧ W.cell? ⟨w.heap.size + 1 + 1 + 1, 3, none⟩ = some (.int .i64 a3)) 13 (by kernel_rfl) (HCS.out _ rfl rfl) (fun hHeld => ?_)
    refine wpAnyV_any 0 (some 65) (v := ?v0r6) rfl rfl (by kernel_rfl) (by kernel_rfl) (by kernel_rfl) (by kernel_rfl) (fun _ _ _ h => hPan _ _ _ _ _ h) (Or.inl ⟨by rfl, ?hy0r6⟩) hHeld ?rest0r6
    case hy0r6 => (intro w2 hSw; (try dsimp only at hSw); first | (go_simp; done) | (go_simp; with_reducible rfl))
    simp only [Act.put, List.setIfInBounds_toArray, List.set_cons_zero, List.set_cons_succ]
    refine wpAnyV_put 1 (some 66) (v := ?v1r6) rfl rfl (by kernel_rfl) (by kernel_rfl) (by kernel_rfl) (by kernel_rfl) (by kernel_rfl) (fun _ _ _ h => hPan _ _ _ _ _ h) (Or.inl ⟨by rfl, ?hy1r6⟩) hHeld ?rest1r6
    case hy1r6 => (intro w2 hSw; (try dsimp only at hSw); first | (go_simp; done) | (go_simp; with_reducible rfl))
    simp only [Act.put, List.setIfInBounds_toArray, List.set_cons_zero, List.set_cons_succ]
    refine wpAnyV_any 2 (some 67) (v := ?v2r6) rfl rfl (by kernel_rfl) (by kernel_rfl) (by kernel_rfl) (by kernel_rfl) (fun _ _ _ h => hPan _ _ _ _ _ h) (Or.inl ⟨by rfl, ?hy2r6⟩) hHeld ?rest2r6
    case hy2r6 => (intro w2 hSw; (try dsimp only at hSw); first | (go_simp; done) | (go_simp; with_reducible rfl))
    simp only [Act.put, List.setIfInBounds_toArray, List.set_cons_zero, List.set_cons_succ]
    refine wpAnyV_put 3 (some 68) (v := ?v3r6) rfl rfl (by kernel_rfl) (by kernel_rfl) (by kernel_rfl) (by kernel_rfl) (by kernel_rfl) (fun _ _ _ h => hPan _ _ _ _ _ h) (Or.inl ⟨by rfl, ?hy3r6⟩) hHeld ?rest3r6
    case hy3r6 => (intro w2 hSw; (try dsimp only at hSw); first | (go_simp; done) | (go_simp; with_reducible rfl))
    simp only [Act.put, List.setIfInBounds_toArray, List.set_cons_zero, List.set_cons_succ]
    refine wpAnyV_put 5 (some 70) (v := ?v5r6) rfl rfl (by kernel_rfl) (by kernel_rfl) (by kernel_rfl) (by kernel_rfl) (by kernel_rfl) (fun _ _ _ h => hPan _ _ _ _ _ h) (Or.inl ⟨by rfl, ?hy5r6⟩) hHeld ?rest5r6
    case hy5r6 => (intro w2 hSw; (try dsimp only at hSw); first | (go_simp; done) | (go_simp; with_reducible rfl))
    simp only [Act.put, List.setIfInBounds_toArray, List.set_cons_zero, List.set_cons_succ]
    refine wpAnyV_any 6 (some 71) (v := ?v6r6) rfl rfl (by kernel_rfl) (by kernel_rfl) (by kernel_rfl) (by kernel_rfl) (fun _ _ _ h => hPan _ _ _ _ _ h) (Or.inl ⟨by rfl, ?hy6r6⟩) hHeld ?rest6r6
    case hy6r6 => (intro w2 hSw; (try dsimp only at hSw); first | (go_simp; done) | (go_simp; with_reducible rfl))
    simp only [Act.put, List.setIfInBounds_toArray, List.set_cons_zero, List.set_cons_succ]
    refine wpAnyV_put 7 (some 72) (v := ?v7r6) rfl rfl (by kernel_rfl) (by kernel_rfl) (by kernel_rfl) (by kernel_rfl) (by kernel_rfl) (fun _ _ _ h => hPan _ _ _ _ _ h) (Or.inl ⟨by rfl, ?hy7r6⟩) hHeld ?rest7r6
    case hy7r6 => (intro w2 hSw; (try dsimp only at hSw); first | (go_simp; done) | (go_simp; with_reducible rfl))
    simp only [Act.put, List.setIfInBounds_toArray, List.set_cons_zero, List.set_cons_succ]
    refine wpAnyV_any 8 (some 73) (v := ?v8r6) rfl rfl (by kernel_rfl) (by kernel_rfl) (by kernel_rfl) (by kernel_rfl) (fun _ _ _ h => hPan _ _ _ _ _ h) (Or.inl ⟨by rfl, ?hy8r6⟩) hHeld ?rest8r6
    case hy8r6 => (intro w2 hSw; (try dsimp only at hSw); first | (go_simp; done) | (go_simp; with_reducible rfl))
    simp only [Act.put, List.setIfInBounds_toArray, List.set_cons_zero, List.set_cons_succ]
    refine wpAnyV_one (i := 4) (by kernel_rfl) rfl (fun K4 hK4 => ?_)
    go_simp
    refine hK4.out _ _ (fun _ => ?hS4r6) (fun _ => ?_)
    case hS4r6 => exact HCS.out _ (Below.heap_alloc _ _ _ hxl) (Below.heap_alloc _ _ _ hnl)
    clear hK4 K4
    try simp only [Act.put, List.setIfInBounds_toArray, List.set_cons_zero, List.set_cons_succ]
    obtain ⟨X3, hX3⟩ : ∃ X3, X3 = (W2.alloc (.cells is0.toArray 3)).drew := ⟨_, rfl⟩
    have hb3 : Below W2.heap.size W2 X3 := by rw [hX3]; (repeat (first | exact Below.refl _ _ | assumption | refine Below.drew ?_ | refine bT ?_ _ | refine bS ?_ _ | refine bA ?_ _))
    have hs3 : X3.heap[W2.heap.size]? = some (.cells is0.toArray 3 (0, 0)) := by rw [hX3]; exact heap_alloc_new W2 _
    have hz3 := heap_lt hs3
    replace hHeld := HCS.out X3 (hb3.block _ hxl) (hb3.block _ hnl)
    rw [← hX3]
    clear hX3
    refine wpAnyV_any 9 (some 74) (v := .agg #[.string ⟨hn.toArray⟩, .int .i64 hP, .int .i64 (ns : Int), .int .i64 (np : Int), .int .i64 0, .int .i64 0, .int .i64 0, .int .i64 0, .int .i64 0, .int .i64 0, .int .i64 0, .int .i64 0, .slice (some ⟨W2.heap.size, 0, none⟩) ns ns, .int .i64 a0, .int .i64 a1, .int .i64 a2, .int .i64 a3, .int .i64 0, .int .i64 0, .int .i64 0, .int .i64 0, .int .i64 (np : Int), .int .i64 (t : Int)]) rfl rfl (by kernel_rfl) (by kernel_rfl) (by kernel_rfl) (by kernel_rfl) (fun _ _ _ h => hPan _ _ _ _ _ h) (Or.inl ⟨by rfl, ?hy9r6⟩) hHeld ?rest9r6
    case hy9r6 => (intro w2 _; exact exec_build5 rfl rfl rfl rfl rfl rfl (build_frame ⟨hn.toArray⟩ hP ns np t W2.heap.size a0 a1 a2 a3 w2))
    simp only [Act.put, List.setIfInBounds_toArray, List.set_cons_zero, List.set_cons_succ]
    obtain ⟨X4, hX4⟩ : ∃ X4, X4 = X3.alloc (.cells #[.string ⟨hn.toArray⟩, .int .i64 hP, .int .i64 (ns : Int), .int .i64 (np : Int), .int .i64 0, .int .i64 0, .int .i64 0, .int .i64 0, .int .i64 0, .int .i64 0, .int .i64 0, .int .i64 0, .slice (some ⟨W2.heap.size, 0, none⟩) ns ns, .int .i64 a0, .int .i64 a1, .int .i64 a2, .int .i64 a3, .int .i64 0, .int .i64 0, .int .i64 0, .int .i64 0, .int .i64 (np : Int), .int .i64 (t : Int)] 76) := ⟨_, rfl⟩
    have hb4 : Below X3.heap.size X3 X4 := by rw [hX4]; (repeat (first | exact Below.refl _ _ | assumption | refine Below.drew ?_ | refine bT ?_ _ | refine bS ?_ _ | refine bA ?_ _))
    have hf4 : X4.heap[X3.heap.size]? = some (.cells #[.string ⟨hn.toArray⟩, .int .i64 hP, .int .i64 (ns : Int), .int .i64 (np : Int), .int .i64 0, .int .i64 0, .int .i64 0, .int .i64 0, .int .i64 0, .int .i64 0, .int .i64 0, .int .i64 0, .slice (some ⟨W2.heap.size, 0, none⟩) ns ns, .int .i64 a0, .int .i64 a1, .int .i64 a2, .int .i64 a3, .int .i64 0, .int .i64 0, .int .i64 0, .int .i64 0, .int .i64 (np : Int), .int .i64 (t : Int)] 76 (0, 0)) := by rw [hX4]; exact heap_alloc_new X3 _
    have hz4 := heap_lt hf4
    refine wpAnyV_one (i := 10) (by kernel_rfl) rfl (fun K10 hK10 => ?_)
    refine step_run rfl (exec_box rfl rfl (box_frame ⟨hn.toArray⟩ hP ns np t W2.heap.size a0 a1 a2 a3 X3)) ?_
    change K10 (Act.put _ (some 75) _) _
    rw [← hX4]
    clear hX4
    replace hHeld := HCS.out X4 ((hb4.block _ (by omega)).trans (hb3.block _ hxl)) ((hb4.block _ (by omega)).trans (hb3.block _ hnl))
    refine hK10.out _ _ (fun _ => hHeld) (fun _ => ?_)
    clear hK10 K10
    try simp only [Act.put, List.setIfInBounds_toArray, List.set_cons_zero, List.set_cons_succ]
    obtain ⟨X5, hX5⟩ : ∃ X5, X5 = X4.alloc (.cells #[.pointer (some ⟨X3.heap.size, 0, none⟩)] 73) := ⟨_, rfl⟩
    have hb5 : Below X4.heap.size X4 X5 := by rw [hX5]; (repeat (first | exact Below.refl _ _ | assumption | refine Below.drew ?_ | refine bT ?_ _ | refine bS ?_ _ | refine bA ?_ _))
    have hp5 : X5.heap[X4.heap.size]? = some (.cells #[.pointer (some ⟨X3.heap.size, 0, none⟩)] 73 (0, 0)) := by rw [hX5]; exact heap_alloc_new X4 _
    have hz5 := heap_lt hp5
    refine wpAnyV_one (i := 11) (by kernel_rfl) rfl (fun K11 hK11 => ?_)
    refine step_run rfl (exec_bslice1 rfl rfl (bslice_ptr X3.heap.size X4)) ?_
    change K11 (Act.put _ (some 76) _) _
    rw [← hX5]
    clear hX5
    have hB5 : Below W2.heap.size W2 X5 := bl_trans hb3 hb3.size (bl_trans hb4 hb4.size hb5)
    replace hHeld := HCS.out X5 (hB5.block _ hxl) (hB5.block _ hnl)
    refine hK11.out _ _ (fun _ => hHeld) (fun _ => ?_)
    clear hK11 K11 hHeld
    try simp only [Act.put, List.setIfInBounds_toArray, List.set_cons_zero, List.set_cons_succ]
    obtain ⟨i0, hi0, iz0, iz1, iz2⟩ := info_parts enp_info
    have hJ5 := HJ2.out.below hB5
    have hbase : w.heap.size + 4 ≤ X5.heap.size := by have := hJ5.size; omega
    refine wpAnyV_one (i := 12) (by kernel_rfl) rfl (fun K12 hK12 => ?_)
    refine step_append_lies _ rfl (.tmp 65) (.tmp 76) 72 rfl (w.heap.size + 4) 73 i0 _ 1 8 Tryd.underlying72 hi0 iz0 iz1 iz2 rfl (by decide) (.slice cad S.length ccap) S.length (S.reverse.map enP) rfl hJ5.row ⟨X4.heap.size, 0, none⟩ 1 1 [.pointer (some ⟨X3.heap.size, 0, none⟩)] rfl rfl (World.news_of_block hp5) (enp_one _) (by decide) (by unfold maxLen; omega) (by omega) hbase _ rfl ?_
    intro gc cc w5 ho5 hg5 hl5 _
    change K12 (Act.put _ (some 77) _) w5
    have hHeld := HCS.out w5 ((hg5.block _ (by omega) (fun e => by have := HJ1.out.row.lt _ e.symm; omega)).trans (hB5.block _ hxl)) ((hg5.block _ (by omega) (fun e => by have := HJ1.out.row.lt _ e.symm; omega)).trans (hB5.block _ hnl))
    refine hK12.out _ _ (fun _ => hHeld) (fun _ => ?_)
    clear hK12 K12 hHeld
    simp only [Act.put, List.setIfInBounds_toArray, List.set_cons_zero, List.set_cons_succ]
    have hfo := fo_new (X := X5) (B := W2.heap.size) (fb := X3.heap.size) (sb := W2.heap.size) hn hP ns np t a0 a1 a2 a3 (by omega) (by omega) hns1 HJ2.out.n64 ((hb5.block _ (by omega)).trans hf4) (by rw [← HIS.out]; exact (hb5.block _ (by omega)).trans ((hb4.block _ (by omega)).trans hs3))
    have HM5 := hidX (HJ2.out.push (e := ⟨⟨hn, hP, ns, np⟩, newF ⟨hn, hP, ns, np⟩ [a0, a1, a2, a3] t, X3.heap.size, W2.heap.size⟩) hB5 hfo (by show X3.heap.size ≠ W2.heap.size; omega) ho5 hg5 (hl5.elim (fun e => Or.inl e.symm) (fun e => Or.inr (by simp only [Value.ownBlock]; rw [e]))))
    have HR5 := hidX (show RunM I ticks S0 n ⟨⟨hn, hP, ns, np⟩, newF ⟨hn, hP, ns, np⟩ [a0, a1, a2, a3] t, X3.heap.size, W2.heap.size⟩ S ⟨g.out, g.ticks + 1⟩ from ⟨HST2.out, HOL.out, by omega, by show g.ticks + 1 ≤ 1000000; omega, fun x hx => by
     rcases List.mem_cons.1 hx with rfl | hx
     ·exact HA.out.t8
     ·exact HA.out.d8 x hx, fun x hx => by
     rcases List.mem_cons.1 hx with rfl | hx
     ·show (np : Int).toNat ≤ I.words.length
      have := HOF.out.entry
      dsimp only at this
      omega
     ·exact HA.out.pc x hx⟩)
    clear hfo ho5 hg5 hl5 hJ5 hbase hB5 hp5 hb5 hb4 hb3 hs3 hf4 hmk hxl hnl
    refine wpAnyV_one (i := 13) (by kernel_rfl) rfl (fun K13 hK13 => ?_)
    go_simp
    refine hK13.out _ _ (fun h => absurd rfl h) (fun _ => ?_)
    clear hK13 K13
    refine wpAnyV_done (by kernel_rfl) ?_ _
    go_wp2
    exact HNX.out _ _ _ _ _ _ _ _ _ _ _ _ _ _ _ _ _ _ _ _ _ _ _ _ _ _ _ _ _ _ _ _ _ _ _ _ _ _  _ ⟨_, S, ov, ⟨g.out, g.ticks + 1⟩, rfl, HR5.out, HM5.out⟩
 ·have HR := hidX (show RunM I ticks S0 n e S' g from ⟨hst, HA.out.ol, by have := HA.out.dl; simpa using this, HA.out.tk, HA.out.d8, HA.out.pc⟩)
  clear hst HA
  go_wp2
  exact HNX.out _ _ _ _ _ _ _ _ _ _ _ _ _ _ _ _ _ _ _ _ _ _ _ _ _ _ _ _ _ _ _ _ _ _ _ _ _ _  _ ⟨e, S', ov, g, rfl, HR.out, HJ.out⟩
end Go.Proofs.YtbcpomdcmilpjaaDoor
