/- Our own: texts joined: AlRunE. -/
import Derived.Test.YtimccbilkjjakaaDoorZLwRs
namespace Go.Proofs.YtimccbilkjjakaaDoor
open Go.RowKit
set_option maxRecDepth 100000 in
set_option maxHeartbeats 4000000 in
theorem ral_tick {K : Nat → Prop} {w W : World} {cv : Array Value} {cb rs rg zb nb db xb : Nat} {s : Rst} {r : Ra} {args ans : List Int} {ticks : Int} {aad nad : Option Addr} {acap ncap : Nat} {x : Li} {RR : Rst × Ra} (hJ : LwJ K w cv W cb rs rg zb nb db s r) (hxb : K xb) (hx : W.heap[xb]? = some (.cells (liV x).toArray 60 (0, 0))) (hag : XRow (InH w) w (.slice aad args.length acap) args.length (intsG args)) (han : XRow (InH w) w (.slice nad ans.length ncap) ans.length (intsG ans)) (hal : ans.length ≤ 100000) (h6 : R64 r) (hts : 0 ≤ s.tks ∧ s.tks ≤ 1000000000) (hol : s.out.length ≤ 1000) (hcl : s.calls.length ≤ 100000) (hd : DoL args.length r.slots.length x) (hRR : RR = insL args ans ticks x s r) (hf : x.kind = gTick)
  {c0 c4 c5 c6 c7 c8 c9 c15 c16 c17 c18 c22 c23 c24 c25 c26 c27 c28 c29 c30 c31 c32 c33 c34 c35 c36 c37 c38 c39 c40 c41 c42 c43 c44 c45 c46 c47 c48 c49 c50 c213 c214 c215 c216 c217 c218 c219 c220 c221 c222 c223 c224 c225 c226 c227 c228 c229 c230 c231 c232 c233 c234 c235 c236 c237 c238 c239 c240 c241 c242 : Value} {u20 u21 u52 u53 u54 u55 u56 u57 u58 u59 u60 u61 u62 u63 u64 u65 u66 u67 u68 u69 u70 u71 u72 u73 u74 u75 u76 u77 u78 u79 u80 u81 u82 u83 u84 u85 u86 u87 u88 u89 u90 u91 u92 u93 u94 u95 u96 u97 u98 u99 u100 u101 u102 u103 u104 u105 u106 u107 u108 u109 u110 u111 u112 u113 u114 u115 u116 u117 u118 u119 u120 u121 u122 u123 u124 u125 u126 u127 u128 u129 u130 u131 u132 u133 u134 u135 u136 u137 u138 u139 u140 u141 u142 u143 u144 u145 u146 u147 u148 u149 u150 u151 u152 u153 u154 u155 u156 u157 u158 u159 u160 u161 u162 u163 u164 u165 u166 u167 u168 u169 u170 u171 u172 u173 u174 u175 u176 u177 u178 u179 u180 u181 u182 u183 u184 u185 u186 u187 u188 u189 u190 u191 u192 u193 u194 u195 u196 u197 u198 u199 u200 u201 u202 u203 u204 u205 u206 u207 u208 u209 u210 u211 u212 : Value} {Q : Exit → Act → World → Prop}
  (hP : ∀ c (a : Act) (d : Option Tmp) (v : Value) (w : World), Q (.panic c) (a.put d v) w → Q (.panic c) a w)
  (hN : RR.1.how = s.how → ∀ (u20 u21 u52 u53 u54 u55 u56 u57 u58 u59 u60 u61 u62 u63 u64 u65 u66 u67 u68 u69 u70 u71 u72 u73 u74 u75 u76 u77 u78 u79 u80 u81 u82 u83 u84 u85 u86 u87 u88 u89 u90 u91 u92 u93 u94 u95 u96 u97 u98 u99 u100 u101 u102 u103 u104 u105 u106 u107 u108 u109 u110 u111 u112 u113 u114 u115 u116 u117 u118 u119 u120 u121 u122 u123 u124 u125 u126 u127 u128 u129 u130 u131 u132 u133 u134 u135 u136 u137 u138 u139 u140 u141 u142 u143 u144 u145 u146 u147 u148 u149 u150 u151 u152 u153 u154 u155 u156 u157 u158 u159 u160 u161 u162 u163 u164 u165 u166 u167 u168 u169 u170 u171 u172 u173 u174 u175 u176 u177 u178 u179 u180 u181 u182 u183 u184 u185 u186 u187 u188 u189 u190 u191 u192 u193 u194 u195 u196 u197 u198 u199 u200 u201 u202 u203 u204 u205 u206 u207 u208 u209 u210 u211 u212 : Value) (nb' : Nat) (w1 : World), LwJ K w cv w1 cb rs rg zb nb' db RR.1 RR.2 → KeepA K W w1 → W.heap.size ≤ w1.heap.size → Q .normal ⟨#[c0, .slice aad args.length acap, .slice nad ans.length ncap, .int .i64 ticks, c4, c5, c6, c7, c8, c9, .pointer (some ⟨rs, 0, none⟩), .slice (some ⟨rg, 0, none⟩) 8 8, .slice (some ⟨zb, 0, none⟩) r.slots.length r.slots.length, .slice (some ⟨nb', 0, none⟩) 4 4, .pointer (some ⟨db, 0, none⟩), c15, c16, c17, c18, .pointer (some ⟨xb, 0, none⟩), u20, u21, c22, c23, c24, c25, c26, c27, c28, c29, c30, c31, c32, c33, c34, c35, c36, c37, c38, c39, c40, c41, c42, c43, c44, c45, c46, c47, c48, c49, c50, .string ⟨([116, 105, 99, 107] : List UInt8).toArray⟩, u52, u53, u54, u55, u56, u57, u58, u59, u60, u61, u62, u63, u64, u65, u66, u67, u68, u69, u70, u71, u72, u73, u74, u75, u76, u77, u78, u79, u80, u81, u82, u83, u84, u85, u86, u87, u88, u89, u90, u91, u92, u93, u94, u95, u96, u97, u98, u99, u100, u101, u102, u103, u104, u105, u106, u107, u108, u109, u110, u111, u112, u113, u114, u115, u116, u117, u118, u119, u120, u121, u122, u123, u124, u125, u126, u127, u128, u129, u130, u131, u132, u133, u134, u135, u136, u137, u138, u139, u140, u141, u142, u143, u144, u145, u146, u147, u148, u149, u150, u151, u152, u153, u154, u155, u156, u157, u158, u159, u160, u161, u162, u163, u164, u165, u166, u167, u168, u169, u170, u171, u172, u173, u174, u175, u176, u177, u178, u179, u180, u181, u182, u183, u184, u185, u186, u187, u188, u189, u190, u191, u192, u193, u194, u195, u196, u197, u198, u199, u200, u201, u202, u203, u204, u205, u206, u207, u208, u209, u210, u211, u212, c213, c214, c215, c216, c217, c218, c219, c220, c221, c222, c223, c224, c225, c226, c227, c228, c229, c230, c231, c232, c233, c234, c235, c236, c237, c238, c239, c240, c241, c242], []⟩ w1)
  (hR : RR.1.how = hOver → ∀ (u20 u21 u52 u53 u54 u55 u56 u57 u58 u59 u60 u61 u62 u63 u64 u65 u66 u67 u68 u69 u70 u71 u72 u73 u74 u75 u76 u77 u78 u79 u80 u81 u82 u83 u84 u85 u86 u87 u88 u89 u90 u91 u92 u93 u94 u95 u96 u97 u98 u99 u100 u101 u102 u103 u104 u105 u106 u107 u108 u109 u110 u111 u112 u113 u114 u115 u116 u117 u118 u119 u120 u121 u122 u123 u124 u125 u126 u127 u128 u129 u130 u131 u132 u133 u134 u135 u136 u137 u138 u139 u140 u141 u142 u143 u144 u145 u146 u147 u148 u149 u150 u151 u152 u153 u154 u155 u156 u157 u158 u159 u160 u161 u162 u163 u164 u165 u166 u167 u168 u169 u170 u171 u172 u173 u174 u175 u176 u177 u178 u179 u180 u181 u182 u183 u184 u185 u186 u187 u188 u189 u190 u191 u192 u193 u194 u195 u196 u197 u198 u199 u200 u201 u202 u203 u204 u205 u206 u207 u208 u209 u210 u211 u212 : Value) (w1 : World) (o c : Value), Below w.heap.size w w1 → w1.heap[rs]? = some (.cells #[.string ⟨RR.1.how.toArray⟩, .int .i64 RR.1.val, o, .int .i64 RR.1.tks, c] 42 (0, 0)) → DoneA w.heap.size w1 (.agg (dnV RR.1.how RR.1.val RR.1.tks o c).toArray) RR.1 → Q .ret ⟨#[c0, .slice aad args.length acap, .slice nad ans.length ncap, .int .i64 ticks, c4, c5, c6, c7, c8, c9, .pointer (some ⟨rs, 0, none⟩), .slice (some ⟨rg, 0, none⟩) 8 8, .slice (some ⟨zb, 0, none⟩) r.slots.length r.slots.length, .slice (some ⟨nb, 0, none⟩) 4 4, .pointer (some ⟨db, 0, none⟩), c15, c16, c17, c18, .pointer (some ⟨xb, 0, none⟩), u20, u21, c22, c23, c24, c25, c26, c27, c28, c29, c30, c31, c32, c33, c34, c35, c36, c37, c38, c39, c40, c41, c42, c43, c44, c45, c46, c47, c48, c49, c50, .string ⟨([116, 105, 99, 107] : List UInt8).toArray⟩, u52, u53, u54, u55, u56, u57, u58, u59, u60, u61, u62, u63, u64, u65, u66, u67, u68, u69, u70, u71, u72, u73, u74, u75, u76, u77, u78, u79, u80, u81, u82, u83, u84, u85, u86, u87, u88, u89, u90, u91, u92, u93, u94, u95, u96, u97, u98, u99, u100, u101, u102, u103, u104, u105, u106, u107, u108, u109, u110, u111, u112, u113, u114, u115, u116, u117, u118, u119, u120, u121, u122, u123, u124, u125, u126, u127, u128, u129, u130, u131, u132, u133, u134, u135, u136, u137, u138, u139, u140, u141, u142, u143, u144, u145, u146, u147, u148, u149, u150, u151, u152, u153, u154, u155, u156, u157, u158, u159, u160, u161, u162, u163, u164, u165, u166, u167, u168, u169, u170, u171, u172, u173, u174, u175, u176, u177, u178, u179, u180, u181, u182, u183, u184, u185, u186, u187, u188, u189, u190, u191, u192, u193, u194, u195, u196, u197, u198, u199, u200, u201, u202, u203, u204, u205, u206, u207, u208, u209, u210, u211, u212, c213, c214, c215, c216, c217, c218, c219, c220, c221, c222, c223, c224, c225, c226, c227, c228, c229, c230, c231, c232, c233, c234, c235, c236, c237, c238, c239, c240, c241, c242], []⟩ w1) : Code.wp Tryd.prog ralC Q ⟨#[c0, .slice aad args.length acap, .slice nad ans.length ncap, .int .i64 ticks, c4, c5, c6, c7, c8, c9, .pointer (some ⟨rs, 0, none⟩), .slice (some ⟨rg, 0, none⟩) 8 8, .slice (some ⟨zb, 0, none⟩) r.slots.length r.slots.length, .slice (some ⟨nb, 0, none⟩) 4 4, .pointer (some ⟨db, 0, none⟩), c15, c16, c17, c18, .pointer (some ⟨xb, 0, none⟩), u20, u21, c22, c23, c24, c25, c26, c27, c28, c29, c30, c31, c32, c33, c34, c35, c36, c37, c38, c39, c40, c41, c42, c43, c44, c45, c46, c47, c48, c49, c50, .string ⟨([116, 105, 99, 107] : List UInt8).toArray⟩, u52, u53, u54, u55, u56, u57, u58, u59, u60, u61, u62, u63, u64, u65, u66, u67, u68, u69, u70, u71, u72, u73, u74, u75, u76, u77, u78, u79, u80, u81, u82, u83, u84, u85, u86, u87, u88, u89, u90, u91, u92, u93, u94, u95, u96, u97, u98, u99, u100, u101, u102, u103, u104, u105, u106, u107, u108, u109, u110, u111, u112, u113, u114, u115, u116, u117, u118, u119, u120, u121, u122, u123, u124, u125, u126, u127, u128, u129, u130, u131, u132, u133, u134, u135, u136, u137, u138, u139, u140, u141, u142, u143, u144, u145, u146, u147, u148, u149, u150, u151, u152, u153, u154, u155, u156, u157, u158, u159, u160, u161, u162, u163, u164, u165, u166, u167, u168, u169, u170, u171, u172, u173, u174, u175, u176, u177, u178, u179, u180, u181, u182, u183, u184, u185, u186, u187, u188, u189, u190, u191, u192, u193, u194, u195, u196, u197, u198, u199, u200, u201, u202, u203, u204, u205, u206, u207, u208, u209, u210, u211, u212, c213, c214, c215, c216, c217, c218, c219, c220, c221, c222, c223, c224, c225, c226, c227, c228, c229, c230, c231, c232, c233, c234, c235, c236, c237, c238, c239, c240, c241, c242], []⟩ W := by
 obtain ⟨kind, d, a, b, num, name⟩ := x
 obtain rfl : kind = ([116, 105, 99, 107] : List UInt8) := hf
 have hr : RR = (tickR ticks s, r) := by rw [hRR]; unfold insL; exact (if_neg (show ¬ ([116, 105, 99, 107] : List UInt8) = gParam by decide)).trans ((if_neg (show ¬ ([116, 105, 99, 107] : List UInt8) = gConst by decide)).trans ((if_neg (show ¬ ([116, 105, 99, 107] : List UInt8) = gOne by decide)).trans ((if_neg (show ¬ ([116, 105, 99, 107] : List UInt8) = gTwo by decide)).trans ((if_neg (show ¬ ([116, 105, 99, 107] : List UInt8) = lMove by decide)).trans ((if_neg (show ¬ ([116, 105, 99, 107] : List UInt8) = lLoad by decide)).trans ((if_neg (show ¬ ([116, 105, 99, 107] : List UInt8) = lStore by decide)).trans ((if_neg (show ¬ ([116, 105, 99, 107] : List UInt8) = lArg by decide)).trans ((if_neg (show ¬ ([116, 105, 99, 107] : List UInt8) = gCall by decide)).trans ((if_pos (show ([116, 105, 99, 107] : List UInt8) = gTick from rfl)).trans rfl)))))))))
 have n1 : W.cell? ⟨xb, 1, none⟩ = some (.int .i64 d) := cell_of_blk hx 1
 have n2 : W.cell? ⟨xb, 2, none⟩ = some (.int .i64 a) := cell_of_blk hx 2
 have n3 : W.cell? ⟨xb, 3, none⟩ = some (.int .i64 b) := cell_of_blk hx 3
 have n4 : W.cell? ⟨xb, 4, none⟩ = some (.int .i64 num) := cell_of_blk hx 4
 have n5 : W.cell? ⟨xb, 5, none⟩ = some (.string ⟨name.toArray⟩) := cell_of_blk hx 5
 have HJ := hidX hJ
 have HUN := hidX (And.intro hag (And.intro han (And.intro hal (And.intro h6 (And.intro hts (And.intro hol (And.intro hcl (And.intro hd hxb))))))))
 have HP := hidX hP
 have HN := hidX hN
 have HR := hidX hR
 have HRR := hidX hr
 clear hRR hr hP hN hR
 obtain ⟨S, outv, callv, xs, hdn, hsn⟩ := hJ.dn
 have HDN := hidX hdn
 have HSN := hidX hsn
 clear hdn hsn
 obtain ⟨ht0, ht1⟩ := hts
 clear n1 n2 n3 n4 n5
 clear hJ hx hag han hal h6 hol hcl hd hxb
 conv => arg 2; whnf
 by_cases hov : ticks ≤ s.tks
 ·have HOV := hidX (show RR = ({ s with how := hOver }, r) by rw [HRR.out]; unfold tickR; rw [if_pos hov])
  obtain ⟨oad, ocap, rfl⟩ := own_is HDN.out.out
  obtain ⟨cad, ccap, rfl⟩ := own_is HDN.out.call
  have HZ := hidX (HJ.out.field HDN.out HSN.out (s' := { s with how := hOver }) rfl rfl 0 (.string ⟨hOver.toArray⟩) rfl).1
  have HDZ := hidX (HDN.out.set (s' := { s with how := hOver }) rfl rfl 0 (.string ⟨hOver.toArray⟩) rfl)
  have hord := HJ.out.ord
  have hne1 : ¬ rs = db := by omega
  have hne2 : ¬ db = rs := by omega
  clear hord
  have i0 := cell_of_blk HJ.out.res 0
  have fi0 := free_of_blk HJ.out.res 0
  have j0 := cell_of_blk HDN.out.blk 0
  have i1 := cell_of_blk HJ.out.res 1
  have fi1 := free_of_blk HJ.out.res 1
  have j1 := cell_of_blk HDN.out.blk 1
  have i2 := cell_of_blk HJ.out.res 2
  have fi2 := free_of_blk HJ.out.res 2
  have j2 := cell_of_blk HDN.out.blk 2
  have i3 := cell_of_blk HJ.out.res 3
  have fi3 := free_of_blk HJ.out.res 3
  have j3 := cell_of_blk HDN.out.blk 3
  have i4 := cell_of_blk HJ.out.res 4
  have fi4 := free_of_blk HJ.out.res 4
  have j4 := cell_of_blk HDN.out.blk 4
  have fj0 := free_of_blk HDN.out.blk 0
  simp only [List.getElem?_toArray, List.getElem?_cons_zero, List.getElem?_cons_succ] at i0 i1 i2 i3 i4 j0 j1 j2 j3 j4
  go_wp2
  (try simp only [Exit.inBlock, Exit.then])
  have hrf := runA_fin HZ.out HDZ.out HSN.out
  rw [HOV.out] at HR
  exact HR.out rfl _ _ _ _ _ _ _ _ _ _ _ _ _ _ _ _ _ _ _ _ _ _ _ _ _ _ _ _ _ _ _ _ _ _ _ _ _ _ _ _ _ _ _ _ _ _ _ _ _ _ _ _ _ _ _ _ _ _ _ _ _ _ _ _ _ _ _ _ _ _ _ _ _ _ _ _ _ _ _ _ _ _ _ _ _ _ _ _ _ _ _ _ _ _ _ _ _ _ _ _ _ _ _ _ _ _ _ _ _ _ _ _ _ _ _ _ _ _ _ _ _ _ _ _ _ _ _ _ _ _ _ _ _ _ _ _ _ _ _ _ _ _ _ _ _ _ _ _ _ _ _ _ _ _ _ _ _ _ _ _ _ _ _ _ _ _ hrf.1 hrf.2.1 hrf.2.2
 ·have HGO := hidX (show RR = ({ s with tks := s.tks + 1 }, r) by rw [HRR.out]; unfold tickR; rw [if_neg hov])
  have j3 : W.cell? ⟨db, 3, none⟩ = some (.int .i64 s.tks) := cell_of_blk HDN.out.blk 3
  have fj3 := free_of_blk HDN.out.blk 3
  go_wp2
  have hq := HJ.out.field HDN.out HSN.out (s' := { s with tks := s.tks + 1 }) rfl rfl 3 (.int .i64 (s.tks + 1)) rfl
  rw [HGO.out] at HN
  exact HN.out rfl _ _ _ _ _ _ _ _ _ _ _ _ _ _ _ _ _ _ _ _ _ _ _ _ _ _ _ _ _ _ _ _ _ _ _ _ _ _ _ _ _ _ _ _ _ _ _ _ _ _ _ _ _ _ _ _ _ _ _ _ _ _ _ _ _ _ _ _ _ _ _ _ _ _ _ _ _ _ _ _ _ _ _ _ _ _ _ _ _ _ _ _ _ _ _ _ _ _ _ _ _ _ _ _ _ _ _ _ _ _ _ _ _ _ _ _ _ _ _ _ _ _ _ _ _ _ _ _ _ _ _ _ _ _ _ _ _ _ _ _ _ _ _ _ _ _ _ _ _ _ _ _ _ _ _ _ _ _ _ _ _ _ _ nb _ (by first | exact hq.1 | exact hq.1.drewA) hq.2 (by simp [World.setCell])
end Go.Proofs.YtimccbilkjjakaaDoor
