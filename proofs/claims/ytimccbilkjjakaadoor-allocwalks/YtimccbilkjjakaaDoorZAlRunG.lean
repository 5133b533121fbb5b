/- Our own: texts joined: AlRunG. -/
import Derived.Test.YtimccbilkjjakaaDoorZLwRs
import Derived.Test.YtimccbilkjjakaaDoorZSetS
namespace Go.Proofs.YtimccbilkjjakaaDoor
open Go.RowKit
set_option maxRecDepth 100000 in
set_option maxHeartbeats 4000000 in
theorem ral_call {K : Nat → Prop} {w W : World} {cv : Array Value} {cb rs rg zb nb db xb : Nat} {s : Rst} {r : Ra} {args ans : List Int} {ticks : Int} {aad nad : Option Addr} {acap ncap : Nat} {x : Li} {RR : Rst × Ra} (hJ : LwJ K w cv W cb rs rg zb nb db s r) (hxb : K xb) (hx : W.heap[xb]? = some (.cells (liV x).toArray 60 (0, 0))) (hag : XRow (InH w) w (.slice aad args.length acap) args.length (intsG args)) (han : XRow (InH w) w (.slice nad ans.length ncap) ans.length (intsG ans)) (hal : ans.length ≤ 100000) (h6 : R64 r) (hts : 0 ≤ s.tks ∧ s.tks ≤ 1000000000) (hol : s.out.length ≤ 1000) (hcl : s.calls.length ≤ 100000) (hd : DoL args.length r.slots.length x) (hRR : RR = insL args ans ticks x s r) (hf : x.kind = gCall)
  {c0 c4 c5 c6 c7 c8 c9 c15 c16 c17 c18 c22 c23 c24 c25 c26 c27 c28 c29 c30 c31 c32 c33 c34 c35 c36 c37 c38 c39 c40 c41 c42 c43 c44 c45 c46 c47 c48 c49 c50 c213 c214 c215 c216 c217 c218 c219 c220 c221 c222 c223 c224 c225 c226 c227 c228 c229 c230 c231 c232 c233 c234 c235 c236 c237 c238 c239 c240 c241 c242 : Value} {u20 u21 u52 u53 u54 u55 u56 u57 u58 u59 u60 u61 u62 u63 u64 u65 u66 u67 u68 u69 u70 u71 u72 u73 u74 u75 u76 u77 u78 u79 u80 u81 u82 u83 u84 u85 u86 u87 u88 u89 u90 u91 u92 u93 u94 u95 u96 u97 u98 u99 u100 u101 u102 u103 u104 u105 u106 u107 u108 u109 u110 u111 u112 u113 u114 u115 u116 u117 u118 u119 u120 u121 u122 u123 u124 u125 u126 u127 u128 u129 u130 u131 u132 u133 u134 u135 u136 u137 u138 u139 u140 u141 u142 u143 u144 u145 u146 u147 u148 u149 u150 u151 u152 u153 u154 u155 u156 u157 u158 u159 u160 u161 u162 u163 u164 u165 u166 u167 u168 u169 u170 u171 u172 u173 u174 u175 u176 u177 u178 u179 u180 u181 u182 u183 u184 u185 u186 u187 u188 u189 u190 u191 u192 u193 u194 u195 u196 u197 u198 u199 u200 u201 u202 u203 u204 u205 u206 u207 u208 u209 u210 u211 u212 : Value} {Q : Exit → Act → World → Prop}
  (hP : ∀ c (a : Act) (d : Option Tmp) (v : Value) (w : World), Q (.panic c) (a.put d v) w → Q (.panic c) a w)
  (hN : RR.1.how = s.how → ∀ (u20 u21 u52 u53 u54 u55 u56 u57 u58 u59 u60 u61 u62 u63 u64 u65 u66 u67 u68 u69 u70 u71 u72 u73 u74 u75 u76 u77 u78 u79 u80 u81 u82 u83 u84 u85 u86 u87 u88 u89 u90 u91 u92 u93 u94 u95 u96 u97 u98 u99 u100 u101 u102 u103 u104 u105 u106 u107 u108 u109 u110 u111 u112 u113 u114 u115 u116 u117 u118 u119 u120 u121 u122 u123 u124 u125 u126 u127 u128 u129 u130 u131 u132 u133 u134 u135 u136 u137 u138 u139 u140 u141 u142 u143 u144 u145 u146 u147 u148 u149 u150 u151 u152 u153 u154 u155 u156 u157 u158 u159 u160 u161 u162 u163 u164 u165 u166 u167 u168 u169 u170 u171 u172 u173 u174 u175 u176 u177 u178 u179 u180 u181 u182 u183 u184 u185 u186 u187 u188 u189 u190 u191 u192 u193 u194 u195 u196 u197 u198 u199 u200 u201 u202 u203 u204 u205 u206 u207 u208 u209 u210 u211 u212 : Value) (nb' : Nat) (w1 : World), LwJ K w cv w1 cb rs rg zb nb' db RR.1 RR.2 → KeepA K W w1 → W.heap.size ≤ w1.heap.size → Q .normal ⟨#[c0, .slice aad args.length acap, .slice nad ans.length ncap, .int .i64 ticks, c4, c5, c6, c7, c8, c9, .pointer (some ⟨rs, 0, none⟩), .slice (some ⟨rg, 0, none⟩) 8 8, .slice (some ⟨zb, 0, none⟩) r.slots.length r.slots.length, .slice (some ⟨nb', 0, none⟩) 4 4, .pointer (some ⟨db, 0, none⟩), c15, c16, c17, c18, .pointer (some ⟨xb, 0, none⟩), u20, u21, c22, c23, c24, c25, c26, c27, c28, c29, c30, c31, c32, c33, c34, c35, c36, c37, c38, c39, c40, c41, c42, c43, c44, c45, c46, c47, c48, c49, c50, .string ⟨([99, 97, 108, 108] : List UInt8).toArray⟩, u52, u53, u54, u55, u56, u57, u58, u59, u60, u61, u62, u63, u64, u65, u66, u67, u68, u69, u70, u71, u72, u73, u74, u75, u76, u77, u78, u79, u80, u81, u82, u83, u84, u85, u86, u87, u88, u89, u90, u91, u92, u93, u94, u95, u96, u97, u98, u99, u100, u101, u102, u103, u104, u105, u106, u107, u108, u109, u110, u111, u112, u113, u114, u115, u116, u117, u118, u119, u120, u121, u122, u123, u124, u125, u126, u127, u128, u129, u130, u131, u132, u133, u134, u135, u136, u137, u138, u139, u140, u141, u142, u143, u144, u145, u146, u147, u148, u149, u150, u151, u152, u153, u154, u155, u156, u157, u158, u159, u160, u161, u162, u163, u164, u165, u166, u167, u168, u169, u170, u171, u172, u173, u174, u175, u176, u177, u178, u179, u180, u181, u182, u183, u184, u185, u186, u187, u188, u189, u190, u191, u192, u193, u194, u195, u196, u197, u198, u199, u200, u201, u202, u203, u204, u205, u206, u207, u208, u209, u210, u211, u212, c213, c214, c215, c216, c217, c218, c219, c220, c221, c222, c223, c224, c225, c226, c227, c228, c229, c230, c231, c232, c233, c234, c235, c236, c237, c238, c239, c240, c241, c242], []⟩ w1)
  (hR : RR.1.how = hOver → ∀ (u20 u21 u52 u53 u54 u55 u56 u57 u58 u59 u60 u61 u62 u63 u64 u65 u66 u67 u68 u69 u70 u71 u72 u73 u74 u75 u76 u77 u78 u79 u80 u81 u82 u83 u84 u85 u86 u87 u88 u89 u90 u91 u92 u93 u94 u95 u96 u97 u98 u99 u100 u101 u102 u103 u104 u105 u106 u107 u108 u109 u110 u111 u112 u113 u114 u115 u116 u117 u118 u119 u120 u121 u122 u123 u124 u125 u126 u127 u128 u129 u130 u131 u132 u133 u134 u135 u136 u137 u138 u139 u140 u141 u142 u143 u144 u145 u146 u147 u148 u149 u150 u151 u152 u153 u154 u155 u156 u157 u158 u159 u160 u161 u162 u163 u164 u165 u166 u167 u168 u169 u170 u171 u172 u173 u174 u175 u176 u177 u178 u179 u180 u181 u182 u183 u184 u185 u186 u187 u188 u189 u190 u191 u192 u193 u194 u195 u196 u197 u198 u199 u200 u201 u202 u203 u204 u205 u206 u207 u208 u209 u210 u211 u212 : Value) (w1 : World) (o c : Value), Below w.heap.size w w1 → w1.heap[rs]? = some (.cells #[.string ⟨RR.1.how.toArray⟩, .int .i64 RR.1.val, o, .int .i64 RR.1.tks, c] 42 (0, 0)) → DoneA w.heap.size w1 (.agg (dnV RR.1.how RR.1.val RR.1.tks o c).toArray) RR.1 → Q .ret ⟨#[c0, .slice aad args.length acap, .slice nad ans.length ncap, .int .i64 ticks, c4, c5, c6, c7, c8, c9, .pointer (some ⟨rs, 0, none⟩), .slice (some ⟨rg, 0, none⟩) 8 8, .slice (some ⟨zb, 0, none⟩) r.slots.length r.slots.length, .slice (some ⟨nb, 0, none⟩) 4 4, .pointer (some ⟨db, 0, none⟩), c15, c16, c17, c18, .pointer (some ⟨xb, 0, none⟩), u20, u21, c22, c23, c24, c25, c26, c27, c28, c29, c30, c31, c32, c33, c34, c35, c36, c37, c38, c39, c40, c41, c42, c43, c44, c45, c46, c47, c48, c49, c50, .string ⟨([99, 97, 108, 108] : List UInt8).toArray⟩, u52, u53, u54, u55, u56, u57, u58, u59, u60, u61, u62, u63, u64, u65, u66, u67, u68, u69, u70, u71, u72, u73, u74, u75, u76, u77, u78, u79, u80, u81, u82, u83, u84, u85, u86, u87, u88, u89, u90, u91, u92, u93, u94, u95, u96, u97, u98, u99, u100, u101, u102, u103, u104, u105, u106, u107, u108, u109, u110, u111, u112, u113, u114, u115, u116, u117, u118, u119, u120, u121, u122, u123, u124, u125, u126, u127, u128, u129, u130, u131, u132, u133, u134, u135, u136, u137, u138, u139, u140, u141, u142, u143, u144, u145, u146, u147, u148, u149, u150, u151, u152, u153, u154, u155, u156, u157, u158, u159, u160, u161, u162, u163, u164, u165, u166, u167, u168, u169, u170, u171, u172, u173, u174, u175, u176, u177, u178, u179, u180, u181, u182, u183, u184, u185, u186, u187, u188, u189, u190, u191, u192, u193, u194, u195, u196, u197, u198, u199, u200, u201, u202, u203, u204, u205, u206, u207, u208, u209, u210, u211, u212, c213, c214, c215, c216, c217, c218, c219, c220, c221, c222, c223, c224, c225, c226, c227, c228, c229, c230, c231, c232, c233, c234, c235, c236, c237, c238, c239, c240, c241, c242], []⟩ w1) : Code.wp Tryd.prog ralC Q ⟨#[c0, .slice aad args.length acap, .slice nad ans.length ncap, .int .i64 ticks, c4, c5, c6, c7, c8, c9, .pointer (some ⟨rs, 0, none⟩), .slice (some ⟨rg, 0, none⟩) 8 8, .slice (some ⟨zb, 0, none⟩) r.slots.length r.slots.length, .slice (some ⟨nb, 0, none⟩) 4 4, .pointer (some ⟨db, 0, none⟩), c15, c16, c17, c18, .pointer (some ⟨xb, 0, none⟩), u20, u21, c22, c23, c24, c25, c26, c27, c28, c29, c30, c31, c32, c33, c34, c35, c36, c37, c38, c39, c40, c41, c42, c43, c44, c45, c46, c47, c48, c49, c50, .string ⟨([99, 97, 108, 108] : List UInt8).toArray⟩, u52, u53, u54, u55, u56, u57, u58, u59, u60, u61, u62, u63, u64, u65, u66, u67, u68, u69, u70, u71, u72, u73, u74, u75, u76, u77, u78, u79, u80, u81, u82, u83, u84, u85, u86, u87, u88, u89, u90, u91, u92, u93, u94, u95, u96, u97, u98, u99, u100, u101, u102, u103, u104, u105, u106, u107, u108, u109, u110, u111, u112, u113, u114, u115, u116, u117, u118, u119, u120, u121, u122, u123, u124, u125, u126, u127, u128, u129, u130, u131, u132, u133, u134, u135, u136, u137, u138, u139, u140, u141, u142, u143, u144, u145, u146, u147, u148, u149, u150, u151, u152, u153, u154, u155, u156, u157, u158, u159, u160, u161, u162, u163, u164, u165, u166, u167, u168, u169, u170, u171, u172, u173, u174, u175, u176, u177, u178, u179, u180, u181, u182, u183, u184, u185, u186, u187, u188, u189, u190, u191, u192, u193, u194, u195, u196, u197, u198, u199, u200, u201, u202, u203, u204, u205, u206, u207, u208, u209, u210, u211, u212, c213, c214, c215, c216, c217, c218, c219, c220, c221, c222, c223, c224, c225, c226, c227, c228, c229, c230, c231, c232, c233, c234, c235, c236, c237, c238, c239, c240, c241, c242], []⟩ W := by
 obtain ⟨kind, d, a, b, num, name⟩ := x
 obtain rfl : kind = ([99, 97, 108, 108] : List UInt8) := hf
 obtain ⟨dn, rfl⟩ : ∃ k : Nat, d = (k : Int) := ⟨d.toNat, by have := (hd.call rfl).1; unfold r8 at this; simp only at this; omega⟩
 have hdn : dn < 8 := by have := (hd.call rfl).1; unfold r8 at this; simp only at this; omega
 have hdni : (dn : Int) < 8 := by omega
 obtain ⟨nn, rfl⟩ : ∃ k : Nat, num = (k : Int) := ⟨num.toNat, by have := (hd.call rfl).2; unfold r8 at this; simp only at this; omega⟩
 have hnn : nn < 5 := by have := (hd.call rfl).2; unfold r8 at this; simp only at this; omega
 have hnni : (nn : Int) < 5 := by omega
 have hr : RR = (callR ans name (r.next.take nn) s, if ans.length ≤ s.calls.length then r else { r with regs := r.regs.set dn (ans.getD s.calls.length 0), next := List.replicate 4 0 }) := by rw [hRR]; unfold insL; exact (if_neg (show ¬ ([99, 97, 108, 108] : List UInt8) = gParam by decide)).trans ((if_neg (show ¬ ([99, 97, 108, 108] : List UInt8) = gConst by decide)).trans ((if_neg (show ¬ ([99, 97, 108, 108] : List UInt8) = gOne by decide)).trans ((if_neg (show ¬ ([99, 97, 108, 108] : List UInt8) = gTwo by decide)).trans ((if_neg (show ¬ ([99, 97, 108, 108] : List UInt8) = lMove by decide)).trans ((if_neg (show ¬ ([99, 97, 108, 108] : List UInt8) = lLoad by decide)).trans ((if_neg (show ¬ ([99, 97, 108, 108] : List UInt8) = lStore by decide)).trans ((if_neg (show ¬ ([99, 97, 108, 108] : List UInt8) = lArg by decide)).trans ((if_pos (show ([99, 97, 108, 108] : List UInt8) = gCall from rfl)).trans rfl))))))))
 have n1 : W.cell? ⟨xb, 1, none⟩ = some (.int .i64 (dn : Int)) := cell_of_blk hx 1
 have n2 : W.cell? ⟨xb, 2, none⟩ = some (.int .i64 a) := cell_of_blk hx 2
 have n3 : W.cell? ⟨xb, 3, none⟩ = some (.int .i64 b) := cell_of_blk hx 3
 have n4 : W.cell? ⟨xb, 4, none⟩ = some (.int .i64 (nn : Int)) := cell_of_blk hx 4
 have n5 : W.cell? ⟨xb, 5, none⟩ = some (.string ⟨name.toArray⟩) := cell_of_blk hx 5
 have HJ := hidX hJ
 have HUN := hidX (And.intro hag (And.intro han (And.intro hal (And.intro h6 (And.intro hts (And.intro hol (And.intro hcl (And.intro hd hxb))))))))
 have HP := hidX hP
 have HN := hidX hN
 have HR := hidX hR
 have HRR := hidX hr
 clear hRR hr hP hN hR
 obtain ⟨S, outv, callv, xs, hdn, hsn⟩ := hJ.dn
 have HDN := hidX hdn
 have HSN := hidX hsn
 clear hdn hsn
 have HDL := hidX hJ.dl
 have HNL := hidX hJ.nz
 have HXL := hidX (show xb < W.heap.size ∧ K xb from ⟨(hJ.kl xb hxb).2, hxb⟩)
 have HRL := hidX (show rg < W.heap.size ∧ rg < db from ⟨heap_lt hJ.reg, by have := hJ.ord; omega⟩)
 have hnn4 : nn ≤ 4 := by omega
 have hlen : (r.next.take nn).length = nn := by rw [List.length_take, hJ.nl]; omega
 have HNX := hidX (show XRow (InH W) W (.slice (some ⟨nb, 0, none⟩) nn 4) (r.next.take nn).length (intsG (r.next.take nn)) from by
  refine ⟨some ⟨nb, 0, none⟩, 4, by rw [hlen], fun _ => ⟨nb, 0, rfl, hJ.nz, fun j u hu => ?_⟩⟩
  have hj : j < (r.next.take nn).length := by
   rcases Nat.lt_or_ge j (r.next.take nn).length with h' | h'
   ·exact h'
   ·rw [List.getElem?_eq_none (by rw [intsG_len]; omega)] at hu; cases hu
  have hj4 : j < r.next.length := by rw [hlen] at hj; rw [hJ.nl]; omega
  rw [intsG_gd hj] at hu
  rw [Nat.zero_add, cell_of_blk hJ.nxt, List.getElem?_toArray, intsG_gd hj4, ← hu]
  have : (r.next.take nn).getD j 0 = r.next.getD j 0 := by
   rw [hlen] at hj
   simp [show j < nn by omega]
  rw [this])
 have HAN := hidX han
 have HLOW := hidX hJ.low
 have hal' : (ans.length : Int) ≤ 100000 := by omega
 have hcl' : (s.calls.length : Int) ≤ 100000 := by omega
 have r0 : W.cell? ⟨rg, dn, none⟩ = some (.int .i64 (r.regs.getD dn 0)) := by rw [cell_of_blk hJ.reg, List.getElem?_toArray, intsG_gd (by rw [hJ.rl]; exact hdn)]
 have fr := free_of_blk hJ.reg dn
 generalize r.regs.getD dn 0 = vd at r0
 have HR0 := hidX (And.intro r0 (And.intro fr (And.intro n1 n5)))
 clear n2 n3 r0 fr
 clear hJ hx hag han h6 hts hol hd hxb
 conv => arg 2; whnf
 by_cases hov : ans.length ≤ s.calls.length
 ·have HOV := hidX (show RR = ({ s with how := hOver }, r) by rw [HRR.out]; unfold callR; rw [if_pos hov, if_pos hov])
  have hov' : (ans.length : Int) ≤ (s.calls.length : Int) := by omega
  clear hov n1 n4 n5
  obtain ⟨oad, ocap, rfl⟩ := own_is HDN.out.out
  obtain ⟨cad, ccap, rfl⟩ := own_is HDN.out.call
  have HZ := hidX (HJ.out.field HDN.out HSN.out (s' := { s with how := hOver }) rfl rfl 0 (.string ⟨hOver.toArray⟩) rfl).1
  have HDZ := hidX (HDN.out.set (s' := { s with how := hOver }) rfl rfl 0 (.string ⟨hOver.toArray⟩) rfl)
  have hord := HJ.out.ord
  have hne1 : ¬ rs = db := by omega
  have hne2 : ¬ db = rs := by omega
  clear hord
  have i0 := cell_of_blk HJ.out.res 0
  have fi0 := free_of_blk HJ.out.res 0
  have j0 := cell_of_blk HDN.out.blk 0
  have i1 := cell_of_blk HJ.out.res 1
  have fi1 := free_of_blk HJ.out.res 1
  have j1 := cell_of_blk HDN.out.blk 1
  have i2 := cell_of_blk HJ.out.res 2
  have fi2 := free_of_blk HJ.out.res 2
  have j2 := cell_of_blk HDN.out.blk 2
  have i3 := cell_of_blk HJ.out.res 3
  have fi3 := free_of_blk HJ.out.res 3
  have j3 := cell_of_blk HDN.out.blk 3
  have i4 := cell_of_blk HJ.out.res 4
  have fi4 := free_of_blk HJ.out.res 4
  have j4 := cell_of_blk HDN.out.blk 4
  have fj0 := free_of_blk HDN.out.blk 0
  simp only [List.getElem?_toArray, List.getElem?_cons_zero, List.getElem?_cons_succ] at i0 i1 i2 i3 i4 j0 j1 j2 j3 j4
  go_wp2
  (try simp only [Exit.inBlock, Exit.then])
  have hrf := runA_fin HZ.out HDZ.out HSN.out
  rw [HOV.out] at HR
  exact HR.out rfl _ _ _ _ _ _ _ _ _ _ _ _ _ _ _ _ _ _ _ _ _ _ _ _ _ _ _ _ _ _ _ _ _ _ _ _ _ _ _ _ _ _ _ _ _ _ _ _ _ _ _ _ _ _ _ _ _ _ _ _ _ _ _ _ _ _ _ _ _ _ _ _ _ _ _ _ _ _ _ _ _ _ _ _ _ _ _ _ _ _ _ _ _ _ _ _ _ _ _ _ _ _ _ _ _ _ _ _ _ _ _ _ _ _ _ _ _ _ _ _ _ _ _ _ _ _ _ _ _ _ _ _ _ _ _ _ _ _ _ _ _ _ _ _ _ _ _ _ _ _ _ _ _ _ _ _ _ _ _ _ _ _ _ _ _ _ hrf.1 hrf.2.1 hrf.2.2
 ·have hov' : ¬ (ans.length : Int) ≤ (s.calls.length : Int) := by omega
  have hov2 : (s.calls.length : Int) < (ans.length : Int) := by omega
  have HGO := hidX (show RR = ({ s with calls := s.calls ++ [(name, r.next.take nn)] }, { r with regs := r.regs.set dn (ans.getD s.calls.length 0), next := List.replicate 4 0 }) by rw [HRR.out]; unfold callR; rw [if_neg hov, if_neg hov])
  obtain ⟨gn, offn, en, hgn, kn⟩ := HAN.out.int (k := s.calls.length) (by omega)
  subst en
  replace kn : W.cell? ⟨gn, offn + s.calls.length, none⟩ = some (.int .i64 (ans.getD s.calls.length 0)) := by rw [(HLOW.out.cell (p := ⟨gn, offn + s.calls.length, none⟩) hgn).trans kn]; simp [show s.calls.length < ans.length by omega]
  have hgw : gn < W.heap.size := Nat.lt_of_lt_of_le hgn HLOW.out.size
  generalize ans.getD s.calls.length 0 = y at HGO kn
  obtain ⟨cad, ccap, rfl⟩ := own_is HDN.out.call
  obtain ⟨ic0, hic, ic1, ic2, ic3⟩ := info_parts told_info
  have j4 : W.cell? ⟨db, 4, none⟩ = some (.slice cad s.calls.length ccap) := cell_of_blk HDN.out.blk 4
  have hmk : ∀ Y : World, (Instr.makeSlice 25 (.int .i64 4) (.int .i64 4)).run Tryd.prog Y = .ok (.slice (some ⟨Y.heap.size, 0, none⟩) 4 4) (Y.alloc (.cells (intsG (List.replicate 4 0)).toArray 3)) := fun Y => make_intsA 4 (by decide) Y
  obtain ⟨z4, hz4⟩ : ∃ z4, z4 = intsG (List.replicate 4 0) := ⟨_, rfl⟩
  rw [← hz4] at hmk
  have HZ4 := hidX hz4
  clear hz4
  have HKN := hidX kn
  have HJ4 := hidX j4
  clear hov
  go_wp2_with (at_builtin; refine wpList_append_intsG rfl _ _ rfl rfl (.slice (some ⟨nb, 0, none⟩) nn 4) rfl (r.next.take nn) (by omega) HNX.out ?_; intro v3 W3 ho3 hb3; obtain ⟨ad3, cap3, rfl⟩ := own_is ho3; have HO3 := hidX ho3; have HB3 := hidX hb3; clear ho3)
  obtain ⟨X4, hX4⟩ : ∃ X4, X4 = W3.alloc (.cells z4.toArray 3) := ⟨_, rfl⟩
  rw [← hX4]
  have hb4 : Below W.heap.size W X4 := by rw [hX4]; exact bl_trans HB3.out HB3.out.size (box_blk _ _ _)
  have hx4 : X4.heap[W3.heap.size]? = some (.cells (intsG (List.replicate 4 0)).toArray 3 (0, 0)) := by rw [hX4, HZ4.out]; exact heap_alloc_new _ _
  have hq4 := HJ.out.renew hb4 (m := W3.heap.size) HB3.out.size hx4
  have HB4 := hidX hb4
  have HK4 := hidX hq4.2
  have HW3 := hidX (show W3.heap.size < X4.heap.size ∧ ∀ b, b < W3.heap.size → X4.heap[b]? = W3.heap[b]? from ⟨heap_lt hx4, fun b hb => by rw [hX4]; exact Below.heap_alloc _ _ _ hb⟩)
  have m1 := (hb4.cell (p := ⟨xb, 1, none⟩) HXL.out.1).trans HR0.out.2.2.1
  have m5 := (hb4.cell (p := ⟨xb, 5, none⟩) HXL.out.1).trans HR0.out.2.2.2
  have m0 := (hb4.cell (p := ⟨rg, dn, none⟩) HRL.out.1).trans HR0.out.1
  have mf := (hb4.frozen (p := ⟨rg, dn, none⟩) HRL.out.1).trans HR0.out.2.1
  have mk := (hb4.cell (p := ⟨gn, offn + s.calls.length, none⟩) hgw).trans HKN.out
  have HJX := hidX (hq4.1.put dn y)
  have hd5 := HDN.out.keep (Y := X4.setCell ⟨rg, dn, none⟩ (.int .i64 y)) (by simp [World.setCell]; exact hb4.size) (fun k hk => (Below.heap_setCell _ _ _ _ (show k ≠ rg from hk.elim (fun e => by have := HRL.out.2; omega) (fun e => by have := (HSN.out k e).1; have := HRL.out.2; omega))).trans (hb4.block k (hk.elim (fun e => e ▸ HDL.out) (fun e => (HDN.out.sl k e).1))))
  have HD5 := hidX hd5
  have HSL := hidX (show ∀ b, S b → b < W.heap.size from fun b e => (HDN.out.sl b e).1)
  have HO5 := hidX (show ∀ k, k < W.heap.size → k ≠ rg → (X4.setCell ⟨rg, dn, none⟩ (.int .i64 y)).heap[k]? = W.heap[k]? from fun k h1 h2 => (Below.heap_setCell _ _ _ _ h2).trans (hb4.block k h1))
  have HX5 := hidX (show ∀ k, k < W3.heap.size → k ≠ rg → (X4.setCell ⟨rg, dn, none⟩ (.int .i64 y)).heap[k]? = W3.heap[k]? from fun k h1 h2 => (Below.heap_setCell _ _ _ _ h2).trans (HW3.out.2 k h1))
  have hsz5 : (X4.setCell ⟨rg, dn, none⟩ (.int .i64 y)).heap.size = X4.heap.size := by simp [World.setCell]
  have q5 : (X4.setCell ⟨rg, dn, none⟩ (.int .i64 y)).cell? ⟨xb, 5, none⟩ = some (.string ⟨name.toArray⟩) := (World.cell?_of_block (w := X4) (a := ⟨xb, 5, none⟩) (Below.heap_setCell _ _ _ _ (show xb ≠ rg by have := (HJ.out.kl xb HXL.out.2).1; have := HRL.out.2; omega))).trans m5
  have q4 : (X4.setCell ⟨rg, dn, none⟩ (.int .i64 y)).cell? ⟨db, 4, none⟩ = some (.slice cad s.calls.length ccap) := cell_of_blk hd5.blk 4
  have HQ := hidX (And.intro q4 q5)
  have HSZ := hidX hsz5
  clear hq4 hx4 hX4 n1 n4 n5 j4 kn hd5 hb4 q4 q5 hsz5 hb3 hmk
  go_region
  generalize X4.setCell ⟨rg, dn, none⟩ (.int .i64 y) = X5 at HJX HD5 HO5 HX5 HQ HSZ ⊢
  clear m1 m5 m0 mf mk
  have HJY := hidX HJX.out.1.drewA
  have HDY := hidX (HD5.out.keep (Y := X5.drew) (Nat.le_refl _) (fun _ _ => rfl))
  have HOY := hidX (show ∀ k, k < W.heap.size → k ≠ rg → X5.drew.heap[k]? = W.heap[k]? from HO5.out)
  have HXY := hidX (show ∀ k, k < W3.heap.size → k ≠ rg → X5.drew.heap[k]? = W3.heap[k]? from HX5.out)
  have HQY := hidX (show X5.drew.cell? ⟨db, 4, none⟩ = some (.slice cad s.calls.length ccap) ∧ X5.drew.cell? ⟨xb, 5, none⟩ = some (.string ⟨name.toArray⟩) from HQ.out)
  have HSY := hidX (show W3.heap.size < X5.drew.heap.size ∧ W.heap.size ≤ W3.heap.size from ⟨by show W3.heap.size < X5.heap.size; rw [HSZ.out]; exact HW3.out.1, HB3.out.size⟩)
  clear HJX HD5 HO5 HX5 HQ HSZ
  generalize X5.drew = Y5 at HJY HDY HOY HXY HQY HSY ⊢
  obtain ⟨q4, q5⟩ := HQY.out
  have hbb : Below Y5.heap.size Y5 (Y5.alloc (.cells #[.string ⟨name.toArray⟩, .slice ad3 nn cap3] 74)) := box_blk _ _ _
  have HDYL := hidX (show db < Y5.heap.size ∧ xb < Y5.heap.size from ⟨by have := HSY.out.1; have := HDL.out; have := HSY.out.2; omega, by have := HSY.out.1; have := HXL.out.1; have := HSY.out.2; omega⟩)
  go_wp2_with (at_builtin; refine wpList_append_lies _ rfl _ _ 40 rfl 0 74 ic0 _ 2 40 Tryd.underlying40 hic ic1 ic2 ic3 rfl (by decide) (.slice cad s.calls.length ccap) s.calls.length xs rfl (owns_below HDY.out.call (box_blk _ _ _)) ⟨Y5.heap.size, 0, none⟩ 1 1 [.string ⟨name.toArray⟩, .slice ad3 nn cap3] rfl rfl (World.news_of_block (heap_alloc_new Y5 _)) (cl_one name ⟨_, _, _, rfl⟩) (by decide) (by unfold maxLen; omega) (by omega) (Nat.zero_le _) _ rfl ?_; intro g5 cap5 W6 ho4 hg4 hl4 _; have HO4 := hidX ho4; have HG4 := hidX hg4; have HL4 := hidX hl4; have hdb4 := ((hg4.block db (by simp; have := HDYL.out.1; omega) (fun e => (HDY.out.sl db (HDY.out.callS db e.symm)).2 rfl)).trans (Below.heap_alloc _ _ _ HDYL.out.1)).trans HDY.out.blk; have s4 : W6.cell? ⟨db, 4, none⟩ = some (.slice cad s.calls.length ccap) := cell_of_blk hdb4 4; have fr4 := free_of_blk hdb4 4; clear hdb4 ho4 hg4 hl4)
  have hav : XRow (fun b => W.heap.size ≤ b ∧ b < W3.heap.size) (Y5.alloc (.cells #[.string ⟨name.toArray⟩, .slice ad3 nn cap3] 74)) (.slice ad3 nn cap3) (r.next.take nn).length (intsG (r.next.take nn)) := by
   have h0 := xrow_own HO3.out
   rw [hlen] at h0 ⊢
   exact h0.imp (fun _ h => h) (fun b hb => (Below.heap_alloc _ _ _ (by have := HSY.out.1; have := hb.2; omega)).trans (HXY.out b hb.2 (by have := hb.1; have := HRL.out.1; omega)))
  have hpr := HDY.out.calledV (nm := name) (vs := r.next.take nn) (V := fun b => W.heap.size ≤ b ∧ b < W3.heap.size) hbb HG4.out HO4.out (fun b hb => ⟨by have := hb.2; have := HSY.out.1; simp; omega, by have := hb.1; have := HDL.out; omega, fun e => by have := HSL.out b e; have := hb.1; omega⟩) hav (by
   rcases HL4.out with e | e
   ·exact Or.inl e.symm
   ·right; exact ⟨g5, by simp only [Value.ownBlock], by rw [e]; simp⟩)
  obtain ⟨S', hS', o', c', x', hD'⟩ := hpr.2
  have hz44 : Y5.heap.size ≤ W6.heap.size := Nat.le_trans hbb.size HG4.out.size
  have HJ9 := hidX (HJY.out.again (Y := W6.setCell ⟨db, 4, none⟩ (.slice (some ⟨g5, 0, none⟩) (s.calls.length + 1) cap5)) HDY.out (fun b e => ⟨(HSN.out b e).1, by have := HSL.out b e; have := HSY.out.2; omega, (HSN.out b e).2.2⟩) (HG4.out.os.trans hbb.os) (HG4.out.tape.trans hbb.tape) (HG4.out.output.trans hbb.output) (by simp [World.setCell]; omega) (fun b h1 h2 h3 => (Below.heap_setCell _ _ _ _ h2).trans (hpr.1 b h1 h3)) hD' (fun b e => (hS' b e).imp id (fun e => ⟨by have := HDL.out; have := HSY.out; omega, by have := HSY.out; omega, fun e2 => by have := (HJ.out.kl b e2).2; have := HSY.out; omega⟩)))
  go_wp2
  have hq := HJ9.out
  rw [HGO.out] at HN
  refine HN.out rfl _ _ _ _ _ _ _ _ _ _ _ _ _ _ _ _ _ _ _ _ _ _ _ _ _ _ _ _ _ _ _ _ _ _ _ _ _ _ _ _ _ _ _ _ _ _ _ _ _ _ _ _ _ _ _ _ _ _ _ _ _ _ _ _ _ _ _ _ _ _ _ _ _ _ _ _ _ _ _ _ _ _ _ _ _ _ _ _ _ _ _ _ _ _ _ _ _ _ _ _ _ _ _ _ _ _ _ _ _ _ _ _ _ _ _ _ _ _ _ _ _ _ _ _ _ _ _ _ _ _ _ _ _ _ _ _ _ _ _ _ _ _ _ _ _ _ _ _ _ _ _ _ _ _ _ _ _ _ _ _ _ _ _ W3.heap.size _ (by first | exact hq.1 | exact hq.1.drewA) (fun k hk => ?_) (by simp [World.setCell]; have := HSY.out; omega)
  exact (hq.2 k hk).trans (HOY.out k (HJ.out.kl k hk).2 (by have := (HJ.out.kl k hk).1; have := HRL.out.2; omega))
end Go.Proofs.YtimccbilkjjakaaDoor
