/- Our own: texts joined: AlRun. -/
import Derived.Test.YtimccbilkjjakaaDoorZAlRunA
import Derived.Test.YtimccbilkjjakaaDoorZAlRunB
import Derived.Test.YtimccbilkjjakaaDoorZAlRunC
import Derived.Test.YtimccbilkjjakaaDoorZAlRunD
import Derived.Test.YtimccbilkjjakaaDoorZAlRunE
import Derived.Test.YtimccbilkjjakaaDoorZAlRunF
import Derived.Test.YtimccbilkjjakaaDoorZAlRunG
import Derived.Test.YtimccbilkjjakaaDoorZBlOk
namespace Go.Proofs.YtimccbilkjjakaaDoor
open Go.RowKit
set_option maxRecDepth 100000 in
theorem ral_any {K : Nat → Prop} {w W : World} {cv : Array Value} {cb rs rg zb nb db xb : Nat} {s : Rst} {r : Ra} {args ans : List Int} {ticks : Int} {aad nad : Option Addr} {acap ncap : Nat} {x : Li} {RR : Rst × Ra} {zn : Nat} (hJ : LwJ K w cv W cb rs rg zb nb db s r) (hxb : K xb) (hx : W.heap[xb]? = some (.cells (liV x).toArray 60 (0, 0))) (hag : XRow (InH w) w (.slice aad args.length acap) args.length (intsG args)) (han : XRow (InH w) w (.slice nad ans.length ncap) ans.length (intsG ans)) (hal : ans.length ≤ 100000) (h6 : R64 r) (hts : 0 ≤ s.tks ∧ s.tks ≤ 1000000000) (hol : s.out.length ≤ 1000) (hcl : s.calls.length ≤ 100000) (hd : DoL args.length zn x) (hRR : RR = insL args ans ticks x s r) (hzn : r.slots.length = zn)
  {c0 c4 c5 c6 c7 c8 c9 c15 c16 c17 c18 c22 c23 c24 c25 c26 c27 c28 c29 c30 c31 c32 c33 c34 c35 c36 c37 c38 c39 c40 c41 c42 c43 c44 c45 c46 c47 c48 c49 c50 c213 c214 c215 c216 c217 c218 c219 c220 c221 c222 c223 c224 c225 c226 c227 c228 c229 c230 c231 c232 c233 c234 c235 c236 c237 c238 c239 c240 c241 c242 : Value} {u20 u21 u52 u53 u54 u55 u56 u57 u58 u59 u60 u61 u62 u63 u64 u65 u66 u67 u68 u69 u70 u71 u72 u73 u74 u75 u76 u77 u78 u79 u80 u81 u82 u83 u84 u85 u86 u87 u88 u89 u90 u91 u92 u93 u94 u95 u96 u97 u98 u99 u100 u101 u102 u103 u104 u105 u106 u107 u108 u109 u110 u111 u112 u113 u114 u115 u116 u117 u118 u119 u120 u121 u122 u123 u124 u125 u126 u127 u128 u129 u130 u131 u132 u133 u134 u135 u136 u137 u138 u139 u140 u141 u142 u143 u144 u145 u146 u147 u148 u149 u150 u151 u152 u153 u154 u155 u156 u157 u158 u159 u160 u161 u162 u163 u164 u165 u166 u167 u168 u169 u170 u171 u172 u173 u174 u175 u176 u177 u178 u179 u180 u181 u182 u183 u184 u185 u186 u187 u188 u189 u190 u191 u192 u193 u194 u195 u196 u197 u198 u199 u200 u201 u202 u203 u204 u205 u206 u207 u208 u209 u210 u211 u212 : Value} {Q : Exit → Act → World → Prop}
  (hP : ∀ c (a : Act) (d : Option Tmp) (v : Value) (w : World), Q (.panic c) (a.put d v) w → Q (.panic c) a w)
  (hN : RR.1.how = s.how → ∀ (u20 u21 u52 u53 u54 u55 u56 u57 u58 u59 u60 u61 u62 u63 u64 u65 u66 u67 u68 u69 u70 u71 u72 u73 u74 u75 u76 u77 u78 u79 u80 u81 u82 u83 u84 u85 u86 u87 u88 u89 u90 u91 u92 u93 u94 u95 u96 u97 u98 u99 u100 u101 u102 u103 u104 u105 u106 u107 u108 u109 u110 u111 u112 u113 u114 u115 u116 u117 u118 u119 u120 u121 u122 u123 u124 u125 u126 u127 u128 u129 u130 u131 u132 u133 u134 u135 u136 u137 u138 u139 u140 u141 u142 u143 u144 u145 u146 u147 u148 u149 u150 u151 u152 u153 u154 u155 u156 u157 u158 u159 u160 u161 u162 u163 u164 u165 u166 u167 u168 u169 u170 u171 u172 u173 u174 u175 u176 u177 u178 u179 u180 u181 u182 u183 u184 u185 u186 u187 u188 u189 u190 u191 u192 u193 u194 u195 u196 u197 u198 u199 u200 u201 u202 u203 u204 u205 u206 u207 u208 u209 u210 u211 u212 : Value) (nb' : Nat) (w1 : World), LwJ K w cv w1 cb rs rg zb nb' db RR.1 RR.2 → KeepA K W w1 → W.heap.size ≤ w1.heap.size → Q .normal ⟨#[c0, .slice aad args.length acap, .slice nad ans.length ncap, .int .i64 ticks, c4, c5, c6, c7, c8, c9, .pointer (some ⟨rs, 0, none⟩), .slice (some ⟨rg, 0, none⟩) 8 8, .slice (some ⟨zb, 0, none⟩) zn zn, .slice (some ⟨nb', 0, none⟩) 4 4, .pointer (some ⟨db, 0, none⟩), c15, c16, c17, c18, .pointer (some ⟨xb, 0, none⟩), u20, u21, c22, c23, c24, c25, c26, c27, c28, c29, c30, c31, c32, c33, c34, c35, c36, c37, c38, c39, c40, c41, c42, c43, c44, c45, c46, c47, c48, c49, c50, .string ⟨x.kind.toArray⟩, u52, u53, u54, u55, u56, u57, u58, u59, u60, u61, u62, u63, u64, u65, u66, u67, u68, u69, u70, u71, u72, u73, u74, u75, u76, u77, u78, u79, u80, u81, u82, u83, u84, u85, u86, u87, u88, u89, u90, u91, u92, u93, u94, u95, u96, u97, u98, u99, u100, u101, u102, u103, u104, u105, u106, u107, u108, u109, u110, u111, u112, u113, u114, u115, u116, u117, u118, u119, u120, u121, u122, u123, u124, u125, u126, u127, u128, u129, u130, u131, u132, u133, u134, u135, u136, u137, u138, u139, u140, u141, u142, u143, u144, u145, u146, u147, u148, u149, u150, u151, u152, u153, u154, u155, u156, u157, u158, u159, u160, u161, u162, u163, u164, u165, u166, u167, u168, u169, u170, u171, u172, u173, u174, u175, u176, u177, u178, u179, u180, u181, u182, u183, u184, u185, u186, u187, u188, u189, u190, u191, u192, u193, u194, u195, u196, u197, u198, u199, u200, u201, u202, u203, u204, u205, u206, u207, u208, u209, u210, u211, u212, c213, c214, c215, c216, c217, c218, c219, c220, c221, c222, c223, c224, c225, c226, c227, c228, c229, c230, c231, c232, c233, c234, c235, c236, c237, c238, c239, c240, c241, c242], []⟩ w1)
  (hR : RR.1.how = hOver → ∀ (u20 u21 u52 u53 u54 u55 u56 u57 u58 u59 u60 u61 u62 u63 u64 u65 u66 u67 u68 u69 u70 u71 u72 u73 u74 u75 u76 u77 u78 u79 u80 u81 u82 u83 u84 u85 u86 u87 u88 u89 u90 u91 u92 u93 u94 u95 u96 u97 u98 u99 u100 u101 u102 u103 u104 u105 u106 u107 u108 u109 u110 u111 u112 u113 u114 u115 u116 u117 u118 u119 u120 u121 u122 u123 u124 u125 u126 u127 u128 u129 u130 u131 u132 u133 u134 u135 u136 u137 u138 u139 u140 u141 u142 u143 u144 u145 u146 u147 u148 u149 u150 u151 u152 u153 u154 u155 u156 u157 u158 u159 u160 u161 u162 u163 u164 u165 u166 u167 u168 u169 u170 u171 u172 u173 u174 u175 u176 u177 u178 u179 u180 u181 u182 u183 u184 u185 u186 u187 u188 u189 u190 u191 u192 u193 u194 u195 u196 u197 u198 u199 u200 u201 u202 u203 u204 u205 u206 u207 u208 u209 u210 u211 u212 : Value) (w1 : World) (o c : Value), Below w.heap.size w w1 → w1.heap[rs]? = some (.cells #[.string ⟨RR.1.how.toArray⟩, .int .i64 RR.1.val, o, .int .i64 RR.1.tks, c] 42 (0, 0)) → DoneA w.heap.size w1 (.agg (dnV RR.1.how RR.1.val RR.1.tks o c).toArray) RR.1 → Q .ret ⟨#[c0, .slice aad args.length acap, .slice nad ans.length ncap, .int .i64 ticks, c4, c5, c6, c7, c8, c9, .pointer (some ⟨rs, 0, none⟩), .slice (some ⟨rg, 0, none⟩) 8 8, .slice (some ⟨zb, 0, none⟩) zn zn, .slice (some ⟨nb, 0, none⟩) 4 4, .pointer (some ⟨db, 0, none⟩), c15, c16, c17, c18, .pointer (some ⟨xb, 0, none⟩), u20, u21, c22, c23, c24, c25, c26, c27, c28, c29, c30, c31, c32, c33, c34, c35, c36, c37, c38, c39, c40, c41, c42, c43, c44, c45, c46, c47, c48, c49, c50, .string ⟨x.kind.toArray⟩, u52, u53, u54, u55, u56, u57, u58, u59, u60, u61, u62, u63, u64, u65, u66, u67, u68, u69, u70, u71, u72, u73, u74, u75, u76, u77, u78, u79, u80, u81, u82, u83, u84, u85, u86, u87, u88, u89, u90, u91, u92, u93, u94, u95, u96, u97, u98, u99, u100, u101, u102, u103, u104, u105, u106, u107, u108, u109, u110, u111, u112, u113, u114, u115, u116, u117, u118, u119, u120, u121, u122, u123, u124, u125, u126, u127, u128, u129, u130, u131, u132, u133, u134, u135, u136, u137, u138, u139, u140, u141, u142, u143, u144, u145, u146, u147, u148, u149, u150, u151, u152, u153, u154, u155, u156, u157, u158, u159, u160, u161, u162, u163, u164, u165, u166, u167, u168, u169, u170, u171, u172, u173, u174, u175, u176, u177, u178, u179, u180, u181, u182, u183, u184, u185, u186, u187, u188, u189, u190, u191, u192, u193, u194, u195, u196, u197, u198, u199, u200, u201, u202, u203, u204, u205, u206, u207, u208, u209, u210, u211, u212, c213, c214, c215, c216, c217, c218, c219, c220, c221, c222, c223, c224, c225, c226, c227, c228, c229, c230, c231, c232, c233, c234, c235, c236, c237, c238, c239, c240, c241, c242], []⟩ w1) : Code.wp Tryd.prog ralC Q ⟨#[c0, .slice aad args.length acap, .slice nad ans.length ncap, .int .i64 ticks, c4, c5, c6, c7, c8, c9, .pointer (some ⟨rs, 0, none⟩), .slice (some ⟨rg, 0, none⟩) 8 8, .slice (some ⟨zb, 0, none⟩) zn zn, .slice (some ⟨nb, 0, none⟩) 4 4, .pointer (some ⟨db, 0, none⟩), c15, c16, c17, c18, .pointer (some ⟨xb, 0, none⟩), u20, u21, c22, c23, c24, c25, c26, c27, c28, c29, c30, c31, c32, c33, c34, c35, c36, c37, c38, c39, c40, c41, c42, c43, c44, c45, c46, c47, c48, c49, c50, .string ⟨x.kind.toArray⟩, u52, u53, u54, u55, u56, u57, u58, u59, u60, u61, u62, u63, u64, u65, u66, u67, u68, u69, u70, u71, u72, u73, u74, u75, u76, u77, u78, u79, u80, u81, u82, u83, u84, u85, u86, u87, u88, u89, u90, u91, u92, u93, u94, u95, u96, u97, u98, u99, u100, u101, u102, u103, u104, u105, u106, u107, u108, u109, u110, u111, u112, u113, u114, u115, u116, u117, u118, u119, u120, u121, u122, u123, u124, u125, u126, u127, u128, u129, u130, u131, u132, u133, u134, u135, u136, u137, u138, u139, u140, u141, u142, u143, u144, u145, u146, u147, u148, u149, u150, u151, u152, u153, u154, u155, u156, u157, u158, u159, u160, u161, u162, u163, u164, u165, u166, u167, u168, u169, u170, u171, u172, u173, u174, u175, u176, u177, u178, u179, u180, u181, u182, u183, u184, u185, u186, u187, u188, u189, u190, u191, u192, u193, u194, u195, u196, u197, u198, u199, u200, u201, u202, u203, u204, u205, u206, u207, u208, u209, u210, u211, u212, c213, c214, c215, c216, c217, c218, c219, c220, c221, c222, c223, c224, c225, c226, c227, c228, c229, c230, c231, c232, c233, c234, c235, c236, c237, c238, c239, c240, c241, c242], []⟩ W := by
 subst hzn
 obtain ⟨kind, d, a, b, num, name⟩ := x
 rcases hd.kind with h | h | h | h | h | h | h | h | h | h | h
 ·obtain rfl : kind = ([112, 97, 114, 97, 109] : List UInt8) := h
  exact ral_param hJ hxb hx hag han hal h6 hts hol hcl hd hRR rfl hP hN hR
 ·obtain rfl : kind = ([99, 111, 110, 115, 116] : List UInt8) := h
  exact ral_const hJ hxb hx hag han hal h6 hts hol hcl hd hRR rfl hP hN hR
 ·obtain rfl : kind = ([111, 110, 101] : List UInt8) := h
  exact ral_one hJ hxb hx hag han hal h6 hts hol hcl hd hRR rfl hP hN hR
 ·obtain rfl : kind = ([116, 119, 111] : List UInt8) := h
  exact ral_two hJ hxb hx hag han hal h6 hts hol hcl hd hRR rfl hP hN hR
 ·obtain rfl : kind = ([109, 111, 118, 101] : List UInt8) := h
  exact ral_move hJ hxb hx hag han hal h6 hts hol hcl hd hRR rfl hP hN hR
 ·obtain rfl : kind = ([108, 111, 97, 100] : List UInt8) := h
  exact ral_load hJ hxb hx hag han hal h6 hts hol hcl hd hRR rfl hP hN hR
 ·obtain rfl : kind = ([115, 116, 111, 114, 101] : List UInt8) := h
  exact ral_store hJ hxb hx hag han hal h6 hts hol hcl hd hRR rfl hP hN hR
 ·obtain rfl : kind = ([97, 114, 103] : List UInt8) := h
  exact ral_arg hJ hxb hx hag han hal h6 hts hol hcl hd hRR rfl hP hN hR
 ·obtain rfl : kind = ([99, 97, 108, 108] : List UInt8) := h
  exact ral_call hJ hxb hx hag han hal h6 hts hol hcl hd hRR rfl hP hN hR
 ·obtain rfl : kind = ([116, 105, 99, 107] : List UInt8) := h
  exact ral_tick hJ hxb hx hag han hal h6 hts hol hcl hd hRR rfl hP hN hR
 ·obtain rfl : kind = ([112, 114, 105, 110, 116] : List UInt8) := h
  exact ral_print hJ hxb hx hag han hal h6 hts hol hcl hd hRR rfl hP hN hR
theorem in64_zero : In64 0 := by unfold In64; omega
theorem in64_set {l : List Int} {k : Nat} {v : Int} (h : ∀ y ∈ l, In64 y) (hv : In64 v) : ∀ y ∈ l.set k v, In64 y := fun y hy => (List.mem_or_eq_of_mem_set hy).elim (h y) (fun e => e ▸ hv)
theorem in64_gd {l : List Int} (h : ∀ y ∈ l, In64 y) (k : Nat) : In64 (l.getD k 0) := by
 rcases Nat.lt_or_ge k l.length with hk | hk
 ·simp only [List.getD, List.getElem?_eq_getElem hk, Option.getD_some]; exact h _ (List.getElem_mem hk)
 ·simp only [List.getD, List.getElem?_eq_none hk, Option.getD_none]; exact in64_zero
theorem R64.put {r : Ra} (h : R64 r) (k : Nat) {v : Int} (hv : In64 v) : R64 (r.put k v) := ⟨in64_set h.reg hv, h.slt⟩
theorem sumV_64 (k m : List UInt8) {vs : List Int} (h : In64 (vs.getD 0 0)) : In64 (sumV k m vs) := by
 unfold sumV
 split
 ·exact oneV_fit _ _
 ·exact vOp_fit _ _ _ h
theorem ite_64 {p : Prop} [Decidable p] {u v : Rst × Ra} (hu : R64 u.2) (hv : R64 v.2) : R64 (if p then u else v).2 := by split <;> assumption
theorem insL_64 {args ans : List Int} {most : Int} {x : Li} {s : Rst} {r : Ra} (ha : ∀ v ∈ args, In64 v) (hn : ∀ v ∈ ans, In64 v) (hx : In64 x.num) (h : R64 r) : R64 (insL args ans most x s r).2 := by
 unfold insL
 refine ite_64 (h.put _ (in64_gd ha _)) ?_
 refine ite_64 (h.put _ hx) ?_
 refine ite_64 (h.put _ (sumV_64 _ _ (in64_gd h.reg _))) ?_
 refine ite_64 (h.put _ (sumV_64 _ _ (in64_gd h.reg _))) ?_
 refine ite_64 (h.put _ (in64_gd h.reg _)) ?_
 refine ite_64 (h.put _ (in64_gd h.slt _)) ?_
 refine ite_64 ⟨h.reg, in64_set h.slt (in64_gd h.reg _)⟩ ?_
 refine ite_64 ⟨h.reg, h.slt⟩ ?_
 refine ite_64 ?_ ?_
 ·split
  ·exact h
  ·exact ⟨in64_set h.reg (in64_gd hn _), h.slt⟩
 ·exact ite_64 h (ite_64 h h)
end Go.Proofs.YtimccbilkjjakaaDoor
