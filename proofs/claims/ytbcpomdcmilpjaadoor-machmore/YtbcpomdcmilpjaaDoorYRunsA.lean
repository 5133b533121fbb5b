/- Our own: texts joined: MxHeadM, MxMoreT, MxMore. -/
import Derived.Test.YtbcpomdcmilpjaaDoorYApM
import Derived.Test.YtbcpomdcmilpjaaDoorYMxA
import Derived.Test.YtbcpomdcmilpjaaDoorYMoMachOf
import Derived.Test.YtbcpomdcmilpjaaDoorYSameM
import Derived.Test.YtbcpomdcmilpjaaDoorYOnceM
import Derived.Test.YtbcpomdcmilpjaaDoorYMaRun
import Derived.Test.YtbcpomdcmilpjaaDoorYMrImage
namespace Go.Proofs.YtbcpomdcmilpjaaDoor
open Go.RowKit
theorem fld_codeM (c : Int) (x : Int) (w : World) : (Instr.field 30 (.agg #[.int .i64 c, .int .i64 x]) 0).run Tryd.prog w = .ok (.int .i64 c) w := by kernel_rfl
noncomputable def mm0C : Code := ((Tryd.f4.body.bind (regionOf 0)).getD .skip)
noncomputable def mm1C : Code := ((Tryd.f4.body.bind (regionOf 1)).getD .skip)
noncomputable def mm2C : Code := fstC ((Tryd.f4.body.bind (fromOf 2)).getD .skip)
noncomputable def mm4C : Code := ((Tryd.f4.body.bind (regionOf 4)).getD .skip)
noncomputable def mm5C : Code := fstC ((Tryd.f4.body.bind (fromOf 5)).getD .skip)
set_option maxRecDepth 100000 in
set_option maxHeartbeats 4000000 in
theorem mm_0 {w : World} {I : Im} {adf adw : Option Addr} {cf cw : Nat} {nm : List UInt8} {args : List Int} {aad : Option Addr} {ac : Nat} {tk tk2 : Int}  {c6 c7 c8 c9 c11 c12 c13 c14 c15 c16 c17 c18 c19 c20 c21 c22 c23 c24 c25 c26 c27 c28 c29 c30 c31 c32 c33 c34 c35 c36 c37 c38 c39 c40 c41 c42 c43 c44 c45 c46 c47 c48 c49 c50 c51 c52 c53 c54 c55 c56 c57 c58 c59 c60 c61 c62 c63 c64 c65 c66 c67 c68 c69 c70 c71 c72 c73 c74 c75 c76 c77 c78 c79 c80 c81 c82 c83 c84 c85 c86 c87 c88 c89 c90 c91 c92 c93 c94 c95 c96 c97 c98 c99 c100 c101 c102 c103 c104 c105 c106 c107 c108 c109 c110 c111 c112 c113 c114 c115 c116 c117 c118 c119 c120 c121 c122 c123 c124 c125 c126 c127 c128 c129 c130 c131 c132 c133 c134 c135 c136 c137 c138 c139 c140 c141 c142 c143 c144 c145 c146 c147 c148 c149 c150 c151 c152 c153 c154 c155 c156 c157 : Value} {u5 u10 : Value} {Q : Exit → Act → World → Prop}
  (hN : ∀ (u10 : Value), Q .normal ⟨#[.agg #[.slice adf I.funs.length cf, .slice adw I.words.length cw], .string ⟨nm.toArray⟩, .slice aad args.length ac, .int .i64 tk, .int .i64 tk2, .pointer (some ⟨w.heap.size, 0, none⟩), c6, c7, c8, c9, u10, c11, c12, c13, c14, c15, c16, c17, c18, c19, c20, c21, c22, c23, c24, c25, c26, c27, c28, c29, c30, c31, c32, c33, c34, c35, c36, c37, c38, c39, c40, c41, c42, c43, c44, c45, c46, c47, c48, c49, c50, c51, c52, c53, c54, c55, c56, c57, c58, c59, c60, c61, c62, c63, c64, c65, c66, c67, c68, c69, c70, c71, c72, c73, c74, c75, c76, c77, c78, c79, c80, c81, c82, c83, c84, c85, c86, c87, c88, c89, c90, c91, c92, c93, c94, c95, c96, c97, c98, c99, c100, c101, c102, c103, c104, c105, c106, c107, c108, c109, c110, c111, c112, c113, c114, c115, c116, c117, c118, c119, c120, c121, c122, c123, c124, c125, c126, c127, c128, c129, c130, c131, c132, c133, c134, c135, c136, c137, c138, c139, c140, c141, c142, c143, c144, c145, c146, c147, c148, c149, c150, c151, c152, c153, c154, c155, c156, c157], []⟩ (w.alloc (.cells #[.slice adf I.funs.length cf, .slice adw I.words.length cw] 25))) : Code.wp Tryd.prog mm0C Q ⟨#[.agg #[.slice adf I.funs.length cf, .slice adw I.words.length cw], .string ⟨nm.toArray⟩, .slice aad args.length ac, .int .i64 tk, .int .i64 tk2, u5, c6, c7, c8, c9, u10, c11, c12, c13, c14, c15, c16, c17, c18, c19, c20, c21, c22, c23, c24, c25, c26, c27, c28, c29, c30, c31, c32, c33, c34, c35, c36, c37, c38, c39, c40, c41, c42, c43, c44, c45, c46, c47, c48, c49, c50, c51, c52, c53, c54, c55, c56, c57, c58, c59, c60, c61, c62, c63, c64, c65, c66, c67, c68, c69, c70, c71, c72, c73, c74, c75, c76, c77, c78, c79, c80, c81, c82, c83, c84, c85, c86, c87, c88, c89, c90, c91, c92, c93, c94, c95, c96, c97, c98, c99, c100, c101, c102, c103, c104, c105, c106, c107, c108, c109, c110, c111, c112, c113, c114, c115, c116, c117, c118, c119, c120, c121, c122, c123, c124, c125, c126, c127, c128, c129, c130, c131, c132, c133, c134, c135, c136, c137, c138, c139, c140, c141, c142, c143, c144, c145, c146, c147, c148, c149, c150, c151, c152, c153, c154, c155, c156, c157], []⟩ w := by
 have HN := hidX hN
 clear hN
 conv => arg 2; whnf
 go_wp2
 exact HN.out _
set_option maxRecDepth 100000 in
set_option maxHeartbeats 4000000 in
theorem mm_1 {w W : World} {I : Im} {adf adw : Option Addr} {cf cw : Nat} {nm : List UInt8} {args : List Int} {aad : Option Addr} {ac : Nat} {tk tk2 : Int} {a : Nat → Addr} (hS : SenM W a) (hT : TabC W) {c6 c7 c8 c9 c10 c12 c13 c14 c15 c16 c17 c18 c19 c20 c22 c23 c24 c25 c26 c27 c28 c29 c30 c31 c32 c33 c34 c35 c36 c37 c38 c39 c40 c41 c42 c43 c44 c45 c46 c47 c48 c49 c50 c51 c52 c53 c54 c55 c56 c57 c58 c59 c60 c61 c62 c63 c64 c65 c66 c67 c68 c69 c70 c71 c72 c73 c74 c75 c76 c77 c78 c79 c80 c81 c82 c83 c84 c85 c86 c87 c88 c89 c90 c91 c92 c93 c94 c95 c96 c97 c98 c99 c100 c101 c102 c103 c104 c105 c106 c107 c108 c109 c110 c111 c112 c113 c114 c115 c116 c117 c118 c119 c120 c121 c122 c123 c124 c125 c126 c127 c128 c129 c130 c131 c132 c133 c134 c135 c136 c137 c138 c139 c140 c141 c142 c143 c144 c145 c146 c147 c148 c149 c150 c151 c152 c153 c154 c155 c156 c157 : Value} {u11 u21 : Value} {Q : Exit → Act → World → Prop}
  (hN : ∀ (u21 : Value) (w1 : World), Below W.heap.size W w1 → Q .normal ⟨#[.agg #[.slice adf I.funs.length cf, .slice adw I.words.length cw], .string ⟨nm.toArray⟩, .slice aad args.length ac, .int .i64 tk, .int .i64 tk2, .pointer (some ⟨w.heap.size, 0, none⟩), c6, c7, c8, c9, c10, .bool true, c12, c13, c14, c15, c16, c17, c18, c19, c20, u21, c22, c23, c24, c25, c26, c27, c28, c29, c30, c31, c32, c33, c34, c35, c36, c37, c38, c39, c40, c41, c42, c43, c44, c45, c46, c47, c48, c49, c50, c51, c52, c53, c54, c55, c56, c57, c58, c59, c60, c61, c62, c63, c64, c65, c66, c67, c68, c69, c70, c71, c72, c73, c74, c75, c76, c77, c78, c79, c80, c81, c82, c83, c84, c85, c86, c87, c88, c89, c90, c91, c92, c93, c94, c95, c96, c97, c98, c99, c100, c101, c102, c103, c104, c105, c106, c107, c108, c109, c110, c111, c112, c113, c114, c115, c116, c117, c118, c119, c120, c121, c122, c123, c124, c125, c126, c127, c128, c129, c130, c131, c132, c133, c134, c135, c136, c137, c138, c139, c140, c141, c142, c143, c144, c145, c146, c147, c148, c149, c150, c151, c152, c153, c154, c155, c156, c157], []⟩ w1) : Code.wp Tryd.prog mm1C Q ⟨#[.agg #[.slice adf I.funs.length cf, .slice adw I.words.length cw], .string ⟨nm.toArray⟩, .slice aad args.length ac, .int .i64 tk, .int .i64 tk2, .pointer (some ⟨w.heap.size, 0, none⟩), c6, c7, c8, c9, c10, u11, c12, c13, c14, c15, c16, c17, c18, c19, c20, u21, c22, c23, c24, c25, c26, c27, c28, c29, c30, c31, c32, c33, c34, c35, c36, c37, c38, c39, c40, c41, c42, c43, c44, c45, c46, c47, c48, c49, c50, c51, c52, c53, c54, c55, c56, c57, c58, c59, c60, c61, c62, c63, c64, c65, c66, c67, c68, c69, c70, c71, c72, c73, c74, c75, c76, c77, c78, c79, c80, c81, c82, c83, c84, c85, c86, c87, c88, c89, c90, c91, c92, c93, c94, c95, c96, c97, c98, c99, c100, c101, c102, c103, c104, c105, c106, c107, c108, c109, c110, c111, c112, c113, c114, c115, c116, c117, c118, c119, c120, c121, c122, c123, c124, c125, c126, c127, c128, c129, c130, c131, c132, c133, c134, c135, c136, c137, c138, c139, c140, c141, c142, c143, c144, c145, c146, c147, c148, c149, c150, c151, c152, c153, c154, c155, c156, c157], []⟩ W := by
 have HN := hidX hN
 have HM := hidX (machined_any hS hT)
 clear hN hS hT
 conv => arg 2; whnf
 go_wp2_with fail
 refine HM.out.mono ?_
 rintro e w1 ⟨rfl, hb⟩
 have HB := hidX hb
 clear hb
 go_wp2
 exact HN.out _ _ HB.out
set_option maxRecDepth 100000 in
set_option maxHeartbeats 4000000 in
theorem mm_2 {w W : World} {I : Im} {adf adw : Option Addr} {cf cw : Nat} {nm : List UInt8} {args : List Int} {aad : Option Addr} {ac : Nat} {tk tk2 : Int} (hfl : I.funs.length ≤ 9223372036854775807) (hwl : I.words.length ≤ 9223372036854775807) (hnl : ∀ f ∈ I.funs, f.name.length ≤ 9223372036854775807) (hal : args.length ≤ 9223372036854775807) (hbox : W.heap[w.heap.size]? = some (.cells #[.slice adf I.funs.length cf, .slice adw I.words.length cw] 25 (0, 0))) (hF : XMf (InH W) W (.slice adf I.funs.length cf) I.funs) {c6 c7 c8 c9 c12 c13 c14 c15 c16 c17 c18 c19 c20 c21 c50 c51 c52 c53 c54 c55 c56 c57 c58 c59 c60 c61 c62 c63 c64 c65 c66 c67 c68 c69 c70 c71 c72 c73 c74 c75 c76 c77 c78 c79 c80 c81 c82 c83 c84 c85 c86 c87 c88 c89 c90 c91 c92 c93 c94 c95 c96 c97 c98 c99 c100 c101 c102 c103 c104 c105 c106 c107 c108 c109 c110 c111 c112 c113 c114 c115 c116 c117 c118 c119 c120 c121 c122 c123 c124 c125 c126 c127 c128 c129 c130 c131 c132 c133 c134 c135 c136 c137 c138 c139 c140 c141 c142 c143 c144 c145 c146 c147 c148 c149 c150 c151 c152 c153 c154 c155 c156 c157 : Value} {u10 u22 u23 u24 u25 u26 u27 u28 u29 u30 u31 u32 u33 u34 u35 u36 u37 u38 u39 u40 u41 u42 u43 u44 u45 u46 u47 u48 u49 : Value} {Q : Exit → Act → World → Prop}
  (hN : ∀ (u10 u22 u23 u24 u25 u26 u27 u28 u29 u30 u31 u32 u33 u34 u35 u36 u37 u38 u39 u40 u41 u42 u43 u44 u45 u46 u47 u48 u49 : Value) (w1 : World), Below W.heap.size W w1 → FewIm I → args.length ≤ 8 → ¬ tk < 0 → ¬ 60 < tk → ¬ tk2 < 0 → ¬ 60 < tk2 → Q .normal ⟨#[.agg #[.slice adf I.funs.length cf, .slice adw I.words.length cw], .string ⟨nm.toArray⟩, .slice aad args.length ac, .int .i64 tk, .int .i64 tk2, .pointer (some ⟨w.heap.size, 0, none⟩), c6, c7, c8, c9, u10, .bool true, c12, c13, c14, c15, c16, c17, c18, c19, c20, c21, u22, u23, u24, u25, u26, u27, u28, u29, u30, u31, u32, u33, u34, u35, u36, u37, u38, u39, u40, u41, u42, u43, u44, u45, u46, u47, u48, u49, c50, c51, c52, c53, c54, c55, c56, c57, c58, c59, c60, c61, c62, c63, c64, c65, c66, c67, c68, c69, c70, c71, c72, c73, c74, c75, c76, c77, c78, c79, c80, c81, c82, c83, c84, c85, c86, c87, c88, c89, c90, c91, c92, c93, c94, c95, c96, c97, c98, c99, c100, c101, c102, c103, c104, c105, c106, c107, c108, c109, c110, c111, c112, c113, c114, c115, c116, c117, c118, c119, c120, c121, c122, c123, c124, c125, c126, c127, c128, c129, c130, c131, c132, c133, c134, c135, c136, c137, c138, c139, c140, c141, c142, c143, c144, c145, c146, c147, c148, c149, c150, c151, c152, c153, c154, c155, c156, c157], []⟩ w1)
  (hR : ∀ (u10 u22 u23 u24 u25 u26 u27 u28 u29 u30 u31 u32 u33 u34 u35 u36 u37 u38 u39 u40 u41 u42 u43 u44 u45 u46 u47 u48 u49 : Value) (w1 : World), u10 = .bool true → Below W.heap.size W w1 → Q .ret ⟨#[.agg #[.slice adf I.funs.length cf, .slice adw I.words.length cw], .string ⟨nm.toArray⟩, .slice aad args.length ac, .int .i64 tk, .int .i64 tk2, .pointer (some ⟨w.heap.size, 0, none⟩), c6, c7, c8, c9, u10, .bool true, c12, c13, c14, c15, c16, c17, c18, c19, c20, c21, u22, u23, u24, u25, u26, u27, u28, u29, u30, u31, u32, u33, u34, u35, u36, u37, u38, u39, u40, u41, u42, u43, u44, u45, u46, u47, u48, u49, c50, c51, c52, c53, c54, c55, c56, c57, c58, c59, c60, c61, c62, c63, c64, c65, c66, c67, c68, c69, c70, c71, c72, c73, c74, c75, c76, c77, c78, c79, c80, c81, c82, c83, c84, c85, c86, c87, c88, c89, c90, c91, c92, c93, c94, c95, c96, c97, c98, c99, c100, c101, c102, c103, c104, c105, c106, c107, c108, c109, c110, c111, c112, c113, c114, c115, c116, c117, c118, c119, c120, c121, c122, c123, c124, c125, c126, c127, c128, c129, c130, c131, c132, c133, c134, c135, c136, c137, c138, c139, c140, c141, c142, c143, c144, c145, c146, c147, c148, c149, c150, c151, c152, c153, c154, c155, c156, c157], []⟩ w1) : Code.wp Tryd.prog mm2C Q ⟨#[.agg #[.slice adf I.funs.length cf, .slice adw I.words.length cw], .string ⟨nm.toArray⟩, .slice aad args.length ac, .int .i64 tk, .int .i64 tk2, .pointer (some ⟨w.heap.size, 0, none⟩), c6, c7, c8, c9, u10, .bool true, c12, c13, c14, c15, c16, c17, c18, c19, c20, c21, u22, u23, u24, u25, u26, u27, u28, u29, u30, u31, u32, u33, u34, u35, u36, u37, u38, u39, u40, u41, u42, u43, u44, u45, u46, u47, u48, u49, c50, c51, c52, c53, c54, c55, c56, c57, c58, c59, c60, c61, c62, c63, c64, c65, c66, c67, c68, c69, c70, c71, c72, c73, c74, c75, c76, c77, c78, c79, c80, c81, c82, c83, c84, c85, c86, c87, c88, c89, c90, c91, c92, c93, c94, c95, c96, c97, c98, c99, c100, c101, c102, c103, c104, c105, c106, c107, c108, c109, c110, c111, c112, c113, c114, c115, c116, c117, c118, c119, c120, c121, c122, c123, c124, c125, c126, c127, c128, c129, c130, c131, c132, c133, c134, c135, c136, c137, c138, c139, c140, c141, c142, c143, c144, c145, c146, c147, c148, c149, c150, c151, c152, c153, c154, c155, c156, c157], []⟩ W := by
 have HN := hidX hN
 have HR := hidX hR
 have HL := hidX (largeImg_any I hfl hwl hnl adf adw cf cw hF)
 have b0 : W.cell? ⟨w.heap.size, 0, none⟩ = some (.slice adf I.funs.length cf) := cell_of_blk hbox 0
 have b1 : W.cell? ⟨w.heap.size, 1, none⟩ = some (.slice adw I.words.length cw) := cell_of_blk hbox 1
 have hal' : (args.length : Int) ≤ 9223372036854775807 := by omega
 have hfl' : (I.funs.length : Int) ≤ 9223372036854775807 := by omega
 have hwl' : (I.words.length : Int) ≤ 9223372036854775807 := by omega
 have HBX := hidX hbox
 clear hN hR hfl hwl hnl hbox hF
 conv => arg 2; whnf
 go_wp2_with fail
 refine HL.out.mono ?_
 rintro e w1 ⟨b, rfl, hfew, hb⟩
 have HB := hidX hb
 have e0 : w1.cell? ⟨w.heap.size, 0, none⟩ = some (.slice adf I.funs.length cf) := cell_of_blk ((hb.block _ (heap_lt HBX.out)).trans HBX.out) 0
 have e1 : w1.cell? ⟨w.heap.size, 1, none⟩ = some (.slice adw I.words.length cw) := cell_of_blk ((hb.block _ (heap_lt HBX.out)).trans HBX.out) 1
 have HFE := hidX hfew
 clear hb b0 b1 hfew
 cases b with
 | true =>
  go_wp2
  exact HR.out _ _ _ _ _ _ _ _ _ _ _ _ _ _ _ _ _ _ _ _ _ _ _ _ _ _ _ _ _  _ rfl HB.out
 | false =>
  have HF := hidX (HFE.out (by first | rfl | trivial))
  clear HFE
  by_cases ha : args.length ≤ 8
  ·have ha' : ¬ (8 : Int) < (args.length : Int) := by omega
   by_cases hb : ¬ tk < 0
   ·by_cases hc : ¬ 60 < tk
    ·by_cases hd : ¬ tk2 < 0
     ·by_cases he : ¬ 60 < tk2
      ·go_wp2
       exact HN.out _ _ _ _ _ _ _ _ _ _ _ _ _ _ _ _ _ _ _ _ _ _ _ _ _ _ _ _ _  _ HB.out HF.out ha hb hc hd he
      ·have he' : 60 < tk2 := by omega
       clear he
       go_wp2
       exact HR.out _ _ _ _ _ _ _ _ _ _ _ _ _ _ _ _ _ _ _ _ _ _ _ _ _ _ _ _ _  _ rfl HB.out
     ·have hd' : tk2 < 0 := by omega
      clear hd
      go_wp2
      exact HR.out _ _ _ _ _ _ _ _ _ _ _ _ _ _ _ _ _ _ _ _ _ _ _ _ _ _ _ _ _  _ rfl HB.out
    ·have hc' : 60 < tk := by omega
     clear hc
     go_wp2
     exact HR.out _ _ _ _ _ _ _ _ _ _ _ _ _ _ _ _ _ _ _ _ _ _ _ _ _ _ _ _ _  _ rfl HB.out
   ·have hb' : tk < 0 := by omega
    clear hb
    go_wp2
    exact HR.out _ _ _ _ _ _ _ _ _ _ _ _ _ _ _ _ _ _ _ _ _ _ _ _ _ _ _ _ _  _ rfl HB.out
  ·have ha' : (8 : Int) < (args.length : Int) := by omega
   go_wp2
   exact HR.out _ _ _ _ _ _ _ _ _ _ _ _ _ _ _ _ _ _ _ _ _ _ _ _ _ _ _ _ _  _ rfl HB.out
set_option maxRecDepth 100000 in
set_option maxHeartbeats 4000000 in
theorem mm_4 {w W : World} {I : Im} {adf adw : Option Addr} {cf cw : Nat} {nm : List UInt8} {args : List Int} {aad : Option Addr} {ac : Nat} {tk tk2 : Int}  {c6 c7 c8 c9 c10 c13 c14 c15 c16 c17 c18 c19 c20 c21 c22 c23 c24 c25 c26 c27 c28 c29 c30 c31 c32 c33 c34 c35 c36 c37 c38 c39 c40 c41 c42 c43 c44 c45 c46 c47 c48 c49 c50 c51 c52 c53 c54 c55 c56 c57 c58 c59 c60 c61 c62 c63 c64 c65 c66 c67 c68 c69 c70 c71 c72 c73 c74 c75 c76 c77 c78 c79 c80 c81 c82 c83 c84 c85 c86 c87 c88 c89 c90 c91 c92 c93 c94 c95 c96 c97 c98 c99 c100 c101 c102 c103 c104 c105 c106 c107 c108 c109 c110 c111 c112 c113 c114 c115 c116 c117 c118 c119 c120 c121 c122 c123 c124 c125 c126 c127 c128 c129 c130 c131 c132 c133 c134 c135 c136 c137 c138 c139 c140 c141 c142 c143 c144 c145 c146 c147 c148 c149 c150 c151 c152 c153 c154 c155 c156 c157 : Value} {u12 : Value} {Q : Exit → Act → World → Prop}
  (hN : Q .normal ⟨#[.agg #[.slice adf I.funs.length cf, .slice adw I.words.length cw], .string ⟨nm.toArray⟩, .slice aad args.length ac, .int .i64 tk, .int .i64 tk2, .pointer (some ⟨w.heap.size, 0, none⟩), c6, c7, c8, c9, c10, .bool true, .int .i64 (-1), c13, c14, c15, c16, c17, c18, c19, c20, c21, c22, c23, c24, c25, c26, c27, c28, c29, c30, c31, c32, c33, c34, c35, c36, c37, c38, c39, c40, c41, c42, c43, c44, c45, c46, c47, c48, c49, c50, c51, c52, c53, c54, c55, c56, c57, c58, c59, c60, c61, c62, c63, c64, c65, c66, c67, c68, c69, c70, c71, c72, c73, c74, c75, c76, c77, c78, c79, c80, c81, c82, c83, c84, c85, c86, c87, c88, c89, c90, c91, c92, c93, c94, c95, c96, c97, c98, c99, c100, c101, c102, c103, c104, c105, c106, c107, c108, c109, c110, c111, c112, c113, c114, c115, c116, c117, c118, c119, c120, c121, c122, c123, c124, c125, c126, c127, c128, c129, c130, c131, c132, c133, c134, c135, c136, c137, c138, c139, c140, c141, c142, c143, c144, c145, c146, c147, c148, c149, c150, c151, c152, c153, c154, c155, c156, c157], []⟩ W) : Code.wp Tryd.prog mm4C Q ⟨#[.agg #[.slice adf I.funs.length cf, .slice adw I.words.length cw], .string ⟨nm.toArray⟩, .slice aad args.length ac, .int .i64 tk, .int .i64 tk2, .pointer (some ⟨w.heap.size, 0, none⟩), c6, c7, c8, c9, c10, .bool true, u12, c13, c14, c15, c16, c17, c18, c19, c20, c21, c22, c23, c24, c25, c26, c27, c28, c29, c30, c31, c32, c33, c34, c35, c36, c37, c38, c39, c40, c41, c42, c43, c44, c45, c46, c47, c48, c49, c50, c51, c52, c53, c54, c55, c56, c57, c58, c59, c60, c61, c62, c63, c64, c65, c66, c67, c68, c69, c70, c71, c72, c73, c74, c75, c76, c77, c78, c79, c80, c81, c82, c83, c84, c85, c86, c87, c88, c89, c90, c91, c92, c93, c94, c95, c96, c97, c98, c99, c100, c101, c102, c103, c104, c105, c106, c107, c108, c109, c110, c111, c112, c113, c114, c115, c116, c117, c118, c119, c120, c121, c122, c123, c124, c125, c126, c127, c128, c129, c130, c131, c132, c133, c134, c135, c136, c137, c138, c139, c140, c141, c142, c143, c144, c145, c146, c147, c148, c149, c150, c151, c152, c153, c154, c155, c156, c157], []⟩ W := by
 have HN := hidX hN
 clear hN
 conv => arg 2; whnf
 go_wp2
 exact HN.out
set_option maxRecDepth 100000 in
set_option maxHeartbeats 4000000 in
theorem mm_5 {w W : World} {I : Im} {adf adw : Option Addr} {cf cw : Nat} {nm : List UInt8} {args : List Int} {aad : Option Addr} {ac : Nat} {tk tk2 : Int} (hfl : I.funs.length ≤ 12) (hbox : W.heap[w.heap.size]? = some (.cells #[.slice adf I.funs.length cf, .slice adw I.words.length cw] 25 (0, 0))) (hF : XMf (InH W) W (.slice adf I.funs.length cf) I.funs) {c6 c7 c8 c9 c10 c14 c15 c16 c17 c18 c19 c20 c21 c22 c23 c24 c25 c26 c27 c28 c29 c30 c31 c32 c33 c34 c35 c36 c37 c38 c39 c40 c41 c42 c43 c44 c45 c46 c47 c48 c49 c66 c67 c68 c69 c70 c71 c72 c73 c74 c75 c76 c77 c78 c79 c80 c81 c82 c83 c84 c85 c86 c87 c88 c89 c90 c91 c92 c93 c94 c95 c96 c97 c98 c99 c100 c101 c102 c103 c104 c105 c106 c107 c108 c109 c110 c111 c112 c113 c114 c115 c116 c117 c118 c119 c120 c121 c122 c123 c124 c125 c126 c127 c128 c129 c130 c131 c132 c133 c134 c135 c136 c137 c138 c139 c140 c141 c142 c143 c144 c145 c146 c147 c148 c149 c150 c151 c152 c153 c154 c155 c156 c157 : Value} {u13 u50 u51 u52 u53 u54 u55 u56 u57 u58 u59 u60 u61 u62 u63 u64 u65 : Value} {Q : Exit → Act → World → Prop}
  (hN : ∀ (u13 u50 u51 u52 u53 u54 u55 u56 u57 u58 u59 u60 u61 u62 u63 u64 u65 : Value), Q .normal ⟨#[.agg #[.slice adf I.funs.length cf, .slice adw I.words.length cw], .string ⟨nm.toArray⟩, .slice aad args.length ac, .int .i64 tk, .int .i64 tk2, .pointer (some ⟨w.heap.size, 0, none⟩), c6, c7, c8, c9, c10, .bool true, .int .i64 (lastM nm 0 I.funs (-1)), u13, c14, c15, c16, c17, c18, c19, c20, c21, c22, c23, c24, c25, c26, c27, c28, c29, c30, c31, c32, c33, c34, c35, c36, c37, c38, c39, c40, c41, c42, c43, c44, c45, c46, c47, c48, c49, u50, u51, u52, u53, u54, u55, u56, u57, u58, u59, u60, u61, u62, u63, u64, u65, c66, c67, c68, c69, c70, c71, c72, c73, c74, c75, c76, c77, c78, c79, c80, c81, c82, c83, c84, c85, c86, c87, c88, c89, c90, c91, c92, c93, c94, c95, c96, c97, c98, c99, c100, c101, c102, c103, c104, c105, c106, c107, c108, c109, c110, c111, c112, c113, c114, c115, c116, c117, c118, c119, c120, c121, c122, c123, c124, c125, c126, c127, c128, c129, c130, c131, c132, c133, c134, c135, c136, c137, c138, c139, c140, c141, c142, c143, c144, c145, c146, c147, c148, c149, c150, c151, c152, c153, c154, c155, c156, c157], []⟩ W) : Code.wp Tryd.prog mm5C Q ⟨#[.agg #[.slice adf I.funs.length cf, .slice adw I.words.length cw], .string ⟨nm.toArray⟩, .slice aad args.length ac, .int .i64 tk, .int .i64 tk2, .pointer (some ⟨w.heap.size, 0, none⟩), c6, c7, c8, c9, c10, .bool true, .int .i64 (-1), u13, c14, c15, c16, c17, c18, c19, c20, c21, c22, c23, c24, c25, c26, c27, c28, c29, c30, c31, c32, c33, c34, c35, c36, c37, c38, c39, c40, c41, c42, c43, c44, c45, c46, c47, c48, c49, u50, u51, u52, u53, u54, u55, u56, u57, u58, u59, u60, u61, u62, u63, u64, u65, c66, c67, c68, c69, c70, c71, c72, c73, c74, c75, c76, c77, c78, c79, c80, c81, c82, c83, c84, c85, c86, c87, c88, c89, c90, c91, c92, c93, c94, c95, c96, c97, c98, c99, c100, c101, c102, c103, c104, c105, c106, c107, c108, c109, c110, c111, c112, c113, c114, c115, c116, c117, c118, c119, c120, c121, c122, c123, c124, c125, c126, c127, c128, c129, c130, c131, c132, c133, c134, c135, c136, c137, c138, c139, c140, c141, c142, c143, c144, c145, c146, c147, c148, c149, c150, c151, c152, c153, c154, c155, c156, c157], []⟩ W := by
 have HN := hidX hN
 have b0 : W.cell? ⟨w.heap.size, 0, none⟩ = some (.slice adf I.funs.length cf) := cell_of_blk hbox 0
 have b1 : W.cell? ⟨w.heap.size, 1, none⟩ = some (.slice adw I.words.length cw) := cell_of_blk hbox 1
 have hfl' : (I.funs.length : Int) ≤ 12 := by omega
 have HF := hidX hF
 have HFL := hidX hfl
 clear hN hbox hF hfl b1
 conv => arg 2; whnf
 go_wp2_with fail
 go_loopw [12, 13] (fun v11 v12 wr => ∃ q : Nat, v11 = .int .i64 (lastM nm 0 (I.funs.take q) (-1)) ∧ v12 = .int .i64 (q : Int) ∧ q ≤ I.funs.length ∧ wr = W) (fun _ v12 _ => I.funs.length - (intOf v12).toNat)
 case atStart => exact ⟨0, rfl, rfl, by omega, rfl⟩
 case round =>
  obtain ⟨q, rfl, rfl, hq, rfl⟩ := hrel
  by_cases hlt : q < I.funs.length
  ·have hlt' : (q : Int) < (I.funs.length : Int) := by omega
   have hl12 := HFL.out
   obtain ⟨gf, off, rfl, hgf, k0, k1, k2, k3⟩ := HF.out.at hlt
   clear k1 k2 k3 hgf
   have HLT := hidX (lastM_take (nm := nm) hlt)
   generalize I.funs[q] = f at k0 HLT
   obtain ⟨fnm, fp, fs, fe⟩ := f
   dsimp only at k0
   by_cases hn : fnm = nm
   ·have hn2 : (fnm == nm) = true := by simpa using hn
    have HE := hidX (HLT.out.trans (if_pos hn))
    clear hn HLT
    generalize lastM nm 0 (I.funs.take q) (-1) = k
    go_wp2
    go_roundw
    case rel => exact ⟨q + 1, by rw [HE.out], by go_num, by omega, by first | rfl | trivial⟩
    all_goals (simp [intOf]; omega)
   ·have hn2 : (fnm == nm) = false := by simpa using hn
    have HE := hidX (HLT.out.trans (if_neg hn))
    clear hn HLT
    go_wp2
    go_roundw
    case rel => exact ⟨q + 1, by rw [HE.out], by go_num, by omega, by first | rfl | trivial⟩
    all_goals (simp [intOf]; omega)
  ·have hqe : q = I.funs.length := by omega
   subst hqe
   have hnlt : ¬ ((I.funs.length : Int) < (I.funs.length : Int)) := by omega
   have HTK := hidX (show I.funs.take I.funs.length = I.funs from List.take_length)
   clear hlt hq
   rw [HTK.out]
   go_wp2
   exact HN.out _ _ _ _ _ _ _ _ _ _ _ _ _ _ _ _ _
noncomputable def mm10C : Code := fstC ((Tryd.f4.body.bind (fromOf 10)).getD .skip)
set_option maxRecDepth 100000 in
set_option maxHeartbeats 4000000 in
theorem mm_10 {w W : World} {I : Im} {adf adw : Option Addr} {cf cw : Nat} {nm : List UInt8} {args : List Int} {aad : Option Addr} {ac : Nat} {tk tk2 : Int} {k : Int} (hfl : I.funs.length ≤ 100000) (hwl : I.words.length ≤ 100000) (hwv : ∀ v ∈ I.words, v < 18446744073709551616) (hbox : W.heap[w.heap.size]? = some (.cells #[.slice adf I.funs.length cf, .slice adw I.words.length cw] 25 (0, 0))) (hF : XMf (InH W) W (.slice adf I.funs.length cf) I.funs) (hWd : XRow (InH W) W (.slice adw I.words.length cw) I.words.length (wosV I.words)) {c6 c7 c8 c9 c13 c14 c15 c16 c17 c18 c19 c20 c21 c22 c23 c24 c25 c26 c27 c28 c29 c30 c31 c32 c33 c34 c35 c36 c37 c38 c39 c40 c41 c42 c43 c44 c45 c46 c47 c48 c49 c50 c51 c52 c53 c54 c55 c56 c57 c58 c59 c60 c61 c62 c63 c64 c65 c74 c75 c76 c77 c78 c79 c80 c81 c82 c83 c84 c85 c86 c87 c88 c89 c90 c91 c92 c93 c94 c95 c96 c97 c98 c99 c100 c101 c102 c103 c104 c105 c106 c107 c108 c109 c110 c111 c112 c113 c114 c115 c116 c117 c118 c119 c120 c121 c122 c123 c124 c125 c126 c127 c128 c129 c130 c131 c132 c133 c134 c135 c136 c137 c138 c139 c140 c141 c142 c143 c144 c145 c146 c147 c148 c149 c150 c151 c152 c153 c154 c155 c156 c157 : Value} {u10 u66 u67 u68 u69 u70 u71 u72 u73 : Value} {Q : Exit → Act → World → Prop}
  (hN : ∀ (u10 u66 u67 u68 u69 u70 u71 u72 u73 : Value) (w1 : World), Below W.heap.size W w1 → (imF I).1 = 0 → ¬ k < 0 → Q .normal ⟨#[.agg #[.slice adf I.funs.length cf, .slice adw I.words.length cw], .string ⟨nm.toArray⟩, .slice aad args.length ac, .int .i64 tk, .int .i64 tk2, .pointer (some ⟨w.heap.size, 0, none⟩), c6, c7, c8, c9, u10, .bool true, .int .i64 k, c13, c14, c15, c16, c17, c18, c19, c20, c21, c22, c23, c24, c25, c26, c27, c28, c29, c30, c31, c32, c33, c34, c35, c36, c37, c38, c39, c40, c41, c42, c43, c44, c45, c46, c47, c48, c49, c50, c51, c52, c53, c54, c55, c56, c57, c58, c59, c60, c61, c62, c63, c64, c65, u66, u67, u68, u69, u70, u71, u72, u73, c74, c75, c76, c77, c78, c79, c80, c81, c82, c83, c84, c85, c86, c87, c88, c89, c90, c91, c92, c93, c94, c95, c96, c97, c98, c99, c100, c101, c102, c103, c104, c105, c106, c107, c108, c109, c110, c111, c112, c113, c114, c115, c116, c117, c118, c119, c120, c121, c122, c123, c124, c125, c126, c127, c128, c129, c130, c131, c132, c133, c134, c135, c136, c137, c138, c139, c140, c141, c142, c143, c144, c145, c146, c147, c148, c149, c150, c151, c152, c153, c154, c155, c156, c157], []⟩ w1)
  (hR : ∀ (u10 u66 u67 u68 u69 u70 u71 u72 u73 : Value) (w1 : World), u10 = .bool true → Below W.heap.size W w1 → Q .ret ⟨#[.agg #[.slice adf I.funs.length cf, .slice adw I.words.length cw], .string ⟨nm.toArray⟩, .slice aad args.length ac, .int .i64 tk, .int .i64 tk2, .pointer (some ⟨w.heap.size, 0, none⟩), c6, c7, c8, c9, u10, .bool true, .int .i64 k, c13, c14, c15, c16, c17, c18, c19, c20, c21, c22, c23, c24, c25, c26, c27, c28, c29, c30, c31, c32, c33, c34, c35, c36, c37, c38, c39, c40, c41, c42, c43, c44, c45, c46, c47, c48, c49, c50, c51, c52, c53, c54, c55, c56, c57, c58, c59, c60, c61, c62, c63, c64, c65, u66, u67, u68, u69, u70, u71, u72, u73, c74, c75, c76, c77, c78, c79, c80, c81, c82, c83, c84, c85, c86, c87, c88, c89, c90, c91, c92, c93, c94, c95, c96, c97, c98, c99, c100, c101, c102, c103, c104, c105, c106, c107, c108, c109, c110, c111, c112, c113, c114, c115, c116, c117, c118, c119, c120, c121, c122, c123, c124, c125, c126, c127, c128, c129, c130, c131, c132, c133, c134, c135, c136, c137, c138, c139, c140, c141, c142, c143, c144, c145, c146, c147, c148, c149, c150, c151, c152, c153, c154, c155, c156, c157], []⟩ w1) : Code.wp Tryd.prog mm10C Q ⟨#[.agg #[.slice adf I.funs.length cf, .slice adw I.words.length cw], .string ⟨nm.toArray⟩, .slice aad args.length ac, .int .i64 tk, .int .i64 tk2, .pointer (some ⟨w.heap.size, 0, none⟩), c6, c7, c8, c9, u10, .bool true, .int .i64 k, c13, c14, c15, c16, c17, c18, c19, c20, c21, c22, c23, c24, c25, c26, c27, c28, c29, c30, c31, c32, c33, c34, c35, c36, c37, c38, c39, c40, c41, c42, c43, c44, c45, c46, c47, c48, c49, c50, c51, c52, c53, c54, c55, c56, c57, c58, c59, c60, c61, c62, c63, c64, c65, u66, u67, u68, u69, u70, u71, u72, u73, c74, c75, c76, c77, c78, c79, c80, c81, c82, c83, c84, c85, c86, c87, c88, c89, c90, c91, c92, c93, c94, c95, c96, c97, c98, c99, c100, c101, c102, c103, c104, c105, c106, c107, c108, c109, c110, c111, c112, c113, c114, c115, c116, c117, c118, c119, c120, c121, c122, c123, c124, c125, c126, c127, c128, c129, c130, c131, c132, c133, c134, c135, c136, c137, c138, c139, c140, c141, c142, c143, c144, c145, c146, c147, c148, c149, c150, c151, c152, c153, c154, c155, c156, c157], []⟩ W := by
 have HN := hidX hN
 have HR := hidX hR
 have HI := hidX (rImage_any I hwv hfl hwl adf adw cf cw hF hWd)
 have b0 : W.cell? ⟨w.heap.size, 0, none⟩ = some (.slice adf I.funs.length cf) := cell_of_blk hbox 0
 have b1 : W.cell? ⟨w.heap.size, 1, none⟩ = some (.slice adw I.words.length cw) := cell_of_blk hbox 1
 clear hN hR hfl hwl hwv hbox hF hWd
 conv => arg 2; whnf
 go_wp2_with fail
 refine HI.out.mono ?_
 rintro e w1 ⟨rfl, hb⟩
 have HB := hidX hb
 obtain ⟨c, hc⟩ : ∃ c, c = (imF I).1 := ⟨_, rfl⟩
 rw [← hc]
 have HC := hidX hc
 clear hb b0 b1 hc
 by_cases hc0 : c = 0
 ·have HZ := hidX (HC.out.symm.trans hc0)
  have hc1 : ¬ 0 < (c : Int) := by omega
  by_cases hk : k < 0
  ·clear hc0
   have hfd := fld_codeM (c : Int) (imF I).2 w1
   go_wp2
   exact HR.out _ _ _ _ _ _ _ _ _  _ rfl HB.out
  ·clear hc0
   have hfd := fld_codeM (c : Int) (imF I).2 w1
   go_wp2
   exact HN.out _ _ _ _ _ _ _ _ _  _ HB.out HZ.out hk
 ·have hc1 : 0 < (c : Int) := by omega
  clear hc0
  have hfd := fld_codeM (c : Int) (imF I).2 w1
  go_wp2
  exact HR.out _ _ _ _ _ _ _ _ _  _ rfl HB.out
end Go.Proofs.YtbcpomdcmilpjaaDoor
namespace Go.Proofs.YtbcpomdcmilpjaaDoor
open Go.RowKit
theorem fld_howM (h : ByteArray) (v t : Int) (o : Option Addr) (n c : Nat) (w : World) : (Instr.field 40 (.agg #[.string h, .int .i64 v, .slice o n c, .int .i64 t]) 0).run Tryd.prog w = .ok (.string h) w := by kernel_rfl
theorem xrow_takeM {A : Nat → Prop} {w : World} {p : Option Addr} {n c : Nat} {l l2 : List Int} (h : XRow A w (.slice p n c) n (intsG l2)) (hn : n = l2.length) (hp : l <+: l2) : XRow A w (.slice p l.length c) l.length (intsG l) := by
 obtain ⟨ad, cap, e, hx⟩ := h
 injection e with e1 e2 e3
 subst e1 e3
 obtain ⟨t, rfl⟩ := hp
 refine ⟨p, c, rfl, fun hl => ?_⟩
 obtain ⟨g, off, h1, h2, h3⟩ := hx (by rw [hn, List.length_append]; omega)
 refine ⟨g, off, h1, h2, fun j u hu => h3 j u ?_⟩
 have hj : j < (intsG l).length := by
  rcases Nat.lt_or_ge j (intsG l).length with h | h
  ·exact h
  ·rw [List.getElem?_eq_none h] at hu; cases hu
 have e : intsG (l ++ t) = intsG l ++ intsG t := by simp [intsG]
 rw [e, List.getElem?_append_left hj]
 exact hu
theorem more_ends {I : Im} {t x : Nat} {A B : Sm} {how hb : List UInt8} {v vb : Int} {g gb : Gm} (hA : EndM I t A how v g) (hB : itM I (t + x) 20000 B = .halt hb vb gb) (hE : Ext A B) : (how = hb ∧ v = vb ∧ g = gb) ∨ (how = hTired ∧ LeM g gb) := by
 rcases hA with ⟨n, hn⟩ | ⟨_, _, g1, f1, fs1, hr⟩
 ·have h1 := itM_stay hn (k := n + 20000) (by omega)
  have h2 := itM_stay hB (k := n + 20000) (by omega)
  have h3 := it_ext I t x (n + 20000) hE
  rw [h1, h2] at h3
  rcases h3 with h3 | ⟨g2, h3, h4⟩
  ·injection h3 with a b c
   exact Or.inl ⟨a, b, c⟩
  ·injection h3 with a b c
   exact Or.inr ⟨a, by rw [c]; exact h4⟩
 ·have h2 := itM_stay hB (k := 100000000) (by omega)
  have h3 := it_ext I t x 100000000 hE
  rw [hr, h2] at h3
  rcases h3 with h3 | ⟨g2, h3, _⟩ <;> cases h3
noncomputable def mm12C : Code := fstC ((Tryd.f4.body.bind (fromOf 12)).getD .skip)
set_option maxRecDepth 100000 in
set_option maxHeartbeats 4000000 in
theorem mm_12 {w W : World} {I : Im} {adf adw : Option Addr} {cf cw : Nat} {nm : List UInt8} {args : List Int} {aad : Option Addr} {ac q ta tb : Nat} (hWell : WellI I) (hwv : ∀ v ∈ I.words, v < 18446744073709551616) (hql : q < I.funs.length) (hal : args.length ≤ 8) (h64 : ∀ v ∈ args, In64 v) (hta : ta ≤ 60) (htb : tb ≤ 60) (hbox : W.heap[w.heap.size]? = some (.cells #[.slice adf I.funs.length cf, .slice adw I.words.length cw] 25 (0, 0))) (hF : XMf (InH W) W (.slice adf I.funs.length cf) I.funs) (hWd : XRow (InH W) W (.slice adw I.words.length cw) I.words.length (wosV I.words)) (hargs : XRow (InH W) W (.slice aad args.length ac) args.length (intsG args)) {c6 c7 c8 c9 c13 c14 c15 c16 c17 c18 c19 c20 c21 c22 c23 c24 c25 c26 c27 c28 c29 c30 c31 c32 c33 c34 c35 c36 c37 c38 c39 c40 c41 c42 c43 c44 c45 c46 c47 c48 c49 c50 c51 c52 c53 c54 c55 c56 c57 c58 c59 c60 c61 c62 c63 c64 c65 c66 c67 c68 c69 c70 c71 c72 c73 c94 c95 c96 c97 c98 c99 c100 c101 c102 c103 c104 c105 c106 c107 c108 c109 c110 c111 c112 c113 c114 c115 c116 c117 c118 c119 c120 c121 c122 c123 c124 c125 c126 c127 c128 c129 c130 c131 c132 c133 c134 c135 c136 c137 c138 c139 c140 c141 c142 c143 c144 c145 c146 c147 c148 c149 c150 c151 c152 c153 c154 c155 c156 c157 : Value} {u10 u74 u75 u76 u77 u78 u79 u80 u81 u82 u83 u84 u85 u86 u87 u88 u89 u90 u91 u92 u93 : Value} {Q : Exit → Act → World → Prop}
  (hN : ∀ (u10 u74 u75 u76 u77 u78 u79 u80 u81 u82 u83 u84 u85 u86 u87 u88 u89 u90 u91 u92 u93 : Value) (w1 : World), Below W.heap.size W w1 → (args.length : Int) = I.funs[q].params → (∃ hb vb gb, itM I (ta + tb) 20000 (enterM I (ta + tb) ⟨[], 0⟩ [] (q : Int) (four args) 0) = .halt hb vb gb) → Q .normal ⟨#[.agg #[.slice adf I.funs.length cf, .slice adw I.words.length cw], .string ⟨nm.toArray⟩, .slice aad args.length ac, .int .i64 (ta : Int), .int .i64 (tb : Int), .pointer (some ⟨w.heap.size, 0, none⟩), c6, c7, c8, c9, u10, .bool true, .int .i64 (q : Int), c13, c14, c15, c16, c17, c18, c19, c20, c21, c22, c23, c24, c25, c26, c27, c28, c29, c30, c31, c32, c33, c34, c35, c36, c37, c38, c39, c40, c41, c42, c43, c44, c45, c46, c47, c48, c49, c50, c51, c52, c53, c54, c55, c56, c57, c58, c59, c60, c61, c62, c63, c64, c65, c66, c67, c68, c69, c70, c71, c72, c73, u74, u75, u76, u77, u78, u79, u80, u81, u82, u83, u84, u85, u86, u87, u88, u89, u90, u91, u92, u93, c94, c95, c96, c97, c98, c99, c100, c101, c102, c103, c104, c105, c106, c107, c108, c109, c110, c111, c112, c113, c114, c115, c116, c117, c118, c119, c120, c121, c122, c123, c124, c125, c126, c127, c128, c129, c130, c131, c132, c133, c134, c135, c136, c137, c138, c139, c140, c141, c142, c143, c144, c145, c146, c147, c148, c149, c150, c151, c152, c153, c154, c155, c156, c157], []⟩ w1)
  (hR : ∀ (u10 u74 u75 u76 u77 u78 u79 u80 u81 u82 u83 u84 u85 u86 u87 u88 u89 u90 u91 u92 u93 : Value) (w1 : World), u10 = .bool true → Below W.heap.size W w1 → Q .ret ⟨#[.agg #[.slice adf I.funs.length cf, .slice adw I.words.length cw], .string ⟨nm.toArray⟩, .slice aad args.length ac, .int .i64 (ta : Int), .int .i64 (tb : Int), .pointer (some ⟨w.heap.size, 0, none⟩), c6, c7, c8, c9, u10, .bool true, .int .i64 (q : Int), c13, c14, c15, c16, c17, c18, c19, c20, c21, c22, c23, c24, c25, c26, c27, c28, c29, c30, c31, c32, c33, c34, c35, c36, c37, c38, c39, c40, c41, c42, c43, c44, c45, c46, c47, c48, c49, c50, c51, c52, c53, c54, c55, c56, c57, c58, c59, c60, c61, c62, c63, c64, c65, c66, c67, c68, c69, c70, c71, c72, c73, u74, u75, u76, u77, u78, u79, u80, u81, u82, u83, u84, u85, u86, u87, u88, u89, u90, u91, u92, u93, c94, c95, c96, c97, c98, c99, c100, c101, c102, c103, c104, c105, c106, c107, c108, c109, c110, c111, c112, c113, c114, c115, c116, c117, c118, c119, c120, c121, c122, c123, c124, c125, c126, c127, c128, c129, c130, c131, c132, c133, c134, c135, c136, c137, c138, c139, c140, c141, c142, c143, c144, c145, c146, c147, c148, c149, c150, c151, c152, c153, c154, c155, c156, c157], []⟩ w1) : Code.wp Tryd.prog mm12C Q ⟨#[.agg #[.slice adf I.funs.length cf, .slice adw I.words.length cw], .string ⟨nm.toArray⟩, .slice aad args.length ac, .int .i64 (ta : Int), .int .i64 (tb : Int), .pointer (some ⟨w.heap.size, 0, none⟩), c6, c7, c8, c9, u10, .bool true, .int .i64 (q : Int), c13, c14, c15, c16, c17, c18, c19, c20, c21, c22, c23, c24, c25, c26, c27, c28, c29, c30, c31, c32, c33, c34, c35, c36, c37, c38, c39, c40, c41, c42, c43, c44, c45, c46, c47, c48, c49, c50, c51, c52, c53, c54, c55, c56, c57, c58, c59, c60, c61, c62, c63, c64, c65, c66, c67, c68, c69, c70, c71, c72, c73, u74, u75, u76, u77, u78, u79, u80, u81, u82, u83, u84, u85, u86, u87, u88, u89, u90, u91, u92, u93, c94, c95, c96, c97, c98, c99, c100, c101, c102, c103, c104, c105, c106, c107, c108, c109, c110, c111, c112, c113, c114, c115, c116, c117, c118, c119, c120, c121, c122, c123, c124, c125, c126, c127, c128, c129, c130, c131, c132, c133, c134, c135, c136, c137, c138, c139, c140, c141, c142, c143, c144, c145, c146, c147, c148, c149, c150, c151, c152, c153, c154, c155, c156, c157], []⟩ W := by
 have HN := hidX hN
 have HR := hidX hR
 have b0 : W.cell? ⟨w.heap.size, 0, none⟩ = some (.slice adf I.funs.length cf) := cell_of_blk hbox 0
 have b1 : W.cell? ⟨w.heap.size, 1, none⟩ = some (.slice adw I.words.length cw) := cell_of_blk hbox 1
 have hql' : (q : Int) < (I.funs.length : Int) := by omega
 have hfl' : (I.funs.length : Int) ≤ 8 := by have := hWell.fl; omega
 have hal' : (args.length : Int) ≤ 8 := by omega
 have hta' : (ta : Int) ≤ 60 := by omega
 have htb' : (tb : Int) ≤ 60 := by omega
 have hOF := (hWell.funs _ (List.getElem_mem hql)).params
 have HMO := hidX (fun (h4 : args.length ≤ 4) => machOf_any (w := W) I hWell adf adw cf cw hF hWd hwv q hql args h4 h64 aad ac hargs (ta + tb) 20000 (by omega) (by decide))
 rw [show ((ta + tb : Nat) : Int) = (ta : Int) + (tb : Int) from by omega] at HMO
 obtain ⟨gf, off, rfl, hgf, k0, k1, k2, k3⟩ := hF.at hql
 clear k0 k2 k3 hgf hN hR hWell hwv h64 hbox hF hWd hargs
 obtain ⟨pp, hpp⟩ : ∃ pp, pp = I.funs[q].params := ⟨_, rfl⟩
 rw [← hpp] at k1 hOF
 have HPP := hidX hpp
 clear hpp
 conv => arg 2; whnf
 by_cases hp : pp = (args.length : Int)
 ·have hp2 : (pp == (args.length : Int)) = true := by simpa using hp
  have HP2 := hidX hp
  have hM := HMO.out (by omega)
  have HM := hidX hM
  clear hp hM HMO hOF
  go_wp2_with fail
  refine HM.out.mono ?_
  rintro e X2 ⟨how, v, ov, g, rfl, hb2, ho2, _, hend⟩
  obtain ⟨oad, ocap, rfl⟩ := own_is ho2
  have HB := hidX hb2
  have HE := hidX hend
  have hfd := fld_howM ⟨how.toArray⟩ v (g.ticks : Int) oad g.out.length ocap X2
  clear hb2 ho2 hend b0 b1 k1
  by_cases hlong : how = hLong
  ·have hs : (how == [108, 111, 110, 103]) = true := by rw [hlong]; rfl
   clear hlong
   go_wp2
   exact HR.out _ _ _ _ _ _ _ _ _ _ _ _ _ _ _ _ _ _ _ _ _  _ rfl HB.out
  ·have hs : (how == [108, 111, 110, 103]) = false := ne_lit (show ¬ how = [108, 111, 110, 103] from hlong)
   have HNL := hidX hlong
   clear hlong
   go_wp2
   refine HN.out _ _ _ _ _ _ _ _ _ _ _ _ _ _ _ _ _ _ _ _ _  _ HB.out (by rw [← HPP.out]; exact HP2.out.symm) ⟨how, v, g, ?_⟩
   rcases HE.out with h | ⟨h, _⟩
   ·exact h
   ·exact absurd h HNL.out
 ·have hp2 : (pp == (args.length : Int)) = false := by simpa using hp
  have hp3 : (pp != (args.length : Int)) = true := by simpa using hp
  have hp4 : decide (pp = (args.length : Int)) = false := by simpa using hp
  clear HMO
  go_wp2
  exact HR.out _ _ _ _ _ _ _ _ _ _ _ _ _ _ _ _ _ _ _ _ _  _ rfl (Below.refl _ _)
noncomputable def mm14C : Code := ((Tryd.f4.body.bind (regionOf 14)).getD .skip)
set_option maxRecDepth 100000 in
set_option maxHeartbeats 4000000 in
theorem mm_14 {w W : World} {I : Im} {adf adw : Option Addr} {cf cw : Nat} {nm : List UInt8} {args : List Int} {aad : Option Addr} {ac q ta tb : Nat} (hfl : I.funs.length ≤ 12) (hwl : I.words.length ≤ 10000) (hbox : W.heap[w.heap.size]? = some (.cells #[.slice adf I.funs.length cf, .slice adw I.words.length cw] 25 (0, 0))) (hF : XMf (InH W) W (.slice adf I.funs.length cf) I.funs) (hWd : XRow (InH W) W (.slice adw I.words.length cw) I.words.length (wosV I.words)) {c6 c7 c8 c9 c10 c13 c15 c16 c17 c18 c19 c20 c21 c22 c23 c24 c25 c26 c27 c28 c29 c30 c31 c32 c33 c34 c35 c36 c37 c38 c39 c40 c41 c42 c43 c44 c45 c46 c47 c48 c49 c50 c51 c52 c53 c54 c55 c56 c57 c58 c59 c60 c61 c62 c63 c64 c65 c66 c67 c68 c69 c70 c71 c72 c73 c74 c75 c76 c77 c78 c79 c80 c81 c82 c83 c84 c85 c86 c87 c88 c89 c90 c91 c92 c93 c96 c97 c98 c99 c100 c101 c102 c103 c104 c105 c106 c107 c108 c109 c110 c111 c112 c113 c114 c115 c116 c117 c118 c119 c120 c121 c122 c123 c124 c125 c126 c127 c128 c129 c130 c131 c132 c133 c134 c135 c136 c137 c138 c139 c140 c141 c142 c143 c144 c145 c146 c147 c148 c149 c150 c151 c152 c153 c154 c155 c156 c157 : Value} {u14 u94 u95 : Value} {Q : Exit → Act → World → Prop}
  (hN : ∀ (u94 u95 : Value) (w1 : World) (xb : Nat) (af aw : Option Addr) (c1 c2 : Nat), Below W.heap.size W w1 → w1.heap[xb]? = some (.cells #[.slice af I.funs.length c1, .slice aw I.words.length c2] 37 (0, 0)) → XMf (InH w1) w1 (.slice af I.funs.length c1) I.funs → XRow (InH w1) w1 (.slice aw I.words.length c2) I.words.length (wosV I.words) → Q .normal ⟨#[.agg #[.slice adf I.funs.length cf, .slice adw I.words.length cw], .string ⟨nm.toArray⟩, .slice aad args.length ac, .int .i64 (ta : Int), .int .i64 (tb : Int), .pointer (some ⟨w.heap.size, 0, none⟩), c6, c7, c8, c9, c10, .bool true, .int .i64 (q : Int), c13, .pointer (some ⟨xb, 0, none⟩), c15, c16, c17, c18, c19, c20, c21, c22, c23, c24, c25, c26, c27, c28, c29, c30, c31, c32, c33, c34, c35, c36, c37, c38, c39, c40, c41, c42, c43, c44, c45, c46, c47, c48, c49, c50, c51, c52, c53, c54, c55, c56, c57, c58, c59, c60, c61, c62, c63, c64, c65, c66, c67, c68, c69, c70, c71, c72, c73, c74, c75, c76, c77, c78, c79, c80, c81, c82, c83, c84, c85, c86, c87, c88, c89, c90, c91, c92, c93, u94, u95, c96, c97, c98, c99, c100, c101, c102, c103, c104, c105, c106, c107, c108, c109, c110, c111, c112, c113, c114, c115, c116, c117, c118, c119, c120, c121, c122, c123, c124, c125, c126, c127, c128, c129, c130, c131, c132, c133, c134, c135, c136, c137, c138, c139, c140, c141, c142, c143, c144, c145, c146, c147, c148, c149, c150, c151, c152, c153, c154, c155, c156, c157], []⟩ w1) : Code.wp Tryd.prog mm14C Q ⟨#[.agg #[.slice adf I.funs.length cf, .slice adw I.words.length cw], .string ⟨nm.toArray⟩, .slice aad args.length ac, .int .i64 (ta : Int), .int .i64 (tb : Int), .pointer (some ⟨w.heap.size, 0, none⟩), c6, c7, c8, c9, c10, .bool true, .int .i64 (q : Int), c13, u14, c15, c16, c17, c18, c19, c20, c21, c22, c23, c24, c25, c26, c27, c28, c29, c30, c31, c32, c33, c34, c35, c36, c37, c38, c39, c40, c41, c42, c43, c44, c45, c46, c47, c48, c49, c50, c51, c52, c53, c54, c55, c56, c57, c58, c59, c60, c61, c62, c63, c64, c65, c66, c67, c68, c69, c70, c71, c72, c73, c74, c75, c76, c77, c78, c79, c80, c81, c82, c83, c84, c85, c86, c87, c88, c89, c90, c91, c92, c93, u94, u95, c96, c97, c98, c99, c100, c101, c102, c103, c104, c105, c106, c107, c108, c109, c110, c111, c112, c113, c114, c115, c116, c117, c118, c119, c120, c121, c122, c123, c124, c125, c126, c127, c128, c129, c130, c131, c132, c133, c134, c135, c136, c137, c138, c139, c140, c141, c142, c143, c144, c145, c146, c147, c148, c149, c150, c151, c152, c153, c154, c155, c156, c157], []⟩ W := by
 have HN := hidX hN
 have HAS := hidX (asImage_any (w := W) I hfl hwl adf adw cf cw hF hWd)
 have b0 : W.cell? ⟨w.heap.size, 0, none⟩ = some (.slice adf I.funs.length cf) := cell_of_blk hbox 0
 have b1 : W.cell? ⟨w.heap.size, 1, none⟩ = some (.slice adw I.words.length cw) := cell_of_blk hbox 1
 clear hN hbox hF hWd hfl hwl
 conv => arg 2; whnf
 go_wp2_with fail
 refine HAS.out.mono ?_
 rintro e X ⟨af, c1, aw, c2, rfl, hbX, ho1, ho2, _⟩
 have HBX := hidX hbX
 have H1 := hidX ho1
 have H2 := hidX ho2
 clear hbX ho1 ho2 b0 b1
 go_wp2
 have hb1 : Below X.heap.size X (X.alloc (.cells #[.slice af I.funs.length c1, .slice aw I.words.length c2] 37)) := by (repeat (first | exact Below.refl _ _ | assumption | refine Below.drew ?_ | refine bT ?_ _ | refine bS ?_ _ | refine bA ?_ _))
 exact HN.out _ _ _ X.heap.size af aw c1 c2 (bl_trans HBX.out HBX.out.size hb1) (heap_alloc_new _ _) ((xrow_own H1.out).imp (fun b hb => by have := hb1.size; unfold InH; omega) (fun b hb => hb1.block b hb.2)) ((xrow_own H2.out).imp (fun b hb => by have := hb1.size; unfold InH; omega) (fun b hb => hb1.block b hb.2))
noncomputable def mm15C : Code := ((Tryd.f4.body.bind (regionOf 15)).getD .skip)
set_option maxRecDepth 100000 in
set_option maxHeartbeats 4000000 in
theorem mm_15 {w W : World} {I : Im} {adf adw : Option Addr} {cf cw : Nat} {nm : List UInt8} {args : List Int} {aad : Option Addr} {ac q ta tb xb : Nat}  {c6 c7 c8 c9 c10 c13 c16 c17 c18 c19 c20 c21 c22 c23 c24 c25 c26 c27 c28 c29 c30 c31 c32 c33 c34 c35 c36 c37 c38 c39 c40 c41 c42 c43 c44 c45 c46 c47 c48 c49 c50 c51 c52 c53 c54 c55 c56 c57 c58 c59 c60 c61 c62 c63 c64 c65 c66 c67 c68 c69 c70 c71 c72 c73 c74 c75 c76 c77 c78 c79 c80 c81 c82 c83 c84 c85 c86 c87 c88 c89 c90 c91 c92 c93 c94 c95 c96 c97 c98 c99 c100 c101 c102 c103 c104 c105 c106 c107 c108 c109 c110 c111 c112 c113 c114 c115 c116 c117 c118 c119 c120 c121 c122 c123 c124 c125 c126 c127 c128 c129 c130 c131 c132 c133 c134 c135 c136 c137 c138 c139 c140 c141 c142 c143 c144 c145 c146 c147 c148 c149 c150 c151 c152 c153 c154 c155 c156 c157 : Value} {u15 : Value} {Q : Exit → Act → World → Prop}
  (hN : Q .normal ⟨#[.agg #[.slice adf I.funs.length cf, .slice adw I.words.length cw], .string ⟨nm.toArray⟩, .slice aad args.length ac, .int .i64 (ta : Int), .int .i64 (tb : Int), .pointer (some ⟨w.heap.size, 0, none⟩), c6, c7, c8, c9, c10, .bool true, .int .i64 (q : Int), c13, .pointer (some ⟨xb, 0, none⟩), .slice none 0 0, c16, c17, c18, c19, c20, c21, c22, c23, c24, c25, c26, c27, c28, c29, c30, c31, c32, c33, c34, c35, c36, c37, c38, c39, c40, c41, c42, c43, c44, c45, c46, c47, c48, c49, c50, c51, c52, c53, c54, c55, c56, c57, c58, c59, c60, c61, c62, c63, c64, c65, c66, c67, c68, c69, c70, c71, c72, c73, c74, c75, c76, c77, c78, c79, c80, c81, c82, c83, c84, c85, c86, c87, c88, c89, c90, c91, c92, c93, c94, c95, c96, c97, c98, c99, c100, c101, c102, c103, c104, c105, c106, c107, c108, c109, c110, c111, c112, c113, c114, c115, c116, c117, c118, c119, c120, c121, c122, c123, c124, c125, c126, c127, c128, c129, c130, c131, c132, c133, c134, c135, c136, c137, c138, c139, c140, c141, c142, c143, c144, c145, c146, c147, c148, c149, c150, c151, c152, c153, c154, c155, c156, c157], []⟩ W) : Code.wp Tryd.prog mm15C Q ⟨#[.agg #[.slice adf I.funs.length cf, .slice adw I.words.length cw], .string ⟨nm.toArray⟩, .slice aad args.length ac, .int .i64 (ta : Int), .int .i64 (tb : Int), .pointer (some ⟨w.heap.size, 0, none⟩), c6, c7, c8, c9, c10, .bool true, .int .i64 (q : Int), c13, .pointer (some ⟨xb, 0, none⟩), u15, c16, c17, c18, c19, c20, c21, c22, c23, c24, c25, c26, c27, c28, c29, c30, c31, c32, c33, c34, c35, c36, c37, c38, c39, c40, c41, c42, c43, c44, c45, c46, c47, c48, c49, c50, c51, c52, c53, c54, c55, c56, c57, c58, c59, c60, c61, c62, c63, c64, c65, c66, c67, c68, c69, c70, c71, c72, c73, c74, c75, c76, c77, c78, c79, c80, c81, c82, c83, c84, c85, c86, c87, c88, c89, c90, c91, c92, c93, c94, c95, c96, c97, c98, c99, c100, c101, c102, c103, c104, c105, c106, c107, c108, c109, c110, c111, c112, c113, c114, c115, c116, c117, c118, c119, c120, c121, c122, c123, c124, c125, c126, c127, c128, c129, c130, c131, c132, c133, c134, c135, c136, c137, c138, c139, c140, c141, c142, c143, c144, c145, c146, c147, c148, c149, c150, c151, c152, c153, c154, c155, c156, c157], []⟩ W := by
 have HN := hidX hN
 clear hN
 conv => arg 2; whnf
 go_wp2
 exact HN.out
noncomputable def mm16C : Code := ((Tryd.f4.body.bind (regionOf 16)).getD .skip)
set_option maxRecDepth 100000 in
set_option maxHeartbeats 4000000 in
theorem mm_16 {w W : World} {I : Im} {adf adw : Option Addr} {cf cw : Nat} {nm : List UInt8} {args : List Int} {aad : Option Addr} {ac q ta tb xb : Nat}  {c6 c7 c8 c9 c10 c13 c17 c18 c19 c20 c21 c22 c23 c24 c25 c26 c27 c28 c29 c30 c31 c32 c33 c34 c35 c36 c37 c38 c39 c40 c41 c42 c43 c44 c45 c46 c47 c48 c49 c50 c51 c52 c53 c54 c55 c56 c57 c58 c59 c60 c61 c62 c63 c64 c65 c66 c67 c68 c69 c70 c71 c72 c73 c74 c75 c76 c77 c78 c79 c80 c81 c82 c83 c84 c85 c86 c87 c88 c89 c90 c91 c92 c93 c94 c95 c96 c97 c98 c99 c100 c101 c102 c103 c104 c105 c106 c107 c108 c109 c110 c111 c112 c113 c114 c115 c116 c117 c118 c119 c120 c121 c122 c123 c124 c125 c126 c127 c128 c129 c130 c131 c132 c133 c134 c135 c136 c137 c138 c139 c140 c141 c142 c143 c144 c145 c146 c147 c148 c149 c150 c151 c152 c153 c154 c155 c156 c157 : Value} {u16 : Value} {Q : Exit → Act → World → Prop}
  (hN : Q .normal ⟨#[.agg #[.slice adf I.funs.length cf, .slice adw I.words.length cw], .string ⟨nm.toArray⟩, .slice aad args.length ac, .int .i64 (ta : Int), .int .i64 (tb : Int), .pointer (some ⟨w.heap.size, 0, none⟩), c6, c7, c8, c9, c10, .bool true, .int .i64 (q : Int), c13, .pointer (some ⟨xb, 0, none⟩), .slice none 0 0, .slice none 0 0, c17, c18, c19, c20, c21, c22, c23, c24, c25, c26, c27, c28, c29, c30, c31, c32, c33, c34, c35, c36, c37, c38, c39, c40, c41, c42, c43, c44, c45, c46, c47, c48, c49, c50, c51, c52, c53, c54, c55, c56, c57, c58, c59, c60, c61, c62, c63, c64, c65, c66, c67, c68, c69, c70, c71, c72, c73, c74, c75, c76, c77, c78, c79, c80, c81, c82, c83, c84, c85, c86, c87, c88, c89, c90, c91, c92, c93, c94, c95, c96, c97, c98, c99, c100, c101, c102, c103, c104, c105, c106, c107, c108, c109, c110, c111, c112, c113, c114, c115, c116, c117, c118, c119, c120, c121, c122, c123, c124, c125, c126, c127, c128, c129, c130, c131, c132, c133, c134, c135, c136, c137, c138, c139, c140, c141, c142, c143, c144, c145, c146, c147, c148, c149, c150, c151, c152, c153, c154, c155, c156, c157], []⟩ W) : Code.wp Tryd.prog mm16C Q ⟨#[.agg #[.slice adf I.funs.length cf, .slice adw I.words.length cw], .string ⟨nm.toArray⟩, .slice aad args.length ac, .int .i64 (ta : Int), .int .i64 (tb : Int), .pointer (some ⟨w.heap.size, 0, none⟩), c6, c7, c8, c9, c10, .bool true, .int .i64 (q : Int), c13, .pointer (some ⟨xb, 0, none⟩), .slice none 0 0, u16, c17, c18, c19, c20, c21, c22, c23, c24, c25, c26, c27, c28, c29, c30, c31, c32, c33, c34, c35, c36, c37, c38, c39, c40, c41, c42, c43, c44, c45, c46, c47, c48, c49, c50, c51, c52, c53, c54, c55, c56, c57, c58, c59, c60, c61, c62, c63, c64, c65, c66, c67, c68, c69, c70, c71, c72, c73, c74, c75, c76, c77, c78, c79, c80, c81, c82, c83, c84, c85, c86, c87, c88, c89, c90, c91, c92, c93, c94, c95, c96, c97, c98, c99, c100, c101, c102, c103, c104, c105, c106, c107, c108, c109, c110, c111, c112, c113, c114, c115, c116, c117, c118, c119, c120, c121, c122, c123, c124, c125, c126, c127, c128, c129, c130, c131, c132, c133, c134, c135, c136, c137, c138, c139, c140, c141, c142, c143, c144, c145, c146, c147, c148, c149, c150, c151, c152, c153, c154, c155, c156, c157], []⟩ W := by
 have HN := hidX hN
 clear hN
 conv => arg 2; whnf
 go_wp2
 exact HN.out
noncomputable def mm19C : Code := fstC ((Tryd.f4.body.bind (fromOf 19)).getD .skip)
set_option maxRecDepth 100000 in
set_option maxHeartbeats 4000000 in
theorem mm_19 {W : World} {oa ob : Nat} {ha hb : List UInt8} {va vb : Int} {aa ab : Option Addr} {na nb ca cb tka tkb : Nat} (hoa : W.heap[oa]? = some (.cells #[.string ⟨(ha : List UInt8).toArray⟩, .int .i64 va, .slice aa na ca, .int .i64 (tka : Int)] 40 (0, 0))) (hob : W.heap[ob]? = some (.cells #[.string ⟨(hb : List UInt8).toArray⟩, .int .i64 vb, .slice ab nb cb, .int .i64 (tkb : Int)] 40 (0, 0))) (hn : na ≤ nb) (ht : tka ≤ tkb) (hnb : nb ≤ 1000) {c0 c1 c2 c3 c4 c5 c6 c7 c8 c9 c10 c11 c12 c13 c14 c15 c16 c21 c22 c23 c24 c25 c26 c27 c28 c29 c30 c31 c32 c33 c34 c35 c36 c37 c38 c39 c40 c41 c42 c43 c44 c45 c46 c47 c48 c49 c50 c51 c52 c53 c54 c55 c56 c57 c58 c59 c60 c61 c62 c63 c64 c65 c66 c67 c68 c69 c70 c71 c72 c73 c74 c75 c76 c77 c78 c79 c80 c81 c82 c83 c84 c85 c86 c87 c88 c89 c90 c91 c92 c93 c94 c95 c96 c97 c98 c99 c100 c101 c102 c103 c104 c105 c106 c107 c108 c109 c110 c111 c112 c113 c114 c115 c116 c117 c140 c141 c142 c143 c144 c145 c146 c147 c148 c149 c150 c151 c152 c153 c154 c155 c156 c157 : Value} {u118 u119 u120 u121 u122 u123 u124 u125 u126 u127 u128 u129 u130 u131 u132 u133 u134 u135 u136 u137 u138 u139 : Value} {Q : Exit → Act → World → Prop}
  (hN : ∀ (u118 u119 u120 u121 u122 u123 u124 u125 u126 u127 u128 u129 u130 u131 u132 u133 u134 u135 u136 u137 u138 u139 : Value), Q .normal ⟨#[c0, c1, c2, c3, c4, c5, c6, c7, c8, c9, c10, c11, c12, c13, c14, c15, c16, .pointer (some ⟨oa, 0, none⟩), .nilIface, .pointer (some ⟨ob, 0, none⟩), .nilIface, c21, c22, c23, c24, c25, c26, c27, c28, c29, c30, c31, c32, c33, c34, c35, c36, c37, c38, c39, c40, c41, c42, c43, c44, c45, c46, c47, c48, c49, c50, c51, c52, c53, c54, c55, c56, c57, c58, c59, c60, c61, c62, c63, c64, c65, c66, c67, c68, c69, c70, c71, c72, c73, c74, c75, c76, c77, c78, c79, c80, c81, c82, c83, c84, c85, c86, c87, c88, c89, c90, c91, c92, c93, c94, c95, c96, c97, c98, c99, c100, c101, c102, c103, c104, c105, c106, c107, c108, c109, c110, c111, c112, c113, c114, c115, c116, c117, u118, u119, u120, u121, u122, u123, u124, u125, u126, u127, u128, u129, u130, u131, u132, u133, u134, u135, u136, u137, u138, u139, c140, c141, c142, c143, c144, c145, c146, c147, c148, c149, c150, c151, c152, c153, c154, c155, c156, c157], []⟩ W) : Code.wp Tryd.prog mm19C Q ⟨#[c0, c1, c2, c3, c4, c5, c6, c7, c8, c9, c10, c11, c12, c13, c14, c15, c16, .pointer (some ⟨oa, 0, none⟩), .nilIface, .pointer (some ⟨ob, 0, none⟩), .nilIface, c21, c22, c23, c24, c25, c26, c27, c28, c29, c30, c31, c32, c33, c34, c35, c36, c37, c38, c39, c40, c41, c42, c43, c44, c45, c46, c47, c48, c49, c50, c51, c52, c53, c54, c55, c56, c57, c58, c59, c60, c61, c62, c63, c64, c65, c66, c67, c68, c69, c70, c71, c72, c73, c74, c75, c76, c77, c78, c79, c80, c81, c82, c83, c84, c85, c86, c87, c88, c89, c90, c91, c92, c93, c94, c95, c96, c97, c98, c99, c100, c101, c102, c103, c104, c105, c106, c107, c108, c109, c110, c111, c112, c113, c114, c115, c116, c117, u118, u119, u120, u121, u122, u123, u124, u125, u126, u127, u128, u129, u130, u131, u132, u133, u134, u135, u136, u137, u138, u139, c140, c141, c142, c143, c144, c145, c146, c147, c148, c149, c150, c151, c152, c153, c154, c155, c156, c157], []⟩ W := by
 have HN := hidX hN
 have a0 : W.cell? ⟨oa, 0, none⟩ = some (.string ⟨ha.toArray⟩) := cell_of_blk hoa 0
 have a1 : W.cell? ⟨oa, 1, none⟩ = some (.int .i64 va) := cell_of_blk hoa 1
 have a2 : W.cell? ⟨oa, 2, none⟩ = some (.slice aa na ca) := cell_of_blk hoa 2
 have a3 : W.cell? ⟨oa, 3, none⟩ = some (.int .i64 (tka : Int)) := cell_of_blk hoa 3
 have b0 : W.cell? ⟨ob, 0, none⟩ = some (.string ⟨hb.toArray⟩) := cell_of_blk hob 0
 have b1 : W.cell? ⟨ob, 1, none⟩ = some (.int .i64 vb) := cell_of_blk hob 1
 have b2 : W.cell? ⟨ob, 2, none⟩ = some (.slice ab nb cb) := cell_of_blk hob 2
 have b3 : W.cell? ⟨ob, 3, none⟩ = some (.int .i64 (tkb : Int)) := cell_of_blk hob 3
 have hn1 : ¬ (nb : Int) < (na : Int) := by omega
 have ht1 : ¬ (tkb : Int) < (tka : Int) := by omega
 have hna' : (na : Int) ≤ 1000 := by omega
 have hnb' : (nb : Int) ≤ 1000 := by omega
 clear hN hoa hob hn ht hnb
 conv => arg 2; whnf
 go_wp2
 exact HN.out _ _ _ _ _ _ _ _ _ _ _ _ _ _ _ _ _ _ _ _ _ _
noncomputable def mm21C : Code := fstC ((Tryd.f4.body.bind (fromOf 21)).getD .skip)
set_option maxRecDepth 100000 in
set_option maxHeartbeats 4000000 in
theorem mm_21 {W : World} {oa ob : Nat} {ha hb : List UInt8} {va vb : Int} {aa ab : Option Addr} {na nb ca cb tka tkb : Nat} (hoa : W.heap[oa]? = some (.cells #[.string ⟨(ha : List UInt8).toArray⟩, .int .i64 va, .slice aa na ca, .int .i64 (tka : Int)] 40 (0, 0))) (hob : W.heap[ob]? = some (.cells #[.string ⟨(hb : List UInt8).toArray⟩, .int .i64 vb, .slice ab nb cb, .int .i64 (tkb : Int)] 40 (0, 0))) (la lb : List Int) (hla : na = la.length) (hlb : nb = lb.length) (hsa : XRow (InH W) W (.slice aa na ca) na (intsG la)) (hsb : XRow (InH W) W (.slice ab nb cb) nb (intsG lb)) (hnb : nb ≤ 1000) (hs : ha ≠ hTired → ha = hb ∧ va = vb ∧ la = lb ∧ tka = tkb) {c0 c1 c2 c3 c4 c5 c6 c7 c8 c9 c10 c11 c12 c13 c14 c15 c16 c18 c20 c21 c22 c23 c24 c25 c26 c27 c28 c29 c30 c31 c32 c33 c34 c35 c36 c37 c38 c39 c40 c41 c42 c43 c44 c45 c46 c47 c48 c49 c50 c51 c52 c53 c54 c55 c56 c57 c58 c59 c60 c61 c62 c63 c64 c65 c66 c67 c68 c69 c70 c71 c72 c73 c74 c75 c76 c77 c78 c79 c80 c81 c82 c83 c84 c85 c86 c87 c88 c89 c90 c91 c92 c93 c94 c95 c96 c97 c98 c99 c100 c101 c102 c103 c104 c105 c106 c107 c108 c109 c110 c111 c112 c113 c114 c115 c116 c117 c118 c119 c120 c121 c122 c123 c124 c125 c126 c127 c128 c129 c130 c131 c132 c133 c134 c135 c136 c137 c138 c139 c149 c150 c151 c152 c153 c154 c155 c156 c157 : Value} {u140 u141 u142 u143 u144 u145 u146 u147 u148 : Value} {Q : Exit → Act → World → Prop}
  (hN : ∀ (u140 u141 u142 u143 u144 u145 u146 u147 u148 : Value) (w1 : World), Below W.heap.size W w1 → Q .normal ⟨#[c0, c1, c2, c3, c4, c5, c6, c7, c8, c9, c10, c11, c12, c13, c14, c15, c16, .pointer (some ⟨oa, 0, none⟩), c18, .pointer (some ⟨ob, 0, none⟩), c20, c21, c22, c23, c24, c25, c26, c27, c28, c29, c30, c31, c32, c33, c34, c35, c36, c37, c38, c39, c40, c41, c42, c43, c44, c45, c46, c47, c48, c49, c50, c51, c52, c53, c54, c55, c56, c57, c58, c59, c60, c61, c62, c63, c64, c65, c66, c67, c68, c69, c70, c71, c72, c73, c74, c75, c76, c77, c78, c79, c80, c81, c82, c83, c84, c85, c86, c87, c88, c89, c90, c91, c92, c93, c94, c95, c96, c97, c98, c99, c100, c101, c102, c103, c104, c105, c106, c107, c108, c109, c110, c111, c112, c113, c114, c115, c116, c117, c118, c119, c120, c121, c122, c123, c124, c125, c126, c127, c128, c129, c130, c131, c132, c133, c134, c135, c136, c137, c138, c139, u140, u141, u142, u143, u144, u145, u146, u147, u148, c149, c150, c151, c152, c153, c154, c155, c156, c157], []⟩ w1) : Code.wp Tryd.prog mm21C Q ⟨#[c0, c1, c2, c3, c4, c5, c6, c7, c8, c9, c10, c11, c12, c13, c14, c15, c16, .pointer (some ⟨oa, 0, none⟩), c18, .pointer (some ⟨ob, 0, none⟩), c20, c21, c22, c23, c24, c25, c26, c27, c28, c29, c30, c31, c32, c33, c34, c35, c36, c37, c38, c39, c40, c41, c42, c43, c44, c45, c46, c47, c48, c49, c50, c51, c52, c53, c54, c55, c56, c57, c58, c59, c60, c61, c62, c63, c64, c65, c66, c67, c68, c69, c70, c71, c72, c73, c74, c75, c76, c77, c78, c79, c80, c81, c82, c83, c84, c85, c86, c87, c88, c89, c90, c91, c92, c93, c94, c95, c96, c97, c98, c99, c100, c101, c102, c103, c104, c105, c106, c107, c108, c109, c110, c111, c112, c113, c114, c115, c116, c117, c118, c119, c120, c121, c122, c123, c124, c125, c126, c127, c128, c129, c130, c131, c132, c133, c134, c135, c136, c137, c138, c139, u140, u141, u142, u143, u144, u145, u146, u147, u148, c149, c150, c151, c152, c153, c154, c155, c156, c157], []⟩ W := by
 have HN := hidX hN
 have a0 : W.cell? ⟨oa, 0, none⟩ = some (.string ⟨ha.toArray⟩) := cell_of_blk hoa 0
 have a1 : W.cell? ⟨oa, 1, none⟩ = some (.int .i64 va) := cell_of_blk hoa 1
 have a2 : W.cell? ⟨oa, 2, none⟩ = some (.slice aa na ca) := cell_of_blk hoa 2
 have a3 : W.cell? ⟨oa, 3, none⟩ = some (.int .i64 (tka : Int)) := cell_of_blk hoa 3
 have b0 : W.cell? ⟨ob, 0, none⟩ = some (.string ⟨hb.toArray⟩) := cell_of_blk hob 0
 have b1 : W.cell? ⟨ob, 1, none⟩ = some (.int .i64 vb) := cell_of_blk hob 1
 have b2 : W.cell? ⟨ob, 2, none⟩ = some (.slice ab nb cb) := cell_of_blk hob 2
 have b3 : W.cell? ⟨ob, 3, none⟩ = some (.int .i64 (tkb : Int)) := cell_of_blk hob 3
 by_cases hT : ha = hTired
 ·have hs2 : (ha == [116, 105, 114, 101, 100]) = true := by rw [hT]; rfl
  clear hN hoa hob hsa hsb hs hT
  conv => arg 2; whnf
  go_wp2
  exact HN.out _ _ _ _ _ _ _ _ _  _ (Below.refl _ _)
 ·have hs2 : (ha == [116, 105, 114, 101, 100]) = false := ne_lit (show ¬ ha = [116, 105, 114, 101, 100] from hT)
  obtain ⟨rfl, rfl, rfl, rfl⟩ := hs hT
  subst hlb
  subst hla
  have HSO := hidX (sameOut_m ha va tka la (by omega) W aa ab ca cb hsa hsb)
  clear hN hoa hob hsa hsb hs hT
  conv => arg 2; whnf
  go_wp2_with fail
  refine HSO.out.mono ?_
  rintro e w1 ⟨rfl, hb1⟩
  have HB := hidX hb1
  clear hb1 a0 a1 a2 a3 b0 b1 b2 b3
  go_wp2
  exact HN.out _ _ _ _ _ _ _ _ _  _ HB.out
noncomputable def mm23C : Code := (Tryd.f4.body.bind (fromOf 23)).getD .skip
set_option maxRecDepth 100000 in
set_option maxHeartbeats 4000000 in
theorem mm_23 {W : World} {oa ob : Nat} {aa ab : Option Addr} {na nb ca cb : Nat} (h2a : W.cell? ⟨oa, 2, none⟩ = some (.slice aa na ca)) (h2b : W.cell? ⟨ob, 2, none⟩ = some (.slice ab nb cb)) (hla : oa < W.heap.size) (hlb : ob < W.heap.size) (hn : na ≤ nb) (hcb : nb ≤ cb) (hnb : nb ≤ 1000) (hsi : ∀ X, Below W.heap.size W X → Calls Tryd.prog 15 #[.slice aa na ca, .slice ab na cb] X fun e w1 => e = .returned (.bool true) ∧ Below X.heap.size X w1) {c0 c1 c2 c3 c4 c5 c6 c7 c8 c9 c11 c12 c13 c14 c15 c16 c18 c20 c21 c22 c23 c24 c25 c26 c27 c28 c29 c30 c31 c32 c33 c34 c35 c36 c37 c38 c39 c40 c41 c42 c43 c44 c45 c46 c47 c48 c49 c50 c51 c52 c53 c54 c55 c56 c57 c58 c59 c60 c61 c62 c63 c64 c65 c66 c67 c68 c69 c70 c71 c72 c73 c74 c75 c76 c77 c78 c79 c80 c81 c82 c83 c84 c85 c86 c87 c88 c89 c90 c91 c92 c93 c94 c95 c96 c97 c98 c99 c100 c101 c102 c103 c104 c105 c106 c107 c108 c109 c110 c111 c112 c113 c114 c115 c116 c117 c118 c119 c120 c121 c122 c123 c124 c125 c126 c127 c128 c129 c130 c131 c132 c133 c134 c135 c136 c137 c138 c139 c140 c141 c142 c143 c144 c145 c146 c147 c148 : Value} {u10 u149 u150 u151 u152 u153 u154 u155 u156 u157 : Value} {Q : Exit → Act → World → Prop}
  (hP : ∀ c (a : Act) (d : Option Tmp) (v : Value) w, Q (.panic c) (a.put d v) w → Q (.panic c) a w)
  (hR : ∀ (u10 u149 u150 u151 u152 u153 u154 u155 u156 u157 : Value) (w1 : World), u10 = .bool true → Below W.heap.size W w1 → Q .ret ⟨#[c0, c1, c2, c3, c4, c5, c6, c7, c8, c9, u10, c11, c12, c13, c14, c15, c16, .pointer (some ⟨oa, 0, none⟩), c18, .pointer (some ⟨ob, 0, none⟩), c20, c21, c22, c23, c24, c25, c26, c27, c28, c29, c30, c31, c32, c33, c34, c35, c36, c37, c38, c39, c40, c41, c42, c43, c44, c45, c46, c47, c48, c49, c50, c51, c52, c53, c54, c55, c56, c57, c58, c59, c60, c61, c62, c63, c64, c65, c66, c67, c68, c69, c70, c71, c72, c73, c74, c75, c76, c77, c78, c79, c80, c81, c82, c83, c84, c85, c86, c87, c88, c89, c90, c91, c92, c93, c94, c95, c96, c97, c98, c99, c100, c101, c102, c103, c104, c105, c106, c107, c108, c109, c110, c111, c112, c113, c114, c115, c116, c117, c118, c119, c120, c121, c122, c123, c124, c125, c126, c127, c128, c129, c130, c131, c132, c133, c134, c135, c136, c137, c138, c139, c140, c141, c142, c143, c144, c145, c146, c147, c148, u149, u150, u151, u152, u153, u154, u155, u156, u157], []⟩ w1) : Code.wp Tryd.prog mm23C Q ⟨#[c0, c1, c2, c3, c4, c5, c6, c7, c8, c9, u10, c11, c12, c13, c14, c15, c16, .pointer (some ⟨oa, 0, none⟩), c18, .pointer (some ⟨ob, 0, none⟩), c20, c21, c22, c23, c24, c25, c26, c27, c28, c29, c30, c31, c32, c33, c34, c35, c36, c37, c38, c39, c40, c41, c42, c43, c44, c45, c46, c47, c48, c49, c50, c51, c52, c53, c54, c55, c56, c57, c58, c59, c60, c61, c62, c63, c64, c65, c66, c67, c68, c69, c70, c71, c72, c73, c74, c75, c76, c77, c78, c79, c80, c81, c82, c83, c84, c85, c86, c87, c88, c89, c90, c91, c92, c93, c94, c95, c96, c97, c98, c99, c100, c101, c102, c103, c104, c105, c106, c107, c108, c109, c110, c111, c112, c113, c114, c115, c116, c117, c118, c119, c120, c121, c122, c123, c124, c125, c126, c127, c128, c129, c130, c131, c132, c133, c134, c135, c136, c137, c138, c139, c140, c141, c142, c143, c144, c145, c146, c147, c148, u149, u150, u151, u152, u153, u154, u155, u156, u157], []⟩ W := by
 have HR := hidX hR
 have HSI := hidX hsi
 have hcb' : (nb : Int) ≤ (cb : Int) := by omega
 have hn' : (na : Int) ≤ (nb : Int) := by omega
 have hnc : (na : Int) ≤ (cb : Int) := by omega
 have hna' : (na : Int) ≤ 1000 := by omega
 have hnb' : (nb : Int) ≤ 1000 := by omega
 have HCS := hidX (show ∀ V : World, Below W.heap.size W V → V.cell? ⟨oa, 2, none⟩ = some (.slice aa na ca) ∧ V.cell? ⟨ob, 2, none⟩ = some (.slice ab nb cb) from fun V hb => ⟨(hb.cell (p := ⟨oa, 2, none⟩) hla).trans h2a, (hb.cell (p := ⟨ob, 2, none⟩) hlb).trans h2b⟩)
 clear hR hsi hn hcb hnb h2a h2b
 conv => arg 2; whnf
 go_upto_region 23 with fail
 refine wp_region_V (fun W => W.cell? ⟨oa, 2, none⟩ = some (.slice aa na ca) ∧ W.cell? ⟨ob, 2, none⟩ = some (.slice ab nb cb)) 9 (by kernel_rfl) (HCS.out _ (by (repeat (first | exact Below.refl _ _ | assumption | refine Below.drew ?_ | refine bT ?_ _ | refine bS ?_ _ | refine bA ?_ _)))) (fun hHeld => ?_)
 refine wpAnyV_any 0 (some 149) (v := ?v0r1) rfl rfl (by kernel_rfl) (by kernel_rfl) (by kernel_rfl) (by kernel_rfl) (fun _ _ _ h => hP _ _ _ _ _ h) (Or.inl ⟨by rfl, ?hy0r1⟩) hHeld ?rest0r1
 case hy0r1 => (intro w2 hSw; (try dsimp only at hSw); first | (go_simp; done) | (go_simp; with_reducible rfl))
 simp only [Act.put, List.setIfInBounds_toArray, List.set_cons_zero, List.set_cons_succ]
 refine wpAnyV_put 1 (some 150) (v := ?v1r1) rfl rfl (by kernel_rfl) (by kernel_rfl) (by kernel_rfl) (by kernel_rfl) (by kernel_rfl) (fun _ _ _ h => hP _ _ _ _ _ h) (Or.inl ⟨by rfl, ?hy1r1⟩) hHeld ?rest1r1
 case hy1r1 => (intro w2 hSw; (try dsimp only at hSw); first | (go_simp; done) | (go_simp; with_reducible rfl))
 simp only [Act.put, List.setIfInBounds_toArray, List.set_cons_zero, List.set_cons_succ]
 refine wpAnyV_any 2 (some 151) (v := ?v2r1) rfl rfl (by kernel_rfl) (by kernel_rfl) (by kernel_rfl) (by kernel_rfl) (fun _ _ _ h => hP _ _ _ _ _ h) (Or.inl ⟨by rfl, ?hy2r1⟩) hHeld ?rest2r1
 case hy2r1 => (intro w2 hSw; (try dsimp only at hSw); first | (go_simp; done) | (go_simp; with_reducible rfl))
 simp only [Act.put, List.setIfInBounds_toArray, List.set_cons_zero, List.set_cons_succ]
 refine wpAnyV_put 3 (some 152) (v := ?v3r1) rfl rfl (by kernel_rfl) (by kernel_rfl) (by kernel_rfl) (by kernel_rfl) (by kernel_rfl) (fun _ _ _ h => hP _ _ _ _ _ h) (Or.inl ⟨by rfl, ?hy3r1⟩) hHeld ?rest3r1
 case hy3r1 => (intro w2 hSw; (try dsimp only at hSw); first | (go_simp; done) | (go_simp; with_reducible rfl))
 simp only [Act.put, List.setIfInBounds_toArray, List.set_cons_zero, List.set_cons_succ]
 refine wpAnyV_any 4 (some 153) (v := ?v4r1) rfl rfl (by kernel_rfl) (by kernel_rfl) (by kernel_rfl) (by kernel_rfl) (fun _ _ _ h => hP _ _ _ _ _ h) (Or.inl ⟨by rfl, ?hy4r1⟩) hHeld ?rest4r1
 case hy4r1 => (intro w2 hSw; (try dsimp only at hSw); first | (go_simp; done) | (go_simp; with_reducible rfl))
 simp only [Act.put, List.setIfInBounds_toArray, List.set_cons_zero, List.set_cons_succ]
 refine wpAnyV_put 5 (some 154) (v := ?v5r1) rfl rfl (by kernel_rfl) (by kernel_rfl) (by kernel_rfl) (by kernel_rfl) (by kernel_rfl) (fun _ _ _ h => hP _ _ _ _ _ h) (Or.inl ⟨by rfl, ?hy5r1⟩) hHeld ?rest5r1
 case hy5r1 => (intro w2 hSw; (try dsimp only at hSw); first | (go_simp; done) | (go_simp; with_reducible rfl))
 simp only [Act.put, List.setIfInBounds_toArray, List.set_cons_zero, List.set_cons_succ]
 refine wpAnyV_any 6 (some 155) (v := ?v6r1) rfl rfl (by kernel_rfl) (by kernel_rfl) (by kernel_rfl) (by kernel_rfl) (fun _ _ _ h => hP _ _ _ _ _ h) (Or.inl ⟨by rfl, ?hy6r1⟩) hHeld ?rest6r1
 case hy6r1 => (intro w2 hSw; (try dsimp only at hSw); first | (go_simp; done) | (go_simp; with_reducible rfl))
 simp only [Act.put, List.setIfInBounds_toArray, List.set_cons_zero, List.set_cons_succ]
 refine wpAnyV_any 7 (some 156) (v := ?v7r1) rfl rfl (by kernel_rfl) (by kernel_rfl) (by kernel_rfl) (by kernel_rfl) (fun _ _ _ h => hP _ _ _ _ _ h) (Or.inl ⟨by rfl, ?hy7r1⟩) hHeld ?rest7r1
 case hy7r1 => (intro w2 hSw; (try dsimp only at hSw); first | (go_simp; done) | (go_simp; with_reducible rfl))
 simp only [Act.put, List.setIfInBounds_toArray, List.set_cons_zero, List.set_cons_succ]
 refine wpAnyV_one (i := 8) (by kernel_rfl) rfl (fun K8 hK8 => ?_)
 go_simp
 refine (HSI.out _ (by (repeat (first | exact Below.refl _ _ | assumption | refine Below.drew ?_ | refine bT ?_ _ | refine bS ?_ _ | refine bA ?_ _)))).mono ?_
 rintro e w1 ⟨rfl, hb1⟩
 have hbw : Below W.heap.size W w1 := bl_trans (show Below W.heap.size W W.drew from by (repeat (first | exact Below.refl _ _ | assumption | refine Below.drew ?_ | refine bT ?_ _ | refine bS ?_ _ | refine bA ?_ _))) (Nat.le_refl _) hb1
 have hHeld := HCS.out _ hbw
 refine hK8.out _ _ (fun _ => hHeld) (fun _ => ?_)
 clear hK8 K8
 try simp only [Act.put, List.setIfInBounds_toArray, List.set_cons_zero, List.set_cons_succ]
 refine wpAnyV_one (i := 9) (by kernel_rfl) rfl (fun K9 hK9 => ?_)
 go_simp
 refine hK9.out _ _ (fun h => absurd rfl h) (fun _ => ?_)
 clear hK9 K9 hHeld
 try simp only [Act.put, List.setIfInBounds_toArray, List.set_cons_zero, List.set_cons_succ]
 refine wpAnyV_done (by kernel_rfl) ?_ _
 go_wp2
 exact HR.out _ _ _ _ _ _ _ _ _ _  _ rfl hbw
end Go.Proofs.YtbcpomdcmilpjaaDoor
namespace Go.Proofs.YtbcpomdcmilpjaaDoor
open Go.RowKit
set_option maxRecDepth 100000 in
set_option maxHeartbeats 8000000 in
theorem machMore_any {w : World} {a : Nat → Addr} (hS : SenM w a) (hT : TabC w) (I : Im) (hfl : I.funs.length ≤ 9223372036854775807) (hwl : I.words.length ≤ 9223372036854775807) (hnl : ∀ f ∈ I.funs, f.name.length ≤ 9223372036854775807) (hwv : ∀ v ∈ I.words, v < 18446744073709551616) (adf adw : Option Addr) (cf cw : Nat) (hF : XMf (InH w) w (.slice adf I.funs.length cf) I.funs) (hWd : XRow (InH w) w (.slice adw I.words.length cw) I.words.length (wosV I.words))
  (nm : List UInt8) (_hnm : nm.length ≤ 9223372036854775807) (args : List Int) (hal : args.length ≤ 9223372036854775807) (h64 : ∀ v ∈ args, In64 v) (aad : Option Addr) (ac : Nat) (hargs : XRow (InH w) w (.slice aad args.length ac) args.length (intsG args)) (tk tk2 : Int) :
  Calls Tryd.prog 4 #[.agg #[.slice adf I.funs.length cf, .slice adw I.words.length cw], .string ⟨nm.toArray⟩, .slice aad args.length ac, .int .i64 tk, .int .i64 tk2] w fun e w' => e = .returned (.bool true) ∧ Below w.heap.size w w' := by
 go_enter Tryd.func4, Tryd.ntmps4
 have hb0 : Below w.heap.size w (w.alloc (.cells #[.slice adf I.funs.length cf, .slice adw I.words.length cw] 25)) := by (repeat (first | exact Below.refl _ _ | assumption | refine Below.drew ?_ | refine bT ?_ _ | refine bS ?_ _ | refine bA ?_ _))
 refine wp_seq (mm_0 ?_)
 intro u10
 refine wp_seq (mm_1 (hS.below hb0) (hT.below hb0) ?_)
 intro u21 w1 hb1
 have hx0 : (w.alloc (.cells #[.slice adf I.funs.length cf, .slice adw I.words.length cw] 25)).heap[w.heap.size]? = some (.cells #[.slice adf I.funs.length cf, .slice adw I.words.length cw] 25 (0, 0)) := heap_alloc_new _ _
 have hx1 := (hb1.block _ (heap_lt hx0)).trans hx0
 have hw1 := bl_trans hb0 hb0.size hb1
 refine wp_seq (mm_2 hfl hwl hnl hal hx1 (hF.imp (inH_up hw1) (keepH hw1)) ?_ ?_)
 rotate_left
 ·rintro u10 u22 u23 u24 u25 u26 u27 u28 u29 u30 u31 u32 u33 u34 u35 u36 u37 u38 u39 u40 u41 u42 u43 u44 u45 u46 u47 u48 u49 w2 rfl hb2
  (try simp only [Exit.then]); go_ret
  exact ⟨rfl, bl_trans hw1 hw1.size hb2⟩
 intro u10 u22 u23 u24 u25 u26 u27 u28 u29 u30 u31 u32 u33 u34 u35 u36 u37 u38 u39 u40 u41 u42 u43 u44 u45 u46 u47 u48 u49 w2 hb2 hfew ha8 ht0 ht1 ht2 ht3
 obtain ⟨ta, rfl⟩ : ∃ ta : Nat, tk = (ta : Int) := ⟨tk.toNat, by omega⟩
 obtain ⟨tb, rfl⟩ : ∃ tb : Nat, tk2 = (tb : Int) := ⟨tk2.toNat, by omega⟩
 have hw2 := bl_trans hw1 hw1.size hb2
 have hx2 := (hb2.block _ (heap_lt hx1)).trans hx1
 have hwl2 : I.words.length ≤ 10000 := by have := hfew.words; omega
 have hfl2 := hfew.funs
 have hnl4 : ∀ f ∈ I.funs, f.name.length ≤ 4000 := fun f hf => by have := hfew.names f hf; omega
 refine wp_seq (mm_4 ?_)
 refine wp_seq (mm_5 hfl2 hx2 (hF.imp (inH_up hw2) (keepH hw2)) ?_)
 intro u13 u50 u51 u52 u53 u54 u55 u56 u57 u58 u59 u60 u61 u62 u63 u64 u65
 refine wp_seq (mm_10 (by omega) (by omega) hwv hx2 (hF.imp (inH_up hw2) (keepH hw2)) (hWd.imp (inH_up hw2) (keepH hw2)) ?_ ?_)
 rotate_left
 ·rintro u10 u66 u67 u68 u69 u70 u71 u72 u73 w3 rfl hb3
  (try simp only [Exit.then]); go_ret
  exact ⟨rfl, bl_trans hw2 hw2.size hb3⟩
 intro u10 u66 u67 u68 u69 u70 u71 u72 u73 w3 hb3 hi0 hk0
 have hw3 := bl_trans hw2 hw2.size hb3
 have hx3 := (hb3.block _ (heap_lt hx2)).trans hx2
 have hWell := well_of hi0
 have hkw := last_which hi0 nm
 obtain ⟨q, hq⟩ : ∃ q : Nat, lastM nm 0 I.funs (-1) = (q : Int) := ⟨(lastM nm 0 I.funs (-1)).toNat, by omega⟩
 rw [hq] at hkw hk0 ⊢
 have hql : q < I.funs.length := by
  have := lastM_lt (nm := nm) I.funs 0 (-1) (by omega)
  omega
 refine wp_seq (mm_12 hWell hwv hql ha8 h64 (by omega) (by omega) hx3 (hF.imp (inH_up hw3) (keepH hw3)) (hWd.imp (inH_up hw3) (keepH hw3)) (hargs.imp (inH_up hw3) (keepH hw3)) ?_ ?_)
 rotate_left
 ·rintro u10 u74 u75 u76 u77 u78 u79 u80 u81 u82 u83 u84 u85 u86 u87 u88 u89 u90 u91 u92 u93 w4 rfl hb4
  (try simp only [Exit.then]); go_ret
  exact ⟨rfl, bl_trans hw3 hw3.size hb4⟩
 rintro u10 u74 u75 u76 u77 u78 u79 u80 u81 u82 u83 u84 u85 u86 u87 u88 u89 u90 u91 u92 u93 w4 hb4 hpar ⟨hb, vb, gb, hlong⟩
 have hw4 := bl_trans hw3 hw3.size hb4
 have hx4 := (hb4.block _ (heap_lt hx3)).trans hx3
 refine wp_seq (mm_14 hfl2 hwl2 hx4 (hF.imp (inH_up hw4) (keepH hw4)) (hWd.imp (inH_up hw4) (keepH hw4)) ?_)
 intro u94 u95 w5 xb af aw c1 c2 hb5 hxb hxf hxw
 have hw5 := bl_trans hw4 hw4.size hb5
 have hXF : ∀ Y, Below w5.heap.size w5 Y → XMf (InH Y) Y (.slice af I.funs.length c1) I.funs := fun Y hY => hxf.imp (inH_up hY) (keepH hY)
 have hXW : ∀ Y, Below w5.heap.size w5 Y → XRow (InH Y) Y (.slice aw I.words.length c2) I.words.length (wosV I.words) := fun Y hY => hxw.imp (inH_up hY) (keepH hY)
 refine wp_seq (mm_15 ?_)
 refine wp_seq (mm_16 ?_)
 have hr5 : Below w5.heap.size w5 w5 := Below.refl _ _
 have hst : ∀ T : Nat, startM I nm args T = enterM I T ⟨[], 0⟩ [] (q : Int) (four args) 0 := fun T => by unfold startM; rw [← hkw]
 refine wp_seq (rm17_any (hargs.imp (inH_up hw5) (keepH hw5)) (by omega) hxb (R := fun B X o0 o1 o2 on oc o3 er => er = .nilIface ∧ ∃ how2 v2 g2, o0 = ⟨(how2 : List UInt8).toArray⟩ ∧ o1 = v2 ∧ on = g2.out.length ∧ o3 = (g2.ticks : Int) ∧ X.ownsRow B 3 1 (.slice o2 on oc) g2.out.length (intsG g2.out) ∧ g2.out.length ≤ 1000 ∧ EndM I ta (startM I nm args ta) how2 v2 g2) ?_ ?_ ?_ (fun _ _ d _ _ h => by cases d <;> exact h) ?_)
 ·intro Y hY ad cap hr
  have hg : (runF I nm args.length ((ta : Nat) : Int)).1 = 0 := by
   unfold runF
   rw [if_neg (by rw [hi0]; decide), if_neg (by rw [← hkw]; omega), if_neg (by rw [← hkw]; simpa [funAt, hql] using hpar.symm), if_neg (by omega)]
  refine ((show Calls _ _ _ _ _ from id (mrun_any (hS.below (bl_trans hw5 hw5.size hY)) (hT.below (bl_trans hw5 hw5.size hY)) I hnl4 hwv (by omega) (by omega) af aw c1 c2 (hXF Y (bl_trans hr5 hr5.size hY)) (hXW Y (bl_trans hr5 hr5.size hY)) nm args ad cap hr ((ta : Nat) : Int) hg))).mono ?_
  rintro e w1 ⟨hbw, how2, v2, ov2, g2, rfl, ho, hl, he⟩
  obtain ⟨oad2, ocap2, rfl⟩ := own_is ho
  exact ⟨hbw, _, _, _, _, _, _, _, rfl, rfl, how2, v2, g2, rfl, rfl, rfl, rfl, ho, hl, he⟩
 ·rintro B X Y o0 o1 o2 on oc o3 er ⟨h0, how2, v2, g2, h1, h2, h3, h4, h5, h6⟩ hb
  exact ⟨h0, how2, v2, g2, h1, h2, h3, h4, own_same h5 (fun b e => hb.block b (h5.lt b e).2), h6⟩
 ·rintro B X b x0 x1 x2 x3 o0 o1 o2 on oc o3 er hlt2 ⟨h0, how2, y2, g2, h1, h2, h3, h4, h5, h6⟩
  refine ⟨h0, how2, y2, g2, h1, h2, h3, h4, own_same h5 (fun b2 e => ?_), h6⟩
  have hne : b2 ≠ b := by have := (h5.lt b2 e).1; omega
  rw [Below.heap_setCell _ _ _ _ hne, Below.heap_setCell _ _ _ _ hne, Below.heap_setCell _ _ _ _ hne, Below.heap_setCell _ _ _ _ hne]
 rintro u17 u18 u96 u97 u98 u99 u100 u101 u102 u103 u104 u105 w6 ⟨oa, o0, o1, o2, on, oc, o3, rfl, hoa1, hb6, hoa, B, hB1, hB2, rfl, ha, va, ga, rfl, rfl, rfl, rfl, hown, hla, hea⟩
 have hw6 := bl_trans hw5 hw5.size hb6
 refine wp_seq (rm18_any (hargs.imp (inH_up hw6) (keepH hw6)) (by omega) ((hb6.block _ (heap_lt hxb)).trans hxb) ⟨by omega, by omega⟩ ⟨by omega, by omega⟩ (R := fun B X o0 o1 o2 on oc o3 er => er = .nilIface ∧ ∃ how2 v2 g2, o0 = ⟨(how2 : List UInt8).toArray⟩ ∧ o1 = v2 ∧ on = g2.out.length ∧ o3 = (g2.ticks : Int) ∧ X.ownsRow B 3 1 (.slice o2 on oc) g2.out.length (intsG g2.out) ∧ g2.out.length ≤ 1000 ∧ EndM I (ta + tb) (startM I nm args (ta + tb)) how2 v2 g2) ?_ ?_ ?_ (fun _ _ d _ _ h => by cases d <;> exact h) ?_)
 ·intro Y hY ad cap hr
  have hg : (runF I nm args.length (((ta + tb) : Nat) : Int)).1 = 0 := by
   unfold runF
   rw [if_neg (by rw [hi0]; decide), if_neg (by rw [← hkw]; omega), if_neg (by rw [← hkw]; simpa [funAt, hql] using hpar.symm), if_neg (by omega)]
  refine ((show Calls _ _ _ _ _ from (fun h => by rw [show ((ta : Int) + (tb : Int)) = ((ta + tb : Nat) : Int) from by omega]; exact h) (mrun_any (hS.below (bl_trans hw6 hw6.size hY)) (hT.below (bl_trans hw6 hw6.size hY)) I hnl4 hwv (by omega) (by omega) af aw c1 c2 (hXF Y (bl_trans hb6 hb6.size hY)) (hXW Y (bl_trans hb6 hb6.size hY)) nm args ad cap hr (((ta + tb) : Nat) : Int) hg))).mono ?_
  rintro e w1 ⟨hbw, how2, v2, ov2, g2, rfl, ho, hl, he⟩
  obtain ⟨oad2, ocap2, rfl⟩ := own_is ho
  exact ⟨hbw, _, _, _, _, _, _, _, rfl, rfl, how2, v2, g2, rfl, rfl, rfl, rfl, ho, hl, he⟩
 ·rintro B X Y o0 o1 o2 on oc o3 er ⟨h0, how2, v2, g2, h1, h2, h3, h4, h5, h6⟩ hb
  exact ⟨h0, how2, v2, g2, h1, h2, h3, h4, own_same h5 (fun b e => hb.block b (h5.lt b e).2), h6⟩
 ·rintro B X b x0 x1 x2 x3 o0 o1 o2 on oc o3 er hlt2 ⟨h0, how2, y2, g2, h1, h2, h3, h4, h5, h6⟩
  refine ⟨h0, how2, y2, g2, h1, h2, h3, h4, own_same h5 (fun b2 e => ?_), h6⟩
  have hne : b2 ≠ b := by have := (h5.lt b2 e).1; omega
  rw [Below.heap_setCell _ _ _ _ hne, Below.heap_setCell _ _ _ _ hne, Below.heap_setCell _ _ _ _ hne, Below.heap_setCell _ _ _ _ hne]
 rintro u19 u20 u106 u107 u108 u109 u110 u111 u112 u113 u114 u115 u116 u117 w7 ⟨ob, o0, o1, p2, pn, pc, p3, rfl, hob1, hb7, hob, B2, hB3, hB4, rfl, hb2_, vb2, gb2, rfl, rfl, rfl, rfl, hown2, hlb, heb⟩
 have hw7 := bl_trans hw6 hw6.size hb7
 rw [hst] at hea heb
 have hends := more_ends hea hlong (enter_ext I ta tb ⟨[], 0⟩ [] (q : Int) (four args) 0)
 have hone : hb2_ = hb ∧ o1 = vb ∧ gb2 = gb := by
  rcases heb with ⟨n, hn⟩ | ⟨_, _, g1, f1, fs1, h2⟩
  ·exact itM_same hn hlong
  ·rw [itM_stay hlong (by omega)] at h2; cases h2
 obtain ⟨rfl, rfl, rfl⟩ := hone
 have hle : LeM ga gb2 := by
  rcases hends with ⟨_, _, h⟩ | ⟨_, h⟩
  ·rw [h]; exact LeM.refl _
  ·exact h
 have hoa7 := (hb7.block _ (heap_lt hoa)).trans hoa
 have hsa : XRow (InH w7) w7 (.slice o2 ga.out.length oc) ga.out.length (intsG ga.out) := (xrow_own hown).imp (fun b hb => by have := hb7.size; unfold InH; omega) (fun b hb => hb7.block b hb.2)
 have hsb : XRow (InH w7) w7 (.slice p2 gb2.out.length pc) gb2.out.length (intsG gb2.out) := (xrow_own hown2).imp (fun b hb => hb.2) (fun _ _ => rfl)
 have hlen := hle.1.length_le
 refine wp_seq (mm_19 hoa7 hob hlen hle.2 hlb ?_)
 intro u118 u119 u120 u121 u122 u123 u124 u125 u126 u127 u128 u129 u130 u131 u132 u133 u134 u135 u136 u137 u138 u139
 refine wp_seq (mm_21 hoa7 hob ga.out gb2.out rfl rfl hsa hsb hlb (fun hne => ?_) ?_)
 ·rcases hends with ⟨h1, h2, h3⟩ | ⟨h, _⟩
  ·exact ⟨h1, h2, by rw [h3], by rw [h3]⟩
  ·exact absurd h hne
 intro u140 u141 u142 u143 u144 u145 u146 u147 u148 w8 hb8
 have hw8 := bl_trans hw7 hw7.size hb8
 have hoa8 := (hb8.block _ (heap_lt hoa7)).trans hoa7
 have hob8 := (hb8.block _ (heap_lt hob)).trans hob
 have hcap := own_le hown2
 refine mm_23 (cell_of_blk hoa8 2) (cell_of_blk hob8 2) (heap_lt hoa8) (heap_lt hob8) hlen hcap.1 hlb (fun X hX => ?_) (fun _ _ d _ _ h => by cases d <;> exact h) ?_
 ·have hX8 := bl_trans hb8 hb8.size hX
  have h1 : XRow (InH X) X (.slice o2 ga.out.length oc) ga.out.length (intsG ga.out) := hsa.imp (inH_up hX8) (keepH hX8)
  have h2 : XRow (InH X) X (.slice p2 ga.out.length pc) ga.out.length (intsG ga.out) := xrow_takeM (hsb.imp (inH_up hX8) (keepH hX8)) rfl hle.1
  exact sameInts_m ga.out (by omega) X o2 p2 oc pc h1 h2
 ·rintro u10 u149 u150 u151 u152 u153 u154 u155 u156 u157 w9 rfl hb9
  go_ret
  exact ⟨rfl, bl_trans hw8 hw8.size hb9⟩
end Go.Proofs.YtbcpomdcmilpjaaDoor
