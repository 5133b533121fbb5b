/- Our own: texts joined: MxHeadA, MxApartT, MxApart. -/
import Derived.Test.YtbcpomdcmilpjaaDoorXMoWd
import Derived.Test.YtbcpomdcmilpjaaDoorXMxA
import Derived.Test.YtbcpomdcmilpjaaDoorXMoMachOf
import Derived.Test.YtbcpomdcmilpjaaDoorXSameM
import Derived.Test.YtbcpomdcmilpjaaDoorXOnceM
import Derived.Test.YtbcpomdcmilpjaaDoorXMaRun
import Derived.Test.YtbcpomdcmilpjaaDoorXMrImage
import Derived.Test.YtbcpomdcmilpjaaDoorXUntM
import Derived.Deep.AppendLies
namespace Go.Proofs.YtbcpomdcmilpjaaDoor
open Go.RowKit
theorem fld_codeM (c : Int) (x : Int) (w : World) : (Instr.field 30 (.agg #[.int .i64 c, .int .i64 x]) 0).run Tryd.prog w = .ok (.int .i64 c) w := by kernel_rfl
noncomputable def ma0C : Code := ((Tryd.f5.body.bind (regionOf 0)).getD .skip)
noncomputable def ma1C : Code := ((Tryd.f5.body.bind (regionOf 1)).getD .skip)
noncomputable def ma2C : Code := fstC ((Tryd.f5.body.bind (fromOf 2)).getD .skip)
noncomputable def ma4C : Code := ((Tryd.f5.body.bind (regionOf 4)).getD .skip)
noncomputable def ma5C : Code := fstC ((Tryd.f5.body.bind (fromOf 5)).getD .skip)
set_option maxRecDepth 100000 in
set_option maxHeartbeats 4000000 in
theorem ma_0 {w : World} {I : Im} {adf adw : Option Addr} {cf cw : Nat} {nm : List UInt8} {args : List Int} {aad : Option Addr} {ac : Nat} {tk : Int}  {c5 c6 c7 c9 c10 c11 c12 c13 c14 c15 c16 c17 c18 c19 c20 c21 c22 c23 c24 c25 c26 c27 c28 c29 c30 c31 c32 c33 c34 c35 c36 c37 c38 c39 c40 c41 c42 c43 c44 c45 c46 c47 c48 c49 c50 c51 c52 c53 c54 c55 c56 c57 c58 c59 c60 c61 c62 c63 c64 c65 c66 c67 c68 c69 c70 c71 c72 c73 c74 c75 c76 c77 c78 c79 c80 c81 c82 c83 c84 c85 c86 c87 c88 c89 c90 c91 c92 c93 c94 c95 c96 c97 c98 c99 c100 c101 c102 c103 c104 c105 c106 c107 c108 c109 c110 c111 c112 c113 c114 c115 c116 c117 c118 c119 c120 c121 c122 c123 c124 c125 c126 c127 c128 c129 c130 c131 : Value} {u4 u8 : Value} {Q : Exit → Act → World → Prop}
  (hN : ∀ (u8 : Value), Q .normal ⟨#[.agg #[.slice adf I.funs.length cf, .slice adw I.words.length cw], .string ⟨nm.toArray⟩, .slice aad args.length ac, .int .i64 tk, .pointer (some ⟨w.heap.size, 0, none⟩), c5, c6, c7, u8, c9, c10, c11, c12, c13, c14, c15, c16, c17, c18, c19, c20, c21, c22, c23, c24, c25, c26, c27, c28, c29, c30, c31, c32, c33, c34, c35, c36, c37, c38, c39, c40, c41, c42, c43, c44, c45, c46, c47, c48, c49, c50, c51, c52, c53, c54, c55, c56, c57, c58, c59, c60, c61, c62, c63, c64, c65, c66, c67, c68, c69, c70, c71, c72, c73, c74, c75, c76, c77, c78, c79, c80, c81, c82, c83, c84, c85, c86, c87, c88, c89, c90, c91, c92, c93, c94, c95, c96, c97, c98, c99, c100, c101, c102, c103, c104, c105, c106, c107, c108, c109, c110, c111, c112, c113, c114, c115, c116, c117, c118, c119, c120, c121, c122, c123, c124, c125, c126, c127, c128, c129, c130, c131], []⟩ (w.alloc (.cells #[.slice adf I.funs.length cf, .slice adw I.words.length cw] 25))) : Code.wp Tryd.prog ma0C Q ⟨#[.agg #[.slice adf I.funs.length cf, .slice adw I.words.length cw], .string ⟨nm.toArray⟩, .slice aad args.length ac, .int .i64 tk, u4, c5, c6, c7, u8, c9, c10, c11, c12, c13, c14, c15, c16, c17, c18, c19, c20, c21, c22, c23, c24, c25, c26, c27, c28, c29, c30, c31, c32, c33, c34, c35, c36, c37, c38, c39, c40, c41, c42, c43, c44, c45, c46, c47, c48, c49, c50, c51, c52, c53, c54, c55, c56, c57, c58, c59, c60, c61, c62, c63, c64, c65, c66, c67, c68, c69, c70, c71, c72, c73, c74, c75, c76, c77, c78, c79, c80, c81, c82, c83, c84, c85, c86, c87, c88, c89, c90, c91, c92, c93, c94, c95, c96, c97, c98, c99, c100, c101, c102, c103, c104, c105, c106, c107, c108, c109, c110, c111, c112, c113, c114, c115, c116, c117, c118, c119, c120, c121, c122, c123, c124, c125, c126, c127, c128, c129, c130, c131], []⟩ w := by
 have HN := hidX hN
 clear hN
 conv => arg 2; whnf
 go_wp2
 exact HN.out _
set_option maxRecDepth 100000 in
set_option maxHeartbeats 4000000 in
theorem ma_1 {w W : World} {I : Im} {adf adw : Option Addr} {cf cw : Nat} {nm : List UInt8} {args : List Int} {aad : Option Addr} {ac : Nat} {tk : Int} {a : Nat → Addr} (hS : SenM W a) (hT : TabC W) {c5 c6 c7 c8 c10 c11 c12 c13 c14 c15 c17 c18 c19 c20 c21 c22 c23 c24 c25 c26 c27 c28 c29 c30 c31 c32 c33 c34 c35 c36 c37 c38 c39 c40 c41 c42 c43 c44 c45 c46 c47 c48 c49 c50 c51 c52 c53 c54 c55 c56 c57 c58 c59 c60 c61 c62 c63 c64 c65 c66 c67 c68 c69 c70 c71 c72 c73 c74 c75 c76 c77 c78 c79 c80 c81 c82 c83 c84 c85 c86 c87 c88 c89 c90 c91 c92 c93 c94 c95 c96 c97 c98 c99 c100 c101 c102 c103 c104 c105 c106 c107 c108 c109 c110 c111 c112 c113 c114 c115 c116 c117 c118 c119 c120 c121 c122 c123 c124 c125 c126 c127 c128 c129 c130 c131 : Value} {u9 u16 : Value} {Q : Exit → Act → World → Prop}
  (hN : ∀ (u16 : Value) (w1 : World), Below W.heap.size W w1 → Q .normal ⟨#[.agg #[.slice adf I.funs.length cf, .slice adw I.words.length cw], .string ⟨nm.toArray⟩, .slice aad args.length ac, .int .i64 tk, .pointer (some ⟨w.heap.size, 0, none⟩), c5, c6, c7, c8, .bool true, c10, c11, c12, c13, c14, c15, u16, c17, c18, c19, c20, c21, c22, c23, c24, c25, c26, c27, c28, c29, c30, c31, c32, c33, c34, c35, c36, c37, c38, c39, c40, c41, c42, c43, c44, c45, c46, c47, c48, c49, c50, c51, c52, c53, c54, c55, c56, c57, c58, c59, c60, c61, c62, c63, c64, c65, c66, c67, c68, c69, c70, c71, c72, c73, c74, c75, c76, c77, c78, c79, c80, c81, c82, c83, c84, c85, c86, c87, c88, c89, c90, c91, c92, c93, c94, c95, c96, c97, c98, c99, c100, c101, c102, c103, c104, c105, c106, c107, c108, c109, c110, c111, c112, c113, c114, c115, c116, c117, c118, c119, c120, c121, c122, c123, c124, c125, c126, c127, c128, c129, c130, c131], []⟩ w1) : Code.wp Tryd.prog ma1C Q ⟨#[.agg #[.slice adf I.funs.length cf, .slice adw I.words.length cw], .string ⟨nm.toArray⟩, .slice aad args.length ac, .int .i64 tk, .pointer (some ⟨w.heap.size, 0, none⟩), c5, c6, c7, c8, u9, c10, c11, c12, c13, c14, c15, u16, c17, c18, c19, c20, c21, c22, c23, c24, c25, c26, c27, c28, c29, c30, c31, c32, c33, c34, c35, c36, c37, c38, c39, c40, c41, c42, c43, c44, c45, c46, c47, c48, c49, c50, c51, c52, c53, c54, c55, c56, c57, c58, c59, c60, c61, c62, c63, c64, c65, c66, c67, c68, c69, c70, c71, c72, c73, c74, c75, c76, c77, c78, c79, c80, c81, c82, c83, c84, c85, c86, c87, c88, c89, c90, c91, c92, c93, c94, c95, c96, c97, c98, c99, c100, c101, c102, c103, c104, c105, c106, c107, c108, c109, c110, c111, c112, c113, c114, c115, c116, c117, c118, c119, c120, c121, c122, c123, c124, c125, c126, c127, c128, c129, c130, c131], []⟩ W := by
 have HN := hidX hN
 have HM := hidX (machined_any hS hT)
 clear hN hS hT
 conv => arg 2; whnf
 go_wp2_with fail
 refine HM.out.mono ?_
 rintro e w1 ⟨rfl, hb⟩
 have HB := hidX hb
 clear hb
 go_wp2
 exact HN.out _ _ HB.out
set_option maxRecDepth 100000 in
set_option maxHeartbeats 4000000 in
theorem ma_2 {w W : World} {I : Im} {adf adw : Option Addr} {cf cw : Nat} {nm : List UInt8} {args : List Int} {aad : Option Addr} {ac : Nat} {tk : Int} (hfl : I.funs.length ≤ 9223372036854775807) (hwl : I.words.length ≤ 9223372036854775807) (hnl : ∀ f ∈ I.funs, f.name.length ≤ 9223372036854775807) (hal : args.length ≤ 9223372036854775807) (hbox : W.heap[w.heap.size]? = some (.cells #[.slice adf I.funs.length cf, .slice adw I.words.length cw] 25 (0, 0))) (hF : XMf (InH W) W (.slice adf I.funs.length cf) I.funs) {c5 c6 c7 c10 c11 c12 c13 c14 c15 c16 c49 c50 c51 c52 c53 c54 c55 c56 c57 c58 c59 c60 c61 c62 c63 c64 c65 c66 c67 c68 c69 c70 c71 c72 c73 c74 c75 c76 c77 c78 c79 c80 c81 c82 c83 c84 c85 c86 c87 c88 c89 c90 c91 c92 c93 c94 c95 c96 c97 c98 c99 c100 c101 c102 c103 c104 c105 c106 c107 c108 c109 c110 c111 c112 c113 c114 c115 c116 c117 c118 c119 c120 c121 c122 c123 c124 c125 c126 c127 c128 c129 c130 c131 : Value} {u8 u17 u18 u19 u20 u21 u22 u23 u24 u25 u26 u27 u28 u29 u30 u31 u32 u33 u34 u35 u36 u37 u38 u39 u40 u41 u42 u43 u44 u45 u46 u47 u48 : Value} {Q : Exit → Act → World → Prop}
  (hN : ∀ (u8 u17 u18 u19 u20 u21 u22 u23 u24 u25 u26 u27 u28 u29 u30 u31 u32 u33 u34 u35 u36 u37 u38 u39 u40 u41 u42 u43 u44 u45 u46 u47 u48 : Value) (w1 : World), Below W.heap.size W w1 → FewIm I → args.length ≤ 8 → ¬ tk < 0 → ¬ 60 < tk → I.funs.length < 8 → I.words.length ≤ 200 → Q .normal ⟨#[.agg #[.slice adf I.funs.length cf, .slice adw I.words.length cw], .string ⟨nm.toArray⟩, .slice aad args.length ac, .int .i64 tk, .pointer (some ⟨w.heap.size, 0, none⟩), c5, c6, c7, u8, .bool true, c10, c11, c12, c13, c14, c15, c16, u17, u18, u19, u20, u21, u22, u23, u24, u25, u26, u27, u28, u29, u30, u31, u32, u33, u34, u35, u36, u37, u38, u39, u40, u41, u42, u43, u44, u45, u46, u47, u48, c49, c50, c51, c52, c53, c54, c55, c56, c57, c58, c59, c60, c61, c62, c63, c64, c65, c66, c67, c68, c69, c70, c71, c72, c73, c74, c75, c76, c77, c78, c79, c80, c81, c82, c83, c84, c85, c86, c87, c88, c89, c90, c91, c92, c93, c94, c95, c96, c97, c98, c99, c100, c101, c102, c103, c104, c105, c106, c107, c108, c109, c110, c111, c112, c113, c114, c115, c116, c117, c118, c119, c120, c121, c122, c123, c124, c125, c126, c127, c128, c129, c130, c131], []⟩ w1)
  (hR : ∀ (u8 u17 u18 u19 u20 u21 u22 u23 u24 u25 u26 u27 u28 u29 u30 u31 u32 u33 u34 u35 u36 u37 u38 u39 u40 u41 u42 u43 u44 u45 u46 u47 u48 : Value) (w1 : World), u8 = .bool true → Below W.heap.size W w1 → Q .ret ⟨#[.agg #[.slice adf I.funs.length cf, .slice adw I.words.length cw], .string ⟨nm.toArray⟩, .slice aad args.length ac, .int .i64 tk, .pointer (some ⟨w.heap.size, 0, none⟩), c5, c6, c7, u8, .bool true, c10, c11, c12, c13, c14, c15, c16, u17, u18, u19, u20, u21, u22, u23, u24, u25, u26, u27, u28, u29, u30, u31, u32, u33, u34, u35, u36, u37, u38, u39, u40, u41, u42, u43, u44, u45, u46, u47, u48, c49, c50, c51, c52, c53, c54, c55, c56, c57, c58, c59, c60, c61, c62, c63, c64, c65, c66, c67, c68, c69, c70, c71, c72, c73, c74, c75, c76, c77, c78, c79, c80, c81, c82, c83, c84, c85, c86, c87, c88, c89, c90, c91, c92, c93, c94, c95, c96, c97, c98, c99, c100, c101, c102, c103, c104, c105, c106, c107, c108, c109, c110, c111, c112, c113, c114, c115, c116, c117, c118, c119, c120, c121, c122, c123, c124, c125, c126, c127, c128, c129, c130, c131], []⟩ w1) : Code.wp Tryd.prog ma2C Q ⟨#[.agg #[.slice adf I.funs.length cf, .slice adw I.words.length cw], .string ⟨nm.toArray⟩, .slice aad args.length ac, .int .i64 tk, .pointer (some ⟨w.heap.size, 0, none⟩), c5, c6, c7, u8, .bool true, c10, c11, c12, c13, c14, c15, c16, u17, u18, u19, u20, u21, u22, u23, u24, u25, u26, u27, u28, u29, u30, u31, u32, u33, u34, u35, u36, u37, u38, u39, u40, u41, u42, u43, u44, u45, u46, u47, u48, c49, c50, c51, c52, c53, c54, c55, c56, c57, c58, c59, c60, c61, c62, c63, c64, c65, c66, c67, c68, c69, c70, c71, c72, c73, c74, c75, c76, c77, c78, c79, c80, c81, c82, c83, c84, c85, c86, c87, c88, c89, c90, c91, c92, c93, c94, c95, c96, c97, c98, c99, c100, c101, c102, c103, c104, c105, c106, c107, c108, c109, c110, c111, c112, c113, c114, c115, c116, c117, c118, c119, c120, c121, c122, c123, c124, c125, c126, c127, c128, c129, c130, c131], []⟩ W := by
 have HN := hidX hN
 have HR := hidX hR
 have HL := hidX (largeImg_any I hfl hwl hnl adf adw cf cw hF)
 have b0 : W.cell? ⟨w.heap.size, 0, none⟩ = some (.slice adf I.funs.length cf) := cell_of_blk hbox 0
 have b1 : W.cell? ⟨w.heap.size, 1, none⟩ = some (.slice adw I.words.length cw) := cell_of_blk hbox 1
 have hal' : (args.length : Int) ≤ 9223372036854775807 := by omega
 have hfl' : (I.funs.length : Int) ≤ 9223372036854775807 := by omega
 have hwl' : (I.words.length : Int) ≤ 9223372036854775807 := by omega
 have HBX := hidX hbox
 clear hN hR hfl hwl hnl hbox hF
 conv => arg 2; whnf
 go_wp2_with fail
 refine HL.out.mono ?_
 rintro e w1 ⟨b, rfl, hfew, hb⟩
 have HB := hidX hb
 have e0 : w1.cell? ⟨w.heap.size, 0, none⟩ = some (.slice adf I.funs.length cf) := cell_of_blk ((hb.block _ (heap_lt HBX.out)).trans HBX.out) 0
 have e1 : w1.cell? ⟨w.heap.size, 1, none⟩ = some (.slice adw I.words.length cw) := cell_of_blk ((hb.block _ (heap_lt HBX.out)).trans HBX.out) 1
 have HFE := hidX hfew
 clear hb b0 b1 hfew
 cases b with
 | true =>
  go_wp2
  exact HR.out _ _ _ _ _ _ _ _ _ _ _ _ _ _ _ _ _ _ _ _ _ _ _ _ _ _ _ _ _ _ _ _ _  _ rfl HB.out
 | false =>
  have HF := hidX (HFE.out (by first | rfl | trivial))
  clear HFE
  by_cases ha : args.length ≤ 8
  ·have ha' : ¬ (8 : Int) < (args.length : Int) := by omega
   by_cases hb : ¬ tk < 0
   ·by_cases hc : ¬ 60 < tk
    ·by_cases hd : I.funs.length < 8
     ·have hd' : ¬ (8 : Int) ≤ (I.funs.length : Int) := by omega
      by_cases he : I.words.length ≤ 200
      ·have he' : ¬ (200 : Int) < (I.words.length : Int) := by omega
       go_wp2
       exact HN.out _ _ _ _ _ _ _ _ _ _ _ _ _ _ _ _ _ _ _ _ _ _ _ _ _ _ _ _ _ _ _ _ _  _ HB.out HF.out ha hb hc hd he
      ·have he' : (200 : Int) < (I.words.length : Int) := by omega
       go_wp2
       exact HR.out _ _ _ _ _ _ _ _ _ _ _ _ _ _ _ _ _ _ _ _ _ _ _ _ _ _ _ _ _ _ _ _ _  _ rfl HB.out
     ·have hd' : (8 : Int) ≤ (I.funs.length : Int) := by omega
      go_wp2
      exact HR.out _ _ _ _ _ _ _ _ _ _ _ _ _ _ _ _ _ _ _ _ _ _ _ _ _ _ _ _ _ _ _ _ _  _ rfl HB.out
    ·have hc' : 60 < tk := by omega
     clear hc
     go_wp2
     exact HR.out _ _ _ _ _ _ _ _ _ _ _ _ _ _ _ _ _ _ _ _ _ _ _ _ _ _ _ _ _ _ _ _ _  _ rfl HB.out
   ·have hb' : tk < 0 := by omega
    clear hb
    go_wp2
    exact HR.out _ _ _ _ _ _ _ _ _ _ _ _ _ _ _ _ _ _ _ _ _ _ _ _ _ _ _ _ _ _ _ _ _  _ rfl HB.out
  ·have ha' : (8 : Int) < (args.length : Int) := by omega
   go_wp2
   exact HR.out _ _ _ _ _ _ _ _ _ _ _ _ _ _ _ _ _ _ _ _ _ _ _ _ _ _ _ _ _ _ _ _ _  _ rfl HB.out
set_option maxRecDepth 100000 in
set_option maxHeartbeats 4000000 in
theorem ma_4 {w W : World} {I : Im} {adf adw : Option Addr} {cf cw : Nat} {nm : List UInt8} {args : List Int} {aad : Option Addr} {ac : Nat} {tk : Int}  {c5 c6 c7 c8 c11 c12 c13 c14 c15 c16 c17 c18 c19 c20 c21 c22 c23 c24 c25 c26 c27 c28 c29 c30 c31 c32 c33 c34 c35 c36 c37 c38 c39 c40 c41 c42 c43 c44 c45 c46 c47 c48 c49 c50 c51 c52 c53 c54 c55 c56 c57 c58 c59 c60 c61 c62 c63 c64 c65 c66 c67 c68 c69 c70 c71 c72 c73 c74 c75 c76 c77 c78 c79 c80 c81 c82 c83 c84 c85 c86 c87 c88 c89 c90 c91 c92 c93 c94 c95 c96 c97 c98 c99 c100 c101 c102 c103 c104 c105 c106 c107 c108 c109 c110 c111 c112 c113 c114 c115 c116 c117 c118 c119 c120 c121 c122 c123 c124 c125 c126 c127 c128 c129 c130 c131 : Value} {u10 : Value} {Q : Exit → Act → World → Prop}
  (hN : Q .normal ⟨#[.agg #[.slice adf I.funs.length cf, .slice adw I.words.length cw], .string ⟨nm.toArray⟩, .slice aad args.length ac, .int .i64 tk, .pointer (some ⟨w.heap.size, 0, none⟩), c5, c6, c7, c8, .bool true, .int .i64 (-1), c11, c12, c13, c14, c15, c16, c17, c18, c19, c20, c21, c22, c23, c24, c25, c26, c27, c28, c29, c30, c31, c32, c33, c34, c35, c36, c37, c38, c39, c40, c41, c42, c43, c44, c45, c46, c47, c48, c49, c50, c51, c52, c53, c54, c55, c56, c57, c58, c59, c60, c61, c62, c63, c64, c65, c66, c67, c68, c69, c70, c71, c72, c73, c74, c75, c76, c77, c78, c79, c80, c81, c82, c83, c84, c85, c86, c87, c88, c89, c90, c91, c92, c93, c94, c95, c96, c97, c98, c99, c100, c101, c102, c103, c104, c105, c106, c107, c108, c109, c110, c111, c112, c113, c114, c115, c116, c117, c118, c119, c120, c121, c122, c123, c124, c125, c126, c127, c128, c129, c130, c131], []⟩ W) : Code.wp Tryd.prog ma4C Q ⟨#[.agg #[.slice adf I.funs.length cf, .slice adw I.words.length cw], .string ⟨nm.toArray⟩, .slice aad args.length ac, .int .i64 tk, .pointer (some ⟨w.heap.size, 0, none⟩), c5, c6, c7, c8, .bool true, u10, c11, c12, c13, c14, c15, c16, c17, c18, c19, c20, c21, c22, c23, c24, c25, c26, c27, c28, c29, c30, c31, c32, c33, c34, c35, c36, c37, c38, c39, c40, c41, c42, c43, c44, c45, c46, c47, c48, c49, c50, c51, c52, c53, c54, c55, c56, c57, c58, c59, c60, c61, c62, c63, c64, c65, c66, c67, c68, c69, c70, c71, c72, c73, c74, c75, c76, c77, c78, c79, c80, c81, c82, c83, c84, c85, c86, c87, c88, c89, c90, c91, c92, c93, c94, c95, c96, c97, c98, c99, c100, c101, c102, c103, c104, c105, c106, c107, c108, c109, c110, c111, c112, c113, c114, c115, c116, c117, c118, c119, c120, c121, c122, c123, c124, c125, c126, c127, c128, c129, c130, c131], []⟩ W := by
 have HN := hidX hN
 clear hN
 conv => arg 2; whnf
 go_wp2
 exact HN.out
theorem hzz {L : List Mf} {q : Nat} {fnm : List UInt8} {fp fs fe : Int} (h : ∀ f ∈ L.take q, f.name ≠ [122, 122]) {hq : q < L.length} (e : (⟨fnm, fp, fs, fe⟩ : Mf) = L[q]) (_hlt : q < L.length) (hz : ¬ fnm = [122, 122]) : ∀ f ∈ L.take (q + 1), f.name ≠ [122, 122] := fun f hf => by
 rw [List.take_succ_eq_append_getElem hq] at hf
 rcases List.mem_append.1 hf with hf | hf
 ·exact h f hf
 ·rw [List.mem_singleton.1 hf, ← e]; exact hz
set_option maxRecDepth 100000 in
set_option maxHeartbeats 4000000 in
theorem ma_5 {w W : World} {I : Im} {adf adw : Option Addr} {cf cw : Nat} {nm : List UInt8} {args : List Int} {aad : Option Addr} {ac : Nat} {tk : Int} (hfl : I.funs.length ≤ 12) (hbox : W.heap[w.heap.size]? = some (.cells #[.slice adf I.funs.length cf, .slice adw I.words.length cw] 25 (0, 0))) (hF : XMf (InH W) W (.slice adf I.funs.length cf) I.funs) {c5 c6 c7 c12 c13 c14 c15 c16 c17 c18 c19 c20 c21 c22 c23 c24 c25 c26 c27 c28 c29 c30 c31 c32 c33 c34 c35 c36 c37 c38 c39 c40 c41 c42 c43 c44 c45 c46 c47 c48 c72 c73 c74 c75 c76 c77 c78 c79 c80 c81 c82 c83 c84 c85 c86 c87 c88 c89 c90 c91 c92 c93 c94 c95 c96 c97 c98 c99 c100 c101 c102 c103 c104 c105 c106 c107 c108 c109 c110 c111 c112 c113 c114 c115 c116 c117 c118 c119 c120 c121 c122 c123 c124 c125 c126 c127 c128 c129 c130 c131 : Value} {u8 u11 u49 u50 u51 u52 u53 u54 u55 u56 u57 u58 u59 u60 u61 u62 u63 u64 u65 u66 u67 u68 u69 u70 u71 : Value} {Q : Exit → Act → World → Prop}
  (hN : ∀ (u8 u11 u49 u50 u51 u52 u53 u54 u55 u56 u57 u58 u59 u60 u61 u62 u63 u64 u65 u66 u67 u68 u69 u70 u71 : Value), (∀ f ∈ I.funs, f.name ≠ [122, 122]) → Q .normal ⟨#[.agg #[.slice adf I.funs.length cf, .slice adw I.words.length cw], .string ⟨nm.toArray⟩, .slice aad args.length ac, .int .i64 tk, .pointer (some ⟨w.heap.size, 0, none⟩), c5, c6, c7, u8, .bool true, .int .i64 (lastM nm 0 I.funs (-1)), u11, c12, c13, c14, c15, c16, c17, c18, c19, c20, c21, c22, c23, c24, c25, c26, c27, c28, c29, c30, c31, c32, c33, c34, c35, c36, c37, c38, c39, c40, c41, c42, c43, c44, c45, c46, c47, c48, u49, u50, u51, u52, u53, u54, u55, u56, u57, u58, u59, u60, u61, u62, u63, u64, u65, u66, u67, u68, u69, u70, u71, c72, c73, c74, c75, c76, c77, c78, c79, c80, c81, c82, c83, c84, c85, c86, c87, c88, c89, c90, c91, c92, c93, c94, c95, c96, c97, c98, c99, c100, c101, c102, c103, c104, c105, c106, c107, c108, c109, c110, c111, c112, c113, c114, c115, c116, c117, c118, c119, c120, c121, c122, c123, c124, c125, c126, c127, c128, c129, c130, c131], []⟩ W)
  (hR : ∀ (u8 u10 u11 u49 u50 u51 u52 u53 u54 u55 u56 u57 u58 u59 u60 u61 u62 u63 u64 u65 u66 u67 u68 u69 u70 u71 : Value), u8 = .bool true → Q .ret ⟨#[.agg #[.slice adf I.funs.length cf, .slice adw I.words.length cw], .string ⟨nm.toArray⟩, .slice aad args.length ac, .int .i64 tk, .pointer (some ⟨w.heap.size, 0, none⟩), c5, c6, c7, u8, .bool true, u10, u11, c12, c13, c14, c15, c16, c17, c18, c19, c20, c21, c22, c23, c24, c25, c26, c27, c28, c29, c30, c31, c32, c33, c34, c35, c36, c37, c38, c39, c40, c41, c42, c43, c44, c45, c46, c47, c48, u49, u50, u51, u52, u53, u54, u55, u56, u57, u58, u59, u60, u61, u62, u63, u64, u65, u66, u67, u68, u69, u70, u71, c72, c73, c74, c75, c76, c77, c78, c79, c80, c81, c82, c83, c84, c85, c86, c87, c88, c89, c90, c91, c92, c93, c94, c95, c96, c97, c98, c99, c100, c101, c102, c103, c104, c105, c106, c107, c108, c109, c110, c111, c112, c113, c114, c115, c116, c117, c118, c119, c120, c121, c122, c123, c124, c125, c126, c127, c128, c129, c130, c131], []⟩ W) : Code.wp Tryd.prog ma5C Q ⟨#[.agg #[.slice adf I.funs.length cf, .slice adw I.words.length cw], .string ⟨nm.toArray⟩, .slice aad args.length ac, .int .i64 tk, .pointer (some ⟨w.heap.size, 0, none⟩), c5, c6, c7, u8, .bool true, .int .i64 (-1), u11, c12, c13, c14, c15, c16, c17, c18, c19, c20, c21, c22, c23, c24, c25, c26, c27, c28, c29, c30, c31, c32, c33, c34, c35, c36, c37, c38, c39, c40, c41, c42, c43, c44, c45, c46, c47, c48, u49, u50, u51, u52, u53, u54, u55, u56, u57, u58, u59, u60, u61, u62, u63, u64, u65, u66, u67, u68, u69, u70, u71, c72, c73, c74, c75, c76, c77, c78, c79, c80, c81, c82, c83, c84, c85, c86, c87, c88, c89, c90, c91, c92, c93, c94, c95, c96, c97, c98, c99, c100, c101, c102, c103, c104, c105, c106, c107, c108, c109, c110, c111, c112, c113, c114, c115, c116, c117, c118, c119, c120, c121, c122, c123, c124, c125, c126, c127, c128, c129, c130, c131], []⟩ W := by
 have HN := hidX hN
 have HR := hidX hR
 have b0 : W.cell? ⟨w.heap.size, 0, none⟩ = some (.slice adf I.funs.length cf) := cell_of_blk hbox 0
 have b1 : W.cell? ⟨w.heap.size, 1, none⟩ = some (.slice adw I.words.length cw) := cell_of_blk hbox 1
 have hfl' : (I.funs.length : Int) ≤ 12 := by omega
 have HF := hidX hF
 have HFL := hidX hfl
 clear hN hR hbox hF hfl b1
 conv => arg 2; whnf
 go_wp2_with fail
 go_loopw [10, 11] (fun v11 v12 wr => ∃ q : Nat, v11 = .int .i64 (lastM nm 0 (I.funs.take q) (-1)) ∧ v12 = .int .i64 (q : Int) ∧ q ≤ I.funs.length ∧ wr = W ∧ Hid (∀ f ∈ I.funs.take q, f.name ≠ [122, 122])) (fun _ v12 _ => I.funs.length - (intOf v12).toNat)
 case atStart => exact ⟨0, rfl, rfl, by omega, rfl, hidX (by simp)⟩
 case round =>
  obtain ⟨q, rfl, rfl, hq, rfl, HZ⟩ := hrel
  by_cases hlt : q < I.funs.length
  ·have hlt' : (q : Int) < (I.funs.length : Int) := by omega
   have hl12 := HFL.out
   obtain ⟨gf, off, rfl, hgf, k0, k1, k2, k3⟩ := HF.out.at hlt
   clear k1 k2 k3 hgf
   have HLT := hidX (lastM_take (nm := nm) hlt)
   obtain ⟨f, hfq⟩ : ∃ f, f = I.funs[q] := ⟨_, rfl⟩
   rw [← hfq] at k0 HLT
   have HQ := hidX hfq
   clear hfq
   obtain ⟨fnm, fp, fs, fe⟩ := f
   dsimp only at k0
   by_cases hn : fnm = nm
   ·have hn2 : (fnm == nm) = true := by simpa using hn
    have HE := hidX (HLT.out.trans (if_pos hn))
    clear hn HLT
    by_cases hz : fnm = [122, 122]
    ·have hz2 : (fnm == [122, 122]) = true := by simpa using hz
     clear hz
     generalize lastM nm 0 (I.funs.take q) (-1) = k
     go_wp2
     exact HR.out _ _ _ _ _ _ _ _ _ _ _ _ _ _ _ _ _ _ _ _ _ _ _ _ _ _ rfl
    ·have hz2 : (fnm == [122, 122]) = false := ne_lit hz
     have HZ2 := hidX (hzz (q := q) HZ.out HQ.out hlt hz)
     clear hz
     generalize lastM nm 0 (I.funs.take q) (-1) = k
     go_wp2
     go_roundw
     case rel => exact ⟨q + 1, by rw [HE.out], by go_num, by omega, by first | rfl | trivial, HZ2⟩
     all_goals (simp [intOf]; omega)
   ·have hn2 : (fnm == nm) = false := by simpa using hn
    have HE := hidX (HLT.out.trans (if_neg hn))
    clear hn HLT
    by_cases hz : fnm = [122, 122]
    ·have hz2 : (fnm == [122, 122]) = true := by simpa using hz
     clear hz
     go_wp2
     exact HR.out _ _ _ _ _ _ _ _ _ _ _ _ _ _ _ _ _ _ _ _ _ _ _ _ _ _ rfl
    ·have hz2 : (fnm == [122, 122]) = false := ne_lit hz
     have HZ2 := hidX (hzz (q := q) HZ.out HQ.out hlt hz)
     clear hz
     go_wp2
     go_roundw
     case rel => exact ⟨q + 1, by rw [HE.out], by go_num, by omega, by first | rfl | trivial, HZ2⟩
     all_goals (simp [intOf]; omega)
  ·have hqe : q = I.funs.length := by omega
   subst hqe
   have hnlt : ¬ ((I.funs.length : Int) < (I.funs.length : Int)) := by omega
   have HTK := hidX (show I.funs.take I.funs.length = I.funs from List.take_length)
   have HZ2 := hidX (fun f hf => HZ.out f (by rw [HTK.out]; exact hf))
   clear hlt hq
   rw [HTK.out]
   go_wp2
   exact HN.out _ _ _ _ _ _ _ _ _ _ _ _ _ _ _ _ _ _ _ _ _ _ _ _ _  HZ2.out
noncomputable def ma12C : Code := fstC ((Tryd.f5.body.bind (fromOf 12)).getD .skip)
set_option maxRecDepth 100000 in
set_option maxHeartbeats 4000000 in
theorem ma_12 {w W : World} {I : Im} {adf adw : Option Addr} {cf cw : Nat} {nm : List UInt8} {args : List Int} {aad : Option Addr} {ac : Nat} {tk : Int} {k : Int} (hfl : I.funs.length ≤ 100000) (hwl : I.words.length ≤ 100000) (hwv : ∀ v ∈ I.words, v < 18446744073709551616) (hbox : W.heap[w.heap.size]? = some (.cells #[.slice adf I.funs.length cf, .slice adw I.words.length cw] 25 (0, 0))) (hF : XMf (InH W) W (.slice adf I.funs.length cf) I.funs) (hWd : XRow (InH W) W (.slice adw I.words.length cw) I.words.length (wosV I.words)) {c5 c6 c7 c11 c12 c13 c14 c15 c16 c17 c18 c19 c20 c21 c22 c23 c24 c25 c26 c27 c28 c29 c30 c31 c32 c33 c34 c35 c36 c37 c38 c39 c40 c41 c42 c43 c44 c45 c46 c47 c48 c49 c50 c51 c52 c53 c54 c55 c56 c57 c58 c59 c60 c61 c62 c63 c64 c65 c66 c67 c68 c69 c70 c71 c80 c81 c82 c83 c84 c85 c86 c87 c88 c89 c90 c91 c92 c93 c94 c95 c96 c97 c98 c99 c100 c101 c102 c103 c104 c105 c106 c107 c108 c109 c110 c111 c112 c113 c114 c115 c116 c117 c118 c119 c120 c121 c122 c123 c124 c125 c126 c127 c128 c129 c130 c131 : Value} {u8 u72 u73 u74 u75 u76 u77 u78 u79 : Value} {Q : Exit → Act → World → Prop}
  (hN : ∀ (u8 u72 u73 u74 u75 u76 u77 u78 u79 : Value) (w1 : World), Below W.heap.size W w1 → (imF I).1 = 0 → ¬ k < 0 → Q .normal ⟨#[.agg #[.slice adf I.funs.length cf, .slice adw I.words.length cw], .string ⟨nm.toArray⟩, .slice aad args.length ac, .int .i64 tk, .pointer (some ⟨w.heap.size, 0, none⟩), c5, c6, c7, u8, .bool true, .int .i64 k, c11, c12, c13, c14, c15, c16, c17, c18, c19, c20, c21, c22, c23, c24, c25, c26, c27, c28, c29, c30, c31, c32, c33, c34, c35, c36, c37, c38, c39, c40, c41, c42, c43, c44, c45, c46, c47, c48, c49, c50, c51, c52, c53, c54, c55, c56, c57, c58, c59, c60, c61, c62, c63, c64, c65, c66, c67, c68, c69, c70, c71, u72, u73, u74, u75, u76, u77, u78, u79, c80, c81, c82, c83, c84, c85, c86, c87, c88, c89, c90, c91, c92, c93, c94, c95, c96, c97, c98, c99, c100, c101, c102, c103, c104, c105, c106, c107, c108, c109, c110, c111, c112, c113, c114, c115, c116, c117, c118, c119, c120, c121, c122, c123, c124, c125, c126, c127, c128, c129, c130, c131], []⟩ w1)
  (hR : ∀ (u8 u72 u73 u74 u75 u76 u77 u78 u79 : Value) (w1 : World), u8 = .bool true → Below W.heap.size W w1 → Q .ret ⟨#[.agg #[.slice adf I.funs.length cf, .slice adw I.words.length cw], .string ⟨nm.toArray⟩, .slice aad args.length ac, .int .i64 tk, .pointer (some ⟨w.heap.size, 0, none⟩), c5, c6, c7, u8, .bool true, .int .i64 k, c11, c12, c13, c14, c15, c16, c17, c18, c19, c20, c21, c22, c23, c24, c25, c26, c27, c28, c29, c30, c31, c32, c33, c34, c35, c36, c37, c38, c39, c40, c41, c42, c43, c44, c45, c46, c47, c48, c49, c50, c51, c52, c53, c54, c55, c56, c57, c58, c59, c60, c61, c62, c63, c64, c65, c66, c67, c68, c69, c70, c71, u72, u73, u74, u75, u76, u77, u78, u79, c80, c81, c82, c83, c84, c85, c86, c87, c88, c89, c90, c91, c92, c93, c94, c95, c96, c97, c98, c99, c100, c101, c102, c103, c104, c105, c106, c107, c108, c109, c110, c111, c112, c113, c114, c115, c116, c117, c118, c119, c120, c121, c122, c123, c124, c125, c126, c127, c128, c129, c130, c131], []⟩ w1) : Code.wp Tryd.prog ma12C Q ⟨#[.agg #[.slice adf I.funs.length cf, .slice adw I.words.length cw], .string ⟨nm.toArray⟩, .slice aad args.length ac, .int .i64 tk, .pointer (some ⟨w.heap.size, 0, none⟩), c5, c6, c7, u8, .bool true, .int .i64 k, c11, c12, c13, c14, c15, c16, c17, c18, c19, c20, c21, c22, c23, c24, c25, c26, c27, c28, c29, c30, c31, c32, c33, c34, c35, c36, c37, c38, c39, c40, c41, c42, c43, c44, c45, c46, c47, c48, c49, c50, c51, c52, c53, c54, c55, c56, c57, c58, c59, c60, c61, c62, c63, c64, c65, c66, c67, c68, c69, c70, c71, u72, u73, u74, u75, u76, u77, u78, u79, c80, c81, c82, c83, c84, c85, c86, c87, c88, c89, c90, c91, c92, c93, c94, c95, c96, c97, c98, c99, c100, c101, c102, c103, c104, c105, c106, c107, c108, c109, c110, c111, c112, c113, c114, c115, c116, c117, c118, c119, c120, c121, c122, c123, c124, c125, c126, c127, c128, c129, c130, c131], []⟩ W := by
 have HN := hidX hN
 have HR := hidX hR
 have HI := hidX (rImage_any I hwv hfl hwl adf adw cf cw hF hWd)
 have b0 : W.cell? ⟨w.heap.size, 0, none⟩ = some (.slice adf I.funs.length cf) := cell_of_blk hbox 0
 have b1 : W.cell? ⟨w.heap.size, 1, none⟩ = some (.slice adw I.words.length cw) := cell_of_blk hbox 1
 clear hN hR hfl hwl hwv hbox hF hWd
 conv => arg 2; whnf
 go_wp2_with fail
 refine HI.out.mono ?_
 rintro e w1 ⟨rfl, hb⟩
 have HB := hidX hb
 obtain ⟨c, hc⟩ : ∃ c, c = (imF I).1 := ⟨_, rfl⟩
 rw [← hc]
 have HC := hidX hc
 clear hb b0 b1 hc
 by_cases hc0 : c = 0
 ·have HZ := hidX (HC.out.symm.trans hc0)
  have hc1 : ¬ 0 < (c : Int) := by omega
  by_cases hk : k < 0
  ·clear hc0
   have hfd := fld_codeM (c : Int) (imF I).2 w1
   go_wp2
   exact HR.out _ _ _ _ _ _ _ _ _  _ rfl HB.out
  ·clear hc0
   have hfd := fld_codeM (c : Int) (imF I).2 w1
   go_wp2
   exact HN.out _ _ _ _ _ _ _ _ _  _ HB.out HZ.out hk
 ·have hc1 : 0 < (c : Int) := by omega
  clear hc0
  have hfd := fld_codeM (c : Int) (imF I).2 w1
  go_wp2
  exact HR.out _ _ _ _ _ _ _ _ _  _ rfl HB.out
end Go.Proofs.YtbcpomdcmilpjaaDoor
namespace Go.Proofs.YtbcpomdcmilpjaaDoor
open Go.RowKit
structure Xs (B : Nat) (W : World) (xb : Nat) (af : Option Addr) (nf c1 : Nat) (L : List Mf) (aw : Option Addr) (nw c2 : Nat) (V : List Nat) : Prop where
 box : W.heap[xb]? = some (.cells #[.slice af nf c1, .slice aw nw c2] 37 (0, 0))
 fu : W.ownsRow B 51 4 (.slice af nf c1) nf (L.flatMap mfC)
 wo : W.ownsRow B 52 1 (.slice aw nw c2) nw (wosV V)
 ap : ∀ b, (Value.slice aw nw c2).ownBlock = some b → (Value.slice af nf c1).ownBlock ≠ some b
 xf : (Value.slice af nf c1).ownBlock ≠ some xb
 xw : (Value.slice aw nw c2).ownBlock ≠ some xb
 lb : B ≤ xb
section
variable {B xb nf c1 nw c2 g4 cap4 : Nat} {W X w4 : World} {af aw : Option Addr} {L : List Mf} {V : List Nat}
theorem Xs.funs (h : Xs B W xb af nf c1 L aw nw c2 V) {z : Mf} (hX : Below W.heap.size W X) (hg : X.grownBy w4 (Value.slice af nf c1).ownBlock) (hown : w4.ownsRow B 51 4 (.slice (some ⟨g4, 0, none⟩) (nf + 1) cap4) (nf + 1) (L.flatMap mfC ++ mfC z)) (hl : (Value.slice af nf c1).ownBlock = some g4 ∨ g4 = X.heap.size) :
  Xs B (w4.setCell ⟨xb, 0, none⟩ (.slice (some ⟨g4, 0, none⟩) (nf + 1) cap4)) xb (some ⟨g4, 0, none⟩) (nf + 1) cap4 (L ++ [z]) aw nw c2 V ∧ Below B W (w4.setCell ⟨xb, 0, none⟩ (.slice (some ⟨g4, 0, none⟩) (nf + 1) cap4)) := by
 have hxl := heap_lt h.box
 have hXs := hX.size
 have hgs := hg.size
 have hlb := h.lb
 have hgx : g4 ≠ xb := by
  rcases hl with hl | hl
  ·exact fun e => h.xf (e ▸ hl)
  ·omega
 have keep : ∀ b, b < W.heap.size → (Value.slice af nf c1).ownBlock ≠ some b → w4.heap[b]? = W.heap[b]? := fun b hb hn => (hg.block b (by omega) (fun e => hn e.symm)).trans (hX.block b hb)
 have oth : ∀ b, b ≠ xb → (w4.setCell ⟨xb, 0, none⟩ (.slice (some ⟨g4, 0, none⟩) (nf + 1) cap4)).heap[b]? = w4.heap[b]? := fun b hb => Below.heap_setCell _ _ _ _ (show b ≠ xb from hb)
 have hbx := (keep xb hxl h.xf).trans h.box
 have hset := blk_setCell hbx 0 (.slice (some ⟨g4, 0, none⟩) (nf + 1) cap4)
 refine ⟨⟨by simpa using hset, ?_, ?_, ?_, ?_, h.xw, hlb⟩, ?_⟩
 ·have : (L ++ [z]).flatMap mfC = L.flatMap mfC ++ mfC z := by simp
  rw [this]
  refine own_same hown (fun b hb => oth b ?_)
  simp only [Value.ownBlock, Option.some.injEq] at hb
  omega
 ·refine own_same h.wo (fun b hb => ?_)
  have hb2 := h.wo.lt b hb
  exact (oth b (fun e => h.xw (e ▸ hb))).trans (keep b hb2.2 (h.ap b hb))
 ·intro b hb e
  simp only [Value.ownBlock, Option.some.injEq] at e
  have hb2 := h.wo.lt b hb
  rcases hl with hl | hl
  ·exact h.ap b hb (e ▸ hl)
  ·omega
 ·simp only [Value.ownBlock, ne_eq, Option.some.injEq]
  exact hgx
 ·refine ⟨hg.os.trans hX.os, hg.tape.trans hX.tape, hg.output.trans hX.output, by simp [World.setCell]; have := heap_lt h.box; omega, fun k hk => (oth k (by omega)).trans (keep k (by omega) (fun e => by have := (h.fu.lt k e).1; omega))⟩
theorem Xs.words (h : Xs B W xb af nf c1 L aw nw c2 V) {v : Nat} (hX : Below W.heap.size W X) (hg : X.grownBy w4 (Value.slice aw nw c2).ownBlock) (hown : w4.ownsRow B 52 1 (.slice (some ⟨g4, 0, none⟩) (nw + 1) cap4) (nw + 1) (wosV V ++ [.int .u64 (v : Int)])) (hl : (Value.slice aw nw c2).ownBlock = some g4 ∨ g4 = X.heap.size) :
  Xs B (w4.setCell ⟨xb, 1, none⟩ (.slice (some ⟨g4, 0, none⟩) (nw + 1) cap4)) xb af nf c1 L (some ⟨g4, 0, none⟩) (nw + 1) cap4 (V ++ [v]) ∧ Below B W (w4.setCell ⟨xb, 1, none⟩ (.slice (some ⟨g4, 0, none⟩) (nw + 1) cap4)) := by
 have hxl := heap_lt h.box
 have hXs := hX.size
 have hgs := hg.size
 have hlb := h.lb
 have hgx : g4 ≠ xb := by
  rcases hl with hl | hl
  ·exact fun e => h.xw (e ▸ hl)
  ·omega
 have keep : ∀ b, b < W.heap.size → (Value.slice aw nw c2).ownBlock ≠ some b → w4.heap[b]? = W.heap[b]? := fun b hb hn => (hg.block b (by omega) (fun e => hn e.symm)).trans (hX.block b hb)
 have oth : ∀ b, b ≠ xb → (w4.setCell ⟨xb, 1, none⟩ (.slice (some ⟨g4, 0, none⟩) (nw + 1) cap4)).heap[b]? = w4.heap[b]? := fun b hb => Below.heap_setCell _ _ _ _ (show b ≠ xb from hb)
 have hbx := (keep xb hxl h.xw).trans h.box
 have hset := blk_setCell hbx 1 (.slice (some ⟨g4, 0, none⟩) (nw + 1) cap4)
 refine ⟨⟨by simpa using hset, ?_, ?_, ?_, h.xf, ?_, hlb⟩, ?_⟩
 ·refine own_same h.fu (fun b hb => ?_)
  have hb2 := h.fu.lt b hb
  exact (oth b (fun e => h.xf (e ▸ hb))).trans (keep b hb2.2 (fun e => h.ap b e hb))
 ·have : wosV (V ++ [v]) = wosV V ++ [.int .u64 (v : Int)] := by simp [wosV]
  rw [this]
  refine own_same hown (fun b hb => oth b ?_)
  simp only [Value.ownBlock, Option.some.injEq] at hb
  omega
 ·intro b hb e
  simp only [Value.ownBlock, Option.some.injEq] at hb
  have hb2 := h.fu.lt b e
  rcases hl with hl | hl
  ·exact h.ap b (hb ▸ hl) e
  ·omega
 ·simp only [Value.ownBlock, ne_eq, Option.some.injEq]
  exact hgx
 ·refine ⟨hg.os.trans hX.os, hg.tape.trans hX.tape, hg.output.trans hX.output, by simp [World.setCell]; have := heap_lt h.box; omega, fun k hk => (oth k (by omega)).trans (keep k (by omega) (fun e => by have := (h.wo.lt k e).1; omega))⟩
end
theorem u64_one (v : Nat) : ∀ u ∈ ([.int .u64 (v : Int)] : List Value), u.oneCell' = true := by
 intro u hu
 simp only [List.mem_cons, List.not_mem_nil, or_false] at hu
 rcases hu with rfl; rfl
theorem zz_one : ∀ u ∈ ([.string ⟨#[122, 122]⟩, .int .i64 0, .int .i64 0, .int .i64 0] : List Value), u.oneCell' = true := by
 intro u hu
 simp only [List.mem_cons, List.not_mem_nil, or_false] at hu
 rcases hu with rfl | rfl | rfl | rfl <;> rfl
noncomputable def ma14C : Code := fstC ((Tryd.f5.body.bind (fromOf 14)).getD .skip)
set_option maxRecDepth 100000 in
set_option maxHeartbeats 4000000 in
theorem ma_14 {w W : World} {I : Im} {adf adw : Option Addr} {cf cw : Nat} {nm : List UInt8} {args : List Int} {aad : Option Addr} {ac q ta : Nat} (hfl : I.funs.length ≤ 8) (hql : q < I.funs.length) (hal : args.length ≤ 8) (hbox : W.heap[w.heap.size]? = some (.cells #[.slice adf I.funs.length cf, .slice adw I.words.length cw] 25 (0, 0))) (hF : XMf (InH W) W (.slice adf I.funs.length cf) I.funs) {c5 c6 c7 c11 c12 c13 c14 c15 c16 c17 c18 c19 c20 c21 c22 c23 c24 c25 c26 c27 c28 c29 c30 c31 c32 c33 c34 c35 c36 c37 c38 c39 c40 c41 c42 c43 c44 c45 c46 c47 c48 c49 c50 c51 c52 c53 c54 c55 c56 c57 c58 c59 c60 c61 c62 c63 c64 c65 c66 c67 c68 c69 c70 c71 c72 c73 c74 c75 c76 c77 c78 c79 c89 c90 c91 c92 c93 c94 c95 c96 c97 c98 c99 c100 c101 c102 c103 c104 c105 c106 c107 c108 c109 c110 c111 c112 c113 c114 c115 c116 c117 c118 c119 c120 c121 c122 c123 c124 c125 c126 c127 c128 c129 c130 c131 : Value} {u8 u80 u81 u82 u83 u84 u85 u86 u87 u88 : Value} {Q : Exit → Act → World → Prop}
  (hN : ∀ (u8 u80 u81 u82 u83 u84 u85 u86 u87 u88 : Value), (args.length : Int) = I.funs[q].params → Q .normal ⟨#[.agg #[.slice adf I.funs.length cf, .slice adw I.words.length cw], .string ⟨nm.toArray⟩, .slice aad args.length ac, .int .i64 (ta : Int), .pointer (some ⟨w.heap.size, 0, none⟩), c5, c6, c7, u8, .bool true, .int .i64 (q : Int), c11, c12, c13, c14, c15, c16, c17, c18, c19, c20, c21, c22, c23, c24, c25, c26, c27, c28, c29, c30, c31, c32, c33, c34, c35, c36, c37, c38, c39, c40, c41, c42, c43, c44, c45, c46, c47, c48, c49, c50, c51, c52, c53, c54, c55, c56, c57, c58, c59, c60, c61, c62, c63, c64, c65, c66, c67, c68, c69, c70, c71, c72, c73, c74, c75, c76, c77, c78, c79, u80, u81, u82, u83, u84, u85, u86, u87, u88, c89, c90, c91, c92, c93, c94, c95, c96, c97, c98, c99, c100, c101, c102, c103, c104, c105, c106, c107, c108, c109, c110, c111, c112, c113, c114, c115, c116, c117, c118, c119, c120, c121, c122, c123, c124, c125, c126, c127, c128, c129, c130, c131], []⟩ W)
  (hR : ∀ (u8 u80 u81 u82 u83 u84 u85 u86 u87 u88 : Value), u8 = .bool true → Q .ret ⟨#[.agg #[.slice adf I.funs.length cf, .slice adw I.words.length cw], .string ⟨nm.toArray⟩, .slice aad args.length ac, .int .i64 (ta : Int), .pointer (some ⟨w.heap.size, 0, none⟩), c5, c6, c7, u8, .bool true, .int .i64 (q : Int), c11, c12, c13, c14, c15, c16, c17, c18, c19, c20, c21, c22, c23, c24, c25, c26, c27, c28, c29, c30, c31, c32, c33, c34, c35, c36, c37, c38, c39, c40, c41, c42, c43, c44, c45, c46, c47, c48, c49, c50, c51, c52, c53, c54, c55, c56, c57, c58, c59, c60, c61, c62, c63, c64, c65, c66, c67, c68, c69, c70, c71, c72, c73, c74, c75, c76, c77, c78, c79, u80, u81, u82, u83, u84, u85, u86, u87, u88, c89, c90, c91, c92, c93, c94, c95, c96, c97, c98, c99, c100, c101, c102, c103, c104, c105, c106, c107, c108, c109, c110, c111, c112, c113, c114, c115, c116, c117, c118, c119, c120, c121, c122, c123, c124, c125, c126, c127, c128, c129, c130, c131], []⟩ W) : Code.wp Tryd.prog ma14C Q ⟨#[.agg #[.slice adf I.funs.length cf, .slice adw I.words.length cw], .string ⟨nm.toArray⟩, .slice aad args.length ac, .int .i64 (ta : Int), .pointer (some ⟨w.heap.size, 0, none⟩), c5, c6, c7, u8, .bool true, .int .i64 (q : Int), c11, c12, c13, c14, c15, c16, c17, c18, c19, c20, c21, c22, c23, c24, c25, c26, c27, c28, c29, c30, c31, c32, c33, c34, c35, c36, c37, c38, c39, c40, c41, c42, c43, c44, c45, c46, c47, c48, c49, c50, c51, c52, c53, c54, c55, c56, c57, c58, c59, c60, c61, c62, c63, c64, c65, c66, c67, c68, c69, c70, c71, c72, c73, c74, c75, c76, c77, c78, c79, u80, u81, u82, u83, u84, u85, u86, u87, u88, c89, c90, c91, c92, c93, c94, c95, c96, c97, c98, c99, c100, c101, c102, c103, c104, c105, c106, c107, c108, c109, c110, c111, c112, c113, c114, c115, c116, c117, c118, c119, c120, c121, c122, c123, c124, c125, c126, c127, c128, c129, c130, c131], []⟩ W := by
 have HN := hidX hN
 have HR := hidX hR
 have b0 : W.cell? ⟨w.heap.size, 0, none⟩ = some (.slice adf I.funs.length cf) := cell_of_blk hbox 0
 have b1 : W.cell? ⟨w.heap.size, 1, none⟩ = some (.slice adw I.words.length cw) := cell_of_blk hbox 1
 have hql' : (q : Int) < (I.funs.length : Int) := by omega
 have hfl' : (I.funs.length : Int) ≤ 8 := by omega
 have hal' : (args.length : Int) ≤ 8 := by omega
 obtain ⟨gf, off, rfl, hgf, k0, k1, k2, k3⟩ := hF.at hql
 obtain ⟨pp, hpp⟩ : ∃ pp, pp = I.funs[q].params := ⟨_, rfl⟩
 rw [← hpp] at k1
 have HPP := hidX hpp
 clear hpp k0 k2 k3 hgf hN hR hbox hF b1
 conv => arg 2; whnf
 by_cases hp : pp = (args.length : Int)
 ·have hp2 : (pp == (args.length : Int)) = true := by simpa using hp
  have HP2 := hidX hp
  clear hp
  go_wp2
  exact HN.out _ _ _ _ _ _ _ _ _ _  (by rw [← HPP.out]; exact HP2.out.symm)
 ·have hp2 : (pp == (args.length : Int)) = false := by simpa using hp
  clear hp
  go_wp2
  exact HR.out _ _ _ _ _ _ _ _ _ _  rfl
noncomputable def ma16C : Code := ((Tryd.f5.body.bind (regionOf 16)).getD .skip)
set_option maxRecDepth 100000 in
set_option maxHeartbeats 4000000 in
theorem ma_16 {w W : World} {I : Im} {adf adw : Option Addr} {cf cw : Nat} {nm : List UInt8} {args : List Int} {aad : Option Addr} {ac q ta : Nat} (hWell : WellI I) (hwv : ∀ v ∈ I.words, v < 18446744073709551616) (hql : q < I.funs.length) (h4 : args.length ≤ 4) (h64 : ∀ v ∈ args, In64 v) (hta : ta ≤ 60) (hbox : W.heap[w.heap.size]? = some (.cells #[.slice adf I.funs.length cf, .slice adw I.words.length cw] 25 (0, 0))) (hF : XMf (InH W) W (.slice adf I.funs.length cf) I.funs) (hWd : XRow (InH W) W (.slice adw I.words.length cw) I.words.length (wosV I.words)) (hargs : XRow (InH W) W (.slice aad args.length ac) args.length (intsG args)) {c5 c6 c7 c8 c11 c13 c14 c15 c16 c17 c18 c19 c20 c21 c22 c23 c24 c25 c26 c27 c28 c29 c30 c31 c32 c33 c34 c35 c36 c37 c38 c39 c40 c41 c42 c43 c44 c45 c46 c47 c48 c49 c50 c51 c52 c53 c54 c55 c56 c57 c58 c59 c60 c61 c62 c63 c64 c65 c66 c67 c68 c69 c70 c71 c72 c73 c74 c75 c76 c77 c78 c79 c80 c81 c82 c83 c84 c85 c86 c87 c88 c94 c95 c96 c97 c98 c99 c100 c101 c102 c103 c104 c105 c106 c107 c108 c109 c110 c111 c112 c113 c114 c115 c116 c117 c118 c119 c120 c121 c122 c123 c124 c125 c126 c127 c128 c129 c130 c131 : Value} {u12 u89 u90 u91 u92 u93 : Value} {Q : Exit → Act → World → Prop}
  (hN : ∀ (u89 u90 u91 u92 u93 : Value) (w1 : World) (wb : Nat) (how : List UInt8) (v : Int) (oad : Option Addr) (ocap : Nat) (g : Gm), Below W.heap.size W w1 → w1.heap[wb]? = some (.cells #[.string ⟨(how : List UInt8).toArray⟩, .int .i64 v, .slice oad g.out.length ocap, .int .i64 (g.ticks : Int)] 40 (0, 0)) → XRow (InH w1) w1 (.slice oad g.out.length ocap) g.out.length (intsG g.out) → g.out.length ≤ 1000 → EndO I ta 20000 (enterM I ta ⟨[], 0⟩ [] (q : Int) (four args) 0) how v g → Q .normal ⟨#[.agg #[.slice adf I.funs.length cf, .slice adw I.words.length cw], .string ⟨nm.toArray⟩, .slice aad args.length ac, .int .i64 (ta : Int), .pointer (some ⟨w.heap.size, 0, none⟩), c5, c6, c7, c8, .bool true, .int .i64 (q : Int), c11, .pointer (some ⟨wb, 0, none⟩), c13, c14, c15, c16, c17, c18, c19, c20, c21, c22, c23, c24, c25, c26, c27, c28, c29, c30, c31, c32, c33, c34, c35, c36, c37, c38, c39, c40, c41, c42, c43, c44, c45, c46, c47, c48, c49, c50, c51, c52, c53, c54, c55, c56, c57, c58, c59, c60, c61, c62, c63, c64, c65, c66, c67, c68, c69, c70, c71, c72, c73, c74, c75, c76, c77, c78, c79, c80, c81, c82, c83, c84, c85, c86, c87, c88, u89, u90, u91, u92, u93, c94, c95, c96, c97, c98, c99, c100, c101, c102, c103, c104, c105, c106, c107, c108, c109, c110, c111, c112, c113, c114, c115, c116, c117, c118, c119, c120, c121, c122, c123, c124, c125, c126, c127, c128, c129, c130, c131], []⟩ w1) : Code.wp Tryd.prog ma16C Q ⟨#[.agg #[.slice adf I.funs.length cf, .slice adw I.words.length cw], .string ⟨nm.toArray⟩, .slice aad args.length ac, .int .i64 (ta : Int), .pointer (some ⟨w.heap.size, 0, none⟩), c5, c6, c7, c8, .bool true, .int .i64 (q : Int), c11, u12, c13, c14, c15, c16, c17, c18, c19, c20, c21, c22, c23, c24, c25, c26, c27, c28, c29, c30, c31, c32, c33, c34, c35, c36, c37, c38, c39, c40, c41, c42, c43, c44, c45, c46, c47, c48, c49, c50, c51, c52, c53, c54, c55, c56, c57, c58, c59, c60, c61, c62, c63, c64, c65, c66, c67, c68, c69, c70, c71, c72, c73, c74, c75, c76, c77, c78, c79, c80, c81, c82, c83, c84, c85, c86, c87, c88, u89, u90, u91, u92, u93, c94, c95, c96, c97, c98, c99, c100, c101, c102, c103, c104, c105, c106, c107, c108, c109, c110, c111, c112, c113, c114, c115, c116, c117, c118, c119, c120, c121, c122, c123, c124, c125, c126, c127, c128, c129, c130, c131], []⟩ W := by
 have HN := hidX hN
 have b0 : W.cell? ⟨w.heap.size, 0, none⟩ = some (.slice adf I.funs.length cf) := cell_of_blk hbox 0
 have b1 : W.cell? ⟨w.heap.size, 1, none⟩ = some (.slice adw I.words.length cw) := cell_of_blk hbox 1
 have HMO := hidX (machOf_any (w := W) I hWell adf adw cf cw hF hWd hwv q hql args h4 h64 aad ac hargs ta 20000 (by omega) (by decide))
 clear hN hWell hwv h64 hbox hF hWd hargs
 conv => arg 2; whnf
 go_wp2_with fail
 refine HMO.out.mono ?_
 rintro e X2 ⟨how, v, ov, g, rfl, hb2, ho2, hol, hend⟩
 obtain ⟨oad, ocap, rfl⟩ := own_is ho2
 have HB := hidX hb2
 have HO := hidX ho2
 have HL := hidX hol
 have HE := hidX hend
 clear hb2 ho2 hol hend b0 b1
 go_wp2
 have hb3 : Below X2.heap.size X2 (X2.alloc (.cells #[.string ⟨(how : List UInt8).toArray⟩, .int .i64 v, .slice oad g.out.length ocap, .int .i64 (g.ticks : Int)] 40)) := by (repeat (first | exact Below.refl _ _ | assumption | refine Below.drew ?_ | refine bT ?_ _ | refine bS ?_ _ | refine bA ?_ _))
 exact HN.out _ _ _ _ _  _ X2.heap.size how v oad ocap g (bl_trans HB.out HB.out.size hb3) (heap_alloc_new _ _) ((xrow_own HO.out).imp (fun b hb => by have := hb3.size; unfold InH; omega) (fun b hb => hb3.block b hb.2)) HL.out HE.out
noncomputable def ma17C : Code := fstC ((Tryd.f5.body.bind (fromOf 17)).getD .skip)
set_option maxRecDepth 100000 in
set_option maxHeartbeats 4000000 in
theorem ma_17 {W : World} {wb : Nat} {how : List UInt8} (hw : W.cell? ⟨wb, 0, none⟩ = some (.string ⟨(how : List UInt8).toArray⟩)) {c0 c1 c2 c3 c4 c5 c6 c7 c9 c10 c11 c13 c14 c15 c16 c17 c18 c19 c20 c21 c22 c23 c24 c25 c26 c27 c28 c29 c30 c31 c32 c33 c34 c35 c36 c37 c38 c39 c40 c41 c42 c43 c44 c45 c46 c47 c48 c49 c50 c51 c52 c53 c54 c55 c56 c57 c58 c59 c60 c61 c62 c63 c64 c65 c66 c67 c68 c69 c70 c71 c72 c73 c74 c75 c76 c77 c78 c79 c80 c81 c82 c83 c84 c85 c86 c87 c88 c89 c90 c91 c92 c93 c102 c103 c104 c105 c106 c107 c108 c109 c110 c111 c112 c113 c114 c115 c116 c117 c118 c119 c120 c121 c122 c123 c124 c125 c126 c127 c128 c129 c130 c131 : Value} {u8 u94 u95 u96 u97 u98 u99 u100 u101 : Value} {Q : Exit → Act → World → Prop}
  (hN : ∀ (u8 u94 u95 u96 u97 u98 u99 u100 u101 : Value), how ≠ hLong → how ≠ hStuck → Q .normal ⟨#[c0, c1, c2, c3, c4, c5, c6, c7, u8, c9, c10, c11, .pointer (some ⟨wb, 0, none⟩), c13, c14, c15, c16, c17, c18, c19, c20, c21, c22, c23, c24, c25, c26, c27, c28, c29, c30, c31, c32, c33, c34, c35, c36, c37, c38, c39, c40, c41, c42, c43, c44, c45, c46, c47, c48, c49, c50, c51, c52, c53, c54, c55, c56, c57, c58, c59, c60, c61, c62, c63, c64, c65, c66, c67, c68, c69, c70, c71, c72, c73, c74, c75, c76, c77, c78, c79, c80, c81, c82, c83, c84, c85, c86, c87, c88, c89, c90, c91, c92, c93, u94, u95, u96, u97, u98, u99, u100, u101, c102, c103, c104, c105, c106, c107, c108, c109, c110, c111, c112, c113, c114, c115, c116, c117, c118, c119, c120, c121, c122, c123, c124, c125, c126, c127, c128, c129, c130, c131], []⟩ W)
  (hR : ∀ (u8 u94 u95 u96 u97 u98 u99 u100 u101 : Value), u8 = .bool true → Q .ret ⟨#[c0, c1, c2, c3, c4, c5, c6, c7, u8, c9, c10, c11, .pointer (some ⟨wb, 0, none⟩), c13, c14, c15, c16, c17, c18, c19, c20, c21, c22, c23, c24, c25, c26, c27, c28, c29, c30, c31, c32, c33, c34, c35, c36, c37, c38, c39, c40, c41, c42, c43, c44, c45, c46, c47, c48, c49, c50, c51, c52, c53, c54, c55, c56, c57, c58, c59, c60, c61, c62, c63, c64, c65, c66, c67, c68, c69, c70, c71, c72, c73, c74, c75, c76, c77, c78, c79, c80, c81, c82, c83, c84, c85, c86, c87, c88, c89, c90, c91, c92, c93, u94, u95, u96, u97, u98, u99, u100, u101, c102, c103, c104, c105, c106, c107, c108, c109, c110, c111, c112, c113, c114, c115, c116, c117, c118, c119, c120, c121, c122, c123, c124, c125, c126, c127, c128, c129, c130, c131], []⟩ W) : Code.wp Tryd.prog ma17C Q ⟨#[c0, c1, c2, c3, c4, c5, c6, c7, u8, c9, c10, c11, .pointer (some ⟨wb, 0, none⟩), c13, c14, c15, c16, c17, c18, c19, c20, c21, c22, c23, c24, c25, c26, c27, c28, c29, c30, c31, c32, c33, c34, c35, c36, c37, c38, c39, c40, c41, c42, c43, c44, c45, c46, c47, c48, c49, c50, c51, c52, c53, c54, c55, c56, c57, c58, c59, c60, c61, c62, c63, c64, c65, c66, c67, c68, c69, c70, c71, c72, c73, c74, c75, c76, c77, c78, c79, c80, c81, c82, c83, c84, c85, c86, c87, c88, c89, c90, c91, c92, c93, u94, u95, u96, u97, u98, u99, u100, u101, c102, c103, c104, c105, c106, c107, c108, c109, c110, c111, c112, c113, c114, c115, c116, c117, c118, c119, c120, c121, c122, c123, c124, c125, c126, c127, c128, c129, c130, c131], []⟩ W := by
 have HN := hidX hN
 have HR := hidX hR
 clear hN hR
 conv => arg 2; whnf
 by_cases h1 : how = hLong
 ·have hs : (how == [108, 111, 110, 103]) = true := by rw [h1]; rfl
  clear h1
  go_wp2
  exact HR.out _ _ _ _ _ _ _ _ _  rfl
 ·have hs : (how == [108, 111, 110, 103]) = false := ne_lit (show ¬ how = [108, 111, 110, 103] from h1)
  have H1 := hidX h1
  clear h1
  by_cases h2 : how = hStuck
  ·have hs2 : (how == [115, 116, 117, 99, 107]) = true := by rw [h2]; rfl
   clear h2
   go_wp2
   exact HR.out _ _ _ _ _ _ _ _ _  rfl
  ·have hs2 : (how == [115, 116, 117, 99, 107]) = false := ne_lit (show ¬ how = [115, 116, 117, 99, 107] from h2)
   have H2 := hidX h2
   clear h2
   go_wp2
   exact HN.out _ _ _ _ _ _ _ _ _  H1.out H2.out
noncomputable def ma19C : Code := ((Tryd.f5.body.bind (regionOf 19)).getD .skip)
set_option maxRecDepth 100000 in
set_option maxHeartbeats 4000000 in
theorem ma_19 {w W : World} {I : Im} {adf adw : Option Addr} {cf cw : Nat} (hfl : I.funs.length ≤ 12) (hwl : I.words.length ≤ 10000) (hbox : W.heap[w.heap.size]? = some (.cells #[.slice adf I.funs.length cf, .slice adw I.words.length cw] 25 (0, 0))) (hF : XMf (InH W) W (.slice adf I.funs.length cf) I.funs) (hWd : XRow (InH W) W (.slice adw I.words.length cw) I.words.length (wosV I.words)) {c0 c1 c2 c3 c5 c6 c7 c8 c9 c10 c11 c12 c14 c15 c16 c17 c18 c19 c20 c21 c22 c23 c24 c25 c26 c27 c28 c29 c30 c31 c32 c33 c34 c35 c36 c37 c38 c39 c40 c41 c42 c43 c44 c45 c46 c47 c48 c49 c50 c51 c52 c53 c54 c55 c56 c57 c58 c59 c60 c61 c62 c63 c64 c65 c66 c67 c68 c69 c70 c71 c72 c73 c74 c75 c76 c77 c78 c79 c80 c81 c82 c83 c84 c85 c86 c87 c88 c89 c90 c91 c92 c93 c94 c95 c96 c97 c98 c99 c100 c101 c104 c105 c106 c107 c108 c109 c110 c111 c112 c113 c114 c115 c116 c117 c118 c119 c120 c121 c122 c123 c124 c125 c126 c127 c128 c129 c130 c131 : Value} {u13 u102 u103 : Value} {Q : Exit → Act → World → Prop}
  (hN : ∀ (u102 u103 : Value) (w1 : World) (xb : Nat) (af aw : Option Addr) (k1 k2 : Nat), Below W.heap.size W w1 → Xs W.heap.size w1 xb af I.funs.length k1 I.funs aw I.words.length k2 I.words → Q .normal ⟨#[c0, c1, c2, c3, .pointer (some ⟨w.heap.size, 0, none⟩), c5, c6, c7, c8, c9, c10, c11, c12, .pointer (some ⟨xb, 0, none⟩), c14, c15, c16, c17, c18, c19, c20, c21, c22, c23, c24, c25, c26, c27, c28, c29, c30, c31, c32, c33, c34, c35, c36, c37, c38, c39, c40, c41, c42, c43, c44, c45, c46, c47, c48, c49, c50, c51, c52, c53, c54, c55, c56, c57, c58, c59, c60, c61, c62, c63, c64, c65, c66, c67, c68, c69, c70, c71, c72, c73, c74, c75, c76, c77, c78, c79, c80, c81, c82, c83, c84, c85, c86, c87, c88, c89, c90, c91, c92, c93, c94, c95, c96, c97, c98, c99, c100, c101, u102, u103, c104, c105, c106, c107, c108, c109, c110, c111, c112, c113, c114, c115, c116, c117, c118, c119, c120, c121, c122, c123, c124, c125, c126, c127, c128, c129, c130, c131], []⟩ w1) : Code.wp Tryd.prog ma19C Q ⟨#[c0, c1, c2, c3, .pointer (some ⟨w.heap.size, 0, none⟩), c5, c6, c7, c8, c9, c10, c11, c12, u13, c14, c15, c16, c17, c18, c19, c20, c21, c22, c23, c24, c25, c26, c27, c28, c29, c30, c31, c32, c33, c34, c35, c36, c37, c38, c39, c40, c41, c42, c43, c44, c45, c46, c47, c48, c49, c50, c51, c52, c53, c54, c55, c56, c57, c58, c59, c60, c61, c62, c63, c64, c65, c66, c67, c68, c69, c70, c71, c72, c73, c74, c75, c76, c77, c78, c79, c80, c81, c82, c83, c84, c85, c86, c87, c88, c89, c90, c91, c92, c93, c94, c95, c96, c97, c98, c99, c100, c101, u102, u103, c104, c105, c106, c107, c108, c109, c110, c111, c112, c113, c114, c115, c116, c117, c118, c119, c120, c121, c122, c123, c124, c125, c126, c127, c128, c129, c130, c131], []⟩ W := by
 have HN := hidX hN
 have HAS := hidX (asImage_any (w := W) I hfl hwl adf adw cf cw hF hWd)
 have b0 : W.cell? ⟨w.heap.size, 0, none⟩ = some (.slice adf I.funs.length cf) := cell_of_blk hbox 0
 have b1 : W.cell? ⟨w.heap.size, 1, none⟩ = some (.slice adw I.words.length cw) := cell_of_blk hbox 1
 clear hN hbox hF hWd hfl hwl
 conv => arg 2; whnf
 go_wp2_with fail
 refine HAS.out.mono ?_
 rintro e X ⟨af, k1, aw, k2, rfl, hbX, ho1, ho2, hap⟩
 have HBX := hidX hbX
 have H1 := hidX ho1
 have H2 := hidX ho2
 have HAP := hidX hap
 clear hbX ho1 ho2 hap b0 b1
 go_wp2
 have hb1 : Below X.heap.size X (X.alloc (.cells #[.slice af I.funs.length k1, .slice aw I.words.length k2] 37)) := by (repeat (first | exact Below.refl _ _ | assumption | refine Below.drew ?_ | refine bT ?_ _ | refine bS ?_ _ | refine bA ?_ _))
 refine HN.out _ _ _ X.heap.size af aw k1 k2 (bl_trans HBX.out HBX.out.size hb1) ⟨heap_alloc_new _ _, own_same H1.out (fun b hb => hb1.block b (H1.out.lt b hb).2), own_same H2.out (fun b hb => hb1.block b (H2.out.lt b hb).2), HAP.out, fun e => ?_, fun e => ?_, HBX.out.size⟩
 ·have := (H1.out.lt _ e).2; omega
 ·have := (H2.out.lt _ e).2; omega
noncomputable def ma20C : Code := ((Tryd.f5.body.bind (regionOf 20)).getD .skip)
set_option maxRecDepth 100000 in
set_option maxHeartbeats 4000000 in
theorem ma_20 {W : World} {B xb nf k1 nw k2 : Nat} {af aw : Option Addr} {L : List Mf} {V : List Nat} (hx : Xs B W xb af nf k1 L aw nw k2 V) (hl : nf ≤ 100) {c0 c1 c2 c3 c4 c5 c6 c7 c8 c9 c10 c11 c12 c14 c15 c16 c17 c18 c19 c20 c21 c22 c23 c24 c25 c26 c27 c28 c29 c30 c31 c32 c33 c34 c35 c36 c37 c38 c39 c40 c41 c42 c43 c44 c45 c46 c47 c48 c49 c50 c51 c52 c53 c54 c55 c56 c57 c58 c59 c60 c61 c62 c63 c64 c65 c66 c67 c68 c69 c70 c71 c72 c73 c74 c75 c76 c77 c78 c79 c80 c81 c82 c83 c84 c85 c86 c87 c88 c89 c90 c91 c92 c93 c94 c95 c96 c97 c98 c99 c100 c101 c102 c103 c110 c111 c112 c113 c114 c115 c116 c117 c118 c119 c120 c121 c122 c123 c124 c125 c126 c127 c128 c129 c130 c131 : Value} {u104 u105 u106 u107 u108 u109 : Value} {Q : Exit → Act → World → Prop}
  (hN : ∀ (u104 u105 u106 u107 u108 u109 : Value) (w1 : World) (af2 : Option Addr) (k3 : Nat), Below B W w1 → Xs B w1 xb af2 (nf + 1) k3 (L ++ [zzF]) aw nw k2 V → Q .normal ⟨#[c0, c1, c2, c3, c4, c5, c6, c7, c8, c9, c10, c11, c12, .pointer (some ⟨xb, 0, none⟩), c14, c15, c16, c17, c18, c19, c20, c21, c22, c23, c24, c25, c26, c27, c28, c29, c30, c31, c32, c33, c34, c35, c36, c37, c38, c39, c40, c41, c42, c43, c44, c45, c46, c47, c48, c49, c50, c51, c52, c53, c54, c55, c56, c57, c58, c59, c60, c61, c62, c63, c64, c65, c66, c67, c68, c69, c70, c71, c72, c73, c74, c75, c76, c77, c78, c79, c80, c81, c82, c83, c84, c85, c86, c87, c88, c89, c90, c91, c92, c93, c94, c95, c96, c97, c98, c99, c100, c101, c102, c103, u104, u105, u106, u107, u108, u109, c110, c111, c112, c113, c114, c115, c116, c117, c118, c119, c120, c121, c122, c123, c124, c125, c126, c127, c128, c129, c130, c131], []⟩ w1) : Code.wp Tryd.prog ma20C Q ⟨#[c0, c1, c2, c3, c4, c5, c6, c7, c8, c9, c10, c11, c12, .pointer (some ⟨xb, 0, none⟩), c14, c15, c16, c17, c18, c19, c20, c21, c22, c23, c24, c25, c26, c27, c28, c29, c30, c31, c32, c33, c34, c35, c36, c37, c38, c39, c40, c41, c42, c43, c44, c45, c46, c47, c48, c49, c50, c51, c52, c53, c54, c55, c56, c57, c58, c59, c60, c61, c62, c63, c64, c65, c66, c67, c68, c69, c70, c71, c72, c73, c74, c75, c76, c77, c78, c79, c80, c81, c82, c83, c84, c85, c86, c87, c88, c89, c90, c91, c92, c93, c94, c95, c96, c97, c98, c99, c100, c101, c102, c103, u104, u105, u106, u107, u108, u109, c110, c111, c112, c113, c114, c115, c116, c117, c118, c119, c120, c121, c122, c123, c124, c125, c126, c127, c128, c129, c130, c131], []⟩ W := by
 have HN := hidX hN
 have HX := hidX hx
 have x0 : W.cell? ⟨xb, 0, none⟩ = some (.slice af nf k1) := cell_of_blk hx.box 0
 have hxl := heap_lt hx.box
 have hlb := hx.lb
 have hl' : (nf : Int) ≤ 100 := by omega
 obtain ⟨i0, hi, hz0, hz1, hz2⟩ := info_parts efun_info
 clear hN hx
 conv => arg 2; whnf
 go_wp2_with (at_builtin; refine wpList_append_lies _ rfl _ _ 35 rfl B 51 i0 _ 4 40 Tryd.underlying35 hi hz0 hz1 hz2 rfl (by decide) (.slice af nf k1) nf (L.flatMap mfC) rfl (owns_below HX.out.fu (by (repeat (first | exact Below.refl _ _ | assumption | refine Below.drew ?_ | refine bT ?_ _ | refine bS ?_ _ | refine bA ?_ _)))) ⟨W.heap.size, 0, none⟩ 1 1 [.string ⟨#[122, 122]⟩, .int .i64 0, .int .i64 0, .int .i64 0] rfl rfl (World.news_of_block (heap_alloc_new W _)) zz_one (by decide) (by unfold maxLen; omega) (by omega) (by simp; omega) _ rfl ?_; intro g4 cap4 w4 hown4 hgrow hloc _; have hp4 : w4.heap[xb]? = _ := (hgrow.block xb (by simp; omega) (fun e => HX.out.xf e.symm)).trans ((show Below W.heap.size W _ by (repeat (first | exact Below.refl _ _ | assumption | refine Below.drew ?_ | refine bT ?_ _ | refine bS ?_ _ | refine bA ?_ _))).block xb hxl |>.trans HX.out.box); have f2 := free_of_blk hp4 0; have s2 : w4.cell? ⟨xb, 0, none⟩ = some (.slice af nf k1) := cell_of_blk hp4 0; clear hp4)
 have H := HX.out.funs (z := zzF) (show Below W.heap.size W _ by (repeat (first | exact Below.refl _ _ | assumption | refine Below.drew ?_ | refine bT ?_ _ | refine bS ?_ _ | refine bA ?_ _))) hgrow hown4 hloc
 exact HN.out _ _ _ _ _ _  _ _ _ H.2 H.1
noncomputable def ma21C : Code := ((Tryd.f5.body.bind (regionOf 21)).getD .skip)
set_option maxRecDepth 100000 in
set_option maxHeartbeats 4000000 in
theorem ma_21 {W : World} {B xb nf k1 nw k2 : Nat} {af aw : Option Addr} {L : List Mf} {V : List Nat} (hx : Xs B W xb af nf k1 L aw nw k2 V) (hl : nw ≤ 1000) {c0 c1 c2 c3 c4 c5 c6 c7 c8 c9 c10 c11 c12 c14 c15 c16 c17 c18 c19 c20 c21 c22 c23 c24 c25 c26 c27 c28 c29 c30 c31 c32 c33 c34 c35 c36 c37 c38 c39 c40 c41 c42 c43 c44 c45 c46 c47 c48 c49 c50 c51 c52 c53 c54 c55 c56 c57 c58 c59 c60 c61 c62 c63 c64 c65 c66 c67 c68 c69 c70 c71 c72 c73 c74 c75 c76 c77 c78 c79 c80 c81 c82 c83 c84 c85 c86 c87 c88 c89 c90 c91 c92 c93 c94 c95 c96 c97 c98 c99 c100 c101 c102 c103 c104 c105 c106 c107 c108 c109 c117 c118 c119 c120 c121 c122 c123 c124 c125 c126 c127 c128 c129 c130 c131 : Value} {u110 u111 u112 u113 u114 u115 u116 : Value} {Q : Exit → Act → World → Prop}
  (hP : ∀ c (a : Act) (d : Option Tmp) (v : Value) w, Q (.panic c) (a.put d v) w → Q (.panic c) a w)
  (hN : ∀ (u110 u111 u112 u113 u114 u115 u116 : Value) (w1 : World) (aw2 : Option Addr) (k3 : Nat), Below B W w1 → Xs B w1 xb af nf k1 L aw2 (nw + 1) k3 (V ++ [tkW]) → Q .normal ⟨#[c0, c1, c2, c3, c4, c5, c6, c7, c8, c9, c10, c11, c12, .pointer (some ⟨xb, 0, none⟩), c14, c15, c16, c17, c18, c19, c20, c21, c22, c23, c24, c25, c26, c27, c28, c29, c30, c31, c32, c33, c34, c35, c36, c37, c38, c39, c40, c41, c42, c43, c44, c45, c46, c47, c48, c49, c50, c51, c52, c53, c54, c55, c56, c57, c58, c59, c60, c61, c62, c63, c64, c65, c66, c67, c68, c69, c70, c71, c72, c73, c74, c75, c76, c77, c78, c79, c80, c81, c82, c83, c84, c85, c86, c87, c88, c89, c90, c91, c92, c93, c94, c95, c96, c97, c98, c99, c100, c101, c102, c103, c104, c105, c106, c107, c108, c109, u110, u111, u112, u113, u114, u115, u116, c117, c118, c119, c120, c121, c122, c123, c124, c125, c126, c127, c128, c129, c130, c131], []⟩ w1) : Code.wp Tryd.prog ma21C Q ⟨#[c0, c1, c2, c3, c4, c5, c6, c7, c8, c9, c10, c11, c12, .pointer (some ⟨xb, 0, none⟩), c14, c15, c16, c17, c18, c19, c20, c21, c22, c23, c24, c25, c26, c27, c28, c29, c30, c31, c32, c33, c34, c35, c36, c37, c38, c39, c40, c41, c42, c43, c44, c45, c46, c47, c48, c49, c50, c51, c52, c53, c54, c55, c56, c57, c58, c59, c60, c61, c62, c63, c64, c65, c66, c67, c68, c69, c70, c71, c72, c73, c74, c75, c76, c77, c78, c79, c80, c81, c82, c83, c84, c85, c86, c87, c88, c89, c90, c91, c92, c93, c94, c95, c96, c97, c98, c99, c100, c101, c102, c103, c104, c105, c106, c107, c108, c109, u110, u111, u112, u113, u114, u115, u116, c117, c118, c119, c120, c121, c122, c123, c124, c125, c126, c127, c128, c129, c130, c131], []⟩ W := by
 have HN := hidX hN
 have HX := hidX hx
 have HCS := hidX (show ∀ X : World, Below W.heap.size W X → X.cell? ⟨xb, 1, none⟩ = some (.slice aw nw k2) from fun X hb => cell_of_blk ((hb.block _ (heap_lt hx.box)).trans hx.box) 1)
 have HWO := hidX (fun X : World => rWordOf_any mTick (coNamed mTick).1 0 rfl (by decide) (by decide) X)
 have hxl := heap_lt hx.box
 have hlb := hx.lb
 have hl' : (nw : Int) ≤ 1000 := by omega
 obtain ⟨i0, hi, hz0, hz1, hz2⟩ := info_parts u64_info
 rw [show (coNamed mTick).1 * 72057594037927936 + 0 = tkW from rfl] at HWO
 clear hN hx
 conv => arg 2; whnf
 go_upto_region 21 with fail
 refine wp_region_V (fun W => W.cell? ⟨xb, 1, none⟩ = some (.slice aw nw k2)) 7 (by kernel_rfl) (HCS.out _ (by (repeat (first | exact Below.refl _ _ | assumption | refine Below.drew ?_ | refine bT ?_ _ | refine bS ?_ _ | refine bA ?_ _)))) (fun hHeld => ?_)
 refine wpAnyV_any 0 (some 110) (v := ?v0r2) rfl rfl (by kernel_rfl) (by kernel_rfl) (by kernel_rfl) (by kernel_rfl) (fun _ _ _ h => hP _ _ _ _ _ h) (Or.inl ⟨by rfl, ?hy0r2⟩) hHeld ?rest0r2
 case hy0r2 => (intro w2 hSw; (try dsimp only at hSw); first | (go_simp; done) | (go_simp; with_reducible rfl))
 simp only [Act.put, List.setIfInBounds_toArray, List.set_cons_zero, List.set_cons_succ]
 refine wpAnyV_put 1 (some 111) (v := ?v1r2) rfl rfl (by kernel_rfl) (by kernel_rfl) (by kernel_rfl) (by kernel_rfl) (by kernel_rfl) (fun _ _ _ h => hP _ _ _ _ _ h) (Or.inl ⟨by rfl, ?hy1r2⟩) hHeld ?rest1r2
 case hy1r2 => (intro w2 hSw; (try dsimp only at hSw); first | (go_simp; done) | (go_simp; with_reducible rfl))
 simp only [Act.put, List.setIfInBounds_toArray, List.set_cons_zero, List.set_cons_succ]
 refine wpAnyV_any 2 (some 112) (v := ?v2r2) rfl rfl (by kernel_rfl) (by kernel_rfl) (by kernel_rfl) (by kernel_rfl) (fun _ _ _ h => hP _ _ _ _ _ h) (Or.inl ⟨by rfl, ?hy2r2⟩) hHeld ?rest2r2
 case hy2r2 => (intro w2 hSw; (try dsimp only at hSw); first | (go_simp; done) | (go_simp; with_reducible rfl))
 simp only [Act.put, List.setIfInBounds_toArray, List.set_cons_zero, List.set_cons_succ]
 refine wpAnyV_one (i := 3) (by kernel_rfl) rfl (fun K3 hK3 => ?_)
 go_simp
 refine (HWO.out _).mono ?_
 rintro e X1 ⟨rfl, hb1⟩
 have hbx : Below W.heap.size W X1 := bl_trans (show Below W.heap.size W W.drew from by (repeat (first | exact Below.refl _ _ | assumption | refine Below.drew ?_ | refine bT ?_ _ | refine bS ?_ _ | refine bA ?_ _))) (Nat.le_refl _) hb1
 have hHeld := HCS.out _ hbx
 refine hK3.out _ _ (fun _ => hHeld) (fun _ => ?_)
 clear hK3 K3
 try simp only [Act.put, List.setIfInBounds_toArray, List.set_cons_zero, List.set_cons_succ]
 refine wpAnyV_one (i := 4) (by kernel_rfl) rfl (fun K4 hK4 => ?_)
 go_simp
 obtain ⟨X2, hX2⟩ : ∃ X2, X2 = X1.alloc (.cells #[.int .u64 (tkW : Int)] 52) := ⟨_, rfl⟩
 have hb2 : Below X1.heap.size X1 X2 := by rw [hX2]; (repeat (first | exact Below.refl _ _ | assumption | refine Below.drew ?_ | refine bT ?_ _ | refine bS ?_ _ | refine bA ?_ _))
 have hx2 : X2.heap[X1.heap.size]? = some (.cells #[.int .u64 (tkW : Int)] 52 (0, 0)) := by rw [hX2]; exact heap_alloc_new _ _
 rw [← hX2]
 clear hX2
 have hbx2 := bl_trans hbx hbx.size hb2
 have hHeld := HCS.out _ hbx2
 refine hK4.out _ _ (fun _ => hHeld) (fun _ => ?_)
 clear hK4 K4
 try simp only [Act.put, List.setIfInBounds_toArray, List.set_cons_zero, List.set_cons_succ]
 refine wpAnyV_one (i := 5) (by kernel_rfl) rfl (fun K5 hK5 => ?_)
 refine step_append_lies _ rfl (.tmp 111) (.tmp 114) 23 rfl B 52 i0 _ 1 8 Tryd.underlying23 hi hz0 hz1 hz2 rfl (by decide) (.slice aw nw k2) nw (wosV V) rfl (owns_below HX.out.wo hbx2) ⟨X1.heap.size, 0, none⟩ 1 1 [.int .u64 (tkW : Int)] rfl rfl (World.news_of_block hx2) (u64_one _) (by decide) (by unfold maxLen; omega) (by omega) (by have := hbx2.size; omega) _ rfl ?_
 intro g4 cap4 w4 hown4 hgrow hloc _
 change K5 (Act.put _ (some 115) _) w4
 have hp4 : w4.heap[xb]? = _ := (hgrow.block xb (by have := hbx2.size; omega) (fun e => HX.out.xw e.symm)).trans ((hbx2.block xb hxl).trans HX.out.box)
 have hHeld : w4.cell? ⟨xb, 1, none⟩ = some (.slice aw nw k2) := cell_of_blk hp4 1
 have f2 := free_of_blk hp4 1
 refine hK5.out _ _ (fun _ => hHeld) (fun _ => ?_)
 clear hK5 K5
 try simp only [Act.put, List.setIfInBounds_toArray]
 refine wpAnyV_any 6 (some 116) (v := ?v6r2) rfl rfl (by kernel_rfl) (by kernel_rfl) (by kernel_rfl) (by kernel_rfl) (fun _ _ _ h => hP _ _ _ _ _ h) (Or.inl ⟨by rfl, ?hy6r2⟩) hHeld ?rest6r2
 case hy6r2 => (intro w2 hSw; (try dsimp only at hSw); first | (go_simp; done) | (go_simp; with_reducible rfl))
 simp only [Act.put, List.setIfInBounds_toArray, List.set_cons_zero, List.set_cons_succ]
 refine wpAnyV_one (i := 7) (by kernel_rfl) rfl (fun K7 hK7 => ?_)
 go_simp
 refine hK7.out _ _ (fun h => absurd rfl h) (fun _ => ?_)
 clear hK7 K7 hHeld
 try simp only [Act.put, List.setIfInBounds_toArray, List.set_cons_zero, List.set_cons_succ]
 refine wpAnyV_done (by kernel_rfl) ?_ _
 go_wp2
 have H := HX.out.words (v := tkW) hbx2 hgrow hown4 hloc
 exact HN.out _ _ _ _ _ _ _  _ _ _ H.2 H.1
noncomputable def ma22C : Code := ((Tryd.f5.body.bind (regionOf 22)).getD .skip)
set_option maxRecDepth 100000 in
set_option maxHeartbeats 4000000 in
theorem ma_22 {W : World} {nm : List UInt8} {args : List Int} {aad : Option Addr} {ac ta xb : Nat} {xf xw : Value} {J : Im} {S0 : Sm} (hx : W.heap[xb]? = some (.cells #[xf, xw] 37 (0, 0))) (hR : Calls Tryd.prog 11 #[.agg #[xf, xw], .string ⟨nm.toArray⟩, .slice aad args.length ac, .int .i64 (ta : Int)] W fun e w1 => Below W.heap.size W w1 ∧ ∃ how v ov g, e = .returned (.tuple #[.agg #[.string ⟨(how : List UInt8).toArray⟩, .int .i64 v, ov, .int .i64 (g.ticks : Int)], .nilIface]) ∧ w1.ownsRow W.heap.size 3 1 ov g.out.length (intsG g.out) ∧ g.out.length ≤ 1000 ∧ EndM J ta S0 how v g) {c0 c4 c5 c6 c7 c8 c9 c10 c11 c12 c16 c17 c18 c19 c20 c21 c22 c23 c24 c25 c26 c27 c28 c29 c30 c31 c32 c33 c34 c35 c36 c37 c38 c39 c40 c41 c42 c43 c44 c45 c46 c47 c48 c49 c50 c51 c52 c53 c54 c55 c56 c57 c58 c59 c60 c61 c62 c63 c64 c65 c66 c67 c68 c69 c70 c71 c72 c73 c74 c75 c76 c77 c78 c79 c80 c81 c82 c83 c84 c85 c86 c87 c88 c89 c90 c91 c92 c93 c94 c95 c96 c97 c98 c99 c100 c101 c102 c103 c104 c105 c106 c107 c108 c109 c110 c111 c112 c113 c114 c115 c116 c125 c126 c127 c128 c129 c130 c131 : Value} {u14 u15 u117 u118 u119 u120 u121 u122 u123 u124 : Value} {Q : Exit → Act → World → Prop}
  (hN : ∀ (u117 u118 u119 u120 u121 u122 u123 u124 : Value) (w1 : World) (ob : Nat) (how : List UInt8) (v : Int) (oad : Option Addr) (ocap : Nat) (g : Gm), Below W.heap.size W w1 → w1.heap[ob]? = some (.cells #[.string ⟨(how : List UInt8).toArray⟩, .int .i64 v, .slice oad g.out.length ocap, .int .i64 (g.ticks : Int)] 40 (0, 0)) → XRow (InH w1) w1 (.slice oad g.out.length ocap) g.out.length (intsG g.out) → EndM J ta S0 how v g → Q .normal ⟨#[c0, .string ⟨nm.toArray⟩, .slice aad args.length ac, .int .i64 (ta : Int), c4, c5, c6, c7, c8, c9, c10, c11, c12, .pointer (some ⟨xb, 0, none⟩), .pointer (some ⟨ob, 0, none⟩), .nilIface, c16, c17, c18, c19, c20, c21, c22, c23, c24, c25, c26, c27, c28, c29, c30, c31, c32, c33, c34, c35, c36, c37, c38, c39, c40, c41, c42, c43, c44, c45, c46, c47, c48, c49, c50, c51, c52, c53, c54, c55, c56, c57, c58, c59, c60, c61, c62, c63, c64, c65, c66, c67, c68, c69, c70, c71, c72, c73, c74, c75, c76, c77, c78, c79, c80, c81, c82, c83, c84, c85, c86, c87, c88, c89, c90, c91, c92, c93, c94, c95, c96, c97, c98, c99, c100, c101, c102, c103, c104, c105, c106, c107, c108, c109, c110, c111, c112, c113, c114, c115, c116, u117, u118, u119, u120, u121, u122, u123, u124, c125, c126, c127, c128, c129, c130, c131], []⟩ w1) : Code.wp Tryd.prog ma22C Q ⟨#[c0, .string ⟨nm.toArray⟩, .slice aad args.length ac, .int .i64 (ta : Int), c4, c5, c6, c7, c8, c9, c10, c11, c12, .pointer (some ⟨xb, 0, none⟩), u14, u15, c16, c17, c18, c19, c20, c21, c22, c23, c24, c25, c26, c27, c28, c29, c30, c31, c32, c33, c34, c35, c36, c37, c38, c39, c40, c41, c42, c43, c44, c45, c46, c47, c48, c49, c50, c51, c52, c53, c54, c55, c56, c57, c58, c59, c60, c61, c62, c63, c64, c65, c66, c67, c68, c69, c70, c71, c72, c73, c74, c75, c76, c77, c78, c79, c80, c81, c82, c83, c84, c85, c86, c87, c88, c89, c90, c91, c92, c93, c94, c95, c96, c97, c98, c99, c100, c101, c102, c103, c104, c105, c106, c107, c108, c109, c110, c111, c112, c113, c114, c115, c116, u117, u118, u119, u120, u121, u122, u123, u124, c125, c126, c127, c128, c129, c130, c131], []⟩ W := by
 have HN := hidX hN
 have HR := hidX hR
 have x0 : W.cell? ⟨xb, 0, none⟩ = some xf := cell_of_blk hx 0
 have x1 : W.cell? ⟨xb, 1, none⟩ = some xw := cell_of_blk hx 1
 clear hN hR hx
 conv => arg 2; whnf
 go_wp2_with fail
 refine HR.out.mono ?_
 rintro e X2 ⟨hb2, how, v, ov, g, rfl, ho2, _, hend⟩
 obtain ⟨oad, ocap, rfl⟩ := own_is ho2
 have HB := hidX hb2
 have HO := hidX ho2
 have HE := hidX hend
 clear hb2 ho2 hend x0 x1
 go_wp2
 have hb3 : Below X2.heap.size X2 (X2.alloc (.cells #[.string ⟨(how : List UInt8).toArray⟩, .int .i64 v, .slice oad g.out.length ocap, .int .i64 (g.ticks : Int)] 40)) := by (repeat (first | exact Below.refl _ _ | assumption | refine Below.drew ?_ | refine bT ?_ _ | refine bS ?_ _ | refine bA ?_ _))
 exact HN.out _ _ _ _ _ _ _ _  _ X2.heap.size how v oad ocap g (bl_trans HB.out HB.out.size hb3) (heap_alloc_new _ _) ((xrow_own HO.out).imp (fun b hb => by have := hb3.size; unfold InH; omega) (fun b hb => hb3.block b hb.2)) HE.out
noncomputable def ma23C : Code := (Tryd.f5.body.bind (fromOf 23)).getD .skip
set_option maxRecDepth 100000 in
set_option maxHeartbeats 4000000 in
theorem ma_23 {W : World} {ob wb : Nat} {how : List UInt8} {v : Int} {oa wa : Option Addr} {oc wc t : Nat} {l : List Int} (ho : W.heap[ob]? = some (.cells #[.string ⟨(how : List UInt8).toArray⟩, .int .i64 v, .slice oa l.length oc, .int .i64 (t : Int)] 40 (0, 0))) (hw : W.heap[wb]? = some (.cells #[.string ⟨(how : List UInt8).toArray⟩, .int .i64 v, .slice wa l.length wc, .int .i64 (t : Int)] 40 (0, 0))) (hso : XRow (InH W) W (.slice oa l.length oc) l.length (intsG l)) (hsw : XRow (InH W) W (.slice wa l.length wc) l.length (intsG l)) (hl : l.length ≤ 1000) {c0 c1 c2 c3 c4 c5 c6 c7 c9 c10 c11 c13 c16 c17 c18 c19 c20 c21 c22 c23 c24 c25 c26 c27 c28 c29 c30 c31 c32 c33 c34 c35 c36 c37 c38 c39 c40 c41 c42 c43 c44 c45 c46 c47 c48 c49 c50 c51 c52 c53 c54 c55 c56 c57 c58 c59 c60 c61 c62 c63 c64 c65 c66 c67 c68 c69 c70 c71 c72 c73 c74 c75 c76 c77 c78 c79 c80 c81 c82 c83 c84 c85 c86 c87 c88 c89 c90 c91 c92 c93 c94 c95 c96 c97 c98 c99 c100 c101 c102 c103 c104 c105 c106 c107 c108 c109 c110 c111 c112 c113 c114 c115 c116 c117 c118 c119 c120 c121 c122 c123 c124 : Value} {u8 u125 u126 u127 u128 u129 u130 u131 : Value} {Q : Exit → Act → World → Prop}
  (hR : ∀ (u8 u125 u126 u127 u128 u129 u130 u131 : Value) (w1 : World), u8 = .bool true → Below W.heap.size W w1 → Q .ret ⟨#[c0, c1, c2, c3, c4, c5, c6, c7, u8, c9, c10, c11, .pointer (some ⟨wb, 0, none⟩), c13, .pointer (some ⟨ob, 0, none⟩), .nilIface, c16, c17, c18, c19, c20, c21, c22, c23, c24, c25, c26, c27, c28, c29, c30, c31, c32, c33, c34, c35, c36, c37, c38, c39, c40, c41, c42, c43, c44, c45, c46, c47, c48, c49, c50, c51, c52, c53, c54, c55, c56, c57, c58, c59, c60, c61, c62, c63, c64, c65, c66, c67, c68, c69, c70, c71, c72, c73, c74, c75, c76, c77, c78, c79, c80, c81, c82, c83, c84, c85, c86, c87, c88, c89, c90, c91, c92, c93, c94, c95, c96, c97, c98, c99, c100, c101, c102, c103, c104, c105, c106, c107, c108, c109, c110, c111, c112, c113, c114, c115, c116, c117, c118, c119, c120, c121, c122, c123, c124, u125, u126, u127, u128, u129, u130, u131], []⟩ w1) : Code.wp Tryd.prog ma23C Q ⟨#[c0, c1, c2, c3, c4, c5, c6, c7, u8, c9, c10, c11, .pointer (some ⟨wb, 0, none⟩), c13, .pointer (some ⟨ob, 0, none⟩), .nilIface, c16, c17, c18, c19, c20, c21, c22, c23, c24, c25, c26, c27, c28, c29, c30, c31, c32, c33, c34, c35, c36, c37, c38, c39, c40, c41, c42, c43, c44, c45, c46, c47, c48, c49, c50, c51, c52, c53, c54, c55, c56, c57, c58, c59, c60, c61, c62, c63, c64, c65, c66, c67, c68, c69, c70, c71, c72, c73, c74, c75, c76, c77, c78, c79, c80, c81, c82, c83, c84, c85, c86, c87, c88, c89, c90, c91, c92, c93, c94, c95, c96, c97, c98, c99, c100, c101, c102, c103, c104, c105, c106, c107, c108, c109, c110, c111, c112, c113, c114, c115, c116, c117, c118, c119, c120, c121, c122, c123, c124, u125, u126, u127, u128, u129, u130, u131], []⟩ W := by
 have HR := hidX hR
 have HSO := hidX (sameOut_m how v t l (by omega) W oa wa oc wc hso hsw)
 have o0 : W.cell? ⟨ob, 0, none⟩ = some (.string ⟨how.toArray⟩) := cell_of_blk ho 0
 have o1 : W.cell? ⟨ob, 1, none⟩ = some (.int .i64 v) := cell_of_blk ho 1
 have o2 : W.cell? ⟨ob, 2, none⟩ = some (.slice oa l.length oc) := cell_of_blk ho 2
 have o3 : W.cell? ⟨ob, 3, none⟩ = some (.int .i64 (t : Int)) := cell_of_blk ho 3
 have w0 : W.cell? ⟨wb, 0, none⟩ = some (.string ⟨how.toArray⟩) := cell_of_blk hw 0
 have w1 : W.cell? ⟨wb, 1, none⟩ = some (.int .i64 v) := cell_of_blk hw 1
 have w2 : W.cell? ⟨wb, 2, none⟩ = some (.slice wa l.length wc) := cell_of_blk hw 2
 have w3 : W.cell? ⟨wb, 3, none⟩ = some (.int .i64 (t : Int)) := cell_of_blk hw 3
 clear hR ho hw hso hsw
 conv => arg 2; whnf
 go_wp2_with fail
 refine HSO.out.mono ?_
 rintro e w1 ⟨rfl, hb1⟩
 have HB := hidX hb1
 clear hb1 o0 o1 o2 o3 w0 w2 w3
 go_wp2
 exact HR.out _ _ _ _ _ _ _ _  _ rfl HB.out
end Go.Proofs.YtbcpomdcmilpjaaDoor
namespace Go.Proofs.YtbcpomdcmilpjaaDoor
open Go.RowKit
set_option maxRecDepth 100000 in
set_option maxHeartbeats 8000000 in
theorem machApart_any {w : World} {a : Nat → Addr} (hS : SenM w a) (hT : TabC w) (I : Im) (hfl : I.funs.length ≤ 9223372036854775807) (hwl : I.words.length ≤ 9223372036854775807) (hnl : ∀ f ∈ I.funs, f.name.length ≤ 9223372036854775807) (hwv : ∀ v ∈ I.words, v < 18446744073709551616) (adf adw : Option Addr) (cf cw : Nat) (hF : XMf (InH w) w (.slice adf I.funs.length cf) I.funs) (hWd : XRow (InH w) w (.slice adw I.words.length cw) I.words.length (wosV I.words))
  (nm : List UInt8) (_hnm : nm.length ≤ 9223372036854775807) (args : List Int) (hal : args.length ≤ 9223372036854775807) (h64 : ∀ v ∈ args, In64 v) (aad : Option Addr) (ac : Nat) (hargs : XRow (InH w) w (.slice aad args.length ac) args.length (intsG args)) (tk : Int) :
  Calls Tryd.prog 5 #[.agg #[.slice adf I.funs.length cf, .slice adw I.words.length cw], .string ⟨nm.toArray⟩, .slice aad args.length ac, .int .i64 tk] w fun e w' => e = .returned (.bool true) ∧ Below w.heap.size w w' := by
 go_enter Tryd.func5, Tryd.ntmps5
 have hb0 : Below w.heap.size w (w.alloc (.cells #[.slice adf I.funs.length cf, .slice adw I.words.length cw] 25)) := by (repeat (first | exact Below.refl _ _ | assumption | refine Below.drew ?_ | refine bT ?_ _ | refine bS ?_ _ | refine bA ?_ _))
 refine wp_seq (ma_0 ?_)
 intro u8
 refine wp_seq (ma_1 (hS.below hb0) (hT.below hb0) ?_)
 intro u16 w1 hb1
 have hx0 : (w.alloc (.cells #[.slice adf I.funs.length cf, .slice adw I.words.length cw] 25)).heap[w.heap.size]? = some (.cells #[.slice adf I.funs.length cf, .slice adw I.words.length cw] 25 (0, 0)) := heap_alloc_new _ _
 have hx1 := (hb1.block _ (heap_lt hx0)).trans hx0
 have hw1 := bl_trans hb0 hb0.size hb1
 refine wp_seq (ma_2 hfl hwl hnl hal hx1 (hF.imp (inH_up hw1) (keepH hw1)) ?_ ?_)
 rotate_left
 ·rintro u8 u17 u18 u19 u20 u21 u22 u23 u24 u25 u26 u27 u28 u29 u30 u31 u32 u33 u34 u35 u36 u37 u38 u39 u40 u41 u42 u43 u44 u45 u46 u47 u48 w2 rfl hb2
  (try simp only [Exit.then]); go_ret
  exact ⟨rfl, bl_trans hw1 hw1.size hb2⟩
 intro u8 u17 u18 u19 u20 u21 u22 u23 u24 u25 u26 u27 u28 u29 u30 u31 u32 u33 u34 u35 u36 u37 u38 u39 u40 u41 u42 u43 u44 u45 u46 u47 u48 w2 hb2 hfew ha8 ht0 ht1 hf8 hw200
 obtain ⟨ta, rfl⟩ : ∃ ta : Nat, tk = (ta : Int) := ⟨tk.toNat, by omega⟩
 have hw2 := bl_trans hw1 hw1.size hb2
 have hx2 := (hb2.block _ (heap_lt hx1)).trans hx1
 have hfl2 := hfew.funs
 refine wp_seq (ma_4 ?_)
 refine wp_seq (ma_5 hfl2 hx2 (hF.imp (inH_up hw2) (keepH hw2)) ?_ ?_)
 rotate_left
 ·rintro u8 u10 u11 u49 u50 u51 u52 u53 u54 u55 u56 u57 u58 u59 u60 u61 u62 u63 u64 u65 u66 u67 u68 u69 u70 u71 rfl
  (try simp only [Exit.then]); go_ret
  exact ⟨rfl, hw2⟩
 intro u8 u11 u49 u50 u51 u52 u53 u54 u55 u56 u57 u58 u59 u60 u61 u62 u63 u64 u65 u66 u67 u68 u69 u70 u71 hzz2
 refine wp_seq (ma_12 (by omega) (by omega) hwv hx2 (hF.imp (inH_up hw2) (keepH hw2)) (hWd.imp (inH_up hw2) (keepH hw2)) ?_ ?_)
 rotate_left
 ·rintro u8 u72 u73 u74 u75 u76 u77 u78 u79 w3 rfl hb3
  (try simp only [Exit.then]); go_ret
  exact ⟨rfl, bl_trans hw2 hw2.size hb3⟩
 intro u8 u72 u73 u74 u75 u76 u77 u78 u79 w3 hb3 hi0 hk0
 have hw3 := bl_trans hw2 hw2.size hb3
 have hx3 := (hb3.block _ (heap_lt hx2)).trans hx2
 have hWell := well_of hi0
 have hkw := last_which hi0 nm
 obtain ⟨q, hq⟩ : ∃ q : Nat, lastM nm 0 I.funs (-1) = (q : Int) := ⟨(lastM nm 0 I.funs (-1)).toNat, by omega⟩
 rw [hq] at hkw hk0 ⊢
 have hql : q < I.funs.length := by
  have := lastM_lt (nm := nm) I.funs 0 (-1) (by omega)
  omega
 refine wp_seq (ma_14 hWell.fl hql ha8 hx3 (hF.imp (inH_up hw3) (keepH hw3)) ?_ ?_)
 rotate_left
 ·rintro u8 u80 u81 u82 u83 u84 u85 u86 u87 u88 rfl
  (try simp only [Exit.then]); go_ret
  exact ⟨rfl, hw3⟩
 intro u8 u80 u81 u82 u83 u84 u85 u86 u87 u88 hpar
 have h4 : args.length ≤ 4 := by
  have := (hWell.funs _ (List.getElem_mem hql)).params
  omega
 refine wp_seq (ma_16 hWell hwv hql h4 h64 (by omega) hx3 (hF.imp (inH_up hw3) (keepH hw3)) (hWd.imp (inH_up hw3) (keepH hw3)) (hargs.imp (inH_up hw3) (keepH hw3)) ?_)
 intro u89 u90 u91 u92 u93 w4 wb how v oad ocap g hb4 hwb hxo hol hend
 have hw4 := bl_trans hw3 hw3.size hb4
 have hx4 := (hb4.block _ (heap_lt hx3)).trans hx3
 refine wp_seq (ma_17 (cell_of_blk hwb 0) ?_ ?_)
 rotate_left
 ·rintro u8 u94 u95 u96 u97 u98 u99 u100 u101 rfl
  (try simp only [Exit.then]); go_ret
  exact ⟨rfl, hw4⟩
 intro u8 u94 u95 u96 u97 u98 u99 u100 u101 hnl1 hns
 refine wp_seq (ma_19 hfl2 (by omega) hx4 (hF.imp (inH_up hw4) (keepH hw4)) (hWd.imp (inH_up hw4) (keepH hw4)) ?_)
 intro u102 u103 w5 xb af aw c1 c2 hb5 hxs
 refine wp_seq (ma_20 hxs (by omega) ?_)
 intro u104 u105 u106 u107 u108 u109 w6 af2 c3 hb6 hxs6
 refine wp_seq (ma_21 hxs6 (by omega) (fun _ _ d _ _ h => by cases d <;> exact h) ?_)
 intro u110 u111 u112 u113 u114 u115 u116 w7 aw2 c4 hb7 hxs7
 have hb47 := (hb5.trans hb6).trans hb7
 have hw7 : Below w.heap.size w w7 := bl_trans hw4 hw4.size hb47
 have hfm : (I.more zzF tkW).funs.length = I.funs.length + 1 := by simp [Im.more]
 have hwm : (I.more zzF tkW).words.length = I.words.length + 1 := by simp [Im.more]
 rw [← hfm, ← hwm] at hxs7
 have him := imF_more hi0 hf8 hw200 hzz2
 have hwq : whichM (I.more zzF tkW).funs nm = (q : Int) := which_more hkw.symm
 have hst : startM (I.more zzF tkW) nm args ta = enterM I ta ⟨[], 0⟩ [] (q : Int) (four args) 0 := by
  unfold startM
  rw [hwq]
  exact enter_more I zzF tkW ta ⟨[], 0⟩ [] (by simpa using hql) (four args) 0
 have hg : (runF (I.more zzF tkW) nm args.length (ta : Int)).1 = 0 := by
  unfold runF
  rw [if_neg (by rw [him]; decide), if_neg (by rw [hwq]; omega), if_neg (by rw [hwq, funAt_more I zzF tkW (by simpa using hql)]; simpa [funAt, hql] using hpar.symm), if_neg (by omega)]
 have hrun := mrun_any (hS.below hw7) (hT.below hw7) (I.more zzF tkW) (fun f hf => by
   rcases List.mem_append.1 (show f ∈ I.funs ++ [zzF] from hf) with hf | hf
   ·have := hfew.names f hf; omega
   ·rw [List.mem_singleton.1 hf]; decide) (fun v hv => by
   rcases List.mem_append.1 (show v ∈ I.words ++ [tkW] from hv) with hv | hv
   ·exact hwv v hv
   ·rw [List.mem_singleton.1 hv]; exact tkW_lt) (by omega) (by omega) af2 aw2 c3 c4 ((xrow_own hxs7.fu).imp (fun b hb => hb.2) (fun _ _ => rfl)) ((xrow_own hxs7.wo).imp (fun b hb => hb.2) (fun _ _ => rfl)) nm args aad ac (hargs.imp (inH_up hw7) (keepH hw7)) (ta : Int) hg
 rw [show ((ta : Int)).toNat = ta from rfl, hst] at hrun
 refine wp_seq (ma_22 (J := I.more zzF tkW) (S0 := enterM I ta ⟨[], 0⟩ [] (q : Int) (four args) 0) hxs7.box hrun ?_)
 intro u117 u118 u119 u120 u121 u122 u123 u124 w8 ob how2 v2 oad2 ocap2 g2 hb8 hob hxo2 he2
 obtain ⟨rfl, rfl, rfl⟩ := more_one hWell hend hnl1 hns he2
 have hb48 := bl_trans hb47 hb47.size hb8
 refine ma_23 hob ((hb48.block _ (heap_lt hwb)).trans hwb) hxo2 (hxo.imp (inH_up hb48) (keepH hb48)) hol ?_
 rintro u8 u125 u126 u127 u128 u129 u130 u131 w9 rfl hb9
 go_ret
 exact ⟨rfl, bl_trans hw4 hw4.size (bl_trans hb48 hb48.size hb9)⟩
end Go.Proofs.YtbcpomdcmilpjaaDoor
