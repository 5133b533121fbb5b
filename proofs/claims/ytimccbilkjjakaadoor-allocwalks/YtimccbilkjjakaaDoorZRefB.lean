/- Our own: texts joined: AlRef2, AlRef3. -/
import Derived.Test.YtimccbilkjjakaaDoorZAlRef1
import Derived.Test.YtimccbilkjjakaaDoorZBlOk
import Derived.Test.YtimccbilkjjakaaDoorZIsIns
import Derived.Test.YtimccbilkjjakaaDoorZBase
import Derived.Test.YtimccbilkjjakaaDoorZSetS
namespace Go.Proofs.YtimccbilkjjakaaDoor
open Go.RowKit
def hasL (k : List UInt8) : List UInt8 := if (ash k false).kind = [] then [] else if k = gTick then [45] else (if (ash k false).d then [100] else []) ++ (if (ash k false).a then [97] else []) ++ (if (ash k false).b then [98] else []) ++ (if (ash k false).num then [110] else []) ++ (if (ash k false).name then [115] else [])
set_option maxRecDepth 100000 in
theorem rHasL_0 (w : World) : Calls Tryd.prog 28 #[.string ⟨([112, 97, 114, 97, 109] : List UInt8).toArray⟩] w fun e w' => e = .returned (.string ⟨(hasL gParam).toArray⟩) ∧ w' = w := by
 go_enter Tryd.func28, Tryd.ntmps28
 go_wp2
 go_ret
 exact ⟨rfl, rfl⟩
set_option maxRecDepth 100000 in
theorem rHasL_1 (w : World) : Calls Tryd.prog 28 #[.string ⟨([99, 111, 110, 115, 116] : List UInt8).toArray⟩] w fun e w' => e = .returned (.string ⟨(hasL gConst).toArray⟩) ∧ w' = w := by
 go_enter Tryd.func28, Tryd.ntmps28
 go_wp2
 go_ret
 exact ⟨rfl, rfl⟩
set_option maxRecDepth 100000 in
theorem rHasL_2 (w : World) : Calls Tryd.prog 28 #[.string ⟨([111, 110, 101] : List UInt8).toArray⟩] w fun e w' => e = .returned (.string ⟨(hasL gOne).toArray⟩) ∧ w' = w := by
 go_enter Tryd.func28, Tryd.ntmps28
 go_wp2
 go_ret
 exact ⟨rfl, rfl⟩
set_option maxRecDepth 100000 in
theorem rHasL_3 (w : World) : Calls Tryd.prog 28 #[.string ⟨([116, 119, 111] : List UInt8).toArray⟩] w fun e w' => e = .returned (.string ⟨(hasL gTwo).toArray⟩) ∧ w' = w := by
 go_enter Tryd.func28, Tryd.ntmps28
 go_wp2
 go_ret
 exact ⟨rfl, rfl⟩
set_option maxRecDepth 100000 in
theorem rHasL_4 (w : World) : Calls Tryd.prog 28 #[.string ⟨([109, 111, 118, 101] : List UInt8).toArray⟩] w fun e w' => e = .returned (.string ⟨(hasL lMove).toArray⟩) ∧ w' = w := by
 go_enter Tryd.func28, Tryd.ntmps28
 go_wp2
 go_ret
 exact ⟨rfl, rfl⟩
set_option maxRecDepth 100000 in
theorem rHasL_5 (w : World) : Calls Tryd.prog 28 #[.string ⟨([108, 111, 97, 100] : List UInt8).toArray⟩] w fun e w' => e = .returned (.string ⟨(hasL lLoad).toArray⟩) ∧ w' = w := by
 go_enter Tryd.func28, Tryd.ntmps28
 go_wp2
 go_ret
 exact ⟨rfl, rfl⟩
set_option maxRecDepth 100000 in
theorem rHasL_6 (w : World) : Calls Tryd.prog 28 #[.string ⟨([115, 116, 111, 114, 101] : List UInt8).toArray⟩] w fun e w' => e = .returned (.string ⟨(hasL lStore).toArray⟩) ∧ w' = w := by
 go_enter Tryd.func28, Tryd.ntmps28
 go_wp2
 go_ret
 exact ⟨rfl, rfl⟩
set_option maxRecDepth 100000 in
theorem rHasL_7 (w : World) : Calls Tryd.prog 28 #[.string ⟨([97, 114, 103] : List UInt8).toArray⟩] w fun e w' => e = .returned (.string ⟨(hasL lArg).toArray⟩) ∧ w' = w := by
 go_enter Tryd.func28, Tryd.ntmps28
 go_wp2
 go_ret
 exact ⟨rfl, rfl⟩
set_option maxRecDepth 100000 in
theorem rHasL_8 (w : World) : Calls Tryd.prog 28 #[.string ⟨([99, 97, 108, 108] : List UInt8).toArray⟩] w fun e w' => e = .returned (.string ⟨(hasL gCall).toArray⟩) ∧ w' = w := by
 go_enter Tryd.func28, Tryd.ntmps28
 go_wp2
 go_ret
 exact ⟨rfl, rfl⟩
set_option maxRecDepth 100000 in
theorem rHasL_9 (w : World) : Calls Tryd.prog 28 #[.string ⟨([116, 105, 99, 107] : List UInt8).toArray⟩] w fun e w' => e = .returned (.string ⟨(hasL gTick).toArray⟩) ∧ w' = w := by
 go_enter Tryd.func28, Tryd.ntmps28
 go_wp2
 go_ret
 exact ⟨rfl, rfl⟩
set_option maxRecDepth 100000 in
theorem rHasL_10 (w : World) : Calls Tryd.prog 28 #[.string ⟨([112, 114, 105, 110, 116] : List UInt8).toArray⟩] w fun e w' => e = .returned (.string ⟨(hasL gPrint).toArray⟩) ∧ w' = w := by
 go_enter Tryd.func28, Tryd.ntmps28
 go_wp2
 go_ret
 exact ⟨rfl, rfl⟩
theorem ash_no {k : List UInt8} (h0 : k ≠ gParam) (h1 : k ≠ gConst) (h2 : k ≠ gOne) (h3 : k ≠ gTwo) (h4 : k ≠ lMove) (h5 : k ≠ lLoad) (h6 : k ≠ lStore) (h7 : k ≠ lArg) (h8 : k ≠ gCall) (h9 : k ≠ gTick) (h10 : k ≠ gPrint) : (ash k false).kind = [] := by
 refine Classical.byContradiction fun hc => ?_
 have := ash_ins hc
 rcases this with h | h | h | h | h | h | h | h | h | h | h
 ·exact h0 h
 ·exact h1 h
 ·exact h2 h
 ·exact h3 h
 ·exact h4 h
 ·exact h5 h
 ·exact h6 h
 ·exact h7 h
 ·exact h8 h
 ·exact h9 h
 ·exact h10 h
set_option maxRecDepth 100000 in
theorem rHasL_any (k : List UInt8) (w : World) : Calls Tryd.prog 28 #[.string ⟨k.toArray⟩] w fun e w' => e = .returned (.string ⟨(hasL k).toArray⟩) ∧ w' = w := by
 by_cases h0 : k = gParam
 ·subst h0; exact rHasL_0 w
 by_cases h1 : k = gConst
 ·subst h1; exact rHasL_1 w
 by_cases h2 : k = gOne
 ·subst h2; exact rHasL_2 w
 by_cases h3 : k = gTwo
 ·subst h3; exact rHasL_3 w
 by_cases h4 : k = lMove
 ·subst h4; exact rHasL_4 w
 by_cases h5 : k = lLoad
 ·subst h5; exact rHasL_5 w
 by_cases h6 : k = lStore
 ·subst h6; exact rHasL_6 w
 by_cases h7 : k = lArg
 ·subst h7; exact rHasL_7 w
 by_cases h8 : k = gCall
 ·subst h8; exact rHasL_8 w
 by_cases h9 : k = gTick
 ·subst h9; exact rHasL_9 w
 by_cases h10 : k = gPrint
 ·subst h10; exact rHasL_10 w
 have hz : hasL k = [] := if_pos (ash_no h0 h1 h2 h3 h4 h5 h6 h7 h8 h9 h10)
 rw [hz]
 have t0 : (k == [112, 97, 114, 97, 109]) = false := ne_lit h0
 have t1 : (k == [99, 111, 110, 115, 116]) = false := ne_lit h1
 have t2 : (k == [111, 110, 101]) = false := ne_lit h2
 have t3 : (k == [116, 119, 111]) = false := ne_lit h3
 have t4 : (k == [109, 111, 118, 101]) = false := ne_lit h4
 have t5 : (k == [108, 111, 97, 100]) = false := ne_lit h5
 have t6 : (k == [115, 116, 111, 114, 101]) = false := ne_lit h6
 have t7 : (k == [97, 114, 103]) = false := ne_lit h7
 have t8 : (k == [99, 97, 108, 108]) = false := ne_lit h8
 have t9 : (k == [116, 105, 99, 107]) = false := ne_lit h9
 have t10 : (k == [112, 114, 105, 110, 116]) = false := ne_lit h10
 clear hz h0 h1 h2 h3 h4 h5 h6 h7 h8 h9 h10
 go_enter Tryd.func28, Tryd.ntmps28
 go_wp2
 go_ret
 exact ⟨rfl, rfl⟩
theorem hasL_nil (k : List UInt8) : (hasL k == []) = ((ash k false).kind == []) := by
 by_cases h : (ash k false).kind = []
 ·rw [show hasL k = [] from if_pos h, h]
 ·have hr : ((ash k false).kind == []) = false := by simpa using h
  rw [hr]
  rcases ash_ins h with rfl | rfl | rfl | rfl | rfl | rfl | rfl | rfl | rfl | rfl | rfl <;> rfl
theorem hasL_len (k : List UInt8) : (hasL k).length ≤ 1000 := by
 by_cases h : (ash k false).kind = []
 ·rw [show hasL k = [] from if_pos h]; decide
 ·rcases ash_ins h with rfl | rfl | rfl | rfl | rfl | rfl | rfl | rfl | rfl | rfl | rfl <;> decide
theorem hasL_at {k : List UInt8} (h : (ash k false).kind ≠ []) : decide ((100 : UInt8) ∈ hasL k) = (ash k false).d ∧ decide ((97 : UInt8) ∈ hasL k) = (ash k false).a ∧ decide ((98 : UInt8) ∈ hasL k) = (ash k false).b ∧ decide ((110 : UInt8) ∈ hasL k) = (ash k false).num ∧ decide ((115 : UInt8) ∈ hasL k) = (ash k false).name := by
 rcases ash_ins h with rfl | rfl | rfl | rfl | rfl | rfl | rfl | rfl | rfl | rfl | rfl <;> exact ⟨rfl, rfl, rfl, rfl, rfl⟩
noncomputable def rl5C : Code := ((Tryd.f18.body.bind (regionOf 5)).getD .skip)
set_option maxRecDepth 100000 in
set_option maxHeartbeats 4000000 in
theorem rl5 {W : World} {xb : Nat} {hs k : List UInt8} {ob tb : Bool} (x0 : W.cell? ⟨xb, 0, none⟩ = some (.string ⟨k.toArray⟩)) {c0 c1 c2 c3 c5 c6 c10 c11 c12 c13 c14 c15 c16 c17 c18 c19 c20 c21 c22 c23 c24 c25 c26 c27 c28 c29 c50 c51 c52 c53 c54 c55 c56 c57 c58 c59 c60 c61 c62 c63 c64 c65 c66 c67 c68 c69 c70 c71 c72 c73 c74 c75 c76 c77 c78 c79 c80 c81 c82 c83 c84 c85 c86 c87 c88 c89 c90 c91 c92 c93 c94 c95 c96 c97 c98 c99 c100 c101 c102 c103 c104 c105 c106 c107 c108 c109 c110 c111 c112 c113 c114 c115 c116 c117 c118 c119 c120 c121 c122 c123 c124 c125 c126 c127 c128 c129 c130 c131 c132 c133 c134 c135 c136 c137 c138 c139 c140 c141 c142 c143 c144 c145 c146 c147 c148 c149 c150 c151 c152 c153 c154 : Value} {u30 u31 u32 u33 u34 u35 u36 u37 u38 u39 u40 u41 u42 u43 u44 u45 u46 u47 u48 u49 : Value} {Q : Exit → Act → World → Prop}
  (hN : ∀ (u30 u31 u32 u33 u34 u35 u36 u37 u38 u39 u40 u41 u42 u43 u44 u45 u46 u47 u48 : Value) (r : Bool) (w1 : World), r = (hs == [] || (k == [111, 110, 101] && !ob) || (k == [116, 119, 111] && !tb)) → Below W.heap.size W w1 → Q .normal ⟨#[c0, c1, c2, c3, .pointer (some ⟨xb, 0, none⟩), c5, c6, .string ⟨hs.toArray⟩, .bool ob, .bool tb, c10, c11, c12, c13, c14, c15, c16, c17, c18, c19, c20, c21, c22, c23, c24, c25, c26, c27, c28, c29, u30, u31, u32, u33, u34, u35, u36, u37, u38, u39, u40, u41, u42, u43, u44, u45, u46, u47, u48, .bool r, c50, c51, c52, c53, c54, c55, c56, c57, c58, c59, c60, c61, c62, c63, c64, c65, c66, c67, c68, c69, c70, c71, c72, c73, c74, c75, c76, c77, c78, c79, c80, c81, c82, c83, c84, c85, c86, c87, c88, c89, c90, c91, c92, c93, c94, c95, c96, c97, c98, c99, c100, c101, c102, c103, c104, c105, c106, c107, c108, c109, c110, c111, c112, c113, c114, c115, c116, c117, c118, c119, c120, c121, c122, c123, c124, c125, c126, c127, c128, c129, c130, c131, c132, c133, c134, c135, c136, c137, c138, c139, c140, c141, c142, c143, c144, c145, c146, c147, c148, c149, c150, c151, c152, c153, c154], []⟩ w1) : Code.wp Tryd.prog rl5C Q ⟨#[c0, c1, c2, c3, .pointer (some ⟨xb, 0, none⟩), c5, c6, .string ⟨hs.toArray⟩, .bool ob, .bool tb, c10, c11, c12, c13, c14, c15, c16, c17, c18, c19, c20, c21, c22, c23, c24, c25, c26, c27, c28, c29, u30, u31, u32, u33, u34, u35, u36, u37, u38, u39, u40, u41, u42, u43, u44, u45, u46, u47, u48, u49, c50, c51, c52, c53, c54, c55, c56, c57, c58, c59, c60, c61, c62, c63, c64, c65, c66, c67, c68, c69, c70, c71, c72, c73, c74, c75, c76, c77, c78, c79, c80, c81, c82, c83, c84, c85, c86, c87, c88, c89, c90, c91, c92, c93, c94, c95, c96, c97, c98, c99, c100, c101, c102, c103, c104, c105, c106, c107, c108, c109, c110, c111, c112, c113, c114, c115, c116, c117, c118, c119, c120, c121, c122, c123, c124, c125, c126, c127, c128, c129, c130, c131, c132, c133, c134, c135, c136, c137, c138, c139, c140, c141, c142, c143, c144, c145, c146, c147, c148, c149, c150, c151, c152, c153, c154], []⟩ W := by
 have HN := hidX hN
 clear hN
 conv => arg 2; whnf
 by_cases hh : hs = []
 ·have h1 : (hs == []) = true := by simpa using hh
  subst hh
  by_cases ho : k = [111, 110, 101]
  ·subst ho
   go_wp2
   exact HN.out _ _ _ _ _ _ _ _ _ _ _ _ _ _ _ _ _ _ _ _ _ (by simp) (by (repeat (first | exact Below.refl _ _ | assumption | refine Below.drew ?_ | refine bT ?_ _ | refine bS ?_ _ | refine bA ?_ _)))
  ·have h2 : (k == [111, 110, 101]) = false := by simpa using ho
   by_cases ht : k = [116, 119, 111]
   ·subst ht
    go_wp2
    exact HN.out _ _ _ _ _ _ _ _ _ _ _ _ _ _ _ _ _ _ _ _ _ (by simp) (by (repeat (first | exact Below.refl _ _ | assumption | refine Below.drew ?_ | refine bT ?_ _ | refine bS ?_ _ | refine bA ?_ _)))
   ·have h3 : (k == [116, 119, 111]) = false := by simpa using ht
    clear ho ht
    go_wp2
    exact HN.out _ _ _ _ _ _ _ _ _ _ _ _ _ _ _ _ _ _ _ _ _ (by simp) (by (repeat (first | exact Below.refl _ _ | assumption | refine Below.drew ?_ | refine bT ?_ _ | refine bS ?_ _ | refine bA ?_ _)))
 ·have h1 : (hs == []) = false := by simpa using hh
  by_cases ho : k = [111, 110, 101]
  ·subst ho
   cases ob
   ·
    go_wp2
    exact HN.out _ _ _ _ _ _ _ _ _ _ _ _ _ _ _ _ _ _ _ _ _ (by first | (simp; done) | (simp [hh]; done)) (by (repeat (first | exact Below.refl _ _ | assumption | refine Below.drew ?_ | refine bT ?_ _ | refine bS ?_ _ | refine bA ?_ _)))
   ·
    go_wp2
    exact HN.out _ _ _ _ _ _ _ _ _ _ _ _ _ _ _ _ _ _ _ _ _ (by first | (simp; done) | (simp [hh]; done)) (by (repeat (first | exact Below.refl _ _ | assumption | refine Below.drew ?_ | refine bT ?_ _ | refine bS ?_ _ | refine bA ?_ _)))
  ·have h2 : (k == [111, 110, 101]) = false := by simpa using ho
   by_cases ht : k = [116, 119, 111]
   ·subst ht
    cases tb
    ·
     go_wp2
     exact HN.out _ _ _ _ _ _ _ _ _ _ _ _ _ _ _ _ _ _ _ _ _ (by first | (simp; done) | (simp [hh]; done)) (by (repeat (first | exact Below.refl _ _ | assumption | refine Below.drew ?_ | refine bT ?_ _ | refine bS ?_ _ | refine bA ?_ _)))
    ·
     go_wp2
     exact HN.out _ _ _ _ _ _ _ _ _ _ _ _ _ _ _ _ _ _ _ _ _ (by first | (simp; done) | (simp [hh]; done)) (by (repeat (first | exact Below.refl _ _ | assumption | refine Below.drew ?_ | refine bT ?_ _ | refine bS ?_ _ | refine bA ?_ _)))
   ·have h3 : (k == [116, 119, 111]) = false := by simpa using ht
    have HT := hidX ht
    have HO := hidX ho
    clear ho ht
    go_wp2
    exact HN.out _ _ _ _ _ _ _ _ _ _ _ _ _ _ _ _ _ _ _ _ _ (by have a := HT.out; have b := HO.out; simp [hh, a, b]) (by (repeat (first | exact Below.refl _ _ | assumption | refine Below.drew ?_ | refine bT ?_ _ | refine bS ?_ _ | refine bA ?_ _)))
noncomputable def rl17C : Code := ((Tryd.f18.body.bind (regionOf 17)).getD .skip)
set_option maxRecDepth 100000 in
set_option maxHeartbeats 4000000 in
theorem rl17 {W : World} {d a b rd ra rb : Bool}  {c0 c1 c2 c3 c4 c5 c6 c7 c8 c9 c13 c14 c18 c19 c20 c21 c22 c23 c24 c25 c26 c27 c28 c29 c30 c31 c32 c33 c34 c35 c36 c37 c38 c39 c40 c41 c42 c43 c44 c45 c46 c47 c48 c49 c50 c51 c52 c53 c54 c55 c56 c57 c58 c59 c60 c61 c62 c63 c64 c65 c66 c67 c68 c69 c70 c90 c91 c92 c93 c94 c95 c96 c97 c98 c99 c100 c101 c102 c103 c104 c105 c106 c107 c108 c109 c110 c111 c112 c113 c114 c115 c116 c117 c118 c119 c120 c121 c122 c123 c124 c125 c126 c127 c128 c129 c130 c131 c132 c133 c134 c135 c136 c137 c138 c139 c140 c141 c142 c143 c144 c145 c146 c147 c148 c149 c150 c151 c152 c153 c154 : Value} {u71 u72 u73 u74 u75 u76 u77 u78 u79 u80 u81 u82 u83 u84 u85 u86 u87 u88 u89 : Value} {Q : Exit → Act → World → Prop}
  (hN : ∀ (u71 u72 u73 u74 u75 u76 u77 u78 u79 u80 u81 u82 u83 u84 u85 u86 u87 u88 : Value) (r : Bool) (w1 : World), r = ((d && !rd) || (a && !ra) || (b && !rb)) → Below W.heap.size W w1 → Q .normal ⟨#[c0, c1, c2, c3, c4, c5, c6, c7, c8, c9, .bool d, .bool a, .bool b, c13, c14, .bool rd, .bool ra, .bool rb, c18, c19, c20, c21, c22, c23, c24, c25, c26, c27, c28, c29, c30, c31, c32, c33, c34, c35, c36, c37, c38, c39, c40, c41, c42, c43, c44, c45, c46, c47, c48, c49, c50, c51, c52, c53, c54, c55, c56, c57, c58, c59, c60, c61, c62, c63, c64, c65, c66, c67, c68, c69, c70, u71, u72, u73, u74, u75, u76, u77, u78, u79, u80, u81, u82, u83, u84, u85, u86, u87, u88, .bool r, c90, c91, c92, c93, c94, c95, c96, c97, c98, c99, c100, c101, c102, c103, c104, c105, c106, c107, c108, c109, c110, c111, c112, c113, c114, c115, c116, c117, c118, c119, c120, c121, c122, c123, c124, c125, c126, c127, c128, c129, c130, c131, c132, c133, c134, c135, c136, c137, c138, c139, c140, c141, c142, c143, c144, c145, c146, c147, c148, c149, c150, c151, c152, c153, c154], []⟩ w1) : Code.wp Tryd.prog rl17C Q ⟨#[c0, c1, c2, c3, c4, c5, c6, c7, c8, c9, .bool d, .bool a, .bool b, c13, c14, .bool rd, .bool ra, .bool rb, c18, c19, c20, c21, c22, c23, c24, c25, c26, c27, c28, c29, c30, c31, c32, c33, c34, c35, c36, c37, c38, c39, c40, c41, c42, c43, c44, c45, c46, c47, c48, c49, c50, c51, c52, c53, c54, c55, c56, c57, c58, c59, c60, c61, c62, c63, c64, c65, c66, c67, c68, c69, c70, u71, u72, u73, u74, u75, u76, u77, u78, u79, u80, u81, u82, u83, u84, u85, u86, u87, u88, u89, c90, c91, c92, c93, c94, c95, c96, c97, c98, c99, c100, c101, c102, c103, c104, c105, c106, c107, c108, c109, c110, c111, c112, c113, c114, c115, c116, c117, c118, c119, c120, c121, c122, c123, c124, c125, c126, c127, c128, c129, c130, c131, c132, c133, c134, c135, c136, c137, c138, c139, c140, c141, c142, c143, c144, c145, c146, c147, c148, c149, c150, c151, c152, c153, c154], []⟩ W := by
 have HN := hidX hN
 clear hN
 conv => arg 2; whnf
 cases d
 ·cases a
  ·cases b
   ·go_wp2
    exact HN.out _ _ _ _ _ _ _ _ _ _ _ _ _ _ _ _ _ _ _ _ (by simp) (by (repeat (first | exact Below.refl _ _ | assumption | refine Below.drew ?_ | refine bT ?_ _ | refine bS ?_ _ | refine bA ?_ _)))
   ·cases rb
    ·go_wp2
     exact HN.out _ _ _ _ _ _ _ _ _ _ _ _ _ _ _ _ _ _ _ _ (by simp) (by (repeat (first | exact Below.refl _ _ | assumption | refine Below.drew ?_ | refine bT ?_ _ | refine bS ?_ _ | refine bA ?_ _)))
    ·go_wp2
     exact HN.out _ _ _ _ _ _ _ _ _ _ _ _ _ _ _ _ _ _ _ _ (by simp) (by (repeat (first | exact Below.refl _ _ | assumption | refine Below.drew ?_ | refine bT ?_ _ | refine bS ?_ _ | refine bA ?_ _)))
  ·cases ra
   ·go_wp2
    exact HN.out _ _ _ _ _ _ _ _ _ _ _ _ _ _ _ _ _ _ _ _ (by simp) (by (repeat (first | exact Below.refl _ _ | assumption | refine Below.drew ?_ | refine bT ?_ _ | refine bS ?_ _ | refine bA ?_ _)))
   ·cases b
    ·go_wp2
     exact HN.out _ _ _ _ _ _ _ _ _ _ _ _ _ _ _ _ _ _ _ _ (by simp) (by (repeat (first | exact Below.refl _ _ | assumption | refine Below.drew ?_ | refine bT ?_ _ | refine bS ?_ _ | refine bA ?_ _)))
    ·cases rb
     ·go_wp2
      exact HN.out _ _ _ _ _ _ _ _ _ _ _ _ _ _ _ _ _ _ _ _ (by simp) (by (repeat (first | exact Below.refl _ _ | assumption | refine Below.drew ?_ | refine bT ?_ _ | refine bS ?_ _ | refine bA ?_ _)))
     ·go_wp2
      exact HN.out _ _ _ _ _ _ _ _ _ _ _ _ _ _ _ _ _ _ _ _ (by simp) (by (repeat (first | exact Below.refl _ _ | assumption | refine Below.drew ?_ | refine bT ?_ _ | refine bS ?_ _ | refine bA ?_ _)))
 ·cases rd
  ·go_wp2
   exact HN.out _ _ _ _ _ _ _ _ _ _ _ _ _ _ _ _ _ _ _ _ (by simp) (by (repeat (first | exact Below.refl _ _ | assumption | refine Below.drew ?_ | refine bT ?_ _ | refine bS ?_ _ | refine bA ?_ _)))
  ·cases a
   ·cases b
    ·go_wp2
     exact HN.out _ _ _ _ _ _ _ _ _ _ _ _ _ _ _ _ _ _ _ _ (by simp) (by (repeat (first | exact Below.refl _ _ | assumption | refine Below.drew ?_ | refine bT ?_ _ | refine bS ?_ _ | refine bA ?_ _)))
    ·cases rb
     ·go_wp2
      exact HN.out _ _ _ _ _ _ _ _ _ _ _ _ _ _ _ _ _ _ _ _ (by simp) (by (repeat (first | exact Below.refl _ _ | assumption | refine Below.drew ?_ | refine bT ?_ _ | refine bS ?_ _ | refine bA ?_ _)))
     ·go_wp2
      exact HN.out _ _ _ _ _ _ _ _ _ _ _ _ _ _ _ _ _ _ _ _ (by simp) (by (repeat (first | exact Below.refl _ _ | assumption | refine Below.drew ?_ | refine bT ?_ _ | refine bS ?_ _ | refine bA ?_ _)))
   ·cases ra
    ·go_wp2
     exact HN.out _ _ _ _ _ _ _ _ _ _ _ _ _ _ _ _ _ _ _ _ (by simp) (by (repeat (first | exact Below.refl _ _ | assumption | refine Below.drew ?_ | refine bT ?_ _ | refine bS ?_ _ | refine bA ?_ _)))
    ·cases b
     ·go_wp2
      exact HN.out _ _ _ _ _ _ _ _ _ _ _ _ _ _ _ _ _ _ _ _ (by simp) (by (repeat (first | exact Below.refl _ _ | assumption | refine Below.drew ?_ | refine bT ?_ _ | refine bS ?_ _ | refine bA ?_ _)))
     ·cases rb
      ·go_wp2
       exact HN.out _ _ _ _ _ _ _ _ _ _ _ _ _ _ _ _ _ _ _ _ (by simp) (by (repeat (first | exact Below.refl _ _ | assumption | refine Below.drew ?_ | refine bT ?_ _ | refine bS ?_ _ | refine bA ?_ _)))
      ·go_wp2
       exact HN.out _ _ _ _ _ _ _ _ _ _ _ _ _ _ _ _ _ _ _ _ (by simp) (by (repeat (first | exact Below.refl _ _ | assumption | refine Below.drew ?_ | refine bT ?_ _ | refine bS ?_ _ | refine bA ?_ _)))
noncomputable def rl31C : Code := ((Tryd.f18.body.bind (regionOf 31)).getD .skip)
set_option maxRecDepth 100000 in
set_option maxHeartbeats 4000000 in
theorem rl31 {W : World} {xb : Nat} {n m : Int} (x4 : W.cell? ⟨xb, 4, none⟩ = some (.int .i64 n)) {c0 c1 c2 c3 c5 c6 c7 c8 c9 c10 c11 c12 c13 c14 c15 c16 c17 c19 c20 c21 c22 c23 c24 c25 c26 c27 c28 c29 c30 c31 c32 c33 c34 c35 c36 c37 c38 c39 c40 c41 c42 c43 c44 c45 c46 c47 c48 c49 c50 c51 c52 c53 c54 c55 c56 c57 c58 c59 c60 c61 c62 c63 c64 c65 c66 c67 c68 c69 c70 c71 c72 c73 c74 c75 c76 c77 c78 c79 c80 c81 c82 c83 c84 c85 c86 c87 c88 c89 c90 c91 c92 c93 c94 c95 c96 c97 c98 c99 c100 c101 c102 c103 c104 c114 c115 c116 c117 c118 c119 c120 c121 c122 c123 c124 c125 c126 c127 c128 c129 c130 c131 c132 c133 c134 c135 c136 c137 c138 c139 c140 c141 c142 c143 c144 c145 c146 c147 c148 c149 c150 c151 c152 c153 c154 : Value} {u105 u106 u107 u108 u109 u110 u111 u112 u113 : Value} {Q : Exit → Act → World → Prop}
  (hN : ∀ (u105 u106 u107 u108 u109 u110 u111 u112 : Value) (r : Bool) (w1 : World), r = (decide (n < 0) || decide (m ≤ n)) → Below W.heap.size W w1 → Q .normal ⟨#[c0, c1, c2, c3, .pointer (some ⟨xb, 0, none⟩), c5, c6, c7, c8, c9, c10, c11, c12, c13, c14, c15, c16, c17, .int .i64 m, c19, c20, c21, c22, c23, c24, c25, c26, c27, c28, c29, c30, c31, c32, c33, c34, c35, c36, c37, c38, c39, c40, c41, c42, c43, c44, c45, c46, c47, c48, c49, c50, c51, c52, c53, c54, c55, c56, c57, c58, c59, c60, c61, c62, c63, c64, c65, c66, c67, c68, c69, c70, c71, c72, c73, c74, c75, c76, c77, c78, c79, c80, c81, c82, c83, c84, c85, c86, c87, c88, c89, c90, c91, c92, c93, c94, c95, c96, c97, c98, c99, c100, c101, c102, c103, c104, u105, u106, u107, u108, u109, u110, u111, u112, .bool r, c114, c115, c116, c117, c118, c119, c120, c121, c122, c123, c124, c125, c126, c127, c128, c129, c130, c131, c132, c133, c134, c135, c136, c137, c138, c139, c140, c141, c142, c143, c144, c145, c146, c147, c148, c149, c150, c151, c152, c153, c154], []⟩ w1) : Code.wp Tryd.prog rl31C Q ⟨#[c0, c1, c2, c3, .pointer (some ⟨xb, 0, none⟩), c5, c6, c7, c8, c9, c10, c11, c12, c13, c14, c15, c16, c17, .int .i64 m, c19, c20, c21, c22, c23, c24, c25, c26, c27, c28, c29, c30, c31, c32, c33, c34, c35, c36, c37, c38, c39, c40, c41, c42, c43, c44, c45, c46, c47, c48, c49, c50, c51, c52, c53, c54, c55, c56, c57, c58, c59, c60, c61, c62, c63, c64, c65, c66, c67, c68, c69, c70, c71, c72, c73, c74, c75, c76, c77, c78, c79, c80, c81, c82, c83, c84, c85, c86, c87, c88, c89, c90, c91, c92, c93, c94, c95, c96, c97, c98, c99, c100, c101, c102, c103, c104, u105, u106, u107, u108, u109, u110, u111, u112, u113, c114, c115, c116, c117, c118, c119, c120, c121, c122, c123, c124, c125, c126, c127, c128, c129, c130, c131, c132, c133, c134, c135, c136, c137, c138, c139, c140, c141, c142, c143, c144, c145, c146, c147, c148, c149, c150, c151, c152, c153, c154], []⟩ W := by
 have HN := hidX hN
 clear hN
 conv => arg 2; whnf
 by_cases h0 : n < 0
 ·
  go_wp2
  exact HN.out _ _ _ _ _ _ _ _ _ _ (by first | (simp; done) | (simp [h0]; done)) (by (repeat (first | exact Below.refl _ _ | assumption | refine Below.drew ?_ | refine bT ?_ _ | refine bS ?_ _ | refine bA ?_ _)))
 ·by_cases h1 : m ≤ n
  ·
   go_wp2
   exact HN.out _ _ _ _ _ _ _ _ _ _ (by first | (simp; done) | (simp [h1]; done) | (simp [h0, h1]; done)) (by (repeat (first | exact Below.refl _ _ | assumption | refine Below.drew ?_ | refine bT ?_ _ | refine bS ?_ _ | refine bA ?_ _)))
  ·have h2 : ¬ (n ≥ m) := h1
   go_wp2
   exact HN.out _ _ _ _ _ _ _ _ _ _ (by first | (simp; done) | (simp [h1]; done) | (simp [h0, h1]; done)) (by (repeat (first | exact Below.refl _ _ | assumption | refine Below.drew ?_ | refine bT ?_ _ | refine bS ?_ _ | refine bA ?_ _)))
noncomputable def rl34C : Code := ((Tryd.f18.body.bind (regionOf 34)).getD .skip)
set_option maxRecDepth 100000 in
set_option maxHeartbeats 4000000 in
theorem rl34 {W : World} {xb : Nat} {d a b : Bool} {xd xa xbb : Int} (x1 : W.cell? ⟨xb, 1, none⟩ = some (.int .i64 xd)) (x2 : W.cell? ⟨xb, 2, none⟩ = some (.int .i64 xa)) (x3 : W.cell? ⟨xb, 3, none⟩ = some (.int .i64 xbb)) {c0 c1 c2 c3 c5 c6 c7 c8 c9 c13 c14 c15 c16 c17 c18 c19 c20 c21 c22 c23 c24 c25 c26 c27 c28 c29 c30 c31 c32 c33 c34 c35 c36 c37 c38 c39 c40 c41 c42 c43 c44 c45 c46 c47 c48 c49 c50 c51 c52 c53 c54 c55 c56 c57 c58 c59 c60 c61 c62 c63 c64 c65 c66 c67 c68 c69 c70 c71 c72 c73 c74 c75 c76 c77 c78 c79 c80 c81 c82 c83 c84 c85 c86 c87 c88 c89 c90 c91 c92 c93 c94 c95 c96 c97 c98 c99 c100 c101 c102 c103 c104 c105 c106 c107 c108 c109 c110 c111 c112 c113 c139 c140 c141 c142 c143 c144 c145 c146 c147 c148 c149 c150 c151 c152 c153 c154 : Value} {u114 u115 u116 u117 u118 u119 u120 u121 u122 u123 u124 u125 u126 u127 u128 u129 u130 u131 u132 u133 u134 u135 u136 u137 u138 : Value} {Q : Exit → Act → World → Prop}
  (hN : ∀ (u114 u115 u116 u117 u118 u119 u120 u121 u122 u123 u124 u125 u126 u127 u128 u129 u130 u131 u132 u133 u134 u135 u136 u137 : Value) (r : Bool) (w1 : World), r = ((!d && xd != 0) || (!a && xa != 0) || (!b && xbb != 0)) → Below W.heap.size W w1 → Q .normal ⟨#[c0, c1, c2, c3, .pointer (some ⟨xb, 0, none⟩), c5, c6, c7, c8, c9, .bool d, .bool a, .bool b, c13, c14, c15, c16, c17, c18, c19, c20, c21, c22, c23, c24, c25, c26, c27, c28, c29, c30, c31, c32, c33, c34, c35, c36, c37, c38, c39, c40, c41, c42, c43, c44, c45, c46, c47, c48, c49, c50, c51, c52, c53, c54, c55, c56, c57, c58, c59, c60, c61, c62, c63, c64, c65, c66, c67, c68, c69, c70, c71, c72, c73, c74, c75, c76, c77, c78, c79, c80, c81, c82, c83, c84, c85, c86, c87, c88, c89, c90, c91, c92, c93, c94, c95, c96, c97, c98, c99, c100, c101, c102, c103, c104, c105, c106, c107, c108, c109, c110, c111, c112, c113, u114, u115, u116, u117, u118, u119, u120, u121, u122, u123, u124, u125, u126, u127, u128, u129, u130, u131, u132, u133, u134, u135, u136, u137, .bool r, c139, c140, c141, c142, c143, c144, c145, c146, c147, c148, c149, c150, c151, c152, c153, c154], []⟩ w1) : Code.wp Tryd.prog rl34C Q ⟨#[c0, c1, c2, c3, .pointer (some ⟨xb, 0, none⟩), c5, c6, c7, c8, c9, .bool d, .bool a, .bool b, c13, c14, c15, c16, c17, c18, c19, c20, c21, c22, c23, c24, c25, c26, c27, c28, c29, c30, c31, c32, c33, c34, c35, c36, c37, c38, c39, c40, c41, c42, c43, c44, c45, c46, c47, c48, c49, c50, c51, c52, c53, c54, c55, c56, c57, c58, c59, c60, c61, c62, c63, c64, c65, c66, c67, c68, c69, c70, c71, c72, c73, c74, c75, c76, c77, c78, c79, c80, c81, c82, c83, c84, c85, c86, c87, c88, c89, c90, c91, c92, c93, c94, c95, c96, c97, c98, c99, c100, c101, c102, c103, c104, c105, c106, c107, c108, c109, c110, c111, c112, c113, u114, u115, u116, u117, u118, u119, u120, u121, u122, u123, u124, u125, u126, u127, u128, u129, u130, u131, u132, u133, u134, u135, u136, u137, u138, c139, c140, c141, c142, c143, c144, c145, c146, c147, c148, c149, c150, c151, c152, c153, c154], []⟩ W := by
 have HN := hidX hN
 clear hN
 conv => arg 2; whnf
 cases d
 ·by_cases h0 : xd = 0
  ·have g0 : (xd != 0) = false := by simpa using h0
   cases a
   ·by_cases h1 : xa = 0
    ·have g1 : (xa != 0) = false := by simpa using h1
     cases b
     ·by_cases h2 : xbb = 0
      ·have g2 : (xbb != 0) = false := by simpa using h2
       go_wp2
       exact HN.out _ _ _ _ _ _ _ _ _ _ _ _ _ _ _ _ _ _ _ _ _ _ _ _ _ _ (by first | (simp; done) | (simp [h2]; done) | (simp [h0, h1, h2]; done)) (by (repeat (first | exact Below.refl _ _ | assumption | refine Below.drew ?_ | refine bT ?_ _ | refine bS ?_ _ | refine bA ?_ _)))
      ·have g2 : (xbb != 0) = true := by simpa using h2
       go_wp2
       exact HN.out _ _ _ _ _ _ _ _ _ _ _ _ _ _ _ _ _ _ _ _ _ _ _ _ _ _ (by first | (simp; done) | (simp [h2]; done) | (simp [h0, h1, h2]; done)) (by (repeat (first | exact Below.refl _ _ | assumption | refine Below.drew ?_ | refine bT ?_ _ | refine bS ?_ _ | refine bA ?_ _)))
     ·go_wp2
      exact HN.out _ _ _ _ _ _ _ _ _ _ _ _ _ _ _ _ _ _ _ _ _ _ _ _ _ _ (by first | (simp; done) | (simp [h1]; done) | (simp [h0, h1]; done)) (by (repeat (first | exact Below.refl _ _ | assumption | refine Below.drew ?_ | refine bT ?_ _ | refine bS ?_ _ | refine bA ?_ _)))
    ·have g1 : (xa != 0) = true := by simpa using h1
     go_wp2
     exact HN.out _ _ _ _ _ _ _ _ _ _ _ _ _ _ _ _ _ _ _ _ _ _ _ _ _ _ (by first | (simp; done) | (simp [h1]; done) | (simp [h0, h1]; done)) (by (repeat (first | exact Below.refl _ _ | assumption | refine Below.drew ?_ | refine bT ?_ _ | refine bS ?_ _ | refine bA ?_ _)))
   ·cases b
    ·by_cases h2 : xbb = 0
     ·have g2 : (xbb != 0) = false := by simpa using h2
      go_wp2
      exact HN.out _ _ _ _ _ _ _ _ _ _ _ _ _ _ _ _ _ _ _ _ _ _ _ _ _ _ (by first | (simp; done) | (simp [h2]; done) | (simp [h0, h2]; done)) (by (repeat (first | exact Below.refl _ _ | assumption | refine Below.drew ?_ | refine bT ?_ _ | refine bS ?_ _ | refine bA ?_ _)))
     ·have g2 : (xbb != 0) = true := by simpa using h2
      go_wp2
      exact HN.out _ _ _ _ _ _ _ _ _ _ _ _ _ _ _ _ _ _ _ _ _ _ _ _ _ _ (by first | (simp; done) | (simp [h2]; done) | (simp [h0, h2]; done)) (by (repeat (first | exact Below.refl _ _ | assumption | refine Below.drew ?_ | refine bT ?_ _ | refine bS ?_ _ | refine bA ?_ _)))
    ·go_wp2
     exact HN.out _ _ _ _ _ _ _ _ _ _ _ _ _ _ _ _ _ _ _ _ _ _ _ _ _ _ (by first | (simp; done) | (simp [h0]; done)) (by (repeat (first | exact Below.refl _ _ | assumption | refine Below.drew ?_ | refine bT ?_ _ | refine bS ?_ _ | refine bA ?_ _)))
  ·have g0 : (xd != 0) = true := by simpa using h0
   go_wp2
   exact HN.out _ _ _ _ _ _ _ _ _ _ _ _ _ _ _ _ _ _ _ _ _ _ _ _ _ _ (by first | (simp; done) | (simp [h0]; done)) (by (repeat (first | exact Below.refl _ _ | assumption | refine Below.drew ?_ | refine bT ?_ _ | refine bS ?_ _ | refine bA ?_ _)))
 ·cases a
  ·by_cases h1 : xa = 0
   ·have g1 : (xa != 0) = false := by simpa using h1
    cases b
    ·by_cases h2 : xbb = 0
     ·have g2 : (xbb != 0) = false := by simpa using h2
      go_wp2
      exact HN.out _ _ _ _ _ _ _ _ _ _ _ _ _ _ _ _ _ _ _ _ _ _ _ _ _ _ (by first | (simp; done) | (simp [h2]; done) | (simp [h1, h2]; done)) (by (repeat (first | exact Below.refl _ _ | assumption | refine Below.drew ?_ | refine bT ?_ _ | refine bS ?_ _ | refine bA ?_ _)))
     ·have g2 : (xbb != 0) = true := by simpa using h2
      go_wp2
      exact HN.out _ _ _ _ _ _ _ _ _ _ _ _ _ _ _ _ _ _ _ _ _ _ _ _ _ _ (by first | (simp; done) | (simp [h2]; done) | (simp [h1, h2]; done)) (by (repeat (first | exact Below.refl _ _ | assumption | refine Below.drew ?_ | refine bT ?_ _ | refine bS ?_ _ | refine bA ?_ _)))
    ·go_wp2
     exact HN.out _ _ _ _ _ _ _ _ _ _ _ _ _ _ _ _ _ _ _ _ _ _ _ _ _ _ (by first | (simp; done) | (simp [h1]; done)) (by (repeat (first | exact Below.refl _ _ | assumption | refine Below.drew ?_ | refine bT ?_ _ | refine bS ?_ _ | refine bA ?_ _)))
   ·have g1 : (xa != 0) = true := by simpa using h1
    go_wp2
    exact HN.out _ _ _ _ _ _ _ _ _ _ _ _ _ _ _ _ _ _ _ _ _ _ _ _ _ _ (by first | (simp; done) | (simp [h1]; done)) (by (repeat (first | exact Below.refl _ _ | assumption | refine Below.drew ?_ | refine bT ?_ _ | refine bS ?_ _ | refine bA ?_ _)))
  ·cases b
   ·by_cases h2 : xbb = 0
    ·have g2 : (xbb != 0) = false := by simpa using h2
     go_wp2
     exact HN.out _ _ _ _ _ _ _ _ _ _ _ _ _ _ _ _ _ _ _ _ _ _ _ _ _ _ (by first | (simp; done) | (simp [h2]; done)) (by (repeat (first | exact Below.refl _ _ | assumption | refine Below.drew ?_ | refine bT ?_ _ | refine bS ?_ _ | refine bA ?_ _)))
    ·have g2 : (xbb != 0) = true := by simpa using h2
     go_wp2
     exact HN.out _ _ _ _ _ _ _ _ _ _ _ _ _ _ _ _ _ _ _ _ _ _ _ _ _ _ (by first | (simp; done) | (simp [h2]; done)) (by (repeat (first | exact Below.refl _ _ | assumption | refine Below.drew ?_ | refine bT ?_ _ | refine bS ?_ _ | refine bA ?_ _)))
   ·go_wp2
    exact HN.out _ _ _ _ _ _ _ _ _ _ _ _ _ _ _ _ _ _ _ _ _ _ _ _ _ _ (by simp) (by (repeat (first | exact Below.refl _ _ | assumption | refine Below.drew ?_ | refine bT ?_ _ | refine bS ?_ _ | refine bA ?_ _)))
noncomputable def rl36C : Code := ((Tryd.f18.body.bind (regionOf 36)).getD .skip)
set_option maxRecDepth 100000 in
set_option maxHeartbeats 4000000 in
theorem rl36 {W : World} {xb : Nat} {n s : Bool} {xn : Int} {xm : List UInt8} (x4 : W.cell? ⟨xb, 4, none⟩ = some (.int .i64 xn)) (x5 : W.cell? ⟨xb, 5, none⟩ = some (.string ⟨xm.toArray⟩)) {c0 c1 c2 c3 c5 c6 c7 c8 c9 c10 c11 c12 c15 c16 c17 c18 c19 c20 c21 c22 c23 c24 c25 c26 c27 c28 c29 c30 c31 c32 c33 c34 c35 c36 c37 c38 c39 c40 c41 c42 c43 c44 c45 c46 c47 c48 c49 c50 c51 c52 c53 c54 c55 c56 c57 c58 c59 c60 c61 c62 c63 c64 c65 c66 c67 c68 c69 c70 c71 c72 c73 c74 c75 c76 c77 c78 c79 c80 c81 c82 c83 c84 c85 c86 c87 c88 c89 c90 c91 c92 c93 c94 c95 c96 c97 c98 c99 c100 c101 c102 c103 c104 c105 c106 c107 c108 c109 c110 c111 c112 c113 c114 c115 c116 c117 c118 c119 c120 c121 c122 c123 c124 c125 c126 c127 c128 c129 c130 c131 c132 c133 c134 c135 c136 c137 c138 : Value} {u139 u140 u141 u142 u143 u144 u145 u146 u147 u148 u149 u150 u151 u152 u153 u154 : Value} {Q : Exit → Act → World → Prop}
  (hN : ∀ (u139 u140 u141 u142 u143 u144 u145 u146 u147 u148 u149 u150 u151 u152 u153 : Value) (r : Bool) (w1 : World), r = ((!n && xn != 0) || (!s && xm != [])) → Below W.heap.size W w1 → Q .normal ⟨#[c0, c1, c2, c3, .pointer (some ⟨xb, 0, none⟩), c5, c6, c7, c8, c9, c10, c11, c12, .bool n, .bool s, c15, c16, c17, c18, c19, c20, c21, c22, c23, c24, c25, c26, c27, c28, c29, c30, c31, c32, c33, c34, c35, c36, c37, c38, c39, c40, c41, c42, c43, c44, c45, c46, c47, c48, c49, c50, c51, c52, c53, c54, c55, c56, c57, c58, c59, c60, c61, c62, c63, c64, c65, c66, c67, c68, c69, c70, c71, c72, c73, c74, c75, c76, c77, c78, c79, c80, c81, c82, c83, c84, c85, c86, c87, c88, c89, c90, c91, c92, c93, c94, c95, c96, c97, c98, c99, c100, c101, c102, c103, c104, c105, c106, c107, c108, c109, c110, c111, c112, c113, c114, c115, c116, c117, c118, c119, c120, c121, c122, c123, c124, c125, c126, c127, c128, c129, c130, c131, c132, c133, c134, c135, c136, c137, c138, u139, u140, u141, u142, u143, u144, u145, u146, u147, u148, u149, u150, u151, u152, u153, .bool r], []⟩ w1) : Code.wp Tryd.prog rl36C Q ⟨#[c0, c1, c2, c3, .pointer (some ⟨xb, 0, none⟩), c5, c6, c7, c8, c9, c10, c11, c12, .bool n, .bool s, c15, c16, c17, c18, c19, c20, c21, c22, c23, c24, c25, c26, c27, c28, c29, c30, c31, c32, c33, c34, c35, c36, c37, c38, c39, c40, c41, c42, c43, c44, c45, c46, c47, c48, c49, c50, c51, c52, c53, c54, c55, c56, c57, c58, c59, c60, c61, c62, c63, c64, c65, c66, c67, c68, c69, c70, c71, c72, c73, c74, c75, c76, c77, c78, c79, c80, c81, c82, c83, c84, c85, c86, c87, c88, c89, c90, c91, c92, c93, c94, c95, c96, c97, c98, c99, c100, c101, c102, c103, c104, c105, c106, c107, c108, c109, c110, c111, c112, c113, c114, c115, c116, c117, c118, c119, c120, c121, c122, c123, c124, c125, c126, c127, c128, c129, c130, c131, c132, c133, c134, c135, c136, c137, c138, u139, u140, u141, u142, u143, u144, u145, u146, u147, u148, u149, u150, u151, u152, u153, u154], []⟩ W := by
 have HN := hidX hN
 clear hN
 conv => arg 2; whnf
 cases n
 ·by_cases h0 : xn = 0
  ·have g0 : (xn != 0) = false := by simpa using h0
   cases s
   ·by_cases h1 : xm = []
    ·have g1 : (xm != []) = false := by simpa using h1
     go_wp2
     exact HN.out _ _ _ _ _ _ _ _ _ _ _ _ _ _ _ _ _ (by cases xm <;> simp_all) (by (repeat (first | exact Below.refl _ _ | assumption | refine Below.drew ?_ | refine bT ?_ _ | refine bS ?_ _ | refine bA ?_ _)))
    ·have g1 : (xm != []) = true := by simpa using h1
     go_wp2
     exact HN.out _ _ _ _ _ _ _ _ _ _ _ _ _ _ _ _ _ (by cases xm <;> simp_all) (by (repeat (first | exact Below.refl _ _ | assumption | refine Below.drew ?_ | refine bT ?_ _ | refine bS ?_ _ | refine bA ?_ _)))
   ·go_wp2
    exact HN.out _ _ _ _ _ _ _ _ _ _ _ _ _ _ _ _ _ (by first | (simp; done) | (simp [h0]; done)) (by (repeat (first | exact Below.refl _ _ | assumption | refine Below.drew ?_ | refine bT ?_ _ | refine bS ?_ _ | refine bA ?_ _)))
  ·have g0 : (xn != 0) = true := by simpa using h0
   go_wp2
   exact HN.out _ _ _ _ _ _ _ _ _ _ _ _ _ _ _ _ _ (by first | (simp; done) | (simp [h0]; done)) (by (repeat (first | exact Below.refl _ _ | assumption | refine Below.drew ?_ | refine bT ?_ _ | refine bS ?_ _ | refine bA ?_ _)))
 ·cases s
  ·by_cases h1 : xm = []
   ·have g1 : (xm != []) = false := by simpa using h1
    go_wp2
    exact HN.out _ _ _ _ _ _ _ _ _ _ _ _ _ _ _ _ _ (by cases xm <;> simp_all) (by (repeat (first | exact Below.refl _ _ | assumption | refine Below.drew ?_ | refine bT ?_ _ | refine bS ?_ _ | refine bA ?_ _)))
   ·have g1 : (xm != []) = true := by simpa using h1
    go_wp2
    exact HN.out _ _ _ _ _ _ _ _ _ _ _ _ _ _ _ _ _ (by cases xm <;> simp_all) (by (repeat (first | exact Below.refl _ _ | assumption | refine Below.drew ?_ | refine bT ?_ _ | refine bS ?_ _ | refine bA ?_ _)))
  ·go_wp2
   exact HN.out _ _ _ _ _ _ _ _ _ _ _ _ _ _ _ _ _ (by simp) (by (repeat (first | exact Below.refl _ _ | assumption | refine Below.drew ?_ | refine bT ?_ _ | refine bS ?_ _ | refine bA ?_ _)))
end Go.Proofs.YtimccbilkjjakaaDoor
namespace Go.Proofs.YtimccbilkjjakaaDoor
open Go.RowKit
theorem rIsL (k : List UInt8) (c : UInt8) (r : Bool) (h : decide (c ∈ hasL k) = r) (w : World) : Calls Tryd.prog 31 #[.string ⟨(hasL k).toArray⟩, .int .u8 (c.toNat : Int)] w fun e w' => e = .returned (.bool r) ∧ w' = w := by
 rw [← h]
 exact risOf_any ⟨(hasL k).toArray⟩ (by show (hasL k).length ≤ 1000; exact hasL_len k) c w
theorem rRegL (r : Int) (w : World) : Calls Tryd.prog 17 #[.int .i64 r] w fun e w' => e = .returned (.bool (inR 8 r)) ∧ w' = w := by
 have := risReg_any r w
 rw [show decide (0 ≤ r ∧ r < 8) = inR 8 r by unfold inR; rw [Bool.decide_and]] at this
 exact this
set_option maxRecDepth 100000 in
set_option maxHeartbeats 8000000 in
theorem rLow_0 (nm : List UInt8) (P S : Int) (bv : Value) (hbv : ∃ a n c, bv = .slice a n c) (x : Li) (w : World) :
  Calls Tryd.prog 18 #[.agg (lcV nm P S bv), .agg (liV x).toArray, .int .i64 0] w fun e w' => e = .returned (.int .i64 ((if lKind onesE twosE x (ash x.kind false) = false then 4 else 0 : Nat) : Int)) ∧ Below w.heap.size w w' := by
 obtain ⟨ba, bn, bc, rfl⟩ := hbv
 obtain ⟨k, xd, xa, xbb, xn, xm⟩ := x
 obtain ⟨W0, hW0⟩ : ∃ W0, W0 = (w.alloc (.cells (lcV nm P S (.slice ba bn bc)) 24)).alloc (.cells #[.string ⟨k.toArray⟩, .int .i64 xd, .int .i64 xa, .int .i64 xbb, .int .i64 xn, .string ⟨xm.toArray⟩] 60) := ⟨_, rfl⟩
 have hb0 : Below w.heap.size w W0 := by rw [hW0]; (repeat (first | exact Below.refl _ _ | assumption | refine Below.drew ?_ | refine bT ?_ _ | refine bS ?_ _ | refine bA ?_ _))
 have x0 : W0.heap[w.heap.size]? = some (.cells (lcV nm P S (.slice ba bn bc)) 24 (0, 0)) := by rw [hW0]; exact two_alloc w _ _
 have x1 : W0.heap[w.heap.size + 1]? = some (.cells #[.string ⟨k.toArray⟩, .int .i64 xd, .int .i64 xa, .int .i64 xbb, .int .i64 xn, .string ⟨xm.toArray⟩] 60 (0, 0)) := by rw [hW0]; exact heap_alloc2_new w _ _
 have HC := hidX (show ∀ Y, Below W0.heap.size W0 Y → (Y.cell? ⟨w.heap.size, 1, none⟩ = some (.int .i64 P) ∧ Y.cell? ⟨w.heap.size, 2, none⟩ = some (.int .i64 S)) ∧ (Y.cell? ⟨w.heap.size + 1, 0, none⟩ = some (.string ⟨k.toArray⟩) ∧ Y.cell? ⟨w.heap.size + 1, 1, none⟩ = some (.int .i64 xd) ∧ Y.cell? ⟨w.heap.size + 1, 2, none⟩ = some (.int .i64 xa) ∧ Y.cell? ⟨w.heap.size + 1, 3, none⟩ = some (.int .i64 xbb) ∧ Y.cell? ⟨w.heap.size + 1, 4, none⟩ = some (.int .i64 xn) ∧ Y.cell? ⟨w.heap.size + 1, 5, none⟩ = some (.string ⟨xm.toArray⟩)) from fun Y hY => by
  have h0 := (hY.block _ (heap_lt x0)).trans x0
  have h1 := (hY.block _ (heap_lt x1)).trans x1
  exact ⟨⟨cell_of_blk h0 1, cell_of_blk h0 2⟩, ⟨cell_of_blk h1 0, cell_of_blk h1 1, cell_of_blk h1 2, cell_of_blk h1 3, cell_of_blk h1 4, cell_of_blk h1 5⟩⟩)
 have HB0 := hidX hb0
 have HW0 := hidX hW0
 obtain ⟨⟨p1, p2⟩, ⟨y0, y1, y2, y3, y4, y5⟩⟩ := HC.out W0 (Below.refl _ _)
 have HK := hidX (show lKind onesE twosE ⟨k, xd, xa, xbb, xn, xm⟩ (ash k false) = !(hasL k == [] || (k == [111, 110, 101] && !decide (xm ∈ onesE)) || (k == [116, 119, 111] && !decide (xm ∈ twosE))) from by
  unfold lKind lOp
  rw [hasL_nil]
  by_cases h1 : k = gOne
  ·subst h1
   show ((ash gOne false).kind != [] && decide (xm ∈ onesE)) = _
   cases decide (xm ∈ onesE) <;> rfl
  ·by_cases h2 : k = gTwo
   ·subst h2
    show ((ash gTwo false).kind != [] && decide (xm ∈ twosE)) = _
    cases decide (xm ∈ twosE) <;> rfl
   ·have e1 : (k == [111, 110, 101]) = false := ne_lit h1
    have e2 : (k == [116, 119, 111]) = false := ne_lit h2
    simp only [if_neg h1, if_neg h2, e1, e2, Bool.false_and, Bool.or_false, Bool.and_true]
    rfl)
 generalize lKind onesE twosE ⟨k, xd, xa, xbb, xn, xm⟩ (ash (⟨k, xd, xa, xbb, xn, xm⟩ : Li).kind false) = lk at HK ⊢
 clear hb0 x0 x1 hW0
 go_enter Tryd.func18, Tryd.ntmps18
 go_wp2_with fail
 rw [← HW0.out]
 clear HW0
 refine (rHasL_any k _).mono ?_
 rintro e w1 ⟨rfl, hh⟩
 replace hh := hh.symm
 subst hh
 generalize hasL k = hs at HK ⊢
 go_wp2_with fail
 refine (rIsOne_any xm _).mono ?_
 rintro e w1 ⟨rfl, hh⟩
 replace hh := hh.symm
 subst hh
 go_wp2_with fail
 refine (rIsTwo_any xm _).mono ?_
 rintro e w1 ⟨rfl, hb1⟩
 clear p1 p2 y0 y1 y2 y3 y4 y5
 have y0 := (HC.out w1 hb1).2.1
 have HB1 := hidX (bl_trans HB0.out HB0.out.size hb1)
 generalize decide (xm ∈ onesE) = ob at HK ⊢
 generalize decide (xm ∈ twosE) = tb at HK ⊢
 clear hb1
 go_upto_region 5 with fail
 refine rl5 y0 ?_
 intro u30 u31 u32 u33 u34 u35 u36 u37 u38 u39 u40 u41 u42 u43 u44 u45 u46 u47 u48 r w2 hr hb2
 have hk : lk = !r := by rw [HK.out, hr]
 have HB2 := hidX (bl_trans HB1.out HB1.out.size hb2)
 subst hk
 clear hr hb2
 cases r with
 | true =>
  go_wp2
  go_ret
  exact ⟨rfl, HB2.out⟩
 | false =>
  go_wp2
  go_ret
  exact ⟨rfl, HB2.out⟩
set_option maxRecDepth 100000 in
set_option maxHeartbeats 8000000 in
theorem rLow_2 (nm : List UInt8) (P S : Int) (bv : Value) (hbv : ∃ a n c, bv = .slice a n c) (x : Li) (hk : (ash x.kind false).kind ≠ []) (w : World) :
  Calls Tryd.prog 18 #[.agg (lcV nm P S bv), .agg (liV x).toArray, .int .i64 2] w fun e w' => e = .returned (.int .i64 ((if lShape x (ash x.kind false) = false then 3 else 0 : Nat) : Int)) ∧ Below w.heap.size w w' := by
 obtain ⟨ba, bn, bc, rfl⟩ := hbv
 obtain ⟨k, xd, xa, xbb, xn, xm⟩ := x
 obtain ⟨W0, hW0⟩ : ∃ W0, W0 = (w.alloc (.cells (lcV nm P S (.slice ba bn bc)) 24)).alloc (.cells #[.string ⟨k.toArray⟩, .int .i64 xd, .int .i64 xa, .int .i64 xbb, .int .i64 xn, .string ⟨xm.toArray⟩] 60) := ⟨_, rfl⟩
 have hb0 : Below w.heap.size w W0 := by rw [hW0]; (repeat (first | exact Below.refl _ _ | assumption | refine Below.drew ?_ | refine bT ?_ _ | refine bS ?_ _ | refine bA ?_ _))
 have x0 : W0.heap[w.heap.size]? = some (.cells (lcV nm P S (.slice ba bn bc)) 24 (0, 0)) := by rw [hW0]; exact two_alloc w _ _
 have x1 : W0.heap[w.heap.size + 1]? = some (.cells #[.string ⟨k.toArray⟩, .int .i64 xd, .int .i64 xa, .int .i64 xbb, .int .i64 xn, .string ⟨xm.toArray⟩] 60 (0, 0)) := by rw [hW0]; exact heap_alloc2_new w _ _
 have HC := hidX (show ∀ Y, Below W0.heap.size W0 Y → (Y.cell? ⟨w.heap.size, 1, none⟩ = some (.int .i64 P) ∧ Y.cell? ⟨w.heap.size, 2, none⟩ = some (.int .i64 S)) ∧ (Y.cell? ⟨w.heap.size + 1, 0, none⟩ = some (.string ⟨k.toArray⟩) ∧ Y.cell? ⟨w.heap.size + 1, 1, none⟩ = some (.int .i64 xd) ∧ Y.cell? ⟨w.heap.size + 1, 2, none⟩ = some (.int .i64 xa) ∧ Y.cell? ⟨w.heap.size + 1, 3, none⟩ = some (.int .i64 xbb) ∧ Y.cell? ⟨w.heap.size + 1, 4, none⟩ = some (.int .i64 xn) ∧ Y.cell? ⟨w.heap.size + 1, 5, none⟩ = some (.string ⟨xm.toArray⟩)) from fun Y hY => by
  have h0 := (hY.block _ (heap_lt x0)).trans x0
  have h1 := (hY.block _ (heap_lt x1)).trans x1
  exact ⟨⟨cell_of_blk h0 1, cell_of_blk h0 2⟩, ⟨cell_of_blk h1 0, cell_of_blk h1 1, cell_of_blk h1 2, cell_of_blk h1 3, cell_of_blk h1 4, cell_of_blk h1 5⟩⟩)
 have HB0 := hidX hb0
 have HW0 := hidX hW0
 obtain ⟨⟨p1, p2⟩, ⟨y0, y1, y2, y3, y4, y5⟩⟩ := HC.out W0 (Below.refl _ _)
 obtain ⟨q1, q2, q3, q4, q5⟩ := hasL_at (k := k) hk
 have I1 := hidX (rIsL k 100 _ q1)
 have I2 := hidX (rIsL k 97 _ q2)
 have I3 := hidX (rIsL k 98 _ q3)
 have I4 := hidX (rIsL k 110 _ q4)
 have I5 := hidX (rIsL k 115 _ q5)
 have HK := hidX (show lShape ⟨k, xd, xa, xbb, xn, xm⟩ (ash k false) = (!((!(ash k false).d && xd != 0) || (!(ash k false).a && xa != 0) || (!(ash k false).b && xbb != 0)) && !((!(ash k false).num && xn != 0) || (!(ash k false).name && xm != []))) from by
  unfold lShape
  simp only [Bool.not_or, Bool.not_and, Bool.not_not, bne, Bool.and_assoc])
 generalize lShape ⟨k, xd, xa, xbb, xn, xm⟩ (ash (⟨k, xd, xa, xbb, xn, xm⟩ : Li).kind false) = ls at HK ⊢
 generalize (ash k false).d = d at I1 HK
 generalize (ash k false).a = a at I2 HK
 generalize (ash k false).b = b at I3 HK
 generalize (ash k false).num = n at I4 HK
 generalize (ash k false).name = s at I5 HK
 clear hb0 x0 x1 hW0 hk q1 q2 q3 q4 q5
 go_enter Tryd.func18, Tryd.ntmps18
 go_wp2_with fail
 rw [← HW0.out]
 clear HW0
 refine (rHasL_any k _).mono ?_
 rintro e w1 ⟨rfl, hh⟩
 replace hh := hh.symm
 subst hh
 generalize hasL k = hs at I1 I2 I3 I4 I5 ⊢
 go_wp2_with fail
 refine (I1.out _).mono ?_
 rintro e w1 ⟨rfl, hh⟩
 replace hh := hh.symm
 subst hh
 go_wp2_with fail
 refine (I2.out _).mono ?_
 rintro e w1 ⟨rfl, hh⟩
 replace hh := hh.symm
 subst hh
 go_wp2_with fail
 refine (I3.out _).mono ?_
 rintro e w1 ⟨rfl, hh⟩
 replace hh := hh.symm
 subst hh
 go_wp2_with fail
 refine (I4.out _).mono ?_
 rintro e w1 ⟨rfl, hh⟩
 replace hh := hh.symm
 subst hh
 go_wp2_with fail
 refine (I5.out _).mono ?_
 rintro e w1 ⟨rfl, hh⟩
 replace hh := hh.symm
 subst hh
 go_upto_region 34 with fail
 refine rl34 y1 y2 y3 ?_
 intro u114 u115 u116 u117 u118 u119 u120 u121 u122 u123 u124 u125 u126 u127 u128 u129 u130 u131 u132 u133 u134 u135 u136 u137 r w2 hr hb2
 rw [← hr] at HK
 clear hr p1 p2 y0 y1 y2 y3 y4 y5
 have HB2 := hidX (bl_trans HB0.out HB0.out.size hb2)
 have y4 := (HC.out w2 hb2).2.2.2.2.2.1
 have y5 := (HC.out w2 hb2).2.2.2.2.2.2
 clear hb2
 cases r with
 | true =>
  have hl : ls = false := by rw [HK.out]; rfl
  subst hl
  go_wp2
  go_ret
  exact ⟨rfl, HB2.out⟩
 | false =>
  go_upto_region 36 with fail
  refine rl36 y4 y5 ?_
  intro u139 u140 u141 u142 u143 u144 u145 u146 u147 u148 u149 u150 u151 u152 u153 r w3 hr hb3
  rw [← hr] at HK
  have HB3 := hidX (bl_trans HB2.out HB2.out.size hb3)
  clear hr hb3
  have hl : ls = !r := by rw [HK.out]; rfl
  subst hl
  cases r with
  | true =>
   go_wp2
   go_ret
   exact ⟨rfl, HB3.out⟩
  | false =>
   go_wp2
   go_ret
   exact ⟨rfl, HB3.out⟩
set_option maxRecDepth 100000 in
set_option maxHeartbeats 8000000 in
theorem rLow_1 (nm : List UInt8) (P S : Int) (bv : Value) (hbv : ∃ a n c, bv = .slice a n c) (x : Li) (hk : (ash x.kind false).kind ≠ []) (w : World) :
  Calls Tryd.prog 18 #[.agg (lcV nm P S bv), .agg (liV x).toArray, .int .i64 1] w fun e w' => e = .returned (.int .i64 ((if lBound P S x (ash x.kind false) = false then 2 else 0 : Nat) : Int)) ∧ Below w.heap.size w w' := by
 obtain ⟨ba, bn, bc, rfl⟩ := hbv
 obtain ⟨k, xd, xa, xbb, xn, xm⟩ := x
 obtain ⟨W0, hW0⟩ : ∃ W0, W0 = (w.alloc (.cells (lcV nm P S (.slice ba bn bc)) 24)).alloc (.cells #[.string ⟨k.toArray⟩, .int .i64 xd, .int .i64 xa, .int .i64 xbb, .int .i64 xn, .string ⟨xm.toArray⟩] 60) := ⟨_, rfl⟩
 have hb0 : Below w.heap.size w W0 := by rw [hW0]; (repeat (first | exact Below.refl _ _ | assumption | refine Below.drew ?_ | refine bT ?_ _ | refine bS ?_ _ | refine bA ?_ _))
 have x0 : W0.heap[w.heap.size]? = some (.cells (lcV nm P S (.slice ba bn bc)) 24 (0, 0)) := by rw [hW0]; exact two_alloc w _ _
 have x1 : W0.heap[w.heap.size + 1]? = some (.cells #[.string ⟨k.toArray⟩, .int .i64 xd, .int .i64 xa, .int .i64 xbb, .int .i64 xn, .string ⟨xm.toArray⟩] 60 (0, 0)) := by rw [hW0]; exact heap_alloc2_new w _ _
 have HC := hidX (show ∀ Y, Below W0.heap.size W0 Y → (Y.cell? ⟨w.heap.size, 1, none⟩ = some (.int .i64 P) ∧ Y.cell? ⟨w.heap.size, 2, none⟩ = some (.int .i64 S)) ∧ (Y.cell? ⟨w.heap.size + 1, 0, none⟩ = some (.string ⟨k.toArray⟩) ∧ Y.cell? ⟨w.heap.size + 1, 1, none⟩ = some (.int .i64 xd) ∧ Y.cell? ⟨w.heap.size + 1, 2, none⟩ = some (.int .i64 xa) ∧ Y.cell? ⟨w.heap.size + 1, 3, none⟩ = some (.int .i64 xbb) ∧ Y.cell? ⟨w.heap.size + 1, 4, none⟩ = some (.int .i64 xn) ∧ Y.cell? ⟨w.heap.size + 1, 5, none⟩ = some (.string ⟨xm.toArray⟩)) from fun Y hY => by
  have h0 := (hY.block _ (heap_lt x0)).trans x0
  have h1 := (hY.block _ (heap_lt x1)).trans x1
  exact ⟨⟨cell_of_blk h0 1, cell_of_blk h0 2⟩, ⟨cell_of_blk h1 0, cell_of_blk h1 1, cell_of_blk h1 2, cell_of_blk h1 3, cell_of_blk h1 4, cell_of_blk h1 5⟩⟩)
 have HB0 := hidX hb0
 have HW0 := hidX hW0
 obtain ⟨⟨p1, p2⟩, ⟨y0, y1, y2, y3, y4, y5⟩⟩ := HC.out W0 (Below.refl _ _)
 obtain ⟨q1, q2, q3, q4, q5⟩ := hasL_at (k := k) hk
 have I1 := hidX (rIsL k 100 _ q1)
 have I2 := hidX (rIsL k 97 _ q2)
 have I3 := hidX (rIsL k 98 _ q3)
 have I4 := hidX (rIsL k 110 _ q4)
 have I5 := hidX (rIsL k 115 _ q5)
 have HK := hidX (show lBound P S ⟨k, xd, xa, xbb, xn, xm⟩ (ash k false) = (!(((ash k false).d && !inR 8 xd) || ((ash k false).a && !inR 8 xa) || ((ash k false).b && !inR 8 xbb)) && lNum P S ⟨k, xd, xa, xbb, xn, xm⟩) from by
  unfold lBound
  simp only [Bool.not_or, Bool.not_and, Bool.not_not])
 generalize lBound P S ⟨k, xd, xa, xbb, xn, xm⟩ (ash (⟨k, xd, xa, xbb, xn, xm⟩ : Li).kind false) = ls at HK ⊢
 generalize (ash k false).d = d at I1 HK
 generalize (ash k false).a = a at I2 HK
 generalize (ash k false).b = b at I3 HK
 generalize (ash k false).num = n at I4
 generalize (ash k false).name = s at I5
 clear hb0 x0 x1 hW0 hk q1 q2 q3 q4 q5
 go_enter Tryd.func18, Tryd.ntmps18
 go_wp2_with fail
 rw [← HW0.out]
 clear HW0
 refine (rHasL_any k _).mono ?_
 rintro e w1 ⟨rfl, hh⟩
 replace hh := hh.symm
 subst hh
 generalize hasL k = hs at I1 I2 I3 I4 I5 ⊢
 go_wp2_with fail
 refine (I1.out _).mono ?_
 rintro e w1 ⟨rfl, hh⟩
 replace hh := hh.symm
 subst hh
 go_wp2_with fail
 refine (I2.out _).mono ?_
 rintro e w1 ⟨rfl, hh⟩
 replace hh := hh.symm
 subst hh
 go_wp2_with fail
 refine (I3.out _).mono ?_
 rintro e w1 ⟨rfl, hh⟩
 replace hh := hh.symm
 subst hh
 go_wp2_with fail
 refine (I4.out _).mono ?_
 rintro e w1 ⟨rfl, hh⟩
 replace hh := hh.symm
 subst hh
 go_wp2_with fail
 refine (I5.out _).mono ?_
 rintro e w1 ⟨rfl, hh⟩
 replace hh := hh.symm
 subst hh
 go_wp2_with fail
 refine (rRegL xd _).mono ?_
 rintro e w1 ⟨rfl, hh⟩
 replace hh := hh.symm
 subst hh
 go_wp2_with fail
 refine (rRegL xa _).mono ?_
 rintro e w1 ⟨rfl, hh⟩
 replace hh := hh.symm
 subst hh
 go_wp2_with fail
 refine (rRegL xbb _).mono ?_
 rintro e w1 ⟨rfl, hh⟩
 replace hh := hh.symm
 subst hh
 generalize inR 8 xd = rd at HK ⊢
 generalize inR 8 xa = ra at HK ⊢
 generalize inR 8 xbb = rb at HK ⊢
 go_upto_region 17 with fail
 refine rl17 ?_
 intro u71 u72 u73 u74 u75 u76 u77 u78 u79 u80 u81 u82 u83 u84 u85 u86 u87 u88 r w2 hr hb2
 rw [← hr] at HK
 clear hr p1 p2 y0 y1 y2 y3 y4 y5
 have HB2 := hidX (bl_trans HB0.out HB0.out.size hb2)
 obtain ⟨⟨p1, p2⟩, ⟨y0, y1, y2, y3, y4, y5⟩⟩ := HC.out w2 hb2
 clear hb2 y1 y2 y3 y5
 cases r with
 | true =>
  have hl : ls = false := by rw [HK.out]; rfl
  subst hl
  go_wp2
  go_ret
  exact ⟨rfl, HB2.out⟩
 | false =>
  have HLN := hidX (show ls = lNum P S ⟨k, xd, xa, xbb, xn, xm⟩ by rw [HK.out]; rfl)
  clear HK
  by_cases h0 : k = gParam
  ·obtain rfl : k = ([112, 97, 114, 97, 109] : List UInt8) := h0
   have HL := hidX (show lNum P S ⟨[112, 97, 114, 97, 109], xd, xa, xbb, xn, xm⟩ = inR P xn from by unfold lNum; exact if_pos rfl)
   go_upto_region 31 with fail
   refine rl31 y4 ?_
   intro u105 u106 u107 u108 u109 u110 u111 u112 r w3 hr hb3
   have HB3 := hidX (bl_trans HB2.out HB2.out.size hb3)
   have hl : ls = !r := by rw [HLN.out, HL.out, hr]; unfold inR; by_cases a1 : xn < 0 <;> by_cases a2 : P ≤ xn <;> simp [a1, a2] <;> omega
   subst hl
   clear hr hb3
   cases r with
   | true =>
    go_wp2
    go_ret
    exact ⟨rfl, HB3.out⟩
   | false =>
    go_wp2
    go_ret
    exact ⟨rfl, HB3.out⟩
  by_cases h1 : k = lLoad
  ·obtain rfl : k = ([108, 111, 97, 100] : List UInt8) := h1
   have HL := hidX (show lNum P S ⟨[108, 111, 97, 100], xd, xa, xbb, xn, xm⟩ = inR S xn from by unfold lNum; exact (if_neg (show ¬ ([108, 111, 97, 100] : List UInt8) = gParam by decide)).trans (if_pos rfl))
   go_upto_region 31 with fail
   refine rl31 y4 ?_
   intro u105 u106 u107 u108 u109 u110 u111 u112 r w3 hr hb3
   have HB3 := hidX (bl_trans HB2.out HB2.out.size hb3)
   have hl : ls = !r := by rw [HLN.out, HL.out, hr]; unfold inR; by_cases a1 : xn < 0 <;> by_cases a2 : S ≤ xn <;> simp [a1, a2] <;> omega
   subst hl
   clear hr hb3
   cases r with
   | true =>
    go_wp2
    go_ret
    exact ⟨rfl, HB3.out⟩
   | false =>
    go_wp2
    go_ret
    exact ⟨rfl, HB3.out⟩
  by_cases h2 : k = lStore
  ·obtain rfl : k = ([115, 116, 111, 114, 101] : List UInt8) := h2
   have HL := hidX (show lNum P S ⟨[115, 116, 111, 114, 101], xd, xa, xbb, xn, xm⟩ = inR S xn from by unfold lNum; exact (if_neg (show ¬ ([115, 116, 111, 114, 101] : List UInt8) = gParam by decide)).trans ((if_neg (show ¬ ([115, 116, 111, 114, 101] : List UInt8) = lLoad by decide)).trans (if_pos rfl)))
   go_upto_region 31 with fail
   refine rl31 y4 ?_
   intro u105 u106 u107 u108 u109 u110 u111 u112 r w3 hr hb3
   have HB3 := hidX (bl_trans HB2.out HB2.out.size hb3)
   have hl : ls = !r := by rw [HLN.out, HL.out, hr]; unfold inR; by_cases a1 : xn < 0 <;> by_cases a2 : S ≤ xn <;> simp [a1, a2] <;> omega
   subst hl
   clear hr hb3
   cases r with
   | true =>
    go_wp2
    go_ret
    exact ⟨rfl, HB3.out⟩
   | false =>
    go_wp2
    go_ret
    exact ⟨rfl, HB3.out⟩
  by_cases h3 : k = lArg
  ·obtain rfl : k = ([97, 114, 103] : List UInt8) := h3
   have HL := hidX (show lNum P S ⟨[97, 114, 103], xd, xa, xbb, xn, xm⟩ = inR 4 xn from by unfold lNum; exact (if_neg (show ¬ ([97, 114, 103] : List UInt8) = gParam by decide)).trans ((if_neg (show ¬ ([97, 114, 103] : List UInt8) = lLoad by decide)).trans ((if_neg (show ¬ ([97, 114, 103] : List UInt8) = lStore by decide)).trans (if_pos rfl))))
   go_upto_region 31 with fail
   refine rl31 y4 ?_
   intro u105 u106 u107 u108 u109 u110 u111 u112 r w3 hr hb3
   have HB3 := hidX (bl_trans HB2.out HB2.out.size hb3)
   have hl : ls = !r := by rw [HLN.out, HL.out, hr]; unfold inR; by_cases a1 : xn < 0 <;> by_cases a2 : 4 ≤ xn <;> simp [a1, a2] <;> omega
   subst hl
   clear hr hb3
   cases r with
   | true =>
    go_wp2
    go_ret
    exact ⟨rfl, HB3.out⟩
   | false =>
    go_wp2
    go_ret
    exact ⟨rfl, HB3.out⟩
  by_cases h4 : k = gCall
  ·obtain rfl : k = ([99, 97, 108, 108] : List UInt8) := h4
   have HL := hidX (show lNum P S ⟨[99, 97, 108, 108], xd, xa, xbb, xn, xm⟩ = inR 5 xn from by unfold lNum; exact (if_neg (show ¬ ([99, 97, 108, 108] : List UInt8) = gParam by decide)).trans ((if_neg (show ¬ ([99, 97, 108, 108] : List UInt8) = lLoad by decide)).trans ((if_neg (show ¬ ([99, 97, 108, 108] : List UInt8) = lStore by decide)).trans ((if_neg (show ¬ ([99, 97, 108, 108] : List UInt8) = lArg by decide)).trans (if_pos rfl)))))
   go_upto_region 31 with fail
   refine rl31 y4 ?_
   intro u105 u106 u107 u108 u109 u110 u111 u112 r w3 hr hb3
   have HB3 := hidX (bl_trans HB2.out HB2.out.size hb3)
   have hl : ls = !r := by rw [HLN.out, HL.out, hr]; unfold inR; by_cases a1 : xn < 0 <;> by_cases a2 : 5 ≤ xn <;> simp [a1, a2] <;> omega
   subst hl
   clear hr hb3
   cases r with
   | true =>
    go_wp2
    go_ret
    exact ⟨rfl, HB3.out⟩
   | false =>
    go_wp2
    go_ret
    exact ⟨rfl, HB3.out⟩
  have HL := hidX (show lNum P S ⟨k, xd, xa, xbb, xn, xm⟩ = true from by unfold lNum; exact (if_neg h0).trans ((if_neg h1).trans ((if_neg h2).trans ((if_neg h3).trans (if_neg h4)))))
  have t0 : (k == [112, 97, 114, 97, 109]) = false := ne_lit h0
  have t1 : (k == [108, 111, 97, 100]) = false := ne_lit h1
  have t2 : (k == [115, 116, 111, 114, 101]) = false := ne_lit h2
  have t3 : (k == [97, 114, 103]) = false := ne_lit h3
  have t4 : (k == [99, 97, 108, 108]) = false := ne_lit h4
  have hl : ls = true := by rw [HLN.out, HL.out]
  subst hl
  clear h0 h1 h2 h3 h4
  go_wp2
  go_ret
  exact ⟨rfl, HB2.out⟩
end Go.Proofs.YtimccbilkjjakaaDoor
