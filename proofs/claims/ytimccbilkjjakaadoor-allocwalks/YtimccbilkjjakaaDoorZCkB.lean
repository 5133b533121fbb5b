/- Our own: texts joined: AlCk3, AlCk4. -/
import Derived.Test.YtimccbilkjjakaaDoorZCkA
import Derived.Test.YtimccbilkjjakaaDoorZValAll
import Derived.Test.YtimccbilkjjakaaDoorZBase
namespace Go.Proofs.YtimccbilkjjakaaDoor
open Go.RowKit
noncomputable def cl1C : Code := ((Tryd.f36.body.bind (regionOf 1)).getD .skip)
set_option maxRecDepth 100000 in
set_option maxHeartbeats 4000000 in
theorem cl1 {W : World} {cb xb sb : Nat} {nm k xm sk : List UInt8} {P S xd xa xbb xn : Int} {ba : Option Addr} {bn bc : Nat} {sd sa sbb sn sm : Bool} (hC : ∀ Y, Below W.heap.size W Y → (Y.cell? ⟨cb, 0, none⟩ = some (.string ⟨nm.toArray⟩) ∧ Y.cell? ⟨cb, 1, none⟩ = some (.int .i64 P) ∧ Y.cell? ⟨cb, 2, none⟩ = some (.int .i64 S) ∧ Y.cell? ⟨cb, 3, none⟩ = some (.slice ba bn bc)) ∧ (Y.cell? ⟨xb, 0, none⟩ = some (.string ⟨k.toArray⟩) ∧ Y.cell? ⟨xb, 1, none⟩ = some (.int .i64 xd) ∧ Y.cell? ⟨xb, 2, none⟩ = some (.int .i64 xa) ∧ Y.cell? ⟨xb, 3, none⟩ = some (.int .i64 xbb) ∧ Y.cell? ⟨xb, 4, none⟩ = some (.int .i64 xn) ∧ Y.cell? ⟨xb, 5, none⟩ = some (.string ⟨xm.toArray⟩)) ∧ (Y.cell? ⟨sb, 0, none⟩ = some (.string ⟨sk.toArray⟩) ∧ Y.cell? ⟨sb, 1, none⟩ = some (.bool sd) ∧ Y.cell? ⟨sb, 2, none⟩ = some (.bool sa) ∧ Y.cell? ⟨sb, 3, none⟩ = some (.bool sbb) ∧ Y.cell? ⟨sb, 4, none⟩ = some (.bool sn) ∧ Y.cell? ⟨sb, 5, none⟩ = some (.bool sm))) {ob : Bool} (hO : Calls Tryd.prog 52 #[.string ⟨k.toArray⟩, .string ⟨xm.toArray⟩] W fun e w1 => e = .returned (.bool ob) ∧ Below W.heap.size W w1) {c0 c1 c2 c6 c19 c20 c21 c22 c23 c24 c25 c26 c27 c28 c29 c30 c31 c32 c33 c34 c35 c36 c37 c38 c39 c40 c41 c42 c43 c44 c45 c46 c47 c48 c49 c50 c51 c52 c53 c54 c55 c56 c57 c58 c59 c60 c61 c62 c63 c64 c65 c66 c67 c68 c69 c70 c71 c72 c73 c74 c75 c76 c77 c78 c79 c80 c81 c82 c83 c84 c85 c86 c87 c88 c89 c90 c91 c92 c93 c94 c95 c96 c97 c98 c99 c100 c101 c102 c103 c104 c105 : Value} {u7 u8 u9 u10 u11 u12 u13 u14 u15 u16 u17 u18 : Value} {Q : Exit → Act → World → Prop}
  (hN : ∀ (u8 u9 u10 u11 u12 u13 u14 u15 u16 u17 u18 : Value) (r : Bool) (w1 : World), r = (!(sk != [] && ob)) → Below W.heap.size W w1 → Q .normal ⟨#[c0, c1, c2, .pointer (some ⟨cb, 0, none⟩), .pointer (some ⟨xb, 0, none⟩), .pointer (some ⟨sb, 0, none⟩), c6, .bool r, u8, u9, u10, u11, u12, u13, u14, u15, u16, u17, u18, c19, c20, c21, c22, c23, c24, c25, c26, c27, c28, c29, c30, c31, c32, c33, c34, c35, c36, c37, c38, c39, c40, c41, c42, c43, c44, c45, c46, c47, c48, c49, c50, c51, c52, c53, c54, c55, c56, c57, c58, c59, c60, c61, c62, c63, c64, c65, c66, c67, c68, c69, c70, c71, c72, c73, c74, c75, c76, c77, c78, c79, c80, c81, c82, c83, c84, c85, c86, c87, c88, c89, c90, c91, c92, c93, c94, c95, c96, c97, c98, c99, c100, c101, c102, c103, c104, c105], []⟩ w1) : Code.wp Tryd.prog cl1C Q ⟨#[c0, c1, c2, .pointer (some ⟨cb, 0, none⟩), .pointer (some ⟨xb, 0, none⟩), .pointer (some ⟨sb, 0, none⟩), c6, u7, u8, u9, u10, u11, u12, u13, u14, u15, u16, u17, u18, c19, c20, c21, c22, c23, c24, c25, c26, c27, c28, c29, c30, c31, c32, c33, c34, c35, c36, c37, c38, c39, c40, c41, c42, c43, c44, c45, c46, c47, c48, c49, c50, c51, c52, c53, c54, c55, c56, c57, c58, c59, c60, c61, c62, c63, c64, c65, c66, c67, c68, c69, c70, c71, c72, c73, c74, c75, c76, c77, c78, c79, c80, c81, c82, c83, c84, c85, c86, c87, c88, c89, c90, c91, c92, c93, c94, c95, c96, c97, c98, c99, c100, c101, c102, c103, c104, c105], []⟩ W := by
 have HN := hidX hN
 have HC := hidX hC
 clear hN hC
 conv => arg 2; whnf
 obtain ⟨⟨k0, k1, k2, k3⟩, ⟨x0, x1, x2, x3, x4, x5⟩, ⟨s0, s1, s2, s3, s4, s5⟩⟩ := HC.out _ (Below.refl _ _)
 by_cases hk : sk = []
 ·have hk2 : (sk == []) = true := by simpa using hk
  subst hk
  go_wp2
  exact HN.out _ _ _ _ _ _ _ _ _ _ _  _ _ (by simp) (Below.refl _ _)
 ·have hk2 : (sk == []) = false := by simpa using hk
  have HK := hidX hk
  have HO := hidX hO
  clear hk
  go_wp2_with fail
  refine (HO.out).mono ?_
  rintro e w1 ⟨rfl, hb⟩
  have HB := hidX hb
  clear hb
  clear k0 k1 k2 k3 x0 x1 x2 x3 x4 x5 s0 s1 s2 s3 s4 s5
  go_wp2
  exact HN.out _ _ _ _ _ _ _ _ _ _ _  _ _ (by have := HK.out; simp [this]) HB.out
noncomputable def cl3C : Code := ((Tryd.f36.body.bind (regionOf 3)).getD .skip)
set_option maxRecDepth 100000 in
set_option maxHeartbeats 4000000 in
theorem cl3 {W : World} {cb xb sb : Nat} {nm k xm sk : List UInt8} {P S xd xa xbb xn : Int} {ba : Option Addr} {bn bc : Nat} {sd sa sbb sn sm : Bool} (hC : ∀ Y, Below W.heap.size W Y → (Y.cell? ⟨cb, 0, none⟩ = some (.string ⟨nm.toArray⟩) ∧ Y.cell? ⟨cb, 1, none⟩ = some (.int .i64 P) ∧ Y.cell? ⟨cb, 2, none⟩ = some (.int .i64 S) ∧ Y.cell? ⟨cb, 3, none⟩ = some (.slice ba bn bc)) ∧ (Y.cell? ⟨xb, 0, none⟩ = some (.string ⟨k.toArray⟩) ∧ Y.cell? ⟨xb, 1, none⟩ = some (.int .i64 xd) ∧ Y.cell? ⟨xb, 2, none⟩ = some (.int .i64 xa) ∧ Y.cell? ⟨xb, 3, none⟩ = some (.int .i64 xbb) ∧ Y.cell? ⟨xb, 4, none⟩ = some (.int .i64 xn) ∧ Y.cell? ⟨xb, 5, none⟩ = some (.string ⟨xm.toArray⟩)) ∧ (Y.cell? ⟨sb, 0, none⟩ = some (.string ⟨sk.toArray⟩) ∧ Y.cell? ⟨sb, 1, none⟩ = some (.bool sd) ∧ Y.cell? ⟨sb, 2, none⟩ = some (.bool sa) ∧ Y.cell? ⟨sb, 3, none⟩ = some (.bool sbb) ∧ Y.cell? ⟨sb, 4, none⟩ = some (.bool sn) ∧ Y.cell? ⟨sb, 5, none⟩ = some (.bool sm))) {nb : Bool} (hB : ∀ Y, Below W.heap.size W Y → Calls Tryd.prog 54 #[.agg #[.string ⟨nm.toArray⟩, .int .i64 P, .int .i64 S, .slice ba bn bc], .agg #[.string ⟨k.toArray⟩, .int .i64 xd, .int .i64 xa, .int .i64 xbb, .int .i64 xn, .string ⟨xm.toArray⟩]] Y fun e w1 => e = .returned (.bool nb) ∧ Below Y.heap.size Y w1) {c0 c1 c2 c6 c7 c8 c9 c10 c11 c12 c13 c14 c15 c16 c17 c18 c19 c55 c56 c57 c58 c59 c60 c61 c62 c63 c64 c65 c66 c67 c68 c69 c70 c71 c72 c73 c74 c75 c76 c77 c78 c79 c80 c81 c82 c83 c84 c85 c86 c87 c88 c89 c90 c91 c92 c93 c94 c95 c96 c97 c98 c99 c100 c101 c102 c103 c104 c105 : Value} {u20 u21 u22 u23 u24 u25 u26 u27 u28 u29 u30 u31 u32 u33 u34 u35 u36 u37 u38 u39 u40 u41 u42 u43 u44 u45 u46 u47 u48 u49 u50 u51 u52 u53 u54 : Value} {Q : Exit → Act → World → Prop}
  (hN : ∀ (u21 u22 u23 u24 u25 u26 u27 u28 u29 u30 u31 u32 u33 u34 u35 u36 u37 u38 u39 u40 u41 u42 u43 u44 u45 u46 u47 u48 u49 u50 u51 u52 u53 u54 : Value) (r : Bool) (w1 : World), r = (!((!sd || inR 8 xd) && (!sa || inR 8 xa) && (!sbb || inR 8 xbb) && nb)) → Below W.heap.size W w1 → Q .normal ⟨#[c0, c1, c2, .pointer (some ⟨cb, 0, none⟩), .pointer (some ⟨xb, 0, none⟩), .pointer (some ⟨sb, 0, none⟩), c6, c7, c8, c9, c10, c11, c12, c13, c14, c15, c16, c17, c18, c19, .bool r, u21, u22, u23, u24, u25, u26, u27, u28, u29, u30, u31, u32, u33, u34, u35, u36, u37, u38, u39, u40, u41, u42, u43, u44, u45, u46, u47, u48, u49, u50, u51, u52, u53, u54, c55, c56, c57, c58, c59, c60, c61, c62, c63, c64, c65, c66, c67, c68, c69, c70, c71, c72, c73, c74, c75, c76, c77, c78, c79, c80, c81, c82, c83, c84, c85, c86, c87, c88, c89, c90, c91, c92, c93, c94, c95, c96, c97, c98, c99, c100, c101, c102, c103, c104, c105], []⟩ w1) : Code.wp Tryd.prog cl3C Q ⟨#[c0, c1, c2, .pointer (some ⟨cb, 0, none⟩), .pointer (some ⟨xb, 0, none⟩), .pointer (some ⟨sb, 0, none⟩), c6, c7, c8, c9, c10, c11, c12, c13, c14, c15, c16, c17, c18, c19, u20, u21, u22, u23, u24, u25, u26, u27, u28, u29, u30, u31, u32, u33, u34, u35, u36, u37, u38, u39, u40, u41, u42, u43, u44, u45, u46, u47, u48, u49, u50, u51, u52, u53, u54, c55, c56, c57, c58, c59, c60, c61, c62, c63, c64, c65, c66, c67, c68, c69, c70, c71, c72, c73, c74, c75, c76, c77, c78, c79, c80, c81, c82, c83, c84, c85, c86, c87, c88, c89, c90, c91, c92, c93, c94, c95, c96, c97, c98, c99, c100, c101, c102, c103, c104, c105], []⟩ W := by
 have HN := hidX hN
 have HC := hidX hC
 clear hN hC
 have HB := hidX hB
 clear hB
 conv => arg 2; whnf
 obtain ⟨⟨k0, k1, k2, k3⟩, ⟨x0, x1, x2, x3, x4, x5⟩, ⟨s0, s1, s2, s3, s4, s5⟩⟩ := HC.out _ (Below.refl _ _)
 rcases Bool.eq_false_or_eq_true sd with h0 | h0
 ·subst h0
  go_wp2_with fail
  refine (isRegister_any xd _).mono ?_
  rintro e w1 ⟨rfl, hw1⟩
  replace hw1 := hw1.symm
  subst hw1
  cases hr0 : inR 8 xd with
  | false =>
   go_wp2
   exact HN.out _ _ _ _ _ _ _ _ _ _ _ _ _ _ _ _ _ _ _ _ _ _ _ _ _ _ _ _ _ _ _ _ _ _  _ _ (by simp [hr0]) (Below.refl _ _)
  | true =>
   rcases Bool.eq_false_or_eq_true sa with h1 | h1
   ·subst h1
    go_wp2_with fail
    refine (isRegister_any xa _).mono ?_
    rintro e w1 ⟨rfl, hw1⟩
    replace hw1 := hw1.symm
    subst hw1
    cases hr1 : inR 8 xa with
    | false =>
     go_wp2
     exact HN.out _ _ _ _ _ _ _ _ _ _ _ _ _ _ _ _ _ _ _ _ _ _ _ _ _ _ _ _ _ _ _ _ _ _  _ _ (by simp [hr1]) (Below.refl _ _)
    | true =>
     rcases Bool.eq_false_or_eq_true sbb with h2 | h2
     ·subst h2
      go_wp2_with fail
      refine (isRegister_any xbb _).mono ?_
      rintro e w1 ⟨rfl, hw1⟩
      replace hw1 := hw1.symm
      subst hw1
      cases hr2 : inR 8 xbb with
      | false =>
       go_wp2
       exact HN.out _ _ _ _ _ _ _ _ _ _ _ _ _ _ _ _ _ _ _ _ _ _ _ _ _ _ _ _ _ _ _ _ _ _  _ _ (by simp [hr2]) (Below.refl _ _)
      | true =>
       go_wp2_with fail
       refine (HB.out _ (by (repeat (first | exact Below.refl _ _ | assumption | refine Below.drew ?_ | refine bT ?_ _ | refine bS ?_ _ | refine bA ?_ _)))).mono ?_
       rintro e w1 ⟨rfl, hb1⟩
       clear k0 k1 k2 k3 x0 x1 x2 x3 x4 x5 s0 s1 s2 s3 s4 s5
       go_wp2
       exact HN.out _ _ _ _ _ _ _ _ _ _ _ _ _ _ _ _ _ _ _ _ _ _ _ _ _ _ _ _ _ _ _ _ _ _  _ _ (by simp [hr0, hr1, hr2]) hb1
     ·subst h2
      go_wp2_with fail
      refine (HB.out _ (by (repeat (first | exact Below.refl _ _ | assumption | refine Below.drew ?_ | refine bT ?_ _ | refine bS ?_ _ | refine bA ?_ _)))).mono ?_
      rintro e w1 ⟨rfl, hb1⟩
      clear k0 k1 k2 k3 x0 x1 x2 x3 x4 x5 s0 s1 s2 s3 s4 s5
      go_wp2
      exact HN.out _ _ _ _ _ _ _ _ _ _ _ _ _ _ _ _ _ _ _ _ _ _ _ _ _ _ _ _ _ _ _ _ _ _  _ _ (by simp [hr0, hr1]) hb1
   ·subst h1
    rcases Bool.eq_false_or_eq_true sbb with h2 | h2
    ·subst h2
     go_wp2_with fail
     refine (isRegister_any xbb _).mono ?_
     rintro e w1 ⟨rfl, hw1⟩
     replace hw1 := hw1.symm
     subst hw1
     cases hr2 : inR 8 xbb with
     | false =>
      go_wp2
      exact HN.out _ _ _ _ _ _ _ _ _ _ _ _ _ _ _ _ _ _ _ _ _ _ _ _ _ _ _ _ _ _ _ _ _ _  _ _ (by simp [hr2]) (Below.refl _ _)
     | true =>
      go_wp2_with fail
      refine (HB.out _ (by (repeat (first | exact Below.refl _ _ | assumption | refine Below.drew ?_ | refine bT ?_ _ | refine bS ?_ _ | refine bA ?_ _)))).mono ?_
      rintro e w1 ⟨rfl, hb1⟩
      clear k0 k1 k2 k3 x0 x1 x2 x3 x4 x5 s0 s1 s2 s3 s4 s5
      go_wp2
      exact HN.out _ _ _ _ _ _ _ _ _ _ _ _ _ _ _ _ _ _ _ _ _ _ _ _ _ _ _ _ _ _ _ _ _ _  _ _ (by simp [hr0, hr2]) hb1
    ·subst h2
     go_wp2_with fail
     refine (HB.out _ (by (repeat (first | exact Below.refl _ _ | assumption | refine Below.drew ?_ | refine bT ?_ _ | refine bS ?_ _ | refine bA ?_ _)))).mono ?_
     rintro e w1 ⟨rfl, hb1⟩
     clear k0 k1 k2 k3 x0 x1 x2 x3 x4 x5 s0 s1 s2 s3 s4 s5
     go_wp2
     exact HN.out _ _ _ _ _ _ _ _ _ _ _ _ _ _ _ _ _ _ _ _ _ _ _ _ _ _ _ _ _ _ _ _ _ _  _ _ (by simp [hr0]) hb1
 ·subst h0
  rcases Bool.eq_false_or_eq_true sa with h1 | h1
  ·subst h1
   go_wp2_with fail
   refine (isRegister_any xa _).mono ?_
   rintro e w1 ⟨rfl, hw1⟩
   replace hw1 := hw1.symm
   subst hw1
   cases hr1 : inR 8 xa with
   | false =>
    go_wp2
    exact HN.out _ _ _ _ _ _ _ _ _ _ _ _ _ _ _ _ _ _ _ _ _ _ _ _ _ _ _ _ _ _ _ _ _ _  _ _ (by simp [hr1]) (Below.refl _ _)
   | true =>
    rcases Bool.eq_false_or_eq_true sbb with h2 | h2
    ·subst h2
     go_wp2_with fail
     refine (isRegister_any xbb _).mono ?_
     rintro e w1 ⟨rfl, hw1⟩
     replace hw1 := hw1.symm
     subst hw1
     cases hr2 : inR 8 xbb with
     | false =>
      go_wp2
      exact HN.out _ _ _ _ _ _ _ _ _ _ _ _ _ _ _ _ _ _ _ _ _ _ _ _ _ _ _ _ _ _ _ _ _ _  _ _ (by simp [hr2]) (Below.refl _ _)
     | true =>
      go_wp2_with fail
      refine (HB.out _ (by (repeat (first | exact Below.refl _ _ | assumption | refine Below.drew ?_ | refine bT ?_ _ | refine bS ?_ _ | refine bA ?_ _)))).mono ?_
      rintro e w1 ⟨rfl, hb1⟩
      clear k0 k1 k2 k3 x0 x1 x2 x3 x4 x5 s0 s1 s2 s3 s4 s5
      go_wp2
      exact HN.out _ _ _ _ _ _ _ _ _ _ _ _ _ _ _ _ _ _ _ _ _ _ _ _ _ _ _ _ _ _ _ _ _ _  _ _ (by simp [hr1, hr2]) hb1
    ·subst h2
     go_wp2_with fail
     refine (HB.out _ (by (repeat (first | exact Below.refl _ _ | assumption | refine Below.drew ?_ | refine bT ?_ _ | refine bS ?_ _ | refine bA ?_ _)))).mono ?_
     rintro e w1 ⟨rfl, hb1⟩
     clear k0 k1 k2 k3 x0 x1 x2 x3 x4 x5 s0 s1 s2 s3 s4 s5
     go_wp2
     exact HN.out _ _ _ _ _ _ _ _ _ _ _ _ _ _ _ _ _ _ _ _ _ _ _ _ _ _ _ _ _ _ _ _ _ _  _ _ (by simp [hr1]) hb1
  ·subst h1
   rcases Bool.eq_false_or_eq_true sbb with h2 | h2
   ·subst h2
    go_wp2_with fail
    refine (isRegister_any xbb _).mono ?_
    rintro e w1 ⟨rfl, hw1⟩
    replace hw1 := hw1.symm
    subst hw1
    cases hr2 : inR 8 xbb with
    | false =>
     go_wp2
     exact HN.out _ _ _ _ _ _ _ _ _ _ _ _ _ _ _ _ _ _ _ _ _ _ _ _ _ _ _ _ _ _ _ _ _ _  _ _ (by simp [hr2]) (Below.refl _ _)
    | true =>
     go_wp2_with fail
     refine (HB.out _ (by (repeat (first | exact Below.refl _ _ | assumption | refine Below.drew ?_ | refine bT ?_ _ | refine bS ?_ _ | refine bA ?_ _)))).mono ?_
     rintro e w1 ⟨rfl, hb1⟩
     clear k0 k1 k2 k3 x0 x1 x2 x3 x4 x5 s0 s1 s2 s3 s4 s5
     go_wp2
     exact HN.out _ _ _ _ _ _ _ _ _ _ _ _ _ _ _ _ _ _ _ _ _ _ _ _ _ _ _ _ _ _ _ _ _ _  _ _ (by simp [hr2]) hb1
   ·subst h2
    go_wp2_with fail
    refine (HB.out _ (by (repeat (first | exact Below.refl _ _ | assumption | refine Below.drew ?_ | refine bT ?_ _ | refine bS ?_ _ | refine bA ?_ _)))).mono ?_
    rintro e w1 ⟨rfl, hb1⟩
    clear k0 k1 k2 k3 x0 x1 x2 x3 x4 x5 s0 s1 s2 s3 s4 s5
    go_wp2
    exact HN.out _ _ _ _ _ _ _ _ _ _ _ _ _ _ _ _ _ _ _ _ _ _ _ _ _ _ _ _ _ _ _ _ _ _  _ _ (by simp []) hb1
noncomputable def cl5C : Code := ((Tryd.f36.body.bind (regionOf 5)).getD .skip)
set_option maxRecDepth 100000 in
set_option maxHeartbeats 4000000 in
theorem cl5 {W : World} {cb xb sb : Nat} {nm k xm sk : List UInt8} {P S xd xa xbb xn : Int} {ba : Option Addr} {bn bc : Nat} {sd sa sbb sn sm : Bool} (hC : ∀ Y, Below W.heap.size W Y → (Y.cell? ⟨cb, 0, none⟩ = some (.string ⟨nm.toArray⟩) ∧ Y.cell? ⟨cb, 1, none⟩ = some (.int .i64 P) ∧ Y.cell? ⟨cb, 2, none⟩ = some (.int .i64 S) ∧ Y.cell? ⟨cb, 3, none⟩ = some (.slice ba bn bc)) ∧ (Y.cell? ⟨xb, 0, none⟩ = some (.string ⟨k.toArray⟩) ∧ Y.cell? ⟨xb, 1, none⟩ = some (.int .i64 xd) ∧ Y.cell? ⟨xb, 2, none⟩ = some (.int .i64 xa) ∧ Y.cell? ⟨xb, 3, none⟩ = some (.int .i64 xbb) ∧ Y.cell? ⟨xb, 4, none⟩ = some (.int .i64 xn) ∧ Y.cell? ⟨xb, 5, none⟩ = some (.string ⟨xm.toArray⟩)) ∧ (Y.cell? ⟨sb, 0, none⟩ = some (.string ⟨sk.toArray⟩) ∧ Y.cell? ⟨sb, 1, none⟩ = some (.bool sd) ∧ Y.cell? ⟨sb, 2, none⟩ = some (.bool sa) ∧ Y.cell? ⟨sb, 3, none⟩ = some (.bool sbb) ∧ Y.cell? ⟨sb, 4, none⟩ = some (.bool sn) ∧ Y.cell? ⟨sb, 5, none⟩ = some (.bool sm)))  {c0 c1 c2 c6 c7 c8 c9 c10 c11 c12 c13 c14 c15 c16 c17 c18 c19 c20 c21 c22 c23 c24 c25 c26 c27 c28 c29 c30 c31 c32 c33 c34 c35 c36 c37 c38 c39 c40 c41 c42 c43 c44 c45 c46 c47 c48 c49 c50 c51 c52 c53 c54 c55 c105 : Value} {u56 u57 u58 u59 u60 u61 u62 u63 u64 u65 u66 u67 u68 u69 u70 u71 u72 u73 u74 u75 u76 u77 u78 u79 u80 u81 u82 u83 u84 u85 u86 u87 u88 u89 u90 u91 u92 u93 u94 u95 u96 u97 u98 u99 u100 u101 u102 u103 u104 : Value} {Q : Exit → Act → World → Prop}
  (hN : ∀ (u57 u58 u59 u60 u61 u62 u63 u64 u65 u66 u67 u68 u69 u70 u71 u72 u73 u74 u75 u76 u77 u78 u79 u80 u81 u82 u83 u84 u85 u86 u87 u88 u89 u90 u91 u92 u93 u94 u95 u96 u97 u98 u99 u100 u101 u102 u103 u104 : Value) (r : Bool) (w1 : World), r = (!((sd || xd == 0) && (sa || xa == 0) && (sbb || xbb == 0) && (sn || xn == 0) && (sm || xm == []))) → Below W.heap.size W w1 → Q .normal ⟨#[c0, c1, c2, .pointer (some ⟨cb, 0, none⟩), .pointer (some ⟨xb, 0, none⟩), .pointer (some ⟨sb, 0, none⟩), c6, c7, c8, c9, c10, c11, c12, c13, c14, c15, c16, c17, c18, c19, c20, c21, c22, c23, c24, c25, c26, c27, c28, c29, c30, c31, c32, c33, c34, c35, c36, c37, c38, c39, c40, c41, c42, c43, c44, c45, c46, c47, c48, c49, c50, c51, c52, c53, c54, c55, .bool r, u57, u58, u59, u60, u61, u62, u63, u64, u65, u66, u67, u68, u69, u70, u71, u72, u73, u74, u75, u76, u77, u78, u79, u80, u81, u82, u83, u84, u85, u86, u87, u88, u89, u90, u91, u92, u93, u94, u95, u96, u97, u98, u99, u100, u101, u102, u103, u104, c105], []⟩ w1) : Code.wp Tryd.prog cl5C Q ⟨#[c0, c1, c2, .pointer (some ⟨cb, 0, none⟩), .pointer (some ⟨xb, 0, none⟩), .pointer (some ⟨sb, 0, none⟩), c6, c7, c8, c9, c10, c11, c12, c13, c14, c15, c16, c17, c18, c19, c20, c21, c22, c23, c24, c25, c26, c27, c28, c29, c30, c31, c32, c33, c34, c35, c36, c37, c38, c39, c40, c41, c42, c43, c44, c45, c46, c47, c48, c49, c50, c51, c52, c53, c54, c55, u56, u57, u58, u59, u60, u61, u62, u63, u64, u65, u66, u67, u68, u69, u70, u71, u72, u73, u74, u75, u76, u77, u78, u79, u80, u81, u82, u83, u84, u85, u86, u87, u88, u89, u90, u91, u92, u93, u94, u95, u96, u97, u98, u99, u100, u101, u102, u103, u104, c105], []⟩ W := by
 have HN := hidX hN
 have HC := hidX hC
 clear hN hC
 conv => arg 2; whnf
 obtain ⟨⟨k0, k1, k2, k3⟩, ⟨x0, x1, x2, x3, x4, x5⟩, ⟨s0, s1, s2, s3, s4, s5⟩⟩ := HC.out _ (Below.refl _ _)
 rcases Bool.eq_false_or_eq_true sd with h0 | h0
 ·subst h0
  rcases Bool.eq_false_or_eq_true sa with h1 | h1
  ·subst h1
   rcases Bool.eq_false_or_eq_true sbb with h2 | h2
   ·subst h2
    rcases Bool.eq_false_or_eq_true sn with h3 | h3
    ·subst h3
     rcases Bool.eq_false_or_eq_true sm with h4 | h4
     ·subst h4
      go_wp2
      exact HN.out _ _ _ _ _ _ _ _ _ _ _ _ _ _ _ _ _ _ _ _ _ _ _ _ _ _ _ _ _ _ _ _ _ _ _ _ _ _ _ _ _ _ _ _ _ _ _ _  _ _ (by simp []) (Below.refl _ _)
     ·subst h4
      by_cases hq4 : xm = []
      ·have hz4 : (xm == []) = true := by simpa using hq4
       go_wp2
       exact HN.out _ _ _ _ _ _ _ _ _ _ _ _ _ _ _ _ _ _ _ _ _ _ _ _ _ _ _ _ _ _ _ _ _ _ _ _ _ _ _ _ _ _ _ _ _ _ _ _  _ _ (by simp [hq4]) (Below.refl _ _)
      ·have hz4 : (xm == []) = false := by simpa using hq4
       go_wp2
       exact HN.out _ _ _ _ _ _ _ _ _ _ _ _ _ _ _ _ _ _ _ _ _ _ _ _ _ _ _ _ _ _ _ _ _ _ _ _ _ _ _ _ _ _ _ _ _ _ _ _  _ _ (by simp [hq4]) (Below.refl _ _)
    ·subst h3
     by_cases hq3 : xn = 0
     ·have hz3 : (xn == 0) = true := by simpa using hq3
      rcases Bool.eq_false_or_eq_true sm with h4 | h4
      ·subst h4
       go_wp2
       exact HN.out _ _ _ _ _ _ _ _ _ _ _ _ _ _ _ _ _ _ _ _ _ _ _ _ _ _ _ _ _ _ _ _ _ _ _ _ _ _ _ _ _ _ _ _ _ _ _ _  _ _ (by simp [hq3]) (Below.refl _ _)
      ·subst h4
       by_cases hq4 : xm = []
       ·have hz4 : (xm == []) = true := by simpa using hq4
        go_wp2
        exact HN.out _ _ _ _ _ _ _ _ _ _ _ _ _ _ _ _ _ _ _ _ _ _ _ _ _ _ _ _ _ _ _ _ _ _ _ _ _ _ _ _ _ _ _ _ _ _ _ _  _ _ (by simp [hq3, hq4]) (Below.refl _ _)
       ·have hz4 : (xm == []) = false := by simpa using hq4
        go_wp2
        exact HN.out _ _ _ _ _ _ _ _ _ _ _ _ _ _ _ _ _ _ _ _ _ _ _ _ _ _ _ _ _ _ _ _ _ _ _ _ _ _ _ _ _ _ _ _ _ _ _ _  _ _ (by simp [hq4]) (Below.refl _ _)
     ·have hz3 : (xn == 0) = false := by simpa using hq3
      go_wp2
      exact HN.out _ _ _ _ _ _ _ _ _ _ _ _ _ _ _ _ _ _ _ _ _ _ _ _ _ _ _ _ _ _ _ _ _ _ _ _ _ _ _ _ _ _ _ _ _ _ _ _  _ _ (by simp [hq3]) (Below.refl _ _)
   ·subst h2
    by_cases hq2 : xbb = 0
    ·have hz2 : (xbb == 0) = true := by simpa using hq2
     rcases Bool.eq_false_or_eq_true sn with h3 | h3
     ·subst h3
      rcases Bool.eq_false_or_eq_true sm with h4 | h4
      ·subst h4
       go_wp2
       exact HN.out _ _ _ _ _ _ _ _ _ _ _ _ _ _ _ _ _ _ _ _ _ _ _ _ _ _ _ _ _ _ _ _ _ _ _ _ _ _ _ _ _ _ _ _ _ _ _ _  _ _ (by simp [hq2]) (Below.refl _ _)
      ·subst h4
       by_cases hq4 : xm = []
       ·have hz4 : (xm == []) = true := by simpa using hq4
        go_wp2
        exact HN.out _ _ _ _ _ _ _ _ _ _ _ _ _ _ _ _ _ _ _ _ _ _ _ _ _ _ _ _ _ _ _ _ _ _ _ _ _ _ _ _ _ _ _ _ _ _ _ _  _ _ (by simp [hq2, hq4]) (Below.refl _ _)
       ·have hz4 : (xm == []) = false := by simpa using hq4
        go_wp2
        exact HN.out _ _ _ _ _ _ _ _ _ _ _ _ _ _ _ _ _ _ _ _ _ _ _ _ _ _ _ _ _ _ _ _ _ _ _ _ _ _ _ _ _ _ _ _ _ _ _ _  _ _ (by simp [hq4]) (Below.refl _ _)
     ·subst h3
      by_cases hq3 : xn = 0
      ·have hz3 : (xn == 0) = true := by simpa using hq3
       rcases Bool.eq_false_or_eq_true sm with h4 | h4
       ·subst h4
        go_wp2
        exact HN.out _ _ _ _ _ _ _ _ _ _ _ _ _ _ _ _ _ _ _ _ _ _ _ _ _ _ _ _ _ _ _ _ _ _ _ _ _ _ _ _ _ _ _ _ _ _ _ _  _ _ (by simp [hq2, hq3]) (Below.refl _ _)
       ·subst h4
        by_cases hq4 : xm = []
        ·have hz4 : (xm == []) = true := by simpa using hq4
         go_wp2
         exact HN.out _ _ _ _ _ _ _ _ _ _ _ _ _ _ _ _ _ _ _ _ _ _ _ _ _ _ _ _ _ _ _ _ _ _ _ _ _ _ _ _ _ _ _ _ _ _ _ _  _ _ (by simp [hq2, hq3, hq4]) (Below.refl _ _)
        ·have hz4 : (xm == []) = false := by simpa using hq4
         go_wp2
         exact HN.out _ _ _ _ _ _ _ _ _ _ _ _ _ _ _ _ _ _ _ _ _ _ _ _ _ _ _ _ _ _ _ _ _ _ _ _ _ _ _ _ _ _ _ _ _ _ _ _  _ _ (by simp [hq4]) (Below.refl _ _)
      ·have hz3 : (xn == 0) = false := by simpa using hq3
       go_wp2
       exact HN.out _ _ _ _ _ _ _ _ _ _ _ _ _ _ _ _ _ _ _ _ _ _ _ _ _ _ _ _ _ _ _ _ _ _ _ _ _ _ _ _ _ _ _ _ _ _ _ _  _ _ (by simp [hq3]) (Below.refl _ _)
    ·have hz2 : (xbb == 0) = false := by simpa using hq2
     go_wp2
     exact HN.out _ _ _ _ _ _ _ _ _ _ _ _ _ _ _ _ _ _ _ _ _ _ _ _ _ _ _ _ _ _ _ _ _ _ _ _ _ _ _ _ _ _ _ _ _ _ _ _  _ _ (by simp [hq2]) (Below.refl _ _)
  ·subst h1
   by_cases hq1 : xa = 0
   ·have hz1 : (xa == 0) = true := by simpa using hq1
    rcases Bool.eq_false_or_eq_true sbb with h2 | h2
    ·subst h2
     rcases Bool.eq_false_or_eq_true sn with h3 | h3
     ·subst h3
      rcases Bool.eq_false_or_eq_true sm with h4 | h4
      ·subst h4
       go_wp2
       exact HN.out _ _ _ _ _ _ _ _ _ _ _ _ _ _ _ _ _ _ _ _ _ _ _ _ _ _ _ _ _ _ _ _ _ _ _ _ _ _ _ _ _ _ _ _ _ _ _ _  _ _ (by simp [hq1]) (Below.refl _ _)
      ·subst h4
       by_cases hq4 : xm = []
       ·have hz4 : (xm == []) = true := by simpa using hq4
        go_wp2
        exact HN.out _ _ _ _ _ _ _ _ _ _ _ _ _ _ _ _ _ _ _ _ _ _ _ _ _ _ _ _ _ _ _ _ _ _ _ _ _ _ _ _ _ _ _ _ _ _ _ _  _ _ (by simp [hq1, hq4]) (Below.refl _ _)
       ·have hz4 : (xm == []) = false := by simpa using hq4
        go_wp2
        exact HN.out _ _ _ _ _ _ _ _ _ _ _ _ _ _ _ _ _ _ _ _ _ _ _ _ _ _ _ _ _ _ _ _ _ _ _ _ _ _ _ _ _ _ _ _ _ _ _ _  _ _ (by simp [hq4]) (Below.refl _ _)
     ·subst h3
      by_cases hq3 : xn = 0
      ·have hz3 : (xn == 0) = true := by simpa using hq3
       rcases Bool.eq_false_or_eq_true sm with h4 | h4
       ·subst h4
        go_wp2
        exact HN.out _ _ _ _ _ _ _ _ _ _ _ _ _ _ _ _ _ _ _ _ _ _ _ _ _ _ _ _ _ _ _ _ _ _ _ _ _ _ _ _ _ _ _ _ _ _ _ _  _ _ (by simp [hq1, hq3]) (Below.refl _ _)
       ·subst h4
        by_cases hq4 : xm = []
        ·have hz4 : (xm == []) = true := by simpa using hq4
         go_wp2
         exact HN.out _ _ _ _ _ _ _ _ _ _ _ _ _ _ _ _ _ _ _ _ _ _ _ _ _ _ _ _ _ _ _ _ _ _ _ _ _ _ _ _ _ _ _ _ _ _ _ _  _ _ (by simp [hq1, hq3, hq4]) (Below.refl _ _)
        ·have hz4 : (xm == []) = false := by simpa using hq4
         go_wp2
         exact HN.out _ _ _ _ _ _ _ _ _ _ _ _ _ _ _ _ _ _ _ _ _ _ _ _ _ _ _ _ _ _ _ _ _ _ _ _ _ _ _ _ _ _ _ _ _ _ _ _  _ _ (by simp [hq4]) (Below.refl _ _)
      ·have hz3 : (xn == 0) = false := by simpa using hq3
       go_wp2
       exact HN.out _ _ _ _ _ _ _ _ _ _ _ _ _ _ _ _ _ _ _ _ _ _ _ _ _ _ _ _ _ _ _ _ _ _ _ _ _ _ _ _ _ _ _ _ _ _ _ _  _ _ (by simp [hq3]) (Below.refl _ _)
    ·subst h2
     by_cases hq2 : xbb = 0
     ·have hz2 : (xbb == 0) = true := by simpa using hq2
      rcases Bool.eq_false_or_eq_true sn with h3 | h3
      ·subst h3
       rcases Bool.eq_false_or_eq_true sm with h4 | h4
       ·subst h4
        go_wp2
        exact HN.out _ _ _ _ _ _ _ _ _ _ _ _ _ _ _ _ _ _ _ _ _ _ _ _ _ _ _ _ _ _ _ _ _ _ _ _ _ _ _ _ _ _ _ _ _ _ _ _  _ _ (by simp [hq1, hq2]) (Below.refl _ _)
       ·subst h4
        by_cases hq4 : xm = []
        ·have hz4 : (xm == []) = true := by simpa using hq4
         go_wp2
         exact HN.out _ _ _ _ _ _ _ _ _ _ _ _ _ _ _ _ _ _ _ _ _ _ _ _ _ _ _ _ _ _ _ _ _ _ _ _ _ _ _ _ _ _ _ _ _ _ _ _  _ _ (by simp [hq1, hq2, hq4]) (Below.refl _ _)
        ·have hz4 : (xm == []) = false := by simpa using hq4
         go_wp2
         exact HN.out _ _ _ _ _ _ _ _ _ _ _ _ _ _ _ _ _ _ _ _ _ _ _ _ _ _ _ _ _ _ _ _ _ _ _ _ _ _ _ _ _ _ _ _ _ _ _ _  _ _ (by simp [hq4]) (Below.refl _ _)
      ·subst h3
       by_cases hq3 : xn = 0
       ·have hz3 : (xn == 0) = true := by simpa using hq3
        rcases Bool.eq_false_or_eq_true sm with h4 | h4
        ·subst h4
         go_wp2
         exact HN.out _ _ _ _ _ _ _ _ _ _ _ _ _ _ _ _ _ _ _ _ _ _ _ _ _ _ _ _ _ _ _ _ _ _ _ _ _ _ _ _ _ _ _ _ _ _ _ _  _ _ (by simp [hq1, hq2, hq3]) (Below.refl _ _)
        ·subst h4
         by_cases hq4 : xm = []
         ·have hz4 : (xm == []) = true := by simpa using hq4
          go_wp2
          exact HN.out _ _ _ _ _ _ _ _ _ _ _ _ _ _ _ _ _ _ _ _ _ _ _ _ _ _ _ _ _ _ _ _ _ _ _ _ _ _ _ _ _ _ _ _ _ _ _ _  _ _ (by simp [hq1, hq2, hq3, hq4]) (Below.refl _ _)
         ·have hz4 : (xm == []) = false := by simpa using hq4
          go_wp2
          exact HN.out _ _ _ _ _ _ _ _ _ _ _ _ _ _ _ _ _ _ _ _ _ _ _ _ _ _ _ _ _ _ _ _ _ _ _ _ _ _ _ _ _ _ _ _ _ _ _ _  _ _ (by simp [hq4]) (Below.refl _ _)
       ·have hz3 : (xn == 0) = false := by simpa using hq3
        go_wp2
        exact HN.out _ _ _ _ _ _ _ _ _ _ _ _ _ _ _ _ _ _ _ _ _ _ _ _ _ _ _ _ _ _ _ _ _ _ _ _ _ _ _ _ _ _ _ _ _ _ _ _  _ _ (by simp [hq3]) (Below.refl _ _)
     ·have hz2 : (xbb == 0) = false := by simpa using hq2
      go_wp2
      exact HN.out _ _ _ _ _ _ _ _ _ _ _ _ _ _ _ _ _ _ _ _ _ _ _ _ _ _ _ _ _ _ _ _ _ _ _ _ _ _ _ _ _ _ _ _ _ _ _ _  _ _ (by simp [hq2]) (Below.refl _ _)
   ·have hz1 : (xa == 0) = false := by simpa using hq1
    go_wp2
    exact HN.out _ _ _ _ _ _ _ _ _ _ _ _ _ _ _ _ _ _ _ _ _ _ _ _ _ _ _ _ _ _ _ _ _ _ _ _ _ _ _ _ _ _ _ _ _ _ _ _  _ _ (by simp [hq1]) (Below.refl _ _)
 ·subst h0
  by_cases hq0 : xd = 0
  ·have hz0 : (xd == 0) = true := by simpa using hq0
   rcases Bool.eq_false_or_eq_true sa with h1 | h1
   ·subst h1
    rcases Bool.eq_false_or_eq_true sbb with h2 | h2
    ·subst h2
     rcases Bool.eq_false_or_eq_true sn with h3 | h3
     ·subst h3
      rcases Bool.eq_false_or_eq_true sm with h4 | h4
      ·subst h4
       go_wp2
       exact HN.out _ _ _ _ _ _ _ _ _ _ _ _ _ _ _ _ _ _ _ _ _ _ _ _ _ _ _ _ _ _ _ _ _ _ _ _ _ _ _ _ _ _ _ _ _ _ _ _  _ _ (by simp [hq0]) (Below.refl _ _)
      ·subst h4
       by_cases hq4 : xm = []
       ·have hz4 : (xm == []) = true := by simpa using hq4
        go_wp2
        exact HN.out _ _ _ _ _ _ _ _ _ _ _ _ _ _ _ _ _ _ _ _ _ _ _ _ _ _ _ _ _ _ _ _ _ _ _ _ _ _ _ _ _ _ _ _ _ _ _ _  _ _ (by simp [hq0, hq4]) (Below.refl _ _)
       ·have hz4 : (xm == []) = false := by simpa using hq4
        go_wp2
        exact HN.out _ _ _ _ _ _ _ _ _ _ _ _ _ _ _ _ _ _ _ _ _ _ _ _ _ _ _ _ _ _ _ _ _ _ _ _ _ _ _ _ _ _ _ _ _ _ _ _  _ _ (by simp [hq4]) (Below.refl _ _)
     ·subst h3
      by_cases hq3 : xn = 0
      ·have hz3 : (xn == 0) = true := by simpa using hq3
       rcases Bool.eq_false_or_eq_true sm with h4 | h4
       ·subst h4
        go_wp2
        exact HN.out _ _ _ _ _ _ _ _ _ _ _ _ _ _ _ _ _ _ _ _ _ _ _ _ _ _ _ _ _ _ _ _ _ _ _ _ _ _ _ _ _ _ _ _ _ _ _ _  _ _ (by simp [hq0, hq3]) (Below.refl _ _)
       ·subst h4
        by_cases hq4 : xm = []
        ·have hz4 : (xm == []) = true := by simpa using hq4
         go_wp2
         exact HN.out _ _ _ _ _ _ _ _ _ _ _ _ _ _ _ _ _ _ _ _ _ _ _ _ _ _ _ _ _ _ _ _ _ _ _ _ _ _ _ _ _ _ _ _ _ _ _ _  _ _ (by simp [hq0, hq3, hq4]) (Below.refl _ _)
        ·have hz4 : (xm == []) = false := by simpa using hq4
         go_wp2
         exact HN.out _ _ _ _ _ _ _ _ _ _ _ _ _ _ _ _ _ _ _ _ _ _ _ _ _ _ _ _ _ _ _ _ _ _ _ _ _ _ _ _ _ _ _ _ _ _ _ _  _ _ (by simp [hq4]) (Below.refl _ _)
      ·have hz3 : (xn == 0) = false := by simpa using hq3
       go_wp2
       exact HN.out _ _ _ _ _ _ _ _ _ _ _ _ _ _ _ _ _ _ _ _ _ _ _ _ _ _ _ _ _ _ _ _ _ _ _ _ _ _ _ _ _ _ _ _ _ _ _ _  _ _ (by simp [hq3]) (Below.refl _ _)
    ·subst h2
     by_cases hq2 : xbb = 0
     ·have hz2 : (xbb == 0) = true := by simpa using hq2
      rcases Bool.eq_false_or_eq_true sn with h3 | h3
      ·subst h3
       rcases Bool.eq_false_or_eq_true sm with h4 | h4
       ·subst h4
        go_wp2
        exact HN.out _ _ _ _ _ _ _ _ _ _ _ _ _ _ _ _ _ _ _ _ _ _ _ _ _ _ _ _ _ _ _ _ _ _ _ _ _ _ _ _ _ _ _ _ _ _ _ _  _ _ (by simp [hq0, hq2]) (Below.refl _ _)
       ·subst h4
        by_cases hq4 : xm = []
        ·have hz4 : (xm == []) = true := by simpa using hq4
         go_wp2
         exact HN.out _ _ _ _ _ _ _ _ _ _ _ _ _ _ _ _ _ _ _ _ _ _ _ _ _ _ _ _ _ _ _ _ _ _ _ _ _ _ _ _ _ _ _ _ _ _ _ _  _ _ (by simp [hq0, hq2, hq4]) (Below.refl _ _)
        ·have hz4 : (xm == []) = false := by simpa using hq4
         go_wp2
         exact HN.out _ _ _ _ _ _ _ _ _ _ _ _ _ _ _ _ _ _ _ _ _ _ _ _ _ _ _ _ _ _ _ _ _ _ _ _ _ _ _ _ _ _ _ _ _ _ _ _  _ _ (by simp [hq4]) (Below.refl _ _)
      ·subst h3
       by_cases hq3 : xn = 0
       ·have hz3 : (xn == 0) = true := by simpa using hq3
        rcases Bool.eq_false_or_eq_true sm with h4 | h4
        ·subst h4
         go_wp2
         exact HN.out _ _ _ _ _ _ _ _ _ _ _ _ _ _ _ _ _ _ _ _ _ _ _ _ _ _ _ _ _ _ _ _ _ _ _ _ _ _ _ _ _ _ _ _ _ _ _ _  _ _ (by simp [hq0, hq2, hq3]) (Below.refl _ _)
        ·subst h4
         by_cases hq4 : xm = []
         ·have hz4 : (xm == []) = true := by simpa using hq4
          go_wp2
          exact HN.out _ _ _ _ _ _ _ _ _ _ _ _ _ _ _ _ _ _ _ _ _ _ _ _ _ _ _ _ _ _ _ _ _ _ _ _ _ _ _ _ _ _ _ _ _ _ _ _  _ _ (by simp [hq0, hq2, hq3, hq4]) (Below.refl _ _)
         ·have hz4 : (xm == []) = false := by simpa using hq4
          go_wp2
          exact HN.out _ _ _ _ _ _ _ _ _ _ _ _ _ _ _ _ _ _ _ _ _ _ _ _ _ _ _ _ _ _ _ _ _ _ _ _ _ _ _ _ _ _ _ _ _ _ _ _  _ _ (by simp [hq4]) (Below.refl _ _)
       ·have hz3 : (xn == 0) = false := by simpa using hq3
        go_wp2
        exact HN.out _ _ _ _ _ _ _ _ _ _ _ _ _ _ _ _ _ _ _ _ _ _ _ _ _ _ _ _ _ _ _ _ _ _ _ _ _ _ _ _ _ _ _ _ _ _ _ _  _ _ (by simp [hq3]) (Below.refl _ _)
     ·have hz2 : (xbb == 0) = false := by simpa using hq2
      go_wp2
      exact HN.out _ _ _ _ _ _ _ _ _ _ _ _ _ _ _ _ _ _ _ _ _ _ _ _ _ _ _ _ _ _ _ _ _ _ _ _ _ _ _ _ _ _ _ _ _ _ _ _  _ _ (by simp [hq2]) (Below.refl _ _)
   ·subst h1
    by_cases hq1 : xa = 0
    ·have hz1 : (xa == 0) = true := by simpa using hq1
     rcases Bool.eq_false_or_eq_true sbb with h2 | h2
     ·subst h2
      rcases Bool.eq_false_or_eq_true sn with h3 | h3
      ·subst h3
       rcases Bool.eq_false_or_eq_true sm with h4 | h4
       ·subst h4
        go_wp2
        exact HN.out _ _ _ _ _ _ _ _ _ _ _ _ _ _ _ _ _ _ _ _ _ _ _ _ _ _ _ _ _ _ _ _ _ _ _ _ _ _ _ _ _ _ _ _ _ _ _ _  _ _ (by simp [hq0, hq1]) (Below.refl _ _)
       ·subst h4
        by_cases hq4 : xm = []
        ·have hz4 : (xm == []) = true := by simpa using hq4
         go_wp2
         exact HN.out _ _ _ _ _ _ _ _ _ _ _ _ _ _ _ _ _ _ _ _ _ _ _ _ _ _ _ _ _ _ _ _ _ _ _ _ _ _ _ _ _ _ _ _ _ _ _ _  _ _ (by simp [hq0, hq1, hq4]) (Below.refl _ _)
        ·have hz4 : (xm == []) = false := by simpa using hq4
         go_wp2
         exact HN.out _ _ _ _ _ _ _ _ _ _ _ _ _ _ _ _ _ _ _ _ _ _ _ _ _ _ _ _ _ _ _ _ _ _ _ _ _ _ _ _ _ _ _ _ _ _ _ _  _ _ (by simp [hq4]) (Below.refl _ _)
      ·subst h3
       by_cases hq3 : xn = 0
       ·have hz3 : (xn == 0) = true := by simpa using hq3
        rcases Bool.eq_false_or_eq_true sm with h4 | h4
        ·subst h4
         go_wp2
         exact HN.out _ _ _ _ _ _ _ _ _ _ _ _ _ _ _ _ _ _ _ _ _ _ _ _ _ _ _ _ _ _ _ _ _ _ _ _ _ _ _ _ _ _ _ _ _ _ _ _  _ _ (by simp [hq0, hq1, hq3]) (Below.refl _ _)
        ·subst h4
         by_cases hq4 : xm = []
         ·have hz4 : (xm == []) = true := by simpa using hq4
          go_wp2
          exact HN.out _ _ _ _ _ _ _ _ _ _ _ _ _ _ _ _ _ _ _ _ _ _ _ _ _ _ _ _ _ _ _ _ _ _ _ _ _ _ _ _ _ _ _ _ _ _ _ _  _ _ (by simp [hq0, hq1, hq3, hq4]) (Below.refl _ _)
         ·have hz4 : (xm == []) = false := by simpa using hq4
          go_wp2
          exact HN.out _ _ _ _ _ _ _ _ _ _ _ _ _ _ _ _ _ _ _ _ _ _ _ _ _ _ _ _ _ _ _ _ _ _ _ _ _ _ _ _ _ _ _ _ _ _ _ _  _ _ (by simp [hq4]) (Below.refl _ _)
       ·have hz3 : (xn == 0) = false := by simpa using hq3
        go_wp2
        exact HN.out _ _ _ _ _ _ _ _ _ _ _ _ _ _ _ _ _ _ _ _ _ _ _ _ _ _ _ _ _ _ _ _ _ _ _ _ _ _ _ _ _ _ _ _ _ _ _ _  _ _ (by simp [hq3]) (Below.refl _ _)
     ·subst h2
      by_cases hq2 : xbb = 0
      ·have hz2 : (xbb == 0) = true := by simpa using hq2
       rcases Bool.eq_false_or_eq_true sn with h3 | h3
       ·subst h3
        rcases Bool.eq_false_or_eq_true sm with h4 | h4
        ·subst h4
         go_wp2
         exact HN.out _ _ _ _ _ _ _ _ _ _ _ _ _ _ _ _ _ _ _ _ _ _ _ _ _ _ _ _ _ _ _ _ _ _ _ _ _ _ _ _ _ _ _ _ _ _ _ _  _ _ (by simp [hq0, hq1, hq2]) (Below.refl _ _)
        ·subst h4
         by_cases hq4 : xm = []
         ·have hz4 : (xm == []) = true := by simpa using hq4
          go_wp2
          exact HN.out _ _ _ _ _ _ _ _ _ _ _ _ _ _ _ _ _ _ _ _ _ _ _ _ _ _ _ _ _ _ _ _ _ _ _ _ _ _ _ _ _ _ _ _ _ _ _ _  _ _ (by simp [hq0, hq1, hq2, hq4]) (Below.refl _ _)
         ·have hz4 : (xm == []) = false := by simpa using hq4
          go_wp2
          exact HN.out _ _ _ _ _ _ _ _ _ _ _ _ _ _ _ _ _ _ _ _ _ _ _ _ _ _ _ _ _ _ _ _ _ _ _ _ _ _ _ _ _ _ _ _ _ _ _ _  _ _ (by simp [hq4]) (Below.refl _ _)
       ·subst h3
        by_cases hq3 : xn = 0
        ·have hz3 : (xn == 0) = true := by simpa using hq3
         rcases Bool.eq_false_or_eq_true sm with h4 | h4
         ·subst h4
          go_wp2
          exact HN.out _ _ _ _ _ _ _ _ _ _ _ _ _ _ _ _ _ _ _ _ _ _ _ _ _ _ _ _ _ _ _ _ _ _ _ _ _ _ _ _ _ _ _ _ _ _ _ _  _ _ (by simp [hq0, hq1, hq2, hq3]) (Below.refl _ _)
         ·subst h4
          by_cases hq4 : xm = []
          ·have hz4 : (xm == []) = true := by simpa using hq4
           go_wp2
           exact HN.out _ _ _ _ _ _ _ _ _ _ _ _ _ _ _ _ _ _ _ _ _ _ _ _ _ _ _ _ _ _ _ _ _ _ _ _ _ _ _ _ _ _ _ _ _ _ _ _  _ _ (by simp [hq0, hq1, hq2, hq3, hq4]) (Below.refl _ _)
          ·have hz4 : (xm == []) = false := by simpa using hq4
           go_wp2
           exact HN.out _ _ _ _ _ _ _ _ _ _ _ _ _ _ _ _ _ _ _ _ _ _ _ _ _ _ _ _ _ _ _ _ _ _ _ _ _ _ _ _ _ _ _ _ _ _ _ _  _ _ (by simp [hq4]) (Below.refl _ _)
        ·have hz3 : (xn == 0) = false := by simpa using hq3
         go_wp2
         exact HN.out _ _ _ _ _ _ _ _ _ _ _ _ _ _ _ _ _ _ _ _ _ _ _ _ _ _ _ _ _ _ _ _ _ _ _ _ _ _ _ _ _ _ _ _ _ _ _ _  _ _ (by simp [hq3]) (Below.refl _ _)
      ·have hz2 : (xbb == 0) = false := by simpa using hq2
       go_wp2
       exact HN.out _ _ _ _ _ _ _ _ _ _ _ _ _ _ _ _ _ _ _ _ _ _ _ _ _ _ _ _ _ _ _ _ _ _ _ _ _ _ _ _ _ _ _ _ _ _ _ _  _ _ (by simp [hq2]) (Below.refl _ _)
    ·have hz1 : (xa == 0) = false := by simpa using hq1
     go_wp2
     exact HN.out _ _ _ _ _ _ _ _ _ _ _ _ _ _ _ _ _ _ _ _ _ _ _ _ _ _ _ _ _ _ _ _ _ _ _ _ _ _ _ _ _ _ _ _ _ _ _ _  _ _ (by simp [hq1]) (Below.refl _ _)
  ·have hz0 : (xd == 0) = false := by simpa using hq0
   go_wp2
   exact HN.out _ _ _ _ _ _ _ _ _ _ _ _ _ _ _ _ _ _ _ _ _ _ _ _ _ _ _ _ _ _ _ _ _ _ _ _ _ _ _ _ _ _ _ _ _ _ _ _  _ _ (by simp [hq0]) (Below.refl _ _)
end Go.Proofs.YtimccbilkjjakaaDoor
namespace Go.Proofs.YtimccbilkjjakaaDoor
open Go.RowKit
noncomputable def cl0C : Code := ((Tryd.f36.body.bind (regionOf 0)).getD .skip)
set_option maxRecDepth 100000 in
set_option maxHeartbeats 4000000 in
theorem cl0 {w : World} {nm k xm sk : List UInt8} {P S xd xa xbb xn : Int} {ba : Option Addr} {bn bc sw : Nat} {sd sa sbb sn sm sf : Bool} {c7 c8 c9 c10 c11 c12 c13 c14 c15 c16 c17 c18 c19 c20 c21 c22 c23 c24 c25 c26 c27 c28 c29 c30 c31 c32 c33 c34 c35 c36 c37 c38 c39 c40 c41 c42 c43 c44 c45 c46 c47 c48 c49 c50 c51 c52 c53 c54 c55 c56 c57 c58 c59 c60 c61 c62 c63 c64 c65 c66 c67 c68 c69 c70 c71 c72 c73 c74 c75 c76 c77 c78 c79 c80 c81 c82 c83 c84 c85 c86 c87 c88 c89 c90 c91 c92 c93 c94 c95 c96 c97 c98 c99 c100 c101 c102 c103 c104 c105 : Value} {u3 u4 u5 u6 : Value} {Q : Exit → Act → World → Prop}
  (hN : Q .normal ⟨#[.agg (lcV nm P S (.slice ba bn bc)), .agg #[.string ⟨k.toArray⟩, .int .i64 xd, .int .i64 xa, .int .i64 xbb, .int .i64 xn, .string ⟨xm.toArray⟩], .agg #[.string ⟨sk.toArray⟩, .bool sd, .bool sa, .bool sbb, .bool sn, .bool sm, .bool sf, .int .i64 (sw : Int)], .pointer (some ⟨w.heap.size, 0, none⟩), .pointer (some ⟨w.heap.size + 1, 0, none⟩), .pointer (some ⟨w.heap.size + 1 + 1, 0, none⟩), .nilIface, c7, c8, c9, c10, c11, c12, c13, c14, c15, c16, c17, c18, c19, c20, c21, c22, c23, c24, c25, c26, c27, c28, c29, c30, c31, c32, c33, c34, c35, c36, c37, c38, c39, c40, c41, c42, c43, c44, c45, c46, c47, c48, c49, c50, c51, c52, c53, c54, c55, c56, c57, c58, c59, c60, c61, c62, c63, c64, c65, c66, c67, c68, c69, c70, c71, c72, c73, c74, c75, c76, c77, c78, c79, c80, c81, c82, c83, c84, c85, c86, c87, c88, c89, c90, c91, c92, c93, c94, c95, c96, c97, c98, c99, c100, c101, c102, c103, c104, c105], []⟩ (((w.alloc (.cells (lcV nm P S (.slice ba bn bc)) 31)).alloc (.cells #[.string ⟨k.toArray⟩, .int .i64 xd, .int .i64 xa, .int .i64 xbb, .int .i64 xn, .string ⟨xm.toArray⟩] 52)).alloc (.cells #[.string ⟨sk.toArray⟩, .bool sd, .bool sa, .bool sbb, .bool sn, .bool sm, .bool sf, .int .i64 (sw : Int)] 97))) : Code.wp Tryd.prog cl0C Q ⟨#[.agg (lcV nm P S (.slice ba bn bc)), .agg #[.string ⟨k.toArray⟩, .int .i64 xd, .int .i64 xa, .int .i64 xbb, .int .i64 xn, .string ⟨xm.toArray⟩], .agg #[.string ⟨sk.toArray⟩, .bool sd, .bool sa, .bool sbb, .bool sn, .bool sm, .bool sf, .int .i64 (sw : Int)], u3, u4, u5, u6, c7, c8, c9, c10, c11, c12, c13, c14, c15, c16, c17, c18, c19, c20, c21, c22, c23, c24, c25, c26, c27, c28, c29, c30, c31, c32, c33, c34, c35, c36, c37, c38, c39, c40, c41, c42, c43, c44, c45, c46, c47, c48, c49, c50, c51, c52, c53, c54, c55, c56, c57, c58, c59, c60, c61, c62, c63, c64, c65, c66, c67, c68, c69, c70, c71, c72, c73, c74, c75, c76, c77, c78, c79, c80, c81, c82, c83, c84, c85, c86, c87, c88, c89, c90, c91, c92, c93, c94, c95, c96, c97, c98, c99, c100, c101, c102, c103, c104, c105], []⟩ w := by
 have HN := hidX hN
 clear hN
 conv => arg 2; whnf
 go_wp2
 exact HN.out
theorem nt_f {b : Bool} (h : true = !b) : b = false := by cases b <;> simp_all
theorem nt_t {b : Bool} (h : false = !b) : b = true := by cases b <;> simp_all
set_option maxRecDepth 100000 in
set_option maxHeartbeats 8000000 in
theorem checkLow_any {w : World} {a : Nat → Addr} (hS : Sents w a) (nm : List UInt8) (P S : Int) (bv : Value) (hbv : ∃ a n c, bv = .slice a n c) (x : Li) (s : Ash) :
  Calls Tryd.prog 36 #[.agg (lcV nm P S bv), .agg (liV x).toArray, ashV s] w fun e w' => e = .returned (errA a (lowC onesE twosE P S x s)) ∧ Below w.heap.size w w' := by
 have HBD := fun (Y : World) => bounds_any nm P S bv hbv x Y
 obtain ⟨ba, bn, bc, rfl⟩ := hbv
 obtain ⟨k, xd, xa, xbb, xn, xm⟩ := x
 obtain ⟨sk, sd, sa, sbb, sn, sm, sf, sw⟩ := s
 obtain ⟨W0, hW0⟩ : ∃ W0, W0 = (((w.alloc (.cells (lcV nm P S (.slice ba bn bc)) 31)).alloc (.cells #[.string ⟨k.toArray⟩, .int .i64 xd, .int .i64 xa, .int .i64 xbb, .int .i64 xn, .string ⟨xm.toArray⟩] 52)).alloc (.cells #[.string ⟨sk.toArray⟩, .bool sd, .bool sa, .bool sbb, .bool sn, .bool sm, .bool sf, .int .i64 (sw : Int)] 97)) := ⟨_, rfl⟩
 have hb0 : Below w.heap.size w W0 := by rw [hW0]; (repeat (first | exact Below.refl _ _ | assumption | refine Below.drew ?_ | refine bT ?_ _ | refine bS ?_ _ | refine bA ?_ _))
 obtain ⟨x0, x1, x2⟩ := threeG w (.cells (lcV nm P S (.slice ba bn bc)) 31) (.cells #[.string ⟨k.toArray⟩, .int .i64 xd, .int .i64 xa, .int .i64 xbb, .int .i64 xn, .string ⟨xm.toArray⟩] 52) (.cells #[.string ⟨sk.toArray⟩, .bool sd, .bool sa, .bool sbb, .bool sn, .bool sm, .bool sf, .int .i64 (sw : Int)] 97)
 rw [← hW0] at x0 x1 x2
 have HC : ∀ Y, Below W0.heap.size W0 Y → (Y.cell? ⟨w.heap.size, 0, none⟩ = some (.string ⟨nm.toArray⟩) ∧ Y.cell? ⟨w.heap.size, 1, none⟩ = some (.int .i64 P) ∧ Y.cell? ⟨w.heap.size, 2, none⟩ = some (.int .i64 S) ∧ Y.cell? ⟨w.heap.size, 3, none⟩ = some (.slice ba bn bc)) ∧ (Y.cell? ⟨w.heap.size + 1, 0, none⟩ = some (.string ⟨k.toArray⟩) ∧ Y.cell? ⟨w.heap.size + 1, 1, none⟩ = some (.int .i64 xd) ∧ Y.cell? ⟨w.heap.size + 1, 2, none⟩ = some (.int .i64 xa) ∧ Y.cell? ⟨w.heap.size + 1, 3, none⟩ = some (.int .i64 xbb) ∧ Y.cell? ⟨w.heap.size + 1, 4, none⟩ = some (.int .i64 xn) ∧ Y.cell? ⟨w.heap.size + 1, 5, none⟩ = some (.string ⟨xm.toArray⟩)) ∧ (Y.cell? ⟨w.heap.size + 1 + 1, 0, none⟩ = some (.string ⟨sk.toArray⟩) ∧ Y.cell? ⟨w.heap.size + 1 + 1, 1, none⟩ = some (.bool sd) ∧ Y.cell? ⟨w.heap.size + 1 + 1, 2, none⟩ = some (.bool sa) ∧ Y.cell? ⟨w.heap.size + 1 + 1, 3, none⟩ = some (.bool sbb) ∧ Y.cell? ⟨w.heap.size + 1 + 1, 4, none⟩ = some (.bool sn) ∧ Y.cell? ⟨w.heap.size + 1 + 1, 5, none⟩ = some (.bool sm)) := fun Y hY => by
  have h0 := (hY.block _ (heap_lt x0)).trans x0
  have h1 := (hY.block _ (heap_lt x1)).trans x1
  have h2 := (hY.block _ (heap_lt x2)).trans x2
  exact ⟨⟨cell_of_blk h0 0, cell_of_blk h0 1, cell_of_blk h0 2, cell_of_blk h0 3⟩, ⟨cell_of_blk h1 0, cell_of_blk h1 1, cell_of_blk h1 2, cell_of_blk h1 3, cell_of_blk h1 4, cell_of_blk h1 5⟩, ⟨cell_of_blk h2 0, cell_of_blk h2 1, cell_of_blk h2 2, cell_of_blk h2 3, cell_of_blk h2 4, cell_of_blk h2 5⟩⟩
 have HG := hidX (fun (Y : World) (hY : Below W0.heap.size W0 Y) => (show Y.cell? ⟨5, 0, none⟩ = some (sentV (a 3)) ∧ Y.cell? ⟨3, 0, none⟩ = some (sentV (a 1)) ∧ Y.cell? ⟨1, 0, none⟩ = some (sentV (a 2)) from by
  have h := hS.below (bl_trans hb0 hb0.size hY)
  exact ⟨h.glob 3 (by omega), h.glob 1 (by omega), h.glob 2 (by omega)⟩))
 have HOP := hasOp_any a ⟨k, [], 0, xm⟩ W0 (hS.below hb0)
 have HB0 := hidX hb0
 go_enter Tryd.func36, Tryd.ntmps36
 refine wp_seq (cl0 ?_)
 show Code.wp _ _ _ _ _
 rw [← hW0]
 clear hW0 x0 x1 x2
 refine wp_seq (wp_block (wp_seq (cl1 HC HOP ?_)))
 intro u8 u9 u10 u11 u12 u13 u14 u15 u16 u17 u18 r w1 hr hb1
 show Code.wp _ _ _ _ _
 refine wp_cond (t := r) rfl ?_
 cases r with
 | true =>
  have hl : lowC onesE twosE P S ⟨k, xd, xa, xbb, xn, xm⟩ ⟨sk, sd, sa, sbb, sn, sm, sf, sw⟩ = 4 := by
   have h : lKind onesE twosE ⟨k, xd, xa, xbb, xn, xm⟩ ⟨sk, sd, sa, sbb, sn, sm, sf, sw⟩ = false := nt_f hr
   unfold lowC
   rw [if_pos h]
  rw [if_pos rfl]
  clear hr HC HOP HBD hS hb0
  obtain ⟨g3, g1, g2⟩ := HG.out _ hb1
  have HY := hidX hb1
  have HL := hidX hl
  clear hl
  go_wp2
  go_ret
  rw [HL.out]
  exact ⟨rfl, bl_trans HB0.out HB0.out.size HY.out⟩
 | false =>
  have hl1 : lKind onesE twosE ⟨k, xd, xa, xbb, xn, xm⟩ ⟨sk, sd, sa, sbb, sn, sm, sf, sw⟩ = true := nt_t hr
  rw [if_neg (by decide)]
  clear hr
  have hsz := hb1.size
  refine wp_seq (cl3 (fun Y hY => HC Y (bl_trans hb1 hsz hY)) (fun Y _ => HBD Y) ?_)
  intro u21 u22 u23 u24 u25 u26 u27 u28 u29 u30 u31 u32 u33 u34 u35 u36 u37 u38 u39 u40 u41 u42 u43 u44 u45 u46 u47 u48 u49 u50 u51 u52 u53 u54 r w2 hr hb2
  show Code.wp _ _ _ _ _
  have hb12 := bl_trans hb1 hsz hb2
  refine wp_cond (t := r) rfl ?_
  cases r with
  | true =>
   have hl : lowC onesE twosE P S ⟨k, xd, xa, xbb, xn, xm⟩ ⟨sk, sd, sa, sbb, sn, sm, sf, sw⟩ = 2 := by
    have h : lBound P S ⟨k, xd, xa, xbb, xn, xm⟩ ⟨sk, sd, sa, sbb, sn, sm, sf, sw⟩ = false := nt_f hr
    unfold lowC
    rw [if_neg (by rw [hl1]; decide), if_pos h]
   rw [if_pos rfl]
   clear hr HC HOP HBD hS hb0
   obtain ⟨g3, g1, g2⟩ := HG.out _ hb12
   have HY := hidX hb12
   have HL := hidX hl
   clear hl
   go_wp2
   go_ret
   rw [HL.out]
   exact ⟨rfl, bl_trans HB0.out HB0.out.size HY.out⟩
  | false =>
   have hl2 : lBound P S ⟨k, xd, xa, xbb, xn, xm⟩ ⟨sk, sd, sa, sbb, sn, sm, sf, sw⟩ = true := nt_t hr
   rw [if_neg (by decide)]
   clear hr
   refine wp_seq (cl5 (fun Y hY => HC Y (bl_trans hb12 hb12.size hY)) ?_)
   intro u57 u58 u59 u60 u61 u62 u63 u64 u65 u66 u67 u68 u69 u70 u71 u72 u73 u74 u75 u76 u77 u78 u79 u80 u81 u82 u83 u84 u85 u86 u87 u88 u89 u90 u91 u92 u93 u94 u95 u96 u97 u98 u99 u100 u101 u102 u103 u104 r w3 hr hb3
   show Code.wp _ _ _ _ _
   have hb13 := bl_trans hb12 hb12.size hb3
   refine wp_cond (t := r) rfl ?_
   cases r with
   | true =>
    have hl : lowC onesE twosE P S ⟨k, xd, xa, xbb, xn, xm⟩ ⟨sk, sd, sa, sbb, sn, sm, sf, sw⟩ = 3 := by
     have h : lShape ⟨k, xd, xa, xbb, xn, xm⟩ ⟨sk, sd, sa, sbb, sn, sm, sf, sw⟩ = false := nt_f hr
     unfold lowC
     rw [if_neg (by rw [hl1]; decide), if_neg (by rw [hl2]; decide), if_pos h]
    rw [if_pos rfl]
    clear hr HC HOP HBD hS hb0
    obtain ⟨g3, g1, g2⟩ := HG.out _ hb13
    have HY := hidX hb13
    have HL := hidX hl
    clear hl
    go_wp2
    go_ret
    rw [HL.out]
    exact ⟨rfl, bl_trans HB0.out HB0.out.size HY.out⟩
   | false =>
    have hl : lowC onesE twosE P S ⟨k, xd, xa, xbb, xn, xm⟩ ⟨sk, sd, sa, sbb, sn, sm, sf, sw⟩ = 0 := by
     have h : lShape ⟨k, xd, xa, xbb, xn, xm⟩ ⟨sk, sd, sa, sbb, sn, sm, sf, sw⟩ = true := nt_t hr
     unfold lowC
     rw [if_neg (by rw [hl1]; decide), if_neg (by rw [hl2]; decide), if_neg (by rw [h]; decide)]
    rw [if_neg (by decide)]
    clear hr HC HOP HBD hS hb0
    obtain ⟨g3, g1, g2⟩ := HG.out _ hb13
    have HY := hidX hb13
    have HL := hidX hl
    clear hl
    go_wp2
    go_ret
    rw [HL.out]
    exact ⟨rfl, bl_trans HB0.out HB0.out.size HY.out⟩
end Go.Proofs.YtimccbilkjjakaaDoor
