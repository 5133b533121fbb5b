/- Our own: texts joined: AlRef5. -/
import Derived.Test.YtimccbilkjjakaaDoorZRefB
namespace Go.Proofs.YtimccbilkjjakaaDoor
open Go.RowKit
noncomputable def rl28C : Code := ((Tryd.f8.body.bind (fromOf 28)).getD .skip)
set_option maxRecDepth 100000 in
set_option maxHeartbeats 8000000 in
theorem rl28 {W : World} {cb bb N bc tc : Nat} {ba ta : Option Addr} {b : Lb} (hx1 : W.cell? ⟨bb, 1, none⟩ = some (.string ⟨b.fin.toArray⟩)) (hx2 : W.cell? ⟨bb, 2, none⟩ = some (.int .i64 b.a))
  (hC : ∀ Y, Below W.heap.size W Y → Y.cell? ⟨cb, 3, none⟩ = some (.slice ba N bc) ∧ Y.cell? ⟨bb, 3, none⟩ = some (.slice ta b.tos.length tc)) (hT : XRow (InH W) W (.slice ta b.tos.length tc) b.tos.length (intsG b.tos)) (hN' : N ≤ 100000) (htl : b.tos.length ≤ 100000)
  {c0 c2 c3 c5 c6 c10 c11 c12 c13 c14 c15 c16 c17 c18 c19 c20 c21 c22 c23 c24 c25 c26 c27 c28 c29 c30 c31 c32 c33 c34 c35 c36 c37 c38 c39 c40 c41 c42 c43 c44 c45 c46 c47 c48 c49 c50 c51 c52 c53 c54 c55 c56 c57 c58 c59 c60 c61 c62 c63 c64 c65 c66 c67 c68 c69 c70 c105 c106 c107 c108 c109 c110 c111 c112 c113 c114 c115 c116 c117 c118 c119 c120 c121 c122 c123 c124 c125 c126 c127 c128 c129 c130 c131 c132 c133 c134 c135 c136 c137 c138 c139 c140 c141 c142 c143 c144 c145 c146 c147 c148 : Value} {u8 u9 u71 u72 u73 u74 u75 u76 u77 u78 u79 u80 u81 u82 u83 u84 u85 u86 u87 u88 u89 u90 u91 u92 u93 u94 u95 u96 u97 u98 u99 u100 u101 u102 u103 u104 : Value} {Q : Exit → Act → World → Prop}
  (hP : ∀ c (a : Act) (d : Option Tmp) (v : Value) (w : World), Q (.panic c) (a.put d v) w → Q (.panic c) a w)
  (hN : ∀ (u8 u9 u71 u72 u73 u74 u75 u76 u77 u78 u79 u80 u81 u82 u83 u84 u85 u86 u87 u88 u89 u90 u91 u92 u93 u94 u95 u96 u97 u98 u99 u100 u101 u102 u103 u104 : Value) (c : Nat) (w1 : World), c = (if ((b.fin != lJump) && !inR 8 b.a) || !(b.tos.all (inR (N : Int))) then 2 else 0) → Below W.heap.size W w1 → Q .normal ⟨#[c0, .pointer (some ⟨cb, 0, none⟩), c2, c3, .pointer (some ⟨bb, 0, none⟩), c5, c6, .int .i64 (c : Int), u8, u9, c10, c11, c12, c13, c14, c15, c16, c17, c18, c19, c20, c21, c22, c23, c24, c25, c26, c27, c28, c29, c30, c31, c32, c33, c34, c35, c36, c37, c38, c39, c40, c41, c42, c43, c44, c45, c46, c47, c48, c49, c50, c51, c52, c53, c54, c55, c56, c57, c58, c59, c60, c61, c62, c63, c64, c65, c66, c67, c68, c69, c70, u71, u72, u73, u74, u75, u76, u77, u78, u79, u80, u81, u82, u83, u84, u85, u86, u87, u88, u89, u90, u91, u92, u93, u94, u95, u96, u97, u98, u99, u100, u101, u102, u103, u104, c105, c106, c107, c108, c109, c110, c111, c112, c113, c114, c115, c116, c117, c118, c119, c120, c121, c122, c123, c124, c125, c126, c127, c128, c129, c130, c131, c132, c133, c134, c135, c136, c137, c138, c139, c140, c141, c142, c143, c144, c145, c146, c147, c148], []⟩ w1) : Code.wp Tryd.prog rl28C Q ⟨#[c0, .pointer (some ⟨cb, 0, none⟩), c2, c3, .pointer (some ⟨bb, 0, none⟩), c5, c6, .int .i64 0, u8, u9, c10, c11, c12, c13, c14, c15, c16, c17, c18, c19, c20, c21, c22, c23, c24, c25, c26, c27, c28, c29, c30, c31, c32, c33, c34, c35, c36, c37, c38, c39, c40, c41, c42, c43, c44, c45, c46, c47, c48, c49, c50, c51, c52, c53, c54, c55, c56, c57, c58, c59, c60, c61, c62, c63, c64, c65, c66, c67, c68, c69, c70, u71, u72, u73, u74, u75, u76, u77, u78, u79, u80, u81, u82, u83, u84, u85, u86, u87, u88, u89, u90, u91, u92, u93, u94, u95, u96, u97, u98, u99, u100, u101, u102, u103, u104, c105, c106, c107, c108, c109, c110, c111, c112, c113, c114, c115, c116, c117, c118, c119, c120, c121, c122, c123, c124, c125, c126, c127, c128, c129, c130, c131, c132, c133, c134, c135, c136, c137, c138, c139, c140, c141, c142, c143, c144, c145, c146, c147, c148], []⟩ W := by
 generalize he1 : ((b.fin != lJump) && !inR 8 b.a) = e1 at hN
 have HN := hidX hN
 have HP := hidX hP
 have HC := hidX hC
 have HT := hidX hT
 have hnn : (N : Int) ≤ 100000 := by omega
 have htl' : (b.tos.length : Int) ≤ 100000 := by omega
 have hx3 := (hC W (Below.refl _ _)).2
 have hk3 := (hC W (Below.refl _ _)).1
 generalize hfin : b.fin = fin at hx1 he1
 have HRG := hidX (fun X : World => rRegL b.a X)
 generalize hrg : inR 8 b.a = rg at HRG he1
 generalize b.a = av at hx2 HRG
 clear hN hP hC hT hrg hfin
 conv => arg 2; whnf
 go_wp2_with fail
 refine (HRG.out _).mono ?_
 rintro e w1 ⟨rfl, hh⟩
 replace hh := hh.symm
 subst hh
 by_cases hj : fin = [106, 117, 109, 112]
 ·subst hj
  have HE1 := hidX (show e1 = false from by rw [← he1]; rfl)
  clear he1
  go_wp2_with fail
  go_loopw [7, 9] (fun v7 v9 wr => ∃ (q : Nat) (c : Nat), q ≤ b.tos.length ∧ v9 = .int .i64 (q : Int) ∧ v7 = .int .i64 (c : Int) ∧ Hid (c = if e1 || !((b.tos.take q).all (inR (N : Int))) then 2 else 0) ∧ Hid (Below W.heap.size W wr)) (fun _ v9 _ => b.tos.length - (intOf v9).toNat)
  case atStart => exact ⟨0, 0, by omega, rfl, rfl, by rw [HE1.out]; rfl, (by (repeat (first | exact Below.refl _ _ | assumption | refine Below.drew ?_ | refine bT ?_ _ | refine bS ?_ _ | refine bA ?_ _)))⟩
  case round =>
   obtain ⟨q, c, hq, rfl, rfl, HCQ, HBR⟩ := hrel
   obtain ⟨k3, x3⟩ := HC.out wr HBR.out
   by_cases hlt : q < b.tos.length
   ·have hlt' : (q : Int) < (b.tos.length : Int) := by omega
    obtain ⟨gi, oi, ei, hgi, i0⟩ := HT.out.int hlt
    subst ei
    replace i0 : wr.cell? ⟨gi, oi + q, none⟩ = some (.int .i64 b.tos[q]) := (HBR.out.cell (p := ⟨gi, oi + q, none⟩) hgi).trans i0
    have HNX := hidX (show (if e1 || !((b.tos.take (q + 1)).all (inR (N : Int))) then 2 else 0) = if inR (N : Int) b.tos[q] then c else 2 from by
     rw [HCQ.out, List.take_succ_eq_append_getElem hlt, List.all_append]
     rw [show ([b.tos[q]].all (inR (N : Int))) = inR (N : Int) b.tos[q] from by simp]
     cases e1 <;> cases (b.tos.take q).all (inR (N : Int)) <;> cases inR (N : Int) b.tos[q] <;> rfl)
    generalize b.tos[q] = t at *
    by_cases h0 : t < 0
    ·have HR' := hidX (show (2 : Nat) = if e1 || !((b.tos.take (q + 1)).all (inR (N : Int))) then 2 else 0 from by rw [HNX.out, if_neg (by unfold inR; simp; omega)])
     clear HNX HCQ
     go_wp2_with fail
     go_quiet (fail)
     go_wp2
     go_roundw
     case rel => exact ⟨q + 1, 2, by omega, by go_num, rfl, HR'.out, by first | exact HBR.out | exact HBR.out.trans (by (repeat (first | exact Below.refl _ _ | assumption | refine Below.drew ?_ | refine bT ?_ _ | refine bS ?_ _ | refine bA ?_ _)))⟩
     all_goals (simp [intOf]; omega)
    ·by_cases h1 : (N : Int) ≤ t
     ·have HR' := hidX (show (2 : Nat) = if e1 || !((b.tos.take (q + 1)).all (inR (N : Int))) then 2 else 0 from by rw [HNX.out, if_neg (by unfold inR; simp; omega)])
      clear HNX HCQ
      go_wp2_with fail
      go_quiet (fail)
      go_wp2
      go_roundw
      case rel => exact ⟨q + 1, 2, by omega, by go_num, rfl, HR'.out, by first | exact HBR.out | exact HBR.out.trans (by (repeat (first | exact Below.refl _ _ | assumption | refine Below.drew ?_ | refine bT ?_ _ | refine bS ?_ _ | refine bA ?_ _)))⟩
      all_goals (simp [intOf]; omega)
     ·have h2 : t < (N : Int) := by omega
      have HR' := hidX (show c = if e1 || !((b.tos.take (q + 1)).all (inR (N : Int))) then 2 else 0 from by rw [HNX.out, if_pos (by unfold inR; simp; omega)])
      clear HNX HCQ
      go_wp2_with fail
      go_quiet (fail)
      go_wp2
      go_roundw
      case rel => exact ⟨q + 1, c, by omega, by go_num, rfl, HR'.out, by first | exact HBR.out | exact HBR.out.trans (by (repeat (first | exact Below.refl _ _ | assumption | refine Below.drew ?_ | refine bT ?_ _ | refine bS ?_ _ | refine bA ?_ _)))⟩
      all_goals (simp [intOf]; omega)
   ·have hqn : ¬ ((q : Int) < (b.tos.length : Int)) := by omega
    have HEN := hidX (show c = if e1 || !(b.tos.all (inR (N : Int))) then 2 else 0 from by rw [HCQ.out, List.take_of_length_le (by omega)])
    clear hlt hq HCQ
    go_wp2
    exact HN.out _ _ _ _ _ _ _ _ _ _ _ _ _ _ _ _ _ _ _ _ _ _ _ _ _ _ _ _ _ _ _ _ _ _ _ _ c _ HEN.out HBR.out
 ·have hjf : (fin == [106, 117, 109, 112]) = false := ne_lit hj
  have hjn : (fin != [106, 117, 109, 112]) = true := by simpa using hj
  cases rg with
  | true =>
   have HE1 := hidX (show e1 = false from by rw [← he1]; simp)
   clear he1 hj
   go_wp2_with fail
   go_loopw [7, 9] (fun v7 v9 wr => ∃ (q : Nat) (c : Nat), q ≤ b.tos.length ∧ v9 = .int .i64 (q : Int) ∧ v7 = .int .i64 (c : Int) ∧ Hid (c = if e1 || !((b.tos.take q).all (inR (N : Int))) then 2 else 0) ∧ Hid (Below W.heap.size W wr)) (fun _ v9 _ => b.tos.length - (intOf v9).toNat)
   case atStart => exact ⟨0, 0, by omega, rfl, rfl, by rw [HE1.out]; rfl, (by (repeat (first | exact Below.refl _ _ | assumption | refine Below.drew ?_ | refine bT ?_ _ | refine bS ?_ _ | refine bA ?_ _)))⟩
   case round =>
    obtain ⟨q, c, hq, rfl, rfl, HCQ, HBR⟩ := hrel
    obtain ⟨k3, x3⟩ := HC.out wr HBR.out
    by_cases hlt : q < b.tos.length
    ·have hlt' : (q : Int) < (b.tos.length : Int) := by omega
     obtain ⟨gi, oi, ei, hgi, i0⟩ := HT.out.int hlt
     subst ei
     replace i0 : wr.cell? ⟨gi, oi + q, none⟩ = some (.int .i64 b.tos[q]) := (HBR.out.cell (p := ⟨gi, oi + q, none⟩) hgi).trans i0
     have HNX := hidX (show (if e1 || !((b.tos.take (q + 1)).all (inR (N : Int))) then 2 else 0) = if inR (N : Int) b.tos[q] then c else 2 from by
      rw [HCQ.out, List.take_succ_eq_append_getElem hlt, List.all_append]
      rw [show ([b.tos[q]].all (inR (N : Int))) = inR (N : Int) b.tos[q] from by simp]
      cases e1 <;> cases (b.tos.take q).all (inR (N : Int)) <;> cases inR (N : Int) b.tos[q] <;> rfl)
     generalize b.tos[q] = t at *
     by_cases h0 : t < 0
     ·have HR' := hidX (show (2 : Nat) = if e1 || !((b.tos.take (q + 1)).all (inR (N : Int))) then 2 else 0 from by rw [HNX.out, if_neg (by unfold inR; simp; omega)])
      clear HNX HCQ
      go_wp2_with fail
      go_quiet (fail)
      go_wp2
      go_roundw
      case rel => exact ⟨q + 1, 2, by omega, by go_num, rfl, HR'.out, by first | exact HBR.out | exact HBR.out.trans (by (repeat (first | exact Below.refl _ _ | assumption | refine Below.drew ?_ | refine bT ?_ _ | refine bS ?_ _ | refine bA ?_ _)))⟩
      all_goals (simp [intOf]; omega)
     ·by_cases h1 : (N : Int) ≤ t
      ·have HR' := hidX (show (2 : Nat) = if e1 || !((b.tos.take (q + 1)).all (inR (N : Int))) then 2 else 0 from by rw [HNX.out, if_neg (by unfold inR; simp; omega)])
       clear HNX HCQ
       go_wp2_with fail
       go_quiet (fail)
       go_wp2
       go_roundw
       case rel => exact ⟨q + 1, 2, by omega, by go_num, rfl, HR'.out, by first | exact HBR.out | exact HBR.out.trans (by (repeat (first | exact Below.refl _ _ | assumption | refine Below.drew ?_ | refine bT ?_ _ | refine bS ?_ _ | refine bA ?_ _)))⟩
       all_goals (simp [intOf]; omega)
      ·have h2 : t < (N : Int) := by omega
       have HR' := hidX (show c = if e1 || !((b.tos.take (q + 1)).all (inR (N : Int))) then 2 else 0 from by rw [HNX.out, if_pos (by unfold inR; simp; omega)])
       clear HNX HCQ
       go_wp2_with fail
       go_quiet (fail)
       go_wp2
       go_roundw
       case rel => exact ⟨q + 1, c, by omega, by go_num, rfl, HR'.out, by first | exact HBR.out | exact HBR.out.trans (by (repeat (first | exact Below.refl _ _ | assumption | refine Below.drew ?_ | refine bT ?_ _ | refine bS ?_ _ | refine bA ?_ _)))⟩
       all_goals (simp [intOf]; omega)
    ·have hqn : ¬ ((q : Int) < (b.tos.length : Int)) := by omega
     have HEN := hidX (show c = if e1 || !(b.tos.all (inR (N : Int))) then 2 else 0 from by rw [HCQ.out, List.take_of_length_le (by omega)])
     clear hlt hq HCQ
     go_wp2
     exact HN.out _ _ _ _ _ _ _ _ _ _ _ _ _ _ _ _ _ _ _ _ _ _ _ _ _ _ _ _ _ _ _ _ _ _ _ _ c _ HEN.out HBR.out
  | false =>
   have HE1 := hidX (show e1 = true from by rw [← he1]; show ((fin != [106, 117, 109, 112]) && !false) = true; rw [hjn]; rfl)
   clear he1 hj
   go_wp2_with fail
   go_loopw [7, 9] (fun v7 v9 wr => ∃ (q : Nat) (c : Nat), q ≤ b.tos.length ∧ v9 = .int .i64 (q : Int) ∧ v7 = .int .i64 (c : Int) ∧ Hid (c = if e1 || !((b.tos.take q).all (inR (N : Int))) then 2 else 0) ∧ Hid (Below W.heap.size W wr)) (fun _ v9 _ => b.tos.length - (intOf v9).toNat)
   case atStart => exact ⟨0, 2, by omega, rfl, rfl, by rw [HE1.out]; rfl, (by (repeat (first | exact Below.refl _ _ | assumption | refine Below.drew ?_ | refine bT ?_ _ | refine bS ?_ _ | refine bA ?_ _)))⟩
   case round =>
    obtain ⟨q, c, hq, rfl, rfl, HCQ, HBR⟩ := hrel
    obtain ⟨k3, x3⟩ := HC.out wr HBR.out
    by_cases hlt : q < b.tos.length
    ·have hlt' : (q : Int) < (b.tos.length : Int) := by omega
     obtain ⟨gi, oi, ei, hgi, i0⟩ := HT.out.int hlt
     subst ei
     replace i0 : wr.cell? ⟨gi, oi + q, none⟩ = some (.int .i64 b.tos[q]) := (HBR.out.cell (p := ⟨gi, oi + q, none⟩) hgi).trans i0
     have HNX := hidX (show (if e1 || !((b.tos.take (q + 1)).all (inR (N : Int))) then 2 else 0) = if inR (N : Int) b.tos[q] then c else 2 from by
      rw [HCQ.out, List.take_succ_eq_append_getElem hlt, List.all_append]
      rw [show ([b.tos[q]].all (inR (N : Int))) = inR (N : Int) b.tos[q] from by simp]
      cases e1 <;> cases (b.tos.take q).all (inR (N : Int)) <;> cases inR (N : Int) b.tos[q] <;> rfl)
     generalize b.tos[q] = t at *
     by_cases h0 : t < 0
     ·have HR' := hidX (show (2 : Nat) = if e1 || !((b.tos.take (q + 1)).all (inR (N : Int))) then 2 else 0 from by rw [HNX.out, if_neg (by unfold inR; simp; omega)])
      clear HNX HCQ
      go_wp2_with fail
      go_quiet (fail)
      go_wp2
      go_roundw
      case rel => exact ⟨q + 1, 2, by omega, by go_num, rfl, HR'.out, by first | exact HBR.out | exact HBR.out.trans (by (repeat (first | exact Below.refl _ _ | assumption | refine Below.drew ?_ | refine bT ?_ _ | refine bS ?_ _ | refine bA ?_ _)))⟩
      all_goals (simp [intOf]; omega)
     ·by_cases h1 : (N : Int) ≤ t
      ·have HR' := hidX (show (2 : Nat) = if e1 || !((b.tos.take (q + 1)).all (inR (N : Int))) then 2 else 0 from by rw [HNX.out, if_neg (by unfold inR; simp; omega)])
       clear HNX HCQ
       go_wp2_with fail
       go_quiet (fail)
       go_wp2
       go_roundw
       case rel => exact ⟨q + 1, 2, by omega, by go_num, rfl, HR'.out, by first | exact HBR.out | exact HBR.out.trans (by (repeat (first | exact Below.refl _ _ | assumption | refine Below.drew ?_ | refine bT ?_ _ | refine bS ?_ _ | refine bA ?_ _)))⟩
       all_goals (simp [intOf]; omega)
      ·have h2 : t < (N : Int) := by omega
       have HR' := hidX (show c = if e1 || !((b.tos.take (q + 1)).all (inR (N : Int))) then 2 else 0 from by rw [HNX.out, if_pos (by unfold inR; simp; omega)])
       clear HNX HCQ
       go_wp2_with fail
       go_quiet (fail)
       go_wp2
       go_roundw
       case rel => exact ⟨q + 1, c, by omega, by go_num, rfl, HR'.out, by first | exact HBR.out | exact HBR.out.trans (by (repeat (first | exact Below.refl _ _ | assumption | refine Below.drew ?_ | refine bT ?_ _ | refine bS ?_ _ | refine bA ?_ _)))⟩
       all_goals (simp [intOf]; omega)
    ·have hqn : ¬ ((q : Int) < (b.tos.length : Int)) := by omega
     have HEN := hidX (show c = if e1 || !(b.tos.all (inR (N : Int))) then 2 else 0 from by rw [HCQ.out, List.take_of_length_le (by omega)])
     clear hlt hq HCQ
     go_wp2
     exact HN.out _ _ _ _ _ _ _ _ _ _ _ _ _ _ _ _ _ _ _ _ _ _ _ _ _ _ _ _ _ _ _ _ _ _ _ _ c _ HEN.out HBR.out
noncomputable def rlt36C : Code := ((Tryd.f8.body.bind (regionOf 36)).getD .skip)
set_option maxRecDepth 100000 in
set_option maxHeartbeats 4000000 in
theorem rlt36 {W : World} {bb tl tc : Nat} {ta : Option Addr} {want a : Int} {fin : List UInt8} (hx1 : W.cell? ⟨bb, 1, none⟩ = some (.string ⟨fin.toArray⟩)) (hx2 : W.cell? ⟨bb, 2, none⟩ = some (.int .i64 a)) (hx3 : W.cell? ⟨bb, 3, none⟩ = some (.slice ta tl tc)) {c0 c1 c2 c3 c7 c8 c9 c10 c11 c12 c13 c14 c15 c16 c17 c18 c19 c20 c21 c22 c23 c24 c25 c26 c27 c28 c29 c30 c31 c32 c33 c34 c35 c36 c37 c38 c39 c40 c41 c42 c43 c44 c45 c46 c47 c48 c49 c50 c51 c52 c53 c54 c55 c56 c57 c58 c59 c60 c61 c62 c63 c64 c65 c66 c67 c68 c69 c70 c71 c72 c73 c74 c75 c76 c77 c78 c79 c80 c81 c82 c83 c84 c85 c86 c87 c88 c89 c90 c91 c92 c93 c94 c95 c96 c97 c98 c99 c100 c101 c102 c103 c104 c124 c125 c126 c127 c128 c129 c130 c131 c132 c133 c134 c135 c136 c137 c138 c139 c140 c141 c142 c143 c144 c145 c146 c147 c148 : Value} {u105 u106 u107 u108 u109 u110 u111 u112 u113 u114 u115 u116 u117 u118 u119 u120 u121 u122 u123 : Value} {Q : Exit → Act → World → Prop}
  (hN : ∀ (u105 u106 u107 u108 u109 u110 u111 u112 u113 u114 u115 u116 u117 u118 u119 u120 u121 u122 : Value) (r : Bool) (w1 : World), r = (decide ((tl : Int) ≠ want) || ((fin == lJump) && a != 0)) → Below W.heap.size W w1 → Q .normal ⟨#[c0, c1, c2, c3, .pointer (some ⟨bb, 0, none⟩), .int .i64 want, .int .i64 2, c7, c8, c9, c10, c11, c12, c13, c14, c15, c16, c17, c18, c19, c20, c21, c22, c23, c24, c25, c26, c27, c28, c29, c30, c31, c32, c33, c34, c35, c36, c37, c38, c39, c40, c41, c42, c43, c44, c45, c46, c47, c48, c49, c50, c51, c52, c53, c54, c55, c56, c57, c58, c59, c60, c61, c62, c63, c64, c65, c66, c67, c68, c69, c70, c71, c72, c73, c74, c75, c76, c77, c78, c79, c80, c81, c82, c83, c84, c85, c86, c87, c88, c89, c90, c91, c92, c93, c94, c95, c96, c97, c98, c99, c100, c101, c102, c103, c104, u105, u106, u107, u108, u109, u110, u111, u112, u113, u114, u115, u116, u117, u118, u119, u120, u121, u122, .bool r, c124, c125, c126, c127, c128, c129, c130, c131, c132, c133, c134, c135, c136, c137, c138, c139, c140, c141, c142, c143, c144, c145, c146, c147, c148], []⟩ w1) : Code.wp Tryd.prog rlt36C Q ⟨#[c0, c1, c2, c3, .pointer (some ⟨bb, 0, none⟩), .int .i64 want, .int .i64 2, c7, c8, c9, c10, c11, c12, c13, c14, c15, c16, c17, c18, c19, c20, c21, c22, c23, c24, c25, c26, c27, c28, c29, c30, c31, c32, c33, c34, c35, c36, c37, c38, c39, c40, c41, c42, c43, c44, c45, c46, c47, c48, c49, c50, c51, c52, c53, c54, c55, c56, c57, c58, c59, c60, c61, c62, c63, c64, c65, c66, c67, c68, c69, c70, c71, c72, c73, c74, c75, c76, c77, c78, c79, c80, c81, c82, c83, c84, c85, c86, c87, c88, c89, c90, c91, c92, c93, c94, c95, c96, c97, c98, c99, c100, c101, c102, c103, c104, u105, u106, u107, u108, u109, u110, u111, u112, u113, u114, u115, u116, u117, u118, u119, u120, u121, u122, u123, c124, c125, c126, c127, c128, c129, c130, c131, c132, c133, c134, c135, c136, c137, c138, c139, c140, c141, c142, c143, c144, c145, c146, c147, c148], []⟩ W := by
 have HN := hidX hN
 clear hN
 conv => arg 2; whnf
 by_cases hw : (tl : Int) = want
 ·have hw1 : ((tl : Int) != want) = false := by simpa using hw
  have HW := hidX hw
  clear hw
  by_cases hj : fin = [106, 117, 109, 112]
  ·subst hj
   by_cases ha : a = 0
   ·have ha1 : (a != 0) = false := by simpa using ha
    go_wp2
    exact HN.out _ _ _ _ _ _ _ _ _ _ _ _ _ _ _ _ _ _ _ _ (by have := HW.out; simp [this, ha]) (by (repeat (first | exact Below.refl _ _ | assumption | refine Below.drew ?_ | refine bT ?_ _ | refine bS ?_ _ | refine bA ?_ _)))
   ·have ha1 : (a != 0) = true := by simpa using ha
    have HA := hidX ha
    clear ha
    go_wp2
    exact HN.out _ _ _ _ _ _ _ _ _ _ _ _ _ _ _ _ _ _ _ _ (by have := HW.out; have h2 := HA.out; simp [this, h2, lJump]) (by (repeat (first | exact Below.refl _ _ | assumption | refine Below.drew ?_ | refine bT ?_ _ | refine bS ?_ _ | refine bA ?_ _)))
  ·have hj1 : (fin == [106, 117, 109, 112]) = false := ne_lit hj
   have HJ := hidX hj
   clear hj
   go_wp2
   exact HN.out _ _ _ _ _ _ _ _ _ _ _ _ _ _ _ _ _ _ _ _ (by have := HW.out; simp [this]; intro h; exact absurd h HJ.out) (by (repeat (first | exact Below.refl _ _ | assumption | refine Below.drew ?_ | refine bT ?_ _ | refine bS ?_ _ | refine bA ?_ _)))
 ·have hw1 : ((tl : Int) != want) = true := by simpa using hw
  have HW := hidX hw
  clear hw
  go_wp2
  exact HN.out _ _ _ _ _ _ _ _ _ _ _ _ _ _ _ _ _ _ _ _ (by have := HW.out; simp [this]) (by (repeat (first | exact Below.refl _ _ | assumption | refine Below.drew ?_ | refine bT ?_ _ | refine bS ?_ _ | refine bA ?_ _)))
end Go.Proofs.YtimccbilkjjakaaDoor
