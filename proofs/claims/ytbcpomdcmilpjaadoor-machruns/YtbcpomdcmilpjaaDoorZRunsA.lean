/- Our own: texts joined: MxRunsM, MxRunsT, MxRunsH, MxRuns. -/
import Derived.Test.YtbcpomdcmilpjaaDoorZApM
import Derived.Test.YtbcpomdcmilpjaaDoorZMxA
import Derived.Test.YtbcpomdcmilpjaaDoorZMoMachOf
import Derived.Test.YtbcpomdcmilpjaaDoorZSameM
import Derived.Test.YtbcpomdcmilpjaaDoorZOnceM
import Derived.Test.YtbcpomdcmilpjaaDoorZMaRun
import Derived.Test.YtbcpomdcmilpjaaDoorZMrImage
import Derived.Test.YtbcpomdcmilpjaaDoorZRunBM
namespace Go.Proofs.YtbcpomdcmilpjaaDoor
open Go.RowKit
noncomputable def p11C : Code := fstC ((Tryd.f3.body.bind (fromOf 11)).getD .skip)
set_option maxRecDepth 100000 in
set_option maxHeartbeats 4000000 in
theorem mr_mid {w W : World} {I : Im} {adf adw : Option Addr} {cf cw : Nat} {fb : Nat} {nm : List UInt8} {args : List Int} {aad : Option Addr} {ac : Nat} {tk : Int} (hbd : Below w.heap.size w W) (hbox : W.heap[w.heap.size]? = some (.cells #[.slice adf I.funs.length cf, .slice adw I.words.length cw] 25 (0, 0))) (hf : W.heap[fb]? = some (.cells #[.int .i64 (((imF I).1 : Nat) : Int), .int .i64 (imF I).2] 30 (0, 0))) (hlt : w.heap.size < fb) (hI : XMf (InH w) w (.slice adf I.funs.length cf) I.funs) (hal : args.length ≤ 8) {k : Int} (hk : k = lastM nm 0 I.funs (-1))
  {c0 c1 c5 c6 c7 c8 c9 c12 c13 c14 c15 c16 c17 c18 c19 c20 c21 c22 c23 c24 c25 c26 c27 c28 c29 c30 c31 c32 c33 c34 c35 c36 c37 c38 c39 c40 c41 c42 c43 c44 c45 c46 c47 c48 c49 c50 c51 c52 c53 c54 c55 c56 c57 c58 c59 c60 c61 c62 c63 c87 c88 c89 c90 c91 c92 c93 c94 c95 c96 c97 c98 c99 c100 c101 c102 c103 c104 c105 c106 c107 c108 c109 c110 c111 c112 c113 c114 c115 c116 c117 c118 c119 c120 c121 c122 c123 c124 c125 c126 c127 c128 c129 c130 c131 c132 c133 c134 : Value} {u64 u65 u66 u67 u68 u69 u70 u71 u72 u73 u74 u75 u76 u77 u78 u79 u80 u81 u82 u83 u84 u85 u86 : Value} {Q : Exit → Act → World → Prop}
  (hN : ∀ (u64 u65 u66 u67 u68 u69 u70 u71 u72 u73 u74 u75 u76 u77 u78 u79 u80 u81 u82 u83 u84 u85 u86 : Value) (w1 : World), Below w.heap.size w w1 → w1.heap[w.heap.size]? = some (.cells #[.slice adf I.funs.length cf, .slice adw I.words.length cw] 25 (0, 0)) → w1.heap[fb]? = some (.cells #[.int .i64 (((runF I nm args.length tk).1 : Nat) : Int), .int .i64 (runF I nm args.length tk).2] 30 (0, 0)) → Q .normal ⟨#[c0, c1, .slice aad args.length ac, .int .i64 tk, .pointer (some ⟨w.heap.size, 0, none⟩), c5, c6, c7, c8, c9, .pointer (some ⟨fb, 0, none⟩), .int .i64 k, c12, c13, c14, c15, c16, c17, c18, c19, c20, c21, c22, c23, c24, c25, c26, c27, c28, c29, c30, c31, c32, c33, c34, c35, c36, c37, c38, c39, c40, c41, c42, c43, c44, c45, c46, c47, c48, c49, c50, c51, c52, c53, c54, c55, c56, c57, c58, c59, c60, c61, c62, c63, u64, u65, u66, u67, u68, u69, u70, u71, u72, u73, u74, u75, u76, u77, u78, u79, u80, u81, u82, u83, u84, u85, u86, c87, c88, c89, c90, c91, c92, c93, c94, c95, c96, c97, c98, c99, c100, c101, c102, c103, c104, c105, c106, c107, c108, c109, c110, c111, c112, c113, c114, c115, c116, c117, c118, c119, c120, c121, c122, c123, c124, c125, c126, c127, c128, c129, c130, c131, c132, c133, c134], []⟩ w1) :
  Code.wp Tryd.prog p11C Q ⟨#[c0, c1, .slice aad args.length ac, .int .i64 tk, .pointer (some ⟨w.heap.size, 0, none⟩), c5, c6, c7, c8, c9, .pointer (some ⟨fb, 0, none⟩), .int .i64 k, c12, c13, c14, c15, c16, c17, c18, c19, c20, c21, c22, c23, c24, c25, c26, c27, c28, c29, c30, c31, c32, c33, c34, c35, c36, c37, c38, c39, c40, c41, c42, c43, c44, c45, c46, c47, c48, c49, c50, c51, c52, c53, c54, c55, c56, c57, c58, c59, c60, c61, c62, c63, u64, u65, u66, u67, u68, u69, u70, u71, u72, u73, u74, u75, u76, u77, u78, u79, u80, u81, u82, u83, u84, u85, u86, c87, c88, c89, c90, c91, c92, c93, c94, c95, c96, c97, c98, c99, c100, c101, c102, c103, c104, c105, c106, c107, c108, c109, c110, c111, c112, c113, c114, c115, c116, c117, c118, c119, c120, c121, c122, c123, c124, c125, c126, c127, c128, c129, c130, c131, c132, c133, c134], []⟩ W := by
 have HN := hidX hN
 have HBD := hidX hbd
 have HBOX := hidX hbox
 have d0 : W.cell? ⟨fb, 0, none⟩ = some (.int .i64 (((imF I).1 : Nat) : Int)) := cell_of_blk hf 0
 by_cases hc : (imF I).1 = 0
 ·have hkw : k = whichM I.funs nm := hk.trans (last_which hc nm)
  clear hk hN hbd
  obtain ⟨p0, hp0⟩ : ∃ p0, p0 = (imF I).2 := ⟨_, rfl⟩
  rw [hc] at d0 hf
  rw [← hp0] at hf
  have hP0 : p0 = -1 := hp0.trans (imF_bare hc)
  have HF := hidX hf
  by_cases hneg : k < 0
  ·have hneg2 := hneg
   rw [hkw] at hneg2
   have hr : (runF I nm args.length tk) = (6, -1) := by unfold runF; rw [if_neg (by rw [hc]; decide), if_pos hneg2]
   have hE := hidX hr
   clear hr hneg2 hkw hc hf hbox hp0 hI
   conv => arg 2; whnf
   go_wp2_with fail
   refine (bareG 6 _).mono ?_
   rintro e X ⟨rfl, hX⟩
   have hfX := (hX.block _ (heap_lt HF.out)).trans HF.out
   have x0 : X.cell? ⟨fb, 0, none⟩ = some (.int .i64 0) := cell_of_blk hfX 0
   have x1 : X.cell? ⟨fb, 1, none⟩ = some (.int .i64 p0) := cell_of_blk hfX 1
   have fx0 := free_of_blk hfX 0
   have fx1 := free_of_blk hfX 1
   have HFX := hidX hfX
   have HX := hidX hX
   clear hfX hX d0
   go_wp2
   refine HN.out _ _ _ _ _ _ _ _ _ _ _ _ _ _ _ _ _ _ _ _ _ _ _  _ ((((HBD.out.trans (HX.out.mono HBD.out.size)).setCell (by show w.heap.size ≤ fb; omega) _).setCell (by show w.heap.size ≤ fb; omega) _)) ?_ ?_
   ·rw [Below.heap_setCell _ _ _ _ (show w.heap.size ≠ fb by omega), Below.heap_setCell _ _ _ _ (show w.heap.size ≠ fb by omega)]
    exact (HX.out.block _ (heap_lt HBOX.out)).trans HBOX.out
   ·rw [hE.out]
    have := blk_setCell (blk_setCell HFX.out 0 (.int .i64 6)) 1 (.int .i64 (-1))
    simpa using this
  ·obtain ⟨q, rfl⟩ : ∃ q : Nat, k = (q : Int) := ⟨k.toNat, by omega⟩
   obtain ⟨j, hj1, hj2⟩ := which_lt (show ¬ whichM I.funs nm < 0 by rw [← hkw]; exact hneg)
   have hq : q < I.funs.length := by omega
   have hq' : (q : Int) < (I.funs.length : Int) := by omega
   obtain ⟨gf, off, rfl, hgf, k0, k1, k2, k3⟩ := hI.at hq
   clear k0 k2 k3
   replace k1 := (HBD.out.cell (p := ⟨gf, _, none⟩) hgf).trans k1
   have b0 : W.cell? ⟨w.heap.size, 0, none⟩ = some (.slice (some ⟨gf, off, none⟩) I.funs.length cf) := cell_of_blk hbox 0
   have hfl : I.funs.length ≤ 8 := (well_of hc).fl
   have hfl' : (I.funs.length : Int) ≤ 8 := by omega
   have hal' : (args.length : Int) ≤ 8 := by omega
   have hpar : (funAt I (whichM I.funs nm)).params = I.funs[q].params := by rw [← hkw]; simp [funAt, hq]
   have hcn : ¬ ((imF I).1 ≠ 0) := by rw [hc]; decide
   have hkn : ¬ whichM I.funs nm < 0 := by rw [← hkw]; exact hneg
   obtain ⟨pp, hpp⟩ : ∃ pp, pp = I.funs[q].params := ⟨_, rfl⟩
   rw [← hpp] at k1 hpar
   clear hpp hj1 hj2 hkw hc hf hbox hp0 hgf hq hfl hI
   by_cases hp : pp = (args.length : Int)
   ·have hp2 : (pp == (args.length : Int)) = true := by simpa using hp
    have hpn : ¬ (funAt I (whichM I.funs nm)).params ≠ (args.length : Int) := by rw [hpar]; simpa using hp
    by_cases ht : tk < 0 ∨ 5000 < tk
    ·have hr : (runF I nm args.length tk) = (2, -1) := by unfold runF; rw [if_neg hcn, if_neg hkn, if_neg hpn, if_pos ht]
     clear hpar hcn hkn hpn hp
     rcases Decidable.em (tk < 0) with ht1 | ht1
     ·clear ht
      have hE := hidX hr
      clear hr
      conv => arg 2; whnf
      go_wp2_with fail
      refine (bareG 2 _).mono ?_
      rintro e X ⟨rfl, hX⟩
      have hfX := (hX.block _ (heap_lt HF.out)).trans HF.out
      have x0 : X.cell? ⟨fb, 0, none⟩ = some (.int .i64 0) := cell_of_blk hfX 0
      have x1 : X.cell? ⟨fb, 1, none⟩ = some (.int .i64 p0) := cell_of_blk hfX 1
      have fx0 := free_of_blk hfX 0
      have fx1 := free_of_blk hfX 1
      have HFX := hidX hfX
      have HX := hidX hX
      clear hfX hX d0
      go_wp2
      refine HN.out _ _ _ _ _ _ _ _ _ _ _ _ _ _ _ _ _ _ _ _ _ _ _  _ ((((HBD.out.trans (HX.out.mono HBD.out.size)).setCell (by show w.heap.size ≤ fb; omega) _).setCell (by show w.heap.size ≤ fb; omega) _)) ?_ ?_
      ·rw [Below.heap_setCell _ _ _ _ (show w.heap.size ≠ fb by omega), Below.heap_setCell _ _ _ _ (show w.heap.size ≠ fb by omega)]
       exact (HX.out.block _ (heap_lt HBOX.out)).trans HBOX.out
      ·rw [hE.out]
       have := blk_setCell (blk_setCell HFX.out 0 (.int .i64 2)) 1 (.int .i64 (-1))
       simpa using this
     ·have ht2 : 5000 < tk := by omega
      clear ht
      have hE := hidX hr
      clear hr
      conv => arg 2; whnf
      go_wp2_with fail
      refine (bareG 2 _).mono ?_
      rintro e X ⟨rfl, hX⟩
      have hfX := (hX.block _ (heap_lt HF.out)).trans HF.out
      have x0 : X.cell? ⟨fb, 0, none⟩ = some (.int .i64 0) := cell_of_blk hfX 0
      have x1 : X.cell? ⟨fb, 1, none⟩ = some (.int .i64 p0) := cell_of_blk hfX 1
      have fx0 := free_of_blk hfX 0
      have fx1 := free_of_blk hfX 1
      have HFX := hidX hfX
      have HX := hidX hX
      clear hfX hX d0
      go_wp2
      refine HN.out _ _ _ _ _ _ _ _ _ _ _ _ _ _ _ _ _ _ _ _ _ _ _  _ ((((HBD.out.trans (HX.out.mono HBD.out.size)).setCell (by show w.heap.size ≤ fb; omega) _).setCell (by show w.heap.size ≤ fb; omega) _)) ?_ ?_
      ·rw [Below.heap_setCell _ _ _ _ (show w.heap.size ≠ fb by omega), Below.heap_setCell _ _ _ _ (show w.heap.size ≠ fb by omega)]
       exact (HX.out.block _ (heap_lt HBOX.out)).trans HBOX.out
      ·rw [hE.out]
       have := blk_setCell (blk_setCell HFX.out 0 (.int .i64 2)) 1 (.int .i64 (-1))
       simpa using this
    ·have hr : (runF I nm args.length tk) = (0, -1) := by unfold runF; rw [if_neg hcn, if_neg hkn, if_neg hpn, if_neg ht]
     have ht1 : ¬ tk < 0 := by omega
     have ht2 : ¬ 5000 < tk := by omega
     have hE := hidX hr
     have HP0 := hidX hP0
     clear hpar hcn hkn hpn hp ht hr
     conv => arg 2; whnf
     go_wp2
     refine HN.out _ _ _ _ _ _ _ _ _ _ _ _ _ _ _ _ _ _ _ _ _ _ _  _ HBD.out HBOX.out ?_
     rw [hE.out]
     have := HF.out
     rw [HP0.out] at this
     exact this
   ·have hp2 : (pp == (args.length : Int)) = false := by simpa using hp
    have hpn : (funAt I (whichM I.funs nm)).params ≠ (args.length : Int) := by rw [hpar]; simpa using hp
    have hr : (runF I nm args.length tk) = (9, -1) := by unfold runF; rw [if_neg hcn, if_neg hkn, if_pos hpn]
    have hE := hidX hr
    clear hr hpar hcn hkn hpn hp
    conv => arg 2; whnf
    go_wp2_with fail
    refine (bareG 9 _).mono ?_
    rintro e X ⟨rfl, hX⟩
    have hfX := (hX.block _ (heap_lt HF.out)).trans HF.out
    have x0 : X.cell? ⟨fb, 0, none⟩ = some (.int .i64 0) := cell_of_blk hfX 0
    have x1 : X.cell? ⟨fb, 1, none⟩ = some (.int .i64 p0) := cell_of_blk hfX 1
    have fx0 := free_of_blk hfX 0
    have fx1 := free_of_blk hfX 1
    have HFX := hidX hfX
    have HX := hidX hX
    clear hfX hX d0
    go_wp2
    refine HN.out _ _ _ _ _ _ _ _ _ _ _ _ _ _ _ _ _ _ _ _ _ _ _  _ ((((HBD.out.trans (HX.out.mono HBD.out.size)).setCell (by show w.heap.size ≤ fb; omega) _).setCell (by show w.heap.size ≤ fb; omega) _)) ?_ ?_
    ·rw [Below.heap_setCell _ _ _ _ (show w.heap.size ≠ fb by omega), Below.heap_setCell _ _ _ _ (show w.heap.size ≠ fb by omega)]
     exact (HX.out.block _ (heap_lt HBOX.out)).trans HBOX.out
    ·rw [hE.out]
     have := blk_setCell (blk_setCell HFX.out 0 (.int .i64 9)) 1 (.int .i64 (-1))
     simpa using this
 ·have hc2 : 0 < (imF I).1 := by omega
  have hr : (runF I nm args.length tk) = imF I := by unfold runF; rw [if_pos (by omega)]
  have HR := hidX hr
  have HF := hidX hf
  clear hr hf hbox hbd hN hI hk
  obtain ⟨c, hcc⟩ : ∃ c, c = (imF I).1 := ⟨_, rfl⟩
  rw [← hcc] at d0 hc2
  have hc3 : ((c : Int) == 0) = false := by rw [beq_eq_false_iff_ne]; omega
  have HCC := hidX hcc
  clear hcc hc hc2
  conv => arg 2; whnf
  go_wp2
  refine HN.out _ _ _ _ _ _ _ _ _ _ _ _ _ _ _ _ _ _ _ _ _ _ _  _ HBD.out HBOX.out ?_
  rw [HR.out]
  exact HF.out
end Go.Proofs.YtbcpomdcmilpjaaDoor
namespace Go.Proofs.YtbcpomdcmilpjaaDoor
open Go.RowKit
theorem runF_le {I : Im} {nm : List UInt8} {na : Nat} {tk : Int} : (runF I nm na tk).1 ≤ 10 := by
 unfold runF
 split
 ·exact imF_le
 ·split
  ·decide
  ·split
   ·decide
   ·split <;> decide
noncomputable def c18C : Code := ((Tryd.f3.body.bind (fromOf 18)).getD .skip)
set_option maxRecDepth 100000 in
set_option maxHeartbeats 4000000 in
theorem mr_tail {w W : World} {I : Im} {adf adw : Option Addr} {cf cw : Nat} {fb : Nat} {nm : List UInt8} {args : List Int} {aad : Option Addr} {ac : Nat} {tk : Int} {a : Nat → Addr} (hS : Sents w a) (hT : TabC w) (hfun : I.funs.length ≤ 12) (hwor : I.words.length ≤ 10000) (hnl : ∀ f ∈ I.funs, f.name.length ≤ 4000) (hwv : ∀ v ∈ I.words, v < 18446744073709551616) (hbd : Below w.heap.size w W) (hbox : W.heap[w.heap.size]? = some (.cells #[.slice adf I.funs.length cf, .slice adw I.words.length cw] 25 (0, 0))) (hf : W.heap[fb]? = some (.cells #[.int .i64 (((runF I nm args.length tk).1 : Nat) : Int), .int .i64 (runF I nm args.length tk).2] 30 (0, 0))) (hI : XMf (InH w) w (.slice adf I.funs.length cf) I.funs) (hWd : XRow (InH w) w (.slice adw I.words.length cw) I.words.length (wosV I.words)) (hargs : XRow (InH w) w (.slice aad args.length ac) args.length (intsG args)) (hal : args.length ≤ 8) (h64 : ∀ v ∈ args, In64 v) {k : Int} (hk : (runF I nm args.length tk).1 = 0 → k = whichM I.funs nm)
  {c0 c5 c6 c7 c9 c12 c20 c21 c22 c23 c24 c25 c26 c27 c28 c29 c30 c31 c32 c33 c34 c35 c36 c37 c38 c39 c40 c41 c42 c43 c44 c45 c46 c47 c48 c49 c50 c51 c52 c53 c54 c55 c56 c57 c58 c59 c60 c61 c62 c63 c64 c65 c66 c67 c68 c69 c70 c71 c72 c73 c74 c75 c76 c77 c78 c79 c80 c81 c82 c83 c84 c85 c86 : Value} {u8 u13 u14 u15 u16 u17 u18 u19 u87 u88 u89 u90 u91 u92 u93 u94 u95 u96 u97 u98 u99 u100 u101 u102 u103 u104 u105 u106 u107 u108 u109 u110 u111 u112 u113 u114 u115 u116 u117 u118 u119 u120 u121 u122 u123 u124 u125 u126 u127 u128 u129 u130 u131 u132 u133 u134 : Value} {Q : Exit → Act → World → Prop} (hP : ∀ c (a : Act) (d : Option Tmp) (v : Value) w, Q (.panic c) (a.put d v) w → Q (.panic c) a w)
  (hret : ∀ (u8 u13 u14 u15 u16 u17 u18 u19 u87 u88 u89 u90 u91 u92 u93 u94 u95 u96 u97 u98 u99 u100 u101 u102 u103 u104 u105 u106 u107 u108 u109 u110 u111 u112 u113 u114 u115 u116 u117 u118 u119 u120 u121 u122 u123 u124 u125 u126 u127 u128 u129 u130 u131 u132 u133 u134 : Value) (w1 : World), u8 = .bool true → Below w.heap.size w w1 → Q .ret ⟨#[c0, .string ⟨nm.toArray⟩, .slice aad args.length ac, .int .i64 tk, .pointer (some ⟨w.heap.size, 0, none⟩), c5, c6, c7, u8, c9, .pointer (some ⟨fb, 0, none⟩), .int .i64 k, c12, u13, u14, u15, u16, u17, u18, u19, c20, c21, c22, c23, c24, c25, c26, c27, c28, c29, c30, c31, c32, c33, c34, c35, c36, c37, c38, c39, c40, c41, c42, c43, c44, c45, c46, c47, c48, c49, c50, c51, c52, c53, c54, c55, c56, c57, c58, c59, c60, c61, c62, c63, c64, c65, c66, c67, c68, c69, c70, c71, c72, c73, c74, c75, c76, c77, c78, c79, c80, c81, c82, c83, c84, c85, c86, u87, u88, u89, u90, u91, u92, u93, u94, u95, u96, u97, u98, u99, u100, u101, u102, u103, u104, u105, u106, u107, u108, u109, u110, u111, u112, u113, u114, u115, u116, u117, u118, u119, u120, u121, u122, u123, u124, u125, u126, u127, u128, u129, u130, u131, u132, u133, u134], []⟩ w1) :
  Code.wp Tryd.prog c18C Q ⟨#[c0, .string ⟨nm.toArray⟩, .slice aad args.length ac, .int .i64 tk, .pointer (some ⟨w.heap.size, 0, none⟩), c5, c6, c7, u8, c9, .pointer (some ⟨fb, 0, none⟩), .int .i64 k, c12, u13, u14, u15, u16, u17, u18, u19, c20, c21, c22, c23, c24, c25, c26, c27, c28, c29, c30, c31, c32, c33, c34, c35, c36, c37, c38, c39, c40, c41, c42, c43, c44, c45, c46, c47, c48, c49, c50, c51, c52, c53, c54, c55, c56, c57, c58, c59, c60, c61, c62, c63, c64, c65, c66, c67, c68, c69, c70, c71, c72, c73, c74, c75, c76, c77, c78, c79, c80, c81, c82, c83, c84, c85, c86, u87, u88, u89, u90, u91, u92, u93, u94, u95, u96, u97, u98, u99, u100, u101, u102, u103, u104, u105, u106, u107, u108, u109, u110, u111, u112, u113, u114, u115, u116, u117, u118, u119, u120, u121, u122, u123, u124, u125, u126, u127, u128, u129, u130, u131, u132, u133, u134], []⟩ W := by
 have HRET := hidX hret
 have HBD := hidX hbd
 have hlt1 := heap_lt hbox
 have HAS := hidX (asImage_any (w := W) I (by omega) (by omega) adf adw cf cw (hI.imp (inH_up hbd) (keepH hbd)) (hWd.imp (inH_up hbd) (keepH hbd)))
 have b0 : W.cell? ⟨w.heap.size, 0, none⟩ = some (.slice adf I.funs.length cf) := cell_of_blk hbox 0
 have b1 : W.cell? ⟨w.heap.size, 1, none⟩ = some (.slice adw I.words.length cw) := cell_of_blk hbox 1
 have HBOX := hidX hbox
 have HF := hidX hf
 have HI := hidX hI
 have HWD := hidX hWd
 have HA0 := hidX hargs
 have HS := hidX hS
 have HT := hidX hT
 clear hret hbd hbox hf hI hWd hargs hS hT
 conv => arg 2; whnf
 go_wp2_with fail
 refine HAS.out.mono ?_
 rintro e X ⟨af, c1, aw, c2, rfl, hbX, ho1, ho2, _⟩
 clear b0 b1 HAS
 go_upto_region 20 with fail
 obtain ⟨W1, hW1⟩ : ∃ W1, W1 = X.alloc (.cells #[.slice af I.funs.length c1, .slice aw I.words.length c2] 37) := ⟨_, rfl⟩
 rw [← hW1]
 have hb1 : Below X.heap.size X W1 := by rw [hW1]; (repeat (first | exact Below.refl _ _ | assumption | refine Below.drew ?_ | refine bT ?_ _ | refine bS ?_ _ | refine bA ?_ _))
 have hbW := bl_trans hbX hbX.size hb1
 have HXB := hidX (show W1.heap[X.heap.size]? = some (.cells #[.slice af I.funs.length c1, .slice aw I.words.length c2] 37 (0, 0)) from by rw [hW1]; exact heap_alloc_new _ _)
 have HW1 := hidX hbW
 have HFB := hidX ((hbW.block _ (heap_lt HF.out)).trans HF.out)
 have HBX := hidX ((hbW.block _ (heap_lt HBOX.out)).trans HBOX.out)
 have XF := hidX (fun (Y : World) (hY : Below W1.heap.size W1 Y) => (show XMf (InH Y) Y (.slice af I.funs.length c1) I.funs from (xrow_own ho1).imp (fun b hb => by have := hb1.size; have := hY.size; unfold InH; omega) (fun b hb => (hY.block b (by have := hb1.size; omega)).trans (hb1.block b hb.2))))
 have XW := hidX (fun (Y : World) (hY : Below W1.heap.size W1 Y) => (show XRow (InH Y) Y (.slice aw I.words.length c2) I.words.length (wosV I.words) from (xrow_own ho2).imp (fun b hb => by have := hb1.size; have := hY.size; unfold InH; omega) (fun b hb => (hY.block b (by have := hb1.size; omega)).trans (hb1.block b hb.2))))
 have HWW := hidX (bl_trans HBD.out HBD.out.size hbW)
 have HAR := hidX (fun (Y : World) (hY : Below W1.heap.size W1 Y) => (show XRow (InH Y) Y (.slice aad args.length ac) args.length (intsG args) from HA0.out.imp (inH_up (bl_trans HWW.out HWW.out.size hY)) (keepH (bl_trans HWW.out HWW.out.size hY))))
 have MF := hidX (fun (Y : World) (hY : Below W1.heap.size W1 Y) => (show XMf (InH Y) Y (.slice adf I.funs.length cf) I.funs from HI.out.imp (inH_up (bl_trans HWW.out HWW.out.size hY)) (keepH (bl_trans HWW.out HWW.out.size hY))))
 have MW := hidX (fun (Y : World) (hY : Below W1.heap.size W1 Y) => (show XRow (InH Y) Y (.slice adw I.words.length cw) I.words.length (wosV I.words) from HWD.out.imp (inH_up (bl_trans HWW.out HWW.out.size hY)) (keepH (bl_trans HWW.out HWW.out.size hY))))
 have SE := hidX (fun (Y : World) (hY : Below W1.heap.size W1 Y) => HS.out.below (bl_trans HWW.out HWW.out.size hY))
 have SM := hidX (fun (Y : World) (hY : Below W1.heap.size W1 Y) => senM_of (SE.out Y hY))
 have TC := hidX (fun (Y : World) (hY : Below W1.heap.size W1 Y) => HT.out.below (bl_trans HWW.out HWW.out.size hY))
 clear hW1 hb1 hbW hbX ho1 ho2 HBOX HF HWW HI HWD HA0 HS HT
 by_cases hbad : (runF I nm args.length tk).1 = 0
 rotate_left
 ·clear h64 hk HBX MF MW
  have hpos : 0 < (((runF I nm args.length tk).1 : Nat) : Int) := by omega
  have hbR := hidX hbad
  obtain ⟨c, hcc⟩ : ∃ c, c = (runF I nm args.length tk).1 := ⟨_, rfl⟩
  obtain ⟨p, hpc⟩ : ∃ p, p = (runF I nm args.length tk).2 := ⟨_, rfl⟩
  have hr : (runF I nm args.length tk) = (c, p) := by rw [hcc, hpc]
  have hc10 : c ≤ 10 := by rw [hcc]; exact runF_le
  have hcz : c = 0 → p = -1 := fun e => absurd (hcc.symm.trans e) hbad
  rw [← hcc, ← hpc] at HFB
  have d0 : W1.cell? ⟨fb, 0, none⟩ = some (.int .i64 (c : Int)) := cell_of_blk HFB.out 0
  have d1 : W1.cell? ⟨fb, 1, none⟩ = some (.int .i64 p) := cell_of_blk HFB.out 1
  have hpos' : 0 < (c : Int) := by omega
  have HB := hidX (fun (Y : World) (hY : Below W1.heap.size W1 Y) (ad : Option Addr) (cap : Nat) => mrun_bad (SM.out Y hY) (TC.out Y hY) I hnl hwv (by omega) (by omega) af aw c1 c2 (XF.out Y hY) (XW.out Y hY) nm ad args.length cap tk hbad)
  have HRF := hidX hr
  have HC := hidX (And.intro hc10 hcz)
  clear hpos hbad hcc hpc hr hc10 hcz
  go_upto_region 21 with fail
  refine rn21_any (HAR.out W1 (Below.refl _ _)) (by omega) HXB.out (R := fun B X o0 o1 o2 on oc o3 er => o0 = ⟨#[]⟩ ∧ o1 = 0 ∧ o2 = none ∧ on = 0 ∧ oc = 0 ∧ o3 = 0 ∧ FtB B a (runF I nm args.length tk) er X) ?_ ?_ ?_ (fun _ _ _ _ _ h => hP _ _ _ _ _ h) ?_
  ·intro Y hY ad cap _
   refine (HB.out Y hY ad cap).mono ?_
   rintro e w1 ⟨v, rfl, hft⟩
   exact ⟨hft.1, _, _, _, _, _, _, v, rfl, rfl, rfl, rfl, rfl, rfl, rfl, hft.toB⟩
  ·rintro B X Y o0 o1 o2 on oc o3 er ⟨h0, h1, h2, h3, h4, h5, h6⟩ hb
   exact ⟨h0, h1, h2, h3, h4, h5, h6.keep (fun b _ hl => hb.block b hl)⟩
  ·rintro B X b v0 v1 v2 v3 o0 o1 o2 on oc o3 er hlt2 ⟨h0, h1, h2, h3, h4, h5, h6⟩
   refine ⟨h0, h1, h2, h3, h4, h5, h6.keep (fun b2 hb2 _ => ?_)⟩
   have hne : b2 ≠ b := by omega
   rw [Below.heap_setCell _ _ _ _ hne, Below.heap_setCell _ _ _ _ hne, Below.heap_setCell _ _ _ _ hne, Below.heap_setCell _ _ _ _ hne]
  ·rintro u15 u16 u92 u93 u94 u95 u96 u97 u98 u99 u100 u101 w2 ⟨ob, o0, o1, o2, on, oc, o3, rfl, hob, hb2, hoc, B, hB1, hB2, rfl, rfl, rfl, rfl, rfl, rfl, hft⟩
   have y0 : w2.cell? ⟨fb, 0, none⟩ = some (.int .i64 (c : Int)) := cell_of_blk ((hb2.block _ (heap_lt HFB.out)).trans HFB.out) 0
   have y1 : w2.cell? ⟨fb, 1, none⟩ = some (.int .i64 p) := cell_of_blk ((hb2.block _ (heap_lt HFB.out)).trans HFB.out) 1
   have HSE := hidX (SE.out w2 hb2)
   have HB2 := hidX hb2
   have HFT := hidX hft
   have HOC := hidX hoc
   clear hb2 hft hoc d0 d1 hob hB1 hB2
   simp only [Exit.then]
   go_wp2_with fail
   have hft2 := HFT.out
   rw [HRF.out] at hft2
   refine (faulted_ftm hft2 HC.out.1 HC.out.2 HSE.out).mono ?_
   rintro e w3 ⟨rfl, hb3⟩
   have ho3 := (hb3.block _ (heap_lt HOC.out)).trans HOC.out
   have q0 : w3.cell? ⟨ob, 0, none⟩ = some (.string ⟨#[]⟩) := cell_of_blk ho3 0
   have q1 : w3.cell? ⟨ob, 1, none⟩ = some (.int .i64 0) := cell_of_blk ho3 1
   have q2 : w3.cell? ⟨ob, 2, none⟩ = some (.slice none 0 0) := cell_of_blk ho3 2
   have q3 : w3.cell? ⟨ob, 3, none⟩ = some (.int .i64 0) := cell_of_blk ho3 3
   have HB3 := hidX (bl_trans HB2.out HB2.out.size hb3)
   clear hft2 ho3 hb3 y0 y1
   go_wp2_with fail
   refine (sameOut_m [] 0 0 [] (by decide) _ none none 0 0 (xrow_nil _ _) (xrow_nil _ _)).mono ?_
   rintro e w4 ⟨rfl, hb4⟩
   have HB4 := hidX (bl_trans HB3.out HB3.out.size hb4)
   clear hb4 q0 q1 q2 q3
   go_wp2
   exact HRET.out _ _ _ _ _ _ _ _ _ _ _ _ _ _ _ _ _ _ _ _ _ _ _ _ _ _ _ _ _ _ _ _ _ _ _ _ _ _ _ _ _ _ _ _ _ _ _ _ _ _ _ _ _ _ _ _  _ rfl (bl_trans HBD.out HBD.out.size (bl_trans HW1.out HW1.out.size HB4.out))
 ·clear SE
  have hkw := hk hbad
  have hgood := runF_good hbad
  obtain ⟨hi0, hkn, hpar, ht0, ht1⟩ := hgood
  have hWell := well_of hi0
  obtain ⟨q, hq, hql⟩ := which_lt hkn
  have hpl : args.length ≤ 4 := by
   have h1 := (hWell.funs _ (List.getElem_mem hql)).params
   rw [hq] at hpar
   simp [funAt, hql] at hpar
   omega
  obtain ⟨tn, rfl⟩ : ∃ tn : Nat, tk = (tn : Int) := ⟨tk.toNat, by omega⟩
  have htn : tn ≤ 5000 := by omega
  rw [hq] at hkw
  subst hkw
  have d0 : W1.cell? ⟨fb, 0, none⟩ = some (.int .i64 0) := by rw [cell_of_blk HFB.out 0, hbad]; rfl
  have e0 : W1.cell? ⟨w.heap.size, 0, none⟩ = some (.slice adf I.funs.length cf) := cell_of_blk HBX.out 0
  have e1 : W1.cell? ⟨w.heap.size, 1, none⟩ = some (.slice adw I.words.length cw) := cell_of_blk HBX.out 1
  have HMO := hidX (machOf_any (w := W1) I hWell adf adw cf cw (MF.out W1 (Below.refl _ _)) (MW.out W1 (Below.refl _ _)) hwv q hql args hpl h64 aad ac (HAR.out W1 (Below.refl _ _)) tn 20000 htn (by decide))
  have HB := hidX (fun (Y : World) (hY : Below W1.heap.size W1 Y) (ad : Option Addr) (cap : Nat) (hr : XRow (InH Y) Y (.slice ad args.length cap) args.length (intsG args)) => mrun_any (SM.out Y hY) (TC.out Y hY) I hnl hwv (by omega) (by omega) af aw c1 c2 (XF.out Y hY) (XW.out Y hY) nm args ad cap hr (tn : Int) hbad)
  have HQ := hidX hq
  clear hpar ht0 ht1 hbad hi0 hkn hq hk hWell h64
  go_wp2_with fail
  refine HMO.out.mono ?_
  rintro e X2 ⟨how, v, ov, g, rfl, hb2, ho2, hol2, hend⟩
  obtain ⟨oad, ocap, rfl⟩ := own_is ho2
  go_upto_region 24 with fail
  obtain ⟨W2, hW2⟩ : ∃ W2, W2 = X2.alloc (.cells #[.string ⟨how.toArray⟩, .int .i64 v, .slice oad g.out.length ocap, .int .i64 (g.ticks : Int)] 40) := ⟨_, rfl⟩
  rw [← hW2]
  have hb3 : Below X2.heap.size X2 W2 := by rw [hW2]; (repeat (first | exact Below.refl _ _ | assumption | refine Below.drew ?_ | refine bT ?_ _ | refine bS ?_ _ | refine bA ?_ _))
  have HB2 := hidX (bl_trans hb2 hb2.size hb3)
  have HO2 := hidX (show W2.heap[X2.heap.size]? = some (.cells #[.string ⟨how.toArray⟩, .int .i64 v, .slice oad g.out.length ocap, .int .i64 (g.ticks : Int)] 40 (0, 0)) from by rw [hW2]; exact heap_alloc_new _ _)
  have HR2 := hidX (show XRow (InH W2) W2 (.slice oad g.out.length ocap) g.out.length (intsG g.out) from (xrow_own ho2).imp (fun b hb => by have := hb3.size; unfold InH; omega) (fun b hb => hb3.block b hb.2))
  have HE := hidX hend
  have p0 : W2.cell? ⟨X2.heap.size, 0, none⟩ = some (.string ⟨how.toArray⟩) := cell_of_blk HO2.out 0
  clear hW2 hb3 hb2 ho2 hend d0 e0 e1
  by_cases hlong : how = hLong
  ·have hs : (how == [108, 111, 110, 103]) = true := by rw [hlong]; rfl
   clear hlong
   go_wp2
   exact HRET.out _ _ _ _ _ _ _ _ _ _ _ _ _ _ _ _ _ _ _ _ _ _ _ _ _ _ _ _ _ _ _ _ _ _ _ _ _ _ _ _ _ _ _ _ _ _ _ _ _ _ _ _ _ _ _ _  _ rfl (bl_trans HBD.out HBD.out.size (bl_trans HW1.out HW1.out.size HB2.out))
  ·have hs : (how == [108, 111, 110, 103]) = false := ne_lit (show ¬ how = [108, 111, 110, 103] from hlong)
   have HNL := hidX hlong
   clear hlong
   go_upto_region 26 with fail
   refine rn26_any (HAR.out W2 HB2.out) (by omega) ((HB2.out.block _ (heap_lt HXB.out)).trans HXB.out) (R := fun B X o0 o1 o2 on oc o3 er => er = .nilIface ∧ ∃ how2 v2 g2, o0 = ⟨(how2 : List UInt8).toArray⟩ ∧ o1 = v2 ∧ on = g2.out.length ∧ o3 = (g2.ticks : Int) ∧ X.ownsRow B 3 1 (.slice o2 on oc) g2.out.length (intsG g2.out) ∧ EndM I tn (startM I nm args tn) how2 v2 g2) ?_ ?_ ?_ (fun _ _ _ _ _ h => hP _ _ _ _ _ h) ?_
   ·intro Y hY ad cap hr
    refine (HB.out Y (bl_trans HB2.out HB2.out.size hY) ad cap hr).mono ?_
    rintro e w1 ⟨hbw, how2, v2, ov2, g2, rfl, ho, _, he⟩
    obtain ⟨oad2, ocap2, rfl⟩ := own_is ho
    exact ⟨hbw, _, _, _, _, _, _, _, rfl, rfl, how2, v2, g2, rfl, rfl, rfl, rfl, ho, he⟩
   ·rintro B X Y o0 o1 o2 on oc o3 er ⟨h0, how2, v2, g2, h1, h2, h3, h4, h5, h6⟩ hb
    exact ⟨h0, how2, v2, g2, h1, h2, h3, h4, own_same h5 (fun b e => hb.block b (h5.lt b e).2), h6⟩
   ·rintro B X b v0 v1 v2 v3 o0 o1 o2 on oc o3 er hlt2 ⟨h0, how2, w2_, g2, h1, h2, h3, h4, h5, h6⟩
    refine ⟨h0, how2, w2_, g2, h1, h2, h3, h4, own_same h5 (fun b2 e => ?_), h6⟩
    have hne : b2 ≠ b := by have := (h5.lt b2 e).1; omega
    rw [Below.heap_setCell _ _ _ _ hne, Below.heap_setCell _ _ _ _ hne, Below.heap_setCell _ _ _ _ hne, Below.heap_setCell _ _ _ _ hne]
   ·rintro u18 u19 u118 u119 u120 u121 u122 u123 u124 u125 u126 u127 w3 ⟨ob, o0, o1, o2, on, oc, o3, rfl, hob, hb4, hoc, B, hB1, hB2, rfl, how2, v2, g2, rfl, rfl, rfl, rfl, ho4, he2⟩
    have hst : startM I nm args tn = enterM I tn ⟨[], 0⟩ [] (q : Int) (four args) 0 := by unfold startM; rw [HQ.out]
    rw [hst] at he2
    obtain ⟨rfl, rfl, rfl⟩ := ends_one HE.out HNL.out he2
    have HB4 := hidX hb4
    have HR4 := hidX (show XRow (InH w3) w3 (.slice o2 g2.out.length oc) g2.out.length (intsG g2.out) from (xrow_own ho4).imp (fun b hb => hb.2) (fun _ _ => rfl))
    have HR5 := hidX (HR2.out.imp (inH_up hb4) (keepH hb4))
    have ho6 := (hb4.block _ (heap_lt HO2.out)).trans HO2.out
    have q0 : w3.cell? ⟨X2.heap.size, 0, none⟩ = some (.string ⟨how2.toArray⟩) := cell_of_blk ho6 0
    have q1 : w3.cell? ⟨X2.heap.size, 1, none⟩ = some (.int .i64 o1) := cell_of_blk ho6 1
    have q2 : w3.cell? ⟨X2.heap.size, 2, none⟩ = some (.slice oad g2.out.length ocap) := cell_of_blk ho6 2
    have q3 : w3.cell? ⟨X2.heap.size, 3, none⟩ = some (.int .i64 (g2.ticks : Int)) := cell_of_blk ho6 3
    have s0 : w3.cell? ⟨ob, 0, none⟩ = some (.string ⟨how2.toArray⟩) := cell_of_blk hoc 0
    have s1 : w3.cell? ⟨ob, 1, none⟩ = some (.int .i64 o1) := cell_of_blk hoc 1
    have s2 : w3.cell? ⟨ob, 2, none⟩ = some (.slice o2 g2.out.length oc) := cell_of_blk hoc 2
    have s3 : w3.cell? ⟨ob, 3, none⟩ = some (.int .i64 (g2.ticks : Int)) := cell_of_blk hoc 3
    have HOL := hidX hol2
    clear hb4 ho4 ho6 hoc he2 hst p0 hs hob hB1 hB2 hol2
    simp only [Exit.then]
    go_wp2_with fail
    refine (sameOut_m how2 o1 g2.ticks g2.out (by have := HOL.out; omega) _ _ _ _ _ HR4.out HR5.out).mono ?_
    rintro e w5 ⟨rfl, hb5⟩
    have HB5 := hidX (bl_trans HB4.out HB4.out.size hb5)
    clear hb5 q0 q1 q2 q3 s0 s1 s2 s3
    go_wp2
    exact HRET.out _ _ _ _ _ _ _ _ _ _ _ _ _ _ _ _ _ _ _ _ _ _ _ _ _ _ _ _ _ _ _ _ _ _ _ _ _ _ _ _ _ _ _ _ _ _ _ _ _ _ _ _ _ _ _ _  _ rfl (bl_trans HBD.out HBD.out.size (bl_trans HW1.out HW1.out.size (bl_trans HB2.out HB2.out.size HB5.out)))
end Go.Proofs.YtbcpomdcmilpjaaDoor
namespace Go.Proofs.YtbcpomdcmilpjaaDoor
open Go.RowKit
noncomputable def mr0C : Code := ((Tryd.f3.body.bind (regionOf 0)).getD .skip)
noncomputable def mr1C : Code := ((Tryd.f3.body.bind (regionOf 1)).getD .skip)
noncomputable def mr2C : Code := fstC ((Tryd.f3.body.bind (fromOf 2)).getD .skip)
noncomputable def mr4C : Code := ((Tryd.f3.body.bind (regionOf 4)).getD .skip)
noncomputable def mr5C : Code := ((Tryd.f3.body.bind (regionOf 5)).getD .skip)
noncomputable def mr6C : Code := fstC ((Tryd.f3.body.bind (fromOf 6)).getD .skip)
set_option maxRecDepth 100000 in
set_option maxHeartbeats 4000000 in
theorem mr_0 {w : World} {I : Im} {adf adw : Option Addr} {cf cw : Nat} {nm : List UInt8} {args : List Int} {aad : Option Addr} {ac : Nat} {tk : Int} {c5 c6 c7 c9 c10 c11 c12 c13 c14 c15 c16 c17 c18 c19 c20 c21 c22 c23 c24 c25 c26 c27 c28 c29 c30 c31 c32 c33 c34 c35 c36 c37 c38 c39 c40 c41 c42 c43 c44 c45 c46 c47 c48 c49 c50 c51 c52 c53 c54 c55 c56 c57 c58 c59 c60 c61 c62 c63 c64 c65 c66 c67 c68 c69 c70 c71 c72 c73 c74 c75 c76 c77 c78 c79 c80 c81 c82 c83 c84 c85 c86 c87 c88 c89 c90 c91 c92 c93 c94 c95 c96 c97 c98 c99 c100 c101 c102 c103 c104 c105 c106 c107 c108 c109 c110 c111 c112 c113 c114 c115 c116 c117 c118 c119 c120 c121 c122 c123 c124 c125 c126 c127 c128 c129 c130 c131 c132 c133 c134 : Value} {u4 u8 : Value} {Q : Exit → Act → World → Prop}
  (hN : ∀ (u8 : Value), Q .normal ⟨#[.agg #[.slice adf I.funs.length cf, .slice adw I.words.length cw], .string ⟨nm.toArray⟩, .slice aad args.length ac, .int .i64 tk, .pointer (some ⟨w.heap.size, 0, none⟩), c5, c6, c7, u8, c9, c10, c11, c12, c13, c14, c15, c16, c17, c18, c19, c20, c21, c22, c23, c24, c25, c26, c27, c28, c29, c30, c31, c32, c33, c34, c35, c36, c37, c38, c39, c40, c41, c42, c43, c44, c45, c46, c47, c48, c49, c50, c51, c52, c53, c54, c55, c56, c57, c58, c59, c60, c61, c62, c63, c64, c65, c66, c67, c68, c69, c70, c71, c72, c73, c74, c75, c76, c77, c78, c79, c80, c81, c82, c83, c84, c85, c86, c87, c88, c89, c90, c91, c92, c93, c94, c95, c96, c97, c98, c99, c100, c101, c102, c103, c104, c105, c106, c107, c108, c109, c110, c111, c112, c113, c114, c115, c116, c117, c118, c119, c120, c121, c122, c123, c124, c125, c126, c127, c128, c129, c130, c131, c132, c133, c134], []⟩ (w.alloc (.cells #[.slice adf I.funs.length cf, .slice adw I.words.length cw] 25))) : Code.wp Tryd.prog mr0C Q ⟨#[.agg #[.slice adf I.funs.length cf, .slice adw I.words.length cw], .string ⟨nm.toArray⟩, .slice aad args.length ac, .int .i64 tk, u4, c5, c6, c7, u8, c9, c10, c11, c12, c13, c14, c15, c16, c17, c18, c19, c20, c21, c22, c23, c24, c25, c26, c27, c28, c29, c30, c31, c32, c33, c34, c35, c36, c37, c38, c39, c40, c41, c42, c43, c44, c45, c46, c47, c48, c49, c50, c51, c52, c53, c54, c55, c56, c57, c58, c59, c60, c61, c62, c63, c64, c65, c66, c67, c68, c69, c70, c71, c72, c73, c74, c75, c76, c77, c78, c79, c80, c81, c82, c83, c84, c85, c86, c87, c88, c89, c90, c91, c92, c93, c94, c95, c96, c97, c98, c99, c100, c101, c102, c103, c104, c105, c106, c107, c108, c109, c110, c111, c112, c113, c114, c115, c116, c117, c118, c119, c120, c121, c122, c123, c124, c125, c126, c127, c128, c129, c130, c131, c132, c133, c134], []⟩ w := by
 have HN := hidX hN
 clear hN
 conv => arg 2; whnf
 go_wp2
 exact HN.out _
set_option maxRecDepth 100000 in
set_option maxHeartbeats 4000000 in
theorem mr_1 {w W : World} {I : Im} {adf adw : Option Addr} {cf cw : Nat} {nm : List UInt8} {args : List Int} {aad : Option Addr} {ac : Nat} {tk : Int} {a : Nat → Addr} (hS : SenM W a) (hT : TabC W) {c5 c6 c7 c8 c10 c11 c12 c13 c14 c15 c16 c17 c18 c19 c21 c22 c23 c24 c25 c26 c27 c28 c29 c30 c31 c32 c33 c34 c35 c36 c37 c38 c39 c40 c41 c42 c43 c44 c45 c46 c47 c48 c49 c50 c51 c52 c53 c54 c55 c56 c57 c58 c59 c60 c61 c62 c63 c64 c65 c66 c67 c68 c69 c70 c71 c72 c73 c74 c75 c76 c77 c78 c79 c80 c81 c82 c83 c84 c85 c86 c87 c88 c89 c90 c91 c92 c93 c94 c95 c96 c97 c98 c99 c100 c101 c102 c103 c104 c105 c106 c107 c108 c109 c110 c111 c112 c113 c114 c115 c116 c117 c118 c119 c120 c121 c122 c123 c124 c125 c126 c127 c128 c129 c130 c131 c132 c133 c134 : Value} {u9 u20 : Value} {Q : Exit → Act → World → Prop}
  (hN : ∀ (u20 : Value) (w1 : World), Below W.heap.size W w1 → Q .normal ⟨#[.agg #[.slice adf I.funs.length cf, .slice adw I.words.length cw], .string ⟨nm.toArray⟩, .slice aad args.length ac, .int .i64 tk, .pointer (some ⟨w.heap.size, 0, none⟩), c5, c6, c7, c8, .bool true, c10, c11, c12, c13, c14, c15, c16, c17, c18, c19, u20, c21, c22, c23, c24, c25, c26, c27, c28, c29, c30, c31, c32, c33, c34, c35, c36, c37, c38, c39, c40, c41, c42, c43, c44, c45, c46, c47, c48, c49, c50, c51, c52, c53, c54, c55, c56, c57, c58, c59, c60, c61, c62, c63, c64, c65, c66, c67, c68, c69, c70, c71, c72, c73, c74, c75, c76, c77, c78, c79, c80, c81, c82, c83, c84, c85, c86, c87, c88, c89, c90, c91, c92, c93, c94, c95, c96, c97, c98, c99, c100, c101, c102, c103, c104, c105, c106, c107, c108, c109, c110, c111, c112, c113, c114, c115, c116, c117, c118, c119, c120, c121, c122, c123, c124, c125, c126, c127, c128, c129, c130, c131, c132, c133, c134], []⟩ w1) : Code.wp Tryd.prog mr1C Q ⟨#[.agg #[.slice adf I.funs.length cf, .slice adw I.words.length cw], .string ⟨nm.toArray⟩, .slice aad args.length ac, .int .i64 tk, .pointer (some ⟨w.heap.size, 0, none⟩), c5, c6, c7, c8, u9, c10, c11, c12, c13, c14, c15, c16, c17, c18, c19, u20, c21, c22, c23, c24, c25, c26, c27, c28, c29, c30, c31, c32, c33, c34, c35, c36, c37, c38, c39, c40, c41, c42, c43, c44, c45, c46, c47, c48, c49, c50, c51, c52, c53, c54, c55, c56, c57, c58, c59, c60, c61, c62, c63, c64, c65, c66, c67, c68, c69, c70, c71, c72, c73, c74, c75, c76, c77, c78, c79, c80, c81, c82, c83, c84, c85, c86, c87, c88, c89, c90, c91, c92, c93, c94, c95, c96, c97, c98, c99, c100, c101, c102, c103, c104, c105, c106, c107, c108, c109, c110, c111, c112, c113, c114, c115, c116, c117, c118, c119, c120, c121, c122, c123, c124, c125, c126, c127, c128, c129, c130, c131, c132, c133, c134], []⟩ W := by
 have HN := hidX hN
 have HM := hidX (machined_any hS hT)
 clear hN hS hT
 conv => arg 2; whnf
 go_wp2_with fail
 refine HM.out.mono ?_
 rintro e w1 ⟨rfl, hb⟩
 have HB := hidX hb
 clear hb
 go_wp2
 exact HN.out _ _ HB.out
set_option maxRecDepth 100000 in
set_option maxHeartbeats 4000000 in
theorem mr_2 {w W : World} {I : Im} {adf adw : Option Addr} {cf cw : Nat} {nm : List UInt8} {args : List Int} {aad : Option Addr} {ac : Nat} {tk : Int} (hfl : I.funs.length ≤ 9223372036854775807) (hwl : I.words.length ≤ 9223372036854775807) (hnl : ∀ f ∈ I.funs, f.name.length ≤ 9223372036854775807) (hal : args.length ≤ 9223372036854775807) (hnm : nm.length ≤ 9223372036854775807) (hbox : W.heap[w.heap.size]? = some (.cells #[.slice adf I.funs.length cf, .slice adw I.words.length cw] 25 (0, 0))) (hF : XMf (InH W) W (.slice adf I.funs.length cf) I.funs) {c5 c6 c7 c10 c11 c12 c13 c14 c15 c16 c17 c18 c19 c20 c46 c47 c48 c49 c50 c51 c52 c53 c54 c55 c56 c57 c58 c59 c60 c61 c62 c63 c64 c65 c66 c67 c68 c69 c70 c71 c72 c73 c74 c75 c76 c77 c78 c79 c80 c81 c82 c83 c84 c85 c86 c87 c88 c89 c90 c91 c92 c93 c94 c95 c96 c97 c98 c99 c100 c101 c102 c103 c104 c105 c106 c107 c108 c109 c110 c111 c112 c113 c114 c115 c116 c117 c118 c119 c120 c121 c122 c123 c124 c125 c126 c127 c128 c129 c130 c131 c132 c133 c134 : Value} {u8 u21 u22 u23 u24 u25 u26 u27 u28 u29 u30 u31 u32 u33 u34 u35 u36 u37 u38 u39 u40 u41 u42 u43 u44 u45 : Value} {Q : Exit → Act → World → Prop}
  (hN : ∀ (u8 u21 u22 u23 u24 u25 u26 u27 u28 u29 u30 u31 u32 u33 u34 u35 u36 u37 u38 u39 u40 u41 u42 u43 u44 u45 : Value) (w1 : World), Below W.heap.size W w1 → FewIm I → args.length ≤ 8 → nm.length ≤ 20 → ¬ (60 < tk ∧ tk ≤ 5000) → Q .normal ⟨#[.agg #[.slice adf I.funs.length cf, .slice adw I.words.length cw], .string ⟨nm.toArray⟩, .slice aad args.length ac, .int .i64 tk, .pointer (some ⟨w.heap.size, 0, none⟩), c5, c6, c7, u8, .bool true, c10, c11, c12, c13, c14, c15, c16, c17, c18, c19, c20, u21, u22, u23, u24, u25, u26, u27, u28, u29, u30, u31, u32, u33, u34, u35, u36, u37, u38, u39, u40, u41, u42, u43, u44, u45, c46, c47, c48, c49, c50, c51, c52, c53, c54, c55, c56, c57, c58, c59, c60, c61, c62, c63, c64, c65, c66, c67, c68, c69, c70, c71, c72, c73, c74, c75, c76, c77, c78, c79, c80, c81, c82, c83, c84, c85, c86, c87, c88, c89, c90, c91, c92, c93, c94, c95, c96, c97, c98, c99, c100, c101, c102, c103, c104, c105, c106, c107, c108, c109, c110, c111, c112, c113, c114, c115, c116, c117, c118, c119, c120, c121, c122, c123, c124, c125, c126, c127, c128, c129, c130, c131, c132, c133, c134], []⟩ w1)
  (hR : ∀ (u8 u21 u22 u23 u24 u25 u26 u27 u28 u29 u30 u31 u32 u33 u34 u35 u36 u37 u38 u39 u40 u41 u42 u43 u44 u45 : Value) (w1 : World), u8 = .bool true → Below W.heap.size W w1 → Q .ret ⟨#[.agg #[.slice adf I.funs.length cf, .slice adw I.words.length cw], .string ⟨nm.toArray⟩, .slice aad args.length ac, .int .i64 tk, .pointer (some ⟨w.heap.size, 0, none⟩), c5, c6, c7, u8, .bool true, c10, c11, c12, c13, c14, c15, c16, c17, c18, c19, c20, u21, u22, u23, u24, u25, u26, u27, u28, u29, u30, u31, u32, u33, u34, u35, u36, u37, u38, u39, u40, u41, u42, u43, u44, u45, c46, c47, c48, c49, c50, c51, c52, c53, c54, c55, c56, c57, c58, c59, c60, c61, c62, c63, c64, c65, c66, c67, c68, c69, c70, c71, c72, c73, c74, c75, c76, c77, c78, c79, c80, c81, c82, c83, c84, c85, c86, c87, c88, c89, c90, c91, c92, c93, c94, c95, c96, c97, c98, c99, c100, c101, c102, c103, c104, c105, c106, c107, c108, c109, c110, c111, c112, c113, c114, c115, c116, c117, c118, c119, c120, c121, c122, c123, c124, c125, c126, c127, c128, c129, c130, c131, c132, c133, c134], []⟩ w1) : Code.wp Tryd.prog mr2C Q ⟨#[.agg #[.slice adf I.funs.length cf, .slice adw I.words.length cw], .string ⟨nm.toArray⟩, .slice aad args.length ac, .int .i64 tk, .pointer (some ⟨w.heap.size, 0, none⟩), c5, c6, c7, u8, .bool true, c10, c11, c12, c13, c14, c15, c16, c17, c18, c19, c20, u21, u22, u23, u24, u25, u26, u27, u28, u29, u30, u31, u32, u33, u34, u35, u36, u37, u38, u39, u40, u41, u42, u43, u44, u45, c46, c47, c48, c49, c50, c51, c52, c53, c54, c55, c56, c57, c58, c59, c60, c61, c62, c63, c64, c65, c66, c67, c68, c69, c70, c71, c72, c73, c74, c75, c76, c77, c78, c79, c80, c81, c82, c83, c84, c85, c86, c87, c88, c89, c90, c91, c92, c93, c94, c95, c96, c97, c98, c99, c100, c101, c102, c103, c104, c105, c106, c107, c108, c109, c110, c111, c112, c113, c114, c115, c116, c117, c118, c119, c120, c121, c122, c123, c124, c125, c126, c127, c128, c129, c130, c131, c132, c133, c134], []⟩ W := by
 have HN := hidX hN
 have HR := hidX hR
 have HL := hidX (largeImg_any I hfl hwl hnl adf adw cf cw hF)
 have b0 : W.cell? ⟨w.heap.size, 0, none⟩ = some (.slice adf I.funs.length cf) := cell_of_blk hbox 0
 have b1 : W.cell? ⟨w.heap.size, 1, none⟩ = some (.slice adw I.words.length cw) := cell_of_blk hbox 1
 have hal' : (args.length : Int) ≤ 9223372036854775807 := by omega
 have hnm' : (nm.length : Int) ≤ 9223372036854775807 := by omega
 clear hN hR hfl hwl hnl hbox hF
 conv => arg 2; whnf
 go_wp2_with fail
 refine HL.out.mono ?_
 rintro e w1 ⟨b, rfl, hfew, hb⟩
 have HB := hidX hb
 have HF := hidX hfew
 clear hb b0 b1 hfew
 cases b with
 | true =>
  go_wp2
  exact HR.out _ _ _ _ _ _ _ _ _ _ _ _ _ _ _ _ _ _ _ _ _ _ _ _ _ _  _ rfl HB.out
 | false =>
  by_cases h1 : args.length ≤ 8
  ·have h1' : ¬ (8 : Int) < (args.length : Int) := by omega
   by_cases h2 : nm.length ≤ 20
   ·have h2' : ¬ (20 : Int) < (nm.length : Int) := by omega
    by_cases h3 : 60 < tk
    ·by_cases h4 : tk ≤ 5000
     ·go_wp2
      exact HR.out _ _ _ _ _ _ _ _ _ _ _ _ _ _ _ _ _ _ _ _ _ _ _ _ _ _  _ rfl HB.out
     ·have h34 : ¬ (60 < tk ∧ tk ≤ 5000) := fun h => h4 h.2
      have H34 := hidX h34
      clear h34
      go_wp2
      exact HN.out _ _ _ _ _ _ _ _ _ _ _ _ _ _ _ _ _ _ _ _ _ _ _ _ _ _  _ HB.out (HF.out (by first | rfl | trivial)) h1 h2 H34.out
    ·have h34 : ¬ (60 < tk ∧ tk ≤ 5000) := fun h => h3 h.1
     have H34 := hidX h34
     clear h34
     go_wp2
     exact HN.out _ _ _ _ _ _ _ _ _ _ _ _ _ _ _ _ _ _ _ _ _ _ _ _ _ _  _ HB.out (HF.out (by first | rfl | trivial)) h1 h2 H34.out
   ·have h2' : (20 : Int) < (nm.length : Int) := by omega
    go_wp2
    exact HR.out _ _ _ _ _ _ _ _ _ _ _ _ _ _ _ _ _ _ _ _ _ _ _ _ _ _  _ rfl HB.out
  ·have h1' : (8 : Int) < (args.length : Int) := by omega
   go_wp2
   exact HR.out _ _ _ _ _ _ _ _ _ _ _ _ _ _ _ _ _ _ _ _ _ _ _ _ _ _  _ rfl HB.out
set_option maxRecDepth 100000 in
set_option maxHeartbeats 4000000 in
theorem mr_4 {w W : World} {I : Im} {adf adw : Option Addr} {cf cw : Nat} {nm : List UInt8} {args : List Int} {aad : Option Addr} {ac : Nat} {tk : Int} (hfl : I.funs.length ≤ 100000) (hwl : I.words.length ≤ 100000) (hwv : ∀ v ∈ I.words, v < 18446744073709551616) (hbox : W.heap[w.heap.size]? = some (.cells #[.slice adf I.funs.length cf, .slice adw I.words.length cw] 25 (0, 0))) (hF : XMf (InH W) W (.slice adf I.funs.length cf) I.funs) (hWd : XRow (InH W) W (.slice adw I.words.length cw) I.words.length (wosV I.words)) {c5 c6 c7 c8 c11 c12 c13 c14 c15 c16 c17 c18 c19 c20 c21 c22 c23 c24 c25 c26 c27 c28 c29 c30 c31 c32 c33 c34 c35 c36 c37 c38 c39 c40 c41 c42 c43 c44 c45 c48 c49 c50 c51 c52 c53 c54 c55 c56 c57 c58 c59 c60 c61 c62 c63 c64 c65 c66 c67 c68 c69 c70 c71 c72 c73 c74 c75 c76 c77 c78 c79 c80 c81 c82 c83 c84 c85 c86 c87 c88 c89 c90 c91 c92 c93 c94 c95 c96 c97 c98 c99 c100 c101 c102 c103 c104 c105 c106 c107 c108 c109 c110 c111 c112 c113 c114 c115 c116 c117 c118 c119 c120 c121 c122 c123 c124 c125 c126 c127 c128 c129 c130 c131 c132 c133 c134 : Value} {u10 u46 u47 : Value} {Q : Exit → Act → World → Prop}
  (hN : ∀ (u46 u47 : Value) (fb : Nat) (w1 : World), Below W.heap.size W w1 → W.heap.size ≤ fb → w1.heap[fb]? = some (.cells #[.int .i64 (((imF I).1 : Nat) : Int), .int .i64 (imF I).2] 30 (0, 0)) → Q .normal ⟨#[.agg #[.slice adf I.funs.length cf, .slice adw I.words.length cw], .string ⟨nm.toArray⟩, .slice aad args.length ac, .int .i64 tk, .pointer (some ⟨w.heap.size, 0, none⟩), c5, c6, c7, c8, .bool true, .pointer (some ⟨fb, 0, none⟩), c11, c12, c13, c14, c15, c16, c17, c18, c19, c20, c21, c22, c23, c24, c25, c26, c27, c28, c29, c30, c31, c32, c33, c34, c35, c36, c37, c38, c39, c40, c41, c42, c43, c44, c45, u46, u47, c48, c49, c50, c51, c52, c53, c54, c55, c56, c57, c58, c59, c60, c61, c62, c63, c64, c65, c66, c67, c68, c69, c70, c71, c72, c73, c74, c75, c76, c77, c78, c79, c80, c81, c82, c83, c84, c85, c86, c87, c88, c89, c90, c91, c92, c93, c94, c95, c96, c97, c98, c99, c100, c101, c102, c103, c104, c105, c106, c107, c108, c109, c110, c111, c112, c113, c114, c115, c116, c117, c118, c119, c120, c121, c122, c123, c124, c125, c126, c127, c128, c129, c130, c131, c132, c133, c134], []⟩ w1) : Code.wp Tryd.prog mr4C Q ⟨#[.agg #[.slice adf I.funs.length cf, .slice adw I.words.length cw], .string ⟨nm.toArray⟩, .slice aad args.length ac, .int .i64 tk, .pointer (some ⟨w.heap.size, 0, none⟩), c5, c6, c7, c8, .bool true, u10, c11, c12, c13, c14, c15, c16, c17, c18, c19, c20, c21, c22, c23, c24, c25, c26, c27, c28, c29, c30, c31, c32, c33, c34, c35, c36, c37, c38, c39, c40, c41, c42, c43, c44, c45, u46, u47, c48, c49, c50, c51, c52, c53, c54, c55, c56, c57, c58, c59, c60, c61, c62, c63, c64, c65, c66, c67, c68, c69, c70, c71, c72, c73, c74, c75, c76, c77, c78, c79, c80, c81, c82, c83, c84, c85, c86, c87, c88, c89, c90, c91, c92, c93, c94, c95, c96, c97, c98, c99, c100, c101, c102, c103, c104, c105, c106, c107, c108, c109, c110, c111, c112, c113, c114, c115, c116, c117, c118, c119, c120, c121, c122, c123, c124, c125, c126, c127, c128, c129, c130, c131, c132, c133, c134], []⟩ W := by
 have HN := hidX hN
 have HI := hidX (rImage_any I hwv hfl hwl adf adw cf cw hF hWd)
 have b0 : W.cell? ⟨w.heap.size, 0, none⟩ = some (.slice adf I.funs.length cf) := cell_of_blk hbox 0
 have b1 : W.cell? ⟨w.heap.size, 1, none⟩ = some (.slice adw I.words.length cw) := cell_of_blk hbox 1
 clear hN hfl hwl hwv hbox hF hWd
 conv => arg 2; whnf
 go_wp2_with fail
 refine HI.out.mono ?_
 rintro e w1 ⟨rfl, hb⟩
 have HB := hidX hb
 clear hb b0 b1
 go_wp2
 exact HN.out _ _ _ _ (bl_trans HB.out HB.out.size (by (repeat (first | exact Below.refl _ _ | assumption | refine Below.drew ?_ | refine bT ?_ _ | refine bS ?_ _ | refine bA ?_ _)))) HB.out.size (heap_alloc_new _ _)
set_option maxRecDepth 100000 in
set_option maxHeartbeats 4000000 in
theorem mr_5 {w W : World} {I : Im} {adf adw : Option Addr} {cf cw : Nat} {nm : List UInt8} {args : List Int} {aad : Option Addr} {ac : Nat} {tk : Int} {fb : Nat} {c5 c6 c7 c8 c12 c13 c14 c15 c16 c17 c18 c19 c20 c21 c22 c23 c24 c25 c26 c27 c28 c29 c30 c31 c32 c33 c34 c35 c36 c37 c38 c39 c40 c41 c42 c43 c44 c45 c46 c47 c48 c49 c50 c51 c52 c53 c54 c55 c56 c57 c58 c59 c60 c61 c62 c63 c64 c65 c66 c67 c68 c69 c70 c71 c72 c73 c74 c75 c76 c77 c78 c79 c80 c81 c82 c83 c84 c85 c86 c87 c88 c89 c90 c91 c92 c93 c94 c95 c96 c97 c98 c99 c100 c101 c102 c103 c104 c105 c106 c107 c108 c109 c110 c111 c112 c113 c114 c115 c116 c117 c118 c119 c120 c121 c122 c123 c124 c125 c126 c127 c128 c129 c130 c131 c132 c133 c134 : Value} {u11 : Value} {Q : Exit → Act → World → Prop}
  (hN : Q .normal ⟨#[.agg #[.slice adf I.funs.length cf, .slice adw I.words.length cw], .string ⟨nm.toArray⟩, .slice aad args.length ac, .int .i64 tk, .pointer (some ⟨w.heap.size, 0, none⟩), c5, c6, c7, c8, .bool true, .pointer (some ⟨fb, 0, none⟩), .int .i64 (-1), c12, c13, c14, c15, c16, c17, c18, c19, c20, c21, c22, c23, c24, c25, c26, c27, c28, c29, c30, c31, c32, c33, c34, c35, c36, c37, c38, c39, c40, c41, c42, c43, c44, c45, c46, c47, c48, c49, c50, c51, c52, c53, c54, c55, c56, c57, c58, c59, c60, c61, c62, c63, c64, c65, c66, c67, c68, c69, c70, c71, c72, c73, c74, c75, c76, c77, c78, c79, c80, c81, c82, c83, c84, c85, c86, c87, c88, c89, c90, c91, c92, c93, c94, c95, c96, c97, c98, c99, c100, c101, c102, c103, c104, c105, c106, c107, c108, c109, c110, c111, c112, c113, c114, c115, c116, c117, c118, c119, c120, c121, c122, c123, c124, c125, c126, c127, c128, c129, c130, c131, c132, c133, c134], []⟩ W) : Code.wp Tryd.prog mr5C Q ⟨#[.agg #[.slice adf I.funs.length cf, .slice adw I.words.length cw], .string ⟨nm.toArray⟩, .slice aad args.length ac, .int .i64 tk, .pointer (some ⟨w.heap.size, 0, none⟩), c5, c6, c7, c8, .bool true, .pointer (some ⟨fb, 0, none⟩), u11, c12, c13, c14, c15, c16, c17, c18, c19, c20, c21, c22, c23, c24, c25, c26, c27, c28, c29, c30, c31, c32, c33, c34, c35, c36, c37, c38, c39, c40, c41, c42, c43, c44, c45, c46, c47, c48, c49, c50, c51, c52, c53, c54, c55, c56, c57, c58, c59, c60, c61, c62, c63, c64, c65, c66, c67, c68, c69, c70, c71, c72, c73, c74, c75, c76, c77, c78, c79, c80, c81, c82, c83, c84, c85, c86, c87, c88, c89, c90, c91, c92, c93, c94, c95, c96, c97, c98, c99, c100, c101, c102, c103, c104, c105, c106, c107, c108, c109, c110, c111, c112, c113, c114, c115, c116, c117, c118, c119, c120, c121, c122, c123, c124, c125, c126, c127, c128, c129, c130, c131, c132, c133, c134], []⟩ W := by
 have HN := hidX hN
 clear hN
 conv => arg 2; whnf
 go_wp2
 exact HN.out
set_option maxRecDepth 100000 in
set_option maxHeartbeats 4000000 in
theorem mr_6 {w W : World} {I : Im} {adf adw : Option Addr} {cf cw : Nat} {nm : List UInt8} {args : List Int} {aad : Option Addr} {ac : Nat} {tk : Int} {fb : Nat} (hfl : I.funs.length ≤ 12) (hnl : ∀ f ∈ I.funs, f.name.length ≤ 20) (hbox : W.heap[w.heap.size]? = some (.cells #[.slice adf I.funs.length cf, .slice adw I.words.length cw] 25 (0, 0))) (hF : XMf (InH W) W (.slice adf I.funs.length cf) I.funs) {c5 c6 c7 c8 c13 c14 c15 c16 c17 c18 c19 c20 c21 c22 c23 c24 c25 c26 c27 c28 c29 c30 c31 c32 c33 c34 c35 c36 c37 c38 c39 c40 c41 c42 c43 c44 c45 c46 c47 c64 c65 c66 c67 c68 c69 c70 c71 c72 c73 c74 c75 c76 c77 c78 c79 c80 c81 c82 c83 c84 c85 c86 c87 c88 c89 c90 c91 c92 c93 c94 c95 c96 c97 c98 c99 c100 c101 c102 c103 c104 c105 c106 c107 c108 c109 c110 c111 c112 c113 c114 c115 c116 c117 c118 c119 c120 c121 c122 c123 c124 c125 c126 c127 c128 c129 c130 c131 c132 c133 c134 : Value} {u12 u48 u49 u50 u51 u52 u53 u54 u55 u56 u57 u58 u59 u60 u61 u62 u63 : Value} {Q : Exit → Act → World → Prop}
  (hN : ∀ (u12 u48 u49 u50 u51 u52 u53 u54 u55 u56 u57 u58 u59 u60 u61 u62 u63 : Value), Q .normal ⟨#[.agg #[.slice adf I.funs.length cf, .slice adw I.words.length cw], .string ⟨nm.toArray⟩, .slice aad args.length ac, .int .i64 tk, .pointer (some ⟨w.heap.size, 0, none⟩), c5, c6, c7, c8, .bool true, .pointer (some ⟨fb, 0, none⟩), .int .i64 (lastM nm 0 I.funs (-1)), u12, c13, c14, c15, c16, c17, c18, c19, c20, c21, c22, c23, c24, c25, c26, c27, c28, c29, c30, c31, c32, c33, c34, c35, c36, c37, c38, c39, c40, c41, c42, c43, c44, c45, c46, c47, u48, u49, u50, u51, u52, u53, u54, u55, u56, u57, u58, u59, u60, u61, u62, u63, c64, c65, c66, c67, c68, c69, c70, c71, c72, c73, c74, c75, c76, c77, c78, c79, c80, c81, c82, c83, c84, c85, c86, c87, c88, c89, c90, c91, c92, c93, c94, c95, c96, c97, c98, c99, c100, c101, c102, c103, c104, c105, c106, c107, c108, c109, c110, c111, c112, c113, c114, c115, c116, c117, c118, c119, c120, c121, c122, c123, c124, c125, c126, c127, c128, c129, c130, c131, c132, c133, c134], []⟩ W) : Code.wp Tryd.prog mr6C Q ⟨#[.agg #[.slice adf I.funs.length cf, .slice adw I.words.length cw], .string ⟨nm.toArray⟩, .slice aad args.length ac, .int .i64 tk, .pointer (some ⟨w.heap.size, 0, none⟩), c5, c6, c7, c8, .bool true, .pointer (some ⟨fb, 0, none⟩), .int .i64 (-1), u12, c13, c14, c15, c16, c17, c18, c19, c20, c21, c22, c23, c24, c25, c26, c27, c28, c29, c30, c31, c32, c33, c34, c35, c36, c37, c38, c39, c40, c41, c42, c43, c44, c45, c46, c47, u48, u49, u50, u51, u52, u53, u54, u55, u56, u57, u58, u59, u60, u61, u62, u63, c64, c65, c66, c67, c68, c69, c70, c71, c72, c73, c74, c75, c76, c77, c78, c79, c80, c81, c82, c83, c84, c85, c86, c87, c88, c89, c90, c91, c92, c93, c94, c95, c96, c97, c98, c99, c100, c101, c102, c103, c104, c105, c106, c107, c108, c109, c110, c111, c112, c113, c114, c115, c116, c117, c118, c119, c120, c121, c122, c123, c124, c125, c126, c127, c128, c129, c130, c131, c132, c133, c134], []⟩ W := by
 have HN := hidX hN
 have b0 : W.cell? ⟨w.heap.size, 0, none⟩ = some (.slice adf I.funs.length cf) := cell_of_blk hbox 0
 have hfl' : (I.funs.length : Int) ≤ 12 := by omega
 have HF := hidX hF
 have HNL := hidX hnl
 have HFL := hidX hfl
 clear hN hbox hF hfl hnl
 conv => arg 2; whnf
 go_wp2_with fail
 go_loopw [11, 12] (fun v11 v12 wr => ∃ q : Nat, v11 = .int .i64 (lastM nm 0 (I.funs.take q) (-1)) ∧ v12 = .int .i64 (q : Int) ∧ q ≤ I.funs.length ∧ wr = W) (fun _ v12 _ => I.funs.length - (intOf v12).toNat)
 case atStart => exact ⟨0, rfl, rfl, by omega, rfl⟩
 case round =>
  obtain ⟨q, rfl, rfl, hq, rfl⟩ := hrel
  by_cases hlt : q < I.funs.length
  ·have hlt' : (q : Int) < (I.funs.length : Int) := by omega
   have hl12 := HFL.out
   obtain ⟨gf, off, rfl, hgf, k0, k1, k2, k3⟩ := HF.out.at hlt
   clear k1 k2 k3 hgf
   have HLT := hidX (lastM_take (nm := nm) hlt)
   generalize I.funs[q] = f at k0 HLT
   obtain ⟨fnm, fp, fs, fe⟩ := f
   dsimp only at k0
   by_cases hn : fnm = nm
   ·have hn2 : (fnm == nm) = true := by simpa using hn
    have HE := hidX (HLT.out.trans (if_pos hn))
    clear hn HLT
    generalize lastM nm 0 (I.funs.take q) (-1) = k
    go_wp2
    go_roundw
    case rel => exact ⟨q + 1, by rw [HE.out], by go_num, by omega, by first | rfl | trivial⟩
    all_goals (simp [intOf]; omega)
   ·have hn2 : (fnm == nm) = false := by simpa using hn
    have HE := hidX (HLT.out.trans (if_neg hn))
    clear hn HLT
    go_wp2
    go_roundw
    case rel => exact ⟨q + 1, by rw [HE.out], by go_num, by omega, by first | rfl | trivial⟩
    all_goals (simp [intOf]; omega)
  ·have hqe : q = I.funs.length := by omega
   subst hqe
   have hnlt : ¬ ((I.funs.length : Int) < (I.funs.length : Int)) := by omega
   have HTK := hidX (show I.funs.take I.funs.length = I.funs from List.take_length)
   clear hlt hq
   rw [HTK.out]
   go_wp2
   exact HN.out _ _ _ _ _ _ _ _ _ _ _ _ _ _ _ _ _
end Go.Proofs.YtbcpomdcmilpjaaDoor
namespace Go.Proofs.YtbcpomdcmilpjaaDoor
open Go.RowKit
set_option maxRecDepth 100000 in
set_option maxHeartbeats 8000000 in
theorem machRuns_any {w : World} {a : Nat → Addr} (hS : Sents w a) (hT : TabC w) (I : Im) (hfl : I.funs.length ≤ 9223372036854775807) (hwl : I.words.length ≤ 9223372036854775807) (hnl : ∀ f ∈ I.funs, f.name.length ≤ 9223372036854775807) (hwv : ∀ v ∈ I.words, v < 18446744073709551616) (adf adw : Option Addr) (cf cw : Nat) (hF : XMf (InH w) w (.slice adf I.funs.length cf) I.funs) (hWd : XRow (InH w) w (.slice adw I.words.length cw) I.words.length (wosV I.words))
  (nm : List UInt8) (hnm : nm.length ≤ 9223372036854775807) (args : List Int) (hal : args.length ≤ 9223372036854775807) (h64 : ∀ v ∈ args, In64 v) (aad : Option Addr) (ac : Nat) (hargs : XRow (InH w) w (.slice aad args.length ac) args.length (intsG args)) (tk : Int) :
  Calls Tryd.prog 3 #[.agg #[.slice adf I.funs.length cf, .slice adw I.words.length cw], .string ⟨nm.toArray⟩, .slice aad args.length ac, .int .i64 tk] w fun e w' => e = .returned (.bool true) ∧ Below w.heap.size w w' := by
 go_enter Tryd.func3, Tryd.ntmps3
 have hb0 : Below w.heap.size w (w.alloc (.cells #[.slice adf I.funs.length cf, .slice adw I.words.length cw] 25)) := by (repeat (first | exact Below.refl _ _ | assumption | refine Below.drew ?_ | refine bT ?_ _ | refine bS ?_ _ | refine bA ?_ _))
 refine wp_seq (mr_0 ?_)
 intro u8
 refine wp_seq (mr_1 (senM_of (hS.below hb0)) (hT.below hb0) ?_)
 intro u20 w1 hb1
 have hx0 : (w.alloc (.cells #[.slice adf I.funs.length cf, .slice adw I.words.length cw] 25)).heap[w.heap.size]? = some (.cells #[.slice adf I.funs.length cf, .slice adw I.words.length cw] 25 (0, 0)) := heap_alloc_new _ _
 have hx1 := (hb1.block _ (heap_lt hx0)).trans hx0
 have hw1 := bl_trans hb0 hb0.size hb1
 refine wp_seq (mr_2 hfl hwl hnl hal hnm hx1 (hF.imp (inH_up hw1) (keepH hw1)) ?_ ?_)
 rotate_left
 ·rintro u8 u21 u22 u23 u24 u25 u26 u27 u28 u29 u30 u31 u32 u33 u34 u35 u36 u37 u38 u39 u40 u41 u42 u43 u44 u45 w2 rfl hb2
  (try simp only [Exit.then]); go_ret
  exact ⟨rfl, bl_trans hw1 hw1.size hb2⟩
 intro u8 u21 u22 u23 u24 u25 u26 u27 u28 u29 u30 u31 u32 u33 u34 u35 u36 u37 u38 u39 u40 u41 u42 u43 u44 u45 w2 hb2 hfew ha8 hn20 htk
 have hw2 := bl_trans hw1 hw1.size hb2
 have hx2 := (hb2.block _ (heap_lt hx1)).trans hx1
 have hwl2 : I.words.length ≤ 10000 := by have := hfew.words; omega
 have hfl2 := hfew.funs
 refine wp_seq (mr_4 (by omega) (by omega) hwv hx2 (hF.imp (inH_up hw2) (keepH hw2)) (hWd.imp (inH_up hw2) (keepH hw2)) ?_)
 intro u46 u47 fb w3 hb3 hfb hf3
 have hw3 := bl_trans hw2 hw2.size hb3
 have hx3 := (hb3.block _ (heap_lt hx2)).trans hx2
 refine wp_seq (mr_5 ?_)
 refine wp_seq (mr_6 hfl2 hfew.names hx3 (hF.imp (inH_up hw3) (keepH hw3)) ?_)
 intro u12 u48 u49 u50 u51 u52 u53 u54 u55 u56 u57 u58 u59 u60 u61 u62 u63
 refine wp_seq (mr_mid hw3 hx3 hf3 (by have := heap_lt hx2; omega) hF ha8 rfl ?_)
 intro u64 u65 u66 u67 u68 u69 u70 u71 u72 u73 u74 u75 u76 u77 u78 u79 u80 u81 u82 u83 u84 u85 u86 w4 hb4 hx4 hf4
 refine mr_tail hS hT hfl2 hwl2 (fun f hf => by have := hfew.names f hf; omega) hwv hb4 hx4 hf4 hF hWd hargs ha8 h64 (fun h0 => last_which (runF_good h0).1 nm) (fun _ _ d _ _ h => by cases d <;> exact h) ?_
 rintro u8 u13 u14 u15 u16 u17 u18 u19 u87 u88 u89 u90 u91 u92 u93 u94 u95 u96 u97 u98 u99 u100 u101 u102 u103 u104 u105 u106 u107 u108 u109 u110 u111 u112 u113 u114 u115 u116 u117 u118 u119 u120 u121 u122 u123 u124 u125 u126 u127 u128 u129 u130 u131 u132 u133 u134 w5 rfl hb5
 go_ret
 exact ⟨rfl, hb5⟩
end Go.Proofs.YtbcpomdcmilpjaaDoor
