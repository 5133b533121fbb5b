/- Our own: texts joined: AppInts, MxRunB. -/
import Derived.Test.YtbcpomdcmilpjaaDoorYGrM
import Derived.Test.YtbcpomdcmilpjaaDoorYBaseM
import Derived.OwnWalk
import Derived.Deep.AppendLies
import Derived.Test.YtbcpomdcmilpjaaDoorYMoWdI
import Derived.Test.YtbcpomdcmilpjaaDoorYMoA
import Derived.Test.YtbcpomdcmilpjaaDoorYMaRun
namespace Go.Proofs.YtbcpomdcmilpjaaDoor
open Go.RowKit
theorem intsG_one (l : List Int) : ∀ u ∈ intsG l, u.oneCell' = true := by
 intro u hu
 obtain ⟨x, _, rfl⟩ := List.mem_map.1 hu
 rfl
theorem xrow_intsG {A : Nat → Prop} {w : World} {a : Addr} {c : Nat} {l : List Int} (h : XRow A w (.slice (some a) l.length c) l.length (intsG l)) : ∀ j u, (intsG l)[j]? = some u → w.cell? (a.add j) = some u := by
 intro j u hu
 have hj : j < l.length := by
  rcases Nat.lt_or_ge j (intsG l).length with h' | h'
  ·simpa [intsG] using h'
  ·rw [List.getElem?_eq_none h'] at hu; cases hu
 obtain ⟨g, off, e, _, _, hc⟩ := h.get (by omega)
 injection e with e
 subst e
 rw [← hc j u hu]
 congr 1
 unfold Addr.add
 split
 ·next h0 => rw [h0, Nat.add_zero]
 ·rfl
theorem run_append_intsG (w : World) (ty : TypeId) (sv : Value) (l : List Int) (hl : l.length ≤ 5000) (h : XRow (InH w) w sv l.length (intsG l)) :
  ∃ v' w', (Builtin.append_ #[26, 26] ty #[.slice none 0 0, sv]).run Tryd.prog w = .ok v' w' ∧ w'.ownsRow w.heap.size 3 1 v' l.length (intsG l) ∧ Below w.heap.size w w' := by
 obtain ⟨i0, hi, hz0, hz1, hz2⟩ := info_parts int_info
 obtain ⟨ad, cap, rfl⟩ := h.is
 cases ad with
 | some a =>
  obtain ⟨v', w', hrun, hown, hg, _, _⟩ := run_append_own_at (P := Tryd.prog) w w.heap.size 26 ty 3 i0 _ 1 8 Tryd.underlying26 hi hz0 hz1 hz2 rfl (by decide) (.slice none 0 0) 0 [] (World.ownsRow_nil _ _ _ _) a l.length cap (intsG l) (by rw [intsG_len, Nat.mul_one]) (xrow_intsG h) (intsG_one l) (by unfold maxLen; omega) (by omega) (Nat.le_refl _)
  refine ⟨v', w', hrun, by simpa using hown, ⟨hg.os, hg.tape, hg.output, hg.size, fun i hi => hg.block i hi (fun e => by simp [Value.ownBlock] at e)⟩⟩
 | none =>
  have h0 : l = [] := by
   rcases Nat.eq_zero_or_pos l.length with h' | h'
   ·exact List.length_eq_zero_iff.1 h'
   ·obtain ⟨g, off, e, _⟩ := h.get (by omega); cases e
  subst h0
  refine ⟨.slice none 0 0, w, ?_, World.ownsRow_nil _ _ _ _, Below.refl _ _⟩
  simp [Builtin.append_, run_underlying Tryd.underlying26, sizeOf, typeInfo, hi, Builtin.lenOf, Builtin.firstCells]
theorem step_append_intsG {ops : Array Oper} {o : Oper} {a : Act} {w : World} {K : Act → World → Prop} {Q : Exit → Act → World → Prop} {E : Prop} (hgd : o.guard = none) (s x : Operand)
  (ho : o.op = .call { callee := .builtin .append, args := #[s, x], argTypes := #[26, 26] }) (hs : a.eval s = .slice none 0 0) (sv : Value) (hx : a.eval x = sv) (l : List Int) (hl : l.length ≤ 5000) (h : XRow (InH w) w sv l.length (intsG l))
  (hk : ∀ ad cap w', w'.ownsRow w.heap.size 3 1 (.slice ad l.length cap) l.length (intsG l) → Below w.heap.size w w' → K (a.put o.dst (.slice ad l.length cap)) w') :
  if Region.wanted o (yielded ops a.tmps) = true then Oper.wp Tryd.prog o a w K Q else E := by
 have hw : Region.wanted o (yielded ops a.tmps) = true := by simp [Region.wanted, hgd]
 rw [if_pos hw]
 obtain ⟨v', w', hr, h1, h2⟩ := run_append_intsG w o.type sv l hl h
 obtain ⟨ad, cap, rfl⟩ := own_is h1
 unfold Oper.wp execOp
 simp only [ho, resolve, invoke, builtin, Sem.run_bind, Sem.run_pure, Result.andThen_ok, List.map_toArray, List.map_cons, List.map_nil, hs, hx, hr]
 exact hk _ _ _ h1 h2
end Go.Proofs.YtbcpomdcmilpjaaDoor
namespace Go.Proofs.YtbcpomdcmilpjaaDoor
open Go.RowKit
noncomputable def rm17C : Code := ((Tryd.f4.body.bind (regionOf 17)).getD .skip)
set_option maxRecDepth 100000 in
set_option maxHeartbeats 4000000 in
theorem rm17_any {W : World} {xb : Nat} {xf xw : Value} {nm : List UInt8} {aad : Option Addr} {ac : Nat} {args : List Int} {tk : Int} (hargs : XRow (InH W) W (.slice aad args.length ac) args.length (intsG args)) (hl : args.length ≤ 5000) (hx : W.heap[xb]? = some (.cells #[xf, xw] 37 (0, 0)))
  {R : Nat → World → ByteArray → Int → Option Addr → Nat → Nat → Int → Value → Prop} (hR : ∀ X, Below W.heap.size W X → ∀ ad cap, XRow (InH X) X (.slice ad args.length cap) args.length (intsG args) → Calls Tryd.prog 11 #[.agg #[xf, xw], .string ⟨nm.toArray⟩, .slice ad args.length cap, .int .i64 tk] X fun e w1 => Below X.heap.size X w1 ∧ ∃ o0 o1 o2 on oc o3 er, e = .returned (.tuple #[.agg #[.string o0, .int .i64 o1, .slice o2 on oc, .int .i64 o3], er]) ∧ R X.heap.size w1 o0 o1 o2 on oc o3 er)
  (hst : ∀ B X Y o0 o1 o2 on oc o3 er, R B X o0 o1 o2 on oc o3 er → Below X.heap.size X Y → R B Y o0 o1 o2 on oc o3 er)
  (hset : ∀ B X b u0 u1 u2 u3 o0 o1 o2 on oc o3 er, b < B → R B X o0 o1 o2 on oc o3 er → R B ((((X.setCell ⟨b, 0, none⟩ u0).setCell ⟨b, 1, none⟩ u1).setCell ⟨b, 2, none⟩ u2).setCell ⟨b, 3, none⟩ u3) o0 o1 o2 on oc o3 er)
  {c0 c4 c5 c6 c7 c8 c9 c10 c11 c12 c13 c16 c19 c20 c21 c22 c23 c24 c25 c26 c27 c28 c29 c30 c31 c32 c33 c34 c35 c36 c37 c38 c39 c40 c41 c42 c43 c44 c45 c46 c47 c48 c49 c50 c51 c52 c53 c54 c55 c56 c57 c58 c59 c60 c61 c62 c63 c64 c65 c66 c67 c68 c69 c70 c71 c72 c73 c74 c75 c76 c77 c78 c79 c80 c81 c82 c83 c84 c85 c86 c87 c88 c89 c90 c91 c92 c93 c94 c95 c106 c107 c108 c109 c110 c111 c112 c113 c114 c115 c116 c117 c118 c119 c120 c121 c122 c123 c124 c125 c126 c127 c128 c129 c130 c131 c132 c133 c134 c135 c136 c137 c138 c139 c140 c141 c142 c143 c144 c145 c146 c147 c148 c149 c150 c151 c152 c153 c154 c155 c156 c157 : Value} {u17 u18 u96 u97 u98 u99 u100 u101 u102 u103 u104 u105 : Value} {Q : Exit → Act → World → Prop} (hP : ∀ c (a : Act) (d : Option Tmp) (v : Value) w, Q (.panic c) (a.put d v) w → Q (.panic c) a w)
  (hN : ∀ (u17 u18 u96 u97 u98 u99 u100 u101 u102 u103 u104 u105 : Value) (w1 : World), (∃ ob o0 o1 o2 on oc o3, u17 = .pointer (some ⟨ob, 0, none⟩) ∧ W.heap.size ≤ ob ∧ Below W.heap.size W w1 ∧ w1.heap[ob]? = some (.cells #[.string o0, .int .i64 o1, .slice o2 on oc, .int .i64 o3] 40 (0, 0)) ∧ ∃ B, W.heap.size ≤ B ∧ B ≤ w1.heap.size ∧ R B w1 o0 o1 o2 on oc o3 u18) → Q .normal ⟨#[c0, .string ⟨nm.toArray⟩, .slice aad args.length ac, .int .i64 tk, c4, c5, c6, c7, c8, c9, c10, c11, c12, c13, .pointer (some ⟨xb, 0, none⟩), .slice none 0 0, c16, u17, u18, c19, c20, c21, c22, c23, c24, c25, c26, c27, c28, c29, c30, c31, c32, c33, c34, c35, c36, c37, c38, c39, c40, c41, c42, c43, c44, c45, c46, c47, c48, c49, c50, c51, c52, c53, c54, c55, c56, c57, c58, c59, c60, c61, c62, c63, c64, c65, c66, c67, c68, c69, c70, c71, c72, c73, c74, c75, c76, c77, c78, c79, c80, c81, c82, c83, c84, c85, c86, c87, c88, c89, c90, c91, c92, c93, c94, c95, u96, u97, u98, u99, u100, u101, u102, u103, u104, u105, c106, c107, c108, c109, c110, c111, c112, c113, c114, c115, c116, c117, c118, c119, c120, c121, c122, c123, c124, c125, c126, c127, c128, c129, c130, c131, c132, c133, c134, c135, c136, c137, c138, c139, c140, c141, c142, c143, c144, c145, c146, c147, c148, c149, c150, c151, c152, c153, c154, c155, c156, c157], []⟩ w1) :
  Code.wp Tryd.prog rm17C Q ⟨#[c0, .string ⟨nm.toArray⟩, .slice aad args.length ac, .int .i64 tk, c4, c5, c6, c7, c8, c9, c10, c11, c12, c13, .pointer (some ⟨xb, 0, none⟩), .slice none 0 0, c16, u17, u18, c19, c20, c21, c22, c23, c24, c25, c26, c27, c28, c29, c30, c31, c32, c33, c34, c35, c36, c37, c38, c39, c40, c41, c42, c43, c44, c45, c46, c47, c48, c49, c50, c51, c52, c53, c54, c55, c56, c57, c58, c59, c60, c61, c62, c63, c64, c65, c66, c67, c68, c69, c70, c71, c72, c73, c74, c75, c76, c77, c78, c79, c80, c81, c82, c83, c84, c85, c86, c87, c88, c89, c90, c91, c92, c93, c94, c95, u96, u97, u98, u99, u100, u101, u102, u103, u104, u105, c106, c107, c108, c109, c110, c111, c112, c113, c114, c115, c116, c117, c118, c119, c120, c121, c122, c123, c124, c125, c126, c127, c128, c129, c130, c131, c132, c133, c134, c135, c136, c137, c138, c139, c140, c141, c142, c143, c144, c145, c146, c147, c148, c149, c150, c151, c152, c153, c154, c155, c156, c157], []⟩ W := by
 have HA := hidX (fun X (hb : Below W.heap.size W X) => (hargs.imp (inH_up hb) (keepH hb) : XRow (InH X) X (.slice aad args.length ac) args.length (intsG args)))
 have HR := hidX hR
 have HN := hidX hN
 have HCS := hidX (show ∀ V : World, Below W.heap.size W V → V.cell? ⟨xb, 0, none⟩ = some xf ∧ V.cell? ⟨xb, 1, none⟩ = some xw from fun V hb => ⟨cell_of_blk ((hb.block _ (heap_lt hx)).trans hx) 0, cell_of_blk ((hb.block _ (heap_lt hx)).trans hx) 1⟩)
 have hb0 : Below W.heap.size W W.drew := by (repeat (first | exact Below.refl _ _ | assumption | refine Below.drew ?_ | refine bT ?_ _ | refine bS ?_ _ | refine bA ?_ _))
 clear hargs hR hN hx
 conv => arg 2; whnf
 refine wp_region_V (fun W => W.cell? ⟨xb, 0, none⟩ = some xf ∧ W.cell? ⟨xb, 1, none⟩ = some xw) 11 (by kernel_rfl) (HCS.out _ (by (repeat (first | exact Below.refl _ _ | assumption | refine Below.drew ?_ | refine bT ?_ _ | refine bS ?_ _ | refine bA ?_ _)))) (fun hHeld => ?_)
 refine wpAnyV_put 0 (some 97) (v := ?v0r11) rfl rfl (by kernel_rfl) (by kernel_rfl) (by kernel_rfl) (by kernel_rfl) (by kernel_rfl) (fun _ _ _ h => hP _ _ _ _ _ h) (Or.inl ⟨by rfl, ?hy0r11⟩) hHeld ?rest0r11
 case hy0r11 => (intro w2 hSw; (try dsimp only at hSw); first | (go_simp; done) | (go_simp; with_reducible rfl))
 simp only [Act.put, List.setIfInBounds_toArray, List.set_cons_zero, List.set_cons_succ]
 refine wpAnyV_any 1 (some 98) (v := ?v1r11) rfl rfl (by kernel_rfl) (by kernel_rfl) (by kernel_rfl) (by kernel_rfl) (fun _ _ _ h => hP _ _ _ _ _ h) (Or.inl ⟨by rfl, ?hy1r11⟩) hHeld ?rest1r11
 case hy1r11 => (intro w2 hSw; (try dsimp only at hSw); first | (go_simp; done) | (go_simp; with_reducible rfl))
 simp only [Act.put, List.setIfInBounds_toArray, List.set_cons_zero, List.set_cons_succ]
 refine wpAnyV_any 2 (some 99) (v := ?v2r11) rfl rfl (by kernel_rfl) (by kernel_rfl) (by kernel_rfl) (by kernel_rfl) (fun _ _ _ h => hP _ _ _ _ _ h) (Or.inl ⟨by rfl, ?hy2r11⟩) hHeld ?rest2r11
 case hy2r11 => (intro w2 hSw; (try dsimp only at hSw); first | (go_simp; done) | (go_simp; with_reducible rfl))
 simp only [Act.put, List.setIfInBounds_toArray, List.set_cons_zero, List.set_cons_succ]
 refine wpAnyV_any 3 (some 100) (v := ?v3r11) rfl rfl (by kernel_rfl) (by kernel_rfl) (by kernel_rfl) (by kernel_rfl) (fun _ _ _ h => hP _ _ _ _ _ h) (Or.inl ⟨by rfl, ?hy3r11⟩) hHeld ?rest3r11
 case hy3r11 => (intro w2 hSw; (try dsimp only at hSw); first | (go_simp; done) | (go_simp; with_reducible rfl))
 simp only [Act.put, List.setIfInBounds_toArray, List.set_cons_zero, List.set_cons_succ]
 refine wpAnyV_any 5 (some 102) (v := ?v5r11) rfl rfl (by kernel_rfl) (by kernel_rfl) (by kernel_rfl) (by kernel_rfl) (fun _ _ _ h => hP _ _ _ _ _ h) (Or.inl ⟨by rfl, ?hy5r11⟩) hHeld ?rest5r11
 case hy5r11 => (intro w2 hSw; (try dsimp only at hSw); first | (go_simp; done) | (go_simp; with_reducible rfl))
 simp only [Act.put, List.setIfInBounds_toArray, List.set_cons_zero, List.set_cons_succ]
 refine wpAnyV_two (i := 4) (j := 10) (by kernel_rfl) rfl rfl (fun K4 hK4 => ?_) (fun K10 hK10 => ?_)
 ·refine step_append_intsG rfl (.tmp 99) (.tmp 100) rfl (by simp [Act.eval]) (.slice aad args.length ac) (by simp [Act.eval]) args hl (HA.out _ hb0) ?_
  intro ad5 cap5 X5 ho5 hb5
  have hx5 := bl_trans hb0 hb0.size hb5
  have hHeld := HCS.out _ hx5
  have ha5 : XRow (InH X5) X5 (.slice ad5 args.length cap5) args.length (intsG args) := (xrow_own ho5).imp (fun b hb => hb.2) (fun _ _ => rfl)
  refine hK4.out _ _ (fun _ => hHeld) (fun _ => ?_)
  clear hK4 K4
  try simp only [Act.put, List.setIfInBounds_toArray]
  refine wpAnyV_two (i := 6) (j := 10) (by kernel_rfl) rfl rfl (fun K6 hK6 => ?_) (fun K10 hK10 => ?_)
  ·go_simp
   refine (HR.out _ hx5 _ _ ha5).mono ?_
   rintro e X6 ⟨hb6, o0, o1, o2, on, oc, o3, er, rfl, hr6⟩
   have hx6 := bl_trans hx5 hx5.size hb6
   have hHeld := HCS.out _ hx6
   refine hK6.out _ _ (fun _ => hHeld) (fun _ => ?_)
   clear hK6 K6
   try simp only [Act.put, List.setIfInBounds_toArray, List.set_cons_zero, List.set_cons_succ]
   refine wpAnyV_any 7 (some 96) (v := ?v7r13) rfl rfl (by kernel_rfl) (by kernel_rfl) (by kernel_rfl) (by kernel_rfl) (fun _ _ _ h => hP _ _ _ _ _ h) (Or.inl ⟨by rfl, ?hy7r13⟩) hHeld ?rest7r13
   case hy7r13 => (intro w2 hSw; (try dsimp only at hSw); first | (go_simp; done) | (go_simp; with_reducible rfl))
   simp only [Act.put, List.setIfInBounds_toArray, List.set_cons_zero, List.set_cons_succ]
   refine wpAnyV_any 8 (some 104) (v := ?v8r13) rfl rfl (by kernel_rfl) (by kernel_rfl) (by kernel_rfl) (by kernel_rfl) (fun _ _ _ h => hP _ _ _ _ _ h) (Or.inl ⟨by rfl, ?hy8r13⟩) hHeld ?rest8r13
   case hy8r13 => (intro w2 hSw; (try dsimp only at hSw); first | (go_simp; done) | (go_simp; with_reducible rfl))
   simp only [Act.put, List.setIfInBounds_toArray, List.set_cons_zero, List.set_cons_succ]
   refine wpAnyV_any 9 (some 105) (v := ?v9r13) rfl rfl (by kernel_rfl) (by kernel_rfl) (by kernel_rfl) (by kernel_rfl) (fun _ _ _ h => hP _ _ _ _ _ h) (Or.inl ⟨by rfl, ?hy9r13⟩) hHeld ?rest9r13
   case hy9r13 => (intro w2 hSw; (try dsimp only at hSw); first | (go_simp; done) | (go_simp; with_reducible rfl))
   simp only [Act.put, List.setIfInBounds_toArray, List.set_cons_zero, List.set_cons_succ]
   refine wpAnyV_one (i := 10) (by kernel_rfl) rfl (fun K10 hK10 => ?_)
   go_simp
   refine hK10.out _ _ (fun _ => ?hS10r13) (fun _ => ?_)
   case hS10r13 => exact HCS.out _ (bl_trans hx6 hx6.size (box_blk _ _ _))
   clear hK10 K10
   try simp only [Act.put, List.setIfInBounds_toArray, List.set_cons_zero, List.set_cons_succ]
   refine wpAnyV_one (i := 11) (by kernel_rfl) rfl (fun K11 hK11 => ?_)
   go_simp
   refine hK11.out _ _ (fun h => absurd rfl h) (fun _ => ?_)
   clear hK11 K11 hHeld
   try simp only [Act.put, List.setIfInBounds_toArray, List.set_cons_zero, List.set_cons_succ]
   refine wpAnyV_late (i := 12) (by kernel_rfl) rfl (by kernel_rfl) (fun K14 hK14 => ?_)
   go_simp
   refine hK14.out _ _ ?_
   clear hK14 K14
   try simp only [Act.put, List.setIfInBounds_toArray, List.set_cons_zero, List.set_cons_succ]
   refine wpAnyV_done (by kernel_rfl) ?_ _
   exact HN.out _ _ _ _ _ _ _ _ _ _ _ _  _ ⟨X6.heap.size, o0, o1, o2, on, oc, o3, rfl, hx6.size, bl_trans hx6 hx6.size (by (repeat (first | exact Below.refl _ _ | assumption | refine Below.drew ?_ | refine bT ?_ _ | refine bS ?_ _ | refine bA ?_ _))), heap_alloc_new X6 _, _, hx5.size, Nat.le_trans hb6.size (Nat.le_trans (Nat.le_succ _) (by simp)), hst _ _ _ _ _ _ _ _ _ _ hr6 (by (repeat (first | exact Below.refl _ _ | assumption | refine Below.drew ?_ | refine bT ?_ _ | refine bS ?_ _ | refine bA ?_ _)))⟩
  ·go_simp
   obtain ⟨Z0, hZ0⟩ : ∃ Z0, Z0 = X5.alloc (.cells #[.string ⟨#[]⟩, .int .i64 0, .slice none 0 0, .int .i64 0] 40) := ⟨_, rfl⟩
   have hbZ : Below X5.heap.size X5 Z0 := by rw [hZ0]; (repeat (first | exact Below.refl _ _ | assumption | refine Below.drew ?_ | refine bT ?_ _ | refine bS ?_ _ | refine bA ?_ _))
   have hzZ : Z0.heap[X5.heap.size]? = some (.cells #[.string ⟨#[]⟩, .int .i64 0, .slice none 0 0, .int .i64 0] 40 (0, 0)) := by rw [hZ0]; exact heap_alloc_new _ _
   have hxZ := bl_trans hx5 hx5.size hbZ
   have hHeld := HCS.out _ hxZ
   rw [← hZ0]
   clear hZ0
   refine hK10.out _ _ (fun _ => hHeld) (fun _ => ?_)
   clear hK10 K10
   try simp only [Act.put, List.setIfInBounds_toArray, List.set_cons_zero, List.set_cons_succ]
   have haZ := ha5.imp (inH_up hbZ) (keepH hbZ)
   refine wpAnyV_one (i := 6) (by kernel_rfl) rfl (fun K6 hK6 => ?_)
   go_simp
   refine (HR.out _ hxZ _ _ haZ).mono ?_
   rintro e X6 ⟨hb6, o0, o1, o2, on, oc, o3, er, rfl, hr6⟩
   have hx6 := bl_trans hxZ hxZ.size hb6
   have hHeld := HCS.out _ hx6
   refine hK6.out _ _ (fun _ => hHeld) (fun _ => ?_)
   clear hK6 K6
   try simp only [Act.put, List.setIfInBounds_toArray, List.set_cons_zero, List.set_cons_succ]
   have hzX := (hb6.block _ (heap_lt hzZ)).trans hzZ
   refine wpAnyV_any 7 (some 96) (v := ?v7r14) rfl rfl (by kernel_rfl) (by kernel_rfl) (by kernel_rfl) (by kernel_rfl) (fun _ _ _ h => hP _ _ _ _ _ h) (Or.inl ⟨by rfl, ?hy7r14⟩) hHeld ?rest7r14
   case hy7r14 => (intro w2 hSw; (try dsimp only at hSw); first | (go_simp; done) | (go_simp; with_reducible rfl))
   simp only [Act.put, List.setIfInBounds_toArray, List.set_cons_zero, List.set_cons_succ]
   refine wpAnyV_any 8 (some 104) (v := ?v8r14) rfl rfl (by kernel_rfl) (by kernel_rfl) (by kernel_rfl) (by kernel_rfl) (fun _ _ _ h => hP _ _ _ _ _ h) (Or.inl ⟨by rfl, ?hy8r14⟩) hHeld ?rest8r14
   case hy8r14 => (intro w2 hSw; (try dsimp only at hSw); first | (go_simp; done) | (go_simp; with_reducible rfl))
   simp only [Act.put, List.setIfInBounds_toArray, List.set_cons_zero, List.set_cons_succ]
   refine wpAnyV_any 9 (some 105) (v := ?v9r14) rfl rfl (by kernel_rfl) (by kernel_rfl) (by kernel_rfl) (by kernel_rfl) (fun _ _ _ h => hP _ _ _ _ _ h) (Or.inl ⟨by rfl, ?hy9r14⟩) hHeld ?rest9r14
   case hy9r14 => (intro w2 hSw; (try dsimp only at hSw); first | (go_simp; done) | (go_simp; with_reducible rfl))
   simp only [Act.put, List.setIfInBounds_toArray, List.set_cons_zero, List.set_cons_succ]
   have z0 := cell_of_blk hzX 0
   have z1 := cell_of_blk hzX 1
   have z2 := cell_of_blk hzX 2
   have z3 := cell_of_blk hzX 3
   have fz0 := free_of_blk hzX 0
   have fz1 := free_of_blk hzX 1
   have fz2 := free_of_blk hzX 2
   have fz3 := free_of_blk hzX 3
   simp only [List.getElem?_toArray, List.getElem?_cons_zero, List.getElem?_cons_succ] at z0 z1 z2 z3
   refine wpAnyV_one (i := 11) (by kernel_rfl) rfl (fun K11 hK11 => ?_)
   go_simp
   refine hK11.out _ _ (fun h => absurd rfl h) (fun _ => ?_)
   clear hK11 K11 hHeld
   try simp only [Act.put, List.setIfInBounds_toArray, List.set_cons_zero, List.set_cons_succ]
   refine wpAnyV_late (i := 12) (by kernel_rfl) rfl (by kernel_rfl) (fun K14 hK14 => ?_)
   go_simp
   refine hK14.out _ _ ?_
   clear hK14 K14
   try simp only [Act.put, List.setIfInBounds_toArray, List.set_cons_zero, List.set_cons_succ]
   refine wpAnyV_done (by kernel_rfl) ?_ _
   exact HN.out _ _ _ _ _ _ _ _ _ _ _ _  _ ⟨X5.heap.size, o0, o1, o2, on, oc, o3, rfl, hx5.size, ((((hx6.setCell hx5.size _).setCell hx5.size _).setCell hx5.size _).setCell hx5.size _), set4_blk0 (x0 := .string ⟨#[]⟩) (x1 := .int .i64 0) (x2 := .slice none 0 0) (x3 := .int .i64 0) hzX _ _ _ _, _, hxZ.size, (by simpa [World.setCell] using hb6.size), hset _ _ _ _ _ _ _ _ _ _ _ _ _ _ (heap_lt hzZ) hr6⟩
 ·go_simp
  obtain ⟨Z0, hZ0⟩ : ∃ Z0, Z0 = (W.alloc (.cells #[.string ⟨#[]⟩, .int .i64 0, .slice none 0 0, .int .i64 0] 40)).drew := ⟨_, rfl⟩
  have hbZ : Below W.heap.size W Z0 := by rw [hZ0]; (repeat (first | exact Below.refl _ _ | assumption | refine Below.drew ?_ | refine bT ?_ _ | refine bS ?_ _ | refine bA ?_ _))
  have hzZ : Z0.heap[W.heap.size]? = some (.cells #[.string ⟨#[]⟩, .int .i64 0, .slice none 0 0, .int .i64 0] 40 (0, 0)) := by rw [hZ0]; exact heap_alloc_new _ _
  have hxZ := hbZ
  have hHeld := HCS.out _ hxZ
  rw [← hZ0]
  clear hZ0
  refine hK10.out _ _ (fun _ => hHeld) (fun _ => ?_)
  clear hK10 K10
  try simp only [Act.put, List.setIfInBounds_toArray, List.set_cons_zero, List.set_cons_succ]
  refine wpAnyV_one (i := 4) (by kernel_rfl) rfl (fun K4 hK4 => ?_)
  refine step_append_intsG rfl (.tmp 99) (.tmp 100) rfl (by simp [Act.eval]) (.slice aad args.length ac) (by simp [Act.eval]) args hl (HA.out _ hxZ) ?_
  intro ad5 cap5 X5 ho5 hb5
  have hx5 := bl_trans hxZ hxZ.size hb5
  have hHeld := HCS.out _ hx5
  have ha5 : XRow (InH X5) X5 (.slice ad5 args.length cap5) args.length (intsG args) := (xrow_own ho5).imp (fun b hb => hb.2) (fun _ _ => rfl)
  refine hK4.out _ _ (fun _ => hHeld) (fun _ => ?_)
  clear hK4 K4
  try simp only [Act.put, List.setIfInBounds_toArray]
  refine wpAnyV_one (i := 6) (by kernel_rfl) rfl (fun K6 hK6 => ?_)
  go_simp
  refine (HR.out _ hx5 _ _ ha5).mono ?_
  rintro e X6 ⟨hb6, o0, o1, o2, on, oc, o3, er, rfl, hr6⟩
  have hx6 := bl_trans hx5 hx5.size hb6
  have hHeld := HCS.out _ hx6
  refine hK6.out _ _ (fun _ => hHeld) (fun _ => ?_)
  clear hK6 K6
  try simp only [Act.put, List.setIfInBounds_toArray, List.set_cons_zero, List.set_cons_succ]
  have hzX := (hb6.block _ (heap_lt ((hb5.block _ (heap_lt hzZ)).trans hzZ))).trans ((hb5.block _ (heap_lt hzZ)).trans hzZ)
  refine wpAnyV_any 7 (some 96) (v := ?v7r15) rfl rfl (by kernel_rfl) (by kernel_rfl) (by kernel_rfl) (by kernel_rfl) (fun _ _ _ h => hP _ _ _ _ _ h) (Or.inl ⟨by rfl, ?hy7r15⟩) hHeld ?rest7r15
  case hy7r15 => (intro w2 hSw; (try dsimp only at hSw); first | (go_simp; done) | (go_simp; with_reducible rfl))
  simp only [Act.put, List.setIfInBounds_toArray, List.set_cons_zero, List.set_cons_succ]
  refine wpAnyV_any 8 (some 104) (v := ?v8r15) rfl rfl (by kernel_rfl) (by kernel_rfl) (by kernel_rfl) (by kernel_rfl) (fun _ _ _ h => hP _ _ _ _ _ h) (Or.inl ⟨by rfl, ?hy8r15⟩) hHeld ?rest8r15
  case hy8r15 => (intro w2 hSw; (try dsimp only at hSw); first | (go_simp; done) | (go_simp; with_reducible rfl))
  simp only [Act.put, List.setIfInBounds_toArray, List.set_cons_zero, List.set_cons_succ]
  refine wpAnyV_any 9 (some 105) (v := ?v9r15) rfl rfl (by kernel_rfl) (by kernel_rfl) (by kernel_rfl) (by kernel_rfl) (fun _ _ _ h => hP _ _ _ _ _ h) (Or.inl ⟨by rfl, ?hy9r15⟩) hHeld ?rest9r15
  case hy9r15 => (intro w2 hSw; (try dsimp only at hSw); first | (go_simp; done) | (go_simp; with_reducible rfl))
  simp only [Act.put, List.setIfInBounds_toArray, List.set_cons_zero, List.set_cons_succ]
  have z0 := cell_of_blk hzX 0
  have z1 := cell_of_blk hzX 1
  have z2 := cell_of_blk hzX 2
  have z3 := cell_of_blk hzX 3
  have fz0 := free_of_blk hzX 0
  have fz1 := free_of_blk hzX 1
  have fz2 := free_of_blk hzX 2
  have fz3 := free_of_blk hzX 3
  simp only [List.getElem?_toArray, List.getElem?_cons_zero, List.getElem?_cons_succ] at z0 z1 z2 z3
  refine wpAnyV_one (i := 11) (by kernel_rfl) rfl (fun K11 hK11 => ?_)
  go_simp
  refine hK11.out _ _ (fun h => absurd rfl h) (fun _ => ?_)
  clear hK11 K11 hHeld
  try simp only [Act.put, List.setIfInBounds_toArray, List.set_cons_zero, List.set_cons_succ]
  refine wpAnyV_late (i := 12) (by kernel_rfl) rfl (by kernel_rfl) (fun K14 hK14 => ?_)
  go_simp
  refine hK14.out _ _ ?_
  clear hK14 K14
  try simp only [Act.put, List.setIfInBounds_toArray, List.set_cons_zero, List.set_cons_succ]
  refine wpAnyV_done (by kernel_rfl) ?_ _
  exact HN.out _ _ _ _ _ _ _ _ _ _ _ _  _ ⟨W.heap.size, o0, o1, o2, on, oc, o3, rfl, (Nat.le_refl _), ((((hx6.setCell (Nat.le_refl _) _).setCell (Nat.le_refl _) _).setCell (Nat.le_refl _) _).setCell (Nat.le_refl _) _), set4_blk0 (x0 := .string ⟨#[]⟩) (x1 := .int .i64 0) (x2 := .slice none 0 0) (x3 := .int .i64 0) hzX _ _ _ _, _, hx5.size, (by simpa [World.setCell] using hb6.size), hset _ _ _ _ _ _ _ _ _ _ _ _ _ _ (heap_lt ((hb5.block _ (heap_lt hzZ)).trans hzZ)) hr6⟩
noncomputable def rm18C : Code := ((Tryd.f4.body.bind (regionOf 18)).getD .skip)
set_option maxRecDepth 100000 in
set_option maxHeartbeats 4000000 in
theorem rm18_any {W : World} {xb : Nat} {xf xw : Value} {nm : List UInt8} {aad : Option Addr} {ac : Nat} {args : List Int} {tk tk2 : Int} (hargs : XRow (InH W) W (.slice aad args.length ac) args.length (intsG args)) (hl : args.length ≤ 5000) (hx : W.heap[xb]? = some (.cells #[xf, xw] 37 (0, 0))) (h64a : 0 ≤ tk ∧ tk ≤ 5000) (h64b : 0 ≤ tk2 ∧ tk2 ≤ 5000)
  {R : Nat → World → ByteArray → Int → Option Addr → Nat → Nat → Int → Value → Prop} (hR : ∀ X, Below W.heap.size W X → ∀ ad cap, XRow (InH X) X (.slice ad args.length cap) args.length (intsG args) → Calls Tryd.prog 11 #[.agg #[xf, xw], .string ⟨nm.toArray⟩, .slice ad args.length cap, .int .i64 (tk + tk2)] X fun e w1 => Below X.heap.size X w1 ∧ ∃ o0 o1 o2 on oc o3 er, e = .returned (.tuple #[.agg #[.string o0, .int .i64 o1, .slice o2 on oc, .int .i64 o3], er]) ∧ R X.heap.size w1 o0 o1 o2 on oc o3 er)
  (hst : ∀ B X Y o0 o1 o2 on oc o3 er, R B X o0 o1 o2 on oc o3 er → Below X.heap.size X Y → R B Y o0 o1 o2 on oc o3 er)
  (hset : ∀ B X b u0 u1 u2 u3 o0 o1 o2 on oc o3 er, b < B → R B X o0 o1 o2 on oc o3 er → R B ((((X.setCell ⟨b, 0, none⟩ u0).setCell ⟨b, 1, none⟩ u1).setCell ⟨b, 2, none⟩ u2).setCell ⟨b, 3, none⟩ u3) o0 o1 o2 on oc o3 er)
  {c0 c5 c6 c7 c8 c9 c10 c11 c12 c13 c15 c17 c18 c21 c22 c23 c24 c25 c26 c27 c28 c29 c30 c31 c32 c33 c34 c35 c36 c37 c38 c39 c40 c41 c42 c43 c44 c45 c46 c47 c48 c49 c50 c51 c52 c53 c54 c55 c56 c57 c58 c59 c60 c61 c62 c63 c64 c65 c66 c67 c68 c69 c70 c71 c72 c73 c74 c75 c76 c77 c78 c79 c80 c81 c82 c83 c84 c85 c86 c87 c88 c89 c90 c91 c92 c93 c94 c95 c96 c97 c98 c99 c100 c101 c102 c103 c104 c105 c118 c119 c120 c121 c122 c123 c124 c125 c126 c127 c128 c129 c130 c131 c132 c133 c134 c135 c136 c137 c138 c139 c140 c141 c142 c143 c144 c145 c146 c147 c148 c149 c150 c151 c152 c153 c154 c155 c156 c157 : Value} {u19 u20 u106 u107 u108 u109 u110 u111 u112 u113 u114 u115 u116 u117 : Value} {Q : Exit → Act → World → Prop} (hP : ∀ c (a : Act) (d : Option Tmp) (v : Value) w, Q (.panic c) (a.put d v) w → Q (.panic c) a w)
  (hN : ∀ (u19 u20 u106 u107 u108 u109 u110 u111 u112 u113 u114 u115 u116 u117 : Value) (w1 : World), (∃ ob o0 o1 o2 on oc o3, u19 = .pointer (some ⟨ob, 0, none⟩) ∧ W.heap.size ≤ ob ∧ Below W.heap.size W w1 ∧ w1.heap[ob]? = some (.cells #[.string o0, .int .i64 o1, .slice o2 on oc, .int .i64 o3] 40 (0, 0)) ∧ ∃ B, W.heap.size ≤ B ∧ B ≤ w1.heap.size ∧ R B w1 o0 o1 o2 on oc o3 u20) → Q .normal ⟨#[c0, .string ⟨nm.toArray⟩, .slice aad args.length ac, .int .i64 tk, .int .i64 tk2, c5, c6, c7, c8, c9, c10, c11, c12, c13, .pointer (some ⟨xb, 0, none⟩), c15, .slice none 0 0, c17, c18, u19, u20, c21, c22, c23, c24, c25, c26, c27, c28, c29, c30, c31, c32, c33, c34, c35, c36, c37, c38, c39, c40, c41, c42, c43, c44, c45, c46, c47, c48, c49, c50, c51, c52, c53, c54, c55, c56, c57, c58, c59, c60, c61, c62, c63, c64, c65, c66, c67, c68, c69, c70, c71, c72, c73, c74, c75, c76, c77, c78, c79, c80, c81, c82, c83, c84, c85, c86, c87, c88, c89, c90, c91, c92, c93, c94, c95, c96, c97, c98, c99, c100, c101, c102, c103, c104, c105, u106, u107, u108, u109, u110, u111, u112, u113, u114, u115, u116, u117, c118, c119, c120, c121, c122, c123, c124, c125, c126, c127, c128, c129, c130, c131, c132, c133, c134, c135, c136, c137, c138, c139, c140, c141, c142, c143, c144, c145, c146, c147, c148, c149, c150, c151, c152, c153, c154, c155, c156, c157], []⟩ w1) :
  Code.wp Tryd.prog rm18C Q ⟨#[c0, .string ⟨nm.toArray⟩, .slice aad args.length ac, .int .i64 tk, .int .i64 tk2, c5, c6, c7, c8, c9, c10, c11, c12, c13, .pointer (some ⟨xb, 0, none⟩), c15, .slice none 0 0, c17, c18, u19, u20, c21, c22, c23, c24, c25, c26, c27, c28, c29, c30, c31, c32, c33, c34, c35, c36, c37, c38, c39, c40, c41, c42, c43, c44, c45, c46, c47, c48, c49, c50, c51, c52, c53, c54, c55, c56, c57, c58, c59, c60, c61, c62, c63, c64, c65, c66, c67, c68, c69, c70, c71, c72, c73, c74, c75, c76, c77, c78, c79, c80, c81, c82, c83, c84, c85, c86, c87, c88, c89, c90, c91, c92, c93, c94, c95, c96, c97, c98, c99, c100, c101, c102, c103, c104, c105, u106, u107, u108, u109, u110, u111, u112, u113, u114, u115, u116, u117, c118, c119, c120, c121, c122, c123, c124, c125, c126, c127, c128, c129, c130, c131, c132, c133, c134, c135, c136, c137, c138, c139, c140, c141, c142, c143, c144, c145, c146, c147, c148, c149, c150, c151, c152, c153, c154, c155, c156, c157], []⟩ W := by
 have HA := hidX (fun X (hb : Below W.heap.size W X) => (hargs.imp (inH_up hb) (keepH hb) : XRow (InH X) X (.slice aad args.length ac) args.length (intsG args)))
 have HR := hidX hR
 have HN := hidX hN
 have HCS := hidX (show ∀ V : World, Below W.heap.size W V → V.cell? ⟨xb, 0, none⟩ = some xf ∧ V.cell? ⟨xb, 1, none⟩ = some xw from fun V hb => ⟨cell_of_blk ((hb.block _ (heap_lt hx)).trans hx) 0, cell_of_blk ((hb.block _ (heap_lt hx)).trans hx) 1⟩)
 have hb0 : Below W.heap.size W W.drew := by (repeat (first | exact Below.refl _ _ | assumption | refine Below.drew ?_ | refine bT ?_ _ | refine bS ?_ _ | refine bA ?_ _))
 have hw1 : IntKind.i64.wrap (tk + tk2) = tk + tk2 := by rw [IntKind.wrap_i64]; unfold In64 at *; omega
 clear hargs hR hN hx
 conv => arg 2; whnf
 refine wp_region_V (fun W => W.cell? ⟨xb, 0, none⟩ = some xf ∧ W.cell? ⟨xb, 1, none⟩ = some xw) 13 (by kernel_rfl) (HCS.out _ (by (repeat (first | exact Below.refl _ _ | assumption | refine Below.drew ?_ | refine bT ?_ _ | refine bS ?_ _ | refine bA ?_ _)))) (fun hHeld => ?_)
 refine wpAnyV_put 0 (some 107) (v := ?v0r16) rfl rfl (by kernel_rfl) (by kernel_rfl) (by kernel_rfl) (by kernel_rfl) (by kernel_rfl) (fun _ _ _ h => hP _ _ _ _ _ h) (Or.inl ⟨by rfl, ?hy0r16⟩) hHeld ?rest0r16
 case hy0r16 => (intro w2 hSw; (try dsimp only at hSw); first | (go_simp; done) | (go_simp; with_reducible rfl))
 simp only [Act.put, List.setIfInBounds_toArray, List.set_cons_zero, List.set_cons_succ]
 refine wpAnyV_any 1 (some 108) (v := ?v1r16) rfl rfl (by kernel_rfl) (by kernel_rfl) (by kernel_rfl) (by kernel_rfl) (fun _ _ _ h => hP _ _ _ _ _ h) (Or.inl ⟨by rfl, ?hy1r16⟩) hHeld ?rest1r16
 case hy1r16 => (intro w2 hSw; (try dsimp only at hSw); first | (go_simp; done) | (go_simp; with_reducible rfl))
 simp only [Act.put, List.setIfInBounds_toArray, List.set_cons_zero, List.set_cons_succ]
 refine wpAnyV_any 2 (some 109) (v := ?v2r16) rfl rfl (by kernel_rfl) (by kernel_rfl) (by kernel_rfl) (by kernel_rfl) (fun _ _ _ h => hP _ _ _ _ _ h) (Or.inl ⟨by rfl, ?hy2r16⟩) hHeld ?rest2r16
 case hy2r16 => (intro w2 hSw; (try dsimp only at hSw); first | (go_simp; done) | (go_simp; with_reducible rfl))
 simp only [Act.put, List.setIfInBounds_toArray, List.set_cons_zero, List.set_cons_succ]
 refine wpAnyV_any 3 (some 110) (v := ?v3r16) rfl rfl (by kernel_rfl) (by kernel_rfl) (by kernel_rfl) (by kernel_rfl) (fun _ _ _ h => hP _ _ _ _ _ h) (Or.inl ⟨by rfl, ?hy3r16⟩) hHeld ?rest3r16
 case hy3r16 => (intro w2 hSw; (try dsimp only at hSw); first | (go_simp; done) | (go_simp; with_reducible rfl))
 simp only [Act.put, List.setIfInBounds_toArray, List.set_cons_zero, List.set_cons_succ]
 refine wpAnyV_any 5 (some 112) (v := ?v5r16) rfl rfl (by kernel_rfl) (by kernel_rfl) (by kernel_rfl) (by kernel_rfl) (fun _ _ _ h => hP _ _ _ _ _ h) (Or.inl ⟨by rfl, ?hy5r16⟩) hHeld ?rest5r16
 case hy5r16 => (intro w2 hSw; (try dsimp only at hSw); first | (go_simp; done) | (go_simp; with_reducible rfl))
 simp only [Act.put, List.setIfInBounds_toArray, List.set_cons_zero, List.set_cons_succ]
 refine wpAnyV_any 6 (some 113) (v := ?v6r16) rfl rfl (by kernel_rfl) (by kernel_rfl) (by kernel_rfl) (by kernel_rfl) (fun _ _ _ h => hP _ _ _ _ _ h) (Or.inl ⟨by rfl, ?hy6r16⟩) hHeld ?rest6r16
 case hy6r16 => (intro w2 hSw; (try dsimp only at hSw); first | (go_simp; done) | (go_simp; with_reducible rfl))
 simp only [Act.put, List.setIfInBounds_toArray, List.set_cons_zero, List.set_cons_succ]
 refine wpAnyV_any 7 (some 114) (v := ?v7r16) rfl rfl (by kernel_rfl) (by kernel_rfl) (by kernel_rfl) (by kernel_rfl) (fun _ _ _ h => hP _ _ _ _ _ h) (Or.inl ⟨by rfl, ?hy7r16⟩) hHeld ?rest7r16
 case hy7r16 => (intro w2 hSw; (try dsimp only at hSw); first | (go_simp; done) | (go_simp; with_reducible rfl))
 simp only [Act.put, List.setIfInBounds_toArray, List.set_cons_zero, List.set_cons_succ]
 refine wpAnyV_two (i := 4) (j := 12) (by kernel_rfl) rfl rfl (fun K4 hK4 => ?_) (fun K12 hK12 => ?_)
 ·refine step_append_intsG rfl (.tmp 109) (.tmp 110) rfl (by simp [Act.eval]) (.slice aad args.length ac) (by simp [Act.eval]) args hl (HA.out _ hb0) ?_
  intro ad5 cap5 X5 ho5 hb5
  have hx5 := bl_trans hb0 hb0.size hb5
  have hHeld := HCS.out _ hx5
  have ha5 : XRow (InH X5) X5 (.slice ad5 args.length cap5) args.length (intsG args) := (xrow_own ho5).imp (fun b hb => hb.2) (fun _ _ => rfl)
  refine hK4.out _ _ (fun _ => hHeld) (fun _ => ?_)
  clear hK4 K4
  try simp only [Act.put, List.setIfInBounds_toArray]
  refine wpAnyV_two (i := 8) (j := 12) (by kernel_rfl) rfl rfl (fun K8 hK8 => ?_) (fun K12 hK12 => ?_)
  ·go_simp
   refine (HR.out _ hx5 _ _ ha5).mono ?_
   rintro e X6 ⟨hb6, o0, o1, o2, on, oc, o3, er, rfl, hr6⟩
   have hx6 := bl_trans hx5 hx5.size hb6
   have hHeld := HCS.out _ hx6
   refine hK8.out _ _ (fun _ => hHeld) (fun _ => ?_)
   clear hK8 K8
   try simp only [Act.put, List.setIfInBounds_toArray, List.set_cons_zero, List.set_cons_succ]
   refine wpAnyV_any 9 (some 106) (v := ?v9r18) rfl rfl (by kernel_rfl) (by kernel_rfl) (by kernel_rfl) (by kernel_rfl) (fun _ _ _ h => hP _ _ _ _ _ h) (Or.inl ⟨by rfl, ?hy9r18⟩) hHeld ?rest9r18
   case hy9r18 => (intro w2 hSw; (try dsimp only at hSw); first | (go_simp; done) | (go_simp; with_reducible rfl))
   simp only [Act.put, List.setIfInBounds_toArray, List.set_cons_zero, List.set_cons_succ]
   refine wpAnyV_any 10 (some 116) (v := ?v10r18) rfl rfl (by kernel_rfl) (by kernel_rfl) (by kernel_rfl) (by kernel_rfl) (fun _ _ _ h => hP _ _ _ _ _ h) (Or.inl ⟨by rfl, ?hy10r18⟩) hHeld ?rest10r18
   case hy10r18 => (intro w2 hSw; (try dsimp only at hSw); first | (go_simp; done) | (go_simp; with_reducible rfl))
   simp only [Act.put, List.setIfInBounds_toArray, List.set_cons_zero, List.set_cons_succ]
   refine wpAnyV_any 11 (some 117) (v := ?v11r18) rfl rfl (by kernel_rfl) (by kernel_rfl) (by kernel_rfl) (by kernel_rfl) (fun _ _ _ h => hP _ _ _ _ _ h) (Or.inl ⟨by rfl, ?hy11r18⟩) hHeld ?rest11r18
   case hy11r18 => (intro w2 hSw; (try dsimp only at hSw); first | (go_simp; done) | (go_simp; with_reducible rfl))
   simp only [Act.put, List.setIfInBounds_toArray, List.set_cons_zero, List.set_cons_succ]
   refine wpAnyV_one (i := 12) (by kernel_rfl) rfl (fun K12 hK12 => ?_)
   go_simp
   refine hK12.out _ _ (fun _ => ?hS12r18) (fun _ => ?_)
   case hS12r18 => exact HCS.out _ (bl_trans hx6 hx6.size (box_blk _ _ _))
   clear hK12 K12
   try simp only [Act.put, List.setIfInBounds_toArray, List.set_cons_zero, List.set_cons_succ]
   refine wpAnyV_one (i := 13) (by kernel_rfl) rfl (fun K13 hK13 => ?_)
   go_simp
   refine hK13.out _ _ (fun h => absurd rfl h) (fun _ => ?_)
   clear hK13 K13 hHeld
   try simp only [Act.put, List.setIfInBounds_toArray, List.set_cons_zero, List.set_cons_succ]
   refine wpAnyV_late (i := 14) (by kernel_rfl) rfl (by kernel_rfl) (fun K14 hK14 => ?_)
   go_simp
   refine hK14.out _ _ ?_
   clear hK14 K14
   try simp only [Act.put, List.setIfInBounds_toArray, List.set_cons_zero, List.set_cons_succ]
   refine wpAnyV_done (by kernel_rfl) ?_ _
   exact HN.out _ _ _ _ _ _ _ _ _ _ _ _ _ _  _ ⟨X6.heap.size, o0, o1, o2, on, oc, o3, rfl, hx6.size, bl_trans hx6 hx6.size (by (repeat (first | exact Below.refl _ _ | assumption | refine Below.drew ?_ | refine bT ?_ _ | refine bS ?_ _ | refine bA ?_ _))), heap_alloc_new X6 _, _, hx5.size, Nat.le_trans hb6.size (Nat.le_trans (Nat.le_succ _) (by simp)), hst _ _ _ _ _ _ _ _ _ _ hr6 (by (repeat (first | exact Below.refl _ _ | assumption | refine Below.drew ?_ | refine bT ?_ _ | refine bS ?_ _ | refine bA ?_ _)))⟩
  ·go_simp
   obtain ⟨Z0, hZ0⟩ : ∃ Z0, Z0 = X5.alloc (.cells #[.string ⟨#[]⟩, .int .i64 0, .slice none 0 0, .int .i64 0] 40) := ⟨_, rfl⟩
   have hbZ : Below X5.heap.size X5 Z0 := by rw [hZ0]; (repeat (first | exact Below.refl _ _ | assumption | refine Below.drew ?_ | refine bT ?_ _ | refine bS ?_ _ | refine bA ?_ _))
   have hzZ : Z0.heap[X5.heap.size]? = some (.cells #[.string ⟨#[]⟩, .int .i64 0, .slice none 0 0, .int .i64 0] 40 (0, 0)) := by rw [hZ0]; exact heap_alloc_new _ _
   have hxZ := bl_trans hx5 hx5.size hbZ
   have hHeld := HCS.out _ hxZ
   rw [← hZ0]
   clear hZ0
   refine hK12.out _ _ (fun _ => hHeld) (fun _ => ?_)
   clear hK12 K12
   try simp only [Act.put, List.setIfInBounds_toArray, List.set_cons_zero, List.set_cons_succ]
   have haZ := ha5.imp (inH_up hbZ) (keepH hbZ)
   refine wpAnyV_one (i := 8) (by kernel_rfl) rfl (fun K8 hK8 => ?_)
   go_simp
   refine (HR.out _ hxZ _ _ haZ).mono ?_
   rintro e X6 ⟨hb6, o0, o1, o2, on, oc, o3, er, rfl, hr6⟩
   have hx6 := bl_trans hxZ hxZ.size hb6
   have hHeld := HCS.out _ hx6
   refine hK8.out _ _ (fun _ => hHeld) (fun _ => ?_)
   clear hK8 K8
   try simp only [Act.put, List.setIfInBounds_toArray, List.set_cons_zero, List.set_cons_succ]
   have hzX := (hb6.block _ (heap_lt hzZ)).trans hzZ
   refine wpAnyV_any 9 (some 106) (v := ?v9r19) rfl rfl (by kernel_rfl) (by kernel_rfl) (by kernel_rfl) (by kernel_rfl) (fun _ _ _ h => hP _ _ _ _ _ h) (Or.inl ⟨by rfl, ?hy9r19⟩) hHeld ?rest9r19
   case hy9r19 => (intro w2 hSw; (try dsimp only at hSw); first | (go_simp; done) | (go_simp; with_reducible rfl))
   simp only [Act.put, List.setIfInBounds_toArray, List.set_cons_zero, List.set_cons_succ]
   refine wpAnyV_any 10 (some 116) (v := ?v10r19) rfl rfl (by kernel_rfl) (by kernel_rfl) (by kernel_rfl) (by kernel_rfl) (fun _ _ _ h => hP _ _ _ _ _ h) (Or.inl ⟨by rfl, ?hy10r19⟩) hHeld ?rest10r19
   case hy10r19 => (intro w2 hSw; (try dsimp only at hSw); first | (go_simp; done) | (go_simp; with_reducible rfl))
   simp only [Act.put, List.setIfInBounds_toArray, List.set_cons_zero, List.set_cons_succ]
   refine wpAnyV_any 11 (some 117) (v := ?v11r19) rfl rfl (by kernel_rfl) (by kernel_rfl) (by kernel_rfl) (by kernel_rfl) (fun _ _ _ h => hP _ _ _ _ _ h) (Or.inl ⟨by rfl, ?hy11r19⟩) hHeld ?rest11r19
   case hy11r19 => (intro w2 hSw; (try dsimp only at hSw); first | (go_simp; done) | (go_simp; with_reducible rfl))
   simp only [Act.put, List.setIfInBounds_toArray, List.set_cons_zero, List.set_cons_succ]
   have z0 := cell_of_blk hzX 0
   have z1 := cell_of_blk hzX 1
   have z2 := cell_of_blk hzX 2
   have z3 := cell_of_blk hzX 3
   have fz0 := free_of_blk hzX 0
   have fz1 := free_of_blk hzX 1
   have fz2 := free_of_blk hzX 2
   have fz3 := free_of_blk hzX 3
   simp only [List.getElem?_toArray, List.getElem?_cons_zero, List.getElem?_cons_succ] at z0 z1 z2 z3
   refine wpAnyV_one (i := 13) (by kernel_rfl) rfl (fun K13 hK13 => ?_)
   go_simp
   refine hK13.out _ _ (fun h => absurd rfl h) (fun _ => ?_)
   clear hK13 K13 hHeld
   try simp only [Act.put, List.setIfInBounds_toArray, List.set_cons_zero, List.set_cons_succ]
   refine wpAnyV_late (i := 14) (by kernel_rfl) rfl (by kernel_rfl) (fun K14 hK14 => ?_)
   go_simp
   refine hK14.out _ _ ?_
   clear hK14 K14
   try simp only [Act.put, List.setIfInBounds_toArray, List.set_cons_zero, List.set_cons_succ]
   refine wpAnyV_done (by kernel_rfl) ?_ _
   exact HN.out _ _ _ _ _ _ _ _ _ _ _ _ _ _  _ ⟨X5.heap.size, o0, o1, o2, on, oc, o3, rfl, hx5.size, ((((hx6.setCell hx5.size _).setCell hx5.size _).setCell hx5.size _).setCell hx5.size _), set4_blk0 (x0 := .string ⟨#[]⟩) (x1 := .int .i64 0) (x2 := .slice none 0 0) (x3 := .int .i64 0) hzX _ _ _ _, _, hxZ.size, (by simpa [World.setCell] using hb6.size), hset _ _ _ _ _ _ _ _ _ _ _ _ _ _ (heap_lt hzZ) hr6⟩
 ·go_simp
  obtain ⟨Z0, hZ0⟩ : ∃ Z0, Z0 = (W.alloc (.cells #[.string ⟨#[]⟩, .int .i64 0, .slice none 0 0, .int .i64 0] 40)).drew := ⟨_, rfl⟩
  have hbZ : Below W.heap.size W Z0 := by rw [hZ0]; (repeat (first | exact Below.refl _ _ | assumption | refine Below.drew ?_ | refine bT ?_ _ | refine bS ?_ _ | refine bA ?_ _))
  have hzZ : Z0.heap[W.heap.size]? = some (.cells #[.string ⟨#[]⟩, .int .i64 0, .slice none 0 0, .int .i64 0] 40 (0, 0)) := by rw [hZ0]; exact heap_alloc_new _ _
  have hxZ := hbZ
  have hHeld := HCS.out _ hxZ
  rw [← hZ0]
  clear hZ0
  refine hK12.out _ _ (fun _ => hHeld) (fun _ => ?_)
  clear hK12 K12
  try simp only [Act.put, List.setIfInBounds_toArray, List.set_cons_zero, List.set_cons_succ]
  refine wpAnyV_one (i := 4) (by kernel_rfl) rfl (fun K4 hK4 => ?_)
  refine step_append_intsG rfl (.tmp 109) (.tmp 110) rfl (by simp [Act.eval]) (.slice aad args.length ac) (by simp [Act.eval]) args hl (HA.out _ hxZ) ?_
  intro ad5 cap5 X5 ho5 hb5
  have hx5 := bl_trans hxZ hxZ.size hb5
  have hHeld := HCS.out _ hx5
  have ha5 : XRow (InH X5) X5 (.slice ad5 args.length cap5) args.length (intsG args) := (xrow_own ho5).imp (fun b hb => hb.2) (fun _ _ => rfl)
  refine hK4.out _ _ (fun _ => hHeld) (fun _ => ?_)
  clear hK4 K4
  try simp only [Act.put, List.setIfInBounds_toArray]
  refine wpAnyV_one (i := 8) (by kernel_rfl) rfl (fun K8 hK8 => ?_)
  go_simp
  refine (HR.out _ hx5 _ _ ha5).mono ?_
  rintro e X6 ⟨hb6, o0, o1, o2, on, oc, o3, er, rfl, hr6⟩
  have hx6 := bl_trans hx5 hx5.size hb6
  have hHeld := HCS.out _ hx6
  refine hK8.out _ _ (fun _ => hHeld) (fun _ => ?_)
  clear hK8 K8
  try simp only [Act.put, List.setIfInBounds_toArray, List.set_cons_zero, List.set_cons_succ]
  have hzX := (hb6.block _ (heap_lt ((hb5.block _ (heap_lt hzZ)).trans hzZ))).trans ((hb5.block _ (heap_lt hzZ)).trans hzZ)
  refine wpAnyV_any 9 (some 106) (v := ?v9r20) rfl rfl (by kernel_rfl) (by kernel_rfl) (by kernel_rfl) (by kernel_rfl) (fun _ _ _ h => hP _ _ _ _ _ h) (Or.inl ⟨by rfl, ?hy9r20⟩) hHeld ?rest9r20
  case hy9r20 => (intro w2 hSw; (try dsimp only at hSw); first | (go_simp; done) | (go_simp; with_reducible rfl))
  simp only [Act.put, List.setIfInBounds_toArray, List.set_cons_zero, List.set_cons_succ]
  refine wpAnyV_any 10 (some 116) (v := ?v10r20) rfl rfl (by kernel_rfl) (by kernel_rfl) (by kernel_rfl) (by kernel_rfl) (fun _ _ _ h => hP _ _ _ _ _ h) (Or.inl ⟨by rfl, ?hy10r20⟩) hHeld ?rest10r20
  case hy10r20 => (intro w2 hSw; (try dsimp only at hSw); first | (go_simp; done) | (go_simp; with_reducible rfl))
  simp only [Act.put, List.setIfInBounds_toArray, List.set_cons_zero, List.set_cons_succ]
  refine wpAnyV_any 11 (some 117) (v := ?v11r20) rfl rfl (by kernel_rfl) (by kernel_rfl) (by kernel_rfl) (by kernel_rfl) (fun _ _ _ h => hP _ _ _ _ _ h) (Or.inl ⟨by rfl, ?hy11r20⟩) hHeld ?rest11r20
  case hy11r20 => (intro w2 hSw; (try dsimp only at hSw); first | (go_simp; done) | (go_simp; with_reducible rfl))
  simp only [Act.put, List.setIfInBounds_toArray, List.set_cons_zero, List.set_cons_succ]
  have z0 := cell_of_blk hzX 0
  have z1 := cell_of_blk hzX 1
  have z2 := cell_of_blk hzX 2
  have z3 := cell_of_blk hzX 3
  have fz0 := free_of_blk hzX 0
  have fz1 := free_of_blk hzX 1
  have fz2 := free_of_blk hzX 2
  have fz3 := free_of_blk hzX 3
  simp only [List.getElem?_toArray, List.getElem?_cons_zero, List.getElem?_cons_succ] at z0 z1 z2 z3
  refine wpAnyV_one (i := 13) (by kernel_rfl) rfl (fun K13 hK13 => ?_)
  go_simp
  refine hK13.out _ _ (fun h => absurd rfl h) (fun _ => ?_)
  clear hK13 K13 hHeld
  try simp only [Act.put, List.setIfInBounds_toArray, List.set_cons_zero, List.set_cons_succ]
  refine wpAnyV_late (i := 14) (by kernel_rfl) rfl (by kernel_rfl) (fun K14 hK14 => ?_)
  go_simp
  refine hK14.out _ _ ?_
  clear hK14 K14
  try simp only [Act.put, List.setIfInBounds_toArray, List.set_cons_zero, List.set_cons_succ]
  refine wpAnyV_done (by kernel_rfl) ?_ _
  exact HN.out _ _ _ _ _ _ _ _ _ _ _ _ _ _  _ ⟨W.heap.size, o0, o1, o2, on, oc, o3, rfl, (Nat.le_refl _), ((((hx6.setCell (Nat.le_refl _) _).setCell (Nat.le_refl _) _).setCell (Nat.le_refl _) _).setCell (Nat.le_refl _) _), set4_blk0 (x0 := .string ⟨#[]⟩) (x1 := .int .i64 0) (x2 := .slice none 0 0) (x3 := .int .i64 0) hzX _ _ _ _, _, hx5.size, (by simpa [World.setCell] using hb6.size), hset _ _ _ _ _ _ _ _ _ _ _ _ _ _ (heap_lt ((hb5.block _ (heap_lt hzZ)).trans hzZ)) hr6⟩
end Go.Proofs.YtbcpomdcmilpjaaDoor
