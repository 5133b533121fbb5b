/- Our own: texts joined: MaSame, MaLarge, MaAs. -/
import Derived.Test.YtbcpomdcmilpjaaDoorXMaSt
import Derived.Test.YtbcpomdcmilpjaaDoorXBaseM
import Derived.BigQuiet
import Derived.Deep.QuietTactic
import Derived.Deep.DeepCutAuto
import Derived.Test.YtbcpomdcmilpjaaDoorXChkRun
import Derived.Test.YtbcpomdcmilpjaaDoorXApM
import Derived.Test.YtbcpomdcmilpjaaDoorXCdM
import Derived.Test.YtbcpomdcmilpjaaDoorXRunBM
namespace Go.Proofs.YtbcpomdcmilpjaaDoor
open Go.RowKit
set_option maxRecDepth 100000 in
set_option maxHeartbeats 2000000 in
theorem sameInts_m (l : List Int) (hn : l.length ≤ 1000000) (w : World) (ad ad' : Option Addr) (c c' : Nat) (h1 : XRow (InH w) w (.slice ad l.length c) l.length (intsG l)) (h2 : XRow (InH w) w (.slice ad' l.length c') l.length (intsG l)) :
  Calls Tryd.prog 15 #[.slice ad l.length c, .slice ad' l.length c'] w fun e w' => e = .returned (.bool true) ∧ Below w.heap.size w w' := by
 have R1 := hidX h1
 have R2 := hidX h2
 have hn' : (l.length : Int) ≤ 1000000 := by omega
 clear h1 h2
 go_enter Tryd.func15, Tryd.ntmps15
 go_wp2_with fail
 go_loopw [5] (fun i wr => ∃ q : Nat, q ≤ l.length ∧ i = .int .i64 q ∧ Hid (Below w.heap.size w wr)) (fun i _ => l.length - (intOf i).toNat)
 case atStart => exact ⟨0, by omega, rfl, Below.refl _ _⟩
 case round =>
  obtain ⟨q, hq, rfl, HB⟩ := hrel
  by_cases hlt : q < l.length
  ·have hlt' : (q : Int) < (l.length : Int) := by omega
   obtain ⟨g, off, e1, _, hg, hc⟩ := R1.out.get (by omega)
   obtain ⟨g', off', e2, _, hg', hc'⟩ := R2.out.get (by omega)
   subst e1 e2
   have ht : wr.cell? ⟨g, off + q, none⟩ = some (.int .i64 l[q]) := (HB.out.cell (p := ⟨g, _, none⟩) hg).trans (hc q _ (intsG_at hlt))
   have ht' : wr.cell? ⟨g', off' + q, none⟩ = some (.int .i64 l[q]) := (HB.out.cell (p := ⟨g', _, none⟩) hg').trans (hc' q _ (intsG_at hlt))
   generalize l[q] = x at ht ht'
   have HF := hidX (fun k => (show Below w.heap.size w (wr.drewN k) from bT HB.out k))
   clear hc hc' HB
   go_wp2_with fail
   go_quiet (fail)
   go_wp2
   go_roundw
   case rel => exact ⟨q + 1, by omega, by go_num, HF.out _⟩
   case measure => simp [intOf]; omega
  ·have hqn : q = l.length := by omega
   subst hqn
   go_wp2
   go_ret
   exact ⟨rfl, HB.out⟩
abbrev outM4 (how : List UInt8) (v : Int) (ov : Value) (t : Nat) : Array Value := #[.string ⟨how.toArray⟩, .int .i64 v, ov, .int .i64 (t : Int)]
set_option maxRecDepth 100000 in
set_option maxHeartbeats 2000000 in
theorem sameOut_m (how : List UInt8) (v : Int) (t : Nat) (l : List Int) (hn : l.length ≤ 1000000) (w : World) (ad ad' : Option Addr) (c c' : Nat) (h1 : XRow (InH w) w (.slice ad l.length c) l.length (intsG l)) (h2 : XRow (InH w) w (.slice ad' l.length c') l.length (intsG l)) :
  Calls Tryd.prog 13 #[.agg (outM4 how v (.slice ad l.length c) t), .agg (outM4 how v (.slice ad' l.length c') t)] w fun e w' => e = .returned (.bool true) ∧ Below w.heap.size w w' := by
 have hsi : ∀ X, Below w.heap.size w X → Calls Tryd.prog 15 #[.slice ad l.length c, .slice ad' l.length c'] X fun e w' => e = .returned (.bool true) ∧ Below X.heap.size X w' := fun X hX => sameInts_m l hn X ad ad' c c' (h1.imp (inH_up hX) (keepH hX)) (h2.imp (inH_up hX) (keepH hX))
 have HSI := hidX hsi
 clear hsi h1 h2
 unfold outM4
 go_enter Tryd.func13, Tryd.ntmps13
 go_wp2_with fail
 refine (HSI.out _ (by (repeat (first | exact Below.refl _ _ | assumption | refine Below.drew ?_ | refine bT ?_ _ | refine bS ?_ _ | refine bA ?_ _)))).mono ?_
 rintro e w2 ⟨rfl, hb2⟩
 have hb3 : Below w.heap.size w w2 := bl_trans (show Below w.heap.size w _ by (repeat (first | exact Below.refl _ _ | assumption | refine Below.drew ?_ | refine bT ?_ _ | refine bS ?_ _ | refine bA ?_ _))) (by simp; omega) hb2
 clear hb2
 go_wp2
 go_ret
 exact ⟨rfl, hb3⟩
end Go.Proofs.YtbcpomdcmilpjaaDoor
namespace Go.Proofs.YtbcpomdcmilpjaaDoor
open Go.RowKit
structure FewIm (I : Im) : Prop where
 funs : I.funs.length ≤ 12
 words : I.words.length ≤ 200 ∨ I.words.length = 8001
 names : ∀ f ∈ I.funs, f.name.length ≤ 20
set_option maxRecDepth 100000 in
set_option maxHeartbeats 4000000 in
theorem largeImg_any {w : World} (I : Im) (hfl : I.funs.length ≤ 9223372036854775807) (hwl : I.words.length ≤ 9223372036854775807) (hnl : ∀ f ∈ I.funs, f.name.length ≤ 9223372036854775807) (adf adw : Option Addr) (cf cw : Nat) (hF : XMf (InH w) w (.slice adf I.funs.length cf) I.funs) :
  Calls Tryd.prog 7 #[.agg #[.slice adf I.funs.length cf, .slice adw I.words.length cw]] w fun e w' => ∃ b, e = .returned (.bool b) ∧ (b = false → FewIm I) ∧ Below w.heap.size w w' := by
 obtain ⟨W0, hW0⟩ : ∃ W0, W0 = w.alloc (.cells #[.slice adf I.funs.length cf, .slice adw I.words.length cw] 25) := ⟨_, rfl⟩
 have hb0 : Below w.heap.size w W0 := by rw [hW0]; (repeat (first | exact Below.refl _ _ | assumption | refine Below.drew ?_ | refine bT ?_ _ | refine bS ?_ _ | refine bA ?_ _))
 have hx0 : W0.heap[w.heap.size]? = some (.cells #[.slice adf I.funs.length cf, .slice adw I.words.length cw] 25 (0, 0)) := by rw [hW0]; exact heap_alloc_new _ _
 have hfl' : (I.funs.length : Int) ≤ 9223372036854775807 := by omega
 have HF := hidX hF
 have HNL := hidX hnl
 have HB0 := hidX hb0
 have HX0 := hidX hx0
 have d0 : W0.cell? ⟨w.heap.size, 0, none⟩ = some (.slice adf I.funs.length cf) := cell_of_blk hx0 0
 have d1 : W0.cell? ⟨w.heap.size, 1, none⟩ = some (.slice adw I.words.length cw) := cell_of_blk hx0 1
 clear hF hnl hb0 hx0
 go_enter Tryd.func7, Tryd.ntmps7
 go_upto_region 1 with fail
 rw [← hW0]
 clear hW0
 go_cut [19] (fun v wc => wc = W0 ∧ v = .bool (decide (12 < I.funs.length) || (decide (200 < I.words.length) && decide (I.words.length ≠ 8001))))
 case first =>
  by_cases c1 : 12 < I.funs.length
  ·have c1' : (12 : Int) < (I.funs.length : Int) := by omega
   go_wp2_with fail
   go_meet
   case rel => exact ⟨rfl, by rw [decide_eq_true c1]; rfl⟩
  ·have c1' : ¬ (12 : Int) < (I.funs.length : Int) := by omega
   by_cases c2 : 200 < I.words.length
   ·have c2' : (200 : Int) < (I.words.length : Int) := by omega
    by_cases c3 : I.words.length = 8001
    ·have c3' : ((I.words.length : Int) != 8001) = false := by rw [c3]; rfl
     have HC2 := hidX c3
     clear c3
     go_wp2_with fail
     go_meet
     case rel => exact ⟨rfl, by rw [decide_eq_false c1, HC2.out]; rfl⟩
    ·have c3' : ((I.words.length : Int) != 8001) = true := by rw [bne, beq_eq_false_iff_ne.2 (by omega)]; rfl
     have HC2 := hidX c3
     clear c3
     go_wp2_with fail
     go_meet
     case rel => exact ⟨rfl, by rw [decide_eq_false c1, decide_eq_true c2, decide_eq_true HC2.out]; rfl⟩
   ·have c2' : ¬ (200 : Int) < (I.words.length : Int) := by omega
    go_wp2_with fail
    go_meet
    case rel => exact ⟨rfl, by rw [decide_eq_false c1, decide_eq_false c2]; rfl⟩
 case rest =>
 obtain ⟨hwc, rfl⟩ := hcut
 replace hwc := hwc.symm
 subst hwc
 by_cases hc : (decide (12 < I.funs.length) || (decide (200 < I.words.length) && decide (I.words.length ≠ 8001))) = true
 ·rw [hc]
  clear hc
  go_wp2
  go_ret
  exact ⟨true, rfl, (fun h => by cases h), HB0.out⟩
 have hc' : (decide (12 < I.funs.length) || (decide (200 < I.words.length) && decide (I.words.length ≠ 8001))) = false := by simpa using hc
 rw [hc']
 have hl1 : I.funs.length ≤ 12 ∧ (I.words.length ≤ 200 ∨ I.words.length = 8001) := by
  simp only [Bool.or_eq_false_iff, Bool.and_eq_false_iff, decide_eq_false_iff_not] at hc'
  omega
 have HL1 := hidX hl1
 have hl2' : (I.funs.length : Int) ≤ 12 := by omega
 clear hc hc' hfl hfl' hwl hl1
 go_wp2_with fail
 clear d0 d1
 go_loopw [3] (fun i wr => ∃ q : Nat, q ≤ I.funs.length ∧ i = .int .i64 (q : Int) ∧ Hid (Below W0.heap.size W0 wr) ∧ Hid (∀ j (hj : j < I.funs.length), j < q → (I.funs[j]).name.length ≤ 20)) (fun i _ => I.funs.length - (intOf i).toNat)
 case atStart => exact ⟨0, by omega, rfl, Below.refl _ _, fun j _ hj => absurd hj (by omega)⟩
 case round =>
  obtain ⟨q, hq, rfl, HB, HA⟩ := hrel
  have d0 : wr.cell? ⟨w.heap.size, 0, none⟩ = some (.slice adf I.funs.length cf) := cell_of_blk ((HB.out.block _ (heap_lt HX0.out)).trans HX0.out) 0
  have hup : Below w.heap.size w wr := bl_trans HB0.out HB0.out.size HB.out
  have HUP := hidX hup
  by_cases hlt : q < I.funs.length
  ·have hlt' : (q : Int) < (I.funs.length : Int) := by omega
   obtain ⟨g, off, eb, hgb, k0, k1, k2, k3⟩ := HF.out.at hlt
   subst eb
   replace k0 := (hup.cell (p := ⟨g, _, none⟩) hgb).trans k0
   have hnl := HNL.out _ (List.getElem_mem hlt)
   have hnl' : (((I.funs[q]).name.length : Nat) : Int) ≤ 9223372036854775807 := by omega
   have HNX := hidX (show (I.funs[q]).name.length ≤ 20 → ∀ j (hj : j < I.funs.length), j < q + 1 → (I.funs[j]).name.length ≤ 20 from fun h j hj hjq => by
    by_cases e : j = q
    ·subst e; exact h
    ·exact HA.out j hj (by omega))
   generalize (I.funs[q]).name = nm at k0 hnl hnl' HNX
   clear k1 k2 k3 hup hnl
   by_cases hn : 20 < nm.length
   ·have hn' : (20 : Int) < (nm.length : Int) := by omega
    clear hn
    go_wp2
    go_ret
    exact ⟨true, rfl, (fun h => by cases h), HUP.out⟩
   ·have hn' : ¬ (20 : Int) < (nm.length : Int) := by omega
    have HN2 := hidX (HNX.out (by omega))
    clear hn HNX
    go_wp2
    go_roundw
    case rel => exact ⟨q + 1, by omega, by go_num, HB.out, HN2.out⟩
    case measure => simp [intOf]; omega
  ·have hqn : q = I.funs.length := by omega
   subst hqn
   go_wp2
   go_ret
   exact ⟨false, rfl, (fun _ => ⟨HL1.out.1, HL1.out.2, fun f hf => by
    obtain ⟨j, hj, rfl⟩ := List.getElem_of_mem hf
    exact HA.out j hj hj⟩), HUP.out⟩
end Go.Proofs.YtbcpomdcmilpjaaDoor
namespace Go.Proofs.YtbcpomdcmilpjaaDoor
open Go.RowKit
theorem u64_info : (Tryd.prog.info? 52).map (fun i => (i.zero, i.size, i.bytes)) = some (some (.int .u64 0), 1, 8) := by kernel_rfl
theorem efun_info : (Tryd.prog.info? 51).map (fun i => (i.zero, i.size, i.bytes)) = some (some (.agg #[.string ⟨#[]⟩, .int .i64 0, .int .i64 0, .int .i64 0]), 4, 40) := by kernel_rfl
theorem wosV_one (l : List Nat) : ∀ u ∈ wosV l, u.oneCell' = true := by
 intro u hu
 obtain ⟨x, _, rfl⟩ := List.mem_map.1 hu
 rfl
theorem wosV_len (l : List Nat) : (wosV l).length = l.length := by simp [wosV]
theorem xrow_wos {A : Nat → Prop} {w : World} {a : Addr} {c : Nat} {l : List Nat} (h : XRow A w (.slice (some a) l.length c) l.length (wosV l)) : ∀ j u, (wosV l)[j]? = some u → w.cell? (a.add j) = some u := by
 intro j u hu
 have hj : j < l.length := by
  rcases Nat.lt_or_ge j (wosV l).length with h' | h'
  ·simpa [wosV] using h'
  ·rw [List.getElem?_eq_none h'] at hu; cases hu
 obtain ⟨g, off, e, _, _, hc⟩ := h.get (by omega)
 injection e with e
 subst e
 rw [← hc j u hu]
 congr 1
 unfold Addr.add
 split
 ·next h0 => rw [h0, Nat.add_zero]
 ·rfl
theorem run_append_wos (w : World) (ty : TypeId) (sv : Value) (l : List Nat) (hl : l.length ≤ 10000) (h : XRow (InH w) w sv l.length (wosV l)) :
  ∃ v' w', (Builtin.append_ #[23, 23] ty #[.slice none 0 0, sv]).run Tryd.prog w = .ok v' w' ∧ w'.ownsRow w.heap.size 52 1 v' l.length (wosV l) ∧ Below w.heap.size w w' := by
 obtain ⟨i0, hi, hz0, hz1, hz2⟩ := info_parts u64_info
 obtain ⟨ad, cap, rfl⟩ := h.is
 cases ad with
 | some a =>
  obtain ⟨v', w', hrun, hown, hg, _, _⟩ := run_append_own_at (P := Tryd.prog) w w.heap.size 23 ty 52 i0 _ 1 8 Tryd.underlying23 hi hz0 hz1 hz2 rfl (by decide) (.slice none 0 0) 0 [] (World.ownsRow_nil _ _ _ _) a l.length cap (wosV l) (by rw [wosV_len, Nat.mul_one]) (xrow_wos h) (wosV_one l) (by unfold maxLen; omega) (by omega) (Nat.le_refl _)
  refine ⟨v', w', hrun, by simpa using hown, ⟨hg.os, hg.tape, hg.output, hg.size, fun i hi => hg.block i hi (fun e => by simp [Value.ownBlock] at e)⟩⟩
 | none =>
  have h0 : l = [] := by
   rcases Nat.eq_zero_or_pos l.length with h' | h'
   ·exact List.length_eq_zero_iff.1 h'
   ·obtain ⟨g, off, e, _⟩ := h.get (by omega); cases e
  subst h0
  refine ⟨.slice none 0 0, w, ?_, World.ownsRow_nil _ _ _ _, Below.refl _ _⟩
  simp [Builtin.append_, run_underlying Tryd.underlying23, sizeOf, typeInfo, hi, Builtin.lenOf, Builtin.firstCells]
theorem wpList_append_wos {ops : Array Oper} {rest : List Oper} {o : Oper} {a : Act} {w : World} {Q : Exit → Act → World → Prop} (hgd : o.guard = none) (s x : Operand)
  (ho : o.op = .call { callee := .builtin .append, args := #[s, x], argTypes := #[23, 23] }) (hs : a.eval s = .slice none 0 0) (sv : Value) (hx : a.eval x = sv) (l : List Nat) (hl : l.length ≤ 10000) (h : XRow (InH w) w sv l.length (wosV l))
  (hk : ∀ ad c w', w'.ownsRow w.heap.size 52 1 (.slice ad l.length c) l.length (wosV l) → Below w.heap.size w w' → wpList Tryd.prog ops Q rest (a.put o.dst (.slice ad l.length c)) w') :
  wpList Tryd.prog ops Q (o :: rest) a w := by
 refine wpList_plain hgd fun K hK => ?_
 obtain ⟨v', w', hr, h1, h2⟩ := run_append_wos w o.type sv l hl h
 obtain ⟨ad, c, rfl⟩ := own_is h1
 unfold Oper.wp execOp
 simp only [ho, resolve, invoke, builtin, Sem.run_bind, Sem.run_pure, Result.andThen_ok, List.map_toArray, List.map_cons, List.map_nil, hs, hx, hr]
 exact hK _ _ (hk _ _ _ h1 h2)
theorem mfC_one (f : Mf) : ∀ u ∈ mfC f, u.oneCell' = true := by
 intro u hu
 simp only [mfC, List.mem_cons, List.not_mem_nil, or_false] at hu
 rcases hu with rfl | rfl | rfl | rfl <;> rfl
set_option maxRecDepth 100000 in
set_option maxHeartbeats 8000000 in
theorem asImage_any {w : World} (I : Im) (hfl : I.funs.length ≤ 12) (hwl : I.words.length ≤ 10000) (adf adw : Option Addr) (cf cw : Nat) (hF : XMf (InH w) w (.slice adf I.funs.length cf) I.funs) (hW : XRow (InH w) w (.slice adw I.words.length cw) I.words.length (wosV I.words)) :
  Calls Tryd.prog 10 #[.agg #[.slice adf I.funs.length cf, .slice adw I.words.length cw]] w fun e w' => ∃ af c1 aw c2, e = .returned (.agg #[.slice af I.funs.length c1, .slice aw I.words.length c2]) ∧ Below w.heap.size w w' ∧ w'.ownsRow w.heap.size 51 4 (.slice af I.funs.length c1) I.funs.length (I.funs.flatMap mfC) ∧ w'.ownsRow w.heap.size 52 1 (.slice aw I.words.length c2) I.words.length (wosV I.words) ∧ (∀ b, (Value.slice aw I.words.length c2).ownBlock = some b → (Value.slice af I.funs.length c1).ownBlock ≠ some b) := by
 obtain ⟨W0, hW0⟩ : ∃ W0, W0 = (w.alloc (.cells #[.slice adf I.funs.length cf, .slice adw I.words.length cw] 25)).alloc (.cells #[.slice none 0 0, .slice none 0 0] 37) := ⟨_, rfl⟩
 have hb0 : Below w.heap.size w W0 := by rw [hW0]; (repeat (first | exact Below.refl _ _ | assumption | refine Below.drew ?_ | refine bT ?_ _ | refine bS ?_ _ | refine bA ?_ _))
 have hx0 : W0.heap[w.heap.size]? = some (.cells #[.slice adf I.funs.length cf, .slice adw I.words.length cw] 25 (0, 0)) := by rw [hW0]; exact (Below.heap_alloc (w.alloc _) _ _ (by simp)).trans (heap_alloc_new w _)
 have hx1 : W0.heap[w.heap.size + 1]? = some (.cells #[.slice none 0 0, .slice none 0 0] 37 (0, 0)) := by
  rw [hW0]
  have := heap_alloc_new (w.alloc (.cells #[.slice adf I.funs.length cf, .slice adw I.words.length cw] 25)) (.cells #[.slice none 0 0, .slice none 0 0] 37)
  rwa [World.size_alloc] at this
 have hfl' : (I.funs.length : Int) ≤ 12 := by omega
 have HF := hidX hF
 have HW := hidX (hW.imp (inH_up hb0) (keepH hb0))
 have HB0 := hidX hb0
 have HX0 := hidX hx0
 have HX1 := hidX hx1
 have d0 : W0.cell? ⟨w.heap.size, 0, none⟩ = some (.slice adf I.funs.length cf) := cell_of_blk hx0 0
 have d1 : W0.cell? ⟨w.heap.size, 1, none⟩ = some (.slice adw I.words.length cw) := cell_of_blk hx0 1
 obtain ⟨i0, hi, hy0, hy1, hy2⟩ := info_parts efun_info
 clear hF hW hb0 hx0 hx1
 go_enter Tryd.func10, Tryd.ntmps10
 go_upto_region 1 with fail
 rw [← hW0]
 clear hW0
 go_wp2_with (at_builtin; refine wpList_append_wos rfl (.tmp 7) (.tmp 9) rfl rfl (.slice adw I.words.length cw) rfl I.words hwl HW.out ?_; intro ada ca W1 ho1 hb1)
 have hz1 : w.heap.size + 2 ≤ W1.heap.size := by have h1 := heap_lt HX1.out; have h2 := hb1.size; omega
 have HO2 := hidX (own_base ho1 (B' := w.heap.size + 2) (heap_lt HX1.out))
 have HL1 := hidX (show ∀ b, (Value.slice ada I.words.length ca).ownBlock = some b → b < W1.heap.size from fun b hb => (ho1.lt b hb).2)
 have HBW := hidX (bl_trans HB0.out HB0.out.size hb1)
 have HI1 := hidX ((hb1.block _ (heap_lt HX0.out)).trans HX0.out)
 have HR1 := hidX ((hb1.block _ (heap_lt HX1.out)).trans HX1.out)
 obtain ⟨N, hN⟩ : ∃ N, N = W1.heap.size := ⟨_, rfl⟩
 obtain ⟨W2, hW2⟩ : ∃ W2, W2 = W1.alloc (.cells #[.slice none 0 0, .slice ada I.words.length ca] 37) := ⟨_, rfl⟩
 have HS2 := hidX (show Below N W1 W2 by rw [hW2, hN]; (repeat (first | exact Below.refl _ _ | assumption | refine Below.drew ?_ | refine bT ?_ _ | refine bS ?_ _ | refine bA ?_ _)))
 have HN2 := hidX (show W2.heap[N]? = some (.cells #[.slice none 0 0, .slice ada I.words.length ca] 37 (0, 0)) by rw [hW2, hN]; exact heap_alloc_new _ _)
 clear ho1 hb1 HX0 HX1 HW HB0 d0 d1
 rw [← hW2, ← hN]
 have hz2 : w.heap.size + 2 ≤ N := by omega
 have HNN := hidX hN
 clear hW2 hN hz1
 go_loopw [5, 6] (fun i _ wr => ∃ (q : Nat) (lv : Value), q ≤ I.funs.length ∧ i = .int .i64 (q : Int) ∧ Hid (Below N W1 wr) ∧ Hid (wr.heap[N]? = some (.cells #[lv, .slice ada I.words.length ca] 37 (0, 0))) ∧ Hid (wr.ownsRow (N + 1) 51 4 lv q ((I.funs.take q).flatMap mfC))) (fun i _ _ => I.funs.length - (intOf i).toNat)
 case atStart => exact ⟨0, _, by omega, rfl, HS2.out, HN2.out, World.ownsRow_nil _ _ _ _⟩
 case round =>
  obtain ⟨q, lv, hq, rfl, HB, HN, HOW⟩ := hrel
  obtain ⟨la, lc, rfl⟩ := own_is HOW.out
  have hNl : N < wr.heap.size := heap_lt HN.out
  have hup : Below w.heap.size w wr := HBW.out.trans (HB.out.mono (by omega))
  have HUP := hidX hup
  have d0 : wr.cell? ⟨w.heap.size, 0, none⟩ = some (.slice adf I.funs.length cf) := cell_of_blk ((HB.out.block _ (by omega)).trans HI1.out) 0
  have d2 : wr.cell? ⟨N, 0, none⟩ = some (.slice la q lc) := cell_of_blk HN.out 0
  have d3 : wr.cell? ⟨N, 1, none⟩ = some (.slice ada I.words.length ca) := cell_of_blk HN.out 1
  by_cases hlt : q < I.funs.length
  ·have hlt' : (q : Int) < (I.funs.length : Int) := by omega
   obtain ⟨g, off, eb, hgb, k0, k1, k2, k3⟩ := HF.out.at hlt
   subst eb
   replace k0 := (hup.cell (p := ⟨g, _, none⟩) hgb).trans k0
   replace k1 := (hup.cell (p := ⟨g, _, none⟩) hgb).trans k1
   replace k2 := (hup.cell (p := ⟨g, _, none⟩) hgb).trans k2
   replace k3 := (hup.cell (p := ⟨g, _, none⟩) hgb).trans k3
   have HTK := hidX (show (I.funs.take (q + 1)).flatMap mfC = (I.funs.take q).flatMap mfC ++ mfC I.funs[q] from by rw [List.take_succ_eq_append_getElem hlt, List.flatMap_append]; simp)
   generalize I.funs[q] = f at k0 k1 k2 k3 HTK
   obtain ⟨nm, P, S, E⟩ := f
   simp only at k0 k1 k2 k3
   obtain ⟨W3, hW3⟩ : ∃ W3, (wr.alloc (.cells #[.string ⟨nm.toArray⟩, .int .i64 P, .int .i64 S, .int .i64 E] 33)).alloc (.cells #[.string ⟨nm.toArray⟩, .int .i64 P, .int .i64 S, .int .i64 E] 51) = W3 := ⟨_, rfl⟩
   have HB3 := hidX (show Below wr.heap.size wr W3 by rw [← hW3]; (repeat (first | exact Below.refl _ _ | assumption | refine Below.drew ?_ | refine bT ?_ _ | refine bS ?_ _ | refine bA ?_ _)))
   have HNC := hidX (show ∀ j u, (mfC ⟨nm, P, S, E⟩)[j]? = some u → W3.cell? ((⟨wr.heap.size + 1, 0, none⟩ : Addr).add j) = some u from by
    rw [← hW3, ← World.size_alloc wr (.cells #[.string ⟨nm.toArray⟩, .int .i64 P, .int .i64 S, .int .i64 E] 33)]
    exact World.news_of_block (heap_alloc_new _ _))
   clear hup
   go_wp2_with (at_builtin; refine wpList_append_own_at _ rfl _ _ 35 rfl (N + 1) 51 i0 _ 4 40 Tryd.underlying35 hi hy0 hy1 hy2 rfl (by decide) (.slice la q lc) q ((I.funs.take q).flatMap mfC) rfl (owns_below HOW.out HB3.out) ⟨wr.heap.size + 1, 0, none⟩ 1 1 (mfC ⟨nm, P, S, E⟩) rfl rfl HNC.out (mfC_one _) (by unfold maxLen; omega) (by omega) (by have := HB3.out.size; omega) ?_; intro v' w5 hown' hgrow _ hloc; obtain ⟨la2, lc2, rfl⟩ := own_is hown'; have hN5 := (hgrow.block N (by have := HB3.out.size; omega) (fun e => by have := (HOW.out.lt N e.symm).1; omega)).trans ((HB3.out.block N hNl).trans HN.out); have e0 := cell_of_blk hN5 0; have e1 := free_of_blk hN5 0; have HN5 := hidX hN5; have HO5 := hidX hown'; have HG5 := hidX hgrow; clear hN5 hown' hgrow hloc)
   have hb5 : Below N W1 w5 := ⟨HG5.out.os.trans (HB3.out.os.trans HB.out.os), HG5.out.tape.trans (HB3.out.tape.trans HB.out.tape), HG5.out.output.trans (HB3.out.output.trans HB.out.output), Nat.le_trans HB.out.size (Nat.le_trans HB3.out.size HG5.out.size), fun b hb => by
    rw [HG5.out.block b (by have := HB3.out.size; omega) (fun e => by have := (HOW.out.lt b e.symm).1; omega), HB3.out.block b (by omega), HB.out.block b hb]⟩
   have HBF := hidX (hb5.setCell (p := ⟨N, 0, none⟩) (Nat.le_refl _) (.slice la2 (q + 1) lc2))
   have HNF := hidX (blk_setCell HN5.out 0 (.slice la2 (q + 1) lc2))
   have HOF := hidX (show (w5.setCell ⟨N, 0, none⟩ (.slice la2 (q + 1) lc2)).ownsRow (N + 1) 51 4 (.slice la2 (q + 1) lc2) (q + 1) ((I.funs.take (q + 1)).flatMap mfC) from by
    rw [HTK.out]
    exact own_same HO5.out (fun b hb => Below.heap_setCell _ _ _ _ (by have := (HO5.out.lt b hb).1; show b ≠ N; omega)))
   clear hb5 HN5 HO5 HG5
   go_roundw
   case rel => exact ⟨q + 1, _, by omega, by go_num, HBF.out, HNF.out, HOF.out⟩
   case measure => simp [intOf]; omega
  ·have hqn : q = I.funs.length := by omega
   subst hqn
   have r0 := cell_of_blk ((HB.out.block _ (show w.heap.size + 1 < N by omega)).trans HR1.out) 0
   have r1 := cell_of_blk ((HB.out.block _ (show w.heap.size + 1 < N by omega)).trans HR1.out) 1
   have r2 := free_of_blk ((HB.out.block _ (show w.heap.size + 1 < N by omega)).trans HR1.out) 0
   have r3 := free_of_blk ((HB.out.block _ (show w.heap.size + 1 < N by omega)).trans HR1.out) 1
   have hNl : N ≤ wr.heap.size := by omega
   go_wp2
   have hx := (HB.out.block _ (show w.heap.size + 1 < N by omega)).trans HR1.out
   have FIN : ∀ (_ : Nat) (X : World), X = (wr.setCell ⟨w.heap.size + 1, 0, none⟩ (.slice la I.funs.length lc)).setCell ⟨w.heap.size + 1, 1, none⟩ (.slice ada I.words.length ca) → ∃ af c1 aw c2, Ending.returned (.agg #[.slice la I.funs.length lc, .slice ada I.words.length ca]) = .returned (.agg #[.slice af I.funs.length c1, .slice aw I.words.length c2]) ∧ Below w.heap.size w X ∧ X.ownsRow w.heap.size 51 4 (.slice af I.funs.length c1) I.funs.length (I.funs.flatMap mfC) ∧ X.ownsRow w.heap.size 52 1 (.slice aw I.words.length c2) I.words.length (wosV I.words) ∧ (∀ b, (Value.slice aw I.words.length c2).ownBlock = some b → (Value.slice af I.funs.length c1).ownBlock ≠ some b) := fun _ X hX => by
    subst hX
    have hoth : ∀ b, b ≠ w.heap.size + 1 → ((wr.setCell ⟨w.heap.size + 1, 0, none⟩ (.slice la I.funs.length lc)).setCell ⟨w.heap.size + 1, 1, none⟩ (.slice ada I.words.length ca)).heap[b]? = wr.heap[b]? := fun b hb => (Below.heap_setCell _ _ _ _ (show b ≠ w.heap.size + 1 from hb)).trans (Below.heap_setCell _ _ _ _ (show b ≠ w.heap.size + 1 from hb))
    refine ⟨la, lc, ada, ca, rfl, set2_low HUP.out (Nat.le_succ _) _ _, ?_, ?_, ?_⟩
    ·have h := HOW.out
     rw [List.take_length] at h
     exact own_same (own_base h (by omega)) (fun b hb => hoth b (by have := (h.lt b hb).1; omega))
    ·have hd : ∀ b, (Value.slice ada I.words.length ca).ownBlock = some b → w.heap.size + 2 ≤ b ∧ b < N := fun b hb => ⟨(HO2.out.lt b hb).1, by rw [HNN.out]; exact HL1.out b hb⟩
     exact own_same (own_base HO2.out (by omega)) (fun b hb => by
      obtain ⟨q1, q2⟩ := hd b hb
      rw [hoth b (by omega), HB.out.block b q2])
    ·intro b hb e
     have h1 := HL1.out b hb
     have h2 := (HOW.out.lt b e).1
     have := HNN.out
     omega
   refine bodyPost_ret (v := .agg #[.slice la I.funs.length lc, .slice ada I.words.length ca]) (results_cell_row (t := 37) rfl _ _ (w.heap.size + 1) _ (0, 0) _ rfl (set2_blk hx _ _) Tryd.underlying37 rfl (by kernel_rfl)) rfl ?_
   exact FIN 0 _ rfl
end Go.Proofs.YtbcpomdcmilpjaaDoor
