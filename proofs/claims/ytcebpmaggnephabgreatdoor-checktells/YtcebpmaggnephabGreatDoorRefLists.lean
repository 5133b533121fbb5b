/-
  Our own: texts joined: RefApp, RefVars, RefVarsOf, RefCalls, NewB, RefCallsOf, RefIn, RefCallsF, RefKnow.
-/
import Derived.Test.YtcebpmaggnephabGreatDoorCheckLists
import Derived.Laws.OwnMore
import Derived.Test.YtcebpmaggnephabGreatDoorSteps
import Derived.Test.YtcebpmaggnephabGreatDoorTreeAny
import Derived.Maps.AppendAt
import Derived.Test.YtcebpmaggnephabGreatDoorRefStart

/-
  Our own: append of texts onto a list of texts that a function owns.
-/
namespace Go.Proofs.YtcebpmaggnephabGreatDoor
open Go.RowKit Go.Maps

theorem textsC_append (a b : List (List UInt8)) : textsC (a ++ b) = textsC a ++ textsC b := by simp [textsC]
/-- What append(own, texts...) leaves. -/
theorem run_append_on (w : World) (ty : TypeId) (B : Nat) (v sv : Value) (acc l : List (List UInt8)) (hB : B ≤ w.heap.size) (hl : acc.length + l.length ≤ 5000) (ho : w.ownsRow B 9 1 v acc.length (textsC acc)) (h : XRow (InH w) w sv l.length (textsC l)) :
    ∃ v' w', (Builtin.append_ #[46, 46] ty #[v, sv]).run Tryz.prog w = .ok v' w' ∧ w'.ownsRow B 9 1 v' (acc ++ l).length (textsC (acc ++ l)) ∧ w.grownBy w' v.ownBlock := by
  obtain ⟨i0, hi, hz0, hz1, hz2⟩ := info_parts text_info
  obtain ⟨ad, cap, rfl⟩ := h.is
  rw [List.length_append, textsC_append]
  cases ad with
  | some a =>
    obtain ⟨v', w', hrun, hown, hg, _, _⟩ := run_append_own_at (P := Tryz.prog) w B 46 ty 9 i0 _ 1 16 Tryz.underlying46 hi hz0 hz1 hz2 rfl (by decide) v acc.length (textsC acc) ho a l.length cap (textsC l) (textsC_len l) (xrow_cells h) (textsC_one l) (by unfold maxLen; omega) (by omega) hB
    exact ⟨v', w', hrun, hown, hg⟩
  | none =>
    have h0 : l = [] := by
      rcases Nat.eq_zero_or_pos l.length with h' | h'
      · exact List.length_eq_zero_iff.1 h'
      · obtain ⟨g, off, e, _⟩ := h.get (by omega); cases e
    subst h0
    refine ⟨v, w, ?_, by simpa [textsC] using ho, ⟨rfl, rfl, rfl, Nat.le_refl _, fun _ _ _ => rfl⟩⟩
    rcases ho.2 with ⟨rfl, hn⟩ | ⟨g, cap', cur, rfl, _, _, hnc, _⟩
    · simp [Builtin.append_, run_underlying Tryz.underlying46, sizeOf, typeInfo, hi, Builtin.lenOf, Builtin.firstCells]
    · simp [Builtin.append_, run_underlying Tryz.underlying46, sizeOf, typeInfo, hi, Builtin.lenOf, Builtin.firstCells, hnc, storeCells]
/-- .. in the walk. -/
theorem wpList_append_on {ops : Array Oper} {rest : List Oper} {o : Oper} {a : Act} {w : World} {Q : Exit → Act → World → Prop} (hgd : o.guard = none) (s x : Operand)
    (ho : o.op = .call { callee := .builtin .append, args := #[s, x], argTypes := #[46, 46] }) (v : Value) (hs : a.eval s = v) (sv : Value) (hx : a.eval x = sv) (B : Nat) (acc l : List (List UInt8)) (hB : B ≤ w.heap.size) (hl : acc.length + l.length ≤ 5000) (hown : w.ownsRow B 9 1 v acc.length (textsC acc)) (h : XRow (InH w) w sv l.length (textsC l))
    (hk : ∀ v' w', w'.ownsRow B 9 1 v' (acc ++ l).length (textsC (acc ++ l)) → w.grownBy w' v.ownBlock → wpList Tryz.prog ops Q rest (a.put o.dst v') w') :
    wpList Tryz.prog ops Q (o :: rest) a w := by
  refine wpList_plain hgd fun K hK => ?_
  obtain ⟨v', w', hr, h1, h2⟩ := run_append_on w o.type B v sv acc l hB hl hown h
  unfold Oper.wp execOp
  simp only [ho, resolve, invoke, builtin, Sem.run_bind, Sem.run_pure, Result.andThen_ok, List.map_toArray, List.map_cons, List.map_nil, hs, hx, hr]
  exact hK _ _ (hk _ _ h1 h2)
/-- A list of one text in a new block. -/
theorem one_text (w : World) (m : List UInt8) : XRow (InH (w.alloc (.cells #[.string ⟨m.toArray⟩] 9))) (w.alloc (.cells #[.string ⟨m.toArray⟩] 9)) (.slice (some ⟨w.heap.size, 0, none⟩) 1 1) [m].length (textsC [m]) :=
  ⟨_, _, rfl, fun _ => ⟨_, _, rfl, heap_lt (heap_alloc_new w _), fun j u hj => by
    have hj' : j = 0 := by
      rcases Nat.eq_zero_or_pos j with h | h
      · exact h
      · rw [List.getElem?_eq_none (by simp [textsC]; omega)] at hj; cases hj
    subst hj'
    have : u = .string ⟨m.toArray⟩ := by simpa [textsC] using hj.symm
    subst this
    exact cell_of_blk (heap_alloc_new w (.cells #[.string ⟨m.toArray⟩] 9)) 0⟩⟩
mutual
theorem varsM_len : ∀ e : Sm, (varsM e).length ≤ nodesM e
  | .mk k m e t o => by
    have h2 := varsS_len t
    have h3 := varsS_len o
    rw [varsM, nodesM, List.length_append, List.length_append]
    split <;> simp <;> omega
theorem varsS_len : ∀ l : List Sm, (varsS l).length ≤ nodesS l
  | [] => by simp [varsS]
  | e :: r => by
    have h1 := varsM_len e
    have h2 := varsS_len r
    rw [varsS, nodesS, List.length_append]; omega
end
theorem nodesS_mem {l : List Sm} {s : Sm} (h : s ∈ l) : nodesM s ≤ nodesS l := by
  induction l with
  | nil => cases h
  | cons x r ih =>
    rw [nodesS]
    rcases List.mem_cons.1 h with rfl | h
    · omega
    · have := ih h; omega
end Go.Proofs.YtcebpmaggnephabGreatDoor

/-
  Our own: the variables of a function, as the document's own model lists them; the same texts.
-/
namespace Go.Proofs.YtcebpmaggnephabGreatDoor
open Go.RowKit Go.Maps

set_option maxRecDepth 100000 in
set_option maxHeartbeats 2000000 in
/-- SameTexts at two lists of the same texts. -/
theorem sameTextsX (l : List (List UInt8)) (hn : l.length ≤ 5000) (w : World) (ad ad' : Option Addr) (c c' : Nat) (h1 : XRow (InH w) w (.slice ad l.length c) l.length (textsC l)) (h2 : XRow (InH w) w (.slice ad' l.length c') l.length (textsC l)) :
    Calls Tryz.prog 17 #[.slice ad l.length c, .slice ad' l.length c'] w fun e w' => e = .returned (.bool true) ∧ Below w.heap.size w w' := by
  have R1 := hidX h1
  have R2 := hidX h2
  have hn' : (l.length : Int) ≤ 5000 := by omega
  clear h1 h2
  go_enter Tryz.func17, Tryz.ntmps17
  go_wp2_with fail
  go_loopw [5] (fun i wr => ∃ q : Nat, q ≤ l.length ∧ i = .int .i64 q ∧ Below w.heap.size w wr) (fun i _ => l.length - (intOf i).toNat)
  case atStart => exact ⟨0, by omega, rfl, Below.refl _ _⟩
  case round =>
    obtain ⟨q, hq, rfl, hbl⟩ := hrel
    by_cases hlt : q < l.length
    · have hlt' : (q : Int) < (l.length : Int) := by omega
      obtain ⟨g, off, rfl, hg, ht0⟩ := R1.out.text hlt
      obtain ⟨g', off', rfl, hg', ht0'⟩ := R2.out.text hlt
      have ht := (hbl.cell (p := ⟨g, _, none⟩) hg).trans ht0
      have ht' := (hbl.cell (p := ⟨g', _, none⟩) hg').trans ht0'
      generalize l[q] = x at ht ht' ht0 ht0'
      clear ht0 ht0'
      go_wp2_with fail
      go_quiet (fail)
      go_wp2
      go_roundw
      case rel => exact ⟨q + 1, by omega, by go_num, by (repeat (first | exact Below.refl _ _ | assumption | refine Below.drew ?_ | refine Below.trans ?_ (drewN_below' _ _ _) | refine Below.setCell ?_ (by first | (simp; done) | (simp; omega)) _ | refine Below.alloc ?_ (by first | (simp; done) | (simp; omega)) _))⟩
      case measure => simp [intOf]; omega
    · have hqn : q = l.length := by omega
      subst hqn
      go_wp2
      go_ret
      exact ⟨rfl, hbl⟩
/-- What varsIn of statements comes to. -/
def VIn (l : List Sm) : Prop := ∀ (w : World) (v : Value), XLS (InH w) w v l → l.length ≤ 30 → LowSs l → nodesS l ≤ 1000 → Calls Tryz.prog 44 #[v] w (TextsTo w (varsS l))
set_option maxRecDepth 100000 in
set_option maxHeartbeats 2000000 in
theorem varsIn_step (l : List Sm) (ih : ∀ k m e t o, Sm.mk k m e t o ∈ l → VIn t ∧ VIn o) : VIn l := by
  intro w v hX hl hL hN
  obtain ⟨xs, hr, hk⟩ := hX
  obtain ⟨ad, cap, rfl⟩ := hr.is
  have hl' : (l.length : Int) ≤ 30 := by omega
  have R := hidX hr
  have KK := hidX hk
  have LL := hidX hL
  have IH := hidX ih
  clear hr hk hL ih
  go_enter Tryz.func44, Tryz.ntmps44
  go_wp2_with fail
  go_loopw [3, 4] (fun vo vi wr => ∃ q : Nat, q ≤ l.length ∧ vi = .int .i64 q ∧ Below w.heap.size w wr ∧ wr.ownsRow w.heap.size 9 1 vo (varsS (l.take q)).length (textsC (varsS (l.take q)))) (fun _ vi _ => l.length - (intOf vi).toNat)
  case atStart => exact ⟨0, Nat.zero_le _, rfl, Below.refl _ _, World.ownsRow_nil _ _ _ _⟩
  case round =>
    obtain ⟨q, hq, rfl, hbl, hown⟩ := hrel
    obtain ⟨advs, capvs, rfl⟩ := own_sl hown
    have HOW := hidX hown
    have hzr0 := hbl.size
    clear hown
    by_cases hlt : q < l.length
    · have hlt' : (q : Int) < (l.length : Int) := by omega
      obtain ⟨ka, e1, e2⟩ := KK.out.at hlt
      have hmem := List.getElem_mem hlt
      have hlx := LL.out.mem _ hmem
      have hnm := nodesS_mem hmem
      have htk : l.take (q + 1) = l.take q ++ [l[q]] := List.take_succ_eq_append_getElem hlt
      have hacc := varsS_len (l.take q)
      have hnt := nodesS_take l q
      generalize l[q] = x at e1 hlx htk hmem hnm
      obtain ⟨k, m, e, t, o⟩ := x
      obtain ⟨ih1, ih2⟩ := IH.out k m e t o hmem
      obtain ⟨l1, l2, l3, l4, l5, l6, l7⟩ := hlx
      rw [nodesM] at hnm
      obtain ⟨es, tv, ts, ov, os, rfl, r1, r2, r3, r4, r5⟩ := e1
      have hel := r1.len
      obtain ⟨g, off, rfl, hg, k1⟩ := x8_at R.out hlt hel e2
      obtain ⟨adt0, ct0, rfl⟩ := r2.is
      obtain ⟨ado0, co0, rfl⟩ := r4.is
      have HTX : Hid (XLS (InH w) w (.slice adt0 t.length ct0) t) := ⟨ts, r2, r3⟩
      have HOX : Hid (XLS (InH w) w (.slice ado0 o.length co0) o) := ⟨os, r4, r5⟩
      have ht' : ∀ X, XLS (InH X) X (.slice adt0 t.length ct0) t → Calls Tryz.prog 44 #[.slice adt0 t.length ct0] X (TextsTo X (varsS t)) := fun X hX => ih1 X _ hX l4 l5 (by omega)
      have ho' : ∀ X, XLS (InH X) X (.slice ado0 o.length co0) o → Calls Tryz.prog 44 #[.slice ado0 o.length co0] X (TextsTo X (varsS o)) := fun X hX => ih2 X _ hX l6 l7 (by omega)
      have HT := hidX ht'
      have HO := hidX ho'
      have hvt := varsS_len t
      have hvo := varsS_len o
      have htk2 : varsS (l.take (q + 1)) = varsS (l.take q) ++ ((if k = kVar then [m] else []) ++ (varsS t ++ varsS o)) := by rw [htk, varsS_snoc, varsM]
      have HTK := hidX htk2
      generalize varsS (l.take q) = acc at HOW hacc HTK
      have y1 := k1.keep (hbl.block g hg)
      have a0 := y1.c0
      have a1 := y1.c1
      have a6 := y1.c6
      have a7 := y1.c7
      have hacc' : acc.length ≤ 1000 := by omega
      clear r1 r2 r3 r4 r5 e2 ht' ho' htk htk2 y1 hmem ih1 ih2 l3 l5 l7
      by_cases hkv : k = kVar
      · subst hkv
        have hbb := box_blk wr #[.string ⟨m.toArray⟩] 9
        have HBB := hidX hbb
        have HONE := hidX (one_text wr m)
        have how2 := owns_below HOW.out hbb
        have HO1 := hidX how2
        have hg1 : Below w.heap.size w (wr.alloc (.cells #[.string ⟨m.toArray⟩] 9)) := bl_trans hbl hzr0 hbb
        clear hbb how2
        go_wp2_with (first | (at_builtin; refine wpList_append_on rfl _ _ rfl _ rfl _ rfl w.heap.size acc [m] hg1.size (by first | omega | (simp; omega)) HO1.out HONE.out ?_; intro v2 W2 hown2 hg2; have hb2 : Below w.heap.size w W2 := grown_below hg1 (Nat.le_refl _) HO1.out hg2; have z2 := k1.keep (hb2.block g hg); have c6' := z2.c6; have hct := HT.out W2 (XLS.imp HTX.out (inH_up hb2) (keepH hb2)); have HCT := hidX hct; have HW2 := hidX hown2; clear z2 hct hown2) | fail)
        refine HCT.out.mono ?_
        rintro ev W3 ⟨hb3, adt, ct, rfl, hot⟩
        have hbw3 : Below w.heap.size w W3 := hb2.trans (hb3.mono hb2.size)
        have hz3 := hb3.size
        have x3 := k1.keep (hbw3.block g hg)
        have a7' := x3.c7
        have hco := HO.out W3 (XLS.imp HOX.out (inH_up hbw3) (keepH hbw3))
        have HCO := hidX hco
        have HOT := hidX hot
        clear hco hot x3
        go_wp2_with fail
        refine HCO.out.mono ?_
        rintro ev W4 ⟨hb4, ado, co, rfl, hoo⟩
        have hz4 := hb4.size
        have hbw4 : Below w.heap.size w W4 := hbw3.trans (hb4.mono hbw3.size)
        have own4 := owns_below (owns_below HW2.out hb3) hb4
        have xt4 := (xrow_own (owns_below HOT.out hb4)).imp (B := InH W4) (fun _ hb => hb.2) (fun _ _ => rfl)
        have HOW4 := hidX own4
        have HXT4 := hidX xt4
        have HOO := hidX hoo
        have hlt2 := (fun b hb => (HW2.out.lt b hb).2 : ∀ b, _ = some b → b < W2.heap.size)
        have HL2 := hidX hlt2
        clear own4 xt4 hoo a7' hlt2
        go_wp2_with (first | (at_builtin; refine wpList_append_on rfl _ _ rfl _ rfl _ rfl w.heap.size (acc ++ [m]) (varsS t) hbw4.size (by first | omega | (simp; omega)) HOW4.out HXT4.out ?_; intro v5 W5 hown5 hg5; have hb5 : Below w.heap.size w W5 := grown_below hbw4 (Nat.le_refl _) HOW4.out hg5; have xo5 : XRow (InH W5) W5 (.slice ado (varsS o).length co) (varsS o).length (textsC (varsS o)) := (xrow_own HOO.out).imp (fun b hb => (Nat.lt_of_lt_of_le hb.2 hg5.size)) (fun b hb => hg5.block b hb.2 (fun e => (by have h1 := HL2.out b e.symm; have h2 := hb.1; omega))); have HOW5 := hidX hown5; have HXO5 := hidX xo5; clear hown5 xo5) | (at_builtin; refine wpList_append_on rfl _ _ rfl _ rfl _ rfl w.heap.size ((acc ++ [m]) ++ varsS t) (varsS o) hb5.size (by first | omega | (simp; omega)) HOW5.out HXO5.out ?_; intro v6 W6 hown6 hg6; have hb6 : Below w.heap.size w W6 := grown_below hb5 (Nat.le_refl _) HOW5.out hg6; have HOW6 := hidX hown6; clear hown6) | fail)
        have ho7 := HOW6.out
        rw [show acc ++ [m] ++ varsS t ++ varsS o = varsS (l.take (q + 1)) by rw [HTK.out]; simp] at ho7
        have HO7 := hidX ho7
        clear ho7 HOW6
        go_roundw
        case rel => exact ⟨q + 1, by omega, by go_num, hb6, HO7.out⟩
        case measure => simp [intOf]; omega
      · have hkv' : (k == [118, 97, 114]) = false := txt_ne hkv
        have hb2 := hbl
        have HW2 := HOW
        have hct := HT.out wr (XLS.imp HTX.out (inH_up hb2) (keepH hb2))
        have HCT := hidX hct
        clear hct
        go_wp2_with fail
        refine HCT.out.mono ?_
        rintro ev W3 ⟨hb3, adt, ct, rfl, hot⟩
        have hbw3 : Below w.heap.size w W3 := hb2.trans (hb3.mono hb2.size)
        have hz3 := hb3.size
        have x3 := k1.keep (hbw3.block g hg)
        have a7' := x3.c7
        have hco := HO.out W3 (XLS.imp HOX.out (inH_up hbw3) (keepH hbw3))
        have HCO := hidX hco
        have HOT := hidX hot
        clear hco hot x3
        go_wp2_with fail
        refine HCO.out.mono ?_
        rintro ev W4 ⟨hb4, ado, co, rfl, hoo⟩
        have hz4 := hb4.size
        have hbw4 : Below w.heap.size w W4 := hbw3.trans (hb4.mono hbw3.size)
        have own4 := owns_below (owns_below HW2.out hb3) hb4
        have xt4 := (xrow_own (owns_below HOT.out hb4)).imp (B := InH W4) (fun _ hb => hb.2) (fun _ _ => rfl)
        have HOW4 := hidX own4
        have HXT4 := hidX xt4
        have HOO := hidX hoo
        have hlt2 := (fun b hb => (HW2.out.lt b hb).2 : ∀ b, _ = some b → b < wr.heap.size)
        have HL2 := hidX hlt2
        clear own4 xt4 hoo a7' hlt2
        go_wp2_with (first | (at_builtin; refine wpList_append_on rfl _ _ rfl _ rfl _ rfl w.heap.size acc (varsS t) hbw4.size (by first | omega | (simp; omega)) HOW4.out HXT4.out ?_; intro v5 W5 hown5 hg5; have hb5 : Below w.heap.size w W5 := grown_below hbw4 (Nat.le_refl _) HOW4.out hg5; have xo5 : XRow (InH W5) W5 (.slice ado (varsS o).length co) (varsS o).length (textsC (varsS o)) := (xrow_own HOO.out).imp (fun b hb => (Nat.lt_of_lt_of_le hb.2 hg5.size)) (fun b hb => hg5.block b hb.2 (fun e => (by have h1 := HL2.out b e.symm; have h2 := hb.1; omega))); have HOW5 := hidX hown5; have HXO5 := hidX xo5; clear hown5 xo5) | (at_builtin; refine wpList_append_on rfl _ _ rfl _ rfl _ rfl w.heap.size (acc ++ varsS t) (varsS o) hb5.size (by first | omega | (simp; omega)) HOW5.out HXO5.out ?_; intro v6 W6 hown6 hg6; have hb6 : Below w.heap.size w W6 := grown_below hb5 (Nat.le_refl _) HOW5.out hg6; have HOW6 := hidX hown6; clear hown6) | fail)
        have ho7 := HOW6.out
        rw [show acc ++ varsS t ++ varsS o = varsS (l.take (q + 1)) by rw [HTK.out]; simp [hkv]] at ho7
        have HO7 := hidX ho7
        clear ho7 HOW6
        go_roundw
        case rel => exact ⟨q + 1, by omega, by go_num, hb6, HO7.out⟩
        case measure => simp [intOf]; omega
    · have hqn : q = l.length := by omega
      subst hqn
      have ho := HOW.out
      rw [List.take_length] at ho
      have HO := hidX ho
      clear ho HOW
      rw [List.take_length]
      go_wp2
      go_ret
      exact ⟨hbl, advs, capvs, rfl, HO.out⟩
theorem varsIn_n : ∀ (n : Nat) (l : List Sm), nodesS l ≤ n → VIn l
  | 0, l, h => varsIn_step l fun k m e t o hm => by
    have := nodesS_mem hm
    rw [nodesM] at this
    omega
  | n + 1, l, h => varsIn_step l fun k m e t o hm => by
    have := nodesS_mem hm
    rw [nodesM] at this
    exact ⟨varsIn_n n t (by omega), varsIn_n n o (by omega)⟩
theorem varsIn_any (l : List Sm) : VIn l := varsIn_n _ l (Nat.le_refl _)
end Go.Proofs.YtcebpmaggnephabGreatDoor

/-
  Our own: VarsOf of the document's own model.
-/
namespace Go.Proofs.YtcebpmaggnephabGreatDoor
open Go.RowKit Go.Maps

set_option maxRecDepth 100000 in
set_option maxHeartbeats 2000000 in
theorem rVarsOf_any (x : Fu) (w : World) (cs : List Value) (hX : XF (InH w) w x cs) (hL : LowF x) (hN : nodesS x.body ≤ 1000) :
    Calls Tryz.prog 19 #[.agg cs.toArray] w (TextsTo w (varsF x)) := by
  obtain ⟨xn, xp, xb⟩ := x
  obtain ⟨pv, bv, bs, rfl, r2, r3, r4⟩ := hX
  obtain ⟨l1, l2, l3, l4, l5⟩ := hL
  simp only at r2 r3 r4 l1 l2 l3 l4 l5 hN
  obtain ⟨adp, cp, rfl⟩ := r2.is
  obtain ⟨adb, cb, rfl⟩ := r3.is
  have hbb : Below w.heap.size w (w.alloc (.cells #[.string ⟨xn.toArray⟩, .slice adp xp.length cp, .slice adb xb.length cb] 54)) := box_blk _ _ _
  have hP := r2.imp (inH_up hbb) (keepH hbb)
  have hV : ∀ X, Below w.heap.size w X → Calls Tryz.prog 44 #[.slice adb xb.length cb] X (TextsTo X (varsS xb)) := fun X hX => varsIn_any xb X _ (XLS.imp ⟨bs, r3, r4⟩ (inH_up hX) (keepH hX)) l4 l5 hN
  have hvl := varsS_len xb
  have HP := hidX hP
  have HV := hidX hV
  have HBB := hidX hbb
  clear hP hV hbb r2 r3 r4 l3 l5
  go_enter Tryz.func19, Tryz.ntmps19
  go_wp2_with (first | (at_builtin; refine wpList_append_texts rfl _ _ rfl rfl (.slice adp xp.length cp) rfl xp (by omega) HP.out ?_; intro ad2 c2 w2 ho2 hb2; have s2 := hb2.size; have e0 : w2.heap[w.heap.size]? = some (.cells #[.string ⟨xn.toArray⟩, .slice adp xp.length cp, .slice adb xb.length cb] 54 (0, 0)) := (hb2.block _ (by simp)).trans (heap_alloc_new w _); have e1 : w2.cell? ⟨w.heap.size, 2, none⟩ = some (.slice adb xb.length cb) := cell_of_blk e0 2; have hbw2 : Below w.heap.size w w2 := bl_trans HBB.out HBB.out.size hb2; have hvc := HV.out w2 hbw2; have HVC := hidX hvc; have HO2 := hidX (own_base ho2 HBB.out.size); clear hvc ho2 e0) | fail)
  refine HVC.out.mono ?_
  rintro ev W3 ⟨hb3, ad3, c3, rfl, ho3⟩
  have hbw3 : Below w.heap.size w W3 := hbw2.trans (hb3.mono hbw2.size)
  have own3 := owns_below HO2.out hb3
  have x3 := (xrow_own ho3).imp (B := InH W3) (fun _ hb => hb.2) (fun _ _ => rfl)
  have HO3 := hidX own3
  have HX3 := hidX x3
  clear own3 x3 ho3 e1
  go_wp2_with (first | (at_builtin; refine wpList_append_on rfl _ _ rfl _ rfl _ rfl w.heap.size xp (varsS xb) hbw3.size (by omega) HO3.out HX3.out ?_; intro v4 W4 hown4 hg4; have hb4 : Below w.heap.size w W4 := grown_below hbw3 (Nat.le_refl _) HO3.out hg4; have HO4 := hidX hown4; clear hown4) | fail)
  obtain ⟨ad4, c4, rfl⟩ := own_sl HO4.out
  go_ret
  exact ⟨hb4, ad4, c4, rfl, HO4.out⟩
end Go.Proofs.YtcebpmaggnephabGreatDoor

/-
  Our own: whom an expression calls, as the document's own model lists it.
-/
namespace Go.Proofs.YtcebpmaggnephabGreatDoor
open Go.RowKit Go.Maps

/-- What callsIn of an expression comes to. -/
def CIn (e : Ex) : Prop := ∀ (w : World) (cs : List Value), XE (InH w) w e cs → LowE e → nodesE e ≤ 1000 → Calls Tryz.prog 73 #[.agg cs.toArray] w (TextsTo w (callsE e))
mutual
theorem callsE_lenR : ∀ e : Ex, (callsE e).length ≤ nodesE e
  | .mk k n m ks => by
    have := callsEs_lenR ks
    rw [callsE, nodesE, List.length_append]
    split <;> simp <;> omega
theorem callsEs_lenR : ∀ l : List Ex, (callsEs l).length ≤ nodesEs l
  | [] => by simp [callsEs]
  | e :: r => by
    have h1 := callsE_lenR e
    have h2 := callsEs_lenR r
    rw [callsEs, nodesEs, List.length_append]; omega
end
theorem nodesEs_mem {l : List Ex} {s : Ex} (h : s ∈ l) : nodesE s ≤ nodesEs l := by
  induction l with
  | nil => cases h
  | cons x r ih =>
    rw [nodesEs]
    rcases List.mem_cons.1 h with rfl | h
    · omega
    · have := ih h; omega
theorem nodesEs_takeR (l : List Ex) (q : Nat) : nodesEs (l.take q) ≤ nodesEs l := by
  have := nodesEs_app (l.take q) (l.drop q)
  rw [List.take_append_drop] at this
  omega
set_option maxRecDepth 100000 in
set_option maxHeartbeats 2000000 in
theorem callsIn_step (k : List UInt8) (n : Int) (mm : List UInt8) (ks : List Ex) (ih : ∀ e ∈ ks, CIn e) : CIn (.mk k n mm ks) := by
  intro w cs hX hL hN
  obtain ⟨v, xs, rfl, hr, hk⟩ := hX
  obtain ⟨ad, cap, rfl⟩ := hr.is
  obtain ⟨l1, l2, l3⟩ := hL
  rw [nodesE] at hN
  have l2' : (ks.length : Int) ≤ 8 := by omega
  have IH := hidX ih
  have R := hidX hr
  have KK := hidX hk
  have LL := hidX l3
  clear ih hr hk l3
  have hbb := box_blk w #[.string ⟨k.toArray⟩, .int .i64 n, .string ⟨mm.toArray⟩, .slice ad ks.length cap] 112
  have h0 : (w.alloc (.cells #[.string ⟨k.toArray⟩, .int .i64 n, .string ⟨mm.toArray⟩, .slice ad ks.length cap] 112)).heap[w.heap.size]? = _ := heap_alloc_new w _
  have hs0 : w.heap.size + 1 ≤ (w.alloc (.cells #[.string ⟨k.toArray⟩, .int .i64 n, .string ⟨mm.toArray⟩, .slice ad ks.length cap] 112)).heap.size := by simp
  have HBB := hidX hbb
  have H0 := hidX h0
  have HS0 := hidX hs0
  have hcE : callsE (.mk k n mm ks) = callsEs ks ++ (if k = kCall then [mm] else []) := by rw [callsE]
  generalize callsE (.mk k n mm ks) = res at hcE
  have HRES := hidX hcE
  clear hbb h0 hs0 hcE
  go_enter Tryz.func73, Tryz.ntmps73
  go_wp2_with fail
  go_loopw [3, 4] (fun (vo vi : Value) (wr : World) => ∃ q : Nat, q ≤ ks.length ∧ vi = .int .i64 q ∧ Below w.heap.size w wr ∧ w.heap.size + 1 ≤ wr.heap.size ∧ wr.heap[w.heap.size]? = some (.cells #[.string ⟨k.toArray⟩, .int .i64 n, .string ⟨mm.toArray⟩, .slice ad ks.length cap] 112 (0, 0)) ∧ wr.ownsRow (w.heap.size + 1) 9 1 vo (callsEs (ks.take q)).length (textsC (callsEs (ks.take q)))) (fun _ vi _ => ks.length - (intOf vi).toNat)
  case atStart => exact ⟨0, Nat.zero_le _, rfl, HBB.out, HS0.out, H0.out, World.ownsRow_nil _ _ _ _⟩
  case round =>
    obtain ⟨q, hq, rfl, hbl, hz, hk0, hown⟩ := hrel
    obtain ⟨advs, capvs, rfl⟩ := own_sl hown
    have d0 : wr.cell? ⟨w.heap.size, 0, none⟩ = some (.string ⟨k.toArray⟩) := cell_of_blk hk0 0
    have d2 : wr.cell? ⟨w.heap.size, 2, none⟩ = some (.string ⟨mm.toArray⟩) := cell_of_blk hk0 2
    have d3 : wr.cell? ⟨w.heap.size, 3, none⟩ = some (.slice ad ks.length cap) := cell_of_blk hk0 3
    have HOW := hidX hown
    have HK0 := hidX hk0
    have hacc := callsEs_lenR (ks.take q)
    have hnt := nodesEs_takeR ks q
    clear hown hk0
    by_cases hlt : q < ks.length
    · have hlt' : (q : Int) < (ks.length : Int) := by omega
      obtain ⟨ka, e1, e2⟩ := KK.out.at hlt
      obtain ⟨ga, off, rfl, hga, g1⟩ := R.out.el 4 hlt e2
      have hx := IH.out _ (List.getElem_mem hlt)
      have hlx := LL.out.mem _ (List.getElem_mem hlt)
      have hnx := nodesEs_mem (List.getElem_mem hlt)
      have htk : callsEs (ks.take (q + 1)) = callsEs (ks.take q) ++ callsE ks[q] := by rw [List.take_succ_eq_append_getElem hlt, callsEs_snoc]
      have hlx2 := callsE_lenR ks[q]
      generalize callsEs (ks.take q) = acc at HOW hacc htk
      generalize ks[q] = x at e1 hx hlx htk hnx hlx2
      have hcall := hx wr ka (XE.imp (inH_up hbl) (keepH hbl) _ _ e1) hlx (by omega)
      obtain ⟨xk, xn, xm, xks⟩ := x
      obtain ⟨ya, za, rfl, ra, _⟩ := e1
      obtain ⟨ad1, cap1, rfl⟩ := ra.is
      generalize callsE (.mk xk xn xm xks) = nw at hcall htk hlx2
      have a0 := (hbl.cell (p := ⟨ga, _, none⟩) hga).trans (g1 0 _ (by decide) rfl)
      have a1 := (hbl.cell (p := ⟨ga, _, none⟩) hga).trans (g1 1 _ (by decide) rfl)
      have a2 := (hbl.cell (p := ⟨ga, _, none⟩) hga).trans (g1 2 _ (by decide) rfl)
      have a3 := (hbl.cell (p := ⟨ga, _, none⟩) hga).trans (g1 3 _ (by decide) rfl)
      rw [Nat.add_zero] at a0
      simp only [← Nat.add_assoc] at a1 a2 a3
      have HCL := hidX hcall
      have HTK := hidX htk
      clear g1 e2 ra hcall hx hlx htk
      go_wp2_with fail
      refine HCL.out.mono ?_
      rintro ev W3 ⟨hb3, adt, ct, rfl, hot⟩
      have hbw3 : Below w.heap.size w W3 := hbl.trans (hb3.mono hbl.size)
      have own3 := owns_below HOW.out hb3
      have x3 := (xrow_own hot).imp (B := InH W3) (fun _ hb => hb.2) (fun _ _ => rfl)
      have k3 := (hb3.block _ (by omega)).trans HK0.out
      have hz3 := hb3.size
      have hz3' : w.heap.size + 1 ≤ W3.heap.size := by omega
      have HO3 := hidX own3
      have HX3 := hidX x3
      have HK3 := hidX k3
      clear own3 x3 hot k3 a0 a1 a2 a3 d0 d2 d3
      go_wp2_with (first | (at_builtin; refine wpList_append_on rfl _ _ rfl _ rfl _ rfl (w.heap.size + 1) acc nw hz3' (by omega) HO3.out HX3.out ?_; intro v4 W4 hown4 hg4; have hb4 : Below w.heap.size w W4 := grown_below hbw3 (Nat.le_refl _) (own_base HO3.out (Nat.le_succ _)) hg4; have k4 := grown_blk hg4 HK3.out (fun e => (by have := (HO3.out.lt _ e.symm).1; omega)); have z4 := hg4.size; have HO4 := hidX hown4; have HK4 := hidX k4; clear hown4 k4) | fail)
      have ho4 := HO4.out
      rw [← HTK.out] at ho4
      have HO5 := hidX ho4
      clear ho4 HO4
      go_roundw
      case rel => exact ⟨q + 1, by omega, by go_num, hb4, by omega, HK4.out, HO5.out⟩
      case measure => simp [intOf]; omega
    · have hqn : q = ks.length := by omega
      subst hqn
      rw [List.take_length] at HOW hacc ⊢
      generalize callsEs ks = acc at HOW hacc HRES
      by_cases hkv : k = kCall
      · subst hkv
        have hb1 := box_blk wr #[.string ⟨mm.toArray⟩] 9
        have HONE := hidX (one_text wr mm)
        have how2 := owns_below HOW.out hb1
        have HO1 := hidX how2
        have hg1 : Below w.heap.size w (wr.alloc (.cells #[.string ⟨mm.toArray⟩] 9)) := bl_trans hbl hbl.size hb1
        have hz1 : w.heap.size + 1 ≤ (wr.alloc (.cells #[.string ⟨mm.toArray⟩] 9)).heap.size := by simp; omega
        have hres : res = acc ++ [mm] := by rw [HRES.out, if_pos rfl]
        subst hres
        clear how2 hb1 HRES
        go_wp2_with (first | (at_builtin; refine wpList_append_on rfl _ _ rfl _ rfl _ rfl (w.heap.size + 1) acc [mm] hz1 (by simp; omega) HO1.out HONE.out ?_; intro v2 W2 hown2 hg2; have hb2 : Below w.heap.size w W2 := grown_below hg1 (Nat.le_refl _) (own_base HO1.out (Nat.le_succ _)) hg2; have HW2 := hidX hown2; clear hown2) | fail)
        obtain ⟨ad4, c4, rfl⟩ := own_sl HW2.out
        go_ret
        exact ⟨hb2, ad4, c4, rfl, own_base HW2.out (Nat.le_succ _)⟩
      · have hkv' : (k == [99, 97, 108, 108]) = false := txt_ne hkv
        have hres : res = acc := by rw [HRES.out, if_neg hkv, List.append_nil]
        subst hres
        clear HRES
        go_wp2
        go_ret
        exact ⟨hbl, advs, capvs, rfl, own_base HOW.out (Nat.le_succ _)⟩
mutual
theorem callsIn_any : ∀ e : Ex, CIn e
  | .mk k n m ks => callsIn_step k n m ks (callsIn_all ks)
theorem callsIn_all : ∀ l : List Ex, ∀ e ∈ l, CIn e
  | [] => fun _ h => absurd h (by simp)
  | x :: r => fun e h => (List.mem_cons.1 h).elim (fun e' => e' ▸ callsIn_any x) (callsIn_all r e)
end
end Go.Proofs.YtcebpmaggnephabGreatDoor

/-
  Our own: a row that a function owns: its block stays, or is new.
-/
namespace Go.Proofs.YtcebpmaggnephabGreatDoor
open Go.RowKit

/-- A row's block: as it was, or new. -/
def RowB (w : World) (o o' : Option Nat) : Prop := o' = o ∨ ∃ b, o' = some b ∧ w.heap.size ≤ b
theorem RowB.refl (w : World) (o : Option Nat) : RowB w o o := Or.inl rfl
theorem RowB.trans {a b : World} {o o' o'' : Option Nat} (h : RowB a o o') (k : RowB b o' o'') (hz : a.heap.size ≤ b.heap.size) : RowB a o o'' := by
  rcases k with rfl | ⟨g, rfl, hg⟩
  · exact h
  · exact Or.inr ⟨g, rfl, by omega⟩
theorem RowB.ne {w : World} {o o' : Option Nat} (h : RowB w o o') {b : Nat} (hb : b < w.heap.size) (ho : o ≠ some b) : o' ≠ some b := by
  rcases h with rfl | ⟨g, rfl, hg⟩
  · exact ho
  · intro e; injection e with e; omega
theorem RowB.mono {a b : World} {o o' : Option Nat} (h : RowB b o o') (hz : a.heap.size ≤ b.heap.size) : RowB a o o' := by
  rcases h with h | ⟨g, h, hg⟩
  · exact Or.inl h
  · exact Or.inr ⟨g, h, by omega⟩
/-- What is owned stays, where its block does. -/
theorem own_same {B n size : Nat} {t : TypeId} {w w' : World} {v : Value} {xs : List Value} (h : w.ownsRow B t size v n xs) (hb : ∀ b, v.ownBlock = some b → w'.heap[b]? = w.heap[b]?) : w'.ownsRow B t size v n xs := by
  rcases h with ⟨h1, h2 | ⟨g, cap, cur, h3, h4, h5, h6⟩⟩
  · exact ⟨h1, Or.inl h2⟩
  · exact ⟨h1, Or.inr ⟨g, cap, cur, h3, h4, (hb g (by rw [h3]; rfl)).trans h5, h6⟩⟩
end Go.Proofs.YtcebpmaggnephabGreatDoor

/-
  Our own: whom statements call, as the document's own model lists it.
-/
namespace Go.Proofs.YtcebpmaggnephabGreatDoor
open Go.RowKit Go.Maps

/-- What append(own, texts...) leaves; and which block is own then. -/
theorem run_append_onB (w : World) (ty : TypeId) (B : Nat) (v sv : Value) (acc l : List (List UInt8)) (hB : B ≤ w.heap.size) (hl : acc.length + l.length ≤ 5000) (ho : w.ownsRow B 9 1 v acc.length (textsC acc)) (h : XRow (InH w) w sv l.length (textsC l)) :
    ∃ v' w', (Builtin.append_ #[46, 46] ty #[v, sv]).run Tryz.prog w = .ok v' w' ∧ w'.ownsRow B 9 1 v' (acc ++ l).length (textsC (acc ++ l)) ∧ w.grownBy w' v.ownBlock ∧ (v'.ownBlock = v.ownBlock ∨ v'.ownBlock = some w.heap.size) := by
  obtain ⟨i0, hi, hz0, hz1, hz2⟩ := info_parts text_info
  obtain ⟨ad, cap, rfl⟩ := h.is
  rw [List.length_append, textsC_append]
  cases ad with
  | some a =>
    obtain ⟨v', w', hrun, hown, hg, _, hob⟩ := run_append_own_at (P := Tryz.prog) w B 46 ty 9 i0 _ 1 16 Tryz.underlying46 hi hz0 hz1 hz2 rfl (by decide) v acc.length (textsC acc) ho a l.length cap (textsC l) (textsC_len l) (xrow_cells h) (textsC_one l) (by unfold maxLen; omega) (by omega) hB
    exact ⟨v', w', hrun, hown, hg, hob⟩
  | none =>
    have h0 : l = [] := by
      rcases Nat.eq_zero_or_pos l.length with h' | h'
      · exact List.length_eq_zero_iff.1 h'
      · obtain ⟨g, off, e, _⟩ := h.get (by omega); cases e
    subst h0
    refine ⟨v, w, ?_, by simpa [textsC] using ho, ⟨rfl, rfl, rfl, Nat.le_refl _, fun _ _ _ => rfl⟩, Or.inl rfl⟩
    rcases ho.2 with ⟨rfl, hn⟩ | ⟨g, cap', cur, rfl, _, _, hnc, _⟩
    · simp [Builtin.append_, run_underlying Tryz.underlying46, sizeOf, typeInfo, hi, Builtin.lenOf, Builtin.firstCells]
    · simp [Builtin.append_, run_underlying Tryz.underlying46, sizeOf, typeInfo, hi, Builtin.lenOf, Builtin.firstCells, hnc, storeCells]
/-- .. in the walk. -/
theorem wpList_append_onB {ops : Array Oper} {rest : List Oper} {o : Oper} {a : Act} {w : World} {Q : Exit → Act → World → Prop} (hgd : o.guard = none) (s x : Operand)
    (ho : o.op = .call { callee := .builtin .append, args := #[s, x], argTypes := #[46, 46] }) (v : Value) (hs : a.eval s = v) (sv : Value) (hx : a.eval x = sv) (B : Nat) (acc l : List (List UInt8)) (hB : B ≤ w.heap.size) (hl : acc.length + l.length ≤ 5000) (hown : w.ownsRow B 9 1 v acc.length (textsC acc)) (h : XRow (InH w) w sv l.length (textsC l))
    (hk : ∀ v' w', w'.ownsRow B 9 1 v' (acc ++ l).length (textsC (acc ++ l)) → w.grownBy w' v.ownBlock → (v'.ownBlock = v.ownBlock ∨ v'.ownBlock = some w.heap.size) → wpList Tryz.prog ops Q rest (a.put o.dst v') w') :
    wpList Tryz.prog ops Q (o :: rest) a w := by
  refine wpList_plain hgd fun K hK => ?_
  obtain ⟨v', w', hr, h1, h2, h3⟩ := run_append_onB w o.type B v sv acc l hB hl hown h
  unfold Oper.wp execOp
  simp only [ho, resolve, invoke, builtin, Sem.run_bind, Sem.run_pure, Result.andThen_ok, List.map_toArray, List.map_cons, List.map_nil, hs, hx, hr]
  exact hK _ _ (hk _ _ h1 h2 h3)
/-- A row that is not the grown one stays. -/
theorem xrow_grown {w w' : World} {lo hi n : Nat} {v : Value} {xs : List Value} {ob : Option Nat} (h : XRow (fun b => lo ≤ b ∧ b < hi) w v n xs) (hg : w.grownBy w' ob) (hh : hi ≤ w.heap.size) (ho : ∀ b, ob = some b → b < lo ∨ hi ≤ b) : XRow (fun b => lo ≤ b ∧ b < hi) w' v n xs :=
  h.imp (fun _ hb => hb) (fun b hb => hg.block b (by omega) (fun e => by have := ho b e.symm; omega))
mutual
theorem callsM_lenR : ∀ e : Sm, (callsM e).length ≤ nodesM e
  | .mk k m e t o => by
    have h1 := callsE_lenR e
    have h2 := callsS_lenR t
    have h3 := callsS_lenR o
    rw [callsM, nodesM, List.length_append, List.length_append]; omega
theorem callsS_lenR : ∀ l : List Sm, (callsS l).length ≤ nodesS l
  | [] => by simp [callsS]
  | e :: r => by
    have h1 := callsM_lenR e
    have h2 := callsS_lenR r
    rw [callsS, nodesS, List.length_append]; omega
end
/-- What callsOf of statements comes to. -/
def COf (l : List Sm) : Prop := ∀ (w : World) (v : Value), XLS (InH w) w v l → l.length ≤ 30 → LowSs l → nodesS l ≤ 1000 → Calls Tryz.prog 48 #[v] w (TextsTo w (callsS l))
set_option maxRecDepth 100000 in
set_option maxHeartbeats 2000000 in
theorem callsOf_step (l : List Sm) (ih : ∀ k m e t o, Sm.mk k m e t o ∈ l → COf t ∧ COf o) : COf l := by
  intro w v hX hl hL hN
  obtain ⟨xs, hr, hk⟩ := hX
  obtain ⟨ad, cap, rfl⟩ := hr.is
  have hl' : (l.length : Int) ≤ 30 := by omega
  have R := hidX hr
  have KK := hidX hk
  have LL := hidX hL
  have IH := hidX ih
  clear hr hk hL ih
  go_enter Tryz.func48, Tryz.ntmps48
  go_wp2_with fail
  go_loopw [3, 4] (fun vo vi wr => ∃ q : Nat, q ≤ l.length ∧ vi = .int .i64 q ∧ Below w.heap.size w wr ∧ wr.ownsRow w.heap.size 9 1 vo (callsS (l.take q)).length (textsC (callsS (l.take q)))) (fun _ vi _ => l.length - (intOf vi).toNat)
  case atStart => exact ⟨0, Nat.zero_le _, rfl, Below.refl _ _, World.ownsRow_nil _ _ _ _⟩
  case round =>
    obtain ⟨q, hq, rfl, hbl, hown⟩ := hrel
    obtain ⟨advs, capvs, rfl⟩ := own_sl hown
    have HOW := hidX hown
    have hzr0 := hbl.size
    clear hown
    by_cases hlt : q < l.length
    · have hlt' : (q : Int) < (l.length : Int) := by omega
      obtain ⟨ka, e1, e2⟩ := KK.out.at hlt
      have hmem := List.getElem_mem hlt
      have hlx := LL.out.mem _ hmem
      have hnm := nodesS_mem hmem
      have htk : l.take (q + 1) = l.take q ++ [l[q]] := List.take_succ_eq_append_getElem hlt
      have hacc := callsS_lenR (l.take q)
      have hnt := nodesS_take l q
      generalize l[q] = x at e1 hlx htk hmem hnm
      obtain ⟨k, m, e, t, o⟩ := x
      obtain ⟨ih1, ih2⟩ := IH.out k m e t o hmem
      obtain ⟨l1, l2, l3, l4, l5, l6, l7⟩ := hlx
      rw [nodesM] at hnm
      obtain ⟨es, tv, ts, ov, os, rfl, r1, r2, r3, r4, r5⟩ := e1
      have hel := r1.len
      obtain ⟨g, off, rfl, hg, k1⟩ := x8_at R.out hlt hel e2
      obtain ⟨adt0, ct0, rfl⟩ := r2.is
      obtain ⟨ado0, co0, rfl⟩ := r4.is
      have HTX : Hid (XLS (InH w) w (.slice adt0 t.length ct0) t) := ⟨ts, r2, r3⟩
      have HOX : Hid (XLS (InH w) w (.slice ado0 o.length co0) o) := ⟨os, r4, r5⟩
      have hce := callsIn_any e wr es (XE.imp (inH_up hbl) (keepH hbl) _ _ r1) l3 (by omega)
      have ht' : ∀ X, XLS (InH X) X (.slice adt0 t.length ct0) t → Calls Tryz.prog 48 #[.slice adt0 t.length ct0] X (TextsTo X (callsS t)) := fun X hX => ih1 X _ hX l4 l5 (by omega)
      have ho' : ∀ X, XLS (InH X) X (.slice ado0 o.length co0) o → Calls Tryz.prog 48 #[.slice ado0 o.length co0] X (TextsTo X (callsS o)) := fun X hX => ih2 X _ hX l6 l7 (by omega)
      have HT := hidX ht'
      have HO := hidX ho'
      have hve := callsE_lenR e
      have hvt := callsS_lenR t
      have hvo := callsS_lenR o
      have htk2 : callsS (l.take (q + 1)) = callsS (l.take q) ++ (callsE e ++ (callsS t ++ callsS o)) := by rw [htk, callsS_snoc, callsM]
      have HTK := hidX htk2
      generalize callsS (l.take q) = acc at HOW hacc HTK
      generalize callsE e = ce at hce hve HTK
      obtain ⟨ek, en, em, eks⟩ := e
      obtain ⟨ya, za, rfl, ra, _⟩ := r1
      obtain ⟨ad1, cap1, rfl⟩ := ra.is
      have y1 := k1.keep (hbl.block g hg)
      have a2 := y1.c2 0 _ (by decide) rfl
      have a3 := y1.c2 1 _ (by decide) rfl
      have a4 := y1.c2 2 _ (by decide) rfl
      have a5 := y1.c2 3 _ (by decide) rfl
      simp only [Nat.add_zero, Nat.reduceAdd] at a2 a3 a4 a5
      have hacc' : acc.length ≤ 1000 := by omega
      have HCE := hidX hce
      have K1 := hidX k1
      clear r2 r3 r4 r5 e2 ht' ho' htk htk2 y1 hmem ih1 ih2 l3 l5 l7 ra hce k1
      go_wp2_with fail
      refine HCE.out.mono ?_
      rintro ev W2 ⟨hb2, ade, cte, rfl, hoe⟩
      have hbw2 : Below w.heap.size w W2 := hbl.trans (hb2.mono hbl.size)
      have hz2 := hb2.size
      have x2 := K1.out.keep (hbw2.block g hg)
      have a6 := x2.c6
      have hct := HT.out W2 (XLS.imp HTX.out (inH_up hbw2) (keepH hbw2))
      have HCT := hidX hct
      have HOE := hidX hoe
      clear hct hoe x2 a2 a3 a4 a5
      go_wp2_with fail
      refine HCT.out.mono ?_
      rintro ev W3 ⟨hb3, adt, ct, rfl, hot⟩
      have hbw3 : Below w.heap.size w W3 := hbw2.trans (hb3.mono hbw2.size)
      have hz3 := hb3.size
      have x3 := K1.out.keep (hbw3.block g hg)
      have a7 := x3.c7
      have hco := HO.out W3 (XLS.imp HOX.out (inH_up hbw3) (keepH hbw3))
      have HCO := hidX hco
      have HOT := hidX hot
      clear hco hot x3 a6
      go_wp2_with fail
      refine HCO.out.mono ?_
      rintro ev W4 ⟨hb4, ado, co, rfl, hoo⟩
      have hz4 := hb4.size
      have hbw4 : Below w.heap.size w W4 := hbw3.trans (hb4.mono hbw3.size)
      have own4 := owns_below (owns_below (owns_below HOW.out hb2) hb3) hb4
      have xe4 := (xrow_own (owns_below (owns_below HOE.out hb3) hb4)).imp (B := InH W4) (fun _ hb => hb.2) (fun _ _ => rfl)
      have xt4 : XRow (fun b => W2.heap.size ≤ b ∧ b < W4.heap.size) W4 (.slice adt (callsS t).length ct) (callsS t).length (textsC (callsS t)) := xrow_own (owns_below HOT.out hb4)
      have xo4 : XRow (fun b => W2.heap.size ≤ b ∧ b < W4.heap.size) W4 (.slice ado (callsS o).length co) (callsS o).length (textsC (callsS o)) := (xrow_own hoo).imp (fun b hb => ⟨by omega, hb.2⟩) (fun _ _ => rfl)
      have hlt2 := (fun b hb => (HOW.out.lt b hb).2 : ∀ b, _ = some b → b < wr.heap.size)
      have HOW4 := hidX own4
      have HXE4 := hidX xe4
      have HXT4 := hidX xt4
      have HXO4 := hidX xo4
      have HL2 := hidX hlt2
      generalize callsS t = lt at HTK hvt HXT4 HOT
      generalize callsS o = lo at HTK hvo HXO4 hoo
      clear own4 xe4 xt4 xo4 hlt2 hoo a7
      go_wp2_with (first
        | (at_builtin; refine wpList_append_onB rfl _ _ rfl _ rfl _ rfl w.heap.size acc ce hbw4.size (by omega) HOW4.out HXE4.out ?_; intro v5 W5 hown5 hg5 hob5; have hb5 : Below w.heap.size w W5 := grown_below hbw4 (Nat.le_refl _) HOW4.out hg5; have hz5 := hg5.size; have xt5 := xrow_grown HXT4.out hg5 (Nat.le_refl _) (fun b e => (by have := HL2.out b e; omega)); have xo5 := xrow_grown HXO4.out hg5 (Nat.le_refl _) (fun b e => (by have := HL2.out b e; omega)); have ho5 : ∀ b, v5.ownBlock = some b → b < W2.heap.size ∨ W4.heap.size ≤ b := (fun b e => (by rcases hob5 with e5 | e5 <;> rw [e5] at e; exact Or.inl (by have := HL2.out b e; omega); injection e with e; exact Or.inr (by omega))); have HOW5 := hidX hown5; have HXT5 := hidX xt5; have HXO5 := hidX xo5; have HOB5 := hidX ho5; have HHB5 := hidX hob5; have HG5 := hidX hg5; clear hown5 xt5 xo5 ho5 hob5 hg5)
        | (at_builtin; refine wpList_append_onB rfl _ _ rfl _ rfl _ rfl w.heap.size (acc ++ ce) lt hb5.size (by simp; omega) HOW5.out (HXT5.out.imp (fun _ hb => Nat.lt_of_lt_of_le hb.2 hz5) (fun _ _ => rfl)) ?_; intro v6 W6 hown6 hg6 hob6; have hb6 : Below w.heap.size w W6 := grown_below hb5 (Nat.le_refl _) HOW5.out hg6; have hz6 := hg6.size; have xo6 := xrow_grown HXO5.out hg6 hz5 HOB5.out; have HOW6 := hidX hown6; have HXO6 := hidX xo6; clear hown6 xo6 hob6 hg6)
        | (at_builtin; refine wpList_append_onB rfl _ _ rfl _ rfl _ rfl w.heap.size ((acc ++ ce) ++ lt) lo hb6.size (by simp; omega) HOW6.out (HXO6.out.imp (fun _ hb => Nat.lt_of_lt_of_le hb.2 (Nat.le_trans hz5 hz6)) (fun _ _ => rfl)) ?_; intro v7 W7 hown7 hg7 hob7; have hb7 : Below w.heap.size w W7 := grown_below hb6 (Nat.le_refl _) HOW6.out hg7; have HOW7 := hidX hown7; clear hown7 hob7 hg7)
        | fail)
      have ho7 := HOW7.out
      rw [show acc ++ ce ++ lt ++ lo = callsS (l.take (q + 1)) by rw [HTK.out]; simp] at ho7
      have HO7 := hidX ho7
      clear ho7 HOW7
      go_roundw
      case rel => exact ⟨q + 1, by omega, by go_num, hb7, HO7.out⟩
      case measure => simp [intOf]; omega
    · have hqn : q = l.length := by omega
      subst hqn
      have ho := HOW.out
      rw [List.take_length] at ho
      have HO := hidX ho
      clear ho HOW
      rw [List.take_length]
      go_wp2
      go_ret
      exact ⟨hbl, advs, capvs, rfl, HO.out⟩
theorem callsOf_n : ∀ (n : Nat) (l : List Sm), nodesS l ≤ n → COf l
  | 0, l, h => callsOf_step l fun k m e t o hm => by
    have := nodesS_mem hm
    rw [nodesM] at this
    omega
  | n + 1, l, h => callsOf_step l fun k m e t o hm => by
    have := nodesS_mem hm
    rw [nodesM] at this
    exact ⟨callsOf_n n t (by omega), callsOf_n n o (by omega)⟩
theorem callsOf_any (l : List Sm) : COf l := callsOf_n _ l (Nat.le_refl _)
end Go.Proofs.YtcebpmaggnephabGreatDoor

/-
  Our own: IsIn of the document's own model at any list of texts.
-/
namespace Go.Proofs.YtcebpmaggnephabGreatDoor
open Go.RowKit Go.Maps

set_option maxRecDepth 100000 in
set_option maxHeartbeats 2000000 in
/-- IsIn at a list of texts. -/
theorem isIn_allR (l : List (List UInt8)) (s : List UInt8) (hn : l.length ≤ 5000) (w : World) (ad : Option Addr) (c : Nat) (hX : XRow (InH w) w (.slice ad l.length c) l.length (textsC l)) :
    Calls Tryz.prog 27 #[.string ⟨s.toArray⟩, .slice ad l.length c] w fun e w' => e = .returned (.bool (decide (s ∈ l))) ∧ w' = w := by
  by_cases hs : s ∈ l
  · have R := hidX hX
    have hd : decide (s ∈ l) = true := by simpa using hs
    rw [hd]
    have HS := hidX hs
    have hn' : (l.length : Int) ≤ 5000 := by omega
    clear hX hs hd
    go_enter Tryz.func27, Tryz.ntmps27
    go_wp2
    go_loop [5] (fun i => ∃ q : Nat, q ≤ l.length ∧ i = .int .i64 q ∧ Hid (s ∉ l.take q)) (fun i => l.length - (intOf i).toNat)
    case atStart => exact ⟨0, by omega, rfl, by simp [Hid]⟩
    case round =>
      obtain ⟨q, hq, rfl, HQ⟩ := hrel
      by_cases hlt : q < l.length
      · have hlt' : (q : Int) < (l.length : Int) := by omega
        obtain ⟨g, off, rfl, hg, ht⟩ := R.out.text hlt
        have htk : l.take (q + 1) = l.take q ++ [l[q]] := List.take_succ_eq_append_getElem hlt
        generalize l[q] = x at ht htk
        have HTK := hidX htk
        clear htk
        by_cases hne : x = s
        · subst hne
          go_wp2
          go_ret
          exact ⟨rfl, rfl⟩
        · have hne' := txt_ne hne
          have HQ2 : Hid (s ∉ l.take (q + 1)) := by
            unfold Hid
            rw [HTK.out, List.mem_append]
            rintro (h | h)
            · exact HQ.out h
            · exact hne (List.mem_singleton.1 h).symm
          clear hne
          go_wp2
          go_round
          case rel => exact ⟨q + 1, by omega, by go_num, HQ2⟩
          case measure => simp [intOf]; omega
      · have hqn : q = l.length := by omega
        subst hqn
        exact absurd HS.out (by have := HQ.out; rwa [List.take_length] at this)
  · have hd : decide (s ∈ l) = false := by simpa using hs
    rw [hd]
    exact isIn_out l s hs hn w ad c hX
end Go.Proofs.YtcebpmaggnephabGreatDoor

/-
  Our own: CallsOf of the document's own model.
-/
namespace Go.Proofs.YtcebpmaggnephabGreatDoor
open Go.RowKit Go.Maps

theorem onceL_lenR : ∀ (l acc : List (List UInt8)), (onceL acc l).length ≤ acc.length + l.length
  | [], acc => by simp [onceL]
  | x :: r, acc => by
    rw [onceL]
    split
    · have := onceL_lenR r acc; simp; omega
    · have := onceL_lenR r (acc ++ [x]); simp at this ⊢; omega
theorem onceL_take {l : List (List UInt8)} {q : Nat} (h : q < l.length) : onceL [] (l.take (q + 1)) = if l[q] ∈ onceL [] (l.take q) then onceL [] (l.take q) else onceL [] (l.take q) ++ [l[q]] := by
  rw [List.take_succ_eq_append_getElem h, onceL_app]; rfl
set_option maxRecDepth 100000 in
set_option maxHeartbeats 2000000 in
theorem rCallsOf_any (x : Fu) (w : World) (cs : List Value) (hX : XF (InH w) w x cs) (hL : LowF x) (hN : nodesS x.body ≤ 1000) :
    Calls Tryz.prog 21 #[.agg cs.toArray] w (TextsTo w (callsF x)) := by
  obtain ⟨xn, xp, xb⟩ := x
  obtain ⟨pv, bv, bs, rfl, r2, r3, r4⟩ := hX
  obtain ⟨l1, l2, l3, l4, l5⟩ := hL
  simp only at r2 r3 r4 l1 l2 l3 l4 l5 hN
  obtain ⟨adp, cp, rfl⟩ := r2.is
  obtain ⟨adb, cb, rfl⟩ := r3.is
  have hV : ∀ X, Below w.heap.size w X → Calls Tryz.prog 48 #[.slice adb xb.length cb] X (TextsTo X (callsS xb)) := fun X hX => callsOf_any xb X _ (XLS.imp ⟨bs, r3, r4⟩ (inH_up hX) (keepH hX)) l4 l5 hN
  have hvl := callsS_lenR xb
  have hres : callsF ⟨xn, xp, xb⟩ = onceL [] (callsS xb) := rfl
  generalize callsF ⟨xn, xp, xb⟩ = res at hres
  generalize callsS xb = cl at hV hvl hres
  have HV := hidX hV
  have HRES := hidX hres
  have hcl' : (cl.length : Int) ≤ 1000 := by omega
  clear hV r2 r3 r4 l3 l5 hres
  go_enter Tryz.func21, Tryz.ntmps21
  go_wp2_with fail
  refine (HV.out _ (box_blk w _ _)).mono ?_
  rintro ev W1 ⟨hb1, ad1, c1, rfl, ho1⟩
  have hbw1 : Below w.heap.size w W1 := bl_trans (box_blk w _ _) (by simp) hb1
  have hx1 := (xrow_own ho1).imp (B := InH W1) (fun _ hb => hb.2) (fun _ _ => rfl)
  have R := hidX hx1
  clear hx1 ho1
  go_wp2_with fail
  go_loopw [4, 5] (fun vo vi wr => ∃ q : Nat, q ≤ cl.length ∧ vi = .int .i64 q ∧ Below W1.heap.size W1 wr ∧ wr.ownsRow W1.heap.size 9 1 vo (onceL [] (cl.take q)).length (textsC (onceL [] (cl.take q)))) (fun _ vi _ => cl.length - (intOf vi).toNat)
  case atStart => exact ⟨0, Nat.zero_le _, rfl, Below.refl _ _, World.ownsRow_nil _ _ _ _⟩
  case round =>
    obtain ⟨q, hq, rfl, hbl, hown⟩ := hrel
    obtain ⟨advs, capvs, rfl⟩ := own_sl hown
    have HOW := hidX hown
    have hzr0 := hbl.size
    clear hown
    by_cases hlt : q < cl.length
    · have hlt' : (q : Int) < (cl.length : Int) := by omega
      obtain ⟨g, off, rfl, hg, ht0⟩ := R.out.text hlt
      have ht := (hbl.cell (p := ⟨g, _, none⟩) hg).trans ht0
      have hlen := onceL_lenR (cl.take q) []
      have htl : (cl.take q).length ≤ cl.length := by rw [List.length_take]; omega
      have htk := onceL_take hlt
      generalize onceL [] (cl.take q) = acc at HOW hlen htk
      generalize cl[q] = x at ht htk
      simp only [List.length_nil, Nat.zero_add] at hlen
      have hin := isIn_allR acc x (by omega) wr advs capvs ((xrow_own HOW.out).imp (fun _ hb => hb.2) (fun _ _ => rfl))
      have HTK := hidX htk
      have hac' : acc.length ≤ 1000 := by omega
      clear ht0 htk htl
      by_cases hm : x ∈ acc
      · rw [show decide (x ∈ acc) = true by simpa using hm] at hin
        have HIN := hidX hin
        have HM := hidX hm
        clear hin hm
        go_wp2_with fail
        refine HIN.out.mono ?_
        rintro e w' ⟨rfl, hh⟩
        replace hh := hh.symm
        subst hh
        go_wp2
        go_roundw
        case rel => exact ⟨q + 1, by omega, by go_num, hbl, by rw [HTK.out, if_pos HM.out]; exact HOW.out⟩
        case measure => simp [intOf]; omega
      · rw [show decide (x ∈ acc) = false by simpa using hm] at hin
        have HIN := hidX hin
        have HM := hidX hm
        have hbx := box_blk wr #[.string ⟨x.toArray⟩] 9
        have HONE := hidX (one_text wr x)
        have how2 := owns_below HOW.out hbx
        have HO1 := hidX how2
        have hg1 : Below W1.heap.size W1 (wr.alloc (.cells #[.string ⟨x.toArray⟩] 9)) := bl_trans hbl hzr0 hbx
        clear hin hm hbx how2
        go_wp2_with fail
        refine HIN.out.mono ?_
        rintro e w' ⟨rfl, hh⟩
        replace hh := hh.symm
        subst hh
        go_wp2_with (first | (at_builtin; refine wpList_append_on rfl _ _ rfl _ rfl _ rfl W1.heap.size acc [x] hg1.size (by first | omega | (simp; omega)) HO1.out HONE.out ?_; intro v2 W2 hown2 hg2; have hb2 : Below W1.heap.size W1 W2 := grown_below hg1 (Nat.le_refl _) HO1.out hg2; have HW2 := hidX hown2; clear hown2) | fail)
        have ho7 := HW2.out
        rw [show acc ++ [x] = onceL [] (cl.take (q + 1)) by rw [HTK.out, if_neg HM.out]] at ho7
        have HO7 := hidX ho7
        clear ho7 HW2
        go_roundw
        case rel => exact ⟨q + 1, by omega, by go_num, hb2, HO7.out⟩
        case measure => simp [intOf]; omega
    · have hqn : q = cl.length := by omega
      subst hqn
      have ho := HOW.out
      rw [List.take_length, ← HRES.out] at ho
      have HO := hidX ho
      have e : (onceL [] (cl.take cl.length)).length = res.length := by rw [List.take_length, HRES.out]
      rw [e]
      clear ho HOW e
      go_wp2
      go_ret
      exact ⟨bl_trans hbw1 hbw1.size hbl, advs, capvs, rfl, own_base HO.out hbw1.size⟩
end Go.Proofs.YtcebpmaggnephabGreatDoor

/-
  Our own: what the document's own model knows of a function while it reads it: a block with two lists that grow.
-/
namespace Go.Proofs.YtcebpmaggnephabGreatDoor
open Go.RowKit Go.Maps

/-- What the model knows: the functions, all variables, the visible ones. -/
structure Know (w : World) (B p : Nat) (fv av vv : Value) (F : List Fu) (all vis : List (List UInt8)) : Prop where
  hp : B ≤ p
  blk : w.heap[p]? = some (.cells #[fv, .bool true, av, vv] 129 (0, 0))
  fs : XLF (fun b => b < B) w fv F
  al : w.ownsRow B 9 1 av all.length (textsC all)
  vi : w.ownsRow B 9 1 vv vis.length (textsC vis)
  n1 : av.ownBlock ≠ some p
  n2 : vv.ownBlock ≠ some p
  n3 : ∀ b, av.ownBlock = some b → vv.ownBlock ≠ some b
/-- All is as it was but for the block p and two rows. -/
structure KFr (p : Nat) (oa ov : Option Nat) (w w' : World) : Prop where
  os : w'.os = w.os
  tape : w'.tape = w.tape
  output : w'.output = w.output
  size : w.heap.size ≤ w'.heap.size
  block : ∀ b, b < w.heap.size → b ≠ p → oa ≠ some b → ov ≠ some b → w'.heap[b]? = w.heap[b]?
theorem KFr.refl (p : Nat) (oa ov : Option Nat) (w : World) : KFr p oa ov w w := ⟨rfl, rfl, rfl, Nat.le_refl _, fun _ _ _ _ _ => rfl⟩
theorem KFr.trans {p : Nat} {oa ov oa' ov' : Option Nat} {a b c : World} (h : KFr p oa ov a b) (k : KFr p oa' ov' b c) (h1 : RowB a oa oa') (h2 : RowB a ov ov') : KFr p oa ov a c :=
  ⟨k.os.trans h.os, k.tape.trans h.tape, k.output.trans h.output, Nat.le_trans h.size k.size, fun i hi hp ha hv =>
    (k.block i (Nat.lt_of_lt_of_le hi h.size) hp (h1.ne hi ha) (h2.ne hi hv)).trans (h.block i hi hp ha hv)⟩
theorem KFr.of {p : Nat} {oa ov : Option Nat} {w w' : World} (h : Below w.heap.size w w') : KFr p oa ov w w' := ⟨h.os, h.tape, h.output, h.size, fun i hi _ _ _ => h.block i hi⟩
theorem Know.plt {w : World} {B p : Nat} {fv av vv : Value} {F : List Fu} {all vis : List (List UInt8)} (h : Know w B p fv av vv F all vis) : p < w.heap.size := heap_lt h.blk
theorem Know.below {w w' : World} {B p : Nat} {fv av vv : Value} {F : List Fu} {all vis : List (List UInt8)} (h : Know w B p fv av vv F all vis) (hb : Below w.heap.size w w') : Know w' B p fv av vv F all vis :=
  ⟨h.hp, (hb.block p h.plt).trans h.blk, h.fs.imp (fun _ h => h) (fun b hB => hb.block b (by have := h.plt; have := h.hp; omega)), owns_below h.al hb, owns_below h.vi hb, h.n1, h.n2, h.n3⟩
theorem KFr.low {w w' : World} {B p : Nat} {fv av vv : Value} {F : List Fu} {all vis : List (List UInt8)} (h : KFr p av.ownBlock vv.ownBlock w w') (k : Know w B p fv av vv F all vis) : Below B w w' :=
  ⟨h.os, h.tape, h.output, h.size, fun b hb => h.block b (by have := k.plt; have := k.hp; omega) (by have := k.hp; omega) (fun e => by have := (k.al.lt b e).1; omega) (fun e => by have := (k.vi.lt b e).1; omega)⟩
theorem own_take {B n c : Nat} {t : TypeId} {w : World} {ad : Option Addr} {l : List (List UInt8)} (h : w.ownsRow B t 1 (.slice ad n c) l.length (textsC l)) {m : Nat} (hm : m ≤ l.length) : w.ownsRow B t 1 (.slice ad m c) (l.take m).length (textsC (l.take m)) := by
  have e : (l.take m).length = m := by rw [List.length_take]; omega
  rw [e]
  rcases h with ⟨h1, ⟨h2, h3⟩ | ⟨g, cap, cur, h3, h4, h5, h6, h7, h8, h9⟩⟩
  · injection h2 with e1 e2 e3
    have hm0 : m = 0 := by omega
    subst e1 e2 e3 hm0
    exact ⟨by simp [textsC], Or.inl ⟨rfl, rfl⟩⟩
  · injection h3 with e1 e2 e3
    subst e1 e2 e3
    refine ⟨by rw [textsC_len, e], Or.inr ⟨g, c, cur, rfl, h4, h5, by omega, h7, h8, ?_⟩⟩
    have h10 : (cur.toList.take (l.length * 1)).take (m * 1) = (textsC l).take (m * 1) := by rw [h9]
    rw [List.take_take, Nat.min_eq_left (by omega)] at h10
    rw [h10, textsC, textsC, List.map_take, Nat.mul_one]
/-- All variables are one more. -/
theorem Know.pushAll {X w3 : World} {B p : Nat} {fv av vv v' : Value} {F : List Fu} {all all' vis : List (List UInt8)} (h : Know X B p fv av vv F all vis) (hown : w3.ownsRow B 9 1 v' all'.length (textsC all')) (hg : X.grownBy w3 av.ownBlock) (hl : v'.ownBlock = av.ownBlock ∨ v'.ownBlock = some X.heap.size) :
    Know (w3.setCell ⟨p, 2, none⟩ v') B p fv v' vv F all' vis ∧ KFr p av.ownBlock vv.ownBlock X (w3.setCell ⟨p, 2, none⟩ v') ∧ RowB X av.ownBlock v'.ownBlock := by
  have hpl := h.plt
  have hpB := h.hp
  have hz := hg.size
  have hb3 : w3.heap[p]? = some (.cells #[fv, .bool true, av, vv] 129 (0, 0)) := (hg.block p hpl (fun e => h.n1 e.symm)).trans h.blk
  have hs := blk_setCell hb3 2 v'
  have hoth : ∀ b, b ≠ p → (w3.setCell ⟨p, 2, none⟩ v').heap[b]? = w3.heap[b]? := fun b hb => Below.heap_setCell _ _ _ _ (show b ≠ p from hb)
  have hnew : RowB X av.ownBlock v'.ownBlock := hl.elim Or.inl (fun e => Or.inr ⟨_, e, Nat.le_refl _⟩)
  have hn1 : v'.ownBlock ≠ some p := hnew.ne hpl h.n1
  refine ⟨⟨hpB, by simpa using hs, h.fs.imp (fun _ h => h) (fun b hb => ?_), own_same hown (fun b e => hoth b (fun e' => hn1 (e' ▸ e))), own_same h.vi (fun b e => ?_), hn1, h.n2, fun b e e' => ?_⟩, ⟨hg.os, hg.tape, hg.output, by simp only [World.setCell, Array.size_modify]; exact hz, fun b hb hbp ha hv => ?_⟩, hnew⟩
  · rw [hoth b (by omega), hg.block b (by omega) (fun e => by have := (h.al.lt b e.symm).1; omega)]
  · have hbl := (h.vi.lt b e).2
    rw [hoth b (fun e' => h.n2 (e' ▸ e)), hg.block b hbl (fun e' => h.n3 b e'.symm e)]
  · have hbl := (h.vi.lt b e').2
    rcases hl with h1 | h1
    · rw [h1] at e; exact h.n3 b e e'
    · rw [h1] at e; injection e with e; omega
  · rw [hoth b hbp, hg.block b hb (fun e => ha e.symm)]
/-- The visible ones are other ones. -/
theorem Know.pushVis {X w3 : World} {B p : Nat} {fv av vv v' : Value} {F : List Fu} {all vis vis' : List (List UInt8)} (h : Know X B p fv av vv F all vis) (hown : w3.ownsRow B 9 1 v' vis'.length (textsC vis')) (hg : X.grownBy w3 vv.ownBlock) (hl : v'.ownBlock = vv.ownBlock ∨ v'.ownBlock = some X.heap.size) :
    Know (w3.setCell ⟨p, 3, none⟩ v') B p fv av v' F all vis' ∧ KFr p av.ownBlock vv.ownBlock X (w3.setCell ⟨p, 3, none⟩ v') ∧ RowB X vv.ownBlock v'.ownBlock := by
  have hpl := h.plt
  have hpB := h.hp
  have hz := hg.size
  have hb3 : w3.heap[p]? = some (.cells #[fv, .bool true, av, vv] 129 (0, 0)) := (hg.block p hpl (fun e => h.n2 e.symm)).trans h.blk
  have hs := blk_setCell hb3 3 v'
  have hoth : ∀ b, b ≠ p → (w3.setCell ⟨p, 3, none⟩ v').heap[b]? = w3.heap[b]? := fun b hb => Below.heap_setCell _ _ _ _ (show b ≠ p from hb)
  have hnew : RowB X vv.ownBlock v'.ownBlock := hl.elim Or.inl (fun e => Or.inr ⟨_, e, Nat.le_refl _⟩)
  have hn1 : v'.ownBlock ≠ some p := hnew.ne hpl h.n2
  refine ⟨⟨hpB, by simpa using hs, h.fs.imp (fun _ h => h) (fun b hb => ?_), own_same h.al (fun b e => ?_), own_same hown (fun b e => hoth b (fun e' => hn1 (e' ▸ e))), h.n1, hn1, fun b e e' => ?_⟩, ⟨hg.os, hg.tape, hg.output, by simp only [World.setCell, Array.size_modify]; exact hz, fun b hb hbp ha hv => ?_⟩, hnew⟩
  · rw [hoth b (by omega), hg.block b (by omega) (fun e => by have := (h.vi.lt b e.symm).1; omega)]
  · have hbl := (h.al.lt b e).2
    rw [hoth b (fun e' => h.n1 (e' ▸ e)), hg.block b hbl (fun e' => h.n3 b e e'.symm)]
  · have hbl := (h.al.lt b e).2
    rcases hl with h1 | h1
    · rw [h1] at e'; exact h.n3 b e e'
    · rw [h1] at e'; injection e' with e'; omega
  · rw [hoth b hbp, hg.block b hb (fun e => hv e.symm)]
/-- The visible ones are fewer. -/
theorem Know.cut {X : World} {B p n c : Nat} {fv av : Value} {ad : Option Addr} {F : List Fu} {all vis : List (List UInt8)} (h : Know X B p fv av (.slice ad n c) F all vis) {m : Nat} (hm : m ≤ vis.length) :
    Know (X.setCell ⟨p, 3, none⟩ (.slice ad m c)) B p fv av (.slice ad m c) F all (vis.take m) ∧ KFr p av.ownBlock (Value.slice ad n c).ownBlock X (X.setCell ⟨p, 3, none⟩ (.slice ad m c)) ∧ RowB X (Value.slice ad n c).ownBlock (Value.slice ad m c).ownBlock := by
  have e : (Value.slice ad m c).ownBlock = (Value.slice ad n c).ownBlock := by
    cases ad <;> rfl
  exact h.pushVis (own_take h.vi hm) ⟨rfl, rfl, rfl, Nat.le_refl _, fun _ _ _ => rfl⟩ (Or.inl e)
end Go.Proofs.YtcebpmaggnephabGreatDoor
