/-
  Our own: package check: a program.
-/
import Derived.Test.YtcebpmaggnephabGreatDoorCheckFun
namespace Go.Proofs.YtcebpmaggnephabGreatDoor
open Go.RowKit Go.Maps

theorem firstAt_made (w : World) : FirstAt (w.alloc (.map #[] 0)) w.heap.size [] :=
  ⟨.map [], World.ownsMap_made _ _ _ _, fun s => by simp [Maps.has], fun i hi => by simp at hi⟩
theorem FirstAt.skip {w : World} {b : Nat} {L : List Fu} {x : Fu} (h : FirstAt w b L) (hx : (L.any fun f => f.name == x.name) = true) : FirstAt w b (L ++ [x]) := by
  obtain ⟨D, h1, h2, h3⟩ := h
  refine ⟨D, h1.mono (by simp), fun s => ?_, fun i hi hj z => ?_⟩
  · rw [h2 s, List.any_append]
    by_cases e : x.name = s
    · subst e; rw [hx]; simp
    · simp [e]
  · by_cases hil : i < L.length
    · have e1 : (L ++ [x])[i] = L[i] := List.getElem_append_left hil
      rw [e1]
      refine h3 i hil (fun j hjj => ?_) z
      have := hj j hjj
      rw [e1, List.getElem_append_left (by omega)] at this
      exact this
    · exfalso
      have : i = L.length := by simp at hi; omega
      subst this
      obtain ⟨y, hy, hyn⟩ := List.any_eq_true.1 hx
      obtain ⟨j, hjl, rfl⟩ := List.getElem_of_mem hy
      have := hj j hjl
      rw [List.getElem_append_left hjl, List.getElem_append_right (Nat.le_refl _)] at this
      simp only [Nat.sub_self, List.getElem_cons_zero] at this
      exact this (by simpa using hyn)
theorem FirstAt.put {w w' : World} {b n : Nat} {L : List Fu} {x : Fu} {D : DataW Unit} (h1 : w.ownsMap Tryz.prog 9 (plainElem Tryz.prog 3) b n D) (h2 : ∀ s, Maps.has D (.string s) = L.any fun f => f.name == s)
    (h3 : ∀ i (hi : i < L.length), (∀ j (hj : j < i), (L[j]'(by omega)).name ≠ L[i].name) → ∀ z, D.atKey (.string L[i].name) z = .lit (.int .i64 i)) (hx : (L.any fun f => f.name == x.name) = false)
    (hw : w'.ownsMap Tryz.prog 9 (plainElem Tryz.prog 3) b (L.length + 1) (D.put (.string x.name) (.lit (.int .i64 L.length)))) : FirstAt w' b (L ++ [x]) := by
  refine ⟨_, by rw [List.length_append]; exact hw, fun s => ?_, fun i hi hj z => ?_⟩
  · by_cases e : s = x.name
    · subst e
      rw [Maps.has_put_same h1.isMap (keyLit _)]; simp
    · rw [Maps.has_put_other (by simpa using e), h2 s, List.any_append]
      have : ¬ x.name = s := fun h => e h.symm
      simp [this]
  · by_cases hil : i < L.length
    · have e1 : (L ++ [x])[i] = L[i] := List.getElem_append_left hil
      rw [e1]
      have hne : L[i].name ≠ x.name := fun e => by
        rw [List.any_eq_false] at hx
        exact hx L[i] (List.getElem_mem hil) (by simpa using e)
      rw [Maps.atKey_put_other (by simpa using hne)]
      refine h3 i hil (fun j hjj => ?_) z
      have := hj j hjj
      rw [e1, List.getElem_append_left (by omega)] at this
      exact this
    · have : i = L.length := by simp at hi; omega
      subst this
      rw [List.getElem_append_right (Nat.le_refl _)]
      simp only [Nat.sub_self, List.getElem_cons_zero]
      rw [Maps.atKey_put_same h1.isMap (keyLit _)]
set_option maxRecDepth 100000 in
set_option maxHeartbeats 2000000 in
theorem firsts_any (F : List Fu) (hF : F.length ≤ 10) (hL : ∀ g ∈ F, LowF g) (w : World) (v : Value) (hX : XLF (InH w) w v F) :
    Calls Tryz.prog 39 #[v] w fun e w' => e = .returned (.map (some w.heap.size)) ∧ FirstAt w' w.heap.size F ∧ Below w.heap.size w w' ∧ w.heap.size < w'.heap.size := by
  obtain ⟨xs, hr, hk⟩ := hX
  obtain ⟨ad, cap, rfl⟩ := hr.is
  have hF' : (F.length : Int) ≤ 10 := by omega
  have R := hidX hr
  have KK := hidX hk
  have LL := hidX hL
  clear hr hk hL
  have hmm := @run_makeMap Tryz.prog
  go_enter Tryz.func39, Tryz.ntmps39
  go_wp2_with fail
  go_loopw [11] (fun vi wr => ∃ q : Nat, q ≤ F.length ∧ vi = .int .i64 q ∧ Below w.heap.size w wr ∧ w.heap.size < wr.heap.size ∧ FirstAt wr w.heap.size (F.take q)) (fun vi _ => F.length - (intOf vi).toNat)
  case atStart => exact ⟨0, Nat.zero_le _, rfl, by (repeat (first | exact Below.refl _ _ | assumption | refine Below.drew ?_ | refine Below.trans ?_ (drewN_below' _ _ _) | refine Below.setCell ?_ (by first | (simp; done) | (simp; omega)) _ | refine Below.alloc ?_ (by first | (simp; done) | (simp; omega)) _)), by simp, firstAt_made w⟩
  case round =>
    obtain ⟨q, hq, rfl, hbl, hz, hfr⟩ := hrel
    by_cases hlt : q < F.length
    · have hlt' : (q : Int) < (F.length : Int) := by omega
      obtain ⟨ka, e1, e2⟩ := KK.out.at hlt
      have hlow := LL.out _ (List.getElem_mem hlt)
      have htk : F.take (q + 1) = F.take q ++ [F[q]] := List.take_succ_eq_append_getElem hlt
      generalize F[q] = x at e1 hlow htk
      obtain ⟨xm, xp, xb⟩ := x
      obtain ⟨pv, bv, bs, rfl, r2, r3, r4⟩ := e1
      obtain ⟨l1, _⟩ := hlow
      simp only at r2 r3 r4 l1 e2
      obtain ⟨g, off, rfl, hg, hx⟩ := x3_at R.out hlt e2
      obtain ⟨adp, cp, rfl⟩ := r2.is
      obtain ⟨adb, cb, rfl⟩ := r3.is
      have k1 := hx.keep (hbl.block g hg)
      have a0 := k1.c0
      have a1 := k1.c1
      have a2 := k1.c2
      have HTK := hidX htk
      have hblk : (wr.alloc (.cells #[.string ⟨xm.toArray⟩, .slice adp xp.length cp, .slice adb xb.length cb] 50)).heap[w.heap.size]? = wr.heap[w.heap.size]? := Below.heap_alloc _ _ _ hz
      obtain ⟨c, hlk, _⟩ := look_first hfr xm (by omega) _ hblk
      have HFR := hidX hfr
      have HBK := hidX hblk
      clear hx k1 r2 r3 r4 e2 htk hfr hblk
      have hql : (F.take q).length = q := by rw [List.length_take]; omega
      by_cases hany : ((F.take q).any fun f => f.name == xm) = true
      · rw [hany] at hlk
        have hf2 := (HFR.out.keep HBK.out).skip (x := ⟨xm, xp, xb⟩) hany
        rw [← HTK.out] at hf2
        have HF2 := hidX hf2
        clear hany hf2
        go_wp2
        go_roundw
        case rel => exact ⟨q + 1, by omega, by go_num, hbl.alloc (by omega) _, by simp; omega, HF2.out⟩
        case measure => simp [intOf]; omega
      · have hany' : ((F.take q).any fun f => f.name == xm) = false := by simpa using hany
        rw [hany'] at hlk
        obtain ⟨D, d1, d2, d3⟩ := HFR.out
        rw [hql] at d1
        have D1 := hidX d1
        have D2 := hidX d2
        have D3 := hidX d3
        have HA := hidX hany'
        have hkey := key_text xm (by omega)
        clear hany hany' d1 d2 d3
        go_wp2_with (first | (at_mapUpdate; refine wpList_mapUpdate_own _ rfl _ _ _ 86 rfl 9 3 law_string Tryz.underlying86 (plainElem Tryz.prog 3) w.heap.size q D rfl (owns_block D1.out HBK.out) (by unfold maxLen; omega) _ _ (.string xm) rfl rfl hkey (.lit (.int .i64 q)) [] (plainElem_int Tryz.underlying3 (WalkArith.wf_i64 (by omega))) ?_; intro w1 hown1 hgrow1) | go_in)
        have hf2 : FirstAt w1 w.heap.size (F.take q ++ [⟨xm, xp, xb⟩]) := FirstAt.put (x := ⟨xm, xp, xb⟩) D1.out D2.out D3.out HA.out (by rw [hql]; exact hown1)
        rw [← HTK.out] at hf2
        have HF2 := hidX hf2
        have hb1 : Below w.heap.size w w1 := (hbl.alloc (by omega) _).grown hgrow1 (by simp; omega) (fun j hj => by cases hj; exact Nat.le_refl _)
        have hz1 : w.heap.size < w1.heap.size := by have := hgrow1.size; simp at this; omega
        clear hown1 hgrow1 hf2 a0 a1 a2
        go_roundw
        case rel => exact ⟨q + 1, by omega, by go_num, hb1, hz1, HF2.out⟩
        case measure => simp [intOf]; omega
    · have hqn : q = F.length := by omega
      subst hqn
      rw [List.take_length] at hfr
      have HFR := hidX hfr
      clear hfr
      go_wp2
      go_ret
      exact ⟨rfl, HFR.out, hbl, hz⟩
/-- A look-up of a function that is there. -/
theorem look_first0 {w : World} {b : Nat} {F : List Fu} (h : FirstAt w b F) {q : Nat} (hq : q < F.length) (hm : F[q].name.length ≤ 4000) (X : World) (hX : X.heap[b]? = w.heap[b]?) :
    ∃ c : Nat, (Instr.lookup 86 (.map (some b)) (.string ⟨F[q].name.toArray⟩) false).run Tryz.prog X = .ok (.int .i64 c) X ∧ c ≤ q ∧ decide (c < q) = (F.take q).any fun g => g.name == F[q].name := by
  obtain ⟨D, h1, h2, h3⟩ := h
  obtain ⟨c, hrun, hat, _⟩ := (owns_block h1 hX).lookup_int law_string Tryz.underlying86 Tryz.underlying3 (zero_int X) (key_text _ hm)
  obtain ⟨i, hi, i1, i2, _⟩ := first_of (F := F) (m := F[q].name) (List.any_eq_true.2 ⟨F[q], List.getElem_mem hq, by simp⟩)
  have := h3 i hi (fun j hj => by rw [i1]; exact i2 j hj) (.lit (.int .i64 0))
  rw [i1, hat] at this
  simp only [DataW.lit.injEq, Lit.int.injEq, true_and] at this
  have hc : c = i := this
  have hiq : i ≤ q := by
    rcases Nat.lt_or_ge q i with h | h
    · exact absurd rfl (i2 q h)
    · exact h
  refine ⟨i, by rw [hrun, hc], hiq, ?_⟩
  rw [Bool.eq_iff_iff, decide_eq_true_eq, List.any_eq_true]
  constructor
  · intro h
    exact ⟨F[i], by rw [List.mem_take_iff_getElem]; exact ⟨i, by omega, rfl⟩, by simpa using i1⟩
  · rintro ⟨x, hx, hn⟩
    obtain ⟨j, hj, rfl⟩ := List.mem_take_iff_getElem.1 hx
    rcases Nat.lt_or_ge i q with h | h
    · exact h
    · exact absurd (by simpa using hn) (i2 j (by omega))
set_option maxRecDepth 100000 in
theorem funsC_at {F : List Fu} {q : Nat} (h : q < F.length) : funsC F (F.take q) (F.drop q) = if funC F ((F.take q).any fun g => g.name == F[q].name) F[q] ≠ 0 then some (funC F ((F.take q).any fun g => g.name == F[q].name) F[q], q) else funsC F (F.take (q + 1)) (F.drop (q + 1)) := by
  rw [← List.getElem_cons_drop h, funsC, List.take_succ_eq_append_getElem h, List.length_take, Nat.min_eq_left (by omega)]
/-- What 'Program' comes to. -/
def PrTo (a : Nat → Addr) (F : List Fu) (w : World) (e : Ending) (w' : World) : Prop :=
  Below w.heap.size w w' ∧ if 8 < F.length then e = .returned (sentV (a 7)) else match funsC F [] F with
    | none => e = .returned .nilIface
    | some (c, i) => c ≠ 0 ∧ ∃ b, e = .returned (.iface 93 (.pointer (some ⟨b, 0, none⟩))) ∧ w.heap.size ≤ b ∧ w'.heap[b]? = some (.cells #[.int .i64 i, sentV (a (c - 1))] 95 (0, 0))
theorem pr_full {a : Nat → Addr} {F : List Fu} {w w' : World} {e : Ending} (h : 8 < F.length) (hb : Below w.heap.size w w') (he : e = .returned (sentV (a 7))) : PrTo a F w e w' := ⟨hb, by rw [if_pos h]; exact he⟩
theorem pr_well {a : Nat → Addr} {F : List Fu} {w w' : World} {e : Ending} (h : ¬ 8 < F.length) (hf : funsC F [] F = none) (hb : Below w.heap.size w w') (he : e = .returned .nilIface) : PrTo a F w e w' := ⟨hb, by rw [if_neg h, hf]; exact he⟩
theorem pr_bad {a : Nat → Addr} {F : List Fu} {w w' : World} {e : Ending} {c i b : Nat} (h : ¬ 8 < F.length) (hf : funsC F [] F = some (c, i)) (hc : c ≠ 0) (hb : Below w.heap.size w w') (he : e = .returned (.iface 93 (.pointer (some ⟨b, 0, none⟩)))) (hwb : w.heap.size ≤ b) (hx : w'.heap[b]? = some (.cells #[.int .i64 i, sentV (a (c - 1))] 95 (0, 0))) : PrTo a F w e w' :=
  ⟨hb, by rw [if_neg h, hf]; exact ⟨hc, b, he, hwb, hx⟩⟩
set_option maxRecDepth 100000 in
set_option maxHeartbeats 4000000 in
theorem program_any (a : Nat → Addr) (F : List Fu) (hF : F.length ≤ 10) (hL : ∀ g ∈ F, LowF g) (w : World) (hS : Sents w a) (v : Value) (hX : XLF (InH w) w v F) :
    Calls Tryz.prog 15 #[v] w (PrTo a F w) := by
  have hfi := firsts_any F hF hL w v hX
  have HX := hidX hX
  obtain ⟨xs, hr, hk⟩ := hX
  obtain ⟨ad, cap, rfl⟩ := hr.is
  have hF' : (F.length : Int) ≤ 10 := by omega
  have R := hidX hr
  have KK := hidX hk
  have LL := hidX hL
  have HFI := hidX hfi
  have HSS := hidX hS
  clear hr hk hL hfi
  by_cases h8 : 8 < F.length
  · have h8' : (8 : Int) < F.length := by omega
    have hg := full_glob hS
    clear hS
    go_enter Tryz.func15, Tryz.ntmps15
    go_wp2
    go_ret
    exact pr_full h8 (by (repeat (first | exact Below.refl _ _ | assumption | refine Below.drew ?_ | refine Below.trans ?_ (drewN_below' _ _ _) | refine Below.setCell ?_ (by first | (simp; done) | (simp; omega)) _ | refine Below.alloc ?_ (by first | (simp; done) | (simp; omega)) _))) rfl
  · have h8' : ¬ (8 : Int) < F.length := by omega
    have hmm := @run_makeMap Tryz.prog
    clear hS
    go_enter Tryz.func15, Tryz.ntmps15
    go_wp2_with fail
    refine HFI.out.mono ?_
    rintro e w1 ⟨rfl, hf1, hb1, hz1⟩
    have HF1 := hidX hf1
    clear hf1 HFI
    go_wp2_with fail
    go_loopw [16] (fun vi wr => ∃ q : Nat, q ≤ F.length ∧ vi = .int .i64 q ∧ Below w1.heap.size w1 wr ∧ Hid (funsC F [] F = funsC F (F.take q) (F.drop q))) (fun vi _ => F.length - (intOf vi).toNat)
    case atStart => exact ⟨0, Nat.zero_le _, rfl, Below.refl _ _, rfl⟩
    case round =>
      obtain ⟨q, hq, rfl, hbl, HFC⟩ := hrel
      have hzr := hbl.size
      by_cases hlt : q < F.length
      · have hlt' : (q : Int) < (F.length : Int) := by omega
        obtain ⟨ka, e1, e2⟩ := KK.out.at hlt
        have hlow := LL.out _ (List.getElem_mem hlt)
        have hstep := HFC.out.trans (funsC_at hlt)
        have hb1r : Below w.heap.size w wr := bl_trans hb1 hb1.size hbl
        have hfr : FirstAt wr w.heap.size F := HF1.out.keep (hbl.block _ hz1)
        have hlk : ∀ X : World, X.heap[w.heap.size]? = wr.heap[w.heap.size]? → _ := fun X hX => look_first0 hfr hlt (by have := hlow.1; omega) X hX
        generalize F[q] = x at e1 hlow hstep hlk
        generalize hTW : ((F.take q).any fun g => g.name == x.name) = tw at hstep hlk
        have hx : ∀ (X : World) (p m : Nat), Chk X a w.heap.size p w.heap.size m (.slice ad F.length cap) F [] [] → Below w.heap.size w X → Calls Tryz.prog 40 #[.pointer (some ⟨p, 0, none⟩), .agg ka.toArray, .bool tw] X fun e w' => e = .returned (errV a (funC F tw x)) ∧ But m X w' := fun X p m hC hb =>
          fun_any hC x tw ka (XF.imp (fun _ h => h) (fun b (h : b < w.heap.size) => hb.block b h) _ _ e1) hlow
        generalize hFC : funC F tw x = fc at hstep hx
        obtain ⟨xm, xp, xb⟩ := x
        obtain ⟨pv, bv, bs, rfl, r2, r3, r4⟩ := e1
        simp only at r2 r3 r4 e2 hlk
        obtain ⟨g, off, rfl, hg, hx3⟩ := x3_at R.out hlt e2
        obtain ⟨adp, cp, rfl⟩ := r2.is
        obtain ⟨adb, cb, rfl⟩ := r3.is
        have k1 := hx3.keep (hb1r.block g hg)
        have a0 := k1.c0
        have a1 := k1.c1
        have a2 := k1.c2
        clear k1 hx3 r2 r3 r4 e2 hFC hTW hlow
        obtain ⟨c, hlk1, hcq, hct⟩ := hlk (((wr.alloc (.cells #[.string ⟨xm.toArray⟩, .slice adp xp.length cp, .slice adb xb.length cb] 50)).alloc (.map #[] 0)).alloc (.cells #[.bool false, .slice (some ⟨g, off, none⟩) F.length cap, .map (some w.heap.size), .map (some (wr.heap.size + 1))] 91)) (by
          rw [Below.heap_alloc _ _ _ (by simp; omega), Below.heap_alloc _ _ _ (by simp; omega), Below.heap_alloc _ _ _ (by omega)])
        have HFUN := hidX hx
        have HST := hidX hstep
        have HCT := hidX hct
        have hcq' : (c : Int) ≤ 10 := by omega
        clear hlk hx hstep hct
        have hbX : Below w1.heap.size w1 (((wr.alloc (.cells #[.string ⟨xm.toArray⟩, .slice adp xp.length cp, .slice adb xb.length cb] 50)).alloc (.map #[] 0)).alloc (.cells #[.bool false, .slice (some ⟨g, off, none⟩) F.length cap, .map (some w.heap.size), .map (some (wr.heap.size + 1))] 91)) :=
          ((hbl.alloc (by omega) _).alloc (by simp; omega) _).alloc (by simp; omega) _
        have hsX : (((wr.alloc (.cells #[.string ⟨xm.toArray⟩, .slice adp xp.length cp, .slice adb xb.length cb] 50)).alloc (.map #[] 0)).alloc (.cells #[.bool false, .slice (some ⟨g, off, none⟩) F.length cap, .map (some w.heap.size), .map (some (wr.heap.size + 1))] 91)).heap.size = wr.heap.size + 3 := by simp
        have hkX : (((wr.alloc (.cells #[.string ⟨xm.toArray⟩, .slice adp xp.length cp, .slice adb xb.length cb] 50)).alloc (.map #[] 0)).alloc (.cells #[.bool false, .slice (some ⟨g, off, none⟩) F.length cap, .map (some w.heap.size), .map (some (wr.heap.size + 1))] 91)).heap[wr.heap.size + 1 + 1]? = some (.cells #[.bool false, .slice (some ⟨g, off, none⟩) F.length cap, .map (some w.heap.size), .map (some (wr.heap.size + 1))] 91 (0, 0)) := by
          have := heap_alloc_new ((wr.alloc (.cells #[.string ⟨xm.toArray⟩, .slice adp xp.length cp, .slice adb xb.length cb] 50)).alloc (.map #[] 0)) (.cells #[.bool false, .slice (some ⟨g, off, none⟩) F.length cap, .map (some w.heap.size), .map (some (wr.heap.size + 1))] 91)
          rwa [show ((wr.alloc (.cells #[.string ⟨xm.toArray⟩, .slice adp xp.length cp, .slice adb xb.length cb] 50)).alloc (.map #[] 0)).heap.size = wr.heap.size + 1 + 1 by simp] at this
        have hvX : VarsAt (((wr.alloc (.cells #[.string ⟨xm.toArray⟩, .slice adp xp.length cp, .slice adb xb.length cb] 50)).alloc (.map #[] 0)).alloc (.cells #[.bool false, .slice (some ⟨g, off, none⟩) F.length cap, .map (some w.heap.size), .map (some (wr.heap.size + 1))] 91)) (wr.heap.size + 1) [] [] := by
          have := varsAt_made (wr.alloc (.cells #[.string ⟨xm.toArray⟩, .slice adp xp.length cp, .slice adb xb.length cb] 50))
          rw [show (wr.alloc (.cells #[.string ⟨xm.toArray⟩, .slice adp xp.length cp, .slice adb xb.length cb] 50)).heap.size = wr.heap.size + 1 by simp] at this
          exact this.keep (Below.heap_alloc _ _ _ (by simp))
        have hbwX := bl_trans hb1 hb1.size hbX
        have hfun := HFUN.out _ (wr.heap.size + 1 + 1) (wr.heap.size + 1) ⟨HSS.out.below hbwX, hkX, HX.out.imp (fun _ h => h) (fun b (h : b < w.heap.size) => hbwX.block b h), hF, LL.out, HF1.out.keep (hbX.block _ hz1), hvX, (by omega), (by omega)⟩ hbwX
        rw [← HCT.out] at hfun
        have HFU := hidX hfun
        have HBX := hidX hbX
        have HSX := hidX hsX
        clear hfun hbX hsX hkX hvX hbwX HFUN
        go_wp2_with fail
        refine HFU.out.mono ?_
        rintro e w2 ⟨rfl, hb2⟩
        have hm2 : Below w1.heap.size w1 w2 := HBX.out.trans ((hb2.below (by rw [HSX.out]; omega)).mono (by omega))
        have hz2 := hm2.size
        clear a0 a1 a2 hlk1
        by_cases hc : fc = 0
        · subst hc
          rw [errV_zero]
          have hs2 : funsC F [] F = funsC F (F.take (q + 1)) (F.drop (q + 1)) := by rw [HST.out, if_neg (by simp)]
          have HS2 := hidX hs2
          clear hs2
          go_wp2
          go_roundw
          case rel => exact ⟨q + 1, by omega, by go_num, hm2, HS2.out⟩
          case measure => simp [intOf]; omega
        · rw [errV_ne a hc]
          have hs2 : funsC F [] F = some (fc, q) := by rw [HST.out, if_pos hc]
          have HS2 := hidX hs2
          have HC0 := hidX hc
          clear hs2 hc
          go_wp2
          go_ret
          exact pr_bad h8 HS2.out HC0.out (bl_trans hb1 hb1.size (hm2.alloc hz2 _)) rfl (by omega) (heap_alloc_new _ _)
      · have hqn : q = F.length := by omega
        subst hqn
        have hfn : funsC F [] F = none := by rw [HFC.out, List.drop_length, funsC]
        have HFN := hidX hfn
        clear hfn
        go_wp2
        go_ret
        exact pr_well h8 HFN.out (bl_trans hb1 hb1.size hbl) rfl
end Go.Proofs.YtcebpmaggnephabGreatDoor
