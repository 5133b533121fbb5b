/-
  Our own: the law TreeCuts, walked.
-/
import Derived.Test.YtdleiajkihijhabDoorTreeProg
import Derived.Test.YtdleiajkihijhabDoorTreeBrace
namespace Go.Proofs.YtdleiajkihijhabDoor
open Go.RowKit

theorem cuts_big (a : Nat → Addr) (s : ByteArray) (m : Int) (h : 1500 < s.size ∨ m < 0) (hs : s.size ≤ 9223372036854775807) (w : World) (hG : CutG w a) :
    Calls Tryd.prog 4 #[.string s, .int .i64 m] w fun e w' => e = .returned (.bool true) ∧ Below w.heap.size w w' := by
  by_cases h1 : 1500 < s.size
  · have h2 : (1500 : Int) < s.size := by omega
    go_enter Tryd.func4, Tryd.ntmps4
    go_wp2_with fail
    refine (treed_any a w hG).mono ?_
    rintro e w1 ⟨rfl, hb⟩
    go_wp2
    go_ret
    exact ⟨rfl, hb⟩
  · have h2 : ¬ (1500 : Int) < s.size := by omega
    have h3 : m < 0 := by omega
    go_enter Tryd.func4, Tryd.ntmps4
    go_wp2_with fail
    refine (treed_any a w hG).mono ?_
    rintro e w1 ⟨rfl, hb⟩
    go_wp2
    go_ret
    exact ⟨rfl, hb⟩
theorem take_toksC (T : List Tok) (m : Nat) : toksC (T.take m) = (toksC T).take (m * 3) := by
  induction T generalizing m with
  | nil => simp [toksC]
  | cons t r ih =>
    cases m with
    | zero => simp [toksC]
    | succ m =>
      have e : toksC (t :: r) = tokC t ++ toksC r := rfl
      rw [List.take_succ_cons, show toksC (t :: r.take m) = tokC t ++ toksC (r.take m) from rfl, ih, e]
      have hl : (tokC t).length = 3 := rfl
      rw [show (m + 1) * 3 = (tokC t).length + m * 3 by omega, List.take_length_add_append]
/-- Is it whole behind k tokens? -/
def wholeB (T : List Tok) : Nat → Bool
  | 0 => true
  | k + 1 => (dep T (k + 1) == 0) && ((tk T k).text == [125])
theorem wholeB_iff (T : List Tok) (k : Nat) : wholeB T k = true ↔ Whole T k := by
  cases k with
  | zero => exact ⟨fun _ => Or.inl rfl, fun _ => rfl⟩
  | succ k =>
    unfold wholeB Whole
    simp
theorem dep_bound (T : List Tok) : ∀ k : Nat, -(k : Int) ≤ dep T k ∧ dep T k ≤ k
  | 0 => by simp [dep]
  | k + 1 => by
    have := dep_bound T k
    rw [dep]
    split <;> split <;> omega
theorem toks_one (T : List Tok) : ∀ u ∈ toksC T, u.oneCell' = true := by
  intro u hu
  obtain ⟨t, _, ht⟩ := List.mem_flatMap.1 hu
  exact tok_one t.kind t.text t.pos u ht
theorem own_cells {w : World} {B n size g cap : Nat} {t : TypeId} {xs : List Value} (h : w.ownsRow B t size (.slice (some ⟨g, 0, none⟩) n cap) n xs) (j : Nat) (u : Value) (hu : xs[j]? = some u) : w.cell? ((⟨g, 0, none⟩ : Addr).add j) = some u := by
  have e : (⟨g, 0, none⟩ : Addr).add j = ⟨g, j, none⟩ := by
    unfold Addr.add; split
    · next h => rw [h]
    · simp
  have hj : j < xs.length := by
    rcases Nat.lt_or_ge j xs.length with hj | hj
    · exact hj
    · rw [List.getElem?_eq_none hj] at hu; cases hu
  rw [e, h.cellAt j (by have := h.1; omega)]; exact hu
set_option maxHeartbeats 1000000 in
set_option maxRecDepth 100000 in
theorem cuts_small (a : Nat → Addr) (s : ByteArray) (m : Nat) (h : s.size ≤ 1500) (hm : (m : Int) ≤ 9223372036854775807) (w : World) (hG : CutG w a) :
    Calls Tryd.prog 4 #[.string s, .int .i64 m] w fun e w' => e = .returned (.bool true) ∧ Below w.heap.size w w' := by
  obtain ⟨i0, hi, hz0, hz1, hz2⟩ := info_parts tok_info
  have h2 : ¬ (1500 : Int) < s.size := by omega
  have h3 : ¬ (m : Int) < 0 := by omega
  go_enter Tryd.func4, Tryd.ntmps4
  go_wp2_with fail
  refine (treed_any a w hG).mono ?_
  rintro e w1 ⟨rfl, hb1⟩
  have hG1 := hG.below hb1
  go_wp2_with fail
  refine (read_any a s (by omega) w1 hG1.lex).mono ?_
  rintro e w2 ⟨T, er, hsc, hb2, hx⟩
  have hG2 := hG1.below hb2
  have b2 := bl_trans hb1 hb1.size hb2
  rcases hx with ⟨rfl, hlen, v, rfl, ho⟩ | ⟨pa, ba, rfl, rfl, _, _⟩ | ⟨_, hl, rfl⟩
  · have HGd := hid hsc.good
    obtain ⟨ad, cap, rfl⟩ := tokEmpty ho
    have htv := toksV_own ho (Nat.le_refl _)
    by_cases hmT : (T.length : Int) < m
    · clear hsc ho htv
      go_wp2
      go_ret
      exact ⟨rfl, b2⟩
    · have hmT2 : m ≤ T.length := by omega
      have hlen2 : (T.length : Int) ≤ 1000 := by omega
      have HTV := hid htv
      have HO := hid ho
      clear hsc htv ho
      go_wp2_with fail
      refine (parse_any (a := a) HGd.out hlen hG2.tree HTV.out).mono ?_
      rintro e w3 ⟨hb3, hp3⟩
      have b3 := bl_trans b2 b2.size hb3
      have hG3 := hG2.below hb3
      cases hP : parseT T with
      | out => rw [hP] at hp3; exact hp3.elim
      | bad c k =>
        rw [hP] at hp3
        obtain ⟨b, rfl, _, _⟩ := hp3
        go_wp2
        go_ret
        exact ⟨rfl, b3⟩
      | ok P j =>
        rw [hP] at hp3
        obtain ⟨adp, np, cp, xp, rfl, hrow, _⟩ := hp3
        have hnp : np = P.length := by obtain ⟨_, _, e, _⟩ := hrow; injection e
        subst hnp
        obtain ⟨hcw, hcn⟩ := parse_cut HGd.out hlen hP m hmT2
        have ho3 := owns_below HO.out hb3
        have HCW := hid hcw
        have HCN := hid hcn
        have HPP := hid hP
        clear hcw hcn hP hrow
        rcases id ho3 with ⟨_, ⟨e, h0⟩ | ⟨g, cap', cur, e, hge, hgb, hnc, hcm, _⟩⟩
        · have hT : T = [] := List.length_eq_zero_iff.1 h0
          subst hT
          obtain rfl : m = 0 := by simpa using hmT2
          injection e with e1 e2 e3
          subst e1 e3
          have hP0 : P = [] := by
            have := HPP.out
            rw [show parseT [] = .ok [] 0 by kernel_rfl] at this
            cases this; rfl
          subst hP0
          have hnil : ∀ W : World, ToksV W (.slice none 0 0) [] W.heap.size := fun W => ⟨none, 0, rfl, fun hn => absurd rfl hn⟩
          have hp0 : parseT [] = .ok [] 0 := by kernel_rfl
          have HN := hid hnil
          have HP0 := hid hp0
          clear ho3 hnil hp0
          go_wp2_with fail
          refine (parse_any (a := a) (T := []) (fun t ht => by cases ht) (by decide) hG3.tree (HN.out w3)).mono ?_
          rintro e w4 ⟨hb4, hp4⟩
          rw [HP0.out] at hp4
          obtain ⟨ad1, n1, c1, x1, rfl, hrow1, _⟩ := hp4
          obtain rfl : n1 = 0 := by obtain ⟨_, _, e, _⟩ := hrow1; injection e
          have hG4 := hG3.below hb4
          have b4 := bl_trans b3 b3.size hb4
          clear hrow1
          go_wp2_with fail
          go_loop [12, 13, 14] (fun vw vd vi => vi = .int .i64 0 ∧ vd = .int .i64 0 ∧ vw = .bool true) (fun _ _ _ => 0)
          case atStart => exact ⟨rfl, rfl, rfl⟩
          case round =>
            obtain ⟨rfl, rfl, rfl⟩ := hrel
            go_wp2_with fail
            refine (parse_any (a := a) (T := []) (fun t ht => by cases ht) (by decide) hG4.tree (HN.out w4)).mono ?_
            rintro e w5 ⟨hb5, hp5⟩
            rw [HP0.out] at hp5
            obtain ⟨ad2, n2, c2, x2, rfl, hrow2, _⟩ := hp5
            obtain rfl : n2 = 0 := by obtain ⟨_, _, e, _⟩ := hrow2; injection e
            clear hrow2
            go_wp2
            go_ret
            exact ⟨rfl, bl_trans b4 b4.size hb5⟩
        · injection e with e1 e2 e3
          subst e1 e3
          have hmc : m ≤ cap := by omega
          have hmc2 : (m : Int) ≤ cap := by omega
          have hcap : (cap : Int) ≤ 9223372036854775807 := by unfold maxLen at hcm; omega
          have HO3 := hid ho3
          have htk : ∀ j u, (toksC (T.take m))[j]? = some u → w3.cell? ((⟨g, 0, none⟩ : Addr).add j) = some u := fun j u hu => by
            rw [take_toksC] at hu
            exact own_cells ho3 j u (by rw [List.getElem?_take] at hu; split at hu; exact hu; cases hu)
          have htl : (toksC (T.take m)).length = m * 3 := by rw [toksC_len, List.length_take, Nat.min_eq_left hmT2]
          have HTK := hid htk
          have HTL := hid htl
          clear ho3 htk htl
          go_wp2_with (at_builtin; refine wpList_append_own _ rfl _ _ 23 rfl w3.heap.size 29 i0 _ 3 40 Tryd.underlying23 hi hz0 hz1 hz2 rfl (by decide) _ 0 [] rfl ⟨rfl, Or.inl ⟨rfl, rfl⟩⟩ ⟨g, 0, none⟩ m cap (toksC (T.take m)) rfl HTL.out HTK.out (toks_one _) (by unfold maxLen; omega) (by omega) (Nat.le_refl _) ?_; intro v' w4 hown' hgrow _)
          have hg' : w3.grownBy w4 none := hgrow
          have hb4 : Below w3.heap.size w3 w4 := (Below.refl w3.heap.size w3).grown hg' (Nat.le_refl _) (fun k hk => by cases hk)
          have ho4 : w4.ownsRow w3.heap.size 29 3 v' (T.take m).length (toksC (T.take m)) := by
            rw [List.length_take, Nat.min_eq_left hmT2]; simpa using hown'
          have htv4 := toksV_own ho4 (Nat.le_refl _)
          have hG4 := hG3.below hb4
          have b4 := bl_trans b3 b3.size hb4
          have hlt4 : (T.take m).length ≤ 1000 := by rw [List.length_take]; omega
          have ho5 := owns_below HO3.out hb4
          have HO5 := hid ho5
          clear hgrow hg' ho4 hown' ho5 HO3 HTK HTL
          refine (parse_any (a := a) (fun t ht => HGd.out t (List.mem_of_mem_take ht)) hlt4 hG4.tree htv4).mono ?_
          rintro e w5 ⟨hb5, hp5⟩
          have b5 := bl_trans b4 b4.size hb5
          have hG5 := hG4.below hb5
          have ho6 := owns_below HO5.out hb5
          have hc5 : ∀ k, k < m → w5.cell? ⟨g, k * 3 + 1, none⟩ = some (.string ⟨(tk T k).text.toArray⟩) := fun k hk => by
            rw [ho6.cellAt _ (by omega), tk_at (by omega)]; exact (toksC_get T k (by omega)).2.1
          have HC5 := hid hc5
          have HO6 := hid ho6
          clear hc5 ho6
          cases hQ : parseT (T.take m) with
          | out => rw [hQ] at hp5; exact hp5.elim
          | bad c k =>
            rw [hQ] at hp5
            obtain ⟨b, rfl, _, _⟩ := hp5
            have hwh : wholeB T m = false := by
              cases hb : wholeB T m with
              | false => rfl
              | true =>
                obtain ⟨P1, P2, _, e1, _⟩ := HCW.out ((wholeB_iff T m).1 hb)
                rw [e1] at hQ; cases hQ
            have HWH := hid hwh
            clear hwh
            go_wp2_with fail
            go_loop [12, 13, 14] (fun vw vd vi => ∃ (k : Nat), k ≤ m ∧ vi = .int .i64 k ∧ vd = .int .i64 (dep T k) ∧ vw = .bool (wholeB T k)) (fun _ _ vi => m - (intOf vi).toNat)
            case atStart => exact ⟨0, Nat.zero_le _, rfl, rfl, rfl⟩
            case round =>
              obtain ⟨k, hk, rfl, rfl, rfl⟩ := hrel
              by_cases hkm : k < m
              · have hkm2 : (k : Int) < m := by omega
                have hkT : (k : Int) < T.length := by omega
                have hc := HC5.out k (by omega)
                have hd := dep_bound T k
                have hdn : dep T (k + 1) = (dep T k + if (tk T k).text = [123] then 1 else 0) - if (tk T k).text = [125] then 1 else 0 := rfl
                have hwn : wholeB T (k + 1) = ((dep T (k + 1) == 0) && ((tk T k).text == [125])) := rfl
                have hdd := dep_bound T (k + 1)
                generalize (tk T k).text = tx at hc hdn hwn
                have HWN := hid hwn
                have HDN := hid hdn
                generalize dep T k = dk at hd HDN
                generalize wholeB T k = wk
                clear hdn hwn
                by_cases t1 : tx = [123]
                · subst t1
                  have D1 := hid (show dep T (k + 1) = dk + 1 by have := HDN.out; simp at this; omega)
                  have W1 := hid (show wholeB T (k + 1) = false by have := HWN.out; simpa using this)
                  by_cases hz : dk + 1 = 0
                  · have hz' : (dk + 1 == 0) = true := by simpa using hz
                    clear hz
                    go_wp2
                    exact ⟨⟨k + 1, by omega, by go_num, by rw [D1.out], by rw [W1.out]⟩, by simp [intOf]; omega⟩
                  · have hz' : (dk + 1 == 0) = false := by simpa using hz
                    clear hz
                    go_wp2
                    exact ⟨⟨k + 1, by omega, by go_num, by rw [D1.out], by rw [W1.out]⟩, by simp [intOf]; omega⟩
                · by_cases t2 : tx = [125]
                  · subst t2
                    have D1 := hid (show dep T (k + 1) = dk - 1 by have := HDN.out; simp at this; omega)
                    by_cases hz : dk - 1 = 0
                    · have hz' : (dk - 1 == 0) = true := by simpa using hz
                      have W1 := hid (show wholeB T (k + 1) = true by have := HWN.out; rw [D1.out, hz'] at this; simpa using this)
                      clear hz
                      go_wp2
                      exact ⟨⟨k + 1, by omega, by go_num, by rw [D1.out], by rw [W1.out]⟩, by simp [intOf]; omega⟩
                    · have hz' : (dk - 1 == 0) = false := by simpa using hz
                      have W1 := hid (show wholeB T (k + 1) = false by have := HWN.out; rw [D1.out, hz'] at this; simpa using this)
                      clear hz
                      go_wp2
                      exact ⟨⟨k + 1, by omega, by go_num, by rw [D1.out], by rw [W1.out]⟩, by simp [intOf]; omega⟩
                  · have n1 := str_ne t1
                    have n2 := str_ne t2
                    have D1 := hid (show dep T (k + 1) = dk by have := HDN.out; simp [t1, t2] at this; omega)
                    have W1 := hid (show wholeB T (k + 1) = false by have := HWN.out; rw [n2] at this; simpa using this)
                    clear t1 t2
                    by_cases hz : dk = 0
                    · have hz' : (dk == 0) = true := by simpa using hz
                      clear hz
                      go_wp2
                      exact ⟨⟨k + 1, by omega, by go_num, by rw [D1.out], by rw [W1.out]⟩, by simp [intOf]; omega⟩
                    · have hz' : (dk == 0) = false := by simpa using hz
                      clear hz
                      go_wp2
                      exact ⟨⟨k + 1, by omega, by go_num, by rw [D1.out], by rw [W1.out]⟩, by simp [intOf]; omega⟩
              · obtain rfl : k = m := by omega
                have hkm2 : ¬ (k : Int) < k := by omega
                rw [HWH.out]
                go_wp2
                go_ret
                exact ⟨rfl, b5⟩
          | ok Q k =>
            rw [hQ] at hp5
            obtain ⟨adq, nq, cq, xq, rfl, hrowq, _⟩ := hp5
            have hnq : nq = Q.length := by obtain ⟨_, _, e, _⟩ := hrowq; injection e
            subst hnq
            have hW := HCN.out Q k hQ
            have hwh : wholeB T m = true := (wholeB_iff T m).2 hW
            obtain ⟨P1, P2, hPP, e1, e2⟩ := HCW.out hW
            rw [e1] at hQ
            cases hQ
            have hPl : P.length = Q.length + P2.length := by rw [hPP, List.length_append]
            have HWH := hid hwh
            have HE2 := hid e2
            have HPL := hid hPl
            clear hwh hrowq hW e1 e2 hPP hPl
            go_wp2_with fail
            go_loop [12, 13, 14] (fun vw vd vi => ∃ (k : Nat), k ≤ m ∧ vi = .int .i64 k ∧ vd = .int .i64 (dep T k) ∧ vw = .bool (wholeB T k)) (fun _ _ vi => m - (intOf vi).toNat)
            case atStart => exact ⟨0, Nat.zero_le _, rfl, rfl, rfl⟩
            case round =>
              obtain ⟨k, hk, rfl, rfl, rfl⟩ := hrel
              by_cases hkm : k < m
              · have hkm2 : (k : Int) < m := by omega
                have hkT : (k : Int) < T.length := by omega
                have hc := HC5.out k (by omega)
                have hd := dep_bound T k
                have hdn : dep T (k + 1) = (dep T k + if (tk T k).text = [123] then 1 else 0) - if (tk T k).text = [125] then 1 else 0 := rfl
                have hwn : wholeB T (k + 1) = ((dep T (k + 1) == 0) && ((tk T k).text == [125])) := rfl
                have hdd := dep_bound T (k + 1)
                generalize (tk T k).text = tx at hc hdn hwn
                have HWN := hid hwn
                have HDN := hid hdn
                generalize dep T k = dk at hd HDN
                generalize wholeB T k = wk
                clear hdn hwn
                by_cases t1 : tx = [123]
                · subst t1
                  have D1 := hid (show dep T (k + 1) = dk + 1 by have := HDN.out; simp at this; omega)
                  have W1 := hid (show wholeB T (k + 1) = false by have := HWN.out; simpa using this)
                  by_cases hz : dk + 1 = 0
                  · have hz' : (dk + 1 == 0) = true := by simpa using hz
                    clear hz
                    go_wp2
                    exact ⟨⟨k + 1, by omega, by go_num, by rw [D1.out], by rw [W1.out]⟩, by simp [intOf]; omega⟩
                  · have hz' : (dk + 1 == 0) = false := by simpa using hz
                    clear hz
                    go_wp2
                    exact ⟨⟨k + 1, by omega, by go_num, by rw [D1.out], by rw [W1.out]⟩, by simp [intOf]; omega⟩
                · by_cases t2 : tx = [125]
                  · subst t2
                    have D1 := hid (show dep T (k + 1) = dk - 1 by have := HDN.out; simp at this; omega)
                    by_cases hz : dk - 1 = 0
                    · have hz' : (dk - 1 == 0) = true := by simpa using hz
                      have W1 := hid (show wholeB T (k + 1) = true by have := HWN.out; rw [D1.out, hz'] at this; simpa using this)
                      clear hz
                      go_wp2
                      exact ⟨⟨k + 1, by omega, by go_num, by rw [D1.out], by rw [W1.out]⟩, by simp [intOf]; omega⟩
                    · have hz' : (dk - 1 == 0) = false := by simpa using hz
                      have W1 := hid (show wholeB T (k + 1) = false by have := HWN.out; rw [D1.out, hz'] at this; simpa using this)
                      clear hz
                      go_wp2
                      exact ⟨⟨k + 1, by omega, by go_num, by rw [D1.out], by rw [W1.out]⟩, by simp [intOf]; omega⟩
                  · have n1 := str_ne t1
                    have n2 := str_ne t2
                    have D1 := hid (show dep T (k + 1) = dk by have := HDN.out; simp [t1, t2] at this; omega)
                    have W1 := hid (show wholeB T (k + 1) = false by have := HWN.out; rw [n2] at this; simpa using this)
                    clear t1 t2
                    by_cases hz : dk = 0
                    · have hz' : (dk == 0) = true := by simpa using hz
                      clear hz
                      go_wp2
                      exact ⟨⟨k + 1, by omega, by go_num, by rw [D1.out], by rw [W1.out]⟩, by simp [intOf]; omega⟩
                    · have hz' : (dk == 0) = false := by simpa using hz
                      clear hz
                      go_wp2
                      exact ⟨⟨k + 1, by omega, by go_num, by rw [D1.out], by rw [W1.out]⟩, by simp [intOf]; omega⟩
              · obtain rfl : k = m := by omega
                have hkm2 : ¬ (k : Int) < k := by omega
                rw [HWH.out]
                have hdl : (T.drop k).length = T.length - k := List.length_drop
                have htA : ToksV w5 (.slice (some ⟨g, k * 3, none⟩) (T.length - k) (cap - k)) (T.drop k) w5.heap.size := by
                  refine ⟨_, _, by rw [hdl], fun _ => ⟨g, k * 3, rfl, (HO6.out.lt g rfl).2, ⟨fun i hi => ?_, fun i hi => ?_, fun i hi => ?_⟩⟩⟩
                  · rw [show k * 3 + i * 3 = (k + i) * 3 by omega, HO6.out.cellAt _ (by omega), List.getElem_drop]; exact (toksC_get T (k + i) (by omega)).1
                  · rw [show k * 3 + i * 3 + 1 = (k + i) * 3 + 1 by omega, HO6.out.cellAt _ (by omega), List.getElem_drop]; exact (toksC_get T (k + i) (by omega)).2.1
                  · rw [show k * 3 + i * 3 + 2 = (k + i) * 3 + 2 by omega, HO6.out.cellAt _ (by omega), List.getElem_drop]; exact (toksC_get T (k + i) (by omega)).2.2
                have htB : cap = k → ToksV w5 (.slice (some ⟨g, 0, none⟩) (T.length - k) 0) (T.drop k) w5.heap.size := fun e => by
                  refine ⟨_, _, by rw [hdl], fun hn => absurd (List.length_eq_zero_iff.1 (by rw [hdl]; omega)) hn⟩
                have hpb : P.length ≤ 1000 := by
                  obtain ⟨Q', e, hc, _⟩ := funs_chain _ _ _ _ _ HPP.out
                  have h1 := hc.le
                  have h2 := parse_to T hlen
                  rw [HPP.out] at h2
                  have h3 := h2.2
                  rw [e]; simp; omega
                have hpl := HPL.out
                have hq1 : (Q.length : Int) ≤ 1000 := by omega
                have hq2 : (P2.length : Int) ≤ 1000 := by omega
                have hq3 : (P.length : Int) = (Q.length : Int) + (P2.length : Int) := by omega
                have HTA := hid htA
                have HTB := hid htB
                have HQ3 := hid hq3
                clear htA htB hq3 hpl hdl
                go_wp2_with fail
                all_goals
                  refine (parse_any (a := a) (T := T.drop k) (fun t ht => HGd.out t (List.mem_of_mem_drop ht)) (by rw [List.length_drop]; omega) hG5.tree (by first | exact HTA.out | exact HTB.out (by omega))).mono ?_
                  rintro e w6 ⟨hb6, hp6⟩
                  rw [HE2.out] at hp6
                  obtain ⟨adr, nr, cr, xr, rfl, hrowr, _⟩ := hp6
                  have hnr : nr = P2.length := by obtain ⟨_, _, e, _⟩ := hrowr; injection e
                  subst hnr
                  have hq4 : ((Q.length : Int) + (P2.length : Int) == (P.length : Int)) = true := by simpa using HQ3.out.symm
                  clear hrowr
                  go_wp2
                  go_ret
                  exact ⟨by first | rfl | simp [hq4], bl_trans b5 b5.size hb6⟩
  · clear hsc
    go_wp2
    go_ret
    exact ⟨rfl, b2⟩
  · clear hsc
    go_wp2
    go_ret
    exact ⟨rfl, b2⟩
theorem treeCuts_any (a : Nat → Addr) (s : ByteArray) (m : Int) (hs : s.size ≤ 9223372036854775807) (hm : m ≤ 9223372036854775807) (w : World) (hG : CutG w a) :
    Calls Tryd.prog 4 #[.string s, .int .i64 m] w fun e w' => e = .returned (.bool true) ∧ Below w.heap.size w w' := by
  by_cases h : 1500 < s.size ∨ m < 0
  · exact cuts_big a s m h hs w hG
  · obtain ⟨k, rfl⟩ : ∃ k : Nat, m = k := ⟨m.toNat, by omega⟩
    exact cuts_small a s k (by omega) hm w hG
end Go.Proofs.YtdleiajkihijhabDoor
