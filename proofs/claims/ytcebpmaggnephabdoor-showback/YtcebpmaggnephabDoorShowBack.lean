/-
  Our own: the law ShowBack: of a program that was parsed the text, read and parsed, is the program; its text is the same again.
-/
import Derived.Test.YtcebpmaggnephabDoorShown
import Derived.Test.YtcebpmaggnephabDoorTreeProg
namespace Go.Proofs.YtcebpmaggnephabDoor
open Go.RowKit

theorem ShG.next {w w' : World} {a : Nat → Addr} (h : ShG w.heap.size w a) (hb : Below w.heap.size w w') : ShG w'.heap.size w' a := (h.on hb).up hb.size
theorem text_opaque (l : List UInt8) : ∃ t : ByteArray, t = ⟨l.toArray⟩ ∧ t.size = l.length ∧ t.data.toList = l := ⟨_, rfl, size_toArray l, by simp⟩
set_option maxRecDepth 100000 in
set_option maxHeartbeats 2000000 in
theorem showBack_any (a : Nat → Addr) (s : ByteArray) (w : World) (hG : CutG w a) (hS : ShG w.heap.size w a) :
    Calls Tryd.prog 6 #[.string s] w fun e w' => e = .returned (.bool true) ∧ Below w.heap.size w w' := by
  have HG := hidS hG
  have HS := hidS hS
  clear hG hS
  go_enter Tryd.func6, Tryd.ntmps6
  go_wp2_with fail
  refine (shown_any HS.out).mono ?_
  rintro e w0 ⟨rfl, hb0⟩
  by_cases hsz : s.size ≤ 1500
  · have hsz' : ¬ ((1500 : Int) < (s.size : Int)) := by omega
    go_wp2_with fail
    refine (read_any a s (by omega) _ (HG.out.below hb0).lex).mono ?_
    rintro e w1 ⟨ts, er, hsc, hb1, hx⟩
    have hb01 := bl_trans hb0 hb0.size hb1
    rcases hx with ⟨rfl, hlen, v, rfl, ho⟩ | ⟨p, b, rfl, rfl, _, _⟩ | ⟨rfl, hl, rfl⟩
    · have htv := toksV_own ho (Nat.le_refl _)
      have hts : ts.length ≤ 1000 := hlen
      obtain ⟨adl, capl, rfl, _⟩ := id htv
      have hp := parse_any (a := a) hsc.good hts (HG.out.below hb01).tree htv
      have HP := hidS hp
      have HGD := hidS hsc.good
      clear hp ho htv hsc
      go_wp2_with fail
      refine HP.out.mono ?_
      rintro e w2 ⟨hb2, h2⟩
      have hb02 := bl_trans hb01 hb01.size hb2
      cases hpt : parseT ts with
      | out => rw [hpt] at h2; exact h2.elim
      | bad c k =>
        rw [hpt] at h2
        obtain ⟨b, rfl, _, _⟩ := h2
        clear hpt
        go_wp2
        go_ret
        exact ⟨rfl, hb02⟩
      | ok P j =>
        rw [hpt] at h2
        obtain ⟨ad, n, c, xs, rfl, h3, h4⟩ := h2
        obtain ⟨U, hU1, hU2, hU3, hU4⟩ := text_back HGD.out hts hpt
        have hPF : ∀ f ∈ P, PF f := by
          obtain ⟨Q, hq, k1, _, _⟩ := made_funs HGD.out 4020 [] 0 P j hpt
          rw [List.nil_append] at hq
          subst hq
          exact k1
        have hlT : (textP P).length ≤ 50000 := by
          have h1 := short_prog P hPF
          have h2 : (showP P).length = U.length := by rw [← hU4, List.length_map]
          omega
        have hnP := prog_len P
        have hn : n = P.length := by obtain ⟨_, _, e, _⟩ := id h3; injection e
        subst hn
        have hpr := prog_any (a := a) hPF (HS.out.next hb02) (h3.imp (fun b hb => hb.2) (fun _ _ => rfl)) (RepFs.imp (fun b hb => hb.2) (fun _ _ => rfl) _ _ h4) (by omega) (by omega)
        obtain ⟨tt, ht1, ht2, ht3⟩ := text_opaque (textP P)
        rw [← ht1] at hpr
        have HPR := hidS hpr
        have HU1 := hidS hU1
        have HU3 := hidS hU3
        have HPF := hidS hPF
        have HT1 := hidS ht1
        have HT2 := hidS ht2
        have HT3 := hidS ht3
        clear hpr hU1 hU3 hU4 hPF ht1 ht2 ht3 h3 h4 hpt
        go_wp2_with fail
        refine HPR.out.mono ?_
        rintro e w3 ⟨rfl, hb3⟩
        have hb03 := bl_trans hb02 hb02.size hb3
        by_cases hc : (textP P).length ≤ 4000
        · have hc' : ¬ ((4000 : Int) < (tt.size : Int)) := by have := HT2.out; omega
          have hrd := read_any a tt (by have := HT2.out; omega) _ (HG.out.below hb03).lex
          have HR := hidS hrd
          clear hrd
          go_wp2_with fail
          refine HR.out.mono ?_
          rintro e w4 ⟨ts2, er2, hsc2, hb4, hx2⟩
          have hb04 := bl_trans hb03 hb03.size hb4
          rw [HT3.out] at hsc2
          obtain ⟨rfl, rfl⟩ := HU1.out.det hsc2
          rcases hx2 with ⟨_, _, v2, rfl, ho2⟩ | ⟨p, b, h, _⟩ | ⟨_, h, _⟩
          · have htv2 := toksV_own ho2 (Nat.le_refl _)
            obtain ⟨adm, capm, rfl, _⟩ := id htv2
            have hp2 := parse_any (a := a) hsc2.good (by omega) (HG.out.below hb04).tree htv2
            have HP2 := hidS hp2
            clear hp2 ho2 htv2 hsc2
            go_wp2_with fail
            refine HP2.out.mono ?_
            rintro e w5 ⟨hb5, h5⟩
            have hb05 := bl_trans hb04 hb04.size hb5
            rw [HU3.out] at h5
            obtain ⟨ad5, n5, c5, xs5, rfl, h6, h7⟩ := h5
            have hn5 : n5 = P.length := by obtain ⟨_, _, e, _⟩ := id h6; injection e
            subst hn5
            have hpr2 := prog_any (a := a) HPF.out (HS.out.next hb05) (h6.imp (fun b hb => hb.2) (fun _ _ => rfl)) (RepFs.imp (fun b hb => hb.2) (fun _ _ => rfl) _ _ h7) (by omega) (by omega)
            rw [← HT1.out] at hpr2
            have HPR2 := hidS hpr2
            have hUl : (U.length : Int) ≤ (ts.length : Int) := by omega
            clear hpr2 h6 h7
            go_wp2_with fail
            refine HPR2.out.mono ?_
            rintro e w6 ⟨rfl, hb6⟩
            go_wp2
            go_ret
            exact ⟨rfl, bl_trans hb05 hb05.size hb6⟩
          · cases h
          · omega
        · have hc' : (4000 : Int) < (tt.size : Int) := by have := HT2.out; omega
          go_wp2
          go_ret
          exact ⟨rfl, hb03⟩
    · clear hsc
      go_wp2
      go_ret
      exact ⟨rfl, hb01⟩
    · clear hsc
      go_wp2
      go_ret
      exact ⟨rfl, hb01⟩
  · have hsz' : (1500 : Int) < (s.size : Int) := by omega
    go_wp2
    go_ret
    exact ⟨rfl, hb0⟩
end Go.Proofs.YtcebpmaggnephabDoor
