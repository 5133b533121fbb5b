/-
  Our own: functions that came in: are they too large for a statement?
-/
import Derived.Test.YtcebpmaggnephabGreatDoorCheckSize
namespace Go.Proofs.YtcebpmaggnephabGreatDoor
open Go.RowKit

/-- What lies at a function of a row. -/
structure X3 (w : World) (g off i : Nat) (m : List UInt8) (p b : Value) : Prop where
  c0 : w.cell? ⟨g, off + i * 3, none⟩ = some (.string ⟨m.toArray⟩)
  c1 : w.cell? ⟨g, off + i * 3 + 1, none⟩ = some p
  c2 : w.cell? ⟨g, off + i * 3 + 2, none⟩ = some b
theorem X3.keep {w w' : World} {g off i : Nat} {m : List UInt8} {p b : Value} (h : X3 w g off i m p b) (hk : w'.heap[g]? = w.heap[g]?) : X3 w' g off i m p b := by
  have e : ∀ j, w'.cell? ⟨g, j, none⟩ = w.cell? ⟨g, j, none⟩ := fun j => World.cell?_of_block (w := w) (a := ⟨g, j, none⟩) hk
  exact ⟨(e _).trans h.c0, (e _).trans h.c1, (e _).trans h.c2⟩
theorem x3_at {A : Nat → Prop} {w : World} {ad : Option Addr} {l c n i : Nat} {xs : List Value} {m : List UInt8} {p b : Value} (h : XRow A w (.slice ad l c) n xs) (hi : i < n) (hx : ∀ j, j < 3 → xs[i * 3 + j]? = ([.string ⟨m.toArray⟩, p, b] : List Value)[j]?) :
    ∃ g off, ad = some ⟨g, off, none⟩ ∧ A g ∧ X3 w g off i m p b := by
  obtain ⟨g, off, rfl, hA, h3⟩ := h.el 3 hi hx
  simp only [← Nat.add_assoc] at h3
  exact ⟨g, off, rfl, hA, h3 0 _ (by decide) rfl, h3 1 _ (by decide) rfl, h3 2 _ (by decide) rfl⟩
theorem texts_get {l : List (List UInt8)} {i : Nat} (hi : i < l.length) : (textsC l)[i]? = some (.string ⟨l[i].toArray⟩) := by simp [textsC, hi]
/-- A text of a row of texts. -/
theorem XRow.text {A : Nat → Prop} {w : World} {ad : Option Addr} {n c i : Nat} {l : List (List UInt8)} (h : XRow A w (.slice ad n c) l.length (textsC l)) (hi : i < l.length) : ∃ g off, ad = some ⟨g, off, none⟩ ∧ A g ∧ w.cell? ⟨g, off + i, none⟩ = some (.string ⟨l[i].toArray⟩) := by
  obtain ⟨g, off, h1, _, h2, h3⟩ := h.get (by omega)
  exact ⟨g, off, h1, h2, h3 i _ (texts_get hi)⟩
set_option maxRecDepth 100000 in
set_option maxHeartbeats 2000000 in
theorem large_any (l : List Fu) (most : Nat) (hmost : most < 1000) (w : World) (v : Value) (hX : XLF (InH w) w v l) (hl : l.length ≤ 9223372036854775807) (hO : ∀ f ∈ l, OkF f) :
    Calls Tryz.prog 13 #[v, .int .i64 most] w fun e w' => ∃ r : Nat, e = .returned (.int .i64 r) ∧ (r = 1 ∨ (r = 0 ∧ l.length ≤ 10 ∧ (∀ f ∈ l, LowF f) ∧ nodesF l ≤ most)) ∧ Below w.heap.size w w' := by
  obtain ⟨xs, hr, hk⟩ := hX
  obtain ⟨ad, cap, rfl⟩ := hr.is
  have hl' : (l.length : Int) ≤ 9223372036854775807 := by omega
  have hmost' : (most : Int) < 1000 := by omega
  have R := hidX hr
  have KK := hidX hk
  have OK := hidX hO
  clear hr hk hO
  by_cases c1 : 10 < l.length
  · have c1' : (10 : Int) < l.length := by omega
    go_enter Tryz.func13, Tryz.ntmps13
    go_wp2
    go_ret
    exact ⟨1, rfl, Or.inl rfl, by (repeat (first | exact Below.refl _ _ | assumption | refine Below.drew ?_ | refine Below.trans ?_ (drewN_below' _ _ _) | refine Below.setCell ?_ (by first | (simp; done) | (simp; omega)) _ | refine Below.alloc ?_ (by first | (simp; done) | (simp; omega)) _))⟩
  · have c1' : ¬ (10 : Int) < l.length := by omega
    go_enter Tryz.func13, Tryz.ntmps13
    go_wp2_with fail
    go_loopw [5, 6] (fun vn vi wr => ∃ q r : Nat, q ≤ l.length ∧ vi = .int .i64 q ∧ vn = .int .i64 r ∧ Below w.heap.size w wr ∧ r ≤ most ∧ Hid ((∀ f ∈ l.take q, LowF f) ∧ nodesF (l.take q) ≤ r)) (fun _ vi _ => l.length - (intOf vi).toNat)
    case atStart => exact ⟨0, 0, Nat.zero_le _, rfl, rfl, by (repeat (first | exact Below.refl _ _ | assumption | refine Below.drew ?_ | refine Below.trans ?_ (drewN_below' _ _ _) | refine Below.setCell ?_ (by first | (simp; done) | (simp; omega)) _ | refine Below.alloc ?_ (by first | (simp; done) | (simp; omega)) _)), by omega, ⟨by simp, by simp [nodesF]⟩⟩
    case round =>
      obtain ⟨q, r, hq, rfl, rfl, hbl, hrb, HL⟩ := hrel
      have hrI : (r : Int) ≤ most := by omega
      by_cases hlt : q < l.length
      · have hlt' : (q : Int) < (l.length : Int) := by omega
        obtain ⟨ka, e1, e2⟩ := KK.out.at hlt
        have hox := OK.out _ (List.getElem_mem hlt)
        have htk : l.take (q + 1) = l.take q ++ [l[q]] := List.take_succ_eq_append_getElem hlt
        generalize l[q] = x at e1 hox htk
        obtain ⟨xm, xp, xb⟩ := x
        obtain ⟨pv, bv, bs, rfl, r2, r3, r4⟩ := e1
        obtain ⟨o1, o2, o3, o4, o5⟩ := hox
        simp only at r2 r3 r4 o1 o2 o3 o4 o5 e2
        obtain ⟨ga, off, rfl, hga, g1⟩ := x3_at R.out hlt e2
        have o1' : (xm.length : Int) ≤ 9223372036854775807 := by omega
        have o2' : (xp.length : Int) ≤ 9223372036854775807 := by omega
        have O3 := hidX o3
        have hB : ∀ X, Below w.heap.size w X → Calls Tryz.prog 37 #[bv, .int .i64 0] X fun e w' => ∃ r2 : Nat, e = .returned (.int .i64 r2) ∧ r2 ≤ 2621420000 ∧ (r2 < 1000 → xb.length ≤ 30 ∧ LowSs xb ∧ nodesS xb ≤ r2) ∧ Below w.heap.size w w' := fun X hX => by
          refine (sizes_any xb 0 X bv (by omega) ⟨bs, r3.imp (inH_up hX) (keepH hX), XSs.imp (inH_up hX) (keepH hX) _ _ r4⟩ o4 o5).mono ?_
          rintro e w2 ⟨r2, rfl, h1, h2, hb⟩
          exact ⟨r2, rfl, h1, h2, bl_trans hX hX.size hb⟩
        obtain ⟨adp, cp, rfl⟩ := r2.is
        obtain ⟨adb, cb, rfl⟩ := r3.is
        have HB := hidX hB
        have HTK := hidX htk
        have HP := hidX r2
        clear hB r3 r4 e2 htk o3 o5 r2
        have k1 := g1.keep (hbl.block ga hga)
        have a0 := k1.c0
        have a1 := k1.c1
        have a2 := k1.c2
        clear k1 g1
        by_cases d1 : 8 < xp.length
        · have d1' : (8 : Int) < xp.length := by omega
          go_wp2
          go_ret
          exact ⟨1, rfl, Or.inl rfl, hbl⟩
        · have d1' : ¬ (8 : Int) < xp.length := by omega
          by_cases d2 : 20 < xm.length
          · have d2' : (20 : Int) < xm.length := by omega
            go_wp2
            go_ret
            exact ⟨1, rfl, Or.inl rfl, hbl⟩
          · have d2' : ¬ (20 : Int) < xm.length := by omega
            go_wp2_with fail
            go_loop [7] (fun vk => ∃ p : Nat, p ≤ xp.length ∧ vk = .int .i64 p ∧ Hid (∀ t ∈ xp.take p, t.length ≤ 20)) (fun vk => xp.length - (intOf vk).toNat)
            case atStart => exact ⟨0, Nat.zero_le _, rfl, by intro t ht; simp at ht⟩
            case round =>
              obtain ⟨p, hp, rfl, HQ⟩ := hrel
              by_cases hpl : p < xp.length
              · have hpl' : (p : Int) < xp.length := by omega
                obtain ⟨gp, op, rfl, hgp, hc⟩ := HP.out.text hpl
                have b0 := (hbl.cell (p := ⟨gp, _, none⟩) hgp).trans hc
                have hpk : xp.take (p + 1) = xp.take p ++ [xp[p]] := List.take_succ_eq_append_getElem hpl
                have o3 := O3.out _ (List.getElem_mem hpl)
                generalize xp[p] = t at b0 hc hpk o3
                have o3' : (t.length : Int) ≤ 9223372036854775807 := by omega
                have HPK := hidX hpk
                clear hc hpk
                by_cases d3 : 20 < t.length
                · have d3' : (20 : Int) < t.length := by omega
                  go_wp2
                  go_ret
                  exact ⟨1, rfl, Or.inl rfl, hbl⟩
                · have d3' : ¬ (20 : Int) < t.length := by omega
                  go_wp2
                  refine ⟨⟨p + 1, by omega, by go_num, ?_⟩, by simp [intOf]; omega⟩
                  intro u hu
                  rw [HPK.out] at hu
                  rcases List.mem_append.1 hu with hu | hu
                  · exact HQ.out u hu
                  · rw [List.mem_singleton.1 hu]; omega
              · have hpe : p = xp.length := by omega
                subst hpe
                have HQ2 : Hid (∀ t ∈ xp, t.length ≤ 20) := by
                  have := HQ.out; rwa [List.take_length] at this
                go_wp2_with fail
                refine (HB.out _ hbl).mono ?_
                rintro e w2 ⟨n1, rfl, hn1, hL1, hb2⟩
                have hn1' : (n1 : Int) ≤ 2621420000 := by omega
                have HL1 := hidX hL1
                clear hL1 a0 a1 a2
                by_cases d4 : most < r + n1
                · have d4' : (most : Int) < (r : Int) + (n1 : Int) := by omega
                  go_wp2
                  go_ret
                  exact ⟨1, rfl, Or.inl rfl, hb2⟩
                · have d4' : ¬ (most : Int) < (r : Int) + (n1 : Int) := by omega
                  go_wp2
                  go_roundw
                  case rel =>
                    refine ⟨q + 1, r + n1, by omega, by go_num, by go_num, hb2, by omega, ?_⟩
                    obtain ⟨l1, l2⟩ := HL.out
                    obtain ⟨l3, l4, l5⟩ := HL1.out (by omega)
                    unfold Hid
                    rw [HTK.out, nodesF_snoc]
                    refine ⟨fun f hf => ?_, by simp only; omega⟩
                    rcases List.mem_append.1 hf with hf | hf
                    · exact l1 f hf
                    · rw [List.mem_singleton.1 hf]; exact ⟨by simp only; omega, by simp only; omega, HQ2.out, l3, l4⟩
                  case measure => simp [intOf]; omega
      · have hqn : q = l.length := by omega
        subst hqn
        go_wp2
        go_ret
        have := HL.out
        rw [List.take_length] at this
        exact ⟨0, rfl, Or.inr ⟨rfl, by omega, this.1, by omega⟩, hbl⟩
end Go.Proofs.YtcebpmaggnephabGreatDoor
