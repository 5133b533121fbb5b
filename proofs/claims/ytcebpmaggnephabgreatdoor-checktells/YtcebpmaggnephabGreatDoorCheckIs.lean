/-
  Our own: package check: is it a name, an expression's shape, a statement's?
-/
import Derived.Test.YtcebpmaggnephabGreatDoorCheckName
import Derived.Test.YtcebpmaggnephabGreatDoorTreeAny
import Derived.Test.YtcebpmaggnephabGreatDoorValBad
import Derived.Test.YtcebpmaggnephabGreatDoorFaulted
namespace Go.Proofs.YtcebpmaggnephabGreatDoor
open Go.RowKit

theorem txt_ne {k l : List UInt8} (h : k ≠ l) : (k == l) = false := by simpa using h
set_option maxRecDepth 100000 in
theorem isName_any (a : Nat → Addr) (s : List UInt8) (hs : s.length ≤ 4000) (w : World) (hG : LexG w a) :
    Calls Tryz.prog 66 #[.string ⟨s.toArray⟩] w fun e w' => e = .returned (.bool (nameB s)) ∧ Below w.heap.size w w' := by
  go_enter Tryz.func66, Tryz.ntmps66
  go_wp2_with fail
  refine (read_any a ⟨s.toArray⟩ hs _ hG).mono ?_
  rintro e w' ⟨ts, er, hsc, hbel, hx⟩
  have hsc' : Scan 0 s ts er := hsc
  have hn := scan_name hsc'
  rcases hx with ⟨rfl, hlen, v, rfl, ho⟩ | ⟨p, b, rfl, rfl, _, _⟩ | ⟨rfl, hl, rfl⟩
  · clear hsc hsc'
    by_cases hl : ts.length = 1
    · obtain ⟨⟨k, t, p⟩, rfl⟩ := List.length_eq_one_iff.1 hl
      obtain ⟨g, cap, rfl, hv⟩ := tokView ho (by simp)
      have c0 := hv.c0 0 (by simp)
      have c1 := hv.c1 0 (by simp)
      have c2 := hv.c2 0 (by simp)
      simp only [List.getElem_cons_zero, Nat.zero_mul, Nat.zero_add] at c0 c1 c2
      have hn' : nameB s = decide (k = kName ∧ t = s ∧ p = 0) := by
        rw [Bool.eq_iff_iff, ← hn]; simp
      simp only [List.length_cons, List.length_nil, Nat.zero_add]
      clear hn ho hv hl hlen
      by_cases h1 : k = kName
      · subst h1
        by_cases h2 : t = s
        · subst h2
          by_cases h3 : p = 0
          · subst h3
            have hb : nameB t = true := by rw [hn']; simp
            clear hn'
            go_wp2
            go_ret
            exact ⟨by rw [hb]; simp, hbel⟩
          · have hb : nameB t = false := by rw [hn']; simp [h3]
            have h3' : ((p : Int) == 0) = false := by simpa using h3
            clear hn' h3
            go_wp2
            go_ret
            exact ⟨by rw [hb]; simp, hbel⟩
        · have hb : nameB s = false := by rw [hn']; simp [h2]
          have h2' := txt_ne h2
          clear hn' h2
          go_wp2
          go_ret
          exact ⟨by rw [hb]; simp, hbel⟩
      · have hb : nameB s = false := by rw [hn']; simp [h1]
        have h1' : (k == [110, 97, 109, 101]) = false := txt_ne h1
        clear hn' h1
        go_wp2
        go_ret
        exact ⟨by rw [hb]; simp, hbel⟩
    · obtain ⟨ad, cap, rfl⟩ := tokEmpty ho
      have hb : nameB s = false := by
        cases h : nameB s with
        | false => rfl
        | true => have := (hn.2 h).2; rw [this] at hl; exact absurd rfl hl
      have hl' : ((ts.length : Int) == 1) = false := by simp; omega
      clear ho hn hl
      go_wp2
      go_ret
      exact ⟨by rw [hb]; rfl, hbel⟩
  · have hb : nameB s = false := by
      cases h : nameB s with
      | false => rfl
      | true => have := (hn.2 h).1; cases this
    clear hsc hsc' hn
    go_wp2
    go_ret
    exact ⟨by rw [hb]; rfl, hbel⟩
  · have hb : nameB s = false := by
      cases h : nameB s with
      | false => rfl
      | true => have := (hn.2 h).2; rw [this] at hl; simp at hl
    clear hsc hsc' hn
    go_wp2
    go_ret
    exact ⟨by rw [hb]; rfl, hbel⟩
theorem do_zero (s : Nat → Addr) (m : List UInt8) (w : World) (hS : Sents w s) : Calls Tryz.prog 125 #[.string ⟨m.toArray⟩, .int .i64 0, .int .i64 0] w fun e w' => ∃ z, e = .returned (.tuple #[.int .i64 z, if m ∈ twosE then .nilIface else sentV (s 3)]) ∧ ∃ n, w' = w.drewN n := by
  by_cases hm : m ∈ twosE
  · rw [if_pos hm]
    refine (do_any ⟨m.toArray⟩ ?_ 0 0 w).mono ?_
    · simp only [twosE, List.mem_cons, List.not_mem_nil, or_false] at hm
      rcases hm with rfl | rfl | rfl | rfl | rfl | rfl | rfl | rfl | rfl | rfl | rfl | rfl | rfl | rfl <;> simp [opsTwo]
    · rintro e w' ⟨rfl, rfl⟩
      exact ⟨_, rfl, 0, rfl⟩
  · rw [if_neg hm]
    refine (do_bad s ⟨m.toArray⟩ ?_ 0 0 w hS).mono ?_
    · intro h
      apply hm
      simp only [opsTwo, List.mem_cons, List.not_mem_nil, or_false, ByteArray.mk.injEq] at h
      simp only [twosE, List.mem_cons, List.not_mem_nil, or_false]
      rcases h with h | h | h | h | h | h | h | h | h | h | h | h | h | h <;> simp [← Array.toList_inj] at h <;> simp [h]
    · rintro e w' ⟨rfl, n, rfl⟩
      exact ⟨_, rfl, n, rfl⟩
theorem one_zero (s : Nat → Addr) (m : List UInt8) (w : World) (hS : Sents w s) : Calls Tryz.prog 124 #[.string ⟨m.toArray⟩, .int .i64 0] w fun e w' => ∃ z, e = .returned (.tuple #[.int .i64 z, if m ∈ onesE then .nilIface else sentV (s 3)]) ∧ ∃ n, w' = w.drewN n := by
  by_cases h1 : m = [45]
  · subst h1
    refine (one_neg 0 w).mono ?_
    rintro e w' ⟨rfl, rfl⟩
    exact ⟨_, rfl, 0, rfl⟩
  · by_cases h2 : m = [33]
    · subst h2
      refine (one_not 0 w).mono ?_
      rintro e w' ⟨rfl, rfl⟩
      exact ⟨_, rfl, 0, rfl⟩
    · refine (one_bad s ⟨m.toArray⟩ ?_ ?_ 0 w hS).mono ?_
      · intro h; apply h1; simpa [← Array.toList_inj] using h
      · intro h; apply h2; simpa [← Array.toList_inj] using h
      · rintro e w' ⟨rfl, n, rfl⟩
        exact ⟨0, by rw [if_neg (by simp [onesE, h1, h2])], n, rfl⟩
/-- Where the shape of an expression stands. -/
theorem box_blk (w : World) (cs : Array Value) (t : TypeId) : Below w.heap.size w (w.alloc (.cells cs t)) := by (repeat (first | exact Below.refl _ _ | assumption | refine Below.drew ?_ | refine Below.trans ?_ (drewN_below' _ _ _) | refine Below.setCell ?_ (by first | (simp; done) | (simp; omega)) _ | refine Below.alloc ?_ (by first | (simp; done) | (simp; omega)) _))
theorem ne_lit {k : List UInt8} {l : List UInt8} (h : ¬ k = l) : (k == l) = false := by simpa using h
theorem nil_lit {m : List UInt8} (h : ¬ m = []) : m.isEmpty = false := by cases m with | nil => exact absurd rfl h | cons => rfl
set_option maxRecDepth 100000 in
set_option maxHeartbeats 2000000 in
theorem isExpr_any (a : Nat → Addr) (k : List UInt8) (n : Int) (m : List UInt8) (ad : Option Addr) (c cap : Nat) (hm : m.length ≤ 4000) (hc : c ≤ 5000) (w : World) (hS : Sents w a) :
    Calls Tryz.prog 115 #[.agg #[.string ⟨k.toArray⟩, .int .i64 n, .string ⟨m.toArray⟩, .slice ad c cap]] w fun e w' => e = .returned (.bool (shapeE k n m c)) ∧ Below w.heap.size w w' := by
  have hc' : (c : Int) ≤ 5000 := by omega
  have hb0 := box_blk w #[.string ⟨k.toArray⟩, .int .i64 n, .string ⟨m.toArray⟩, .slice ad c cap] 60
  have hN : ∀ X, Below w.heap.size w X → Calls Tryz.prog 66 #[.string ⟨m.toArray⟩] X fun e w' => e = .returned (.bool (nameB m)) ∧ Below w.heap.size w w' ∧ X.heap.size ≤ w'.heap.size ∧ ∀ b, b < X.heap.size → w'.heap[b]? = X.heap[b]? := fun X hX => by
    refine (isName_any a m hm X (hS.below hX).lexG).mono ?_
    rintro e w' ⟨rfl, hb⟩
    exact ⟨rfl, bl_trans hX hX.size hb, hb.size, hb.block⟩
  by_cases k1 : k = kNumE
  · subst k1
    have hsh : shapeE kNumE n m c = decide (0 ≤ n ∧ m = [] ∧ c = 0) := by unfold shapeE; rw [if_pos rfl]
    rw [hsh]
    by_cases h1 : 0 ≤ n
    · by_cases h2 : m = []
      · subst h2
        by_cases h3 : c = 0
        · subst h3
          have e : decide (0 ≤ n ∧ ([] : List UInt8) = [] ∧ 0 = 0) = true := by simp [h1]
          rw [e]
          clear hN
          go_enter Tryz.func115, Tryz.ntmps115
          go_wp2
          go_ret
          exact ⟨rfl, hb0⟩
        · have e : decide (0 ≤ n ∧ ([] : List UInt8) = [] ∧ c = 0) = false := by simp [h3]
          rw [e]
          have h3' : ((c : Int) == 0) = false := by simpa using h3
          clear hN h3
          go_enter Tryz.func115, Tryz.ntmps115
          go_wp2
          go_ret
          exact ⟨rfl, hb0⟩
      · have e : decide (0 ≤ n ∧ m = [] ∧ c = 0) = false := by simp [h2]
        rw [e]
        have h2' := nil_lit h2
        clear hN h2
        go_enter Tryz.func115, Tryz.ntmps115
        go_wp2
        go_ret
        exact ⟨rfl, hb0⟩
    · have e : decide (0 ≤ n ∧ m = [] ∧ c = 0) = false := by simp [h1]
      rw [e]
      clear hN
      go_enter Tryz.func115, Tryz.ntmps115
      go_wp2
      go_ret
      exact ⟨rfl, hb0⟩
  · have n1 : (k == [110, 117, 109]) = false := ne_lit k1
    by_cases k2 : k = kName
    · subst k2
      have hsh : shapeE kName n m c = decide (n = 0 ∧ nameB m = true ∧ c = 0) := by unfold shapeE; rw [if_neg k1, if_pos rfl]
      rw [hsh]
      generalize hB : decide (n = 0 ∧ nameB m = true ∧ c = 0) = B
      have HB := hidX hB
      clear hB
      by_cases h1 : n = 0
      · subst h1
        have HN := hidX hN
        clear hN k1 n1 hsh
        go_enter Tryz.func115, Tryz.ntmps115
        go_wp2_with fail
        refine (HN.out _ hb0).mono ?_
        rintro e w2 ⟨rfl, hb2, hz2, hblk⟩
        have c3 : w2.cell? ⟨w.heap.size, 3, none⟩ = some (.slice ad c cap) := (World.cell?_of_block (w := w.alloc _) (a := ⟨w.heap.size, 3, none⟩) (hblk w.heap.size (by simp))).trans (by simp)
        clear hblk
        cases hm2 : nameB m with
        | false =>
          go_wp2
          go_ret
          exact ⟨ret_bool (a := false) (by rw [← HB.out]; simp [hm2]), hb2⟩
        | true =>
          by_cases h3 : c = 0
          · subst h3
            go_wp2
            go_ret
            exact ⟨ret_bool (a := true) (by rw [← HB.out]; simp [hm2]), hb2⟩
          · have h3' : ((c : Int) == 0) = false := by simpa using h3
            have H3 := hidX h3
            clear h3
            go_wp2
            go_ret
            exact ⟨ret_bool (a := false) (by rw [← HB.out]; simp [H3.out]), hb2⟩
      · have h1' : (n == 0) = false := by simpa using h1
        have H1 := hidX h1
        have hb2 := hb0
        clear hN h1
        go_enter Tryz.func115, Tryz.ntmps115
        go_wp2
        go_ret
        exact ⟨ret_bool (a := false) (by rw [← HB.out]; simp [H1.out]), hb2⟩
    · have n2 : (k == [110, 97, 109, 101]) = false := ne_lit k2
      by_cases k3 : k = kCall
      · subst k3
        have hsh : shapeE kCall n m c = decide (n = 0 ∧ nameB m = true) := by unfold shapeE; rw [if_neg k1, if_neg k2, if_pos rfl]
        rw [hsh]
        generalize hB : decide (n = 0 ∧ nameB m = true) = B
        have HB := hidX hB
        clear hB
        by_cases h1 : n = 0
        · subst h1
          have HN := hidX hN
          clear hN k1 n1 k2 n2 hsh
          go_enter Tryz.func115, Tryz.ntmps115
          go_wp2_with fail
          refine (HN.out _ hb0).mono ?_
          rintro e w2 ⟨rfl, hb2, hz2, hblk⟩
          clear hblk
          cases hm2 : nameB m with
          | false =>
            go_wp2
            go_ret
            exact ⟨ret_bool (a := false) (by rw [← HB.out]; simp [hm2]), hb2⟩
          | true =>
            go_wp2
            go_ret
            exact ⟨ret_bool (a := true) (by rw [← HB.out]; simp [hm2]), hb2⟩
        · have h1' : (n == 0) = false := by simpa using h1
          have H1 := hidX h1
          have hb2 := hb0
          clear hN h1
          go_enter Tryz.func115, Tryz.ntmps115
          go_wp2
          go_ret
          exact ⟨ret_bool (a := false) (by rw [← HB.out]; simp [H1.out]), hb2⟩
      · have n3 : (k == [99, 97, 108, 108]) = false := ne_lit k3
        clear hN
        by_cases k4 : k = kOne
        · subst k4
          have hsh : shapeE kOne n m c = decide (n = 0 ∧ m ∈ onesE ∧ c = 1) := by unfold shapeE; rw [if_neg k1, if_neg k2, if_neg k3, if_pos rfl]
          rw [hsh]
          generalize hB : decide (n = 0 ∧ m ∈ onesE ∧ c = 1) = B
          have HB := hidX hB
          have ho := one_zero a m _ (hS.below hb0)
          have HO := hidX ho
          clear hB k1 n1 k2 n2 k3 n3 hsh ho
          go_enter Tryz.func115, Tryz.ntmps115
          go_wp2_with fail
          refine HO.out.mono ?_
          rintro e w2 ⟨z, rfl, nn, rfl⟩
          have hb2 : Below w.heap.size w ((w.alloc (.cells #[.string ⟨kOne.toArray⟩, .int .i64 n, .string ⟨m.toArray⟩, .slice ad c cap] 60)).drewN nn) := hb0.trans (drewN_below' _ _ _)
          have d1 : ((w.alloc (.cells #[.string ⟨kOne.toArray⟩, .int .i64 n, .string ⟨m.toArray⟩, .slice ad c cap] 60)).drewN nn).cell? ⟨w.heap.size, 1, none⟩ = some (.int .i64 n) := by simp
          have d3 : ((w.alloc (.cells #[.string ⟨kOne.toArray⟩, .int .i64 n, .string ⟨m.toArray⟩, .slice ad c cap] 60)).drewN nn).cell? ⟨w.heap.size, 3, none⟩ = some (.slice ad c cap) := by simp
          generalize ((w.alloc (.cells #[.string ⟨kOne.toArray⟩, .int .i64 n, .string ⟨m.toArray⟩, .slice ad c cap] 60)).drewN nn) = W at hb2 d1 d3
          by_cases h2 : m ∈ onesE
          · rw [if_pos h2]
            have H2 := hidX h2
            clear h2
            by_cases h1 : n = 0
            · subst h1
              by_cases h3 : c = 1
              · subst h3
                go_wp2
                go_ret
                exact ⟨ret_bool (a := true) (by rw [← HB.out]; simp [H2.out]), hb2⟩
              · have h3' : ((c : Int) == 1) = false := by simp; omega
                have H3 := hidX h3
                clear h3
                go_wp2
                go_ret
                exact ⟨ret_bool (a := false) (by rw [← HB.out]; simp [H3.out]), hb2⟩
            · have h1' : (n == 0) = false := by simpa using h1
              have H1 := hidX h1
              clear h1
              go_wp2
              go_ret
              exact ⟨ret_bool (a := false) (by rw [← HB.out]; simp [H1.out]), hb2⟩
          · rw [if_neg h2]
            have H2 := hidX h2
            clear h2
            by_cases h1 : n = 0
            · subst h1
              go_wp2
              go_ret
              exact ⟨ret_bool (a := false) (by rw [← HB.out]; simp [H2.out]), hb2⟩
            · have h1' : (n == 0) = false := by simpa using h1
              have H1 := hidX h1
              clear h1
              go_wp2
              go_ret
              exact ⟨ret_bool (a := false) (by rw [← HB.out]; simp [H1.out]), hb2⟩
        · have n4 : (k == [111, 110, 101]) = false := ne_lit k4
          by_cases k5 : k = kTwo
          · subst k5
            have hsh : shapeE kTwo n m c = decide (n = 0 ∧ m ∈ twosE ∧ c = 2) := by unfold shapeE; rw [if_neg k1, if_neg k2, if_neg k3, if_neg k4, if_pos rfl]
            rw [hsh]
            generalize hB : decide (n = 0 ∧ m ∈ twosE ∧ c = 2) = B
            have HB := hidX hB
            have ho := do_zero a m _ (hS.below hb0)
            have HO := hidX ho
            clear hB k1 n1 k2 n2 k3 n3 k4 n4 hsh ho
            go_enter Tryz.func115, Tryz.ntmps115
            go_wp2_with fail
            refine HO.out.mono ?_
            rintro e w2 ⟨z, rfl, nn, rfl⟩
            have hb2 : Below w.heap.size w ((w.alloc (.cells #[.string ⟨kTwo.toArray⟩, .int .i64 n, .string ⟨m.toArray⟩, .slice ad c cap] 60)).drewN nn) := hb0.trans (drewN_below' _ _ _)
            have d1 : ((w.alloc (.cells #[.string ⟨kTwo.toArray⟩, .int .i64 n, .string ⟨m.toArray⟩, .slice ad c cap] 60)).drewN nn).cell? ⟨w.heap.size, 1, none⟩ = some (.int .i64 n) := by simp
            have d3 : ((w.alloc (.cells #[.string ⟨kTwo.toArray⟩, .int .i64 n, .string ⟨m.toArray⟩, .slice ad c cap] 60)).drewN nn).cell? ⟨w.heap.size, 3, none⟩ = some (.slice ad c cap) := by simp
            generalize ((w.alloc (.cells #[.string ⟨kTwo.toArray⟩, .int .i64 n, .string ⟨m.toArray⟩, .slice ad c cap] 60)).drewN nn) = W at hb2 d1 d3
            by_cases h2 : m ∈ twosE
            · rw [if_pos h2]
              have H2 := hidX h2
              clear h2
              by_cases h1 : n = 0
              · subst h1
                by_cases h3 : c = 2
                · subst h3
                  go_wp2
                  go_ret
                  exact ⟨ret_bool (a := true) (by rw [← HB.out]; simp [H2.out]), hb2⟩
                · have h3' : ((c : Int) == 2) = false := by simp; omega
                  have H3 := hidX h3
                  clear h3
                  go_wp2
                  go_ret
                  exact ⟨ret_bool (a := false) (by rw [← HB.out]; simp [H3.out]), hb2⟩
              · have h1' : (n == 0) = false := by simpa using h1
                have H1 := hidX h1
                clear h1
                go_wp2
                go_ret
                exact ⟨ret_bool (a := false) (by rw [← HB.out]; simp [H1.out]), hb2⟩
            · rw [if_neg h2]
              have H2 := hidX h2
              clear h2
              by_cases h1 : n = 0
              · subst h1
                go_wp2
                go_ret
                exact ⟨ret_bool (a := false) (by rw [← HB.out]; simp [H2.out]), hb2⟩
              · have h1' : (n == 0) = false := by simpa using h1
                have H1 := hidX h1
                clear h1
                go_wp2
                go_ret
                exact ⟨ret_bool (a := false) (by rw [← HB.out]; simp [H1.out]), hb2⟩
          · have n5 : (k == [116, 119, 111]) = false := ne_lit k5
            have hsh : shapeE k n m c = false := by unfold shapeE; rw [if_neg k1, if_neg k2, if_neg k3, if_neg k4, if_neg k5]
            rw [hsh]
            clear k1 k2 k3 k4 k5 hsh
            go_enter Tryz.func115, Tryz.ntmps115
            go_wp2
            go_ret
            exact ⟨rfl, hb0⟩
end Go.Proofs.YtcebpmaggnephabGreatDoor
