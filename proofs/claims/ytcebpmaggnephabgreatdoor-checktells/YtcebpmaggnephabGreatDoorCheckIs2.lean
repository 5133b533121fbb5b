/-
  Our own: package check: a statement's shape.
-/
import Derived.Test.YtcebpmaggnephabGreatDoorCheckIs
namespace Go.Proofs.YtcebpmaggnephabGreatDoor
open Go.RowKit

abbrev boxS (w : World) (k m : List UInt8) (x0 x1 x2 x3 : Value) (at_ ao : Option Addr) (t o ct co : Nat) : World := w.alloc (.cells #[.string ⟨k.toArray⟩, .string ⟨m.toArray⟩, x0, x1, x2, x3, .slice at_ t ct, .slice ao o co] 62)
set_option maxRecDepth 100000 in
set_option maxHeartbeats 2000000 in
theorem isStmt_any (a : Nat → Addr) (k m : List UInt8) (x0 x1 x2 x3 : Value) (at_ ao : Option Addr) (t o ct co : Nat) (hm : m.length ≤ 4000) (ht : t ≤ 5000) (ho : o ≤ 5000) (w : World) (hG : LexG w a) :
    Calls Tryz.prog 106 #[.agg #[.string ⟨k.toArray⟩, .string ⟨m.toArray⟩, x0, x1, x2, x3, .slice at_ t ct, .slice ao o co]] w fun e w' => e = .returned (.bool (shapeS k m t o)) ∧ Below w.heap.size w w' := by
  have ht' : (t : Int) ≤ 5000 := by omega
  have ho' : (o : Int) ≤ 5000 := by omega
  have hb0 := box_blk w #[.string ⟨k.toArray⟩, .string ⟨m.toArray⟩, x0, x1, x2, x3, .slice at_ t ct, .slice ao o co] 62
  have hN : ∀ X, Below w.heap.size w X → Calls Tryz.prog 66 #[.string ⟨m.toArray⟩] X fun e w' => e = .returned (.bool (nameB m)) ∧ Below w.heap.size w w' ∧ X.heap.size ≤ w'.heap.size ∧ ∀ b, b < X.heap.size → w'.heap[b]? = X.heap[b]? := fun X hX => by
    refine (isName_any a m hm X (hG.below hX)).mono ?_
    rintro e w' ⟨rfl, hb⟩
    exact ⟨rfl, bl_trans hX hX.size hb, hb.size, hb.block⟩
  by_cases k1 : k = kVar ∨ k = kSet
  · have hsh : shapeS k m t o = decide (nameB m = true ∧ t = 0 ∧ o = 0) := by unfold shapeS; rw [if_pos k1]
    rw [hsh]
    generalize hB : decide (nameB m = true ∧ t = 0 ∧ o = 0) = B
    have HB := hidX hB
    have HN := hidX hN
    clear hB hN hsh
    rcases k1 with rfl | rfl
    · go_enter Tryz.func106, Tryz.ntmps106
      go_wp2_with fail
      refine (HN.out _ hb0).mono ?_
      rintro e w2 ⟨rfl, hb2, hz2, hblk⟩
      have c6 : w2.cell? ⟨w.heap.size, 6, none⟩ = some (.slice at_ t ct) := (World.cell?_of_block (w := w.alloc _) (a := ⟨w.heap.size, 6, none⟩) (hblk w.heap.size (by simp))).trans (by simp)
      have c7 : w2.cell? ⟨w.heap.size, 7, none⟩ = some (.slice ao o co) := (World.cell?_of_block (w := w.alloc _) (a := ⟨w.heap.size, 7, none⟩) (hblk w.heap.size (by simp))).trans (by simp)
      clear hblk
      cases hm2 : nameB m with
      | false =>
        go_wp2
        go_ret
        exact ⟨ret_bool (a := false) (by rw [← HB.out]; simp [hm2]), hb2⟩
      | true =>
        by_cases h2 : t = 0
        · subst h2
          by_cases h3 : o = 0
          · subst h3
            go_wp2
            go_ret
            exact ⟨ret_bool (a := true) (by rw [← HB.out]; simp [hm2]), hb2⟩
          · have h3' : ((o : Int) == 0) = false := by simpa using h3
            have H3 := hidX h3
            clear h3
            go_wp2
            go_ret
            exact ⟨ret_bool (a := false) (by rw [← HB.out]; simp [H3.out]), hb2⟩
        · have h2' : ((t : Int) == 0) = false := by simpa using h2
          have H2 := hidX h2
          clear h2
          go_wp2
          go_ret
          exact ⟨ret_bool (a := false) (by rw [← HB.out]; simp [H2.out]), hb2⟩
    · go_enter Tryz.func106, Tryz.ntmps106
      go_wp2_with fail
      refine (HN.out _ hb0).mono ?_
      rintro e w2 ⟨rfl, hb2, hz2, hblk⟩
      have c6 : w2.cell? ⟨w.heap.size, 6, none⟩ = some (.slice at_ t ct) := (World.cell?_of_block (w := w.alloc _) (a := ⟨w.heap.size, 6, none⟩) (hblk w.heap.size (by simp))).trans (by simp)
      have c7 : w2.cell? ⟨w.heap.size, 7, none⟩ = some (.slice ao o co) := (World.cell?_of_block (w := w.alloc _) (a := ⟨w.heap.size, 7, none⟩) (hblk w.heap.size (by simp))).trans (by simp)
      clear hblk
      cases hm2 : nameB m with
      | false =>
        go_wp2
        go_ret
        exact ⟨ret_bool (a := false) (by rw [← HB.out]; simp [hm2]), hb2⟩
      | true =>
        by_cases h2 : t = 0
        · subst h2
          by_cases h3 : o = 0
          · subst h3
            go_wp2
            go_ret
            exact ⟨ret_bool (a := true) (by rw [← HB.out]; simp [hm2]), hb2⟩
          · have h3' : ((o : Int) == 0) = false := by simpa using h3
            have H3 := hidX h3
            clear h3
            go_wp2
            go_ret
            exact ⟨ret_bool (a := false) (by rw [← HB.out]; simp [H3.out]), hb2⟩
        · have h2' : ((t : Int) == 0) = false := by simpa using h2
          have H2 := hidX h2
          clear h2
          go_wp2
          go_ret
          exact ⟨ret_bool (a := false) (by rw [← HB.out]; simp [H2.out]), hb2⟩
  · obtain ⟨k1a, k1b⟩ := not_or.1 k1
    have n1 : (k == [118, 97, 114]) = false := ne_lit k1a
    have n2 : (k == [115, 101, 116]) = false := ne_lit k1b
    clear hN
    have hb2 := hb0
    by_cases k2 : k = kIf
    · subst k2
      have hsh : shapeS kIf m t o = decide (m = []) := by unfold shapeS; rw [if_neg k1, if_pos rfl]
      rw [hsh]
      generalize hB : decide (m = []) = B
      have HB := hidX hB
      clear hB k1 k1a k1b n1 n2 hsh
      by_cases h1 : m = []
      · subst h1
        go_enter Tryz.func106, Tryz.ntmps106
        go_wp2
        go_ret
        exact ⟨ret_bool (a := true) (by rw [← HB.out]; simp), hb2⟩
      · have h1' := nil_lit h1
        have H1 := hidX h1
        clear h1
        go_enter Tryz.func106, Tryz.ntmps106
        go_wp2
        go_ret
        exact ⟨ret_bool (a := false) (by rw [← HB.out]; simp [H1.out]), hb2⟩
    · have n3 : (k == [105, 102]) = false := ne_lit k2
      by_cases k3 : k = kWhile
      · subst k3
        have hsh : shapeS kWhile m t o = decide (m = [] ∧ o = 0) := by unfold shapeS; rw [if_neg k1, if_neg k2, if_pos rfl]
        rw [hsh]
        generalize hB : decide (m = [] ∧ o = 0) = B
        have HB := hidX hB
        clear hB k1 k1a k1b n1 n2 hsh k2 n3
        by_cases h1 : m = []
        · subst h1
          by_cases h3 : o = 0
          · subst h3
            go_enter Tryz.func106, Tryz.ntmps106
            go_wp2
            go_ret
            exact ⟨ret_bool (a := true) (by rw [← HB.out]; simp), hb2⟩
          · have h3' : ((o : Int) == 0) = false := by simpa using h3
            have H3 := hidX h3
            clear h3
            go_enter Tryz.func106, Tryz.ntmps106
            go_wp2
            go_ret
            exact ⟨ret_bool (a := false) (by rw [← HB.out]; simp [H3.out]), hb2⟩
        · have h1' := nil_lit h1
          have H1 := hidX h1
          clear h1
          go_enter Tryz.func106, Tryz.ntmps106
          go_wp2
          go_ret
          exact ⟨ret_bool (a := false) (by rw [← HB.out]; simp [H1.out]), hb2⟩
      · have n4 : (k == [119, 104, 105, 108, 101]) = false := ne_lit k3
        by_cases k4 : k = kReturn ∨ k = kPrint
        · have hsh : shapeS k m t o = decide (m = [] ∧ t = 0 ∧ o = 0) := by unfold shapeS; rw [if_neg k1, if_neg k2, if_neg k3, if_pos k4]
          rw [hsh]
          generalize hB : decide (m = [] ∧ t = 0 ∧ o = 0) = B
          have HB := hidX hB
          clear hB hsh k1 k1a k1b k2 k3
          rcases k4 with rfl | rfl
          · by_cases h1 : m = []
            · subst h1
              by_cases h2 : t = 0
              · subst h2
                by_cases h3 : o = 0
                · subst h3
                  go_enter Tryz.func106, Tryz.ntmps106
                  go_wp2
                  go_ret
                  exact ⟨ret_bool (a := true) (by rw [← HB.out]; simp), hb2⟩
                · have h3' : ((o : Int) == 0) = false := by simpa using h3
                  have H3 := hidX h3
                  clear h3
                  go_enter Tryz.func106, Tryz.ntmps106
                  go_wp2
                  go_ret
                  exact ⟨ret_bool (a := false) (by rw [← HB.out]; simp [H3.out]), hb2⟩
              · have h2' : ((t : Int) == 0) = false := by simpa using h2
                have H2 := hidX h2
                clear h2
                go_enter Tryz.func106, Tryz.ntmps106
                go_wp2
                go_ret
                exact ⟨ret_bool (a := false) (by rw [← HB.out]; simp [H2.out]), hb2⟩
            · have h1' := nil_lit h1
              have H1 := hidX h1
              clear h1
              go_enter Tryz.func106, Tryz.ntmps106
              go_wp2
              go_ret
              exact ⟨ret_bool (a := false) (by rw [← HB.out]; simp [H1.out]), hb2⟩
          · by_cases h1 : m = []
            · subst h1
              by_cases h2 : t = 0
              · subst h2
                by_cases h3 : o = 0
                · subst h3
                  go_enter Tryz.func106, Tryz.ntmps106
                  go_wp2
                  go_ret
                  exact ⟨ret_bool (a := true) (by rw [← HB.out]; simp), hb2⟩
                · have h3' : ((o : Int) == 0) = false := by simpa using h3
                  have H3 := hidX h3
                  clear h3
                  go_enter Tryz.func106, Tryz.ntmps106
                  go_wp2
                  go_ret
                  exact ⟨ret_bool (a := false) (by rw [← HB.out]; simp [H3.out]), hb2⟩
              · have h2' : ((t : Int) == 0) = false := by simpa using h2
                have H2 := hidX h2
                clear h2
                go_enter Tryz.func106, Tryz.ntmps106
                go_wp2
                go_ret
                exact ⟨ret_bool (a := false) (by rw [← HB.out]; simp [H2.out]), hb2⟩
            · have h1' := nil_lit h1
              have H1 := hidX h1
              clear h1
              go_enter Tryz.func106, Tryz.ntmps106
              go_wp2
              go_ret
              exact ⟨ret_bool (a := false) (by rw [← HB.out]; simp [H1.out]), hb2⟩
        · have hsh : shapeS k m t o = false := by unfold shapeS; rw [if_neg k1, if_neg k2, if_neg k3, if_neg k4]
          rw [hsh]
          obtain ⟨k4a, k4b⟩ := not_or.1 k4
          have n5 : (k == [114, 101, 116, 117, 114, 110]) = false := ne_lit k4a
          have n6 : (k == [112, 114, 105, 110, 116]) = false := ne_lit k4b
          clear hsh k1 k1a k1b k2 k3 k4 k4a k4b
          go_enter Tryz.func106, Tryz.ntmps106
          go_wp2
          go_ret
          exact ⟨rfl, hb2⟩
end Go.Proofs.YtcebpmaggnephabGreatDoor
