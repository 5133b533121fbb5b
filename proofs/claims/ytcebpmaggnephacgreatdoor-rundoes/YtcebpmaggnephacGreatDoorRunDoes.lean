/-
  Our own: the law RunDoes: any program, any function, any arguments, so many ticks: as the document's own model has it.
-/
import Derived.Test.YtcebpmaggnephacGreatDoorRROf
import Derived.Test.YtcebpmaggnephacGreatDoorRunBad
import Derived.Test.YtcebpmaggnephacGreatDoorRefEnd
import Derived.Test.YtcebpmaggnephacGreatDoorCheckAll
import Derived.Test.YtcebpmaggnephacGreatDoorFaulted
namespace Go.Proofs.YtcebpmaggnephacGreatDoor
open Go.RowKit Go.Maps

/-- How many parameters the function has that has the name; -1: there is none. -/
def ParsAt (l : List Fu) (m : List UInt8) (pv : Int) : Prop := (pv = -1 ∧ ∀ f ∈ l, f.name ≠ m) ∨ ∃ f ∈ l, f.name = m ∧ pv = f.params.length
theorem pars_ask {l : List Fu} {m : List UInt8} {pv : Int} {n : Nat} (h : ParsAt l m pv) (hw : WfP l) (ha : AskOk l m n) : pv = n := by
  obtain ⟨g, hg, h1, h2⟩ := ha
  rcases h with ⟨_, h0⟩ | ⟨f, hf, h3, h4⟩
  · exact absurd h1 (h0 g hg)
  · obtain ⟨i, hi, rfl⟩ := List.mem_iff_getElem.1 hf
    obtain ⟨j, hj, rfl⟩ := List.mem_iff_getElem.1 hg
    have := hw.names i hi j hj (h1.trans h3.symm)
    subst this
    rw [h4, h2]
theorem pars_none {l : List Fu} {m : List UInt8} {pv : Int} (h : ParsAt l m pv) (hn : ¬ HasName l m) : pv = -1 := by
  rcases h with ⟨h0, _⟩ | ⟨f, hf, h3, _⟩
  · exact h0
  · exact absurd ⟨f, hf, h3⟩ hn
theorem pars_not {l : List Fu} {m : List UInt8} {pv : Int} {n : Nat} (h : ParsAt l m pv) (hh : HasName l m) (hn : ¬ AskOk l m n) : 0 ≤ pv ∧ pv ≠ n := by
  rcases h with ⟨_, h0⟩ | ⟨f, hf, h3, h4⟩
  · obtain ⟨g, hg, h1⟩ := hh
    exact absurd h1 (h0 g hg)
  · exact ⟨by omega, fun e => hn ⟨f, hf, h3, by omega⟩⟩
set_option maxRecDepth 100000 in
set_option maxHeartbeats 4000000 in
theorem runDoes_any (a : Nat → Addr) (l : List Fu) (adl : Option Addr) (cl : Nat) (nm : ByteArray) (args : List Int) (aad : Option Addr) (acap : Nat) (ticks : Int) (w : World) (hS : Sents w a) (hX : XLF (InH w) w (.slice adl l.length cl) l) (hl : l.length ≤ 9223372036854775807) (hcl : l.length ≤ cl) (hcl' : (cl : Int) ≤ 9223372036854775807) (hO : ∀ f ∈ l, OkF f) (hnm : nm.size ≤ 9223372036854775807) (hA : XRow (InH w) w (.slice aad args.length acap) args.length (intsC args)) (h64 : ∀ x ∈ args, In64 x) (hal : args.length ≤ 9223372036854775807) :
    Calls Tryz.prog 3 #[.slice adl l.length cl, .string nm, .slice aad args.length acap, .int .i64 ticks] w fun e w' => e = .returned (.bool true) ∧ Below w.heap.size w w' := by
  obtain ⟨m, rfl⟩ : ∃ m : List UInt8, nm = ⟨m.toArray⟩ := ⟨nm.data.toList, by simp⟩
  have hsz : (ByteArray.mk m.toArray).size = m.length := by show m.toArray.size = _; simp
  have hml : m.length ≤ 9223372036854775807 := by omega
  have hml' : (m.length : Int) ≤ 9223372036854775807 := by omega
  have HSS := hidX hS
  have HX := hidX hX
  have HO := hidX hO
  have HAA := hidX hA
  have H64 := hidX h64
  have hal' : (args.length : Int) ≤ 9223372036854775807 := by omega
  clear hS hX hO hA h64 hnm hsz
  go_enter Tryz.func3, Tryz.ntmps3
  go_wp2_with fail
  refine (ran_any a w HSS.out).mono ?_
  rintro e W1 ⟨rfl, hb1⟩
  go_wp2_with fail
  refine (large_any l 300 (by omega) W1 _ (HX.out.imp (inH_up hb1) (keepH hb1)) hl HO.out).mono ?_
  rintro e W2 ⟨r, rfl, hr, hb2⟩
  have hbw2 : Below w.heap.size w W2 := hb1.trans (hb2.mono hb1.size)
  rcases hr with rfl | ⟨rfl, hl10, hlow, hnod⟩
  · go_wp2
    go_ret
    exact ⟨rfl, hbw2⟩
  · have HLW := hidX hlow
    clear hlow hnod
    by_cases c1 : (8 : Int) < (args.length : Int)
    · go_wp2
      go_ret
      exact ⟨rfl, hbw2⟩
    by_cases c2 : (20 : Int) < (m.length : Int)
    · go_wp2
      go_ret
      exact ⟨rfl, hbw2⟩
    by_cases c3 : 300 < ticks ∧ ticks ≤ 5000
    · obtain ⟨c3, c4⟩ := c3
      go_wp2
      go_ret
      exact ⟨rfl, hbw2⟩
    have HC3 := hidX c3
    have hcut : ∀ P : Prop, (∀ b : Bool, (b = (decide (300 < ticks) && decide (ticks ≤ 5000))) → P) → P := fun P h => h _ rfl
    have c5 : ¬ 300 < ticks ∨ (300 < ticks ∧ ¬ ticks ≤ 5000) := by omega
    have hl' : (l.length : Int) ≤ 10 := by omega
    clear c3 hcut
    have HALL : Hid (∀ X, Below W2.heap.size W2 X → True) := fun _ _ => trivial
    clear HALL
    rcases c5 with c5 | ⟨c5, c6⟩
    · have HC3' := HC3
      go_wp2_with fail
      refine (asFuns_any l hl10 HLW.out W2 _ (HX.out.imp (inH_up hbw2) (keepH hbw2))).mono ?_
      rintro e W3 ⟨hb3, vp, ys, rfl, hown, hxs⟩
      have hX3 : XLF (InH W3) W3 vp l := ⟨ys, (xrow_own hown).imp (fun _ hb => hb.2) (fun _ _ => rfl), XFs.imp (fun _ hb => hb.2.1) (fun _ _ => rfl) _ _ hxs⟩
      have hbw3 : Below w.heap.size w W3 := hbw2.trans (hb3.mono hbw2.size)
      have HX3 := hidX hX3
      have HAR3 := hidX (HAA.out.imp (inH_up hbw3) (keepH hbw3))
      clear hown hxs hX3
      go_wp2_with (first | (at_builtin; refine wpList_append_ints rfl _ _ rfl rfl _ rfl args (by omega) HAR3.out ?_; intro va W4 hoa hba; have HOA := hidX hoa; have HBA := hidX hba; clear hoa hba) | fail)
      have hba := HBA.out
      have hbw4 : Below w.heap.size w W4 := bl_trans hbw3 hbw3.size hba
      have hxr4 := (xrow_own HOA.out).imp (B := InH W4) (fun _ hb => hb.2) (fun _ _ => rfl)
      have hX4 := HX3.out.imp (inH_up hba) (keepH hba)
      by_cases hG : l.length ≤ 8 ∧ funsC l [] l = none ∧ AskOk l m args.length ∧ 0 ≤ ticks ∧ ticks ≤ 5000
      · obtain ⟨t, ht⟩ : ∃ t : Nat, ticks = (t : Int) := ⟨ticks.toNat, by have := hG.2.2.2.1; omega⟩
        subst ht
        have hG3 : l.length ≤ 8 ∧ funsC l [] l = none ∧ AskOk l m args.length := ⟨hG.1, hG.2.1, hG.2.2.1⟩
        have ht5 : t ≤ 5000 := by have := hG.2.2.2.2; omega
        have ht5' : (t : Int) ≤ 5000 := by omega
        refine (run_any a l hl10 HLW.out HO.out W4 (HSS.out.below hbw4) vp hX4 m hml args H64.out (by omega) va hxr4 t ht5).mono ?_
        intro e W5 h5
        have h5' : RunTo W4 (runX runOps l m args t) e W5 := h5.elim (fun h => absurd hG3 h.1) (fun h => h.2)
        obtain ⟨hb5, ad5, c5', ho5, he⟩ := runTo_out h5'
        subst he
        have HG := hidX hG3
        generalize hR1 : runX runOps l m args t = r1 at h5' ho5 ⊢
        have HRX := hidX hR1
        have hcap5 := own_capR ho5
        have hn5 : (r1.st.out.length : Int) ≤ 9223372036854775807 := by omega
        have HO5 := hidX ho5
        clear h5 h5' hG hG3 ho5 hR1
        obtain ⟨XA, hXA⟩ : ∃ XA, XA = W5.alloc (.cells #[.string ⟨(howV r1).toArray⟩, .int .i64 (valV r1), .slice ad5 r1.st.out.length c5', .int .i64 (r1.st.ticks : Int)] 27) := ⟨_, rfl⟩
        have hbA : Below W5.heap.size W5 XA := by rw [hXA]; exact box_blk _ _ _
        have hkA : XA.heap[W5.heap.size]? = some (.cells #[.string ⟨(howV r1).toArray⟩, .int .i64 (valV r1), .slice ad5 r1.st.out.length c5', .int .i64 (r1.st.ticks : Int)] 27 (0, 0)) := by rw [hXA]; exact heap_alloc_new _ _
        have hb4A : Below W4.heap.size W4 XA := bl_trans hb5 hb5.size hbA
        have hbwA : Below w.heap.size w XA := bl_trans hbw4 hbw4.size hb4A
        have hb5A : Below W5.heap.size W5 XA := hbA
        have HKA := hidX hkA
        have HB5A := hidX hb5A
        have HBWA := hidX hbwA
        clear hb5 hbA hkA hb4A hbwA hb5A hba hxr4 hX4
        unfold outC
        go_wp2_with fail
        rw [← hXA]
        clear hXA
        have hbwA := HBWA.out
        refine (rProg_any l hl10 HLW.out XA adl cl (HX.out.imp (inH_up hbwA) (keepH hbwA)) hcl hcl').mono ?_
        rintro e W6 ⟨rfl, hb6⟩
        have HB6 := hidX hb6
        generalize hpc : (progC l).1 = pc
        generalize hpp : (progC l).2 = pp
        have HPC : Hid ((progC l).1 = pc ∧ (progC l).2 = pp) := ⟨hpc, hpp⟩
        clear hpc hpp
        obtain ⟨XB, hXB⟩ : ∃ XB, XB = W6.alloc (.cells #[.int .i64 pc, .int .i64 pp] 35) := ⟨_, rfl⟩
        have hbB : Below W6.heap.size W6 XB := by rw [hXB]; exact box_blk _ _ _
        have hkB : XB.heap[W6.heap.size]? = some (.cells #[.int .i64 pc, .int .i64 pp] 35 (0, 0)) := by rw [hXB]; exact heap_alloc_new _ _
        have hbAB : Below XA.heap.size XA XB := bl_trans hb6 hb6.size hbB
        have hbwB : Below w.heap.size w XB := bl_trans hbwA hbwA.size hbAB
        have hlA : W5.heap.size < XA.heap.size := heap_lt HKA.out
        have hkAB := (hbAB.block W5.heap.size hlA).trans HKA.out
        have hXB' := HX.out.imp (inH_up hbwB) (keepH hbwB)
        obtain ⟨zs, hrB, hkzB⟩ := hXB'
        have R := hidX hrB
        have KK := hidX hkzB
        have HKB := hidX hkB
        have HKAB := hidX hkAB
        have HBAB := hidX hbAB
        have HBWB := hidX hbwB
        clear hbB hkB hbAB hkAB hrB hkzB hb6 hbwA
        go_wp2_with fail
        rw [← hXB]
        clear hXB
        go_loopw [14, 15] (fun vp vi wr => ∃ (q : Nat) (pv : Int), q ≤ l.length ∧ vi = .int .i64 q ∧ vp = .int .i64 pv ∧ -1 ≤ pv ∧ pv ≤ 8 ∧ Below XB.heap.size XB wr ∧ Hid (ParsAt (l.take q) m pv)) (fun _ vi _ => l.length - (intOf vi).toNat)
        case atStart => exact ⟨0, -1, Nat.zero_le _, rfl, rfl, by omega, by omega, Below.refl _ _, Or.inl ⟨rfl, by intro f hf; simp at hf⟩⟩
        case round =>
          obtain ⟨q, pv, hq, rfl, rfl, hpl1, hpl2, hbl, HPV⟩ := hrel
          have hzB := hbl.size
          by_cases hlt : q < l.length
          · have hlt' : (q : Int) < (l.length : Int) := by omega
            obtain ⟨ka, e1, e2⟩ := KK.out.at hlt
            have hlow := HLW.out _ (List.getElem_mem hlt)
            have htk : l.take (q + 1) = l.take q ++ [l[q]] := List.take_succ_eq_append_getElem hlt
            generalize l[q] = x at e1 htk hlow
            obtain ⟨xm, xp, xb⟩ := x
            obtain ⟨pv1, bv1, bs1, rfl, r2, r3, r4⟩ := e1
            have l2 : xp.length ≤ 8 := hlow.2.1
            have l2' : (xp.length : Int) ≤ 8 := by omega
            simp only at e2 r2
            obtain ⟨g, off, rfl, hg, hx3⟩ := x3_at R.out hlt e2
            obtain ⟨adp, cp, rfl⟩ := r2.is
            have k1 := hx3.keep (hbl.block g hg)
            have a0 := k1.c0
            have a1 := k1.c1
            have HTK := hidX htk
            clear hx3 k1 r2 r3 r4 e2 htk hlow
            by_cases hz : xm = m
            · have HP2 : Hid (ParsAt (l.take (q + 1)) m (xp.length : Int)) := Or.inr ⟨⟨xm, xp, xb⟩, by rw [HTK.out]; simp, hz, rfl⟩
              subst hz
              have hz' : (xm == xm) = true := by simp
              go_wp2
              go_roundw
              case rel => exact ⟨q + 1, _, by omega, by go_num, rfl, by omega, by omega, hbl, HP2.out⟩
              case measure => simp [intOf]; omega
            · have hz' : (xm == m) = false := by simpa using hz
              have HP2 : Hid (ParsAt (l.take (q + 1)) m pv) := by
                rcases HPV.out with ⟨h1, h2⟩ | ⟨f, hf, h1, h2⟩
                · refine Or.inl ⟨h1, fun f hf => ?_⟩
                  rw [HTK.out] at hf
                  rcases List.mem_append.1 hf with hf | hf
                  · exact h2 f hf
                  · rw [List.mem_singleton.1 hf]; exact hz
                · exact Or.inr ⟨f, by rw [HTK.out]; exact List.mem_append_left _ hf, h1, h2⟩
              clear hz
              go_wp2
              go_roundw
              case rel => exact ⟨q + 1, pv, by omega, by go_num, rfl, hpl1, hpl2, hbl, HP2.out⟩
              case measure => simp [intOf]; omega
          · have hqn : q = l.length := by omega
            subst hqn
            have hpv : ParsAt l m pv := by have := HPV.out; rwa [List.take_length] at this
            have HPL := hidX hpv
            have hkF := (hbl.block W6.heap.size (heap_lt HKB.out)).trans HKB.out
            have hkO := (hbl.block W5.heap.size (heap_lt HKAB.out)).trans HKAB.out
            have HKO := hidX hkO
            have HKF := hidX hkF
            have o0 : wr.cell? ⟨W5.heap.size, 0, none⟩ = some (.string ⟨(howV r1).toArray⟩) := cell_of_blk hkO 0
            have o1 : wr.cell? ⟨W5.heap.size, 1, none⟩ = some (.int .i64 (valV r1)) := cell_of_blk hkO 1
            have o2 : wr.cell? ⟨W5.heap.size, 2, none⟩ = some (.slice ad5 r1.st.out.length c5') := cell_of_blk hkO 2
            have o3 : wr.cell? ⟨W5.heap.size, 3, none⟩ = some (.int .i64 (r1.st.ticks : Int)) := cell_of_blk hkO 3
            have f0 : wr.cell? ⟨W6.heap.size, 0, none⟩ = some (.int .i64 pc) := cell_of_blk hkF 0
            have f1 : wr.cell? ⟨W6.heap.size, 1, none⟩ = some (.int .i64 pp) := cell_of_blk hkF 1
            have g0 := free_of_blk hkF 0
            have g1 := free_of_blk hkF 1
            have hbwr : Below w.heap.size w wr := bl_trans HBWB.out HBWB.out.size hbl
            have hbAr : Below XA.heap.size XA wr := bl_trans HBAB.out HBAB.out.size hbl
            have HBWR := hidX hbwr
            have HBAR := hidX hbAr
            clear hpv HPV hkF hkO hbwr hbAr R KK
            have hpc0 : progC l = (0, -1) := progC_none (by have := HG.out.1; omega) HG.out.2.1
            have hpc := HPC.out
            rw [hpc0] at hpc
            obtain ⟨rfl, rfl⟩ : pc = 0 ∧ pp = -1 := ⟨hpc.1.symm, hpc.2.symm⟩
            have hwf := prog_wf HG.out.2.1 HO.out
            have hpa : pv = (args.length : Int) := pars_ask HPL.out hwf HG.out.2.2
            subst hpa
            have hpn : ¬ (args.length : Int) < 0 := by omega
            have htn : ¬ (t : Int) < 0 := by omega
            have htm : ¬ (5000 : Int) < (t : Int) := by omega
            have hmo : ∀ X, Below wr.heap.size wr X → Calls Tryz.prog 13 #[.slice adl l.length cl, .string ⟨m.toArray⟩, .slice aad args.length acap, .int .i64 (t : Int)] X (ROTo X (runX runOps l m args t)) := fun X hX => by
              have hbX := bl_trans HBWR.out HBWR.out.size hX
              exact rrunOf_any hwf HLW.out (prog_kind HG.out.2.1) hl10 ht5 X _ _ m (by omega) args (HX.out.imp (inH_up hbX) (keepH hbX)) HG.out.2.2 H64.out (HAA.out.imp (inH_up hbX) (keepH hbX))
            rw [HRX.out] at hmo
            have HMO := hidX hmo
            have HS4 : Hid (wr.cell? ⟨W5.heap.size, 0, none⟩ = some (.string ⟨(howV r1).toArray⟩) ∧ wr.cell? ⟨W5.heap.size, 1, none⟩ = some (.int .i64 (valV r1)) ∧ wr.cell? ⟨W5.heap.size, 2, none⟩ = some (.slice ad5 r1.st.out.length c5') ∧ wr.cell? ⟨W5.heap.size, 3, none⟩ = some (.int .i64 (r1.st.ticks : Int))) := ⟨o0, o1, o2, o3⟩
            have hW5r : W5.heap.size < wr.heap.size := heap_lt HKO.out
            have HROW := hidX ((xrow_own (owns_below HO5.out (bl_trans HB5A.out HB5A.out.size HBAR.out))).imp (B := InH wr) (fun _ hb => hb.2) (fun _ _ => rfl))
            clear hpc0 hpc hwf hmo
            go_wp2_with fail
            go_region_held3 (fun W => W.cell? ⟨W5.heap.size, 0, none⟩ = some (.string ⟨(howV r1).toArray⟩) ∧ W.cell? ⟨W5.heap.size, 1, none⟩ = some (.int .i64 (valV r1)) ∧ W.cell? ⟨W5.heap.size, 2, none⟩ = some (.slice ad5 r1.st.out.length c5') ∧ W.cell? ⟨W5.heap.size, 3, none⟩ = some (.int .i64 (r1.st.ticks : Int)))
              (first | with_reducible exact s2 | with_reducible exact s1 | exact HS4.out)
              (first
                | (go_at_call 13; refine (HMO.out _ (by (repeat (first | exact Below.refl _ _ | assumption | refine Below.drew ?_ | refine Below.trans ?_ (drewN_below' _ _ _) | refine Below.setCell ?_ (by first | (simp; done) | (simp; omega)) _ | refine Below.alloc ?_ (by first | (simp; done) | (simp; omega)) _)))).mono ?_; rintro e Y1 ⟨hy1, ad8, c8, ho8, rfl⟩; have bY1 : Below wr.heap.size wr Y1 := bl_trans (show Below wr.heap.size wr _ by (repeat (first | exact Below.refl _ _ | assumption | refine Below.drew ?_ | refine Below.trans ?_ (drewN_below' _ _ _) | refine Below.setCell ?_ (by first | (simp; done) | (simp; omega)) _ | refine Below.alloc ?_ (by first | (simp; done) | (simp; omega)) _))) (by first | exact Nat.le_refl _ | (simp; done) | (simp; omega)) hy1; have s1 : Y1.cell? ⟨W5.heap.size, 0, none⟩ = some (.string ⟨(howV r1).toArray⟩) ∧ Y1.cell? ⟨W5.heap.size, 1, none⟩ = some (.int .i64 (valV r1)) ∧ Y1.cell? ⟨W5.heap.size, 2, none⟩ = some (.slice ad5 r1.st.out.length c5') ∧ Y1.cell? ⟨W5.heap.size, 3, none⟩ = some (.int .i64 (r1.st.ticks : Int)) := ⟨(bY1.cell (p := ⟨W5.heap.size, 0, none⟩) hW5r).trans HS4.out.1, (bY1.cell (p := ⟨W5.heap.size, 1, none⟩) hW5r).trans HS4.out.2.1, (bY1.cell (p := ⟨W5.heap.size, 2, none⟩) hW5r).trans HS4.out.2.2.1, (bY1.cell (p := ⟨W5.heap.size, 3, none⟩) hW5r).trans HS4.out.2.2.2⟩; have HO8 := hidX ho8; unfold outC; clear ho8 hy1)
                | (have hprev := HO8; clear hprev; go_at_call 12; refine (sameOut_any (howV r1) (valV r1) r1.st.ticks r1.st.out (by omega) _ ad5 ad8 c5' c8 (HROW.out.imp (inH_up (show Below wr.heap.size wr _ by (repeat (first | exact Below.refl _ _ | assumption | refine Below.drew ?_ | refine Below.trans ?_ (drewN_below' _ _ _) | refine Below.setCell ?_ (by first | (simp; done) | (simp; omega)) _ | refine Below.alloc ?_ (by first | (simp; done) | (simp; omega)) _)))) (keepH (show Below wr.heap.size wr _ by (repeat (first | exact Below.refl _ _ | assumption | refine Below.drew ?_ | refine Below.trans ?_ (drewN_below' _ _ _) | refine Below.setCell ?_ (by first | (simp; done) | (simp; omega)) _ | refine Below.alloc ?_ (by first | (simp; done) | (simp; omega)) _))))) (((xrow_own HO8.out).imp (B := InH Y1) (fun _ hb => hb.2) (fun _ _ => rfl)).imp (inH_up (show Below Y1.heap.size Y1 _ by (repeat (first | exact Below.refl _ _ | assumption | refine Below.drew ?_ | refine Below.trans ?_ (drewN_below' _ _ _) | refine Below.setCell ?_ (by first | (simp; done) | (simp; omega)) _ | refine Below.alloc ?_ (by first | (simp; done) | (simp; omega)) _)))) (keepH (show Below Y1.heap.size Y1 _ by (repeat (first | exact Below.refl _ _ | assumption | refine Below.drew ?_ | refine Below.trans ?_ (drewN_below' _ _ _) | refine Below.setCell ?_ (by first | (simp; done) | (simp; omega)) _ | refine Below.alloc ?_ (by first | (simp; done) | (simp; omega)) _)))))).mono ?_; rintro e Y2 ⟨rfl, hy2⟩; have bY2 : Below wr.heap.size wr Y2 := bl_trans (show Below wr.heap.size wr _ by (repeat (first | exact Below.refl _ _ | assumption | refine Below.drew ?_ | refine Below.trans ?_ (drewN_below' _ _ _) | refine Below.setCell ?_ (by first | (simp; done) | (simp; omega)) _ | refine Below.alloc ?_ (by first | (simp; done) | (simp; omega)) _))) (by first | exact bY1.size | exact Nat.le_refl _ | (simp; done) | (simp; omega)) hy2; have s2 : Y2.cell? ⟨W5.heap.size, 0, none⟩ = some (.string ⟨(howV r1).toArray⟩) ∧ Y2.cell? ⟨W5.heap.size, 1, none⟩ = some (.int .i64 (valV r1)) ∧ Y2.cell? ⟨W5.heap.size, 2, none⟩ = some (.slice ad5 r1.st.out.length c5') ∧ Y2.cell? ⟨W5.heap.size, 3, none⟩ = some (.int .i64 (r1.st.ticks : Int)) := ⟨(bY2.cell (p := ⟨W5.heap.size, 0, none⟩) hW5r).trans HS4.out.1, (bY2.cell (p := ⟨W5.heap.size, 1, none⟩) hW5r).trans HS4.out.2.1, (bY2.cell (p := ⟨W5.heap.size, 2, none⟩) hW5r).trans HS4.out.2.2.1, (bY2.cell (p := ⟨W5.heap.size, 3, none⟩) hW5r).trans HS4.out.2.2.2⟩; clear hy2))
            all_goals (
              go_wp2
              go_ret
              exact ⟨rfl, bl_trans HBWR.out HBWR.out.size bY2⟩)

      · refine (run_bad a l hl10 HLW.out HO.out W4 (HSS.out.below hbw4) vp hX4 m hml args H64.out (by omega) va hxr4 ticks hG).mono ?_
        rintro e W5 ⟨hb5, ev, he, hE⟩
        subst he
        have HE := hidX hE
        have HSW := hidX (HSS.out.below (bl_trans hbw4 hbw4.size hb5))
        clear hG hE
        obtain ⟨XA, hXA⟩ : ∃ XA, XA = W5.alloc (.cells #[.string ⟨#[]⟩, .int .i64 0, .slice none 0 0, .int .i64 0] 27) := ⟨_, rfl⟩
        have hbA : Below W5.heap.size W5 XA := by rw [hXA]; exact box_blk _ _ _
        have hkA : XA.heap[W5.heap.size]? = some (.cells #[.string ⟨#[]⟩, .int .i64 0, .slice none 0 0, .int .i64 0] 27 (0, 0)) := by rw [hXA]; exact heap_alloc_new _ _
        have hb4A : Below W4.heap.size W4 XA := bl_trans hb5 hb5.size hbA
        have hbwA : Below w.heap.size w XA := bl_trans hbw4 hbw4.size hb4A
        have hb5A : Below W5.heap.size W5 XA := hbA
        have HKA := hidX hkA
        have HB5A := hidX hb5A
        have HBWA := hidX hbwA
        clear hb5 hbA hkA hb4A hbwA hb5A hba hxr4 hX4
        unfold outC
        go_wp2_with fail
        rw [← hXA]
        clear hXA
        have hbwA := HBWA.out
        refine (rProg_any l hl10 HLW.out XA adl cl (HX.out.imp (inH_up hbwA) (keepH hbwA)) hcl hcl').mono ?_
        rintro e W6 ⟨rfl, hb6⟩
        have HB6 := hidX hb6
        generalize hpc : (progC l).1 = pc
        generalize hpp : (progC l).2 = pp
        have HPC : Hid ((progC l).1 = pc ∧ (progC l).2 = pp) := ⟨hpc, hpp⟩
        clear hpc hpp
        obtain ⟨XB, hXB⟩ : ∃ XB, XB = W6.alloc (.cells #[.int .i64 pc, .int .i64 pp] 35) := ⟨_, rfl⟩
        have hbB : Below W6.heap.size W6 XB := by rw [hXB]; exact box_blk _ _ _
        have hkB : XB.heap[W6.heap.size]? = some (.cells #[.int .i64 pc, .int .i64 pp] 35 (0, 0)) := by rw [hXB]; exact heap_alloc_new _ _
        have hbAB : Below XA.heap.size XA XB := bl_trans hb6 hb6.size hbB
        have hbwB : Below w.heap.size w XB := bl_trans hbwA hbwA.size hbAB
        have hlA : W5.heap.size < XA.heap.size := heap_lt HKA.out
        have hkAB := (hbAB.block W5.heap.size hlA).trans HKA.out
        have hXB' := HX.out.imp (inH_up hbwB) (keepH hbwB)
        obtain ⟨zs, hrB, hkzB⟩ := hXB'
        have R := hidX hrB
        have KK := hidX hkzB
        have HKB := hidX hkB
        have HKAB := hidX hkAB
        have HBAB := hidX hbAB
        have HBWB := hidX hbwB
        clear hbB hkB hbAB hkAB hrB hkzB hb6 hbwA
        go_wp2_with fail
        rw [← hXB]
        clear hXB
        go_loopw [14, 15] (fun vp vi wr => ∃ (q : Nat) (pv : Int), q ≤ l.length ∧ vi = .int .i64 q ∧ vp = .int .i64 pv ∧ -1 ≤ pv ∧ pv ≤ 8 ∧ Below XB.heap.size XB wr ∧ Hid (ParsAt (l.take q) m pv)) (fun _ vi _ => l.length - (intOf vi).toNat)
        case atStart => exact ⟨0, -1, Nat.zero_le _, rfl, rfl, by omega, by omega, Below.refl _ _, Or.inl ⟨rfl, by intro f hf; simp at hf⟩⟩
        case round =>
          obtain ⟨q, pv, hq, rfl, rfl, hpl1, hpl2, hbl, HPV⟩ := hrel
          have hzB := hbl.size
          by_cases hlt : q < l.length
          · have hlt' : (q : Int) < (l.length : Int) := by omega
            obtain ⟨ka, e1, e2⟩ := KK.out.at hlt
            have hlow := HLW.out _ (List.getElem_mem hlt)
            have htk : l.take (q + 1) = l.take q ++ [l[q]] := List.take_succ_eq_append_getElem hlt
            generalize l[q] = x at e1 htk hlow
            obtain ⟨xm, xp, xb⟩ := x
            obtain ⟨pv1, bv1, bs1, rfl, r2, r3, r4⟩ := e1
            have l2 : xp.length ≤ 8 := hlow.2.1
            have l2' : (xp.length : Int) ≤ 8 := by omega
            simp only at e2 r2
            obtain ⟨g, off, rfl, hg, hx3⟩ := x3_at R.out hlt e2
            obtain ⟨adp, cp, rfl⟩ := r2.is
            have k1 := hx3.keep (hbl.block g hg)
            have a0 := k1.c0
            have a1 := k1.c1
            have HTK := hidX htk
            clear hx3 k1 r2 r3 r4 e2 htk hlow
            by_cases hz : xm = m
            · have HP2 : Hid (ParsAt (l.take (q + 1)) m (xp.length : Int)) := Or.inr ⟨⟨xm, xp, xb⟩, by rw [HTK.out]; simp, hz, rfl⟩
              subst hz
              have hz' : (xm == xm) = true := by simp
              go_wp2
              go_roundw
              case rel => exact ⟨q + 1, _, by omega, by go_num, rfl, by omega, by omega, hbl, HP2.out⟩
              case measure => simp [intOf]; omega
            · have hz' : (xm == m) = false := by simpa using hz
              have HP2 : Hid (ParsAt (l.take (q + 1)) m pv) := by
                rcases HPV.out with ⟨h1, h2⟩ | ⟨f, hf, h1, h2⟩
                · refine Or.inl ⟨h1, fun f hf => ?_⟩
                  rw [HTK.out] at hf
                  rcases List.mem_append.1 hf with hf | hf
                  · exact h2 f hf
                  · rw [List.mem_singleton.1 hf]; exact hz
                · exact Or.inr ⟨f, by rw [HTK.out]; exact List.mem_append_left _ hf, h1, h2⟩
              clear hz
              go_wp2
              go_roundw
              case rel => exact ⟨q + 1, pv, by omega, by go_num, rfl, hpl1, hpl2, hbl, HP2.out⟩
              case measure => simp [intOf]; omega
          · have hqn : q = l.length := by omega
            subst hqn
            have hpv : ParsAt l m pv := by have := HPV.out; rwa [List.take_length] at this
            have HPL := hidX hpv
            have hkF := (hbl.block W6.heap.size (heap_lt HKB.out)).trans HKB.out
            have hkO := (hbl.block W5.heap.size (heap_lt HKAB.out)).trans HKAB.out
            have HKO := hidX hkO
            have HKF := hidX hkF
            have o0 : wr.cell? ⟨W5.heap.size, 0, none⟩ = some (.string ⟨#[]⟩) := cell_of_blk hkO 0
            have o1 : wr.cell? ⟨W5.heap.size, 1, none⟩ = some (.int .i64 0) := cell_of_blk hkO 1
            have o2 : wr.cell? ⟨W5.heap.size, 2, none⟩ = some (.slice none 0 0) := cell_of_blk hkO 2
            have o3 : wr.cell? ⟨W5.heap.size, 3, none⟩ = some (.int .i64 0) := cell_of_blk hkO 3
            have f0 : wr.cell? ⟨W6.heap.size, 0, none⟩ = some (.int .i64 pc) := cell_of_blk hkF 0
            have f1 : wr.cell? ⟨W6.heap.size, 1, none⟩ = some (.int .i64 pp) := cell_of_blk hkF 1
            have g0 := free_of_blk hkF 0
            have g1 := free_of_blk hkF 1
            have hbwr : Below w.heap.size w wr := bl_trans HBWB.out HBWB.out.size hbl
            have hbAr : Below XA.heap.size XA wr := bl_trans HBAB.out HBAB.out.size hbl
            have HBWR := hidX hbwr
            have HBAR := hidX hbAr
            clear hpv HPV hkF hkO hbwr hbAr R KK
            have HZ6 : Hid (XA.heap.size ≤ W6.heap.size) := by have := HB6.out; exact this.size
            rcases HE.out with ⟨h8, rfl⟩ | ⟨c, i, b, h8, hfc, hc0, rfl, hblk⟩ | ⟨h8, hfc, hwell⟩
            · have hpc := HPC.out
              rw [progC_full h8] at hpc
              obtain ⟨rfl, rfl⟩ : pc = 8 ∧ pp = -1 := ⟨hpc.1.symm, hpc.2.symm⟩
              have HFA : Hid (∀ X, Below W5.heap.size W5 X → Calls Tryz.prog 11 #[sentV (a 7), .agg #[.int .i64 8, .int .i64 (-1)]] X fun e w' => e = .returned (.bool true) ∧ Below X.heap.size X w') := fun X hX => faulted_str a 7 (by omega) 8 rfl X (HSW.out.below hX)
              have HBX := HBAR
              clear hpc h8 HE
              have hbX5 : Below W5.heap.size W5 wr := bl_trans HB5A.out HB5A.out.size HBX.out
              have HFX := hidX (HFA.out wr hbX5)
              clear hbX5
              go_wp2_with fail
              refine HFX.out.mono ?_
              rintro e Y1 ⟨rfl, hy1⟩
              have hbY : Below XA.heap.size XA Y1 := bl_trans HBX.out HBX.out.size hy1
              have hlA2 : W5.heap.size < XA.heap.size := heap_lt HKA.out
              have hkY := (hbY.block W5.heap.size hlA2).trans HKA.out
              have y0 : Y1.cell? ⟨W5.heap.size, 0, none⟩ = some (.string ⟨#[]⟩) := cell_of_blk hkY 0
              have y1 : Y1.cell? ⟨W5.heap.size, 1, none⟩ = some (.int .i64 0) := cell_of_blk hkY 1
              have y2 : Y1.cell? ⟨W5.heap.size, 2, none⟩ = some (.slice none 0 0) := cell_of_blk hkY 2
              have y3 : Y1.cell? ⟨W5.heap.size, 3, none⟩ = some (.int .i64 0) := cell_of_blk hkY 3
              have HSO := hidX (sameOut_any [] 0 0 [] (by simp) Y1 none none 0 0 (xrow_nil _ _) (xrow_nil _ _))
              have HBY := hidX (bl_trans HBWA.out HBWA.out.size hbY)
              clear hy1 hbY hkY
              go_wp2_with fail
              refine HSO.out.mono ?_
              rintro e Y2 ⟨rfl, hy2⟩
              go_wp2
              go_ret
              exact ⟨rfl, bl_trans HBY.out HBY.out.size hy2⟩
            · have hpc := HPC.out
              rw [progC_some h8 hfc] at hpc
              obtain ⟨rfl, rfl⟩ : pc = (c : Int) ∧ pp = (i : Int) := ⟨hpc.1.symm, hpc.2.symm⟩
              have hc9 := funsC_low l l [] c i hfc
              have HFA : Hid (∀ X, Below W5.heap.size W5 X → Calls Tryz.prog 11 #[.iface 125 (.pointer (some ⟨b, 0, none⟩)), .agg #[.int .i64 (c : Int), .int .i64 (i : Int)]] X fun e w' => e = .returned (.bool true) ∧ Below X.heap.size X w') := fun X hX => faulted_fault a (c - 1) (by omega) (c : Int) (by omega) b (i : Int) X (HSW.out.below hX) ((hX.block b (heap_lt hblk)).trans hblk)
              have hcz : ((c : Int) == 0) = false := beq_eq_false_iff_ne.2 (by omega)
              have hcp : (0 : Int) < (c : Int) := by omega
              have HBX := HBAR
              clear hpc h8 HE hfc hblk hc0
              have hbX5 : Below W5.heap.size W5 wr := bl_trans HB5A.out HB5A.out.size HBX.out
              have HFX := hidX (HFA.out wr hbX5)
              clear hbX5
              go_wp2_with fail
              refine HFX.out.mono ?_
              rintro e Y1 ⟨rfl, hy1⟩
              have hbY : Below XA.heap.size XA Y1 := bl_trans HBX.out HBX.out.size hy1
              have hlA2 : W5.heap.size < XA.heap.size := heap_lt HKA.out
              have hkY := (hbY.block W5.heap.size hlA2).trans HKA.out
              have y0 : Y1.cell? ⟨W5.heap.size, 0, none⟩ = some (.string ⟨#[]⟩) := cell_of_blk hkY 0
              have y1 : Y1.cell? ⟨W5.heap.size, 1, none⟩ = some (.int .i64 0) := cell_of_blk hkY 1
              have y2 : Y1.cell? ⟨W5.heap.size, 2, none⟩ = some (.slice none 0 0) := cell_of_blk hkY 2
              have y3 : Y1.cell? ⟨W5.heap.size, 3, none⟩ = some (.int .i64 0) := cell_of_blk hkY 3
              have HSO := hidX (sameOut_any [] 0 0 [] (by simp) Y1 none none 0 0 (xrow_nil _ _) (xrow_nil _ _))
              have HBY := hidX (bl_trans HBWA.out HBWA.out.size hbY)
              clear hy1 hbY hkY
              go_wp2_with fail
              refine HSO.out.mono ?_
              rintro e Y2 ⟨rfl, hy2⟩
              go_wp2
              go_ret
              exact ⟨rfl, bl_trans HBY.out HBY.out.size hy2⟩
            · have hpc := HPC.out
              rw [progC_none h8 hfc] at hpc
              obtain ⟨rfl, rfl⟩ : pc = 0 ∧ pp = -1 := ⟨hpc.1.symm, hpc.2.symm⟩
              rcases hwell with ⟨hn, rfl⟩ | ⟨hh, hn, rfl⟩ | ⟨hask, hti, rfl⟩
              · have hpv := pars_none HPL.out hn
                subst hpv
                clear hpc h8 HE hfc hn
                obtain ⟨XC, hXC⟩ : ∃ XC, XC = ((wr.setCell ⟨W6.heap.size, 0, none⟩ (.int .i64 6)).setCell ⟨W6.heap.size, 1, none⟩ (.int .i64 (-1))).alloc (.cells #[.int .i64 6, .int .i64 (-1)] 35) := ⟨_, rfl⟩
                have hzAF : XA.heap.size ≤ W6.heap.size := HZ6.out
                have hbX : Below XA.heap.size XA XC := by
                  have h1 := (HBAR.out.setCell (show XA.heap.size ≤ (⟨W6.heap.size, 0, none⟩ : Addr).block from hzAF) (.int .i64 6)).setCell (show XA.heap.size ≤ (⟨W6.heap.size, 1, none⟩ : Addr).block from hzAF) (.int .i64 (-1))
                  rw [hXC]; exact h1.alloc h1.size _
                have hkC : XC.heap[W6.heap.size]? = some (.cells #[.int .i64 6, .int .i64 (-1)] 35 (0, 0)) := by
                  rw [hXC, Below.heap_alloc _ _ _ (by have := heap_lt HKF.out; simp only [World.setCell, Array.size_modify]; omega)]
                  simpa using blk_setCell (blk_setCell HKF.out 0 (.int .i64 6)) 1 (.int .i64 (-1))
                have HBX := hidX hbX
                have k0 : XC.cell? ⟨W6.heap.size, 0, none⟩ = some (.int .i64 6) := cell_of_blk hkC 0
                have k1 : XC.cell? ⟨W6.heap.size, 1, none⟩ = some (.int .i64 (-1)) := cell_of_blk hkC 1
                have HFA : Hid (∀ X, Below W5.heap.size W5 X → Calls Tryz.prog 11 #[sentV (a 5), .agg #[.int .i64 6, .int .i64 (-1)]] X fun e w' => e = .returned (.bool true) ∧ Below X.heap.size X w') := fun X hX => faulted_str a 5 (by omega) 6 rfl X (HSW.out.below hX)
                have hzF : W6.heap.size < wr.heap.size := heap_lt HKF.out
                clear hbX hkC hzAF
                go_wp2_with (go_at_call 10; refine (bare_any _ _).mono ?_; rintro e w' ⟨rfl, hh⟩; subst hh)
                rw [← hXC]
                clear hXC o0 o1 o2 o3 f0 f1 g0 g1
                have hbX5 : Below W5.heap.size W5 XC := bl_trans HB5A.out HB5A.out.size HBX.out
                have HFX := hidX (HFA.out XC hbX5)
                clear hbX5
                skip
                refine HFX.out.mono ?_
                rintro e Y1 ⟨rfl, hy1⟩
                have hbY : Below XA.heap.size XA Y1 := bl_trans HBX.out HBX.out.size hy1
                have hlA2 : W5.heap.size < XA.heap.size := heap_lt HKA.out
                have hkY := (hbY.block W5.heap.size hlA2).trans HKA.out
                have y0 : Y1.cell? ⟨W5.heap.size, 0, none⟩ = some (.string ⟨#[]⟩) := cell_of_blk hkY 0
                have y1 : Y1.cell? ⟨W5.heap.size, 1, none⟩ = some (.int .i64 0) := cell_of_blk hkY 1
                have y2 : Y1.cell? ⟨W5.heap.size, 2, none⟩ = some (.slice none 0 0) := cell_of_blk hkY 2
                have y3 : Y1.cell? ⟨W5.heap.size, 3, none⟩ = some (.int .i64 0) := cell_of_blk hkY 3
                have HSO := hidX (sameOut_any [] 0 0 [] (by simp) Y1 none none 0 0 (xrow_nil _ _) (xrow_nil _ _))
                have HBY := hidX (bl_trans HBWA.out HBWA.out.size hbY)
                clear hy1 hbY hkY
                go_wp2_with fail
                refine HSO.out.mono ?_
                rintro e Y2 ⟨rfl, hy2⟩
                go_wp2
                go_ret
                exact ⟨rfl, bl_trans HBY.out HBY.out.size hy2⟩
              · obtain ⟨hp0, hpn⟩ := pars_not HPL.out hh hn
                have hp0' : ¬ pv < 0 := by omega
                clear hpc h8 HE hfc hn hh
                obtain ⟨XC, hXC⟩ : ∃ XC, XC = ((wr.setCell ⟨W6.heap.size, 0, none⟩ (.int .i64 9)).setCell ⟨W6.heap.size, 1, none⟩ (.int .i64 (-1))).alloc (.cells #[.int .i64 9, .int .i64 (-1)] 35) := ⟨_, rfl⟩
                have hzAF : XA.heap.size ≤ W6.heap.size := HZ6.out
                have hbX : Below XA.heap.size XA XC := by
                  have h1 := (HBAR.out.setCell (show XA.heap.size ≤ (⟨W6.heap.size, 0, none⟩ : Addr).block from hzAF) (.int .i64 9)).setCell (show XA.heap.size ≤ (⟨W6.heap.size, 1, none⟩ : Addr).block from hzAF) (.int .i64 (-1))
                  rw [hXC]; exact h1.alloc h1.size _
                have hkC : XC.heap[W6.heap.size]? = some (.cells #[.int .i64 9, .int .i64 (-1)] 35 (0, 0)) := by
                  rw [hXC, Below.heap_alloc _ _ _ (by have := heap_lt HKF.out; simp only [World.setCell, Array.size_modify]; omega)]
                  simpa using blk_setCell (blk_setCell HKF.out 0 (.int .i64 9)) 1 (.int .i64 (-1))
                have HBX := hidX hbX
                have k0 : XC.cell? ⟨W6.heap.size, 0, none⟩ = some (.int .i64 9) := cell_of_blk hkC 0
                have k1 : XC.cell? ⟨W6.heap.size, 1, none⟩ = some (.int .i64 (-1)) := cell_of_blk hkC 1
                have HFA : Hid (∀ X, Below W5.heap.size W5 X → Calls Tryz.prog 11 #[sentV (a 8), .agg #[.int .i64 9, .int .i64 (-1)]] X fun e w' => e = .returned (.bool true) ∧ Below X.heap.size X w') := fun X hX => faulted_str a 8 (by omega) 9 rfl X (HSW.out.below hX)
                have hzF : W6.heap.size < wr.heap.size := heap_lt HKF.out
                clear hbX hkC hzAF
                go_wp2_with (go_at_call 10; refine (bare_any _ _).mono ?_; rintro e w' ⟨rfl, hh⟩; subst hh)
                rw [← hXC]
                clear hXC o0 o1 o2 o3 f0 f1 g0 g1
                have hbX5 : Below W5.heap.size W5 XC := bl_trans HB5A.out HB5A.out.size HBX.out
                have HFX := hidX (HFA.out XC hbX5)
                clear hbX5
                skip
                refine HFX.out.mono ?_
                rintro e Y1 ⟨rfl, hy1⟩
                have hbY : Below XA.heap.size XA Y1 := bl_trans HBX.out HBX.out.size hy1
                have hlA2 : W5.heap.size < XA.heap.size := heap_lt HKA.out
                have hkY := (hbY.block W5.heap.size hlA2).trans HKA.out
                have y0 : Y1.cell? ⟨W5.heap.size, 0, none⟩ = some (.string ⟨#[]⟩) := cell_of_blk hkY 0
                have y1 : Y1.cell? ⟨W5.heap.size, 1, none⟩ = some (.int .i64 0) := cell_of_blk hkY 1
                have y2 : Y1.cell? ⟨W5.heap.size, 2, none⟩ = some (.slice none 0 0) := cell_of_blk hkY 2
                have y3 : Y1.cell? ⟨W5.heap.size, 3, none⟩ = some (.int .i64 0) := cell_of_blk hkY 3
                have HSO := hidX (sameOut_any [] 0 0 [] (by simp) Y1 none none 0 0 (xrow_nil _ _) (xrow_nil _ _))
                have HBY := hidX (bl_trans HBWA.out HBWA.out.size hbY)
                clear hy1 hbY hkY
                go_wp2_with fail
                refine HSO.out.mono ?_
                rintro e Y2 ⟨rfl, hy2⟩
                go_wp2
                go_ret
                exact ⟨rfl, bl_trans HBY.out HBY.out.size hy2⟩
              · have hpv := pars_ask HPL.out (prog_wf hfc HO.out) hask
                subst hpv
                have hp0' : ¬ (args.length : Int) < 0 := by omega
                clear hpc h8 HE hfc hask
                rcases hti with ht0 | ht0
                · have ht1 := ht0
                  obtain ⟨XC, hXC⟩ : ∃ XC, XC = ((wr.setCell ⟨W6.heap.size, 0, none⟩ (.int .i64 2)).setCell ⟨W6.heap.size, 1, none⟩ (.int .i64 (-1))).alloc (.cells #[.int .i64 2, .int .i64 (-1)] 35) := ⟨_, rfl⟩
                  have hzAF : XA.heap.size ≤ W6.heap.size := HZ6.out
                  have hbX : Below XA.heap.size XA XC := by
                    have h1 := (HBAR.out.setCell (show XA.heap.size ≤ (⟨W6.heap.size, 0, none⟩ : Addr).block from hzAF) (.int .i64 2)).setCell (show XA.heap.size ≤ (⟨W6.heap.size, 1, none⟩ : Addr).block from hzAF) (.int .i64 (-1))
                    rw [hXC]; exact h1.alloc h1.size _
                  have hkC : XC.heap[W6.heap.size]? = some (.cells #[.int .i64 2, .int .i64 (-1)] 35 (0, 0)) := by
                    rw [hXC, Below.heap_alloc _ _ _ (by have := heap_lt HKF.out; simp only [World.setCell, Array.size_modify]; omega)]
                    simpa using blk_setCell (blk_setCell HKF.out 0 (.int .i64 2)) 1 (.int .i64 (-1))
                  have HBX := hidX hbX
                  have k0 : XC.cell? ⟨W6.heap.size, 0, none⟩ = some (.int .i64 2) := cell_of_blk hkC 0
                  have k1 : XC.cell? ⟨W6.heap.size, 1, none⟩ = some (.int .i64 (-1)) := cell_of_blk hkC 1
                  have HFA : Hid (∀ X, Below W5.heap.size W5 X → Calls Tryz.prog 11 #[sentV (a 1), .agg #[.int .i64 2, .int .i64 (-1)]] X fun e w' => e = .returned (.bool true) ∧ Below X.heap.size X w') := fun X hX => faulted_str a 1 (by omega) 2 rfl X (HSW.out.below hX)
                  have hzF : W6.heap.size < wr.heap.size := heap_lt HKF.out
                  clear hbX hkC hzAF
                  go_wp2_with (go_at_call 10; refine (bare_any _ _).mono ?_; rintro e w' ⟨rfl, hh⟩; subst hh)
                  rw [← hXC]
                  clear hXC o0 o1 o2 o3 f0 f1 g0 g1
                  have hbX5 : Below W5.heap.size W5 XC := bl_trans HB5A.out HB5A.out.size HBX.out
                  have HFX := hidX (HFA.out XC hbX5)
                  clear hbX5
                  skip
                  refine HFX.out.mono ?_
                  rintro e Y1 ⟨rfl, hy1⟩
                  have hbY : Below XA.heap.size XA Y1 := bl_trans HBX.out HBX.out.size hy1
                  have hlA2 : W5.heap.size < XA.heap.size := heap_lt HKA.out
                  have hkY := (hbY.block W5.heap.size hlA2).trans HKA.out
                  have y0 : Y1.cell? ⟨W5.heap.size, 0, none⟩ = some (.string ⟨#[]⟩) := cell_of_blk hkY 0
                  have y1 : Y1.cell? ⟨W5.heap.size, 1, none⟩ = some (.int .i64 0) := cell_of_blk hkY 1
                  have y2 : Y1.cell? ⟨W5.heap.size, 2, none⟩ = some (.slice none 0 0) := cell_of_blk hkY 2
                  have y3 : Y1.cell? ⟨W5.heap.size, 3, none⟩ = some (.int .i64 0) := cell_of_blk hkY 3
                  have HSO := hidX (sameOut_any [] 0 0 [] (by simp) Y1 none none 0 0 (xrow_nil _ _) (xrow_nil _ _))
                  have HBY := hidX (bl_trans HBWA.out HBWA.out.size hbY)
                  clear hy1 hbY hkY
                  go_wp2_with fail
                  refine HSO.out.mono ?_
                  rintro e Y2 ⟨rfl, hy2⟩
                  go_wp2
                  go_ret
                  exact ⟨rfl, bl_trans HBY.out HBY.out.size hy2⟩
                · exfalso; omega

    · have HC3' := HC3
      go_wp2_with fail
      refine (asFuns_any l hl10 HLW.out W2 _ (HX.out.imp (inH_up hbw2) (keepH hbw2))).mono ?_
      rintro e W3 ⟨hb3, vp, ys, rfl, hown, hxs⟩
      have hX3 : XLF (InH W3) W3 vp l := ⟨ys, (xrow_own hown).imp (fun _ hb => hb.2) (fun _ _ => rfl), XFs.imp (fun _ hb => hb.2.1) (fun _ _ => rfl) _ _ hxs⟩
      have hbw3 : Below w.heap.size w W3 := hbw2.trans (hb3.mono hbw2.size)
      have HX3 := hidX hX3
      have HAR3 := hidX (HAA.out.imp (inH_up hbw3) (keepH hbw3))
      clear hown hxs hX3
      go_wp2_with (first | (at_builtin; refine wpList_append_ints rfl _ _ rfl rfl _ rfl args (by omega) HAR3.out ?_; intro va W4 hoa hba; have HOA := hidX hoa; have HBA := hidX hba; clear hoa hba) | fail)
      have hba := HBA.out
      have hbw4 : Below w.heap.size w W4 := bl_trans hbw3 hbw3.size hba
      have hxr4 := (xrow_own HOA.out).imp (B := InH W4) (fun _ hb => hb.2) (fun _ _ => rfl)
      have hX4 := HX3.out.imp (inH_up hba) (keepH hba)
      have hG : ¬ (l.length ≤ 8 ∧ funsC l [] l = none ∧ AskOk l m args.length ∧ 0 ≤ ticks ∧ ticks ≤ 5000) := fun h => by have := h.2.2.2.2; omega
      refine (run_bad a l hl10 HLW.out HO.out W4 (HSS.out.below hbw4) vp hX4 m hml args H64.out (by omega) va hxr4 ticks hG).mono ?_
      rintro e W5 ⟨hb5, ev, he, hE⟩
      subst he
      have HE := hidX hE
      have HSW := hidX (HSS.out.below (bl_trans hbw4 hbw4.size hb5))
      clear hG hE
      obtain ⟨XA, hXA⟩ : ∃ XA, XA = W5.alloc (.cells #[.string ⟨#[]⟩, .int .i64 0, .slice none 0 0, .int .i64 0] 27) := ⟨_, rfl⟩
      have hbA : Below W5.heap.size W5 XA := by rw [hXA]; exact box_blk _ _ _
      have hkA : XA.heap[W5.heap.size]? = some (.cells #[.string ⟨#[]⟩, .int .i64 0, .slice none 0 0, .int .i64 0] 27 (0, 0)) := by rw [hXA]; exact heap_alloc_new _ _
      have hb4A : Below W4.heap.size W4 XA := bl_trans hb5 hb5.size hbA
      have hbwA : Below w.heap.size w XA := bl_trans hbw4 hbw4.size hb4A
      have hb5A : Below W5.heap.size W5 XA := hbA
      have HKA := hidX hkA
      have HB5A := hidX hb5A
      have HBWA := hidX hbwA
      clear hb5 hbA hkA hb4A hbwA hb5A hba hxr4 hX4
      unfold outC
      go_wp2_with fail
      rw [← hXA]
      clear hXA
      have hbwA := HBWA.out
      refine (rProg_any l hl10 HLW.out XA adl cl (HX.out.imp (inH_up hbwA) (keepH hbwA)) hcl hcl').mono ?_
      rintro e W6 ⟨rfl, hb6⟩
      have HB6 := hidX hb6
      generalize hpc : (progC l).1 = pc
      generalize hpp : (progC l).2 = pp
      have HPC : Hid ((progC l).1 = pc ∧ (progC l).2 = pp) := ⟨hpc, hpp⟩
      clear hpc hpp
      obtain ⟨XB, hXB⟩ : ∃ XB, XB = W6.alloc (.cells #[.int .i64 pc, .int .i64 pp] 35) := ⟨_, rfl⟩
      have hbB : Below W6.heap.size W6 XB := by rw [hXB]; exact box_blk _ _ _
      have hkB : XB.heap[W6.heap.size]? = some (.cells #[.int .i64 pc, .int .i64 pp] 35 (0, 0)) := by rw [hXB]; exact heap_alloc_new _ _
      have hbAB : Below XA.heap.size XA XB := bl_trans hb6 hb6.size hbB
      have hbwB : Below w.heap.size w XB := bl_trans hbwA hbwA.size hbAB
      have hlA : W5.heap.size < XA.heap.size := heap_lt HKA.out
      have hkAB := (hbAB.block W5.heap.size hlA).trans HKA.out
      have hXB' := HX.out.imp (inH_up hbwB) (keepH hbwB)
      obtain ⟨zs, hrB, hkzB⟩ := hXB'
      have R := hidX hrB
      have KK := hidX hkzB
      have HKB := hidX hkB
      have HKAB := hidX hkAB
      have HBAB := hidX hbAB
      have HBWB := hidX hbwB
      clear hbB hkB hbAB hkAB hrB hkzB hb6 hbwA
      go_wp2_with fail
      rw [← hXB]
      clear hXB
      go_loopw [14, 15] (fun vp vi wr => ∃ (q : Nat) (pv : Int), q ≤ l.length ∧ vi = .int .i64 q ∧ vp = .int .i64 pv ∧ -1 ≤ pv ∧ pv ≤ 8 ∧ Below XB.heap.size XB wr ∧ Hid (ParsAt (l.take q) m pv)) (fun _ vi _ => l.length - (intOf vi).toNat)
      case atStart => exact ⟨0, -1, Nat.zero_le _, rfl, rfl, by omega, by omega, Below.refl _ _, Or.inl ⟨rfl, by intro f hf; simp at hf⟩⟩
      case round =>
        obtain ⟨q, pv, hq, rfl, rfl, hpl1, hpl2, hbl, HPV⟩ := hrel
        have hzB := hbl.size
        by_cases hlt : q < l.length
        · have hlt' : (q : Int) < (l.length : Int) := by omega
          obtain ⟨ka, e1, e2⟩ := KK.out.at hlt
          have hlow := HLW.out _ (List.getElem_mem hlt)
          have htk : l.take (q + 1) = l.take q ++ [l[q]] := List.take_succ_eq_append_getElem hlt
          generalize l[q] = x at e1 htk hlow
          obtain ⟨xm, xp, xb⟩ := x
          obtain ⟨pv1, bv1, bs1, rfl, r2, r3, r4⟩ := e1
          have l2 : xp.length ≤ 8 := hlow.2.1
          have l2' : (xp.length : Int) ≤ 8 := by omega
          simp only at e2 r2
          obtain ⟨g, off, rfl, hg, hx3⟩ := x3_at R.out hlt e2
          obtain ⟨adp, cp, rfl⟩ := r2.is
          have k1 := hx3.keep (hbl.block g hg)
          have a0 := k1.c0
          have a1 := k1.c1
          have HTK := hidX htk
          clear hx3 k1 r2 r3 r4 e2 htk hlow
          by_cases hz : xm = m
          · have HP2 : Hid (ParsAt (l.take (q + 1)) m (xp.length : Int)) := Or.inr ⟨⟨xm, xp, xb⟩, by rw [HTK.out]; simp, hz, rfl⟩
            subst hz
            have hz' : (xm == xm) = true := by simp
            go_wp2
            go_roundw
            case rel => exact ⟨q + 1, _, by omega, by go_num, rfl, by omega, by omega, hbl, HP2.out⟩
            case measure => simp [intOf]; omega
          · have hz' : (xm == m) = false := by simpa using hz
            have HP2 : Hid (ParsAt (l.take (q + 1)) m pv) := by
              rcases HPV.out with ⟨h1, h2⟩ | ⟨f, hf, h1, h2⟩
              · refine Or.inl ⟨h1, fun f hf => ?_⟩
                rw [HTK.out] at hf
                rcases List.mem_append.1 hf with hf | hf
                · exact h2 f hf
                · rw [List.mem_singleton.1 hf]; exact hz
              · exact Or.inr ⟨f, by rw [HTK.out]; exact List.mem_append_left _ hf, h1, h2⟩
            clear hz
            go_wp2
            go_roundw
            case rel => exact ⟨q + 1, pv, by omega, by go_num, rfl, hpl1, hpl2, hbl, HP2.out⟩
            case measure => simp [intOf]; omega
        · have hqn : q = l.length := by omega
          subst hqn
          have hpv : ParsAt l m pv := by have := HPV.out; rwa [List.take_length] at this
          have HPL := hidX hpv
          have hkF := (hbl.block W6.heap.size (heap_lt HKB.out)).trans HKB.out
          have hkO := (hbl.block W5.heap.size (heap_lt HKAB.out)).trans HKAB.out
          have HKO := hidX hkO
          have HKF := hidX hkF
          have o0 : wr.cell? ⟨W5.heap.size, 0, none⟩ = some (.string ⟨#[]⟩) := cell_of_blk hkO 0
          have o1 : wr.cell? ⟨W5.heap.size, 1, none⟩ = some (.int .i64 0) := cell_of_blk hkO 1
          have o2 : wr.cell? ⟨W5.heap.size, 2, none⟩ = some (.slice none 0 0) := cell_of_blk hkO 2
          have o3 : wr.cell? ⟨W5.heap.size, 3, none⟩ = some (.int .i64 0) := cell_of_blk hkO 3
          have f0 : wr.cell? ⟨W6.heap.size, 0, none⟩ = some (.int .i64 pc) := cell_of_blk hkF 0
          have f1 : wr.cell? ⟨W6.heap.size, 1, none⟩ = some (.int .i64 pp) := cell_of_blk hkF 1
          have g0 := free_of_blk hkF 0
          have g1 := free_of_blk hkF 1
          have hbwr : Below w.heap.size w wr := bl_trans HBWB.out HBWB.out.size hbl
          have hbAr : Below XA.heap.size XA wr := bl_trans HBAB.out HBAB.out.size hbl
          have HBWR := hidX hbwr
          have HBAR := hidX hbAr
          clear hpv HPV hkF hkO hbwr hbAr R KK
          have HZ6 : Hid (XA.heap.size ≤ W6.heap.size) := by have := HB6.out; exact this.size
          rcases HE.out with ⟨h8, rfl⟩ | ⟨c, i, b, h8, hfc, hc0, rfl, hblk⟩ | ⟨h8, hfc, hwell⟩
          · have hpc := HPC.out
            rw [progC_full h8] at hpc
            obtain ⟨rfl, rfl⟩ : pc = 8 ∧ pp = -1 := ⟨hpc.1.symm, hpc.2.symm⟩
            have HFA : Hid (∀ X, Below W5.heap.size W5 X → Calls Tryz.prog 11 #[sentV (a 7), .agg #[.int .i64 8, .int .i64 (-1)]] X fun e w' => e = .returned (.bool true) ∧ Below X.heap.size X w') := fun X hX => faulted_str a 7 (by omega) 8 rfl X (HSW.out.below hX)
            have HBX := HBAR
            clear hpc h8 HE
            have hbX5 : Below W5.heap.size W5 wr := bl_trans HB5A.out HB5A.out.size HBX.out
            have HFX := hidX (HFA.out wr hbX5)
            clear hbX5
            go_wp2_with fail
            refine HFX.out.mono ?_
            rintro e Y1 ⟨rfl, hy1⟩
            have hbY : Below XA.heap.size XA Y1 := bl_trans HBX.out HBX.out.size hy1
            have hlA2 : W5.heap.size < XA.heap.size := heap_lt HKA.out
            have hkY := (hbY.block W5.heap.size hlA2).trans HKA.out
            have y0 : Y1.cell? ⟨W5.heap.size, 0, none⟩ = some (.string ⟨#[]⟩) := cell_of_blk hkY 0
            have y1 : Y1.cell? ⟨W5.heap.size, 1, none⟩ = some (.int .i64 0) := cell_of_blk hkY 1
            have y2 : Y1.cell? ⟨W5.heap.size, 2, none⟩ = some (.slice none 0 0) := cell_of_blk hkY 2
            have y3 : Y1.cell? ⟨W5.heap.size, 3, none⟩ = some (.int .i64 0) := cell_of_blk hkY 3
            have HSO := hidX (sameOut_any [] 0 0 [] (by simp) Y1 none none 0 0 (xrow_nil _ _) (xrow_nil _ _))
            have HBY := hidX (bl_trans HBWA.out HBWA.out.size hbY)
            clear hy1 hbY hkY
            go_wp2_with fail
            refine HSO.out.mono ?_
            rintro e Y2 ⟨rfl, hy2⟩
            go_wp2
            go_ret
            exact ⟨rfl, bl_trans HBY.out HBY.out.size hy2⟩
          · have hpc := HPC.out
            rw [progC_some h8 hfc] at hpc
            obtain ⟨rfl, rfl⟩ : pc = (c : Int) ∧ pp = (i : Int) := ⟨hpc.1.symm, hpc.2.symm⟩
            have hc9 := funsC_low l l [] c i hfc
            have HFA : Hid (∀ X, Below W5.heap.size W5 X → Calls Tryz.prog 11 #[.iface 125 (.pointer (some ⟨b, 0, none⟩)), .agg #[.int .i64 (c : Int), .int .i64 (i : Int)]] X fun e w' => e = .returned (.bool true) ∧ Below X.heap.size X w') := fun X hX => faulted_fault a (c - 1) (by omega) (c : Int) (by omega) b (i : Int) X (HSW.out.below hX) ((hX.block b (heap_lt hblk)).trans hblk)
            have hcz : ((c : Int) == 0) = false := beq_eq_false_iff_ne.2 (by omega)
            have hcp : (0 : Int) < (c : Int) := by omega
            have HBX := HBAR
            clear hpc h8 HE hfc hblk hc0
            have hbX5 : Below W5.heap.size W5 wr := bl_trans HB5A.out HB5A.out.size HBX.out
            have HFX := hidX (HFA.out wr hbX5)
            clear hbX5
            go_wp2_with fail
            refine HFX.out.mono ?_
            rintro e Y1 ⟨rfl, hy1⟩
            have hbY : Below XA.heap.size XA Y1 := bl_trans HBX.out HBX.out.size hy1
            have hlA2 : W5.heap.size < XA.heap.size := heap_lt HKA.out
            have hkY := (hbY.block W5.heap.size hlA2).trans HKA.out
            have y0 : Y1.cell? ⟨W5.heap.size, 0, none⟩ = some (.string ⟨#[]⟩) := cell_of_blk hkY 0
            have y1 : Y1.cell? ⟨W5.heap.size, 1, none⟩ = some (.int .i64 0) := cell_of_blk hkY 1
            have y2 : Y1.cell? ⟨W5.heap.size, 2, none⟩ = some (.slice none 0 0) := cell_of_blk hkY 2
            have y3 : Y1.cell? ⟨W5.heap.size, 3, none⟩ = some (.int .i64 0) := cell_of_blk hkY 3
            have HSO := hidX (sameOut_any [] 0 0 [] (by simp) Y1 none none 0 0 (xrow_nil _ _) (xrow_nil _ _))
            have HBY := hidX (bl_trans HBWA.out HBWA.out.size hbY)
            clear hy1 hbY hkY
            go_wp2_with fail
            refine HSO.out.mono ?_
            rintro e Y2 ⟨rfl, hy2⟩
            go_wp2
            go_ret
            exact ⟨rfl, bl_trans HBY.out HBY.out.size hy2⟩
          · have hpc := HPC.out
            rw [progC_none h8 hfc] at hpc
            obtain ⟨rfl, rfl⟩ : pc = 0 ∧ pp = -1 := ⟨hpc.1.symm, hpc.2.symm⟩
            rcases hwell with ⟨hn, rfl⟩ | ⟨hh, hn, rfl⟩ | ⟨hask, hti, rfl⟩
            · have hpv := pars_none HPL.out hn
              subst hpv
              clear hpc h8 HE hfc hn
              obtain ⟨XC, hXC⟩ : ∃ XC, XC = ((wr.setCell ⟨W6.heap.size, 0, none⟩ (.int .i64 6)).setCell ⟨W6.heap.size, 1, none⟩ (.int .i64 (-1))).alloc (.cells #[.int .i64 6, .int .i64 (-1)] 35) := ⟨_, rfl⟩
              have hzAF : XA.heap.size ≤ W6.heap.size := HZ6.out
              have hbX : Below XA.heap.size XA XC := by
                have h1 := (HBAR.out.setCell (show XA.heap.size ≤ (⟨W6.heap.size, 0, none⟩ : Addr).block from hzAF) (.int .i64 6)).setCell (show XA.heap.size ≤ (⟨W6.heap.size, 1, none⟩ : Addr).block from hzAF) (.int .i64 (-1))
                rw [hXC]; exact h1.alloc h1.size _
              have hkC : XC.heap[W6.heap.size]? = some (.cells #[.int .i64 6, .int .i64 (-1)] 35 (0, 0)) := by
                rw [hXC, Below.heap_alloc _ _ _ (by have := heap_lt HKF.out; simp only [World.setCell, Array.size_modify]; omega)]
                simpa using blk_setCell (blk_setCell HKF.out 0 (.int .i64 6)) 1 (.int .i64 (-1))
              have HBX := hidX hbX
              have k0 : XC.cell? ⟨W6.heap.size, 0, none⟩ = some (.int .i64 6) := cell_of_blk hkC 0
              have k1 : XC.cell? ⟨W6.heap.size, 1, none⟩ = some (.int .i64 (-1)) := cell_of_blk hkC 1
              have HFA : Hid (∀ X, Below W5.heap.size W5 X → Calls Tryz.prog 11 #[sentV (a 5), .agg #[.int .i64 6, .int .i64 (-1)]] X fun e w' => e = .returned (.bool true) ∧ Below X.heap.size X w') := fun X hX => faulted_str a 5 (by omega) 6 rfl X (HSW.out.below hX)
              have hzF : W6.heap.size < wr.heap.size := heap_lt HKF.out
              clear hbX hkC hzAF
              go_wp2_with (go_at_call 10; refine (bare_any _ _).mono ?_; rintro e w' ⟨rfl, hh⟩; subst hh)
              rw [← hXC]
              clear hXC o0 o1 o2 o3 f0 f1 g0 g1
              have hbX5 : Below W5.heap.size W5 XC := bl_trans HB5A.out HB5A.out.size HBX.out
              have HFX := hidX (HFA.out XC hbX5)
              clear hbX5
              skip
              refine HFX.out.mono ?_
              rintro e Y1 ⟨rfl, hy1⟩
              have hbY : Below XA.heap.size XA Y1 := bl_trans HBX.out HBX.out.size hy1
              have hlA2 : W5.heap.size < XA.heap.size := heap_lt HKA.out
              have hkY := (hbY.block W5.heap.size hlA2).trans HKA.out
              have y0 : Y1.cell? ⟨W5.heap.size, 0, none⟩ = some (.string ⟨#[]⟩) := cell_of_blk hkY 0
              have y1 : Y1.cell? ⟨W5.heap.size, 1, none⟩ = some (.int .i64 0) := cell_of_blk hkY 1
              have y2 : Y1.cell? ⟨W5.heap.size, 2, none⟩ = some (.slice none 0 0) := cell_of_blk hkY 2
              have y3 : Y1.cell? ⟨W5.heap.size, 3, none⟩ = some (.int .i64 0) := cell_of_blk hkY 3
              have HSO := hidX (sameOut_any [] 0 0 [] (by simp) Y1 none none 0 0 (xrow_nil _ _) (xrow_nil _ _))
              have HBY := hidX (bl_trans HBWA.out HBWA.out.size hbY)
              clear hy1 hbY hkY
              go_wp2_with fail
              refine HSO.out.mono ?_
              rintro e Y2 ⟨rfl, hy2⟩
              go_wp2
              go_ret
              exact ⟨rfl, bl_trans HBY.out HBY.out.size hy2⟩
            · obtain ⟨hp0, hpn⟩ := pars_not HPL.out hh hn
              have hp0' : ¬ pv < 0 := by omega
              clear hpc h8 HE hfc hn hh
              obtain ⟨XC, hXC⟩ : ∃ XC, XC = ((wr.setCell ⟨W6.heap.size, 0, none⟩ (.int .i64 9)).setCell ⟨W6.heap.size, 1, none⟩ (.int .i64 (-1))).alloc (.cells #[.int .i64 9, .int .i64 (-1)] 35) := ⟨_, rfl⟩
              have hzAF : XA.heap.size ≤ W6.heap.size := HZ6.out
              have hbX : Below XA.heap.size XA XC := by
                have h1 := (HBAR.out.setCell (show XA.heap.size ≤ (⟨W6.heap.size, 0, none⟩ : Addr).block from hzAF) (.int .i64 9)).setCell (show XA.heap.size ≤ (⟨W6.heap.size, 1, none⟩ : Addr).block from hzAF) (.int .i64 (-1))
                rw [hXC]; exact h1.alloc h1.size _
              have hkC : XC.heap[W6.heap.size]? = some (.cells #[.int .i64 9, .int .i64 (-1)] 35 (0, 0)) := by
                rw [hXC, Below.heap_alloc _ _ _ (by have := heap_lt HKF.out; simp only [World.setCell, Array.size_modify]; omega)]
                simpa using blk_setCell (blk_setCell HKF.out 0 (.int .i64 9)) 1 (.int .i64 (-1))
              have HBX := hidX hbX
              have k0 : XC.cell? ⟨W6.heap.size, 0, none⟩ = some (.int .i64 9) := cell_of_blk hkC 0
              have k1 : XC.cell? ⟨W6.heap.size, 1, none⟩ = some (.int .i64 (-1)) := cell_of_blk hkC 1
              have HFA : Hid (∀ X, Below W5.heap.size W5 X → Calls Tryz.prog 11 #[sentV (a 8), .agg #[.int .i64 9, .int .i64 (-1)]] X fun e w' => e = .returned (.bool true) ∧ Below X.heap.size X w') := fun X hX => faulted_str a 8 (by omega) 9 rfl X (HSW.out.below hX)
              have hzF : W6.heap.size < wr.heap.size := heap_lt HKF.out
              clear hbX hkC hzAF
              go_wp2_with (go_at_call 10; refine (bare_any _ _).mono ?_; rintro e w' ⟨rfl, hh⟩; subst hh)
              rw [← hXC]
              clear hXC o0 o1 o2 o3 f0 f1 g0 g1
              have hbX5 : Below W5.heap.size W5 XC := bl_trans HB5A.out HB5A.out.size HBX.out
              have HFX := hidX (HFA.out XC hbX5)
              clear hbX5
              skip
              refine HFX.out.mono ?_
              rintro e Y1 ⟨rfl, hy1⟩
              have hbY : Below XA.heap.size XA Y1 := bl_trans HBX.out HBX.out.size hy1
              have hlA2 : W5.heap.size < XA.heap.size := heap_lt HKA.out
              have hkY := (hbY.block W5.heap.size hlA2).trans HKA.out
              have y0 : Y1.cell? ⟨W5.heap.size, 0, none⟩ = some (.string ⟨#[]⟩) := cell_of_blk hkY 0
              have y1 : Y1.cell? ⟨W5.heap.size, 1, none⟩ = some (.int .i64 0) := cell_of_blk hkY 1
              have y2 : Y1.cell? ⟨W5.heap.size, 2, none⟩ = some (.slice none 0 0) := cell_of_blk hkY 2
              have y3 : Y1.cell? ⟨W5.heap.size, 3, none⟩ = some (.int .i64 0) := cell_of_blk hkY 3
              have HSO := hidX (sameOut_any [] 0 0 [] (by simp) Y1 none none 0 0 (xrow_nil _ _) (xrow_nil _ _))
              have HBY := hidX (bl_trans HBWA.out HBWA.out.size hbY)
              clear hy1 hbY hkY
              go_wp2_with fail
              refine HSO.out.mono ?_
              rintro e Y2 ⟨rfl, hy2⟩
              go_wp2
              go_ret
              exact ⟨rfl, bl_trans HBY.out HBY.out.size hy2⟩
            · have hpv := pars_ask HPL.out (prog_wf hfc HO.out) hask
              subst hpv
              have hp0' : ¬ (args.length : Int) < 0 := by omega
              clear hpc h8 HE hfc hask
              rcases hti with ht0 | ht0
              · exfalso; omega
              · have ht1 : ¬ ticks < 0 := by omega
                obtain ⟨XC, hXC⟩ : ∃ XC, XC = ((wr.setCell ⟨W6.heap.size, 0, none⟩ (.int .i64 2)).setCell ⟨W6.heap.size, 1, none⟩ (.int .i64 (-1))).alloc (.cells #[.int .i64 2, .int .i64 (-1)] 35) := ⟨_, rfl⟩
                have hzAF : XA.heap.size ≤ W6.heap.size := HZ6.out
                have hbX : Below XA.heap.size XA XC := by
                  have h1 := (HBAR.out.setCell (show XA.heap.size ≤ (⟨W6.heap.size, 0, none⟩ : Addr).block from hzAF) (.int .i64 2)).setCell (show XA.heap.size ≤ (⟨W6.heap.size, 1, none⟩ : Addr).block from hzAF) (.int .i64 (-1))
                  rw [hXC]; exact h1.alloc h1.size _
                have hkC : XC.heap[W6.heap.size]? = some (.cells #[.int .i64 2, .int .i64 (-1)] 35 (0, 0)) := by
                  rw [hXC, Below.heap_alloc _ _ _ (by have := heap_lt HKF.out; simp only [World.setCell, Array.size_modify]; omega)]
                  simpa using blk_setCell (blk_setCell HKF.out 0 (.int .i64 2)) 1 (.int .i64 (-1))
                have HBX := hidX hbX
                have k0 : XC.cell? ⟨W6.heap.size, 0, none⟩ = some (.int .i64 2) := cell_of_blk hkC 0
                have k1 : XC.cell? ⟨W6.heap.size, 1, none⟩ = some (.int .i64 (-1)) := cell_of_blk hkC 1
                have HFA : Hid (∀ X, Below W5.heap.size W5 X → Calls Tryz.prog 11 #[sentV (a 1), .agg #[.int .i64 2, .int .i64 (-1)]] X fun e w' => e = .returned (.bool true) ∧ Below X.heap.size X w') := fun X hX => faulted_str a 1 (by omega) 2 rfl X (HSW.out.below hX)
                have hzF : W6.heap.size < wr.heap.size := heap_lt HKF.out
                clear hbX hkC hzAF
                go_wp2_with (go_at_call 10; refine (bare_any _ _).mono ?_; rintro e w' ⟨rfl, hh⟩; subst hh)
                rw [← hXC]
                clear hXC o0 o1 o2 o3 f0 f1 g0 g1
                have hbX5 : Below W5.heap.size W5 XC := bl_trans HB5A.out HB5A.out.size HBX.out
                have HFX := hidX (HFA.out XC hbX5)
                clear hbX5
                skip
                refine HFX.out.mono ?_
                rintro e Y1 ⟨rfl, hy1⟩
                have hbY : Below XA.heap.size XA Y1 := bl_trans HBX.out HBX.out.size hy1
                have hlA2 : W5.heap.size < XA.heap.size := heap_lt HKA.out
                have hkY := (hbY.block W5.heap.size hlA2).trans HKA.out
                have y0 : Y1.cell? ⟨W5.heap.size, 0, none⟩ = some (.string ⟨#[]⟩) := cell_of_blk hkY 0
                have y1 : Y1.cell? ⟨W5.heap.size, 1, none⟩ = some (.int .i64 0) := cell_of_blk hkY 1
                have y2 : Y1.cell? ⟨W5.heap.size, 2, none⟩ = some (.slice none 0 0) := cell_of_blk hkY 2
                have y3 : Y1.cell? ⟨W5.heap.size, 3, none⟩ = some (.int .i64 0) := cell_of_blk hkY 3
                have HSO := hidX (sameOut_any [] 0 0 [] (by simp) Y1 none none 0 0 (xrow_nil _ _) (xrow_nil _ _))
                have HBY := hidX (bl_trans HBWA.out HBWA.out.size hbY)
                clear hy1 hbY hkY
                go_wp2_with fail
                refine HSO.out.mono ?_
                rintro e Y2 ⟨rfl, hy2⟩
                go_wp2
                go_ret
                exact ⟨rfl, bl_trans HBY.out HBY.out.size hy2⟩

end Go.Proofs.YtcebpmaggnephacGreatDoor
