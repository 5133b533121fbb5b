/-
  Our own: the law RunMore: with more ticks a program does the same, and goes on.
-/
import Derived.Test.YtcebpmaggnephacDoorRunSames
namespace Go.Proofs.YtcebpmaggnephacDoor
open Go.RowKit Go.Maps

set_option maxRecDepth 100000 in
set_option maxHeartbeats 8000000 in
theorem runMore_any (a : Nat → Addr) (l : List Fu) (v : Value) (nm : ByteArray) (args : List Int) (aad : Option Addr) (acap : Nat) (ticks more : Int) (w : World) (hS : Sents w a) (hX : XLF (InH w) w v l) (hl : l.length ≤ 9223372036854775807) (hO : ∀ f ∈ l, OkF f) (hnm : nm.size ≤ 9223372036854775807) (hA : XRow (InH w) w (.slice aad args.length acap) args.length (intsC args)) (h64 : ∀ x ∈ args, In64 x) (hal : args.length ≤ 9223372036854775807) :
    Calls Tryd.prog 5 #[v, .string nm, .slice aad args.length acap, .int .i64 ticks, .int .i64 more] w fun e w' => e = .returned (.bool true) ∧ Below w.heap.size w w' := by
  obtain ⟨m, rfl⟩ : ∃ m : List UInt8, nm = ⟨m.toArray⟩ := ⟨nm.data.toList, by simp⟩
  have hml : m.length ≤ 9223372036854775807 := by
    have : (ByteArray.mk m.toArray).size = m.length := by show m.toArray.size = _; simp
    omega
  have HSS := hidX hS
  have HX := hidX hX
  have HO := hidX hO
  have HAA := hidX hA
  have H64 := hidX h64
  have hal' : (args.length : Int) ≤ 9223372036854775807 := by omega
  clear hS hX hO hA h64 hnm
  go_enter Tryd.func5, Tryd.ntmps5
  go_wp2_with fail
  refine (ran_any a w HSS.out).mono ?_
  rintro e W1 ⟨rfl, hb1⟩
  go_wp2_with fail
  refine (large_any l 300 (by omega) W1 v (HX.out.imp (inH_up hb1) (keepH hb1)) hl HO.out).mono ?_
  rintro e W2 ⟨r, rfl, hr, hb2⟩
  have hbw2 : Below w.heap.size w W2 := hb1.trans (hb2.mono hb1.size)
  rcases hr with rfl | ⟨rfl, hl10, hlow, hnod⟩
  · go_wp2
    go_ret
    exact ⟨rfl, hbw2⟩
  · have HLW := hidX hlow
    clear hlow hnod
    by_cases c1 : (8 : Int) < (args.length : Int)
    · go_wp2
      go_ret
      exact ⟨rfl, hbw2⟩
    by_cases c2 : ticks < 0
    · go_wp2
      go_ret
      exact ⟨rfl, hbw2⟩
    by_cases c3 : 200 < ticks
    · go_wp2
      go_ret
      exact ⟨rfl, hbw2⟩
    by_cases c4 : more < 0
    · go_wp2
      go_ret
      exact ⟨rfl, hbw2⟩
    by_cases c5 : 200 < more
    · go_wp2
      go_ret
      exact ⟨rfl, hbw2⟩
    obtain ⟨t, rfl⟩ : ∃ t : Nat, ticks = (t : Int) := ⟨ticks.toNat, by omega⟩
    obtain ⟨u, rfl⟩ : ∃ u : Nat, more = (u : Int) := ⟨more.toNat, by omega⟩
    go_wp2_with fail
    refine (asFuns_any l hl10 HLW.out W2 v (HX.out.imp (inH_up hbw2) (keepH hbw2))).mono ?_
    rintro e W3 ⟨hb3, vp, ys, rfl, hown, hxs⟩
    have hX3 : XLF (InH W3) W3 vp l := ⟨ys, (xrow_own hown).imp (fun _ hb => hb.2) (fun _ _ => rfl), XFs.imp (fun _ hb => hb.2.1) (fun _ _ => rfl) _ _ hxs⟩
    have hbw3 : Below w.heap.size w W3 := hbw2.trans (hb3.mono hbw2.size)
    have HX3 := hidX hX3
    have HAR3 := hidX (HAA.out.imp (inH_up hbw3) (keepH hbw3))
    clear hown hxs hX3
    go_wp2_with (first | (at_builtin; refine wpList_append_ints rfl _ _ rfl rfl _ rfl args (by omega) HAR3.out ?_; intro va W4 hoa hba; have HOA := hidX hoa; have HBA := hidX hba; clear hoa hba) | fail)
    have hr1 : ∀ X vx, Below W3.heap.size W3 X → XRow (InH X) X vx args.length (intsC args) → ∀ mo : Nat, mo ≤ 5000 → Calls Tryd.prog 16 #[vp, .string ⟨m.toArray⟩, vx, .int .i64 (mo : Int)] X (RunsTo a l m args mo X) := fun X vx hX hvx mo hmo => run_any a l hl10 HLW.out HO.out X (HSS.out.below (bl_trans hbw3 hbw3.size hX)) vp (HX3.out.imp (inH_up hX) (keepH hX)) m hml args H64.out (by omega) vx hvx mo hmo
    have HR1 := hidX hr1
    clear hr1
    have hba := HBA.out
    refine (HR1.out W4 va HBA.out ((xrow_own HOA.out).imp (fun _ hb => hb.2) (fun _ _ => rfl)) t (by omega)).mono ?_
    intro e W5 h5
    by_cases hG : l.length ≤ 8 ∧ funsC l [] l = none ∧ AskOk l m args.length
    · have h5' : RunTo W4 (runX runOps l m args t) e W5 := h5.elim (fun h => absurd hG h.1) (fun h => h.2)
      obtain ⟨hb5, ad5, c5, ho5, he⟩ := runTo_out h5'
      subst he
      have HG := hidX hG
      have hmost := runX_most runOps l m args t
      obtain ⟨hmt, hmo, hme⟩ := more_parts (O := runOps) (F := l) (m := m) (args := args) (t := t) (u := u)
      have hti := tired_at (O := runOps) (F := l) (m := m) (args := args) (t := t)
      have hmost2 := runX_most runOps l m args (t + u)
      have HME := hidX hme
      have HTI := hidX hti
      have HMO := hidX hmo
      have hb35 : Below W3.heap.size W3 W5 := bl_trans hba hba.size hb5
      have hbw5 : Below w.heap.size w W5 := bl_trans hbw3 hbw3.size hb35
      have hzo := hb5.size
      generalize runX runOps l m args t = r1 at HME HTI HMO hmost hmt ho5 h5' ⊢
      have hcap5 := own_capR ho5
      have hn5 : (r1.st.out.length : Int) ≤ 9223372036854775807 := by omega
      obtain ⟨XA, hXA⟩ : ∃ XA, XA = W5.alloc (.cells #[.string ⟨(howV r1).toArray⟩, .int .i64 (valV r1), .slice ad5 r1.st.out.length c5, .int .i64 (r1.st.ticks : Int)] 44) := ⟨_, rfl⟩
      have hbA : Below W5.heap.size W5 XA := by rw [hXA]; exact box_blk _ _ _
      have hkA : XA.heap[W5.heap.size]? = some (.cells #[.string ⟨(howV r1).toArray⟩, .int .i64 (valV r1), .slice ad5 r1.st.out.length c5, .int .i64 (r1.st.ticks : Int)] 44 (0, 0)) := by rw [hXA]; exact heap_alloc_new _ _
      have hb3A : Below W3.heap.size W3 XA := bl_trans hb35 hb35.size hbA
      have hbwA : Below w.heap.size w XA := bl_trans hbw3 hbw3.size hb3A
      have hroA : XRow (InH XA) XA (.slice ad5 r1.st.out.length c5) r1.st.out.length (intsC r1.st.out) := ((xrow_own (owns_below ho5 hbA)).imp (fun _ hb => hb.2) (fun _ _ => rfl))
      have HAR5 := hidX (HAA.out.imp (inH_up hbwA) (keepH hbwA))
      have HKA := hidX hkA
      have HB3A := hidX hb3A
      have HBWA := hidX hbwA
      have HROA := hidX hroA
      clear h5 h5' hG ho5 hbA hkA hb3A hbwA hroA hb35 hbw5 hme hti hmo
      rw [hXA] at HAR5
      unfold outC
      go_wp2_with (first | (at_builtin; refine wpList_append_ints rfl _ _ rfl rfl _ rfl args (by omega) HAR5.out ?_; intro vb W6 hob hbb; have HOB := hidX hob; have HBB := hidX hbb; clear hob hbb) | fail)
      have hbb := HBB.out
      rw [← hXA] at hbb
      clear HBB hXA
      have hb36 : Below W3.heap.size W3 W6 := bl_trans HB3A.out HB3A.out.size hbb
      refine (HR1.out W6 vb hb36 ((xrow_own HOB.out).imp (fun _ hb => hb.2) (fun _ _ => rfl)) (t + u) (by omega)).mono ?_
      intro e W7 h7
      have h7' : RunTo W6 (runX runOps l m args (t + u)) e W7 := h7.elim (fun h => absurd HG.out h.1) (fun h => h.2)
      obtain ⟨hb7, ad7, c7, ho7, he⟩ := runTo_out h7'
      subst he
      generalize runX runOps l m args (t + u) = r2 at HME HMO hmost2 hmt ho7 h7' ⊢
      have hcap7 := own_capR ho7
      have hpl := HMO.out.length_le
      have hn7 : (r2.st.out.length : Int) ≤ 9223372036854775807 := by omega
      obtain ⟨XB, hXB⟩ : ∃ XB, XB = W7.alloc (.cells #[.string ⟨(howV r2).toArray⟩, .int .i64 (valV r2), .slice ad7 r2.st.out.length c7, .int .i64 (r2.st.ticks : Int)] 44) := ⟨_, rfl⟩
      have hbB : Below W7.heap.size W7 XB := by rw [hXB]; exact box_blk _ _ _
      have hkB : XB.heap[W7.heap.size]? = some (.cells #[.string ⟨(howV r2).toArray⟩, .int .i64 (valV r2), .slice ad7 r2.st.out.length c7, .int .i64 (r2.st.ticks : Int)] 44 (0, 0)) := by rw [hXB]; exact heap_alloc_new _ _
      have hbAB : Below XA.heap.size XA XB := bl_trans hbb hbb.size (bl_trans hb7 hb7.size hbB)
      have hkA := (hbAB.block W5.heap.size (heap_lt HKA.out)).trans HKA.out
      have hbwB : Below w.heap.size w XB := bl_trans HBWA.out HBWA.out.size hbAB
      have hroB : XRow (InH XB) XB (.slice ad7 r2.st.out.length c7) r2.st.out.length (intsC r2.st.out) := ((xrow_own (owns_below ho7 hbB)).imp (fun _ hb => hb.2) (fun _ _ => rfl))
      have hro1 : XRow (InH XB) XB (.slice ad5 r1.st.out.length c5) r1.st.out.length (intsC r1.st.out) := HROA.out.imp (inH_up hbAB) (keepH hbAB)
      have HRB := hidX hroB
      have HRA := hidX hro1
      have HBWB := hidX hbwB
      have HKB := hidX hkB
      have HKAB := hidX hkA
      have A0 : XB.cell? ⟨W5.heap.size, 0, none⟩ = some (.string ⟨(howV r1).toArray⟩) := cell_of_blk hkA 0
      have A1 : XB.cell? ⟨W5.heap.size, 1, none⟩ = some (.int .i64 (valV r1)) := cell_of_blk hkA 1
      have A2 : XB.cell? ⟨W5.heap.size, 2, none⟩ = some (.slice ad5 r1.st.out.length c5) := cell_of_blk hkA 2
      have A3 : XB.cell? ⟨W5.heap.size, 3, none⟩ = some (.int .i64 (r1.st.ticks : Int)) := cell_of_blk hkA 3
      have B0 : XB.cell? ⟨W7.heap.size, 0, none⟩ = some (.string ⟨(howV r2).toArray⟩) := cell_of_blk hkB 0
      have B1 : XB.cell? ⟨W7.heap.size, 1, none⟩ = some (.int .i64 (valV r2)) := cell_of_blk hkB 1
      have B2 : XB.cell? ⟨W7.heap.size, 2, none⟩ = some (.slice ad7 r2.st.out.length c7) := cell_of_blk hkB 2
      have B3 : XB.cell? ⟨W7.heap.size, 3, none⟩ = some (.int .i64 (r2.st.ticks : Int)) := cell_of_blk hkB 3
      have C4 := hidX (show _ ∧ _ ∧ _ ∧ _ from ⟨A2, A3, B2, B3⟩)
      rw [hXB] at A0 A1 A2 A3 B0 B1 B2 B3
      have q1 : ¬ (t : Int) < (r1.st.ticks : Int) := by omega
      have q2 : ¬ (t : Int) + (u : Int) < (r2.st.ticks : Int) := by omega
      have q3 : ¬ (r2.st.out.length : Int) < (r1.st.out.length : Int) := by omega
      have q4 : ¬ (r2.st.ticks : Int) < (r1.st.ticks : Int) := by omega
      clear h7 h7' ho7 hb7 hbB hkB hbAB hkA hbwB hroB hro1 hb36 hbb
      unfold outC
      go_wp2_with fail
      rw [← hXB]
      have hsi : ∀ X, Below XB.heap.size XB X → Calls Tryd.prog 17 #[.slice ad5 r1.st.out.length c5, .slice ad7 r1.st.out.length c7] X fun e w' => e = .returned (.bool true) ∧ Below X.heap.size X w' := fun X hX => sameInts_any r1.st.out (by omega) X ad5 ad7 c5 c7 (HRA.out.imp (inH_up hX) (keepH hX)) (row_pre (HRB.out.imp (inH_up hX) (keepH hX)) HMO.out)
      have HSI := hidX hsi
      have hlA : W5.heap.size < XB.heap.size := heap_lt HKAB.out
      have hlB : W7.heap.size < XB.heap.size := heap_lt HKB.out
      rw [← hXB] at A0 A1 A2 A3 B0 B1 B2 B3
      have hcq7 : (r2.st.out.length : Int) ≤ (c7 : Int) := by omega
      have hcq1 : (r1.st.out.length : Int) ≤ (c7 : Int) := by omega
      have hcq2 : ¬ (c7 : Int) < (r1.st.out.length : Int) := by omega
      have hcq3 : r1.st.out.length ≤ c7 := by omega
      have hcq4 : ¬ c7 < r1.st.out.length := by omega
      have hcq5 : (c7 : Int) ≤ 9223372036854775807 := by omega
      clear hsi hXB
      go_region_held3 (fun W => W.cell? ⟨W5.heap.size, 2, none⟩ = some (.slice ad5 r1.st.out.length c5) ∧ W.cell? ⟨W5.heap.size, 3, none⟩ = some (.int .i64 (r1.st.ticks : Int)) ∧ W.cell? ⟨W7.heap.size, 2, none⟩ = some (.slice ad7 r2.st.out.length c7) ∧ W.cell? ⟨W7.heap.size, 3, none⟩ = some (.int .i64 (r2.st.ticks : Int)))
        (first | with_reducible exact s1 | exact C4.out)
        (first | (go_at_call 17; refine (HSI.out _ (by (repeat (first | exact Below.refl _ _ | assumption | refine Below.drew ?_ | refine Below.trans ?_ (drewN_below' _ _ _) | refine Below.setCell ?_ (by first | (simp; done) | (simp; omega)) _ | refine Below.alloc ?_ (by first | (simp; done) | (simp; omega)) _)))).mono ?_; rintro e X9 ⟨rfl, hx9⟩; have b9 : Below XB.heap.size XB X9 := bl_trans (show Below XB.heap.size XB _ by (repeat (first | exact Below.refl _ _ | assumption | refine Below.drew ?_ | refine Below.trans ?_ (drewN_below' _ _ _) | refine Below.setCell ?_ (by first | (simp; done) | (simp; omega)) _ | refine Below.alloc ?_ (by first | (simp; done) | (simp; omega)) _))) (by first | exact Nat.le_refl _ | (simp; done) | (simp; omega)) hx9; have s1 : X9.cell? ⟨W5.heap.size, 2, none⟩ = some (.slice ad5 r1.st.out.length c5) ∧ X9.cell? ⟨W5.heap.size, 3, none⟩ = some (.int .i64 (r1.st.ticks : Int)) ∧ X9.cell? ⟨W7.heap.size, 2, none⟩ = some (.slice ad7 r2.st.out.length c7) ∧ X9.cell? ⟨W7.heap.size, 3, none⟩ = some (.int .i64 (r2.st.ticks : Int)) := ⟨(b9.cell (p := ⟨W5.heap.size, 2, none⟩) hlA).trans C4.out.1, (b9.cell (p := ⟨W5.heap.size, 3, none⟩) hlA).trans C4.out.2.1, (b9.cell (p := ⟨W7.heap.size, 2, none⟩) hlB).trans C4.out.2.2.1, (b9.cell (p := ⟨W7.heap.size, 3, none⟩) hlB).trans C4.out.2.2.2⟩; clear hx9))
      all_goals (
        have hbw9 : Below w.heap.size w X9 := bl_trans HBWB.out HBWB.out.size b9
        have a0 := (b9.cell (p := ⟨W5.heap.size, 0, none⟩) hlA).trans A0
        have a1 := (b9.cell (p := ⟨W5.heap.size, 1, none⟩) hlA).trans A1
        have a2 := (b9.cell (p := ⟨W5.heap.size, 2, none⟩) hlA).trans A2
        have a3 := (b9.cell (p := ⟨W5.heap.size, 3, none⟩) hlA).trans A3
        have b0 := (b9.cell (p := ⟨W7.heap.size, 0, none⟩) hlB).trans B0
        have b1 := (b9.cell (p := ⟨W7.heap.size, 1, none⟩) hlB).trans B1
        have b2 := (b9.cell (p := ⟨W7.heap.size, 2, none⟩) hlB).trans B2
        have b3 := (b9.cell (p := ⟨W7.heap.size, 3, none⟩) hlB).trans B3
        clear A0 A1 A2 A3 B0 B1 B2 B3 s1
        by_cases hho : howV r1 = howS .tired
        · obtain ⟨hv0, ht0⟩ := HTI.out hho
          have hho' : howV r1 = [116, 105, 114, 101, 100] := hho
          rw [hho'] at a0
          rw [hv0] at a1
          rw [ht0] at a3
          clear hho hho' hv0 HTI HME
          go_wp2
          go_ret
          exact ⟨rfl, hbw9⟩
        · have hne : (howV r1 == [116, 105, 114, 101, 100]) = false := ne_lit hho
          have he12 : r1 = r2 := HME.out.elim id (fun h => absurd h.1 hho)
          have hso : Calls Tryd.prog 18 #[.agg (outC (howV r1) (valV r1) (.slice ad5 r1.st.out.length c5) r1.st.ticks), .agg (outC (howV r2) (valV r2) (.slice ad7 r2.st.out.length c7) r2.st.ticks)] X9 fun e w' => e = .returned (.bool true) ∧ Below X9.heap.size X9 w' := by
            have hA9 := HRA.out.imp (inH_up b9) (keepH b9)
            have hB9 := HRB.out.imp (inH_up b9) (keepH b9)
            subst he12
            exact sameOut_any _ _ _ r1.st.out (by omega) X9 ad5 ad7 c5 c7 hA9 hB9
          unfold outC at hso
          have HSO := hidX hso
          clear hso he12 hho HTI HME
          go_wp2_with fail
          refine HSO.out.mono ?_
          rintro e X10 ⟨rfl, hb10⟩
          go_wp2
          go_ret
          exact ⟨rfl, bl_trans hbw9 hbw9.size hb10⟩)
    · have h5' : Below W4.heap.size W4 W5 ∧ ∃ ev, ErrV a ev ∧ e = .returned (.tuple #[.agg (outC [] 0 (.slice none 0 0) 0), ev]) := h5.elim (fun h => h.2) (fun h => absurd h.1 hG)
      obtain ⟨hb5, ev, hE, he⟩ := h5'
      subst he
      have HG := hidX hG
      have hb35 : Below W3.heap.size W3 W5 := bl_trans hba hba.size hb5
      have hbx : Below W3.heap.size W3 (W5.alloc (.cells #[.string ⟨#[]⟩, .int .i64 0, .slice none 0 0, .int .i64 0] 44)) := hb35.alloc hb35.size _
      have hbwx : Below w.heap.size w (W5.alloc (.cells #[.string ⟨#[]⟩, .int .i64 0, .slice none 0 0, .int .i64 0] 44)) := bl_trans hbw3 hbw3.size hbx
      have HAR5 := hidX (HAA.out.imp (inH_up hbwx) (keepH hbwx))
      have HBX := hidX hbx
      have HBWX := hidX hbwx
      clear h5 hG hb35 hbx hbwx hb5
      unfold outC
      have key : ∀ ev2, ErrV a ev2 → (ev2 = .nilIface → False) := fun ev2 h2 h0 => by
        rcases h2 with ⟨k, rfl⟩ | ⟨b, rfl⟩ <;> cases h0
      rcases hE with ⟨k, rfl⟩ | ⟨b, rfl⟩
      all_goals (
        go_wp2_with (first | (at_builtin; refine wpList_append_ints rfl _ _ rfl rfl _ rfl args (by omega) HAR5.out ?_; intro vb W6 hob hbb; have HOB := hidX hob; have HBB := hidX hbb; clear hob hbb) | fail)
        refine (HR1.out W6 vb (bl_trans HBX.out HBX.out.size HBB.out) ((xrow_own HOB.out).imp (fun _ hb => hb.2) (fun _ _ => rfl)) (t + u) (by omega)).mono ?_
        intro e W7 h7
        have h7' : Below W6.heap.size W6 W7 ∧ ∃ ev, ErrV a ev ∧ e = .returned (.tuple #[.agg (outC [] 0 (.slice none 0 0) 0), ev]) := h7.elim (fun h => h.2) (fun h => absurd h.1 HG.out)
        obtain ⟨hb7, ev7, hE7, he⟩ := h7'
        subst he
        have hbw7 : Below w.heap.size w W7 := bl_trans (bl_trans HBWX.out HBWX.out.size HBB.out) (bl_trans HBWX.out HBWX.out.size HBB.out).size hb7
        unfold outC
        clear h7 hb7 key
        rcases hE7 with ⟨k7, rfl⟩ | ⟨b7, rfl⟩
        all_goals (
          go_wp2
          go_ret
          exact ⟨rfl, hbw7.alloc hbw7.size _⟩))
end Go.Proofs.YtcebpmaggnephacDoor
