/-
  Our own: package run: Run, where it tells an error: just which.
-/
import Derived.Test.YtcebpmaggnephacGreatDoorRunRun
namespace Go.Proofs.YtcebpmaggnephacGreatDoor
open Go.RowKit Go.Maps

/-- A function has the name, with so many parameters. -/
def HasName (F : List Fu) (m : List UInt8) : Prop := ∃ f ∈ F, f.name = m
/-- What Run tells, where it tells an error. -/
def BadRun (a : Nat → Addr) (F : List Fu) (m : List UInt8) (n : Nat) (ticks : Int) (ev : Value) (w' : World) : Prop :=
  (8 < F.length ∧ ev = sentV (a 7)) ∨
  (∃ c i b, ¬ 8 < F.length ∧ funsC F [] F = some (c, i) ∧ c ≠ 0 ∧ ev = .iface 125 (.pointer (some ⟨b, 0, none⟩)) ∧ w'.heap[b]? = some (.cells #[.int .i64 i, sentV (a (c - 1))] 127 (0, 0))) ∨
  (¬ 8 < F.length ∧ funsC F [] F = none ∧ ((¬ HasName F m ∧ ev = sentV (a 5)) ∨ (HasName F m ∧ ¬ AskOk F m n ∧ ev = sentV (a 8)) ∨ (AskOk F m n ∧ (ticks < 0 ∨ 5000 < ticks) ∧ ev = sentV (a 1))))
def BadTo (a : Nat → Addr) (F : List Fu) (m : List UInt8) (n : Nat) (ticks : Int) (w : World) (e : Ending) (w' : World) : Prop :=
  Below w.heap.size w w' ∧ ∃ ev, e = .returned (.tuple #[.agg (outC [] 0 (.slice none 0 0) 0), ev]) ∧ BadRun a F m n ticks ev w'
theorem bound_globR {w : World} {a : Nat → Addr} (h : Sents w a) : w.cell? ⟨2, 0, none⟩ = some (sentV (a 1)) := h.glob 1 (by decide)
set_option maxRecDepth 100000 in
set_option maxHeartbeats 2000000 in
theorem run_bad (a : Nat → Addr) (F : List Fu) (hF : F.length ≤ 10) (hL : ∀ g ∈ F, LowF g) (hO : ∀ g ∈ F, OkF g) (w : World) (hS : Sents w a) (v : Value) (hX : XLF (InH w) w v F) (m : List UInt8) (hm : m.length ≤ 9223372036854775807) (args : List Int) (h64 : ∀ v ∈ args, In64 v) (hal : args.length ≤ 8) (argv : Value) (hA : XRow (InH w) w argv args.length (intsC args)) (ticks : Int) (hbad : ¬ (F.length ≤ 8 ∧ funsC F [] F = none ∧ AskOk F m args.length ∧ 0 ≤ ticks ∧ ticks ≤ 5000)) :
    Calls Tryz.prog 7 #[v, .string ⟨m.toArray⟩, argv, .int .i64 ticks] w (BadTo a F m args.length ticks w) := by
  have hX0 := hX
  obtain ⟨xs, hr, hk⟩ := hX
  obtain ⟨ad, cap, rfl⟩ := hr.is
  obtain ⟨aad, acap, rfl⟩ := hA.is
  have hF' : (F.length : Int) ≤ 10 := by omega
  have hal' : (args.length : Int) ≤ 8 := by omega
  have HBAD := hidX hbad
  clear hbad
  obtain ⟨W0, hW0⟩ : ∃ W0, W0 = w.alloc (.cells #[.string ⟨#[]⟩, .int .i64 0, .slice none 0 0, .int .i64 0] 27) := ⟨_, rfl⟩
  have hb0 : Below w.heap.size w W0 := by rw [hW0]; exact box_blk _ _ _
  have hz0 : w.heap.size < W0.heap.size := by rw [hW0]; simp
  have hk0 : W0.heap[w.heap.size]? = some (.cells #[.string ⟨#[]⟩, .int .i64 0, .slice none 0 0, .int .i64 0] 27 (0, 0)) := by rw [hW0]; exact heap_alloc_new w _
  have hpr := program_any a F hF hL W0 (hS.below hb0) _ (hX0.imp (inH_up hb0) (keepH hb0))
  have HPR := hidX hpr
  have R := hidX hr
  have KK := hidX hk
  have HL := hidX hL
  have HO := hidX hO
  have HS := hidX hS
  have HX := hidX hX0
  have HAA := hidX hA
  have H64 := hidX h64
  have HB0 := hidX hb0
  have HK0 := hidX hk0
  clear hX0 hr hk hA hL hO hS h64 hpr hb0 hk0
  go_enter Tryz.func7, Tryz.ntmps7
  go_wp2_with fail
  rw [← hW0]
  clear hW0
  refine HPR.out.mono ?_
  rintro e W1 ⟨hb1, hp⟩
  have hz1 := hb1.size
  have hbw1 : Below w.heap.size w W1 := bl_trans HB0.out HB0.out.size hb1
  have hk1 := (hb1.block _ hz0).trans HK0.out
  have HK1 := hidX hk1
  have c0 : W1.cell? ⟨w.heap.size, 0, none⟩ = some (.string ⟨#[]⟩) := cell_of_blk hk1 0
  have c1 : W1.cell? ⟨w.heap.size, 1, none⟩ = some (.int .i64 0) := cell_of_blk hk1 1
  have c2 : W1.cell? ⟨w.heap.size, 2, none⟩ = some (.slice none 0 0) := cell_of_blk hk1 2
  have c3 : W1.cell? ⟨w.heap.size, 3, none⟩ = some (.int .i64 0) := cell_of_blk hk1 3
  have f0 := free_of_blk hk1 0
  have f1 := free_of_blk hk1 1
  have f2 := free_of_blk hk1 2
  have f3 := free_of_blk hk1 3
  by_cases hgood : F.length ≤ 8 ∧ funsC F [] F = none
  · obtain ⟨h8, hfc⟩ := hgood
    have he : e = .returned .nilIface := by rw [if_neg (by omega), hfc] at hp; exact hp
    subst he
    have hwp := prog_wf hfc HO.out
    have HWP := hidX hwp
    have HFC := hidX hfc
    have hnu := numbers_any F hwp hF HL.out W1 _ (HX.out.imp (inH_up hbw1) (keepH hbw1))
    have HNU := hidX hnu
    clear hp hfc hwp hnu hk1 c0 c1 c2 c3 f0 f1 f2 f3
    go_wp2_with fail
    refine HNU.out.mono ?_
    rintro e W2 ⟨rfl, hfi, hb2, hz2⟩
    obtain ⟨W3, hW3⟩ : ∃ W3, W3 = W2.alloc (.cells #[.string ⟨#[]⟩, .int .i64 0, .slice none 0 0, .int .i64 0, .slice ad F.length cap, .map (some W1.heap.size), .int .i64 ticks, .int .i64 0] 72) := ⟨_, rfl⟩
    have hb3 : Below W2.heap.size W2 W3 := by rw [hW3]; exact box_blk _ _ _
    have hbm : W3.heap[W2.heap.size]? = some (.cells #[.string ⟨#[]⟩, .int .i64 0, .slice none 0 0, .int .i64 0, .slice ad F.length cap, .map (some W1.heap.size), .int .i64 ticks, .int .i64 0] 72 (0, 0)) := by rw [hW3]; exact heap_alloc_new _ _
    have hfi3 := hfi.keep (hb3.block W1.heap.size hz2)
    have hbw3 : Below w.heap.size w W3 := bl_trans hbw1 hbw1.size (bl_trans hb2 hb2.size hb3)
    have hb13 : Below W1.heap.size W1 W3 := bl_trans hb2 hb2.size hb3
    have hz3 : W2.heap.size < W3.heap.size := heap_lt hbm
    obtain ⟨ci, hlk, hci⟩ := look_firstW hfi3 m hm W3 rfl
    have k5 : W3.cell? ⟨W2.heap.size, 5, none⟩ = some (.map (some W1.heap.size)) := cell_of_blk hbm 5
    have hk3 := (hb13.block w.heap.size (by omega)).trans HK1.out
    have HK3 := hidX hk3
    have HCI := hidX hci
    have HBW3 := hidX hbw3
    have HB13 := hidX hb13
    have HS3 := hidX (HS.out.below hbw3)
    rw [hW3] at hlk k5
    clear hfi hfi3 hb2 hb3 hbm hci hbw3 hb13 hk3 HNU HPR
    by_cases hany : (F.any fun f => f.name == m) = true
    · rw [hany] at hlk
      obtain ⟨i, hi, i1, i2, i3⟩ := first_of hany
      have hcc : ci = (i : Int) := HCI.out i hi i1 i2
      subst hcc
      have hfk := KK.out.at hi
      obtain ⟨fa, q1, q2⟩ := hfk
      obtain ⟨gf, off, rfl, hgf, g1⟩ := R.out.el 3 hi q2
      obtain ⟨pv, bv, bs, rfl, r2, r3, r4⟩ := q1
      obtain ⟨adp, cp, rfl⟩ := r2.is
      have hlow := HL.out _ (List.getElem_mem hi)
      have hpl : F[i].params.length ≤ 8 := hlow.2.1
      have hpl' : (F[i].params.length : Int) ≤ 8 := by omega
      have a1 := (HBW3.out.cell (p := ⟨gf, _, none⟩) hgf).trans (g1 1 _ (by decide) rfl)
      simp only [← Nat.add_assoc] at a1
      rw [hW3] at a1
      have hi' : (i : Int) < (F.length : Int) := by omega
      clear g1 q2 r2 r3 r4 HCI
      by_cases hpa : F[i].params.length = args.length
      · have hpa' : (F[i].params.length : Int) = (args.length : Int) := by omega
        have hask : AskOk F m args.length := ⟨F[i], List.getElem_mem hi, i1, hpa⟩
        have hti : ticks < 0 ∨ 5000 < ticks := by
          by_cases h0 : ticks < 0
          · exact Or.inl h0
          · by_cases h1 : 5000 < ticks
            · exact Or.inr h1
            · exact absurd ⟨h8, HFC.out, hask, by omega, by omega⟩ HBAD.out
        have HNO : Hid (∀ X, BadRun a F m args.length ticks (sentV (a 1)) X) := fun X => Or.inr (Or.inr ⟨by omega, HFC.out, Or.inr (Or.inr ⟨hask, hti, rfl⟩)⟩)
        have HTI := hidX hti
        clear hask hany hpa hti
        rcases HTI.out with ht0 | ht1
        · clear HTI
          go_wp2_with fail
          rw [← hW3]
          clear hW3 hlk k5 a1
          have g1 := bound_globR HS3.out
          have c0 : W3.cell? ⟨w.heap.size, 0, none⟩ = some (.string ⟨#[]⟩) := cell_of_blk HK3.out 0
          have c1 : W3.cell? ⟨w.heap.size, 1, none⟩ = some (.int .i64 0) := cell_of_blk HK3.out 1
          have c2 : W3.cell? ⟨w.heap.size, 2, none⟩ = some (.slice none 0 0) := cell_of_blk HK3.out 2
          have c3 : W3.cell? ⟨w.heap.size, 3, none⟩ = some (.int .i64 0) := cell_of_blk HK3.out 3
          have f0 := free_of_blk HK3.out 0
          have f1 := free_of_blk HK3.out 1
          have f2 := free_of_blk HK3.out 2
          have f3 := free_of_blk HK3.out 3
          have hx := four_cells HK3.out (.string ⟨#[]⟩) (.int .i64 0) (.slice none 0 0) (.int .i64 0)
          have hx0 := cell_of_blk hx 0
          have hx1 := cell_of_blk hx 1
          have hx2 := cell_of_blk hx 2
          have hx3 := cell_of_blk hx 3
          have hbx : Below w.heap.size w ((((W3.setCell ⟨w.heap.size, 0, none⟩ (.string ⟨#[]⟩)).setCell ⟨w.heap.size, 1, none⟩ (.int .i64 0)).setCell ⟨w.heap.size, 2, none⟩ (.slice none 0 0)).setCell ⟨w.heap.size, 3, none⟩ (.int .i64 0)) := (((HBW3.out.setCell (Nat.le_refl _) _).setCell (Nat.le_refl _) _).setCell (Nat.le_refl _) _).setCell (Nat.le_refl _) _
          have g2 := bound_globR (HS.out.below hbx)
          clear hx
          go_region
          all_goals (
            go_wp2
            exact bodyPost_ret (v := .tuple #[.agg (outC [] 0 (.slice none 0 0) 0), sentV (a 1)]) (by simp [results, Tryz.results7, go_sem, hx0, hx1, hx2, hx3, outC]) rfl ⟨by first | exact hbx | exact hbx.drew | (repeat (first | exact Below.refl _ _ | assumption | refine Below.drew ?_ | refine Below.trans ?_ (drewN_below' _ _ _) | refine Below.setCell ?_ (by first | (simp; done) | (simp; omega)) _ | refine Below.alloc ?_ (by first | (simp; done) | (simp; omega)) _)), _, rfl, HNO.out _⟩)
        · clear HTI
          have ht0 : ¬ ticks < 0 := by omega
          go_wp2_with fail
          rw [← hW3]
          clear hW3 hlk k5 a1
          have g1 := bound_globR HS3.out
          have c0 : W3.cell? ⟨w.heap.size, 0, none⟩ = some (.string ⟨#[]⟩) := cell_of_blk HK3.out 0
          have c1 : W3.cell? ⟨w.heap.size, 1, none⟩ = some (.int .i64 0) := cell_of_blk HK3.out 1
          have c2 : W3.cell? ⟨w.heap.size, 2, none⟩ = some (.slice none 0 0) := cell_of_blk HK3.out 2
          have c3 : W3.cell? ⟨w.heap.size, 3, none⟩ = some (.int .i64 0) := cell_of_blk HK3.out 3
          have f0 := free_of_blk HK3.out 0
          have f1 := free_of_blk HK3.out 1
          have f2 := free_of_blk HK3.out 2
          have f3 := free_of_blk HK3.out 3
          have hx := four_cells HK3.out (.string ⟨#[]⟩) (.int .i64 0) (.slice none 0 0) (.int .i64 0)
          have hx0 := cell_of_blk hx 0
          have hx1 := cell_of_blk hx 1
          have hx2 := cell_of_blk hx 2
          have hx3 := cell_of_blk hx 3
          have hbx : Below w.heap.size w ((((W3.setCell ⟨w.heap.size, 0, none⟩ (.string ⟨#[]⟩)).setCell ⟨w.heap.size, 1, none⟩ (.int .i64 0)).setCell ⟨w.heap.size, 2, none⟩ (.slice none 0 0)).setCell ⟨w.heap.size, 3, none⟩ (.int .i64 0)) := (((HBW3.out.setCell (Nat.le_refl _) _).setCell (Nat.le_refl _) _).setCell (Nat.le_refl _) _).setCell (Nat.le_refl _) _
          have g2 := bound_globR (HS.out.below hbx)
          clear hx
          go_region
          all_goals (
            go_wp2
            exact bodyPost_ret (v := .tuple #[.agg (outC [] 0 (.slice none 0 0) 0), sentV (a 1)]) (by simp [results, Tryz.results7, go_sem, hx0, hx1, hx2, hx3, outC]) rfl ⟨by first | exact hbx | exact hbx.drew | (repeat (first | exact Below.refl _ _ | assumption | refine Below.drew ?_ | refine Below.trans ?_ (drewN_below' _ _ _) | refine Below.setCell ?_ (by first | (simp; done) | (simp; omega)) _ | refine Below.alloc ?_ (by first | (simp; done) | (simp; omega)) _)), _, rfl, HNO.out _⟩)
      · have hpa' : ¬ (F[i].params.length : Int) = (args.length : Int) := by omega
        have hno : ¬ AskOk F m args.length := by
          rintro ⟨f, hf, h1, h2⟩
          obtain ⟨i', hi2, rfl⟩ := List.mem_iff_getElem.1 hf
          have := HWP.out.names i hi i' hi2 (h1.trans i1.symm)
          subst this
          exact hpa h2
        have HNO : Hid (∀ X, BadRun a F m args.length ticks (sentV (a 8)) X) := fun X => Or.inr (Or.inr ⟨by omega, HFC.out, Or.inr (Or.inl ⟨⟨F[i], List.getElem_mem hi, i1⟩, hno, rfl⟩)⟩)
        clear hno hany hpa
        go_wp2_with fail
        rw [← hW3]
        clear hW3 hlk k5 a1
        have g1 := args_glob HS3.out
        have c0 : W3.cell? ⟨w.heap.size, 0, none⟩ = some (.string ⟨#[]⟩) := cell_of_blk HK3.out 0
        have c1 : W3.cell? ⟨w.heap.size, 1, none⟩ = some (.int .i64 0) := cell_of_blk HK3.out 1
        have c2 : W3.cell? ⟨w.heap.size, 2, none⟩ = some (.slice none 0 0) := cell_of_blk HK3.out 2
        have c3 : W3.cell? ⟨w.heap.size, 3, none⟩ = some (.int .i64 0) := cell_of_blk HK3.out 3
        have f0 := free_of_blk HK3.out 0
        have f1 := free_of_blk HK3.out 1
        have f2 := free_of_blk HK3.out 2
        have f3 := free_of_blk HK3.out 3
        have hx := four_cells HK3.out (.string ⟨#[]⟩) (.int .i64 0) (.slice none 0 0) (.int .i64 0)
        have hx0 := cell_of_blk hx 0
        have hx1 := cell_of_blk hx 1
        have hx2 := cell_of_blk hx 2
        have hx3 := cell_of_blk hx 3
        have hbx : Below w.heap.size w ((((W3.setCell ⟨w.heap.size, 0, none⟩ (.string ⟨#[]⟩)).setCell ⟨w.heap.size, 1, none⟩ (.int .i64 0)).setCell ⟨w.heap.size, 2, none⟩ (.slice none 0 0)).setCell ⟨w.heap.size, 3, none⟩ (.int .i64 0)) := (((HBW3.out.setCell (Nat.le_refl _) _).setCell (Nat.le_refl _) _).setCell (Nat.le_refl _) _).setCell (Nat.le_refl _) _
        have g2 := args_glob (HS.out.below hbx)
        clear hx
        go_region
        all_goals (
          go_wp2
          exact bodyPost_ret (v := .tuple #[.agg (outC [] 0 (.slice none 0 0) 0), sentV (a 8)]) (by simp [results, Tryz.results7, go_sem, hx0, hx1, hx2, hx3, outC]) rfl ⟨by first | exact hbx | exact hbx.drew | (repeat (first | exact Below.refl _ _ | assumption | refine Below.drew ?_ | refine Below.trans ?_ (drewN_below' _ _ _) | refine Below.setCell ?_ (by first | (simp; done) | (simp; omega)) _ | refine Below.alloc ?_ (by first | (simp; done) | (simp; omega)) _)), _, rfl, HNO.out _⟩)
    · have hany' : (F.any fun f => f.name == m) = false := by simpa using hany
      rw [hany'] at hlk
      have hno : ¬ HasName F m := by
        rintro ⟨f, hf, h1⟩
        rw [List.any_eq_false] at hany'
        exact hany' f hf (by simpa using h1)
      have HNO : Hid (∀ X, BadRun a F m args.length ticks (sentV (a 5)) X) := fun X => Or.inr (Or.inr ⟨by omega, HFC.out, Or.inl ⟨hno, rfl⟩⟩)
      clear hno hany hany'
      go_wp2_with fail
      rw [← hW3]
      clear hW3 hlk k5
      have g1 := none_glob HS3.out
      have c0 : W3.cell? ⟨w.heap.size, 0, none⟩ = some (.string ⟨#[]⟩) := cell_of_blk HK3.out 0
      have c1 : W3.cell? ⟨w.heap.size, 1, none⟩ = some (.int .i64 0) := cell_of_blk HK3.out 1
      have c2 : W3.cell? ⟨w.heap.size, 2, none⟩ = some (.slice none 0 0) := cell_of_blk HK3.out 2
      have c3 : W3.cell? ⟨w.heap.size, 3, none⟩ = some (.int .i64 0) := cell_of_blk HK3.out 3
      have f0 := free_of_blk HK3.out 0
      have f1 := free_of_blk HK3.out 1
      have f2 := free_of_blk HK3.out 2
      have f3 := free_of_blk HK3.out 3
      have hx := four_cells HK3.out (.string ⟨#[]⟩) (.int .i64 0) (.slice none 0 0) (.int .i64 0)
      have hx0 := cell_of_blk hx 0
      have hx1 := cell_of_blk hx 1
      have hx2 := cell_of_blk hx 2
      have hx3 := cell_of_blk hx 3
      have hbx : Below w.heap.size w ((((W3.setCell ⟨w.heap.size, 0, none⟩ (.string ⟨#[]⟩)).setCell ⟨w.heap.size, 1, none⟩ (.int .i64 0)).setCell ⟨w.heap.size, 2, none⟩ (.slice none 0 0)).setCell ⟨w.heap.size, 3, none⟩ (.int .i64 0)) := (((HBW3.out.setCell (Nat.le_refl _) _).setCell (Nat.le_refl _) _).setCell (Nat.le_refl _) _).setCell (Nat.le_refl _) _
      have g2 := none_glob (HS.out.below hbx)
      clear hx
      go_region
      all_goals (
        go_wp2
        exact bodyPost_ret (v := .tuple #[.agg (outC [] 0 (.slice none 0 0) 0), sentV (a 5)]) (by simp [results, Tryz.results7, go_sem, hx0, hx1, hx2, hx3, outC]) rfl ⟨by first | exact hbx | exact hbx.drew | (repeat (first | exact Below.refl _ _ | assumption | refine Below.drew ?_ | refine Below.trans ?_ (drewN_below' _ _ _) | refine Below.setCell ?_ (by first | (simp; done) | (simp; omega)) _ | refine Below.alloc ?_ (by first | (simp; done) | (simp; omega)) _)), _, rfl, HNO.out _⟩)
  · have hkeepb : ∀ b, w.heap.size < b → ∀ u0 u1 u2 u3 : Value, ((((W1.setCell ⟨w.heap.size, 0, none⟩ u0).setCell ⟨w.heap.size, 1, none⟩ u1).setCell ⟨w.heap.size, 2, none⟩ u2).setCell ⟨w.heap.size, 3, none⟩ u3).heap[b]? = W1.heap[b]? := fun b hb u0 u1 u2 u3 => by
      have hne : b ≠ w.heap.size := by omega
      rw [Below.heap_setCell _ _ _ _ (show b ≠ w.heap.size from hne), Below.heap_setCell _ _ _ _ (show b ≠ w.heap.size from hne), Below.heap_setCell _ _ _ _ (show b ≠ w.heap.size from hne), Below.heap_setCell _ _ _ _ (show b ≠ w.heap.size from hne)]
    have HKB := hidX hkeepb
    have hx := four_cells HK1.out (.string ⟨#[]⟩) (.int .i64 0) (.slice none 0 0) (.int .i64 0)
    have hx0 := cell_of_blk hx 0
    have hx1 := cell_of_blk hx 1
    have hx2 := cell_of_blk hx 2
    have hx3 := cell_of_blk hx 3
    by_cases h8 : 8 < F.length
    · rw [if_pos h8] at hp
      subst hp
      clear hx hkeepb hk1 hgood
      go_wp2
      exact bodyPost_ret (v := .tuple #[.agg (outC [] 0 (.slice none 0 0) 0), sentV (a 7)]) (by simp [results, Tryz.results7, go_sem, hx0, hx1, hx2, hx3, outC]) rfl ⟨by (repeat (first | exact Below.refl _ _ | assumption | refine Below.drew ?_ | refine Below.trans ?_ (drewN_below' _ _ _) | refine Below.setCell ?_ (by first | (simp; done) | (simp; omega)) _ | refine Below.alloc ?_ (by first | (simp; done) | (simp; omega)) _)), _, rfl, Or.inl ⟨h8, rfl⟩⟩
    · rw [if_neg h8] at hp
      cases hfc : funsC F [] F with
      | none => exact absurd ⟨by omega, hfc⟩ hgood
      | some ci =>
        rw [hfc] at hp
        obtain ⟨c, i⟩ := ci
        obtain ⟨hc0, b, he, hwb, hblk⟩ := hp
        subst he
        have HFC := hidX hfc
        have HC0 := hidX hc0
        have HBK := hidX ((hkeepb b (by omega) (.string ⟨#[]⟩) (.int .i64 0) (.slice none 0 0) (.int .i64 0)).trans hblk)
        clear hx hkeepb hk1 hgood hfc hc0 hblk
        go_wp2
        exact bodyPost_ret (v := .tuple #[.agg (outC [] 0 (.slice none 0 0) 0), .iface 125 (.pointer (some ⟨b, 0, none⟩))]) (by simp [results, Tryz.results7, go_sem, hx0, hx1, hx2, hx3, outC]) rfl ⟨by (repeat (first | exact Below.refl _ _ | assumption | refine Below.drew ?_ | refine Below.trans ?_ (drewN_below' _ _ _) | refine Below.setCell ?_ (by first | (simp; done) | (simp; omega)) _ | refine Below.alloc ?_ (by first | (simp; done) | (simp; omega)) _)), _, rfl, Or.inr (Or.inl ⟨c, i, b, h8, HFC.out, HC0.out, rfl, HBK.out⟩)⟩
end Go.Proofs.YtcebpmaggnephacGreatDoor
