/-
  Our own: package run: Run.
-/
import Derived.Test.YtcebpmaggnephacDoorRunNum
namespace Go.Proofs.YtcebpmaggnephacDoor
open Go.RowKit Go.Maps

theorem key_textW (m : List UInt8) (h : m.length ≤ 9223372036854775807) : keyOf Tryd.prog 9 (.string ⟨m.toArray⟩) = some (.string m) :=
  WideMaps.keyOf_string_mk Tryd.underlying9 (s := ⟨m.toArray⟩) (by unfold maxLen; show m.length ≤ _; omega)
theorem look_firstW {w : World} {b : Nat} {F : List Fu} (h : FirstAt w b F) (m : List UInt8) (hm : m.length ≤ 9223372036854775807) (X : World) (hX : X.heap[b]? = w.heap[b]?) :
    ∃ c : Int, (Instr.lookup 63 (.map (some b)) (.string ⟨m.toArray⟩) true).run Tryd.prog X = .ok (.tuple #[.int .i64 c, .bool (F.any fun f => f.name == m)]) X ∧
      ∀ i (hi : i < F.length), F[i].name = m → (∀ j (hj : j < i), (F[j]'(by omega)).name ≠ m) → c = i := by
  obtain ⟨D, h1, h2, h3⟩ := h
  obtain ⟨v, ps, hrun, hv⟩ := (owns_block h1 hX).look_ok law_string Tryd.underlying63 (zero_int X) (plainElem_int (H := Unit) Tryd.underlying3 (q := .i64) (a := 0) (by decide)) (key_textW m hm)
  obtain ⟨c, rfl, hc, _⟩ := plainElem_int_inv Tryd.underlying3 hv
  refine ⟨c, by rw [hrun, h2 m], fun i hi hn hj => ?_⟩
  subst hn
  rw [h3 i hi hj] at hc
  simp only [Prod.mk.injEq, DataW.lit.injEq, Lit.int.injEq, true_and] at hc
  exact hc.1.symm
theorem four_cells {w : World} {b : Nat} {x0 x1 x2 x3 : Value} {t : TypeId} (h : w.heap[b]? = some (.cells #[x0, x1, x2, x3] t (0, 0))) (u0 u1 u2 u3 : Value) : ((((w.setCell ⟨b, 0, none⟩ u0).setCell ⟨b, 1, none⟩ u1).setCell ⟨b, 2, none⟩ u2).setCell ⟨b, 3, none⟩ u3).heap[b]? = some (.cells #[u0, u1, u2, u3] t (0, 0)) := by
  have h2 := blk_setCell (blk_setCell (blk_setCell (blk_setCell h 0 u0) 1 u1) 2 u2) 3 u3
  simpa using h2
theorem own_baseR {w : World} {B B' n size : Nat} {t : TypeId} {v : Value} {xs : List Value} (h : w.ownsRow B t size v n xs) (hb : B' ≤ B) : w.ownsRow B' t size v n xs := by
  rcases h with ⟨h1, h2 | ⟨g, cap, cur, h3, h4, h5⟩⟩
  · exact ⟨h1, Or.inl h2⟩
  · exact ⟨h1, Or.inr ⟨g, cap, cur, h3, by omega, h5⟩⟩
/-- An error's value. -/
def ErrV (a : Nat → Addr) (ev : Value) : Prop := (∃ k, ev = sentV (a k)) ∨ ∃ b, ev = .iface 70 (.pointer (some ⟨b, 0, none⟩))
/-- What a run comes to. -/
def RunsTo (a : Nat → Addr) (F : List Fu) (m : List UInt8) (args : List Int) (most : Nat) (w : World) (e : Ending) (w' : World) : Prop :=
  (¬ (F.length ≤ 8 ∧ funsC F [] F = none ∧ AskOk F m args.length) ∧ Below w.heap.size w w' ∧ ∃ ev, ErrV a ev ∧ e = .returned (.tuple #[.agg (outC [] 0 (.slice none 0 0) 0), ev])) ∨
  ((F.length ≤ 8 ∧ funsC F [] F = none ∧ AskOk F m args.length) ∧ RunTo w (runX runOps F m args most) e w')
set_option maxRecDepth 100000 in
set_option maxHeartbeats 8000000 in
theorem run_any (a : Nat → Addr) (F : List Fu) (hF : F.length ≤ 10) (hL : ∀ g ∈ F, LowF g) (hO : ∀ g ∈ F, OkF g) (w : World) (hS : Sents w a) (v : Value) (hX : XLF (InH w) w v F) (m : List UInt8) (hm : m.length ≤ 9223372036854775807) (args : List Int) (h64 : ∀ v ∈ args, In64 v) (hal : args.length ≤ 8) (argv : Value) (hA : XRow (InH w) w argv args.length (intsC args)) (most : Nat) (hmo : most ≤ 5000) :
    Calls Tryd.prog 16 #[v, .string ⟨m.toArray⟩, argv, .int .i64 (most : Int)] w (RunsTo a F m args most w) := by
  have hX0 := hX
  obtain ⟨xs, hr, hk⟩ := hX
  obtain ⟨ad, cap, rfl⟩ := hr.is
  obtain ⟨aad, acap, rfl⟩ := hA.is
  have hF' : (F.length : Int) ≤ 10 := by omega
  have hal' : (args.length : Int) ≤ 8 := by omega
  have hmo' : (most : Int) ≤ 5000 := by omega
  obtain ⟨W0, hW0⟩ : ∃ W0, W0 = w.alloc (.cells #[.string ⟨#[]⟩, .int .i64 0, .slice none 0 0, .int .i64 0] 44) := ⟨_, rfl⟩
  have hb0 : Below w.heap.size w W0 := by rw [hW0]; exact box_blk _ _ _
  have hz0 : w.heap.size < W0.heap.size := by rw [hW0]; simp
  have hk0 : W0.heap[w.heap.size]? = some (.cells #[.string ⟨#[]⟩, .int .i64 0, .slice none 0 0, .int .i64 0] 44 (0, 0)) := by rw [hW0]; exact heap_alloc_new w _
  have hpr := program_any a F hF hL W0 (hS.below hb0) _ (hX0.imp (inH_up hb0) (keepH hb0))
  have HPR := hidX hpr
  have R := hidX hr
  have KK := hidX hk
  have HL := hidX hL
  have HO := hidX hO
  have HS := hidX hS
  have HX := hidX hX0
  have HAA := hidX hA
  have H64 := hidX h64
  have HB0 := hidX hb0
  have HK0 := hidX hk0
  clear hX0 hr hk hA hL hO hS h64 hpr hb0 hk0
  go_enter Tryd.func16, Tryd.ntmps16
  go_wp2_with fail
  rw [← hW0]
  clear hW0
  refine HPR.out.mono ?_
  rintro e W1 ⟨hb1, hp⟩
  have hz1 := hb1.size
  have hbw1 : Below w.heap.size w W1 := bl_trans HB0.out HB0.out.size hb1
  have hk1 := (hb1.block _ hz0).trans HK0.out
  have HK1 := hidX hk1
  have c0 : W1.cell? ⟨w.heap.size, 0, none⟩ = some (.string ⟨#[]⟩) := cell_of_blk hk1 0
  have c1 : W1.cell? ⟨w.heap.size, 1, none⟩ = some (.int .i64 0) := cell_of_blk hk1 1
  have c2 : W1.cell? ⟨w.heap.size, 2, none⟩ = some (.slice none 0 0) := cell_of_blk hk1 2
  have c3 : W1.cell? ⟨w.heap.size, 3, none⟩ = some (.int .i64 0) := cell_of_blk hk1 3
  have f0 := free_of_blk hk1 0
  have f1 := free_of_blk hk1 1
  have f2 := free_of_blk hk1 2
  have f3 := free_of_blk hk1 3
  by_cases hgood : F.length ≤ 8 ∧ funsC F [] F = none
  · obtain ⟨h8, hfc⟩ := hgood
    have he : e = .returned .nilIface := by rw [if_neg (by omega), hfc] at hp; exact hp
    subst he
    have hwp := prog_wf hfc HO.out
    have HWP := hidX hwp
    have HFC := hidX hfc
    have hnu := numbers_any F hwp hF HL.out W1 _ (HX.out.imp (inH_up hbw1) (keepH hbw1))
    have HNU := hidX hnu
    clear hp hfc hwp hnu hk1 c0 c1 c2 c3 f0 f1 f2 f3
    go_wp2_with fail
    refine HNU.out.mono ?_
    rintro e W2 ⟨rfl, hfi, hb2, hz2⟩
    obtain ⟨W3, hW3⟩ : ∃ W3, W3 = W2.alloc (.cells #[.string ⟨#[]⟩, .int .i64 0, .slice none 0 0, .int .i64 0, .slice ad F.length cap, .map (some W1.heap.size), .int .i64 (most : Int), .int .i64 0] 80) := ⟨_, rfl⟩
    have hb3 : Below W2.heap.size W2 W3 := by rw [hW3]; exact box_blk _ _ _
    have hbm : W3.heap[W2.heap.size]? = some (.cells #[.string ⟨#[]⟩, .int .i64 0, .slice none 0 0, .int .i64 0, .slice ad F.length cap, .map (some W1.heap.size), .int .i64 (most : Int), .int .i64 0] 80 (0, 0)) := by rw [hW3]; exact heap_alloc_new _ _
    have hfi3 := hfi.keep (hb3.block W1.heap.size hz2)
    have hbw3 : Below w.heap.size w W3 := bl_trans hbw1 hbw1.size (bl_trans hb2 hb2.size hb3)
    have hb13 : Below W1.heap.size W1 W3 := bl_trans hb2 hb2.size hb3
    have hz3 : W2.heap.size < W3.heap.size := heap_lt hbm
    have hx3 : XLF (fun b => b < W1.heap.size) W3 (.slice ad F.length cap) F := HX.out.imp (fun b hb => by have : b < w.heap.size := hb; omega) (keepH hbw3)
    have hmach : Mach W3 W1.heap.size W2.heap.size W1.heap.size (.slice ad F.length cap) (.slice none 0 0) F [] ⟨0, []⟩ most 0 := ⟨by omega, Nat.le_refl _, by omega, hbm, hx3, World.ownsRow_nil _ _ _ _, by simp [Value.ownBlock], by simp [Value.ownBlock], hfi3, Nat.zero_le _, hmo, Nat.zero_le _, Nat.zero_le _⟩
    obtain ⟨ci, hlk, hci⟩ := look_firstW hfi3 m hm W3 rfl
    have k5 : W3.cell? ⟨W2.heap.size, 5, none⟩ = some (.map (some W1.heap.size)) := cell_of_blk hbm 5
    have hk3 := (hb13.block w.heap.size (by omega)).trans HK1.out
    have HK3 := hidX hk3
    have HMA := hidX hmach
    have HCI := hidX hci
    have HBW3 := hidX hbw3
    have HB13 := hidX hb13
    have HS3 := hidX (HS.out.below hbw3)
    rw [hW3] at hlk k5
    clear hfi hfi3 hb2 hb3 hbm hx3 hmach hci hbw3 hb13 hk3 HNU HPR
    by_cases hany : (F.any fun f => f.name == m) = true
    · rw [hany] at hlk
      obtain ⟨i, hi, i1, i2, i3⟩ := first_of hany
      have hcc : ci = (i : Int) := HCI.out i hi i1 i2
      subst hcc
      have hfk := KK.out.at hi
      obtain ⟨fa, q1, q2⟩ := hfk
      obtain ⟨gf, off, rfl, hgf, g1⟩ := R.out.el 3 hi q2
      obtain ⟨pv, bv, bs, rfl, r2, r3, r4⟩ := q1
      obtain ⟨adp, cp, rfl⟩ := r2.is
      have hlow := HL.out _ (List.getElem_mem hi)
      have hpl : F[i].params.length ≤ 8 := hlow.2.1
      have hpl' : (F[i].params.length : Int) ≤ 8 := by omega
      have a1 := (HBW3.out.cell (p := ⟨gf, _, none⟩) hgf).trans (g1 1 _ (by decide) rfl)
      simp only [← Nat.add_assoc] at a1
      rw [hW3] at a1
      have hi' : (i : Int) < (F.length : Int) := by omega
      clear g1 q2 r2 r3 r4 HCI
      by_cases hpa : F[i].params.length = args.length
      · have hpa' : (F[i].params.length : Int) = (args.length : Int) := by omega
        have hask : AskOk F m args.length := ⟨F[i], List.getElem_mem hi, i1, hpa⟩
        have hargs : XRow (fun b => b < W3.heap.size ∧ b ≠ W2.heap.size ∧ (Value.slice none 0 0).ownBlock ≠ some b) W3 (.slice aad args.length acap) args.length (intsC args) := HAA.out.imp (fun b hb => by have : b < w.heap.size := hb; exact ⟨by omega, by omega, by simp [Value.ownBlock]⟩) (keepH HBW3.out)
        have hcall := callT_any (most := most) HWP.out HL.out hF (most + 1) W3 W1.heap.size W2.heap.size W1.heap.size 0 _ _ _ ⟨0, []⟩ m args HMA.out hask H64.out (by rw [← i1]; exact hlow.1) (by show most - 0 < most + 1; omega) hargs
        generalize hrx : callX runOps most F (most + 1) 0 m args ⟨0, []⟩ = rx at hcall
        have hrun : runX runOps F m args most = rx := hrx
        have HRUN := hidX hrun
        have HCL := hidX hcall
        have HAS : Hid (F.length ≤ 8 ∧ funsC F [] F = none ∧ AskOk F m args.length) := ⟨h8, HFC.out, hask⟩
        clear hask hargs hcall hrx hrun hany hlow hpa
        go_wp2_with fail
        rw [← hW3]
        clear hW3 hlk k5 a1
        refine HCL.out.mono ?_
        rintro e W4 ⟨hf4, ov4, hr4, h4⟩
        have hz4 := hf4.size
        have hb4 : Below W2.heap.size W3 W4 := ⟨hf4.os, hf4.tape, hf4.output, hf4.size, fun b hb => hf4.block b (by omega) (by
          rintro (e | e)
          · omega
          · simp [Value.ownBlock] at e)⟩
        have hbw4 : Below w.heap.size w W4 := HBW3.out.trans (hb4.mono (by omega))
        have hk4 := (hb4.block w.heap.size (by omega)).trans HK3.out
        have HK4 := hidX hk4
        have HBW4 := hidX hbw4
        have r0 : W4.cell? ⟨w.heap.size, 0, none⟩ = some (.string ⟨#[]⟩) := cell_of_blk hk4 0
        have r1 : W4.cell? ⟨w.heap.size, 1, none⟩ = some (.int .i64 0) := cell_of_blk hk4 1
        have r2 : W4.cell? ⟨w.heap.size, 2, none⟩ = some (.slice none 0 0) := cell_of_blk hk4 2
        have r3 : W4.cell? ⟨w.heap.size, 3, none⟩ = some (.int .i64 0) := cell_of_blk hk4 3
        have f0 := free_of_blk hk4 0
        have f1 := free_of_blk hk4 1
        have f2 := free_of_blk hk4 2
        have f3 := free_of_blk hk4 3
        clear hf4 hr4 hb4 hbw4 hk4
        cases rx with
        | stop c s4 =>
          simp only at h4
          obtain ⟨he, hm4⟩ := h4
          subst he
          obtain ⟨ado, co, rfl⟩ := own_is hm4.own
          have m0 : W4.cell? ⟨W2.heap.size, 0, none⟩ = some (.string ⟨(howS c).toArray⟩) := cell_of_blk hm4.blk 0
          have m1 : W4.cell? ⟨W2.heap.size, 1, none⟩ = some (.int .i64 0) := cell_of_blk hm4.blk 1
          have m2 : W4.cell? ⟨W2.heap.size, 2, none⟩ = some (.slice ado s4.out.length co) := cell_of_blk hm4.blk 2
          have m3 : W4.cell? ⟨W2.heap.size, 3, none⟩ = some (.int .i64 (s4.ticks : Int)) := cell_of_blk hm4.blk 3
          have hx := four_cells HK4.out (.string ⟨(howS c).toArray⟩) (.int .i64 0) (.slice ado s4.out.length co) (.int .i64 (s4.ticks : Int))
          have hx0 := cell_of_blk hx 0
          have hx1 := cell_of_blk hx 1
          have hx2 := cell_of_blk hx 2
          have hx3 := cell_of_blk hx 3
          have hown := own_same (w' := ((((W4.setCell ⟨w.heap.size, 0, none⟩ (.string ⟨(howS c).toArray⟩)).setCell ⟨w.heap.size, 1, none⟩ (.int .i64 0)).setCell ⟨w.heap.size, 2, none⟩ (.slice ado s4.out.length co)).setCell ⟨w.heap.size, 3, none⟩ (.int .i64 (s4.ticks : Int)))) hm4.own (fun b e => by
            have hb := (hm4.own.lt b e).1
            have hne : b ≠ w.heap.size := by omega
            rw [Below.heap_setCell _ _ _ _ (show b ≠ w.heap.size from hne), Below.heap_setCell _ _ _ _ (show b ≠ w.heap.size from hne), Below.heap_setCell _ _ _ _ (show b ≠ w.heap.size from hne), Below.heap_setCell _ _ _ _ (show b ≠ w.heap.size from hne)])
          have HOW := hidX (own_baseR hown (show w.heap.size ≤ W1.heap.size by omega))
          clear hm4 hx hown
          go_wp2
          exact bodyPost_ret (v := .tuple #[.agg (outC (howS c) 0 (.slice ado s4.out.length co) s4.ticks), .nilIface]) (by simp [results, Tryd.results16, go_sem, hx0, hx1, hx2, hx3, outC]) rfl (Or.inr ⟨HAS.out, by rw [HRUN.out]; exact ⟨(((HBW4.out.setCell (Nat.le_refl _) _).setCell (Nat.le_refl _) _).setCell (Nat.le_refl _) _).setCell (Nat.le_refl _) _, _, HOW.out, rfl⟩⟩)
        | val v4 s4 =>
          simp only at h4
          obtain ⟨he, hm4⟩ := h4
          subst he
          obtain ⟨ado, co, rfl⟩ := own_is hm4.own
          have m0 : W4.cell? ⟨W2.heap.size, 0, none⟩ = some (.string ⟨([] : List UInt8).toArray⟩) := cell_of_blk hm4.blk 0
          have m1 : W4.cell? ⟨W2.heap.size, 1, none⟩ = some (.int .i64 0) := cell_of_blk hm4.blk 1
          have e0 := free_of_blk hm4.blk 0
          have e1 := free_of_blk hm4.blk 1
          have hbk5 := blk_setCell (blk_setCell hm4.blk 0 (.string ⟨#[100, 111, 110, 101]⟩)) 1 (.int .i64 v4)
          have hmn : w.heap.size ≠ W2.heap.size := by omega
          have hkr5 : ((W4.setCell ⟨W2.heap.size, 0, none⟩ (.string ⟨#[100, 111, 110, 101]⟩)).setCell ⟨W2.heap.size, 1, none⟩ (.int .i64 v4)).heap[w.heap.size]? = some (.cells #[.string ⟨#[]⟩, .int .i64 0, .slice none 0 0, .int .i64 0] 44 (0, 0)) := by
            rw [Below.heap_setCell _ _ _ _ (show w.heap.size ≠ W2.heap.size from hmn), Below.heap_setCell _ _ _ _ (show w.heap.size ≠ W2.heap.size from hmn)]
            exact HK4.out
          have hown5 := own_same (w' := (W4.setCell ⟨W2.heap.size, 0, none⟩ (.string ⟨#[100, 111, 110, 101]⟩)).setCell ⟨W2.heap.size, 1, none⟩ (.int .i64 v4)) hm4.own (fun b e => by
            have hne : b ≠ W2.heap.size := fun e' => hm4.n1 (e' ▸ e)
            rw [Below.heap_setCell _ _ _ _ (show b ≠ W2.heap.size from hne), Below.heap_setCell _ _ _ _ (show b ≠ W2.heap.size from hne)])
          have hb5 : Below w.heap.size w ((W4.setCell ⟨W2.heap.size, 0, none⟩ (.string ⟨#[100, 111, 110, 101]⟩)).setCell ⟨W2.heap.size, 1, none⟩ (.int .i64 v4)) := (HBW4.out.setCell (show w.heap.size ≤ W2.heap.size by omega) _).setCell (show w.heap.size ≤ W2.heap.size by omega) _
          have HOW5 := hidX hown5
          have HKR5 := hidX hkr5
          have HB5 := hidX hb5
          have HBK5 := hidX hbk5
          have n0 : ((W4.setCell ⟨W2.heap.size, 0, none⟩ (.string ⟨#[100, 111, 110, 101]⟩)).setCell ⟨W2.heap.size, 1, none⟩ (.int .i64 v4)).cell? ⟨W2.heap.size, 0, none⟩ = some (.string ⟨#[100, 111, 110, 101]⟩) := (cell_of_blk hbk5 0).trans (by simp)
          have n1 : ((W4.setCell ⟨W2.heap.size, 0, none⟩ (.string ⟨#[100, 111, 110, 101]⟩)).setCell ⟨W2.heap.size, 1, none⟩ (.int .i64 v4)).cell? ⟨W2.heap.size, 1, none⟩ = some (.int .i64 v4) := (cell_of_blk hbk5 1).trans (by simp)
          have n2 : ((W4.setCell ⟨W2.heap.size, 0, none⟩ (.string ⟨#[100, 111, 110, 101]⟩)).setCell ⟨W2.heap.size, 1, none⟩ (.int .i64 v4)).cell? ⟨W2.heap.size, 2, none⟩ = some (.slice ado s4.out.length co) := (cell_of_blk hbk5 2).trans (by simp)
          have n3 : ((W4.setCell ⟨W2.heap.size, 0, none⟩ (.string ⟨#[100, 111, 110, 101]⟩)).setCell ⟨W2.heap.size, 1, none⟩ (.int .i64 v4)).cell? ⟨W2.heap.size, 3, none⟩ = some (.int .i64 (s4.ticks : Int)) := (cell_of_blk hbk5 3).trans (by simp)
          have q0 : ((W4.setCell ⟨W2.heap.size, 0, none⟩ (.string ⟨#[100, 111, 110, 101]⟩)).setCell ⟨W2.heap.size, 1, none⟩ (.int .i64 v4)).cell? ⟨w.heap.size, 0, none⟩ = some (.string ⟨#[]⟩) := cell_of_blk hkr5 0
          have q1 : ((W4.setCell ⟨W2.heap.size, 0, none⟩ (.string ⟨#[100, 111, 110, 101]⟩)).setCell ⟨W2.heap.size, 1, none⟩ (.int .i64 v4)).cell? ⟨w.heap.size, 1, none⟩ = some (.int .i64 0) := cell_of_blk hkr5 1
          have q2 : ((W4.setCell ⟨W2.heap.size, 0, none⟩ (.string ⟨#[100, 111, 110, 101]⟩)).setCell ⟨W2.heap.size, 1, none⟩ (.int .i64 v4)).cell? ⟨w.heap.size, 2, none⟩ = some (.slice none 0 0) := cell_of_blk hkr5 2
          have q3 : ((W4.setCell ⟨W2.heap.size, 0, none⟩ (.string ⟨#[100, 111, 110, 101]⟩)).setCell ⟨W2.heap.size, 1, none⟩ (.int .i64 v4)).cell? ⟨w.heap.size, 3, none⟩ = some (.int .i64 0) := cell_of_blk hkr5 3
          have p0 := free_of_blk hkr5 0
          have p1 := free_of_blk hkr5 1
          have p2 := free_of_blk hkr5 2
          have p3 := free_of_blk hkr5 3
          have hx := four_cells hkr5 (.string ⟨#[100, 111, 110, 101]⟩) (.int .i64 v4) (.slice ado s4.out.length co) (.int .i64 (s4.ticks : Int))
          have hx0 := cell_of_blk hx 0
          have hx1 := cell_of_blk hx 1
          have hx2 := cell_of_blk hx 2
          have hx3 := cell_of_blk hx 3
          have hown6 := own_same (w' := (((((W4.setCell ⟨W2.heap.size, 0, none⟩ (.string ⟨#[100, 111, 110, 101]⟩)).setCell ⟨W2.heap.size, 1, none⟩ (.int .i64 v4)).setCell ⟨w.heap.size, 0, none⟩ (.string ⟨#[100, 111, 110, 101]⟩)).setCell ⟨w.heap.size, 1, none⟩ (.int .i64 v4)).setCell ⟨w.heap.size, 2, none⟩ (.slice ado s4.out.length co)).setCell ⟨w.heap.size, 3, none⟩ (.int .i64 (s4.ticks : Int))) hown5 (fun b e => by
            have hb := (hown5.lt b e).1
            have hne : b ≠ w.heap.size := by omega
            rw [Below.heap_setCell _ _ _ _ (show b ≠ w.heap.size from hne), Below.heap_setCell _ _ _ _ (show b ≠ w.heap.size from hne), Below.heap_setCell _ _ _ _ (show b ≠ w.heap.size from hne), Below.heap_setCell _ _ _ _ (show b ≠ w.heap.size from hne)])
          have HOW6 := hidX (own_baseR hown6 (show w.heap.size ≤ W1.heap.size by omega))
          clear hx hown6
          clear hm4 hown5 hkr5 hb5 hbk5 r0 r1 r2 r3 f0 f1 f2 f3
          go_wp2
          exact bodyPost_ret (v := .tuple #[.agg (outC kDone v4 (.slice ado s4.out.length co) s4.ticks), .nilIface]) (by simp [results, Tryd.results16, go_sem, hx0, hx1, hx2, hx3, outC, kDone]) rfl (Or.inr ⟨HAS.out, by rw [HRUN.out]; exact ⟨(((HB5.out.setCell (Nat.le_refl _) _).setCell (Nat.le_refl _) _).setCell (Nat.le_refl _) _).setCell (Nat.le_refl _) _, _, HOW6.out, rfl⟩⟩)
      · have hpa' : ¬ (F[i].params.length : Int) = (args.length : Int) := by omega
        have hno : ¬ (F.length ≤ 8 ∧ funsC F [] F = none ∧ AskOk F m args.length) := by
          rintro ⟨_, _, f, hf, h1, h2⟩
          obtain ⟨i', hi2, rfl⟩ := List.mem_iff_getElem.1 hf
          have := HWP.out.names i hi i' hi2 (h1.trans i1.symm)
          subst this
          exact hpa h2
        have HNO := hidX hno
        clear hno hany hpa
        go_wp2_with fail
        rw [← hW3]
        clear hW3 hlk k5 a1
        have g1 := args_glob HS3.out
        have c0 : W3.cell? ⟨w.heap.size, 0, none⟩ = some (.string ⟨#[]⟩) := cell_of_blk HK3.out 0
        have c1 : W3.cell? ⟨w.heap.size, 1, none⟩ = some (.int .i64 0) := cell_of_blk HK3.out 1
        have c2 : W3.cell? ⟨w.heap.size, 2, none⟩ = some (.slice none 0 0) := cell_of_blk HK3.out 2
        have c3 : W3.cell? ⟨w.heap.size, 3, none⟩ = some (.int .i64 0) := cell_of_blk HK3.out 3
        have f0 := free_of_blk HK3.out 0
        have f1 := free_of_blk HK3.out 1
        have f2 := free_of_blk HK3.out 2
        have f3 := free_of_blk HK3.out 3
        have hx := four_cells HK3.out (.string ⟨#[]⟩) (.int .i64 0) (.slice none 0 0) (.int .i64 0)
        have hx0 := cell_of_blk hx 0
        have hx1 := cell_of_blk hx 1
        have hx2 := cell_of_blk hx 2
        have hx3 := cell_of_blk hx 3
        have hbx : Below w.heap.size w ((((W3.setCell ⟨w.heap.size, 0, none⟩ (.string ⟨#[]⟩)).setCell ⟨w.heap.size, 1, none⟩ (.int .i64 0)).setCell ⟨w.heap.size, 2, none⟩ (.slice none 0 0)).setCell ⟨w.heap.size, 3, none⟩ (.int .i64 0)) := (((HBW3.out.setCell (Nat.le_refl _) _).setCell (Nat.le_refl _) _).setCell (Nat.le_refl _) _).setCell (Nat.le_refl _) _
        have g2 := args_glob (HS.out.below hbx)
        clear hx
        go_region
        all_goals (
          go_wp2
          exact bodyPost_ret (v := .tuple #[.agg (outC [] 0 (.slice none 0 0) 0), sentV (a 8)]) (by simp [results, Tryd.results16, go_sem, hx0, hx1, hx2, hx3, outC]) rfl (Or.inl ⟨HNO.out, by first | exact hbx | exact hbx.drew | (repeat (first | exact Below.refl _ _ | assumption | refine Below.drew ?_ | refine Below.trans ?_ (drewN_below' _ _ _) | refine Below.setCell ?_ (by first | (simp; done) | (simp; omega)) _ | refine Below.alloc ?_ (by first | (simp; done) | (simp; omega)) _)), _, Or.inl ⟨8, rfl⟩, rfl⟩))
    · have hany' : (F.any fun f => f.name == m) = false := by simpa using hany
      rw [hany'] at hlk
      have hno : ¬ (F.length ≤ 8 ∧ funsC F [] F = none ∧ AskOk F m args.length) := by
        rintro ⟨_, _, f, hf, h1, _⟩
        rw [List.any_eq_false] at hany'
        exact hany' f hf (by simpa using h1)
      have HNO := hidX hno
      clear hno hany hany'
      go_wp2_with fail
      rw [← hW3]
      clear hW3 hlk k5
      have g1 := none_glob HS3.out
      have c0 : W3.cell? ⟨w.heap.size, 0, none⟩ = some (.string ⟨#[]⟩) := cell_of_blk HK3.out 0
      have c1 : W3.cell? ⟨w.heap.size, 1, none⟩ = some (.int .i64 0) := cell_of_blk HK3.out 1
      have c2 : W3.cell? ⟨w.heap.size, 2, none⟩ = some (.slice none 0 0) := cell_of_blk HK3.out 2
      have c3 : W3.cell? ⟨w.heap.size, 3, none⟩ = some (.int .i64 0) := cell_of_blk HK3.out 3
      have f0 := free_of_blk HK3.out 0
      have f1 := free_of_blk HK3.out 1
      have f2 := free_of_blk HK3.out 2
      have f3 := free_of_blk HK3.out 3
      have hx := four_cells HK3.out (.string ⟨#[]⟩) (.int .i64 0) (.slice none 0 0) (.int .i64 0)
      have hx0 := cell_of_blk hx 0
      have hx1 := cell_of_blk hx 1
      have hx2 := cell_of_blk hx 2
      have hx3 := cell_of_blk hx 3
      have hbx : Below w.heap.size w ((((W3.setCell ⟨w.heap.size, 0, none⟩ (.string ⟨#[]⟩)).setCell ⟨w.heap.size, 1, none⟩ (.int .i64 0)).setCell ⟨w.heap.size, 2, none⟩ (.slice none 0 0)).setCell ⟨w.heap.size, 3, none⟩ (.int .i64 0)) := (((HBW3.out.setCell (Nat.le_refl _) _).setCell (Nat.le_refl _) _).setCell (Nat.le_refl _) _).setCell (Nat.le_refl _) _
      have g2 := none_glob (HS.out.below hbx)
      clear hx
      go_region
      all_goals (
        go_wp2
        exact bodyPost_ret (v := .tuple #[.agg (outC [] 0 (.slice none 0 0) 0), sentV (a 5)]) (by simp [results, Tryd.results16, go_sem, hx0, hx1, hx2, hx3, outC]) rfl (Or.inl ⟨HNO.out, by first | exact hbx | exact hbx.drew | (repeat (first | exact Below.refl _ _ | assumption | refine Below.drew ?_ | refine Below.trans ?_ (drewN_below' _ _ _) | refine Below.setCell ?_ (by first | (simp; done) | (simp; omega)) _ | refine Below.alloc ?_ (by first | (simp; done) | (simp; omega)) _)), _, Or.inl ⟨5, rfl⟩, rfl⟩))
  · have hev : ∃ ev, ErrV a ev ∧ e = .returned ev := by
      by_cases h8 : 8 < F.length
      · rw [if_pos h8] at hp
        exact ⟨_, Or.inl ⟨7, rfl⟩, hp⟩
      · rw [if_neg h8] at hp
        cases hfc : funsC F [] F with
        | none => exact absurd ⟨by omega, hfc⟩ hgood
        | some ci =>
          rw [hfc] at hp
          obtain ⟨c, i⟩ := ci
          obtain ⟨_, b, he, _, _⟩ := hp
          exact ⟨_, Or.inr ⟨b, rfl⟩, he⟩
    obtain ⟨ev, hE, he⟩ := hev
    subst he
    have hno : ¬ (F.length ≤ 8 ∧ funsC F [] F = none ∧ AskOk F m args.length) := fun h => hgood ⟨h.1, h.2.1⟩
    have HNO := hidX hno
    have HEV := hidX hE
    clear hp hgood hno hk1
    rcases hE with ⟨k, rfl⟩ | ⟨b, rfl⟩
    · go_wp2
      have hx := four_cells HK1.out (.string ⟨#[]⟩) (.int .i64 0) (.slice none 0 0) (.int .i64 0)
      have hx0 := cell_of_blk hx 0
      have hx1 := cell_of_blk hx 1
      have hx2 := cell_of_blk hx 2
      have hx3 := cell_of_blk hx 3
      clear hx
      exact bodyPost_ret (v := .tuple #[.agg (outC [] 0 (.slice none 0 0) 0), sentV (a k)]) (by simp [results, Tryd.results16, go_sem, hx0, hx1, hx2, hx3, outC]) rfl (Or.inl ⟨HNO.out, by (repeat (first | exact Below.refl _ _ | assumption | refine Below.drew ?_ | refine Below.trans ?_ (drewN_below' _ _ _) | refine Below.setCell ?_ (by first | (simp; done) | (simp; omega)) _ | refine Below.alloc ?_ (by first | (simp; done) | (simp; omega)) _)), _, HEV.out, rfl⟩)
    · go_wp2
      have hx := four_cells HK1.out (.string ⟨#[]⟩) (.int .i64 0) (.slice none 0 0) (.int .i64 0)
      have hx0 := cell_of_blk hx 0
      have hx1 := cell_of_blk hx 1
      have hx2 := cell_of_blk hx 2
      have hx3 := cell_of_blk hx 3
      clear hx
      exact bodyPost_ret (v := .tuple #[.agg (outC [] 0 (.slice none 0 0) 0), .iface 70 (.pointer (some ⟨b, 0, none⟩))]) (by simp [results, Tryd.results16, go_sem, hx0, hx1, hx2, hx3, outC]) rfl (Or.inl ⟨HNO.out, by (repeat (first | exact Below.refl _ _ | assumption | refine Below.drew ?_ | refine Below.trans ?_ (drewN_below' _ _ _) | refine Below.setCell ?_ (by first | (simp; done) | (simp; omega)) _ | refine Below.alloc ?_ (by first | (simp; done) | (simp; omega)) _)), _, HEV.out, rfl⟩)
end Go.Proofs.YtcebpmaggnephacDoor
