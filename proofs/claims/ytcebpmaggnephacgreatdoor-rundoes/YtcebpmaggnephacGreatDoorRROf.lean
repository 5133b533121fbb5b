/-
  Our own: the document's own model of a run: RunOf.
-/
import Derived.Test.YtcebpmaggnephacGreatDoorRRCall
import Derived.Test.YtcebpmaggnephacGreatDoorRunSames
namespace Go.Proofs.YtcebpmaggnephacGreatDoor
open Go.RowKit Go.Maps

/-- What RunOf comes to. -/
def ROTo (w : World) (r : Vr) (e : Ending) (w' : World) : Prop :=
  Below w.heap.size w w' ∧ ∃ ad c, w'.ownsRow w.heap.size 3 1 (.slice ad r.st.out.length c) r.st.out.length (intsC r.st.out) ∧ e = .returned (.agg (outC (howV r) (valV r) (.slice ad r.st.out.length c) r.st.ticks))
set_option maxRecDepth 100000 in
set_option maxHeartbeats 2000000 in
theorem rrunOf_any {F : List Fu} {most : Nat} (hP : WfP F) (hL : ∀ f ∈ F, LowF f) (hKi : ∀ f ∈ F, KindSs f.body) (hF : F.length ≤ 10) (hmo : most ≤ 5000) (w : World) (fv argv : Value) (m : List UInt8) (hm : m.length ≤ 20) (args : List Int) (hX : XLF (InH w) w fv F) (hask : ∃ f ∈ F, f.name = m ∧ f.params.length = args.length) (h64 : ∀ v ∈ args, In64 v) (hA : XRow (InH w) w argv args.length (intsC args)) :
    Calls Tryz.prog 13 #[fv, .string ⟨m.toArray⟩, argv, .int .i64 (most : Int)] w (ROTo w (runX runOps F m args most)) := by
  have hX0 := hX
  obtain ⟨fs, hfr, _⟩ := hX0
  obtain ⟨adf, cf, rfl⟩ := hfr.is
  obtain ⟨ada, ca, rfl⟩ := hA.is
  obtain ⟨W0, hW0⟩ : ∃ W0, W0 = (w.alloc (.cells #[.string ⟨#[]⟩, .int .i64 0, .slice none 0 0, .int .i64 0] 27)).alloc (.cells #[.slice adf F.length cf, .int .i64 (most : Int), .int .i64 0, .bool true, .string ⟨#[]⟩, .slice none 0 0, .int .i64 0, .slice none 0 0, .slice none 0 0] 84) := ⟨_, rfl⟩
  have hb0 : Below w.heap.size w W0 := by rw [hW0]; (repeat (first | exact Below.refl _ _ | assumption | refine Below.drew ?_ | refine Below.trans ?_ (drewN_below' _ _ _) | refine Below.setCell ?_ (by first | (simp; done) | (simp; omega)) _ | refine Below.alloc ?_ (by first | (simp; done) | (simp; omega)) _))
  have hs0 : W0.heap.size = w.heap.size + 2 := by rw [hW0]; simp
  have hko : W0.heap[w.heap.size]? = some (.cells #[.string ⟨#[]⟩, .int .i64 0, .slice none 0 0, .int .i64 0] 27 (0, 0)) := by rw [hW0]; exact two_newR w _ _
  have hkm : W0.heap[w.heap.size + 1]? = some (.cells (rmC (.slice adf F.length cf) (.slice none 0 0) [] 0 most 0) 84 (0, 0)) := by rw [hW0]; exact second_newB w _ _
  have hM : RM W0 w.heap.size (w.heap.size + 1) (.slice adf F.length cf) (.slice none 0 0) F [] ⟨0, []⟩ most 0 := ⟨by omega, hkm, hX.imp (fun _ h => h) (keepH hb0), World.ownsRow_nil _ _ _ _, by simp [Value.ownBlock], Nat.zero_le _, hmo, Nat.zero_le _, Nat.zero_le _⟩
  have hcall := rcall_any (most := most) hP hL hKi hF (most + 1) 0 W0 w.heap.size (w.heap.size + 1) _ _ (.slice ada args.length ca) ⟨0, []⟩ m args hM hask h64 hm (by show most - 0 < most + 1; omega) (hA.imp (fun b hb => ⟨by have : b < w.heap.size := hb; omega, by have : b < w.heap.size := hb; omega, by simp [Value.ownBlock]⟩) (keepH hb0))
  generalize hrx : callX runOps most F (most + 1) 0 m args ⟨0, []⟩ = rx at hcall
  have hrun : runX runOps F m args most = rx := hrx
  rw [hrun]
  have HCL := hidX hcall
  have HB0 := hidX hb0
  have HS0 := hidX hs0
  have HKO := hidX hko
  clear hX hfr hA hask h64 hP hL hKi hM hcall hrx hrun hb0 hs0 hko hkm
  go_enter Tryz.func13, Tryz.ntmps13
  go_wp2_with fail
  rw [← hW0]
  clear hW0
  refine HCL.out.mono ?_
  intro e X1 h1
  obtain ⟨v1, rfl, hf1, ov1, hr1, h1⟩ := rvto_int h1
  have hz1 := hf1.size
  have hz0 := HS0.out
  have hb1 : Below w.heap.size w X1 := ⟨hf1.os.trans HB0.out.os, hf1.tape.trans HB0.out.tape, hf1.output.trans HB0.out.output, by omega, fun b hb => (hf1.block b (by omega) (by rintro (e | e); omega; simp [Value.ownBlock] at e)).trans (HB0.out.block b hb)⟩
  have hko1 := (hf1.block w.heap.size (by omega) (by rintro (e | e); omega; simp [Value.ownBlock] at e)).trans HKO.out
  have HB1 := hidX hb1
  have HKO1 := hidX hko1
  have HZ1 : Hid (w.heap.size + 2 ≤ X1.heap.size) := by unfold Hid; omega
  clear hf1 hr1 hb1 hko1 hz0 hz1
  cases rx with
  | stop c s1 =>
    obtain ⟨he, hM1⟩ := h1
    have he1 : v1 = 0 := by injection he with this; injection this
    subst he1
    obtain ⟨ado, co, hov⟩ := own_is hM1.own
    subst hov
    have m4 := hM1.howC
    have m5 : X1.cell? ⟨w.heap.size + 1, 5, none⟩ = some (.slice ado s1.out.length co) := cell_of_blk hM1.blk 5
    have m6 : X1.cell? ⟨w.heap.size + 1, 6, none⟩ = some (.int .i64 (s1.ticks : Int)) := cell_of_blk hM1.blk 6
    have HM1 := hidX hM1
    have hne : (howS c).isEmpty = false := by cases c <;> rfl
    have hmz := hM1.mlt
    clear hM1 he
    obtain ⟨XA, hXA⟩ : ∃ XA, XA = (X1.alloc (.cells #[.string ⟨(howS c).toArray⟩, .int .i64 0, .slice ado s1.out.length co, .int .i64 (s1.ticks : Int)] 27)).drew := ⟨_, rfl⟩
    have hbA : Below X1.heap.size X1 XA := by rw [hXA]; (repeat (first | exact Below.refl _ _ | assumption | refine Below.drew ?_ | refine Below.trans ?_ (drewN_below' _ _ _) | refine Below.setCell ?_ (by first | (simp; done) | (simp; omega)) _ | refine Below.alloc ?_ (by first | (simp; done) | (simp; omega)) _))
    have hkA : XA.heap[X1.heap.size]? = some (.cells #[.string ⟨(howS c).toArray⟩, .int .i64 0, .slice ado s1.out.length co, .int .i64 (s1.ticks : Int)] 27 (0, 0)) := by rw [hXA]; exact heap_alloc_new X1 _
    have hz1 := HZ1.out
    have hkoA := (hbA.block w.heap.size (by omega)).trans HKO1.out
    have n4 : XA.cell? ⟨w.heap.size + 1, 4, none⟩ = some (.string ⟨(howS c).toArray⟩) := (hbA.cell (p := ⟨w.heap.size + 1, 4, none⟩) hmz).trans m4
    have o0 : XA.cell? ⟨X1.heap.size, 0, none⟩ = some (.string ⟨(howS c).toArray⟩) := cell_of_blk hkA 0
    have o1 : XA.cell? ⟨X1.heap.size, 1, none⟩ = some (.int .i64 0) := cell_of_blk hkA 1
    have o2 : XA.cell? ⟨X1.heap.size, 2, none⟩ = some (.slice ado s1.out.length co) := cell_of_blk hkA 2
    have o3 : XA.cell? ⟨X1.heap.size, 3, none⟩ = some (.int .i64 (s1.ticks : Int)) := cell_of_blk hkA 3
    have p0 : XA.cell? ⟨w.heap.size, 0, none⟩ = some (.string ⟨#[]⟩) := cell_of_blk hkoA 0
    have p1 : XA.cell? ⟨w.heap.size, 1, none⟩ = some (.int .i64 0) := cell_of_blk hkoA 1
    have p2 : XA.cell? ⟨w.heap.size, 2, none⟩ = some (.slice none 0 0) := cell_of_blk hkoA 2
    have p3 : XA.cell? ⟨w.heap.size, 3, none⟩ = some (.int .i64 0) := cell_of_blk hkoA 3
    have f0 := free_of_blk hkoA 0
    have f1 := free_of_blk hkoA 1
    have f2 := free_of_blk hkoA 2
    have f3 := free_of_blk hkoA 3
    have hx := four_cells hkoA (.string ⟨(howS c).toArray⟩) (.int .i64 0) (.slice ado s1.out.length co) (.int .i64 (s1.ticks : Int))
    have hx0 := cell_of_blk hx 0
    have hx1 := cell_of_blk hx 1
    have hx2 := cell_of_blk hx 2
    have hx3 := cell_of_blk hx 3
    have hownA := owns_below HM1.out.own hbA
    have hown := own_same (w' := ((((XA.setCell ⟨w.heap.size, 0, none⟩ (.string ⟨(howS c).toArray⟩)).setCell ⟨w.heap.size, 1, none⟩ (.int .i64 0)).setCell ⟨w.heap.size, 2, none⟩ (.slice ado s1.out.length co)).setCell ⟨w.heap.size, 3, none⟩ (.int .i64 (s1.ticks : Int)))) hownA (fun b e => by
      have hne : b ≠ w.heap.size := fun e' => row_not hownA hkoA (by decide) (e' ▸ e)
      rw [Below.heap_setCell _ _ _ _ (show b ≠ w.heap.size from hne), Below.heap_setCell _ _ _ _ (show b ≠ w.heap.size from hne), Below.heap_setCell _ _ _ _ (show b ≠ w.heap.size from hne), Below.heap_setCell _ _ _ _ (show b ≠ w.heap.size from hne)])
    have HOW := hidX hown
    have HBA := hidX (bl_trans HB1.out HB1.out.size hbA)
    have hzA : X1.heap.size < XA.heap.size := heap_lt hkA
    clear hx hown hownA hkA hkoA hbA
    go_wp2_with fail
    go_region
    rw [← hXA]
    clear hXA m4 m5 m6
    go_wp2
    exact bodyPost_ret (v := .agg (outC (howS c) 0 (.slice ado s1.out.length co) s1.ticks)) (by simp [results, Tryz.results13, go_sem, hx0, hx1, hx2, hx3, outC]) rfl ⟨(((HBA.out.setCell (Nat.le_refl _) _).setCell (Nat.le_refl _) _).setCell (Nat.le_refl _) _).setCell (Nat.le_refl _) _, ado, co, HOW.out, rfl⟩
  | val v2 s1 =>
    obtain ⟨he, hM1⟩ := h1
    have he1 : v1 = v2 := by injection he with this; injection this
    subst he1
    obtain ⟨ado, co, hov⟩ := own_is hM1.own
    subst hov
    have m4 := hM1.howC
    have m5 : X1.cell? ⟨w.heap.size + 1, 5, none⟩ = some (.slice ado s1.out.length co) := cell_of_blk hM1.blk 5
    have m6 : X1.cell? ⟨w.heap.size + 1, 6, none⟩ = some (.int .i64 (s1.ticks : Int)) := cell_of_blk hM1.blk 6
    have HM1 := hidX hM1
    have hmz := hM1.mlt
    clear hM1 he
    obtain ⟨XA, hXA⟩ : ∃ XA, XA = (X1.alloc (.cells #[.string ⟨#[]⟩, .int .i64 0, .slice ado s1.out.length co, .int .i64 (s1.ticks : Int)] 27)).drew := ⟨_, rfl⟩
    have hbA : Below X1.heap.size X1 XA := by rw [hXA]; (repeat (first | exact Below.refl _ _ | assumption | refine Below.drew ?_ | refine Below.trans ?_ (drewN_below' _ _ _) | refine Below.setCell ?_ (by first | (simp; done) | (simp; omega)) _ | refine Below.alloc ?_ (by first | (simp; done) | (simp; omega)) _))
    have hkA : XA.heap[X1.heap.size]? = some (.cells #[.string ⟨#[]⟩, .int .i64 0, .slice ado s1.out.length co, .int .i64 (s1.ticks : Int)] 27 (0, 0)) := by rw [hXA]; exact heap_alloc_new X1 _
    have hz1 := HZ1.out
    have hkoA := (hbA.block w.heap.size (by omega)).trans HKO1.out
    have n4 : XA.cell? ⟨w.heap.size + 1, 4, none⟩ = some (.string ⟨([] : List UInt8).toArray⟩) := (hbA.cell (p := ⟨w.heap.size + 1, 4, none⟩) hmz).trans m4
    have o0 : XA.cell? ⟨X1.heap.size, 0, none⟩ = some (.string ⟨#[]⟩) := cell_of_blk hkA 0
    have o1 : XA.cell? ⟨X1.heap.size, 1, none⟩ = some (.int .i64 0) := cell_of_blk hkA 1
    have g0 := free_of_blk hkA 0
    have g1 := free_of_blk hkA 1
    have hmn : w.heap.size ≠ X1.heap.size := by omega
    have hkB := blk_setCell (blk_setCell hkA 0 (.string ⟨#[100, 111, 110, 101]⟩)) 1 (.int .i64 v1)
    have hko5 : ((XA.setCell ⟨X1.heap.size, 0, none⟩ (.string ⟨#[100, 111, 110, 101]⟩)).setCell ⟨X1.heap.size, 1, none⟩ (.int .i64 v1)).heap[w.heap.size]? = some (.cells #[.string ⟨#[]⟩, .int .i64 0, .slice none 0 0, .int .i64 0] 27 (0, 0)) := by
      rw [Below.heap_setCell _ _ _ _ (show w.heap.size ≠ X1.heap.size from hmn), Below.heap_setCell _ _ _ _ (show w.heap.size ≠ X1.heap.size from hmn)]
      exact hkoA
    have q0 : ((XA.setCell ⟨X1.heap.size, 0, none⟩ (.string ⟨#[100, 111, 110, 101]⟩)).setCell ⟨X1.heap.size, 1, none⟩ (.int .i64 v1)).cell? ⟨X1.heap.size, 0, none⟩ = some (.string ⟨#[100, 111, 110, 101]⟩) := (cell_of_blk hkB 0).trans (by simp)
    have q1 : ((XA.setCell ⟨X1.heap.size, 0, none⟩ (.string ⟨#[100, 111, 110, 101]⟩)).setCell ⟨X1.heap.size, 1, none⟩ (.int .i64 v1)).cell? ⟨X1.heap.size, 1, none⟩ = some (.int .i64 v1) := (cell_of_blk hkB 1).trans (by simp)
    have q2 : ((XA.setCell ⟨X1.heap.size, 0, none⟩ (.string ⟨#[100, 111, 110, 101]⟩)).setCell ⟨X1.heap.size, 1, none⟩ (.int .i64 v1)).cell? ⟨X1.heap.size, 2, none⟩ = some (.slice ado s1.out.length co) := (cell_of_blk hkB 2).trans (by simp)
    have q3 : ((XA.setCell ⟨X1.heap.size, 0, none⟩ (.string ⟨#[100, 111, 110, 101]⟩)).setCell ⟨X1.heap.size, 1, none⟩ (.int .i64 v1)).cell? ⟨X1.heap.size, 3, none⟩ = some (.int .i64 (s1.ticks : Int)) := (cell_of_blk hkB 3).trans (by simp)
    have p0 : ((XA.setCell ⟨X1.heap.size, 0, none⟩ (.string ⟨#[100, 111, 110, 101]⟩)).setCell ⟨X1.heap.size, 1, none⟩ (.int .i64 v1)).cell? ⟨w.heap.size, 0, none⟩ = some (.string ⟨#[]⟩) := cell_of_blk hko5 0
    have p1 : ((XA.setCell ⟨X1.heap.size, 0, none⟩ (.string ⟨#[100, 111, 110, 101]⟩)).setCell ⟨X1.heap.size, 1, none⟩ (.int .i64 v1)).cell? ⟨w.heap.size, 1, none⟩ = some (.int .i64 0) := cell_of_blk hko5 1
    have p2 : ((XA.setCell ⟨X1.heap.size, 0, none⟩ (.string ⟨#[100, 111, 110, 101]⟩)).setCell ⟨X1.heap.size, 1, none⟩ (.int .i64 v1)).cell? ⟨w.heap.size, 2, none⟩ = some (.slice none 0 0) := cell_of_blk hko5 2
    have p3 : ((XA.setCell ⟨X1.heap.size, 0, none⟩ (.string ⟨#[100, 111, 110, 101]⟩)).setCell ⟨X1.heap.size, 1, none⟩ (.int .i64 v1)).cell? ⟨w.heap.size, 3, none⟩ = some (.int .i64 0) := cell_of_blk hko5 3
    have f0 := free_of_blk hko5 0
    have f1 := free_of_blk hko5 1
    have f2 := free_of_blk hko5 2
    have f3 := free_of_blk hko5 3
    have hx := four_cells hko5 (.string ⟨#[100, 111, 110, 101]⟩) (.int .i64 v1) (.slice ado s1.out.length co) (.int .i64 (s1.ticks : Int))
    have hx0 := cell_of_blk hx 0
    have hx1 := cell_of_blk hx 1
    have hx2 := cell_of_blk hx 2
    have hx3 := cell_of_blk hx 3
    have hownA := owns_below HM1.out.own hbA
    have hown := own_same (w' := ((((((XA.setCell ⟨X1.heap.size, 0, none⟩ (.string ⟨#[100, 111, 110, 101]⟩)).setCell ⟨X1.heap.size, 1, none⟩ (.int .i64 v1)).setCell ⟨w.heap.size, 0, none⟩ (.string ⟨#[100, 111, 110, 101]⟩)).setCell ⟨w.heap.size, 1, none⟩ (.int .i64 v1)).setCell ⟨w.heap.size, 2, none⟩ (.slice ado s1.out.length co)).setCell ⟨w.heap.size, 3, none⟩ (.int .i64 (s1.ticks : Int)))) hownA (fun b e => by
      have hne : b ≠ w.heap.size := fun e' => row_not hownA hkoA (by decide) (e' ▸ e)
      have hne2 : b ≠ X1.heap.size := fun e' => row_not hownA hkA (by decide) (e' ▸ e)
      rw [Below.heap_setCell _ _ _ _ (show b ≠ w.heap.size from hne), Below.heap_setCell _ _ _ _ (show b ≠ w.heap.size from hne), Below.heap_setCell _ _ _ _ (show b ≠ w.heap.size from hne), Below.heap_setCell _ _ _ _ (show b ≠ w.heap.size from hne), Below.heap_setCell _ _ _ _ (show b ≠ X1.heap.size from hne2), Below.heap_setCell _ _ _ _ (show b ≠ X1.heap.size from hne2)])
    have HOW := hidX hown
    have HBA := hidX (bl_trans HB1.out HB1.out.size hbA)
    have hzA : X1.heap.size < XA.heap.size := heap_lt hkA
    have hzl : w.heap.size ≤ X1.heap.size := by omega
    clear hx hown hownA hkA hkoA hbA hkB hko5
    go_wp2_with fail
    go_region
    rw [← hXA]
    clear hXA m4 m5 m6
    go_wp2
    exact bodyPost_ret (v := .agg (outC kDone v1 (.slice ado s1.out.length co) s1.ticks)) (by simp [results, Tryz.results13, go_sem, hx0, hx1, hx2, hx3, outC, kDone]) rfl ⟨(((((HBA.out.setCell hzl _).setCell hzl _).setCell (Nat.le_refl _) _).setCell (Nat.le_refl _) _).setCell (Nat.le_refl _) _).setCell (Nat.le_refl _) _, ado, co, HOW.out, rfl⟩
end Go.Proofs.YtcebpmaggnephacGreatDoor
