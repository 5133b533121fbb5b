/-
  Our own: the law's own test of package check: a program that is nothing, and one that is not well.
-/
import Derived.Test.YtcebpmaggnephacDoorCheckIn
namespace Go.Proofs.YtcebpmaggnephacDoor
open Go.RowKit Go.Maps

def e0 : Ex := .mk [110, 97, 109, 101] 0 [97] []
def s0 : Sm := .mk [114, 101, 116, 117, 114, 110] [] e0 [] []
def f0 : Fu := ⟨[102], [], [s0]⟩
theorem name_f : nameB [102] = true := by kernel_rfl
theorem name_a : nameB [97] = true := by kernel_rfl
theorem funs0 : funsC [f0] [] [f0] = some (6, 0) := by
  have h1 : exprC [f0] [] e0 = 6 := by
    rw [e0, exprC]
    simp only [List.length_nil, exprsC]
    simp [shapeE, name_a, kName, kNumE, andC]
  have h2 : funC [f0] (([] : List Fu).any fun g => g.name == f0.name) f0 = 6 := by
    simp only [funC, f0, name_f, parsC, Cs.bind, blockC, s0, stmtC]
    simp [shapeS, kVar, kSet, kIf, kWhile, kReturn, kPrint]
    have h3 := h1
    simp only [f0, s0] at h3
    rw [h3]
    simp
  rw [funsC, h2]
  simp
theorem low_f0 : LowF f0 := by
  simp [LowF, f0, s0, e0, LowSs, LowS, LowE, LowEs]
theorem coded_nil (w : World) : Calls Tryd.prog 20 #[.nilIface, .int .i64 0] w fun e w' => e = .returned (.bool true) ∧ w' = w := by
  go_enter Tryd.func20, Tryd.ntmps20
  go_wp2
  go_ret
  exact ⟨rfl, rfl⟩
abbrev ca0 : Array Value := #[.string ⟨#[114, 101, 116, 117, 114, 110]⟩, .string ⟨#[]⟩, .string ⟨#[110, 97, 109, 101]⟩, .int .i64 0, .string ⟨#[97]⟩, .slice none 0 0, .slice none 0 0, .slice none 0 0]
abbrev cb0 (n : Nat) : Array Value := #[.string ⟨#[102]⟩, .slice none 0 0, .slice (some ⟨n, 0, none⟩) 1 1]
abbrev W0 (w : World) : World := (w.alloc (.cells ca0 54)).alloc (.cells (cb0 w.heap.size) 37)
theorem cells_read {w : World} {b : Nat} {cs : Array Value} {t : TypeId} (h : w.heap[b]? = some (.cells cs t (0, 0))) : ∀ j u, cs.toList[j]? = some u → w.cell? ⟨b, 0 + j, none⟩ = some u := by
  intro j u hj
  rw [Nat.zero_add]
  have := cell_of_blk h j
  rw [this]
  simpa using hj
theorem lit_f0 (w : World) : XLF (InH (W0 w)) (W0 w) (.slice (some ⟨w.heap.size + 1, 0, none⟩) 1 1) [f0] := by
  have h1 : (W0 w).heap[w.heap.size]? = some (.cells ca0 54 (0, 0)) := two_new w _ _
  have h2 : (W0 w).heap[w.heap.size + 1]? = some (.cells (cb0 w.heap.size) 37 (0, 0)) := second_new w _ _
  refine ⟨(cb0 w.heap.size).toList, ⟨_, _, rfl, fun _ => ⟨_, _, rfl, heap_lt h2, cells_read h2⟩⟩, ?_⟩
  refine ⟨(cb0 w.heap.size).toList, [], rfl, ?_, rfl⟩
  refine ⟨_, _, ca0.toList, rfl, xrow_nil _ _, ⟨_, _, rfl, fun _ => ⟨_, _, rfl, heap_lt h1, cells_read h1⟩⟩, ?_⟩
  refine ⟨ca0.toList, [], rfl, ?_, rfl⟩
  exact ⟨[.string ⟨#[110, 97, 109, 101]⟩, .int .i64 0, .string ⟨#[97]⟩, .slice none 0 0], _, [], _, [], rfl, ⟨_, [], rfl, xrow_nil _ _, rfl⟩, xrow_nil _ _, rfl, xrow_nil _ _, rfl⟩
set_option maxRecDepth 100000 in
set_option maxHeartbeats 2000000 in
theorem checked_any (a : Nat → Addr) (w : World) (hS : Sents w a) : Calls Tryd.prog 7 #[] w fun e w' => e = .returned (.bool true) ∧ Below w.heap.size w w' := by
  have hb0 : Below w.heap.size w (W0 w) := bl_trans (box_blk _ _ _) (by simp) (box_blk _ _ _)
  have hl0 := lit_f0 w
  have hS0 := hS.below hb0
  have hz0 : (W0 w).heap.size = w.heap.size + 2 := by simp
  generalize hWe : W0 w = W at hb0 hl0 hS0 hz0
  have HW := hidX hWe
  have HL := hidX hl0
  have HSS := hidX hS0
  clear hS hWe hl0 hS0
  go_enter Tryd.func7, Tryd.ntmps7
  go_wp2_with fail
  have hWe := HW.out
  unfold W0 ca0 cb0 at hWe
  rw [hWe]
  clear hWe
  refine (program_any a [] (by simp) (by simp) W HSS.out _ ⟨[], xrow_nil _ _, rfl⟩).mono ?_
  rintro e W1 ⟨hb1, hp⟩
  rw [if_neg (by simp), funsC] at hp
  simp only at hp
  subst hp
  have hz1 := hb1.size
  have hx1 := XLF.imp HL.out (inH_up hb1) (keepH hb1)
  have hS1 := HSS.out.below hb1
  have hpc := program_any a [f0] (by simp) (by simp [low_f0]) W1 hS1 _ hx1
  have HPC := hidX hpc
  have HS1 := hidX hS1
  clear hpc hx1 hS1
  go_wp2_with (first | (go_at_call 20; refine (coded_nil _).mono ?_; rintro e w' ⟨rfl, hh⟩; replace hh := hh.symm; subst hh))
  refine HPC.out.mono ?_
  rintro e W2 ⟨hb2, hp⟩
  rw [if_neg (by simp), funs0] at hp
  simp only at hp
  obtain ⟨_, b, he, _, hx⟩ := hp
  subst he
  have hS2 := HS1.out.below hb2
  have hfa := faulted_fault a 5 (by omega) 6 (by omega) b 0 W2 hS2 hx
  have HFA := hidX hfa
  have HB : Hid (Below w.heap.size w W2) := hb0.trans ((hb1.mono (by omega)).trans (hb2.mono (by omega)))
  clear hfa hS2 hx
  go_wp2_with fail
  refine HFA.out.mono ?_
  rintro e W3 ⟨rfl, hb3⟩
  have hz2 := HB.out.size
  go_wp2
  go_ret
  exact ⟨rfl, HB.out.trans (hb3.mono hz2)⟩
end Go.Proofs.YtcebpmaggnephacDoor
