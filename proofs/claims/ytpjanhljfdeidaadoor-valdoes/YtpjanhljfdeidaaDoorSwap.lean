/-
  Our own: val.Ops and val.Swaps, one contract each.
-/
import Derived.Test.YtpjanhljfdeidaaDoorVal
namespace Go.Proofs.YtpjanhljfdeidaaDoor
open Go.RowKit

theorem byteArray_toList (a : Array UInt8) : (⟨a⟩ : ByteArray).toList = a.toList := by
  rw [ByteArray.toList_eq]
/-- Do an op's numbers change places? -/
def vSwaps (s : ByteArray) : Bool := s.toList == [43] || s.toList == [42] || s.toList == [38] || s.toList == [124] || s.toList == [94] || s.toList == [61, 61] || s.toList == [33, 61]

set_option maxHeartbeats 1000000 in
theorem swaps_any (s : ByteArray) (w : World) : Calls Tryd.prog 21 #[.string s] w fun e w' => e = .returned (.bool (vSwaps s)) ∧ w' = w := by
  go_enter Tryd.func21, Tryd.ntmps21
  go_wp2
  all_goals first
    | (go_ret; refine ⟨?_, rfl⟩; simp [vSwaps, *]; done)
    | (exfalso; simp_all; done)

/-- The world behind the list of all ops. -/
abbrev opsW (w : World) : World := w.alloc (.cells #[.string ⟨#[43]⟩, .string ⟨#[45]⟩, .string ⟨#[42]⟩, .string ⟨#[47]⟩, .string ⟨#[37]⟩, .string ⟨#[38]⟩, .string ⟨#[124]⟩, .string ⟨#[94]⟩, .string ⟨#[60, 60]⟩, .string ⟨#[62, 62]⟩, .string ⟨#[60]⟩, .string ⟨#[60, 61]⟩, .string ⟨#[61, 61]⟩, .string ⟨#[33, 61]⟩] 9)
theorem ops_any (w : World) : Calls Tryd.prog 19 #[] w fun e w' => e = .returned (.slice (some ⟨w.heap.size, 0, none⟩) 14 14) ∧ w' = opsW w := by
  go_enter Tryd.func19, Tryd.ntmps19
  go_wp2
  go_ret
  exact ⟨rfl, rfl⟩
theorem ops_cell (w : World) (k : Nat) (hk : k < 14) : (opsW w).cell? ⟨w.heap.size, k, none⟩ = some (.string (opsTwo.getD k ByteArray.empty)) := by
  match k, hk with
  | 0, _ => simp [opsTwo]
  | 1, _ => simp [opsTwo]
  | 2, _ => simp [opsTwo]
  | 3, _ => simp [opsTwo]
  | 4, _ => simp [opsTwo]
  | 5, _ => simp [opsTwo]
  | 6, _ => simp [opsTwo]
  | 7, _ => simp [opsTwo]
  | 8, _ => simp [opsTwo]
  | 9, _ => simp [opsTwo]
  | 10, _ => simp [opsTwo]
  | 11, _ => simp [opsTwo]
  | 12, _ => simp [opsTwo]
  | 13, _ => simp [opsTwo]
theorem ops_two (k : Nat) (hk : k < 14) : opsTwo.getD k ByteArray.empty ∈ opsTwo := by
  rw [List.getD_eq_getElem?_getD, List.getElem?_eq_getElem (by simpa [opsTwo] using hk)]
  exact List.getElem_mem _

/-- Ops that may be swapped are. -/
theorem swap_same (s : ByteArray) (hs : s ∈ opsTwo) (h : vSwaps s = true) (a b : Int) : (vOp s a b != vOp s b a) = false := by
  simp only [opsTwo, List.mem_cons, List.not_mem_nil, or_false] at hs
  rcases hs with rfl | rfl | rfl | rfl | rfl | rfl | rfl | rfl | rfl | rfl | rfl | rfl | rfl | rfl
  · rw [vOp_add, vOp_add, Int.add_comm]; simp
  · exact absurd h (by simp [vSwaps, byteArray_toList])
  · rw [vOp_mul, vOp_mul, Int.mul_comm]; simp
  · exact absurd h (by simp [vSwaps, byteArray_toList])
  · exact absurd h (by simp [vSwaps, byteArray_toList])
  · rw [vOp_and, vOp_and, and_comm64]; simp
  · rw [vOp_or, vOp_or, or_comm64]; simp
  · rw [vOp_xor, vOp_xor, xor_comm64]; simp
  · exact absurd h (by simp [vSwaps, byteArray_toList])
  · exact absurd h (by simp [vSwaps, byteArray_toList])
  · exact absurd h (by simp [vSwaps, byteArray_toList])
  · exact absurd h (by simp [vSwaps, byteArray_toList])
  · rw [vOp_eq, vOp_eq]; simp [vBit, eq_comm]
  · rw [vOp_ne, vOp_ne]; simp [vBit, eq_comm]
end Go.Proofs.YtpjanhljfdeidaaDoor
