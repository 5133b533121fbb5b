/- Our own: texts joined: Code, GrFt, Three. -/
import Derived.Test.YtbcpomdcmilpjaaDoorXAs
import Derived.Test.YtbcpomdcmilpjaaDoorXBaseM
namespace Go.Proofs.YtbcpomdcmilpjaaDoor
open Go.RowKit
def gErr : List Nat := [4, 2, 5, 6, 7, 0, 8, 3, 1, 9]
structure Sents (w : World) (s : Nat → Addr) : Prop where
 glob : ∀ i, i < 10 → w.cell? ⟨gErr.getD i 0, 0, none⟩ = some (sentV (s i))
 row : ∀ i, i < 10 → ∃ c t, w.heap[(s i).block]? = some (.cells c t (0, 0))
 other : ∀ i j, i < 10 → j < 10 → i ≠ j → s i ≠ s j
 handle : w.cell? ⟨10, 0, none⟩ = some (.iface 140 (.agg #[.pointer (some ⟨12, 42, none⟩)]))
theorem Sents.below {w w' : World} {s : Nat → Addr} (h : Sents w s) (hb : Below w.heap.size w w') : Sents w' s where
 glob i hi := by rw [hb.cell (cell_lt (h.glob i hi))]; exact h.glob i hi
 row i hi := by
  obtain ⟨c, t, e⟩ := h.row i hi
  exact ⟨c, t, by rw [hb.block _ (heap_lt e)]; exact e⟩
 other := h.other
 handle := by rw [hb.cell (cell_lt h.handle)]; exact h.handle
end Go.Proofs.YtbcpomdcmilpjaaDoor
namespace Go.Proofs.YtbcpomdcmilpjaaDoor
open Go.RowKit
def FtTo (w : World) (a : Nat → Addr) (r : Nat × Int) (e : Ending) (w' : World) : Prop :=
 Below w.heap.size w w' ∧ if r.1 = 0 then e = .returned .nilIface else if r.2 = -1 then e = .returned (sentV (a (r.1 - 1))) else ∃ b, e = .returned (.iface 86 (.pointer (some ⟨b, 0, none⟩))) ∧ w.heap.size ≤ b ∧ w'.heap[b]? = some (.cells #[.int .i64 r.2, sentV (a (r.1 - 1))] 88 (0, 0))
theorem ft_well {w w' : World} {a : Nat → Addr} {r : Nat × Int} {e : Ending} (h : r.1 = 0) (hb : Below w.heap.size w w') (he : e = .returned .nilIface) : FtTo w a r e w' := ⟨hb, by rw [if_pos h]; exact he⟩
theorem ft_bare {w w' : World} {a : Nat → Addr} {r : Nat × Int} {e : Ending} (h : r.1 ≠ 0) (h2 : r.2 = -1) (hb : Below w.heap.size w w') (he : e = .returned (sentV (a (r.1 - 1)))) : FtTo w a r e w' := ⟨hb, by rw [if_neg h, if_pos h2]; exact he⟩
theorem ft_bad {w w' : World} {a : Nat → Addr} {r : Nat × Int} {e : Ending} {b : Nat} (h : r.1 ≠ 0) (h2 : r.2 ≠ -1) (hb : Below w.heap.size w w') (he : e = .returned (.iface 86 (.pointer (some ⟨b, 0, none⟩)))) (hwb : w.heap.size ≤ b) (hx : w'.heap[b]? = some (.cells #[.int .i64 r.2, sentV (a (r.1 - 1))] 88 (0, 0))) : FtTo w a r e w' :=
 ⟨hb, by rw [if_neg h, if_neg h2]; exact ⟨b, he, hwb, hx⟩⟩
set_option maxRecDepth 100000 in
set_option maxHeartbeats 2000000 in
theorem ft_val {w w' : World} {a : Nat → Addr} {r : Nat × Int} {e : Ending} (h : FtTo w a r e w') : ∃ v, e = .returned v ∧ FtTo w a r (.returned v) w' := by
 obtain ⟨h1, h2⟩ := h
 have : ∃ v, e = .returned v := by
  split at h2
  ·exact ⟨_, h2⟩
  ·split at h2
   ·exact ⟨_, h2⟩
   ·obtain ⟨b, q1, _⟩ := h2; exact ⟨_, q1⟩
 obtain ⟨v, rfl⟩ := this
 exact ⟨v, rfl, h1, h2⟩
end Go.Proofs.YtbcpomdcmilpjaaDoor
namespace Go.Proofs.YtbcpomdcmilpjaaDoor
open Go.RowKit
end Go.Proofs.YtbcpomdcmilpjaaDoor
