/- Our own: texts joined: Errs, As, Code. -/
import Derived.Test.YtlgejjmdanmglaaGreatDoorProg
import Derived.WalkKit
import Derived.LaidEql
import Derived.Stop.Asserts
import Derived.RowKitTokens
import Derived.Test.YtlgejjmdanmglaaGreatDoorVBase
namespace Go.Proofs.YtlgejjmdanmglaaGreatDoor
open Go.RowKit Go.Extern.Stop Go.Stop Go.Extern
end Go.Proofs.YtlgejjmdanmglaaGreatDoor
namespace Go.Proofs.YtlgejjmdanmglaaGreatDoor
open Go.RowKit Go.Extern.Stop Go.Stop Go.Extern
end Go.Proofs.YtlgejjmdanmglaaGreatDoor
namespace Go.Proofs.YtlgejjmdanmglaaGreatDoor
open Go.RowKit
def gErr : List Nat := [3, 4, 1, 5, 6, 7, 8, 0, 2, 9]
structure Sents (w : World) (s : Nat → Addr) : Prop where
 glob : ∀ i, i < 10 → w.cell? ⟨gErr.getD i 0, 0, none⟩ = some (sentV (s i))
 row : ∀ i, i < 10 → ∃ c t, w.heap[(s i).block]? = some (.cells c t (0, 0))
 other : ∀ i j, i < 10 → j < 10 → i ≠ j → s i ≠ s j
 handle : w.cell? ⟨10, 0, none⟩ = some (.iface 168 (.agg #[.pointer (some ⟨13, 36, none⟩)]))
theorem Sents.below {w w' : World} {s : Nat → Addr} (h : Sents w s) (hb : Below w.heap.size w w') : Sents w' s where
 glob i hi := by rw [hb.cell (cell_lt (h.glob i hi))]; exact h.glob i hi
 row i hi := by
  obtain ⟨c, t, e⟩ := h.row i hi
  exact ⟨c, t, by rw [hb.block _ (heap_lt e)]; exact e⟩
 other := h.other
 handle := by rw [hb.cell (cell_lt h.handle)]; exact h.handle
theorem code_nil (w : World) : Calls Tryz.prog 27 #[.nilIface] w fun e w' => e = .returned (.tuple #[.int .i64 0, .int .i64 (-1)]) ∧ w' = w := by
 go_enter Tryz.func27, Tryz.ntmps27
 go_wp2
 go_ret2
 exact ⟨rfl, rfl⟩
end Go.Proofs.YtlgejjmdanmglaaGreatDoor
