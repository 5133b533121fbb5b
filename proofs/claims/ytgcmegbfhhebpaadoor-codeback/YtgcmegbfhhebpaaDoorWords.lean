/-
  Our own: small words of texts and truths.
-/
import Derived.WalkKit
namespace Go.Proofs.YtgcmegbfhhebpaaDoor
open Go.RowKit

theorem ret_bool {a b : Bool} (h : a = b) : Ending.returned (.bool a) = .returned (.bool b) := by rw [h]
def twosE : List (List UInt8) := [[43], [45], [42], [47], [37], [38], [124], [94], [60, 60], [62, 62], [60], [60, 61], [61, 61], [33, 61]]
def onesE : List (List UInt8) := [[45], [33]]
theorem ne_lit {k : List UInt8} {l : List UInt8} (h : ¬ k = l) : (k == l) = false := by simpa using h
theorem nil_lit {m : List UInt8} (h : ¬ m = []) : m.isEmpty = false := by cases m with | nil => exact absurd rfl h | cons => rfl
end Go.Proofs.YtgcmegbfhhebpaaDoor
