/-
  DERIVED. GIVEN WITH THE SEED: THE PROGRAM's TIES (one call each: nine closed facts by the kernel) AND EACH ROW's TIE, after the 31st guide's Derived/Test/Toyas{Tie, Card}.lean. No idea stands in it: it is a product of the set-up. Laid BY PROGRAM, IN A SANDBOX (cutbox-door.mjs). By AI agents, Wed Nov 11 2026. No macro, syntax, notation, axiom, sorry.
-/
import Derived.Test.YtbcpomdcmilpjaaDoorRows
import Derived.LaidByTextLater
import Derived.SevenTiedAt
import Derived.LaidSub
import Derived.LaidOnce
namespace Go.Proofs.YtbcpomdcmilpjaaDoor
open Go
set_option maxRecDepth 100000
theorem seatTie1 : Tryd.prog.laidByTextLater [("errors.errorType", Rows.laid_errors_errorType), ("kelpforest/api.ErrText", Rows.laid_kelpforest_api_ErrText), ("kelpforest/api.ErrBound", Rows.laid_kelpforest_api_ErrBound), ("kelpforest/api.ErrShape", Rows.laid_kelpforest_api_ErrShape), ("kelpforest/api.ErrKind", Rows.laid_kelpforest_api_ErrKind), ("kelpforest/api.ErrName", Rows.laid_kelpforest_api_ErrName), ("kelpforest/api.ErrNone", Rows.laid_kelpforest_api_ErrNone), ("kelpforest/api.ErrExist", Rows.laid_kelpforest_api_ErrExist), ("kelpforest/api.ErrFull", Rows.laid_kelpforest_api_ErrFull), ("kelpforest/api.ErrArgs", Rows.laid_kelpforest_api_ErrArgs), ("kelpforest/api.ErrDeep", Rows.laid_kelpforest_api_ErrDeep), ("kelpforest/code.ops", Rows.laid_kelpforest_code_ops)] [.handle, .sentinel, .sentinel, .sentinel, .sentinel, .sentinel, .sentinel, .sentinel, .sentinel, .sentinel, .sentinel, .data] true :=
  Program.laidByTextLater_by_one 240 8 204 (by kernel_rfl) (by kernel_rfl) (by kernel_rfl) (by kernel_rfl) (by kernel_rfl) (by kernel_rfl) (fun _ _ => by kernel_rfl)
theorem noOwnUnsafe : Tryd.pinned.checked.prog.headLifts.contains "ownunsafe" = false := by kernel_rfl
theorem tie : Tryd.prog.laidByTextLater [("errors.errorType", Rows.laid_errors_errorType), ("kelpforest/api.ErrText", Rows.laid_kelpforest_api_ErrText), ("kelpforest/api.ErrBound", Rows.laid_kelpforest_api_ErrBound), ("kelpforest/api.ErrShape", Rows.laid_kelpforest_api_ErrShape), ("kelpforest/api.ErrKind", Rows.laid_kelpforest_api_ErrKind), ("kelpforest/api.ErrName", Rows.laid_kelpforest_api_ErrName), ("kelpforest/api.ErrNone", Rows.laid_kelpforest_api_ErrNone), ("kelpforest/api.ErrExist", Rows.laid_kelpforest_api_ErrExist), ("kelpforest/api.ErrFull", Rows.laid_kelpforest_api_ErrFull), ("kelpforest/api.ErrArgs", Rows.laid_kelpforest_api_ErrArgs), ("kelpforest/api.ErrDeep", Rows.laid_kelpforest_api_ErrDeep), ("kelpforest/code.ops", Rows.laid_kelpforest_code_ops)] [.handle, .sentinel, .sentinel, .sentinel, .sentinel, .sentinel, .sentinel, .sentinel, .sentinel, .sentinel, .sentinel, .data] true :=
  Program.laidByTextLater.sub seatTie1 ["errors.errorType", "kelpforest/api.ErrText", "kelpforest/api.ErrBound", "kelpforest/api.ErrShape", "kelpforest/api.ErrKind", "kelpforest/api.ErrName", "kelpforest/api.ErrNone", "kelpforest/api.ErrExist", "kelpforest/api.ErrFull", "kelpforest/api.ErrArgs", "kelpforest/api.ErrDeep", "kelpforest/code.ops"] (by kernel_rfl) (by kernel_rfl)
theorem machRuns_row_tie : Rows.machRunsRow.laidByTextAt .later Tryd.pinned [.handle, .sentinel, .sentinel, .sentinel, .sentinel, .sentinel, .sentinel, .sentinel, .sentinel, .sentinel, .sentinel, .data] true :=
  OpenClaim.laidByTextAt_later rfl rfl tie noOwnUnsafe
theorem tie2 : Tryd.prog.laidByTextLater [("kelpforest/api.ErrBound", Rows.laid_kelpforest_api_ErrBound), ("kelpforest/api.ErrShape", Rows.laid_kelpforest_api_ErrShape), ("kelpforest/api.ErrKind", Rows.laid_kelpforest_api_ErrKind), ("kelpforest/api.ErrName", Rows.laid_kelpforest_api_ErrName), ("kelpforest/api.ErrNone", Rows.laid_kelpforest_api_ErrNone), ("kelpforest/api.ErrFull", Rows.laid_kelpforest_api_ErrFull), ("kelpforest/api.ErrArgs", Rows.laid_kelpforest_api_ErrArgs), ("kelpforest/code.ops", Rows.laid_kelpforest_code_ops)] [.sentinel, .sentinel, .sentinel, .sentinel, .sentinel, .sentinel, .sentinel, .data] true :=
  Program.laidByTextLater.sub seatTie1 ["kelpforest/api.ErrBound", "kelpforest/api.ErrShape", "kelpforest/api.ErrKind", "kelpforest/api.ErrName", "kelpforest/api.ErrNone", "kelpforest/api.ErrFull", "kelpforest/api.ErrArgs", "kelpforest/code.ops"] (by kernel_rfl) (by kernel_rfl)
theorem machMore_row_tie : Rows.machMoreRow.laidByTextAt .later Tryd.pinned [.sentinel, .sentinel, .sentinel, .sentinel, .sentinel, .sentinel, .sentinel, .data] true :=
  OpenClaim.laidByTextAt_later rfl rfl tie2 noOwnUnsafe
theorem machApart_row_tie : Rows.machApartRow.laidByTextAt .later Tryd.pinned [.sentinel, .sentinel, .sentinel, .sentinel, .sentinel, .sentinel, .sentinel, .data] true :=
  OpenClaim.laidByTextAt_later rfl rfl tie2 noOwnUnsafe
theorem machRunsUpto_row_tie : Rows.machRunsUptoRow.laidByTextAt .later Tryd.pinned [.handle, .sentinel, .sentinel, .sentinel, .sentinel, .sentinel, .sentinel, .sentinel, .sentinel, .sentinel, .sentinel, .data] true :=
  OpenClaim.laidByTextAt_later rfl rfl tie noOwnUnsafe
theorem machMoreUpto_row_tie : Rows.machMoreUptoRow.laidByTextAt .later Tryd.pinned [.sentinel, .sentinel, .sentinel, .sentinel, .sentinel, .sentinel, .sentinel, .data] true :=
  OpenClaim.laidByTextAt_later rfl rfl tie2 noOwnUnsafe
theorem machApartUpto_row_tie : Rows.machApartUptoRow.laidByTextAt .later Tryd.pinned [.sentinel, .sentinel, .sentinel, .sentinel, .sentinel, .sentinel, .sentinel, .data] true :=
  OpenClaim.laidByTextAt_later rfl rfl tie2 noOwnUnsafe
end Go.Proofs.YtbcpomdcmilpjaaDoor
