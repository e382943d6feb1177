/-
  DERIVED. GIVEN WITH THE SEED: THE PROGRAM's TIES (one call each: nine closed facts by the kernel) AND EACH ROW's TIE, after the 31st guide's Derived/Test/Toyas{Tie, Card}.lean. No idea stands in it: it is a product of the set-up. Laid BY PROGRAM, IN A SANDBOX (cutbox-door.mjs). By AI agents, Wed Nov 11 2026. No macro, syntax, notation, axiom, sorry.
-/
import Derived.Test.YtbfmbdohebdbaaaGreatDoorRows
import Derived.LaidByTextLater
import Derived.SevenTiedAt
import Derived.LaidSub
import Derived.LaidOnce
namespace Go.Proofs.YtbfmbdohebdbaaaGreatDoor
open Go
set_option maxRecDepth 100000
theorem seatTie1 : Tryz.prog.laidByTextLater [("errors.errorType", Rows.laid_errors_errorType), ("loop.example/g00835/impl.unmixFactors", Rows.laid_loop_example_g00835_impl_unmixFactors), ("loop.example/g00835/impl.mixFactors", Rows.laid_loop_example_g00835_impl_mixFactors), ("loop.example/g00835/impl.errNoFit", Rows.laid_loop_example_g00835_impl_errNoFit)] [.handle, .data, .data, .sentinel] true :=
  Program.laidByTextLater_by_one 45 8 5 (by kernel_rfl) (by kernel_rfl) (by kernel_rfl) (by kernel_rfl) (by kernel_rfl) (by kernel_rfl) (fun _ _ => by kernel_rfl)
theorem noOwnUnsafe : Tryz.pinned.checked.prog.headLifts.contains "ownunsafe" = false := by kernel_rfl
theorem tie : Tryz.prog.laidByTextLater [("errors.errorType", Rows.laid_errors_errorType), ("loop.example/g00835/impl.unmixFactors", Rows.laid_loop_example_g00835_impl_unmixFactors), ("loop.example/g00835/impl.mixFactors", Rows.laid_loop_example_g00835_impl_mixFactors), ("loop.example/g00835/impl.errNoFit", Rows.laid_loop_example_g00835_impl_errNoFit)] [.handle, .data, .data, .sentinel] true :=
  Program.laidByTextLater.sub seatTie1 ["errors.errorType", "loop.example/g00835/impl.unmixFactors", "loop.example/g00835/impl.mixFactors", "loop.example/g00835/impl.errNoFit"] (by kernel_rfl) (by kernel_rfl)
theorem fnWrap_row_tie : Rows.fnWrapRow.laidByTextAt .later Tryz.pinned [.handle, .data, .data, .sentinel] true :=
  OpenClaim.laidByTextAt_later rfl rfl tie noOwnUnsafe
theorem fnUnwrap_row_tie : Rows.fnUnwrapRow.laidByTextAt .later Tryz.pinned [.handle, .data, .data, .sentinel] true :=
  OpenClaim.laidByTextAt_later rfl rfl tie noOwnUnsafe
theorem fnWrapped_row_tie : Rows.fnWrappedRow.laidByTextAt .later Tryz.pinned [.handle, .data, .data, .sentinel] true :=
  OpenClaim.laidByTextAt_later rfl rfl tie noOwnUnsafe
theorem fnExactUnwrap_row_tie : Rows.fnExactUnwrapRow.laidByTextAt .later Tryz.pinned [.handle, .data, .data, .sentinel] true :=
  OpenClaim.laidByTextAt_later rfl rfl tie noOwnUnsafe
theorem tie2 : Tryz.prog.laidByTextLater [("errors.errorType", Rows.laid_errors_errorType), ("loop.example/g00835/impl.mixFactors", Rows.laid_loop_example_g00835_impl_mixFactors), ("loop.example/g00835/impl.errNoFit", Rows.laid_loop_example_g00835_impl_errNoFit)] [.handle, .data, .sentinel] true :=
  Program.laidByTextLater.sub seatTie1 ["errors.errorType", "loop.example/g00835/impl.mixFactors", "loop.example/g00835/impl.errNoFit"] (by kernel_rfl) (by kernel_rfl)
theorem fnExactWrap_row_tie : Rows.fnExactWrapRow.laidByTextAt .later Tryz.pinned [.handle, .data, .sentinel] true :=
  OpenClaim.laidByTextAt_later rfl rfl tie2 noOwnUnsafe
theorem fnWrapUpto_row_tie : Rows.fnWrapUptoRow.laidByTextAt .later Tryz.pinned [.handle, .data, .data, .sentinel] true :=
  OpenClaim.laidByTextAt_later rfl rfl tie noOwnUnsafe
theorem fnUnwrapUpto_row_tie : Rows.fnUnwrapUptoRow.laidByTextAt .later Tryz.pinned [.handle, .data, .data, .sentinel] true :=
  OpenClaim.laidByTextAt_later rfl rfl tie noOwnUnsafe
theorem fnWrappedUpto_row_tie : Rows.fnWrappedUptoRow.laidByTextAt .later Tryz.pinned [.handle, .data, .data, .sentinel] true :=
  OpenClaim.laidByTextAt_later rfl rfl tie noOwnUnsafe
theorem fnExactWrapUpto_row_tie : Rows.fnExactWrapUptoRow.laidByTextAt .later Tryz.pinned [.handle, .data, .sentinel] true :=
  OpenClaim.laidByTextAt_later rfl rfl tie2 noOwnUnsafe
theorem fnExactUnwrapUpto_row_tie : Rows.fnExactUnwrapUptoRow.laidByTextAt .later Tryz.pinned [.handle, .data, .data, .sentinel] true :=
  OpenClaim.laidByTextAt_later rfl rfl tie noOwnUnsafe
end Go.Proofs.YtbfmbdohebdbaaaGreatDoor
