/-
  DERIVED. GIVEN WITH THE SEED: THE PROGRAM's TIES (one call each: nine closed facts by the kernel) AND EACH ROW's TIE, after the 31st guide's Derived/Test/Toyas{Tie, Card}.lean. No idea stands in it: it is a product of the set-up. Laid BY PROGRAM, IN A SANDBOX (cutbox-door.mjs). By AI agents, Wed Nov 11 2026. No macro, syntax, notation, axiom, sorry.
-/
import Derived.Test.YtbgjeipgmlcgaaaDoorRows
import Derived.LaidByTextLater
import Derived.SevenTiedAt
import Derived.LaidSub
import Derived.LaidOnce
namespace Go.Proofs.YtbgjeipgmlcgaaaDoor
open Go
set_option maxRecDepth 100000
theorem seatTie1 : Tryd.prog.laidByTextLater [("loop.example/g00835/impl.unmixFactors", Rows.laid_loop_example_g00835_impl_unmixFactors), ("loop.example/g00835/impl.mixFactors", Rows.laid_loop_example_g00835_impl_mixFactors)] [.data, .data] true :=
  Program.laidByTextLater_by_one 19 8 5 (by kernel_rfl) (by kernel_rfl) (by kernel_rfl) (by kernel_rfl) (by kernel_rfl) (by kernel_rfl) (fun _ _ => by kernel_rfl)
theorem noOwnUnsafe : Tryd.pinned.checked.prog.headLifts.contains "ownunsafe" = false := by kernel_rfl
theorem tie : Tryd.prog.laidByTextLater [("loop.example/g00835/impl.unmixFactors", Rows.laid_loop_example_g00835_impl_unmixFactors), ("loop.example/g00835/impl.mixFactors", Rows.laid_loop_example_g00835_impl_mixFactors)] [.data, .data] true :=
  Program.laidByTextLater.sub seatTie1 ["loop.example/g00835/impl.unmixFactors", "loop.example/g00835/impl.mixFactors"] (by kernel_rfl) (by kernel_rfl)
theorem fnUnmixed_row_tie : Rows.fnUnmixedRow.laidByTextAt .later Tryd.pinned [.data, .data] true :=
  OpenClaim.laidByTextAt_later rfl rfl tie noOwnUnsafe
theorem tie2 : Tryd.prog.laidByTextLater [("loop.example/g00835/impl.mixFactors", Rows.laid_loop_example_g00835_impl_mixFactors)] [.data] true :=
  Program.laidByTextLater.sub seatTie1 ["loop.example/g00835/impl.mixFactors"] (by kernel_rfl) (by kernel_rfl)
theorem fnColumns_row_tie : Rows.fnColumnsRow.laidByTextAt .later Tryd.pinned [.data] true :=
  OpenClaim.laidByTextAt_later rfl rfl tie2 noOwnUnsafe
theorem fnMix_row_tie : Rows.fnMixRow.laidByTextAt .later Tryd.pinned [.data] true :=
  OpenClaim.laidByTextAt_later rfl rfl tie2 noOwnUnsafe
theorem fnExactMixColumns_row_tie : Rows.fnExactMixColumnsRow.laidByTextAt .later Tryd.pinned [.data] true :=
  OpenClaim.laidByTextAt_later rfl rfl tie2 noOwnUnsafe
theorem fnExactUnmixColumns_row_tie : Rows.fnExactUnmixColumnsRow.laidByTextAt .later Tryd.pinned [.data] true :=
  OpenClaim.laidByTextAt_later rfl rfl tie2 noOwnUnsafe
theorem tie3 : Tryd.prog.laidByTextLater [("loop.example/g00835/impl.unmixFactors", Rows.laid_loop_example_g00835_impl_unmixFactors)] [.data] true :=
  Program.laidByTextLater.sub seatTie1 ["loop.example/g00835/impl.unmixFactors"] (by kernel_rfl) (by kernel_rfl)
theorem fnExactUnmixed_row_tie : Rows.fnExactUnmixedRow.laidByTextAt .later Tryd.pinned [.data] true :=
  OpenClaim.laidByTextAt_later rfl rfl tie3 noOwnUnsafe
theorem fnUnmixedUpto_row_tie : Rows.fnUnmixedUptoRow.laidByTextAt .later Tryd.pinned [.data, .data] true :=
  OpenClaim.laidByTextAt_later rfl rfl tie noOwnUnsafe
theorem fnColumnsUpto_row_tie : Rows.fnColumnsUptoRow.laidByTextAt .later Tryd.pinned [.data] true :=
  OpenClaim.laidByTextAt_later rfl rfl tie2 noOwnUnsafe
theorem fnMixUpto_row_tie : Rows.fnMixUptoRow.laidByTextAt .later Tryd.pinned [.data] true :=
  OpenClaim.laidByTextAt_later rfl rfl tie2 noOwnUnsafe
theorem fnExactUnmixedUpto_row_tie : Rows.fnExactUnmixedUptoRow.laidByTextAt .later Tryd.pinned [.data] true :=
  OpenClaim.laidByTextAt_later rfl rfl tie3 noOwnUnsafe
theorem fnExactMixColumnsUpto_row_tie : Rows.fnExactMixColumnsUptoRow.laidByTextAt .later Tryd.pinned [.data] true :=
  OpenClaim.laidByTextAt_later rfl rfl tie2 noOwnUnsafe
theorem fnExactUnmixColumnsUpto_row_tie : Rows.fnExactUnmixColumnsUptoRow.laidByTextAt .later Tryd.pinned [.data] true :=
  OpenClaim.laidByTextAt_later rfl rfl tie2 noOwnUnsafe
end Go.Proofs.YtbgjeipgmlcgaaaDoor
