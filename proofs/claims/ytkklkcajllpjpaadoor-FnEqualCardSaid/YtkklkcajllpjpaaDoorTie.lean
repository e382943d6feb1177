/-
  DERIVED. GIVEN WITH THE SEED: THE PROGRAM's TIES (one call each: nine closed facts by the kernel) AND EACH ROW's TIE, after the 31st guide's Derived/Test/Toyas{Tie, Card}.lean. No idea stands in it: it is a product of the set-up. Laid BY PROGRAM, IN A SANDBOX (cutbox-door.mjs). By AI agents, Wed Nov 11 2026. No macro, syntax, notation, axiom, sorry.
-/
import Derived.Test.YtkklkcajllpjpaaDoorRows
import Derived.LaidByTextLater
import Derived.SevenTiedAt
import Derived.LaidSub
import Derived.LaidOnce
namespace Go.Proofs.YtkklkcajllpjpaaDoor
open Go
set_option maxRecDepth 100000
theorem seatTie1 : Tryd.prog.laidByTextLater [("loop.example/g00835/impl.unmixFactors", Rows.laid_loop_example_g00835_impl_unmixFactors), ("loop.example/g00835/impl.mixFactors", Rows.laid_loop_example_g00835_impl_mixFactors)] [.data, .data] true :=
  Program.laidByTextLater_by_one 19 8 5 (by kernel_rfl) (by kernel_rfl) (by kernel_rfl) (by kernel_rfl) (by kernel_rfl) (by kernel_rfl) (fun _ _ => by kernel_rfl)
theorem noOwnUnsafe : Tryd.pinned.checked.prog.headLifts.contains "ownunsafe" = false := by kernel_rfl
theorem tie : Tryd.prog.laidByTextLater [("loop.example/g00835/impl.unmixFactors", Rows.laid_loop_example_g00835_impl_unmixFactors)] [.data] true :=
  Program.laidByTextLater.sub seatTie1 ["loop.example/g00835/impl.unmixFactors"] (by kernel_rfl) (by kernel_rfl)
theorem fnEqual_row_tie : Rows.fnEqualRow.laidByTextAt .later Tryd.pinned [.data] true :=
  OpenClaim.laidByTextAt_later rfl rfl tie noOwnUnsafe
theorem fnExactUnlockTable_row_tie : Rows.fnExactUnlockTableRow.laidByTextAt .later Tryd.pinned [.data] true :=
  OpenClaim.laidByTextAt_later rfl rfl tie noOwnUnsafe
theorem tie2 : Tryd.prog.laidByTextLater [("loop.example/g00835/impl.mixFactors", Rows.laid_loop_example_g00835_impl_mixFactors)] [.data] true :=
  Program.laidByTextLater.sub seatTie1 ["loop.example/g00835/impl.mixFactors"] (by kernel_rfl) (by kernel_rfl)
theorem fnExactLockTable_row_tie : Rows.fnExactLockTableRow.laidByTextAt .later Tryd.pinned [.data] true :=
  OpenClaim.laidByTextAt_later rfl rfl tie2 noOwnUnsafe
theorem fnEqualUpto_row_tie : Rows.fnEqualUptoRow.laidByTextAt .later Tryd.pinned [.data] true :=
  OpenClaim.laidByTextAt_later rfl rfl tie noOwnUnsafe
theorem fnExactLockTableUpto_row_tie : Rows.fnExactLockTableUptoRow.laidByTextAt .later Tryd.pinned [.data] true :=
  OpenClaim.laidByTextAt_later rfl rfl tie2 noOwnUnsafe
theorem fnExactUnlockTableUpto_row_tie : Rows.fnExactUnlockTableUptoRow.laidByTextAt .later Tryd.pinned [.data] true :=
  OpenClaim.laidByTextAt_later rfl rfl tie noOwnUnsafe
end Go.Proofs.YtkklkcajllpjpaaDoor
