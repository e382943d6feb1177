/-
  DERIVED. GIVEN WITH THE SEED: THE CARDS: each row of YtkklkcajllpjpaaDoorRows.lean that lists a variable, with what it lists TIED to the program's text (the seventh form; the later family's looks); each row that meets fmt, with fmt's text TOLD by the authors' own Lean function (tested against real Go, not proved from fmt's source: count such statements apart). THE CARD IS WHAT COUNTS. Prove the row's statement (the work); the ties are given (YtkklkcajllpjpaaDoorTie.lean); close each card by the builder's one call (the guide's Derived/Test/ToyasCard.lean, 'card_holds'). Laid BY PROGRAM, IN A SANDBOX (cutbox-door.mjs). By AI agents, Wed Nov 11 2026. No macro, syntax, notation, axiom, sorry.
-/
import Derived.Test.YtkklkcajllpjpaaDoorRows
import GoSem.ClaimSeven
namespace Go.Proofs.YtkklkcajllpjpaaDoor
namespace Rows

/-- THE TIED CARD OF 'laws.FnEqual'. -/
def fnEqualCard : Claim7 := { stood := { row := fnEqualRow, standIns := [], harness := (true, "48cffa10fee2fe259dde1c1c97af5ec0d79bc36e57227a4d0a23d5643dfef5fe"), looks := false }, kinds := [], alts := [], laidByText := true, laidKinds := [.data], laidTests := true, laidLooks := .later }
def FnEqualCardSaid : Prop := Claim7.holds Tryd.pinned (.plain (OpenSpec.ofChange fnEqualSpec)) fnEqualCard

/-- THE TIED CARD OF 'laws.FnExactLockTable'. -/
def fnExactLockTableCard : Claim7 := { stood := { row := fnExactLockTableRow, standIns := [], harness := (true, "48cffa10fee2fe259dde1c1c97af5ec0d79bc36e57227a4d0a23d5643dfef5fe"), looks := false }, kinds := [], alts := [], laidByText := true, laidKinds := [.data], laidTests := true, laidLooks := .later }
def FnExactLockTableCardSaid : Prop := Claim7.holds Tryd.pinned (.plain (OpenSpec.ofChange fnExactLockTableSpec)) fnExactLockTableCard

/-- THE TIED CARD OF 'laws.FnExactUnlockTable'. -/
def fnExactUnlockTableCard : Claim7 := { stood := { row := fnExactUnlockTableRow, standIns := [], harness := (true, "48cffa10fee2fe259dde1c1c97af5ec0d79bc36e57227a4d0a23d5643dfef5fe"), looks := false }, kinds := [], alts := [], laidByText := true, laidKinds := [.data], laidTests := true, laidLooks := .later }
def FnExactUnlockTableCardSaid : Prop := Claim7.holds Tryd.pinned (.plain (OpenSpec.ofChange fnExactUnlockTableSpec)) fnExactUnlockTableCard

/-- THE SECOND FORM's CARD OF 'laws.FnEqual'. -/
def fnEqualUptoCard : Claim7 := { stood := { row := fnEqualUptoRow, standIns := [], harness := (true, "48cffa10fee2fe259dde1c1c97af5ec0d79bc36e57227a4d0a23d5643dfef5fe"), looks := false }, kinds := [], alts := [], laidByText := true, laidKinds := [.data], laidTests := true, laidLooks := .later }
def FnEqualUptoCardSaid : Prop := Claim7.holds Tryd.pinned (.plain (OpenSpec.upto fnEqualSpec)) fnEqualUptoCard

/-- THE SECOND FORM's CARD OF 'laws.FnExactLockTable'. -/
def fnExactLockTableUptoCard : Claim7 := { stood := { row := fnExactLockTableUptoRow, standIns := [], harness := (true, "48cffa10fee2fe259dde1c1c97af5ec0d79bc36e57227a4d0a23d5643dfef5fe"), looks := false }, kinds := [], alts := [], laidByText := true, laidKinds := [.data], laidTests := true, laidLooks := .later }
def FnExactLockTableUptoCardSaid : Prop := Claim7.holds Tryd.pinned (.plain (OpenSpec.upto fnExactLockTableSpec)) fnExactLockTableUptoCard

/-- THE SECOND FORM's CARD OF 'laws.FnExactUnlockTable'. -/
def fnExactUnlockTableUptoCard : Claim7 := { stood := { row := fnExactUnlockTableUptoRow, standIns := [], harness := (true, "48cffa10fee2fe259dde1c1c97af5ec0d79bc36e57227a4d0a23d5643dfef5fe"), looks := false }, kinds := [], alts := [], laidByText := true, laidKinds := [.data], laidTests := true, laidLooks := .later }
def FnExactUnlockTableUptoCardSaid : Prop := Claim7.holds Tryd.pinned (.plain (OpenSpec.upto fnExactUnlockTableSpec)) fnExactUnlockTableUptoCard
end Rows
end Go.Proofs.YtkklkcajllpjpaaDoor
