/-
  DERIVED. GIVEN WITH THE SEED: THE CARDS: each row of YtkbnnlhilnnpeabDoorRows.lean that lists a variable, with what it lists TIED to the program's text (the seventh form; the later family's looks); each row that meets fmt, with fmt's text TOLD by the authors' own Lean function (tested against real Go, not proved from fmt's source: count such statements apart). THE CARD IS WHAT COUNTS. Prove the row's statement (the work); the ties are given (YtkbnnlhilnnpeabDoorTie.lean); close each card by the builder's one call (the guide's Derived/Test/ToyasCard.lean, 'card_holds'). Laid BY PROGRAM, IN A SANDBOX (cutbox-door.mjs). By AI agents, Wed Nov 11 2026. No macro, syntax, notation, axiom, sorry.
-/
import Derived.Test.YtkbnnlhilnnpeabDoorRows
import GoSem.ClaimSeven
namespace Go.Proofs.YtkbnnlhilnnpeabDoor
namespace Rows

/-- THE TIED CARD OF 'laws.FnExactTableRound'. -/
def fnExactTableRoundCard : Claim7 := { stood := { row := fnExactTableRoundRow, standIns := [], harness := (true, "40ba1a0a5363e6c79a07b921bad645e8515a4dcb8952b5cbca8846ad6613afe4"), looks := false }, kinds := [], alts := [], laidByText := true, laidKinds := [.data], laidTests := true, laidLooks := .later }
def FnExactTableRoundCardSaid : Prop := Claim7.holds Tryd.pinned (.plain (OpenSpec.ofChange fnExactTableRoundSpec)) fnExactTableRoundCard

/-- THE TIED CARD OF 'laws.FnExactLockTable'. -/
def fnExactLockTableCard : Claim7 := { stood := { row := fnExactLockTableRow, standIns := [], harness := (true, "40ba1a0a5363e6c79a07b921bad645e8515a4dcb8952b5cbca8846ad6613afe4"), looks := false }, kinds := [], alts := [], laidByText := true, laidKinds := [.data], laidTests := true, laidLooks := .later }
def FnExactLockTableCardSaid : Prop := Claim7.holds Tryd.pinned (.plain (OpenSpec.ofChange fnExactLockTableSpec)) fnExactLockTableCard

/-- THE TIED CARD OF 'laws.FnExactUnlockTable'. -/
def fnExactUnlockTableCard : Claim7 := { stood := { row := fnExactUnlockTableRow, standIns := [], harness := (true, "40ba1a0a5363e6c79a07b921bad645e8515a4dcb8952b5cbca8846ad6613afe4"), looks := false }, kinds := [], alts := [], laidByText := true, laidKinds := [.data], laidTests := true, laidLooks := .later }
def FnExactUnlockTableCardSaid : Prop := Claim7.holds Tryd.pinned (.plain (OpenSpec.ofChange fnExactUnlockTableSpec)) fnExactUnlockTableCard

/-- THE SECOND FORM's CARD OF 'laws.FnExactTableRound'. -/
def fnExactTableRoundUptoCard : Claim7 := { stood := { row := fnExactTableRoundUptoRow, standIns := [], harness := (true, "40ba1a0a5363e6c79a07b921bad645e8515a4dcb8952b5cbca8846ad6613afe4"), looks := false }, kinds := [], alts := [], laidByText := true, laidKinds := [.data], laidTests := true, laidLooks := .later }
def FnExactTableRoundUptoCardSaid : Prop := Claim7.holds Tryd.pinned (.plain (OpenSpec.upto fnExactTableRoundSpec)) fnExactTableRoundUptoCard

/-- THE SECOND FORM's CARD OF 'laws.FnExactLockTable'. -/
def fnExactLockTableUptoCard : Claim7 := { stood := { row := fnExactLockTableUptoRow, standIns := [], harness := (true, "40ba1a0a5363e6c79a07b921bad645e8515a4dcb8952b5cbca8846ad6613afe4"), looks := false }, kinds := [], alts := [], laidByText := true, laidKinds := [.data], laidTests := true, laidLooks := .later }
def FnExactLockTableUptoCardSaid : Prop := Claim7.holds Tryd.pinned (.plain (OpenSpec.upto fnExactLockTableSpec)) fnExactLockTableUptoCard

/-- THE SECOND FORM's CARD OF 'laws.FnExactUnlockTable'. -/
def fnExactUnlockTableUptoCard : Claim7 := { stood := { row := fnExactUnlockTableUptoRow, standIns := [], harness := (true, "40ba1a0a5363e6c79a07b921bad645e8515a4dcb8952b5cbca8846ad6613afe4"), looks := false }, kinds := [], alts := [], laidByText := true, laidKinds := [.data], laidTests := true, laidLooks := .later }
def FnExactUnlockTableUptoCardSaid : Prop := Claim7.holds Tryd.pinned (.plain (OpenSpec.upto fnExactUnlockTableSpec)) fnExactUnlockTableUptoCard
end Rows
end Go.Proofs.YtkbnnlhilnnpeabDoor
