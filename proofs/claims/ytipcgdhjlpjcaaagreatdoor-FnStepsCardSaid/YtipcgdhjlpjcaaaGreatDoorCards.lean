/-
  DERIVED. GIVEN WITH THE SEED: THE CARDS: each row of YtipcgdhjlpjcaaaGreatDoorRows.lean that lists a variable, with what it lists TIED to the program's text (the seventh form; the later family's looks); each row that meets fmt, with fmt's text TOLD by the authors' own Lean function (tested against real Go, not proved from fmt's source: count such statements apart). THE CARD IS WHAT COUNTS. Prove the row's statement (the work); the ties are given (YtipcgdhjlpjcaaaGreatDoorTie.lean); close each card by the builder's one call (the guide's Derived/Test/ToyasCard.lean, 'card_holds'). Laid BY PROGRAM, IN A SANDBOX (cutbox-door.mjs). By AI agents, Wed Nov 11 2026. No macro, syntax, notation, axiom, sorry.
-/
import Derived.Test.YtipcgdhjlpjcaaaGreatDoorRows
import GoSem.ClaimSeven
namespace Go.Proofs.YtipcgdhjlpjcaaaGreatDoor
namespace Rows

/-- THE TIED CARD OF 'laws.FnLock'. -/
def fnLockCard : Claim7 := { stood := { row := fnLockRow, standIns := [], harness := (true, "871bb0833a9d5c983dd78be140020bd2c2a8d4ed4ad4c7f12d8ba75d123233e8"), looks := false }, kinds := [], alts := [], laidByText := true, laidKinds := [.data], laidTests := true, laidLooks := .later }
def FnLockCardSaid : Prop := Claim7.holds Tryz.pinned (.plain (OpenSpec.ofChange fnLockSpec)) fnLockCard

/-- THE TIED CARD OF 'laws.FnSteps'. -/
def fnStepsCard : Claim7 := { stood := { row := fnStepsRow, standIns := [], harness := (true, "871bb0833a9d5c983dd78be140020bd2c2a8d4ed4ad4c7f12d8ba75d123233e8"), looks := false }, kinds := [], alts := [], laidByText := true, laidKinds := [.data], laidTests := true, laidLooks := .later }
def FnStepsCardSaid : Prop := Claim7.holds Tryz.pinned (.plain (OpenSpec.ofChange fnStepsSpec)) fnStepsCard

/-- THE SECOND FORM's CARD OF 'laws.FnLock'. -/
def fnLockUptoCard : Claim7 := { stood := { row := fnLockUptoRow, standIns := [], harness := (true, "871bb0833a9d5c983dd78be140020bd2c2a8d4ed4ad4c7f12d8ba75d123233e8"), looks := false }, kinds := [], alts := [], laidByText := true, laidKinds := [.data], laidTests := true, laidLooks := .later }
def FnLockUptoCardSaid : Prop := Claim7.holds Tryz.pinned (.plain (OpenSpec.upto fnLockSpec)) fnLockUptoCard

/-- THE SECOND FORM's CARD OF 'laws.FnSteps'. -/
def fnStepsUptoCard : Claim7 := { stood := { row := fnStepsUptoRow, standIns := [], harness := (true, "871bb0833a9d5c983dd78be140020bd2c2a8d4ed4ad4c7f12d8ba75d123233e8"), looks := false }, kinds := [], alts := [], laidByText := true, laidKinds := [.data], laidTests := true, laidLooks := .later }
def FnStepsUptoCardSaid : Prop := Claim7.holds Tryz.pinned (.plain (OpenSpec.upto fnStepsSpec)) fnStepsUptoCard
end Rows
end Go.Proofs.YtipcgdhjlpjcaaaGreatDoor
