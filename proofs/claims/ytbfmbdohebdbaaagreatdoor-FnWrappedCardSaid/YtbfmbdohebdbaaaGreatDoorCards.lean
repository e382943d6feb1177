/-
  DERIVED. GIVEN WITH THE SEED: THE CARDS: each row of YtbfmbdohebdbaaaGreatDoorRows.lean that lists a variable, with what it lists TIED to the program's text (the seventh form; the later family's looks); each row that meets fmt, with fmt's text TOLD by the authors' own Lean function (tested against real Go, not proved from fmt's source: count such statements apart). THE CARD IS WHAT COUNTS. Prove the row's statement (the work); the ties are given (YtbfmbdohebdbaaaGreatDoorTie.lean); close each card by the builder's one call (the guide's Derived/Test/ToyasCard.lean, 'card_holds'). Laid BY PROGRAM, IN A SANDBOX (cutbox-door.mjs). By AI agents, Wed Nov 11 2026. No macro, syntax, notation, axiom, sorry.
-/
import Derived.Test.YtbfmbdohebdbaaaGreatDoorRows
import GoSem.ClaimSeven
namespace Go.Proofs.YtbfmbdohebdbaaaGreatDoor
namespace Rows

/-- THE TIED CARD OF 'laws.FnWrap'. -/
def fnWrapCard : Claim7 := { stood := { row := fnWrapRow, standIns := [], harness := (true, "a91ded15e1b6772d838cc25ef091a063e536369641de66570c986793d4dd0a5c"), looks := true }, kinds := [], alts := [], laidByText := true, laidKinds := [.handle, .data, .data, .sentinel], laidTests := true, laidLooks := .later }
def FnWrapCardSaid : Prop := Claim7.holds Tryz.pinned (.plain (OpenSpec.ofChange fnWrapSpec)) fnWrapCard

/-- THE TIED CARD OF 'laws.FnUnwrap'. -/
def fnUnwrapCard : Claim7 := { stood := { row := fnUnwrapRow, standIns := [], harness := (true, "a91ded15e1b6772d838cc25ef091a063e536369641de66570c986793d4dd0a5c"), looks := true }, kinds := [], alts := [], laidByText := true, laidKinds := [.handle, .data, .data, .sentinel], laidTests := true, laidLooks := .later }
def FnUnwrapCardSaid : Prop := Claim7.holds Tryz.pinned (.plain (OpenSpec.ofChange fnUnwrapSpec)) fnUnwrapCard

/-- THE TIED CARD OF 'laws.FnWrapped'. -/
def fnWrappedCard : Claim7 := { stood := { row := fnWrappedRow, standIns := [], harness := (true, "a91ded15e1b6772d838cc25ef091a063e536369641de66570c986793d4dd0a5c"), looks := true }, kinds := [], alts := [], laidByText := true, laidKinds := [.handle, .data, .data, .sentinel], laidTests := true, laidLooks := .later }
def FnWrappedCardSaid : Prop := Claim7.holds Tryz.pinned (.plain (OpenSpec.ofChange fnWrappedSpec)) fnWrappedCard

/-- THE TIED CARD OF 'laws.FnExactWrap'. -/
def fnExactWrapCard : Claim7 := { stood := { row := fnExactWrapRow, standIns := [], harness := (true, "a91ded15e1b6772d838cc25ef091a063e536369641de66570c986793d4dd0a5c"), looks := true }, kinds := [], alts := [], laidByText := true, laidKinds := [.handle, .data, .sentinel], laidTests := true, laidLooks := .later }
def FnExactWrapCardSaid : Prop := Claim7.holds Tryz.pinned (.plain (OpenSpec.ofChange fnExactWrapSpec)) fnExactWrapCard

/-- THE TIED CARD OF 'laws.FnExactUnwrap'. -/
def fnExactUnwrapCard : Claim7 := { stood := { row := fnExactUnwrapRow, standIns := [], harness := (true, "a91ded15e1b6772d838cc25ef091a063e536369641de66570c986793d4dd0a5c"), looks := true }, kinds := [], alts := [], laidByText := true, laidKinds := [.handle, .data, .data, .sentinel], laidTests := true, laidLooks := .later }
def FnExactUnwrapCardSaid : Prop := Claim7.holds Tryz.pinned (.plain (OpenSpec.ofChange fnExactUnwrapSpec)) fnExactUnwrapCard

/-- THE SECOND FORM's CARD OF 'laws.FnWrap'. -/
def fnWrapUptoCard : Claim7 := { stood := { row := fnWrapUptoRow, standIns := [], harness := (true, "a91ded15e1b6772d838cc25ef091a063e536369641de66570c986793d4dd0a5c"), looks := true }, kinds := [], alts := [], laidByText := true, laidKinds := [.handle, .data, .data, .sentinel], laidTests := true, laidLooks := .later }
def FnWrapUptoCardSaid : Prop := Claim7.holds Tryz.pinned (.plain (OpenSpec.upto fnWrapSpec)) fnWrapUptoCard

/-- THE SECOND FORM's CARD OF 'laws.FnUnwrap'. -/
def fnUnwrapUptoCard : Claim7 := { stood := { row := fnUnwrapUptoRow, standIns := [], harness := (true, "a91ded15e1b6772d838cc25ef091a063e536369641de66570c986793d4dd0a5c"), looks := true }, kinds := [], alts := [], laidByText := true, laidKinds := [.handle, .data, .data, .sentinel], laidTests := true, laidLooks := .later }
def FnUnwrapUptoCardSaid : Prop := Claim7.holds Tryz.pinned (.plain (OpenSpec.upto fnUnwrapSpec)) fnUnwrapUptoCard

/-- THE SECOND FORM's CARD OF 'laws.FnWrapped'. -/
def fnWrappedUptoCard : Claim7 := { stood := { row := fnWrappedUptoRow, standIns := [], harness := (true, "a91ded15e1b6772d838cc25ef091a063e536369641de66570c986793d4dd0a5c"), looks := true }, kinds := [], alts := [], laidByText := true, laidKinds := [.handle, .data, .data, .sentinel], laidTests := true, laidLooks := .later }
def FnWrappedUptoCardSaid : Prop := Claim7.holds Tryz.pinned (.plain (OpenSpec.upto fnWrappedSpec)) fnWrappedUptoCard

/-- THE SECOND FORM's CARD OF 'laws.FnExactWrap'. -/
def fnExactWrapUptoCard : Claim7 := { stood := { row := fnExactWrapUptoRow, standIns := [], harness := (true, "a91ded15e1b6772d838cc25ef091a063e536369641de66570c986793d4dd0a5c"), looks := true }, kinds := [], alts := [], laidByText := true, laidKinds := [.handle, .data, .sentinel], laidTests := true, laidLooks := .later }
def FnExactWrapUptoCardSaid : Prop := Claim7.holds Tryz.pinned (.plain (OpenSpec.upto fnExactWrapSpec)) fnExactWrapUptoCard

/-- THE SECOND FORM's CARD OF 'laws.FnExactUnwrap'. -/
def fnExactUnwrapUptoCard : Claim7 := { stood := { row := fnExactUnwrapUptoRow, standIns := [], harness := (true, "a91ded15e1b6772d838cc25ef091a063e536369641de66570c986793d4dd0a5c"), looks := true }, kinds := [], alts := [], laidByText := true, laidKinds := [.handle, .data, .data, .sentinel], laidTests := true, laidLooks := .later }
def FnExactUnwrapUptoCardSaid : Prop := Claim7.holds Tryz.pinned (.plain (OpenSpec.upto fnExactUnwrapSpec)) fnExactUnwrapUptoCard
end Rows
end Go.Proofs.YtbfmbdohebdbaaaGreatDoor
