/-
  DERIVED. GIVEN WITH THE SEED: THE CARDS: each row of YtbgjeipgmlcgaaaDoorRows.lean that lists a variable, with what it lists TIED to the program's text (the seventh form; the later family's looks); each row that meets fmt, with fmt's text TOLD by the authors' own Lean function (tested against real Go, not proved from fmt's source: count such statements apart). THE CARD IS WHAT COUNTS. Prove the row's statement (the work); the ties are given (YtbgjeipgmlcgaaaDoorTie.lean); close each card by the builder's one call (the guide's Derived/Test/ToyasCard.lean, 'card_holds'). Laid BY PROGRAM, IN A SANDBOX (cutbox-door.mjs). By AI agents, Wed Nov 11 2026. No macro, syntax, notation, axiom, sorry.
-/
import Derived.Test.YtbgjeipgmlcgaaaDoorRows
import GoSem.ClaimSeven
namespace Go.Proofs.YtbgjeipgmlcgaaaDoor
namespace Rows

/-- THE TIED CARD OF 'laws.FnUnmixed'. -/
def fnUnmixedCard : Claim7 := { stood := { row := fnUnmixedRow, standIns := [], harness := (true, "f1d0f840bbba4e0ec1362abeabf1be6975908694a9284fe53ed395acadd69448"), looks := false }, kinds := [], alts := [], laidByText := true, laidKinds := [.data, .data], laidTests := true, laidLooks := .later }
def FnUnmixedCardSaid : Prop := Claim7.holds Tryd.pinned (.plain (OpenSpec.ofChange fnUnmixedSpec)) fnUnmixedCard

/-- THE TIED CARD OF 'laws.FnColumns'. -/
def fnColumnsCard : Claim7 := { stood := { row := fnColumnsRow, standIns := [], harness := (true, "f1d0f840bbba4e0ec1362abeabf1be6975908694a9284fe53ed395acadd69448"), looks := false }, kinds := [], alts := [], laidByText := true, laidKinds := [.data], laidTests := true, laidLooks := .later }
def FnColumnsCardSaid : Prop := Claim7.holds Tryd.pinned (.plain (OpenSpec.ofChange fnColumnsSpec)) fnColumnsCard

/-- THE TIED CARD OF 'laws.FnMix'. -/
def fnMixCard : Claim7 := { stood := { row := fnMixRow, standIns := [], harness := (true, "f1d0f840bbba4e0ec1362abeabf1be6975908694a9284fe53ed395acadd69448"), looks := false }, kinds := [], alts := [], laidByText := true, laidKinds := [.data], laidTests := true, laidLooks := .later }
def FnMixCardSaid : Prop := Claim7.holds Tryd.pinned (.plain (OpenSpec.ofChange fnMixSpec)) fnMixCard

/-- THE TIED CARD OF 'laws.FnExactUnmixed'. -/
def fnExactUnmixedCard : Claim7 := { stood := { row := fnExactUnmixedRow, standIns := [], harness := (true, "f1d0f840bbba4e0ec1362abeabf1be6975908694a9284fe53ed395acadd69448"), looks := false }, kinds := [], alts := [], laidByText := true, laidKinds := [.data], laidTests := true, laidLooks := .later }
def FnExactUnmixedCardSaid : Prop := Claim7.holds Tryd.pinned (.plain (OpenSpec.ofChange fnExactUnmixedSpec)) fnExactUnmixedCard

/-- THE TIED CARD OF 'laws.FnExactMixColumns'. -/
def fnExactMixColumnsCard : Claim7 := { stood := { row := fnExactMixColumnsRow, standIns := [], harness := (true, "f1d0f840bbba4e0ec1362abeabf1be6975908694a9284fe53ed395acadd69448"), looks := false }, kinds := [], alts := [], laidByText := true, laidKinds := [.data], laidTests := true, laidLooks := .later }
def FnExactMixColumnsCardSaid : Prop := Claim7.holds Tryd.pinned (.plain (OpenSpec.ofChange fnExactMixColumnsSpec)) fnExactMixColumnsCard

/-- THE TIED CARD OF 'laws.FnExactUnmixColumns'. -/
def fnExactUnmixColumnsCard : Claim7 := { stood := { row := fnExactUnmixColumnsRow, standIns := [], harness := (true, "f1d0f840bbba4e0ec1362abeabf1be6975908694a9284fe53ed395acadd69448"), looks := false }, kinds := [], alts := [], laidByText := true, laidKinds := [.data], laidTests := true, laidLooks := .later }
def FnExactUnmixColumnsCardSaid : Prop := Claim7.holds Tryd.pinned (.plain (OpenSpec.ofChange fnExactUnmixColumnsSpec)) fnExactUnmixColumnsCard

/-- THE SECOND FORM's CARD OF 'laws.FnUnmixed'. -/
def fnUnmixedUptoCard : Claim7 := { stood := { row := fnUnmixedUptoRow, standIns := [], harness := (true, "f1d0f840bbba4e0ec1362abeabf1be6975908694a9284fe53ed395acadd69448"), looks := false }, kinds := [], alts := [], laidByText := true, laidKinds := [.data, .data], laidTests := true, laidLooks := .later }
def FnUnmixedUptoCardSaid : Prop := Claim7.holds Tryd.pinned (.plain (OpenSpec.upto fnUnmixedSpec)) fnUnmixedUptoCard

/-- THE SECOND FORM's CARD OF 'laws.FnColumns'. -/
def fnColumnsUptoCard : Claim7 := { stood := { row := fnColumnsUptoRow, standIns := [], harness := (true, "f1d0f840bbba4e0ec1362abeabf1be6975908694a9284fe53ed395acadd69448"), looks := false }, kinds := [], alts := [], laidByText := true, laidKinds := [.data], laidTests := true, laidLooks := .later }
def FnColumnsUptoCardSaid : Prop := Claim7.holds Tryd.pinned (.plain (OpenSpec.upto fnColumnsSpec)) fnColumnsUptoCard

/-- THE SECOND FORM's CARD OF 'laws.FnMix'. -/
def fnMixUptoCard : Claim7 := { stood := { row := fnMixUptoRow, standIns := [], harness := (true, "f1d0f840bbba4e0ec1362abeabf1be6975908694a9284fe53ed395acadd69448"), looks := false }, kinds := [], alts := [], laidByText := true, laidKinds := [.data], laidTests := true, laidLooks := .later }
def FnMixUptoCardSaid : Prop := Claim7.holds Tryd.pinned (.plain (OpenSpec.upto fnMixSpec)) fnMixUptoCard

/-- THE SECOND FORM's CARD OF 'laws.FnExactUnmixed'. -/
def fnExactUnmixedUptoCard : Claim7 := { stood := { row := fnExactUnmixedUptoRow, standIns := [], harness := (true, "f1d0f840bbba4e0ec1362abeabf1be6975908694a9284fe53ed395acadd69448"), looks := false }, kinds := [], alts := [], laidByText := true, laidKinds := [.data], laidTests := true, laidLooks := .later }
def FnExactUnmixedUptoCardSaid : Prop := Claim7.holds Tryd.pinned (.plain (OpenSpec.upto fnExactUnmixedSpec)) fnExactUnmixedUptoCard

/-- THE SECOND FORM's CARD OF 'laws.FnExactMixColumns'. -/
def fnExactMixColumnsUptoCard : Claim7 := { stood := { row := fnExactMixColumnsUptoRow, standIns := [], harness := (true, "f1d0f840bbba4e0ec1362abeabf1be6975908694a9284fe53ed395acadd69448"), looks := false }, kinds := [], alts := [], laidByText := true, laidKinds := [.data], laidTests := true, laidLooks := .later }
def FnExactMixColumnsUptoCardSaid : Prop := Claim7.holds Tryd.pinned (.plain (OpenSpec.upto fnExactMixColumnsSpec)) fnExactMixColumnsUptoCard

/-- THE SECOND FORM's CARD OF 'laws.FnExactUnmixColumns'. -/
def fnExactUnmixColumnsUptoCard : Claim7 := { stood := { row := fnExactUnmixColumnsUptoRow, standIns := [], harness := (true, "f1d0f840bbba4e0ec1362abeabf1be6975908694a9284fe53ed395acadd69448"), looks := false }, kinds := [], alts := [], laidByText := true, laidKinds := [.data], laidTests := true, laidLooks := .later }
def FnExactUnmixColumnsUptoCardSaid : Prop := Claim7.holds Tryd.pinned (.plain (OpenSpec.upto fnExactUnmixColumnsSpec)) fnExactUnmixColumnsUptoCard
end Rows
end Go.Proofs.YtbgjeipgmlcgaaaDoor
