/-
  DERIVED. GIVEN WITH THE SEED: THE CARDS: each row of YtkbnnlhilnnpeaaDoorRows.lean that lists a variable, with what it lists TIED to the program's text (the seventh form; the later family's looks); each row that meets fmt, with fmt's text TOLD by the authors' own Lean function (tested against real Go, not proved from fmt's source: count such statements apart). THE CARD IS WHAT COUNTS. Prove the row's statement (the work); the ties are given (YtkbnnlhilnnpeaaDoorTie.lean); close each card by the builder's one call (the guide's Derived/Test/ToyasCard.lean, 'card_holds'). Laid BY PROGRAM, IN A SANDBOX (cutbox-door.mjs). By AI agents, Wed Nov 11 2026. No macro, syntax, notation, axiom, sorry.
-/
import Derived.Test.YtkbnnlhilnnpeaaDoorRows
import GoSem.ClaimSeven
namespace Go.Proofs.YtkbnnlhilnnpeaaDoor
namespace Rows

/-- THE TIED CARD OF 'laws.FnUnmixed'. -/
def fnUnmixedCard : Claim7 := { stood := { row := fnUnmixedRow, standIns := [], harness := (true, "79fc796212b61d9d4078184f38ee6929e4a60e7fdd7b2f9637720758b275e846"), looks := false }, kinds := [], alts := [], laidByText := true, laidKinds := [.data, .data], laidTests := true, laidLooks := .later }
def FnUnmixedCardSaid : Prop := Claim7.holds Tryd.pinned (.plain (OpenSpec.ofChange fnUnmixedSpec)) fnUnmixedCard

/-- THE TIED CARD OF 'laws.FnTable'. -/
def fnTableCard : Claim7 := { stood := { row := fnTableRow, standIns := [], harness := (true, "79fc796212b61d9d4078184f38ee6929e4a60e7fdd7b2f9637720758b275e846"), looks := false }, kinds := [], alts := [], laidByText := true, laidKinds := [.data, .data], laidTests := true, laidLooks := .later }
def FnTableCardSaid : Prop := Claim7.holds Tryd.pinned (.plain (OpenSpec.ofChange fnTableSpec)) fnTableCard

/-- THE TIED CARD OF 'laws.FnRound'. -/
def fnRoundCard : Claim7 := { stood := { row := fnRoundRow, standIns := [], harness := (true, "79fc796212b61d9d4078184f38ee6929e4a60e7fdd7b2f9637720758b275e846"), looks := false }, kinds := [], alts := [], laidByText := true, laidKinds := [.data], laidTests := true, laidLooks := .later }
def FnRoundCardSaid : Prop := Claim7.holds Tryd.pinned (.plain (OpenSpec.ofChange fnRoundSpec)) fnRoundCard

/-- THE TIED CARD OF 'laws.FnBack'. -/
def fnBackCard : Claim7 := { stood := { row := fnBackRow, standIns := [], harness := (true, "79fc796212b61d9d4078184f38ee6929e4a60e7fdd7b2f9637720758b275e846"), looks := false }, kinds := [], alts := [], laidByText := true, laidKinds := [.data], laidTests := true, laidLooks := .later }
def FnBackCardSaid : Prop := Claim7.holds Tryd.pinned (.plain (OpenSpec.ofChange fnBackSpec)) fnBackCard

/-- THE TIED CARD OF 'laws.FnEqual'. -/
def fnEqualCard : Claim7 := { stood := { row := fnEqualRow, standIns := [], harness := (true, "79fc796212b61d9d4078184f38ee6929e4a60e7fdd7b2f9637720758b275e846"), looks := false }, kinds := [], alts := [], laidByText := true, laidKinds := [.data], laidTests := true, laidLooks := .later }
def FnEqualCardSaid : Prop := Claim7.holds Tryd.pinned (.plain (OpenSpec.ofChange fnEqualSpec)) fnEqualCard

/-- THE TIED CARD OF 'laws.FnExactUnmixed'. -/
def fnExactUnmixedCard : Claim7 := { stood := { row := fnExactUnmixedRow, standIns := [], harness := (true, "79fc796212b61d9d4078184f38ee6929e4a60e7fdd7b2f9637720758b275e846"), looks := false }, kinds := [], alts := [], laidByText := true, laidKinds := [.data], laidTests := true, laidLooks := .later }
def FnExactUnmixedCardSaid : Prop := Claim7.holds Tryd.pinned (.plain (OpenSpec.ofChange fnExactUnmixedSpec)) fnExactUnmixedCard

/-- THE TIED CARD OF 'laws.FnExactTable'. -/
def fnExactTableCard : Claim7 := { stood := { row := fnExactTableRow, standIns := [], harness := (true, "79fc796212b61d9d4078184f38ee6929e4a60e7fdd7b2f9637720758b275e846"), looks := false }, kinds := [], alts := [], laidByText := true, laidKinds := [.data], laidTests := true, laidLooks := .later }
def FnExactTableCardSaid : Prop := Claim7.holds Tryd.pinned (.plain (OpenSpec.ofChange fnExactTableSpec)) fnExactTableCard

/-- THE TIED CARD OF 'laws.FnExactUntable'. -/
def fnExactUntableCard : Claim7 := { stood := { row := fnExactUntableRow, standIns := [], harness := (true, "79fc796212b61d9d4078184f38ee6929e4a60e7fdd7b2f9637720758b275e846"), looks := false }, kinds := [], alts := [], laidByText := true, laidKinds := [.data], laidTests := true, laidLooks := .later }
def FnExactUntableCardSaid : Prop := Claim7.holds Tryd.pinned (.plain (OpenSpec.ofChange fnExactUntableSpec)) fnExactUntableCard

/-- THE SECOND FORM's CARD OF 'laws.FnUnmixed'. -/
def fnUnmixedUptoCard : Claim7 := { stood := { row := fnUnmixedUptoRow, standIns := [], harness := (true, "79fc796212b61d9d4078184f38ee6929e4a60e7fdd7b2f9637720758b275e846"), looks := false }, kinds := [], alts := [], laidByText := true, laidKinds := [.data, .data], laidTests := true, laidLooks := .later }
def FnUnmixedUptoCardSaid : Prop := Claim7.holds Tryd.pinned (.plain (OpenSpec.upto fnUnmixedSpec)) fnUnmixedUptoCard

/-- THE SECOND FORM's CARD OF 'laws.FnTable'. -/
def fnTableUptoCard : Claim7 := { stood := { row := fnTableUptoRow, standIns := [], harness := (true, "79fc796212b61d9d4078184f38ee6929e4a60e7fdd7b2f9637720758b275e846"), looks := false }, kinds := [], alts := [], laidByText := true, laidKinds := [.data, .data], laidTests := true, laidLooks := .later }
def FnTableUptoCardSaid : Prop := Claim7.holds Tryd.pinned (.plain (OpenSpec.upto fnTableSpec)) fnTableUptoCard

/-- THE SECOND FORM's CARD OF 'laws.FnRound'. -/
def fnRoundUptoCard : Claim7 := { stood := { row := fnRoundUptoRow, standIns := [], harness := (true, "79fc796212b61d9d4078184f38ee6929e4a60e7fdd7b2f9637720758b275e846"), looks := false }, kinds := [], alts := [], laidByText := true, laidKinds := [.data], laidTests := true, laidLooks := .later }
def FnRoundUptoCardSaid : Prop := Claim7.holds Tryd.pinned (.plain (OpenSpec.upto fnRoundSpec)) fnRoundUptoCard

/-- THE SECOND FORM's CARD OF 'laws.FnBack'. -/
def fnBackUptoCard : Claim7 := { stood := { row := fnBackUptoRow, standIns := [], harness := (true, "79fc796212b61d9d4078184f38ee6929e4a60e7fdd7b2f9637720758b275e846"), looks := false }, kinds := [], alts := [], laidByText := true, laidKinds := [.data], laidTests := true, laidLooks := .later }
def FnBackUptoCardSaid : Prop := Claim7.holds Tryd.pinned (.plain (OpenSpec.upto fnBackSpec)) fnBackUptoCard

/-- THE SECOND FORM's CARD OF 'laws.FnEqual'. -/
def fnEqualUptoCard : Claim7 := { stood := { row := fnEqualUptoRow, standIns := [], harness := (true, "79fc796212b61d9d4078184f38ee6929e4a60e7fdd7b2f9637720758b275e846"), looks := false }, kinds := [], alts := [], laidByText := true, laidKinds := [.data], laidTests := true, laidLooks := .later }
def FnEqualUptoCardSaid : Prop := Claim7.holds Tryd.pinned (.plain (OpenSpec.upto fnEqualSpec)) fnEqualUptoCard

/-- THE SECOND FORM's CARD OF 'laws.FnExactUnmixed'. -/
def fnExactUnmixedUptoCard : Claim7 := { stood := { row := fnExactUnmixedUptoRow, standIns := [], harness := (true, "79fc796212b61d9d4078184f38ee6929e4a60e7fdd7b2f9637720758b275e846"), looks := false }, kinds := [], alts := [], laidByText := true, laidKinds := [.data], laidTests := true, laidLooks := .later }
def FnExactUnmixedUptoCardSaid : Prop := Claim7.holds Tryd.pinned (.plain (OpenSpec.upto fnExactUnmixedSpec)) fnExactUnmixedUptoCard

/-- THE SECOND FORM's CARD OF 'laws.FnExactTable'. -/
def fnExactTableUptoCard : Claim7 := { stood := { row := fnExactTableUptoRow, standIns := [], harness := (true, "79fc796212b61d9d4078184f38ee6929e4a60e7fdd7b2f9637720758b275e846"), looks := false }, kinds := [], alts := [], laidByText := true, laidKinds := [.data], laidTests := true, laidLooks := .later }
def FnExactTableUptoCardSaid : Prop := Claim7.holds Tryd.pinned (.plain (OpenSpec.upto fnExactTableSpec)) fnExactTableUptoCard

/-- THE SECOND FORM's CARD OF 'laws.FnExactUntable'. -/
def fnExactUntableUptoCard : Claim7 := { stood := { row := fnExactUntableUptoRow, standIns := [], harness := (true, "79fc796212b61d9d4078184f38ee6929e4a60e7fdd7b2f9637720758b275e846"), looks := false }, kinds := [], alts := [], laidByText := true, laidKinds := [.data], laidTests := true, laidLooks := .later }
def FnExactUntableUptoCardSaid : Prop := Claim7.holds Tryd.pinned (.plain (OpenSpec.upto fnExactUntableSpec)) fnExactUntableUptoCard
end Rows
end Go.Proofs.YtkbnnlhilnnpeaaDoor
