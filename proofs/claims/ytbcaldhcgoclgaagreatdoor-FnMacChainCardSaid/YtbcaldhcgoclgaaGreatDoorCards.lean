/-
  DERIVED. GIVEN WITH THE SEED: THE CARDS: each row of YtbcaldhcgoclgaaGreatDoorRows.lean that lists a variable, with what it lists TIED to the program's text (the seventh form; the later family's looks); each row that meets fmt, with fmt's text TOLD by the authors' own Lean function (tested against real Go, not proved from fmt's source: count such statements apart). THE CARD IS WHAT COUNTS. Prove the row's statement (the work); the ties are given (YtbcaldhcgoclgaaGreatDoorTie.lean); close each card by the builder's one call (the guide's Derived/Test/ToyasCard.lean, 'card_holds'). Laid BY PROGRAM, IN A SANDBOX (cutbox-door.mjs). By AI agents, Wed Nov 11 2026. No macro, syntax, notation, axiom, sorry.
-/
import Derived.Test.YtbcaldhcgoclgaaGreatDoorRows
import GoSem.ClaimSeven
namespace Go.Proofs.YtbcaldhcgoclgaaGreatDoor
namespace Rows

/-- THE TIED CARD OF 'laws.FnMac'. -/
def fnMacCard : Claim7 := { stood := { row := fnMacRow, standIns := [], harness := (true, "80b9e22b3a8b09d5f991767205e0264df7ba5b83ddeaa721b474cc16490dfb18"), looks := true }, kinds := [], alts := [], goes := true, laidByText := true, laidKinds := [.data], laidTests := true, laidLooks := .later }
def FnMacCardSaid : Prop := Claim7.holds Tryz.pinned (.plain (OpenSpec.ofChange fnMacSpec)) fnMacCard

/-- THE TIED CARD OF 'laws.FnMacOk'. -/
def fnMacOkCard : Claim7 := { stood := { row := fnMacOkRow, standIns := [], harness := (true, "80b9e22b3a8b09d5f991767205e0264df7ba5b83ddeaa721b474cc16490dfb18"), looks := true }, kinds := [], alts := [], goes := true, laidByText := true, laidKinds := [.data], laidTests := true, laidLooks := .later }
def FnMacOkCardSaid : Prop := Claim7.holds Tryz.pinned (.plain (OpenSpec.ofChange fnMacOkSpec)) fnMacOkCard

/-- THE TIED CARD OF 'laws.FnSeal'. -/
def fnSealCard : Claim7 := { stood := { row := fnSealRow, standIns := [], harness := (true, "80b9e22b3a8b09d5f991767205e0264df7ba5b83ddeaa721b474cc16490dfb18"), looks := true }, kinds := [], alts := [], goes := true, laidByText := true, laidKinds := [.handle, .data], laidTests := true, laidLooks := .later }
def FnSealCardSaid : Prop := Claim7.holds Tryz.pinned (.plain (OpenSpec.ofChange fnSealSpec)) fnSealCard

/-- THE TIED CARD OF 'laws.FnUnseal'. -/
def fnUnsealCard : Claim7 := { stood := { row := fnUnsealRow, standIns := [], harness := (true, "80b9e22b3a8b09d5f991767205e0264df7ba5b83ddeaa721b474cc16490dfb18"), looks := true }, kinds := [], alts := [], goes := true, laidByText := true, laidKinds := [.handle, .data], laidTests := true, laidLooks := .later }
def FnUnsealCardSaid : Prop := Claim7.holds Tryz.pinned (.plain (OpenSpec.ofChange fnUnsealSpec)) fnUnsealCard

/-- THE TIED CARD OF 'laws.FnMacChain'. -/
def fnMacChainCard : Claim7 := { stood := { row := fnMacChainRow, standIns := [], harness := (true, "80b9e22b3a8b09d5f991767205e0264df7ba5b83ddeaa721b474cc16490dfb18"), looks := true }, kinds := [], alts := [], goes := true, laidByText := true, laidKinds := [.handle, .data], laidTests := true, laidLooks := .later }
def FnMacChainCardSaid : Prop := Claim7.holds Tryz.pinned (.plain (OpenSpec.ofChange fnMacChainSpec)) fnMacChainCard

/-- THE TIED CARD OF 'laws.FnOpen'. -/
def fnOpenCard : Claim7 := { stood := { row := fnOpenRow, standIns := [], harness := (true, "80b9e22b3a8b09d5f991767205e0264df7ba5b83ddeaa721b474cc16490dfb18"), looks := true }, kinds := [], alts := [], goes := true, laidByText := true, laidKinds := [.handle, .data], laidTests := true, laidLooks := .later }
def FnOpenCardSaid : Prop := Claim7.holds Tryz.pinned (.plain (OpenSpec.ofChange fnOpenSpec)) fnOpenCard

/-- THE TIED CARD OF 'laws.FnExactMac'. -/
def fnExactMacCard : Claim7 := { stood := { row := fnExactMacRow, standIns := [], harness := (true, "80b9e22b3a8b09d5f991767205e0264df7ba5b83ddeaa721b474cc16490dfb18"), looks := true }, kinds := [], alts := [], goes := true, laidByText := true, laidKinds := [.data], laidTests := true, laidLooks := .later }
def FnExactMacCardSaid : Prop := Claim7.holds Tryz.pinned (.plain (OpenSpec.ofChange fnExactMacSpec)) fnExactMacCard

/-- THE TIED CARD OF 'laws.FnExactMacOk'. -/
def fnExactMacOkCard : Claim7 := { stood := { row := fnExactMacOkRow, standIns := [], harness := (true, "80b9e22b3a8b09d5f991767205e0264df7ba5b83ddeaa721b474cc16490dfb18"), looks := true }, kinds := [], alts := [], goes := true, laidByText := true, laidKinds := [.data], laidTests := true, laidLooks := .later }
def FnExactMacOkCardSaid : Prop := Claim7.holds Tryz.pinned (.plain (OpenSpec.ofChange fnExactMacOkSpec)) fnExactMacOkCard

/-- THE TIED CARD OF 'laws.FnExactSeal'. -/
def fnExactSealCard : Claim7 := { stood := { row := fnExactSealRow, standIns := [], harness := (true, "80b9e22b3a8b09d5f991767205e0264df7ba5b83ddeaa721b474cc16490dfb18"), looks := true }, kinds := [], alts := [], goes := true, laidByText := true, laidKinds := [.handle, .data], laidTests := true, laidLooks := .later }
def FnExactSealCardSaid : Prop := Claim7.holds Tryz.pinned (.plain (OpenSpec.ofChange fnExactSealSpec)) fnExactSealCard

/-- THE TIED CARD OF 'laws.FnExactUnseal'. -/
def fnExactUnsealCard : Claim7 := { stood := { row := fnExactUnsealRow, standIns := [], harness := (true, "80b9e22b3a8b09d5f991767205e0264df7ba5b83ddeaa721b474cc16490dfb18"), looks := true }, kinds := [], alts := [], goes := true, laidByText := true, laidKinds := [.handle, .data], laidTests := true, laidLooks := .later }
def FnExactUnsealCardSaid : Prop := Claim7.holds Tryz.pinned (.plain (OpenSpec.ofChange fnExactUnsealSpec)) fnExactUnsealCard

/-- THE SECOND FORM's CARD OF 'laws.FnMac'. -/
def fnMacUptoCard : Claim7 := { stood := { row := fnMacUptoRow, standIns := [], harness := (true, "80b9e22b3a8b09d5f991767205e0264df7ba5b83ddeaa721b474cc16490dfb18"), looks := true }, kinds := [], alts := [], goes := true, laidByText := true, laidKinds := [.data], laidTests := true, laidLooks := .later }
def FnMacUptoCardSaid : Prop := Claim7.holds Tryz.pinned (.plain (OpenSpec.upto fnMacSpec)) fnMacUptoCard

/-- THE SECOND FORM's CARD OF 'laws.FnMacOk'. -/
def fnMacOkUptoCard : Claim7 := { stood := { row := fnMacOkUptoRow, standIns := [], harness := (true, "80b9e22b3a8b09d5f991767205e0264df7ba5b83ddeaa721b474cc16490dfb18"), looks := true }, kinds := [], alts := [], goes := true, laidByText := true, laidKinds := [.data], laidTests := true, laidLooks := .later }
def FnMacOkUptoCardSaid : Prop := Claim7.holds Tryz.pinned (.plain (OpenSpec.upto fnMacOkSpec)) fnMacOkUptoCard

/-- THE SECOND FORM's CARD OF 'laws.FnSeal'. -/
def fnSealUptoCard : Claim7 := { stood := { row := fnSealUptoRow, standIns := [], harness := (true, "80b9e22b3a8b09d5f991767205e0264df7ba5b83ddeaa721b474cc16490dfb18"), looks := true }, kinds := [], alts := [], goes := true, laidByText := true, laidKinds := [.handle, .data], laidTests := true, laidLooks := .later }
def FnSealUptoCardSaid : Prop := Claim7.holds Tryz.pinned (.plain (OpenSpec.upto fnSealSpec)) fnSealUptoCard

/-- THE SECOND FORM's CARD OF 'laws.FnUnseal'. -/
def fnUnsealUptoCard : Claim7 := { stood := { row := fnUnsealUptoRow, standIns := [], harness := (true, "80b9e22b3a8b09d5f991767205e0264df7ba5b83ddeaa721b474cc16490dfb18"), looks := true }, kinds := [], alts := [], goes := true, laidByText := true, laidKinds := [.handle, .data], laidTests := true, laidLooks := .later }
def FnUnsealUptoCardSaid : Prop := Claim7.holds Tryz.pinned (.plain (OpenSpec.upto fnUnsealSpec)) fnUnsealUptoCard

/-- THE SECOND FORM's CARD OF 'laws.FnMacChain'. -/
def fnMacChainUptoCard : Claim7 := { stood := { row := fnMacChainUptoRow, standIns := [], harness := (true, "80b9e22b3a8b09d5f991767205e0264df7ba5b83ddeaa721b474cc16490dfb18"), looks := true }, kinds := [], alts := [], goes := true, laidByText := true, laidKinds := [.handle, .data], laidTests := true, laidLooks := .later }
def FnMacChainUptoCardSaid : Prop := Claim7.holds Tryz.pinned (.plain (OpenSpec.upto fnMacChainSpec)) fnMacChainUptoCard

/-- THE SECOND FORM's CARD OF 'laws.FnOpen'. -/
def fnOpenUptoCard : Claim7 := { stood := { row := fnOpenUptoRow, standIns := [], harness := (true, "80b9e22b3a8b09d5f991767205e0264df7ba5b83ddeaa721b474cc16490dfb18"), looks := true }, kinds := [], alts := [], goes := true, laidByText := true, laidKinds := [.handle, .data], laidTests := true, laidLooks := .later }
def FnOpenUptoCardSaid : Prop := Claim7.holds Tryz.pinned (.plain (OpenSpec.upto fnOpenSpec)) fnOpenUptoCard

/-- THE SECOND FORM's CARD OF 'laws.FnExactMac'. -/
def fnExactMacUptoCard : Claim7 := { stood := { row := fnExactMacUptoRow, standIns := [], harness := (true, "80b9e22b3a8b09d5f991767205e0264df7ba5b83ddeaa721b474cc16490dfb18"), looks := true }, kinds := [], alts := [], goes := true, laidByText := true, laidKinds := [.data], laidTests := true, laidLooks := .later }
def FnExactMacUptoCardSaid : Prop := Claim7.holds Tryz.pinned (.plain (OpenSpec.upto fnExactMacSpec)) fnExactMacUptoCard

/-- THE SECOND FORM's CARD OF 'laws.FnExactMacOk'. -/
def fnExactMacOkUptoCard : Claim7 := { stood := { row := fnExactMacOkUptoRow, standIns := [], harness := (true, "80b9e22b3a8b09d5f991767205e0264df7ba5b83ddeaa721b474cc16490dfb18"), looks := true }, kinds := [], alts := [], goes := true, laidByText := true, laidKinds := [.data], laidTests := true, laidLooks := .later }
def FnExactMacOkUptoCardSaid : Prop := Claim7.holds Tryz.pinned (.plain (OpenSpec.upto fnExactMacOkSpec)) fnExactMacOkUptoCard

/-- THE SECOND FORM's CARD OF 'laws.FnExactSeal'. -/
def fnExactSealUptoCard : Claim7 := { stood := { row := fnExactSealUptoRow, standIns := [], harness := (true, "80b9e22b3a8b09d5f991767205e0264df7ba5b83ddeaa721b474cc16490dfb18"), looks := true }, kinds := [], alts := [], goes := true, laidByText := true, laidKinds := [.handle, .data], laidTests := true, laidLooks := .later }
def FnExactSealUptoCardSaid : Prop := Claim7.holds Tryz.pinned (.plain (OpenSpec.upto fnExactSealSpec)) fnExactSealUptoCard

/-- THE SECOND FORM's CARD OF 'laws.FnExactUnseal'. -/
def fnExactUnsealUptoCard : Claim7 := { stood := { row := fnExactUnsealUptoRow, standIns := [], harness := (true, "80b9e22b3a8b09d5f991767205e0264df7ba5b83ddeaa721b474cc16490dfb18"), looks := true }, kinds := [], alts := [], goes := true, laidByText := true, laidKinds := [.handle, .data], laidTests := true, laidLooks := .later }
def FnExactUnsealUptoCardSaid : Prop := Claim7.holds Tryz.pinned (.plain (OpenSpec.upto fnExactUnsealSpec)) fnExactUnsealUptoCard
end Rows
end Go.Proofs.YtbcaldhcgoclgaaGreatDoor
