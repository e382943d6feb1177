/-
  DERIVED. GIVEN WITH THE SEED: THE CARDS: each row of YtkklkcajllpjpaaGreatDoorRows.lean that lists a variable, with what it lists TIED to the program's text (the seventh form; the later family's looks); each row that meets fmt, with fmt's text TOLD by the authors' own Lean function (tested against real Go, not proved from fmt's source: count such statements apart). THE CARD IS WHAT COUNTS. Prove the row's statement (the work); the ties are given (YtkklkcajllpjpaaGreatDoorTie.lean); close each card by the builder's one call (the guide's Derived/Test/ToyasCard.lean, 'card_holds'). Laid BY PROGRAM, IN A SANDBOX (cutbox-door.mjs). By AI agents, Wed Nov 11 2026. No macro, syntax, notation, axiom, sorry.
-/
import Derived.Test.YtkklkcajllpjpaaGreatDoorRows
import GoSem.ClaimSeven
namespace Go.Proofs.YtkklkcajllpjpaaGreatDoor
namespace Rows

/-- THE TIED CARD OF 'laws.FnWords'. -/
def fnWordsCard : Claim7 := { stood := { row := fnWordsRow, standIns := [], harness := (true, "42d9ffed03d1c78b24ea86715cf81f762fadcc49ee3f78b7dbbb38aeb1edeac6"), looks := true }, kinds := [], alts := [], laidByText := true, laidKinds := [.data, .data], laidTests := true, laidLooks := .later }
def FnWordsCardSaid : Prop := Claim7.holds Tryz.pinned (.plain (OpenSpec.ofChange fnWordsSpec)) fnWordsCard

/-- THE TIED CARD OF 'laws.FnSliced'. -/
def fnSlicedCard : Claim7 := { stood := { row := fnSlicedRow, standIns := [], harness := (true, "42d9ffed03d1c78b24ea86715cf81f762fadcc49ee3f78b7dbbb38aeb1edeac6"), looks := true }, kinds := [], alts := [], laidByText := true, laidKinds := [.data, .data], laidTests := true, laidLooks := .later }
def FnSlicedCardSaid : Prop := Claim7.holds Tryz.pinned (.plain (OpenSpec.ofChange fnSlicedSpec)) fnSlicedCard

/-- THE TIED CARD OF 'laws.FnBlocks'. -/
def fnBlocksCard : Claim7 := { stood := { row := fnBlocksRow, standIns := [], harness := (true, "42d9ffed03d1c78b24ea86715cf81f762fadcc49ee3f78b7dbbb38aeb1edeac6"), looks := true }, kinds := [], alts := [], laidByText := true, laidKinds := [.data, .data], laidTests := true, laidLooks := .later }
def FnBlocksCardSaid : Prop := Claim7.holds Tryz.pinned (.plain (OpenSpec.ofChange fnBlocksSpec)) fnBlocksCard

/-- THE TIED CARD OF 'laws.FnAlone'. -/
def fnAloneCard : Claim7 := { stood := { row := fnAloneRow, standIns := [], harness := (true, "42d9ffed03d1c78b24ea86715cf81f762fadcc49ee3f78b7dbbb38aeb1edeac6"), looks := true }, kinds := [], alts := [], laidByText := true, laidKinds := [.data, .data], laidTests := true, laidLooks := .later }
def FnAloneCardSaid : Prop := Claim7.holds Tryz.pinned (.plain (OpenSpec.ofChange fnAloneSpec)) fnAloneCard

/-- THE TIED CARD OF 'laws.FnExactLockSliced'. -/
def fnExactLockSlicedCard : Claim7 := { stood := { row := fnExactLockSlicedRow, standIns := [], harness := (true, "42d9ffed03d1c78b24ea86715cf81f762fadcc49ee3f78b7dbbb38aeb1edeac6"), looks := true }, kinds := [], alts := [], laidByText := true, laidKinds := [.data], laidTests := true, laidLooks := .later }
def FnExactLockSlicedCardSaid : Prop := Claim7.holds Tryz.pinned (.plain (OpenSpec.ofChange fnExactLockSlicedSpec)) fnExactLockSlicedCard

/-- THE TIED CARD OF 'laws.FnExactUnlockSliced'. -/
def fnExactUnlockSlicedCard : Claim7 := { stood := { row := fnExactUnlockSlicedRow, standIns := [], harness := (true, "42d9ffed03d1c78b24ea86715cf81f762fadcc49ee3f78b7dbbb38aeb1edeac6"), looks := true }, kinds := [], alts := [], laidByText := true, laidKinds := [.data, .data], laidTests := true, laidLooks := .later }
def FnExactUnlockSlicedCardSaid : Prop := Claim7.holds Tryz.pinned (.plain (OpenSpec.ofChange fnExactUnlockSlicedSpec)) fnExactUnlockSlicedCard

/-- THE TIED CARD OF 'laws.FnExactLockBlocks'. -/
def fnExactLockBlocksCard : Claim7 := { stood := { row := fnExactLockBlocksRow, standIns := [], harness := (true, "42d9ffed03d1c78b24ea86715cf81f762fadcc49ee3f78b7dbbb38aeb1edeac6"), looks := true }, kinds := [], alts := [], laidByText := true, laidKinds := [.data], laidTests := true, laidLooks := .later }
def FnExactLockBlocksCardSaid : Prop := Claim7.holds Tryz.pinned (.plain (OpenSpec.ofChange fnExactLockBlocksSpec)) fnExactLockBlocksCard

/-- THE TIED CARD OF 'laws.FnExactUnlockBlocks'. -/
def fnExactUnlockBlocksCard : Claim7 := { stood := { row := fnExactUnlockBlocksRow, standIns := [], harness := (true, "42d9ffed03d1c78b24ea86715cf81f762fadcc49ee3f78b7dbbb38aeb1edeac6"), looks := true }, kinds := [], alts := [], laidByText := true, laidKinds := [.data, .data], laidTests := true, laidLooks := .later }
def FnExactUnlockBlocksCardSaid : Prop := Claim7.holds Tryz.pinned (.plain (OpenSpec.ofChange fnExactUnlockBlocksSpec)) fnExactUnlockBlocksCard

/-- THE SECOND FORM's CARD OF 'laws.FnWords'. -/
def fnWordsUptoCard : Claim7 := { stood := { row := fnWordsUptoRow, standIns := [], harness := (true, "42d9ffed03d1c78b24ea86715cf81f762fadcc49ee3f78b7dbbb38aeb1edeac6"), looks := true }, kinds := [], alts := [], laidByText := true, laidKinds := [.data, .data], laidTests := true, laidLooks := .later }
def FnWordsUptoCardSaid : Prop := Claim7.holds Tryz.pinned (.plain (OpenSpec.upto fnWordsSpec)) fnWordsUptoCard

/-- THE SECOND FORM's CARD OF 'laws.FnSliced'. -/
def fnSlicedUptoCard : Claim7 := { stood := { row := fnSlicedUptoRow, standIns := [], harness := (true, "42d9ffed03d1c78b24ea86715cf81f762fadcc49ee3f78b7dbbb38aeb1edeac6"), looks := true }, kinds := [], alts := [], laidByText := true, laidKinds := [.data, .data], laidTests := true, laidLooks := .later }
def FnSlicedUptoCardSaid : Prop := Claim7.holds Tryz.pinned (.plain (OpenSpec.upto fnSlicedSpec)) fnSlicedUptoCard

/-- THE SECOND FORM's CARD OF 'laws.FnBlocks'. -/
def fnBlocksUptoCard : Claim7 := { stood := { row := fnBlocksUptoRow, standIns := [], harness := (true, "42d9ffed03d1c78b24ea86715cf81f762fadcc49ee3f78b7dbbb38aeb1edeac6"), looks := true }, kinds := [], alts := [], laidByText := true, laidKinds := [.data, .data], laidTests := true, laidLooks := .later }
def FnBlocksUptoCardSaid : Prop := Claim7.holds Tryz.pinned (.plain (OpenSpec.upto fnBlocksSpec)) fnBlocksUptoCard

/-- THE SECOND FORM's CARD OF 'laws.FnAlone'. -/
def fnAloneUptoCard : Claim7 := { stood := { row := fnAloneUptoRow, standIns := [], harness := (true, "42d9ffed03d1c78b24ea86715cf81f762fadcc49ee3f78b7dbbb38aeb1edeac6"), looks := true }, kinds := [], alts := [], laidByText := true, laidKinds := [.data, .data], laidTests := true, laidLooks := .later }
def FnAloneUptoCardSaid : Prop := Claim7.holds Tryz.pinned (.plain (OpenSpec.upto fnAloneSpec)) fnAloneUptoCard

/-- THE SECOND FORM's CARD OF 'laws.FnExactLockSliced'. -/
def fnExactLockSlicedUptoCard : Claim7 := { stood := { row := fnExactLockSlicedUptoRow, standIns := [], harness := (true, "42d9ffed03d1c78b24ea86715cf81f762fadcc49ee3f78b7dbbb38aeb1edeac6"), looks := true }, kinds := [], alts := [], laidByText := true, laidKinds := [.data], laidTests := true, laidLooks := .later }
def FnExactLockSlicedUptoCardSaid : Prop := Claim7.holds Tryz.pinned (.plain (OpenSpec.upto fnExactLockSlicedSpec)) fnExactLockSlicedUptoCard

/-- THE SECOND FORM's CARD OF 'laws.FnExactUnlockSliced'. -/
def fnExactUnlockSlicedUptoCard : Claim7 := { stood := { row := fnExactUnlockSlicedUptoRow, standIns := [], harness := (true, "42d9ffed03d1c78b24ea86715cf81f762fadcc49ee3f78b7dbbb38aeb1edeac6"), looks := true }, kinds := [], alts := [], laidByText := true, laidKinds := [.data, .data], laidTests := true, laidLooks := .later }
def FnExactUnlockSlicedUptoCardSaid : Prop := Claim7.holds Tryz.pinned (.plain (OpenSpec.upto fnExactUnlockSlicedSpec)) fnExactUnlockSlicedUptoCard

/-- THE SECOND FORM's CARD OF 'laws.FnExactLockBlocks'. -/
def fnExactLockBlocksUptoCard : Claim7 := { stood := { row := fnExactLockBlocksUptoRow, standIns := [], harness := (true, "42d9ffed03d1c78b24ea86715cf81f762fadcc49ee3f78b7dbbb38aeb1edeac6"), looks := true }, kinds := [], alts := [], laidByText := true, laidKinds := [.data], laidTests := true, laidLooks := .later }
def FnExactLockBlocksUptoCardSaid : Prop := Claim7.holds Tryz.pinned (.plain (OpenSpec.upto fnExactLockBlocksSpec)) fnExactLockBlocksUptoCard

/-- THE SECOND FORM's CARD OF 'laws.FnExactUnlockBlocks'. -/
def fnExactUnlockBlocksUptoCard : Claim7 := { stood := { row := fnExactUnlockBlocksUptoRow, standIns := [], harness := (true, "42d9ffed03d1c78b24ea86715cf81f762fadcc49ee3f78b7dbbb38aeb1edeac6"), looks := true }, kinds := [], alts := [], laidByText := true, laidKinds := [.data, .data], laidTests := true, laidLooks := .later }
def FnExactUnlockBlocksUptoCardSaid : Prop := Claim7.holds Tryz.pinned (.plain (OpenSpec.upto fnExactUnlockBlocksSpec)) fnExactUnlockBlocksUptoCard
end Rows
end Go.Proofs.YtkklkcajllpjpaaGreatDoor
