/-
  DERIVED. GIVEN WITH THE SEED: THE CARDS: each row of YtioijcgokdnofaaDoorRows.lean that lists a variable, with what it lists TIED to the program's text (the seventh form; the later family's looks); each row that meets fmt, with fmt's text TOLD by the authors' own Lean function (tested against real Go, not proved from fmt's source: count such statements apart). THE CARD IS WHAT COUNTS. Prove the row's statement (the work); the ties are given (YtioijcgokdnofaaDoorTie.lean); close each card by the builder's one call (the guide's Derived/Test/ToyasCard.lean, 'card_holds'). Laid BY PROGRAM, IN A SANDBOX (cutbox-door.mjs). By AI agents, Wed Nov 11 2026. No macro, syntax, notation, axiom, sorry.
-/
import Derived.Test.YtioijcgokdnofaaDoorRows
import GoSem.ClaimSeven
namespace Go.Proofs.YtioijcgokdnofaaDoor
namespace Rows

/-- THE TIED CARD OF 'laws.FnExactUnmixed'. -/
def fnExactUnmixedCard : Claim7 := { stood := { row := fnExactUnmixedRow, standIns := [], harness := (true, "8b61468ef18a718539a186fd9c3ab24ac14a928e8604b162b850dffdf6c5a4ba"), looks := false }, kinds := [], alts := [], laidByText := true, laidKinds := [.data], laidTests := true, laidLooks := .later }
def FnExactUnmixedCardSaid : Prop := Claim7.holds Tryd.pinned (.plain (OpenSpec.ofChange fnExactUnmixedSpec)) fnExactUnmixedCard

/-- THE SECOND FORM's CARD OF 'laws.FnExactUnmixed'. -/
def fnExactUnmixedUptoCard : Claim7 := { stood := { row := fnExactUnmixedUptoRow, standIns := [], harness := (true, "8b61468ef18a718539a186fd9c3ab24ac14a928e8604b162b850dffdf6c5a4ba"), looks := false }, kinds := [], alts := [], laidByText := true, laidKinds := [.data], laidTests := true, laidLooks := .later }
def FnExactUnmixedUptoCardSaid : Prop := Claim7.holds Tryd.pinned (.plain (OpenSpec.upto fnExactUnmixedSpec)) fnExactUnmixedUptoCard
end Rows
end Go.Proofs.YtioijcgokdnofaaDoor
