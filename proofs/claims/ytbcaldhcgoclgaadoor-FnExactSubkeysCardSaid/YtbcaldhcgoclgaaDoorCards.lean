/-
  DERIVED. GIVEN WITH THE SEED: THE CARDS: each row of YtbcaldhcgoclgaaDoorRows.lean that lists a variable, with what it lists TIED to the program's text (the seventh form; the later family's looks); each row that meets fmt, with fmt's text TOLD by the authors' own Lean function (tested against real Go, not proved from fmt's source: count such statements apart). THE CARD IS WHAT COUNTS. Prove the row's statement (the work); the ties are given (YtbcaldhcgoclgaaDoorTie.lean); close each card by the builder's one call (the guide's Derived/Test/ToyasCard.lean, 'card_holds'). Laid BY PROGRAM, IN A SANDBOX (cutbox-door.mjs). By AI agents, Wed Nov 11 2026. No macro, syntax, notation, axiom, sorry.
-/
import Derived.Test.YtbcaldhcgoclgaaDoorRows
import GoSem.ClaimSeven
namespace Go.Proofs.YtbcaldhcgoclgaaDoor
namespace Rows

/-- THE TIED CARD OF 'laws.FnExactSubkeys'. -/
def fnExactSubkeysCard : Claim7 := { stood := { row := fnExactSubkeysRow, standIns := [], harness := (true, "d44762d5819d9c10bc87288039d15b9338d5d7c153e7ffdd30f1b349acb14a3b"), looks := false }, kinds := [], alts := [], laidByText := true, laidKinds := [.data], laidTests := true, laidLooks := .later }
def FnExactSubkeysCardSaid : Prop := Claim7.holds Tryd.pinned (.plain (OpenSpec.ofChange fnExactSubkeysSpec)) fnExactSubkeysCard

/-- THE SECOND FORM's CARD OF 'laws.FnExactSubkeys'. -/
def fnExactSubkeysUptoCard : Claim7 := { stood := { row := fnExactSubkeysUptoRow, standIns := [], harness := (true, "d44762d5819d9c10bc87288039d15b9338d5d7c153e7ffdd30f1b349acb14a3b"), looks := false }, kinds := [], alts := [], laidByText := true, laidKinds := [.data], laidTests := true, laidLooks := .later }
def FnExactSubkeysUptoCardSaid : Prop := Claim7.holds Tryd.pinned (.plain (OpenSpec.upto fnExactSubkeysSpec)) fnExactSubkeysUptoCard
end Rows
end Go.Proofs.YtbcaldhcgoclgaaDoor
