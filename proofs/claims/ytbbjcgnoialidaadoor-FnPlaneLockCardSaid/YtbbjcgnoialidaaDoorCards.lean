/-
  DERIVED. GIVEN WITH THE SEED: THE CARDS: each row of YtbbjcgnoialidaaDoorRows.lean that lists a variable, with what it lists TIED to the program's text (the seventh form; the later family's looks); each row that meets fmt, with fmt's text TOLD by the authors' own Lean function (tested against real Go, not proved from fmt's source: count such statements apart). THE CARD IS WHAT COUNTS. Prove the row's statement (the work); the ties are given (YtbbjcgnoialidaaDoorTie.lean); close each card by the builder's one call (the guide's Derived/Test/ToyasCard.lean, 'card_holds'). Laid BY PROGRAM, IN A SANDBOX (cutbox-door.mjs). By AI agents, Wed Nov 11 2026. No macro, syntax, notation, axiom, sorry.
-/
import Derived.Test.YtbbjcgnoialidaaDoorRows
import GoSem.ClaimSeven
namespace Go.Proofs.YtbbjcgnoialidaaDoor
namespace Rows

/-- THE TIED CARD OF 'laws.FnPlaneRound'. -/
def fnPlaneRoundCard : Claim7 := { stood := { row := fnPlaneRoundRow, standIns := [], harness := (true, "524423b7a0f51dfa36b04882288f9ed57a397cfcd76ee07a6e26e655aa2e90b1"), looks := false }, kinds := [], alts := [], laidByText := true, laidKinds := [.data, .data], laidTests := true, laidLooks := .later }
def FnPlaneRoundCardSaid : Prop := Claim7.holds Tryd.pinned (.plain (OpenSpec.ofChange fnPlaneRoundSpec)) fnPlaneRoundCard

/-- THE TIED CARD OF 'laws.FnPlaneLock'. -/
def fnPlaneLockCard : Claim7 := { stood := { row := fnPlaneLockRow, standIns := [], harness := (true, "524423b7a0f51dfa36b04882288f9ed57a397cfcd76ee07a6e26e655aa2e90b1"), looks := false }, kinds := [], alts := [], laidByText := true, laidKinds := [.data, .data], laidTests := true, laidLooks := .later }
def FnPlaneLockCardSaid : Prop := Claim7.holds Tryd.pinned (.plain (OpenSpec.ofChange fnPlaneLockSpec)) fnPlaneLockCard

/-- THE TIED CARD OF 'laws.FnExactPlaneColumns'. -/
def fnExactPlaneColumnsCard : Claim7 := { stood := { row := fnExactPlaneColumnsRow, standIns := [], harness := (true, "524423b7a0f51dfa36b04882288f9ed57a397cfcd76ee07a6e26e655aa2e90b1"), looks := false }, kinds := [], alts := [], laidByText := true, laidKinds := [.data, .data], laidTests := true, laidLooks := .later }
def FnExactPlaneColumnsCardSaid : Prop := Claim7.holds Tryd.pinned (.plain (OpenSpec.ofChange fnExactPlaneColumnsSpec)) fnExactPlaneColumnsCard

/-- THE SECOND FORM's CARD OF 'laws.FnPlaneRound'. -/
def fnPlaneRoundUptoCard : Claim7 := { stood := { row := fnPlaneRoundUptoRow, standIns := [], harness := (true, "524423b7a0f51dfa36b04882288f9ed57a397cfcd76ee07a6e26e655aa2e90b1"), looks := false }, kinds := [], alts := [], laidByText := true, laidKinds := [.data, .data], laidTests := true, laidLooks := .later }
def FnPlaneRoundUptoCardSaid : Prop := Claim7.holds Tryd.pinned (.plain (OpenSpec.upto fnPlaneRoundSpec)) fnPlaneRoundUptoCard

/-- THE SECOND FORM's CARD OF 'laws.FnPlaneLock'. -/
def fnPlaneLockUptoCard : Claim7 := { stood := { row := fnPlaneLockUptoRow, standIns := [], harness := (true, "524423b7a0f51dfa36b04882288f9ed57a397cfcd76ee07a6e26e655aa2e90b1"), looks := false }, kinds := [], alts := [], laidByText := true, laidKinds := [.data, .data], laidTests := true, laidLooks := .later }
def FnPlaneLockUptoCardSaid : Prop := Claim7.holds Tryd.pinned (.plain (OpenSpec.upto fnPlaneLockSpec)) fnPlaneLockUptoCard

/-- THE SECOND FORM's CARD OF 'laws.FnExactPlaneColumns'. -/
def fnExactPlaneColumnsUptoCard : Claim7 := { stood := { row := fnExactPlaneColumnsUptoRow, standIns := [], harness := (true, "524423b7a0f51dfa36b04882288f9ed57a397cfcd76ee07a6e26e655aa2e90b1"), looks := false }, kinds := [], alts := [], laidByText := true, laidKinds := [.data, .data], laidTests := true, laidLooks := .later }
def FnExactPlaneColumnsUptoCardSaid : Prop := Claim7.holds Tryd.pinned (.plain (OpenSpec.upto fnExactPlaneColumnsSpec)) fnExactPlaneColumnsUptoCard
end Rows
end Go.Proofs.YtbbjcgnoialidaaDoor
