/-
  NARROWER THAN 'FOR EVERY INPUT', by the rows' own cells (each row's printed sentence says how): FnUnmixed: laid · FnColumns: laid · FnMix: laid · FnExactUnmixed: laid · FnExactMixColumns: laid · FnExactUnmixColumns: laid.
  DERIVED. THE GIVEN ROWS OF THIS SEAT. 6 by the template 'for every input the law returns true; each argument reads behind the call as it read before'; 0 by the template 'total and deterministic' (their statements: YtbgjeipgmlcgaaaDoorTotals.lean).
  GIVEN WITH THE SEED: the statements are not yours to turn. If you find one false, say at which input.
  Laid BY PROGRAM, IN A SANDBOX (cutbox-rows.mjs): the forced cells as the released guide's own fill.sh prints them over the translation b37137c42989d743… (all of the seat's roots in one cut). By AI agents, Wed Nov 11 2026. No macro, syntax, notation, axiom, sorry.
-/
import Derived.Test.YtbgjeipgmlcgaaaDoorChecked
import GoSem.Claim
import GoSem.ClaimJoined
import GoSem.ClaimMapViews
import Derived.JoinedTies
import Derived.KernelRfl
namespace Go.Proofs.YtbgjeipgmlcgaaaDoor
/- THE CELL 'sum', in the pinned program and in every row, IS THE sha256 OF THE DUMP (.gsa) THAT YtbgjeipgmlcgaaaDoorProg.lean LOADS. Nothing in Lean hashes anything: it is a label: what it is worth is what the hold of that sum in a sandbox is worth. -/
noncomputable def Tryd.pinned : Pinned := { name := "ytbgjeipgmlcgaaadoor", sum := "b37137c42989d7436ea939b6aa56d3077b549b7c2ac446c804f7ccb7105e21bc", checked := Tryd.checked }
namespace Rows
def none {H : Type} : Left H := { results := [], args := [] }

/- WHAT THE LISTED PACKAGE-LEVEL VARIABLES READ AS WHEN THE CALL BEGINS. Each datum BY PROGRAM (the guide's laid-datum.mjs) off the statement by which the dump's own 'gosem.cut.vars' lays the variable. In a bare row this is a premise. The card (YtbgjeipgmlcgaaaDoorCards.lean) ties it to the program's text. -/
def laid_loop_example_g00835_impl_unmixFactors {H : Type} : DataW H := .agg [.lit (.int .u8 14), .lit (.int .u8 9), .lit (.int .u8 13), .lit (.int .u8 11)]
def laid_loop_example_g00835_impl_mixFactors {H : Type} : DataW H := .agg [.lit (.int .u8 2), .lit (.int .u8 1), .lit (.int .u8 1), .lit (.int .u8 3)]

/-- 'laws.FnUnmixed': WHATEVER THE INPUT: true; the input reads as it did. -/
def fnUnmixedSpec : ChangeSpec := { name := "fnUnmixed", vars := ["loop.example/g00835/impl.unmixFactors", "loop.example/g00835/impl.mixFactors"], fn := fun _ => fun
  | [d, g1, g2] => { results := [.lit (.bool true)], args := [d], vars := [g1, g2] }
  | _ => none }
def fnUnmixedRow : OpenClaim := { program := "ytbgjeipgmlcgaaadoor", sum := "b37137c42989d7436ea939b6aa56d3077b549b7c2ac446c804f7ccb7105e21bc", func := "loop.example/g00835/laws.FnUnmixed", spec := "fnUnmixed", unfollowed := true, recurses := true, named := ["loop.example/g00835/impl.unmixFactors", "loop.example/g00835/impl.mixFactors"], apart := false, laid := [("loop.example/g00835/impl.unmixFactors", laid_loop_example_g00835_impl_unmixFactors), ("loop.example/g00835/impl.mixFactors", laid_loop_example_g00835_impl_mixFactors)] }
def FnUnmixedSaid : Prop := fnUnmixedRow.holds Tryd.pinned (OpenSpec.ofChange fnUnmixedSpec)

/-- ITS FALSE NEIGHBOUR: 'it returns false'. Refute it at one input. -/
def fnUnmixedWrong : ChangeSpec := { name := "fnUnmixed", vars := ["loop.example/g00835/impl.unmixFactors", "loop.example/g00835/impl.mixFactors"], fn := fun _ => fun
  | [d, g1, g2] => { results := [.lit (.bool false)], args := [d], vars := [g1, g2] }
  | _ => none }
def FnUnmixedWrongFalsely : Prop := fnUnmixedRow.holds Tryd.pinned (OpenSpec.ofChange fnUnmixedWrong)

/-- 'laws.FnColumns': WHATEVER THE INPUT: true; the input reads as it did. -/
def fnColumnsSpec : ChangeSpec := { name := "fnColumns", vars := ["loop.example/g00835/impl.mixFactors"], fn := fun _ => fun
  | [d, g1] => { results := [.lit (.bool true)], args := [d], vars := [g1] }
  | _ => none }
def fnColumnsRow : OpenClaim := { program := "ytbgjeipgmlcgaaadoor", sum := "b37137c42989d7436ea939b6aa56d3077b549b7c2ac446c804f7ccb7105e21bc", func := "loop.example/g00835/laws.FnColumns", spec := "fnColumns", unfollowed := true, recurses := true, named := ["loop.example/g00835/impl.mixFactors"], apart := false, laid := [("loop.example/g00835/impl.mixFactors", laid_loop_example_g00835_impl_mixFactors)] }
def FnColumnsSaid : Prop := fnColumnsRow.holds Tryd.pinned (OpenSpec.ofChange fnColumnsSpec)

/-- ITS FALSE NEIGHBOUR: 'it returns false'. Refute it at one input. -/
def fnColumnsWrong : ChangeSpec := { name := "fnColumns", vars := ["loop.example/g00835/impl.mixFactors"], fn := fun _ => fun
  | [d, g1] => { results := [.lit (.bool false)], args := [d], vars := [g1] }
  | _ => none }
def FnColumnsWrongFalsely : Prop := fnColumnsRow.holds Tryd.pinned (OpenSpec.ofChange fnColumnsWrong)

/-- 'laws.FnMix': WHATEVER THE INPUT: true; the input reads as it did. -/
def fnMixSpec : ChangeSpec := { name := "fnMix", vars := ["loop.example/g00835/impl.mixFactors"], fn := fun _ => fun
  | [d, g1] => { results := [.lit (.bool true)], args := [d], vars := [g1] }
  | _ => none }
def fnMixRow : OpenClaim := { program := "ytbgjeipgmlcgaaadoor", sum := "b37137c42989d7436ea939b6aa56d3077b549b7c2ac446c804f7ccb7105e21bc", func := "loop.example/g00835/laws.FnMix", spec := "fnMix", unfollowed := true, recurses := true, named := ["loop.example/g00835/impl.mixFactors"], apart := false, laid := [("loop.example/g00835/impl.mixFactors", laid_loop_example_g00835_impl_mixFactors)] }
def FnMixSaid : Prop := fnMixRow.holds Tryd.pinned (OpenSpec.ofChange fnMixSpec)

/-- ITS FALSE NEIGHBOUR: 'it returns false'. Refute it at one input. -/
def fnMixWrong : ChangeSpec := { name := "fnMix", vars := ["loop.example/g00835/impl.mixFactors"], fn := fun _ => fun
  | [d, g1] => { results := [.lit (.bool false)], args := [d], vars := [g1] }
  | _ => none }
def FnMixWrongFalsely : Prop := fnMixRow.holds Tryd.pinned (OpenSpec.ofChange fnMixWrong)

/-- 'laws.FnExactUnmixed': WHATEVER THE INPUT: true; the input reads as it did. -/
def fnExactUnmixedSpec : ChangeSpec := { name := "fnExactUnmixed", vars := ["loop.example/g00835/impl.unmixFactors"], fn := fun _ => fun
  | [d, g1] => { results := [.lit (.bool true)], args := [d], vars := [g1] }
  | _ => none }
def fnExactUnmixedRow : OpenClaim := { program := "ytbgjeipgmlcgaaadoor", sum := "b37137c42989d7436ea939b6aa56d3077b549b7c2ac446c804f7ccb7105e21bc", func := "loop.example/g00835/laws.FnExactUnmixed", spec := "fnExactUnmixed", unfollowed := true, recurses := true, named := ["loop.example/g00835/impl.unmixFactors"], apart := false, laid := [("loop.example/g00835/impl.unmixFactors", laid_loop_example_g00835_impl_unmixFactors)] }
def FnExactUnmixedSaid : Prop := fnExactUnmixedRow.holds Tryd.pinned (OpenSpec.ofChange fnExactUnmixedSpec)

/-- ITS FALSE NEIGHBOUR: 'it returns false'. Refute it at one input. -/
def fnExactUnmixedWrong : ChangeSpec := { name := "fnExactUnmixed", vars := ["loop.example/g00835/impl.unmixFactors"], fn := fun _ => fun
  | [d, g1] => { results := [.lit (.bool false)], args := [d], vars := [g1] }
  | _ => none }
def FnExactUnmixedWrongFalsely : Prop := fnExactUnmixedRow.holds Tryd.pinned (OpenSpec.ofChange fnExactUnmixedWrong)

/-- 'laws.FnExactMixColumns': WHATEVER THE INPUT: true; the input reads as it did. -/
def fnExactMixColumnsSpec : ChangeSpec := { name := "fnExactMixColumns", vars := ["loop.example/g00835/impl.mixFactors"], fn := fun _ => fun
  | [d, g1] => { results := [.lit (.bool true)], args := [d], vars := [g1] }
  | _ => none }
def fnExactMixColumnsRow : OpenClaim := { program := "ytbgjeipgmlcgaaadoor", sum := "b37137c42989d7436ea939b6aa56d3077b549b7c2ac446c804f7ccb7105e21bc", func := "loop.example/g00835/laws.FnExactMixColumns", spec := "fnExactMixColumns", unfollowed := true, recurses := true, named := ["loop.example/g00835/impl.mixFactors"], apart := false, laid := [("loop.example/g00835/impl.mixFactors", laid_loop_example_g00835_impl_mixFactors)] }
def FnExactMixColumnsSaid : Prop := fnExactMixColumnsRow.holds Tryd.pinned (OpenSpec.ofChange fnExactMixColumnsSpec)

/-- ITS FALSE NEIGHBOUR: 'it returns false'. Refute it at one input. -/
def fnExactMixColumnsWrong : ChangeSpec := { name := "fnExactMixColumns", vars := ["loop.example/g00835/impl.mixFactors"], fn := fun _ => fun
  | [d, g1] => { results := [.lit (.bool false)], args := [d], vars := [g1] }
  | _ => none }
def FnExactMixColumnsWrongFalsely : Prop := fnExactMixColumnsRow.holds Tryd.pinned (OpenSpec.ofChange fnExactMixColumnsWrong)

/-- 'laws.FnExactUnmixColumns': WHATEVER THE INPUT: true; the input reads as it did. -/
def fnExactUnmixColumnsSpec : ChangeSpec := { name := "fnExactUnmixColumns", vars := ["loop.example/g00835/impl.mixFactors"], fn := fun _ => fun
  | [d, g1] => { results := [.lit (.bool true)], args := [d], vars := [g1] }
  | _ => none }
def fnExactUnmixColumnsRow : OpenClaim := { program := "ytbgjeipgmlcgaaadoor", sum := "b37137c42989d7436ea939b6aa56d3077b549b7c2ac446c804f7ccb7105e21bc", func := "loop.example/g00835/laws.FnExactUnmixColumns", spec := "fnExactUnmixColumns", unfollowed := true, recurses := true, named := ["loop.example/g00835/impl.mixFactors"], apart := false, laid := [("loop.example/g00835/impl.mixFactors", laid_loop_example_g00835_impl_mixFactors)] }
def FnExactUnmixColumnsSaid : Prop := fnExactUnmixColumnsRow.holds Tryd.pinned (OpenSpec.ofChange fnExactUnmixColumnsSpec)

/-- ITS FALSE NEIGHBOUR: 'it returns false'. Refute it at one input. -/
def fnExactUnmixColumnsWrong : ChangeSpec := { name := "fnExactUnmixColumns", vars := ["loop.example/g00835/impl.mixFactors"], fn := fun _ => fun
  | [d, g1] => { results := [.lit (.bool false)], args := [d], vars := [g1] }
  | _ => none }
def FnExactUnmixColumnsWrongFalsely : Prop := fnExactUnmixColumnsRow.holds Tryd.pinned (OpenSpec.ofChange fnExactUnmixColumnsWrong)

/- THE SECOND FORM. 'bulk': how many values and letters a reading holds, each counted each time it is reached (what is shared counts as often as it is met; a slice's spare places count too). A statement '..UptoSaid' is the law's where the arguments, and the package variables that the reading takes, are together of bulk at most 1048576: NARROWER than '..Said'. Prove '..Said' where nothing that the law and all that it calls make is longer than what came in: it says more and counts as full. Else prove '..UptoSaid'. A law counts once. -/
mutual
def uptoBulk {H : Type} : DataW H → Nat
  | .lit (.string bytes) => bytes.length + 1
  | .lit _ => 1
  | .nil => 1
  | .ptr d => uptoBulk d + 1
  | .slice elems spare => uptoBulkAll elems + uptoBulkAll spare + 1
  | .agg parts => uptoBulkAll parts + 1
  | .iface _ d => uptoBulk d + 1
  | .map entries => uptoBulkEntries entries + 1
  | .held _ => 1
def uptoBulkAll {H : Type} : List (DataW H) → Nat
  | [] => 0
  | d :: r => uptoBulk d + uptoBulkAll r
def uptoBulkEntries {H : Type} : List (Lit × DataW H) → Nat
  | [] => 0
  | x :: r => uptoBulkEntry x + uptoBulkEntries r
def uptoBulkEntry {H : Type} : Lit × DataW H → Nat
  | (.string bytes, d) => bytes.length + uptoBulk d + 1
  | (_, d) => uptoBulk d + 1
 end
def uptoSmall : (H : Type) → List (DataW H) → Bool := fun _ ds => decide (uptoBulkAll ds ≤ 1048576)
def OpenSpec.upto (s : _root_.Go.ChangeSpec) : _root_.Go.OpenSpec := { _root_.Go.OpenSpec.ofChange s with cond := some uptoSmall }

/-- 'laws.FnUnmixed', WHERE WHAT IT READS IS OF BULK AT MOST 1048576: true; the input reads as it did. -/
def fnUnmixedUptoRow : OpenClaim := { program := "ytbgjeipgmlcgaaadoor", sum := "b37137c42989d7436ea939b6aa56d3077b549b7c2ac446c804f7ccb7105e21bc", func := "loop.example/g00835/laws.FnUnmixed", spec := "fnUnmixed", unfollowed := true, recurses := true, named := ["loop.example/g00835/impl.unmixFactors", "loop.example/g00835/impl.mixFactors"], apart := false, laid := [("loop.example/g00835/impl.unmixFactors", laid_loop_example_g00835_impl_unmixFactors), ("loop.example/g00835/impl.mixFactors", laid_loop_example_g00835_impl_mixFactors)], narrowed := true }
def FnUnmixedUptoSaid : Prop := fnUnmixedUptoRow.holds Tryd.pinned (OpenSpec.upto fnUnmixedSpec)

/-- 'laws.FnColumns', WHERE WHAT IT READS IS OF BULK AT MOST 1048576: true; the input reads as it did. -/
def fnColumnsUptoRow : OpenClaim := { program := "ytbgjeipgmlcgaaadoor", sum := "b37137c42989d7436ea939b6aa56d3077b549b7c2ac446c804f7ccb7105e21bc", func := "loop.example/g00835/laws.FnColumns", spec := "fnColumns", unfollowed := true, recurses := true, named := ["loop.example/g00835/impl.mixFactors"], apart := false, laid := [("loop.example/g00835/impl.mixFactors", laid_loop_example_g00835_impl_mixFactors)], narrowed := true }
def FnColumnsUptoSaid : Prop := fnColumnsUptoRow.holds Tryd.pinned (OpenSpec.upto fnColumnsSpec)

/-- 'laws.FnMix', WHERE WHAT IT READS IS OF BULK AT MOST 1048576: true; the input reads as it did. -/
def fnMixUptoRow : OpenClaim := { program := "ytbgjeipgmlcgaaadoor", sum := "b37137c42989d7436ea939b6aa56d3077b549b7c2ac446c804f7ccb7105e21bc", func := "loop.example/g00835/laws.FnMix", spec := "fnMix", unfollowed := true, recurses := true, named := ["loop.example/g00835/impl.mixFactors"], apart := false, laid := [("loop.example/g00835/impl.mixFactors", laid_loop_example_g00835_impl_mixFactors)], narrowed := true }
def FnMixUptoSaid : Prop := fnMixUptoRow.holds Tryd.pinned (OpenSpec.upto fnMixSpec)

/-- 'laws.FnExactUnmixed', WHERE WHAT IT READS IS OF BULK AT MOST 1048576: true; the input reads as it did. -/
def fnExactUnmixedUptoRow : OpenClaim := { program := "ytbgjeipgmlcgaaadoor", sum := "b37137c42989d7436ea939b6aa56d3077b549b7c2ac446c804f7ccb7105e21bc", func := "loop.example/g00835/laws.FnExactUnmixed", spec := "fnExactUnmixed", unfollowed := true, recurses := true, named := ["loop.example/g00835/impl.unmixFactors"], apart := false, laid := [("loop.example/g00835/impl.unmixFactors", laid_loop_example_g00835_impl_unmixFactors)], narrowed := true }
def FnExactUnmixedUptoSaid : Prop := fnExactUnmixedUptoRow.holds Tryd.pinned (OpenSpec.upto fnExactUnmixedSpec)

/-- 'laws.FnExactMixColumns', WHERE WHAT IT READS IS OF BULK AT MOST 1048576: true; the input reads as it did. -/
def fnExactMixColumnsUptoRow : OpenClaim := { program := "ytbgjeipgmlcgaaadoor", sum := "b37137c42989d7436ea939b6aa56d3077b549b7c2ac446c804f7ccb7105e21bc", func := "loop.example/g00835/laws.FnExactMixColumns", spec := "fnExactMixColumns", unfollowed := true, recurses := true, named := ["loop.example/g00835/impl.mixFactors"], apart := false, laid := [("loop.example/g00835/impl.mixFactors", laid_loop_example_g00835_impl_mixFactors)], narrowed := true }
def FnExactMixColumnsUptoSaid : Prop := fnExactMixColumnsUptoRow.holds Tryd.pinned (OpenSpec.upto fnExactMixColumnsSpec)

/-- 'laws.FnExactUnmixColumns', WHERE WHAT IT READS IS OF BULK AT MOST 1048576: true; the input reads as it did. -/
def fnExactUnmixColumnsUptoRow : OpenClaim := { program := "ytbgjeipgmlcgaaadoor", sum := "b37137c42989d7436ea939b6aa56d3077b549b7c2ac446c804f7ccb7105e21bc", func := "loop.example/g00835/laws.FnExactUnmixColumns", spec := "fnExactUnmixColumns", unfollowed := true, recurses := true, named := ["loop.example/g00835/impl.mixFactors"], apart := false, laid := [("loop.example/g00835/impl.mixFactors", laid_loop_example_g00835_impl_mixFactors)], narrowed := true }
def FnExactUnmixColumnsUptoSaid : Prop := fnExactUnmixColumnsUptoRow.holds Tryd.pinned (OpenSpec.upto fnExactUnmixColumnsSpec)

end Rows
end Go.Proofs.YtbgjeipgmlcgaaaDoor
