/-
  NARROWER THAN 'FOR EVERY INPUT', by the rows' own cells (each row's printed sentence says how): FnPlaneRound: laid · FnPlaneLock: laid · FnExactPlaneColumns: laid.
  DERIVED. THE GIVEN ROWS OF THIS SEAT. 3 by the template 'for every input the law returns true; each argument reads behind the call as it read before'; 0 by the template 'total and deterministic' (their statements: YtbbjcgnoialidaaDoorTotals.lean).
  GIVEN WITH THE SEED: the statements are not yours to turn. If you find one false, say at which input.
  Laid BY PROGRAM, IN A SANDBOX (cutbox-rows.mjs): the forced cells as the released guide's own fill.sh prints them over the translation 1564d9e4bf252ee9… (all of the seat's roots in one cut). By AI agents, Wed Nov 11 2026. No macro, syntax, notation, axiom, sorry.
-/
import Derived.Test.YtbbjcgnoialidaaDoorChecked
import GoSem.Claim
import GoSem.ClaimJoined
import GoSem.ClaimMapViews
import Derived.JoinedTies
import Derived.KernelRfl
namespace Go.Proofs.YtbbjcgnoialidaaDoor
/- THE CELL 'sum', in the pinned program and in every row, IS THE sha256 OF THE DUMP (.gsa) THAT YtbbjcgnoialidaaDoorProg.lean LOADS. Nothing in Lean hashes anything: it is a label: what it is worth is what the hold of that sum in a sandbox is worth. -/
noncomputable def Tryd.pinned : Pinned := { name := "ytbbjcgnoialidaadoor", sum := "1564d9e4bf252ee96cbe86355b1d9b397b251b300a8709930f9fe99e94bbf24e", checked := Tryd.checked }
namespace Rows
def none {H : Type} : Left H := { results := [], args := [] }

/- WHAT THE LISTED PACKAGE-LEVEL VARIABLES READ AS WHEN THE CALL BEGINS. Each datum BY PROGRAM (the guide's laid-datum.mjs) off the statement by which the dump's own 'gosem.cut.vars' lays the variable. In a bare row this is a premise. The card (YtbbjcgnoialidaaDoorCards.lean) ties it to the program's text. -/
def laid_loop_example_g00835_impl_unmixFactors {H : Type} : DataW H := .agg [.lit (.int .u8 14), .lit (.int .u8 9), .lit (.int .u8 13), .lit (.int .u8 11)]
def laid_loop_example_g00835_impl_mixFactors {H : Type} : DataW H := .agg [.lit (.int .u8 2), .lit (.int .u8 1), .lit (.int .u8 1), .lit (.int .u8 3)]

/-- 'laws.FnPlaneRound': WHATEVER THE INPUT: true; the input reads as it did. -/
def fnPlaneRoundSpec : ChangeSpec := { name := "fnPlaneRound", vars := ["loop.example/g00835/impl.unmixFactors", "loop.example/g00835/impl.mixFactors"], fn := fun _ => fun
  | [d, g1, g2] => { results := [.lit (.bool true)], args := [d], vars := [g1, g2] }
  | _ => none }
def fnPlaneRoundRow : OpenClaim := { program := "ytbbjcgnoialidaadoor", sum := "1564d9e4bf252ee96cbe86355b1d9b397b251b300a8709930f9fe99e94bbf24e", func := "loop.example/g00835/laws.FnPlaneRound", spec := "fnPlaneRound", named := ["loop.example/g00835/impl.unmixFactors", "loop.example/g00835/impl.mixFactors"], apart := false, laid := [("loop.example/g00835/impl.unmixFactors", laid_loop_example_g00835_impl_unmixFactors), ("loop.example/g00835/impl.mixFactors", laid_loop_example_g00835_impl_mixFactors)] }
def FnPlaneRoundSaid : Prop := fnPlaneRoundRow.holds Tryd.pinned (OpenSpec.ofChange fnPlaneRoundSpec)

/-- ITS FALSE NEIGHBOUR: 'it returns false'. Refute it at one input. -/
def fnPlaneRoundWrong : ChangeSpec := { name := "fnPlaneRound", vars := ["loop.example/g00835/impl.unmixFactors", "loop.example/g00835/impl.mixFactors"], fn := fun _ => fun
  | [d, g1, g2] => { results := [.lit (.bool false)], args := [d], vars := [g1, g2] }
  | _ => none }
def FnPlaneRoundWrongFalsely : Prop := fnPlaneRoundRow.holds Tryd.pinned (OpenSpec.ofChange fnPlaneRoundWrong)

/-- 'laws.FnPlaneLock': WHATEVER THE INPUT: true; the input reads as it did. -/
def fnPlaneLockSpec : ChangeSpec := { name := "fnPlaneLock", vars := ["loop.example/g00835/impl.unmixFactors", "loop.example/g00835/impl.mixFactors"], fn := fun _ => fun
  | [d, g1, g2] => { results := [.lit (.bool true)], args := [d], vars := [g1, g2] }
  | _ => none }
def fnPlaneLockRow : OpenClaim := { program := "ytbbjcgnoialidaadoor", sum := "1564d9e4bf252ee96cbe86355b1d9b397b251b300a8709930f9fe99e94bbf24e", func := "loop.example/g00835/laws.FnPlaneLock", spec := "fnPlaneLock", inPlace := ["internal/abi.NoEscape", "internal/bytealg.MakeNoZero"], named := ["loop.example/g00835/impl.unmixFactors", "loop.example/g00835/impl.mixFactors"], apart := false, laid := [("loop.example/g00835/impl.unmixFactors", laid_loop_example_g00835_impl_unmixFactors), ("loop.example/g00835/impl.mixFactors", laid_loop_example_g00835_impl_mixFactors)] }
def FnPlaneLockSaid : Prop := fnPlaneLockRow.holds Tryd.pinned (OpenSpec.ofChange fnPlaneLockSpec)

/-- ITS FALSE NEIGHBOUR: 'it returns false'. Refute it at one input. -/
def fnPlaneLockWrong : ChangeSpec := { name := "fnPlaneLock", vars := ["loop.example/g00835/impl.unmixFactors", "loop.example/g00835/impl.mixFactors"], fn := fun _ => fun
  | [d, g1, g2] => { results := [.lit (.bool false)], args := [d], vars := [g1, g2] }
  | _ => none }
def FnPlaneLockWrongFalsely : Prop := fnPlaneLockRow.holds Tryd.pinned (OpenSpec.ofChange fnPlaneLockWrong)

/-- 'laws.FnExactPlaneColumns': WHATEVER THE INPUT: true; the input reads as it did. -/
def fnExactPlaneColumnsSpec : ChangeSpec := { name := "fnExactPlaneColumns", vars := ["loop.example/g00835/impl.unmixFactors", "loop.example/g00835/impl.mixFactors"], fn := fun _ => fun
  | [d1, d2, g1, g2] => { results := [.lit (.bool true)], args := [d1, d2], vars := [g1, g2] }
  | _ => none }
def fnExactPlaneColumnsRow : OpenClaim := { program := "ytbbjcgnoialidaadoor", sum := "1564d9e4bf252ee96cbe86355b1d9b397b251b300a8709930f9fe99e94bbf24e", func := "loop.example/g00835/laws.FnExactPlaneColumns", spec := "fnExactPlaneColumns", named := ["loop.example/g00835/impl.unmixFactors", "loop.example/g00835/impl.mixFactors"], apart := false, laid := [("loop.example/g00835/impl.unmixFactors", laid_loop_example_g00835_impl_unmixFactors), ("loop.example/g00835/impl.mixFactors", laid_loop_example_g00835_impl_mixFactors)] }
def FnExactPlaneColumnsSaid : Prop := fnExactPlaneColumnsRow.holds Tryd.pinned (OpenSpec.ofChange fnExactPlaneColumnsSpec)

/-- ITS FALSE NEIGHBOUR: 'it returns false'. Refute it at one input. -/
def fnExactPlaneColumnsWrong : ChangeSpec := { name := "fnExactPlaneColumns", vars := ["loop.example/g00835/impl.unmixFactors", "loop.example/g00835/impl.mixFactors"], fn := fun _ => fun
  | [d1, d2, g1, g2] => { results := [.lit (.bool false)], args := [d1, d2], vars := [g1, g2] }
  | _ => none }
def FnExactPlaneColumnsWrongFalsely : Prop := fnExactPlaneColumnsRow.holds Tryd.pinned (OpenSpec.ofChange fnExactPlaneColumnsWrong)

/- THE SECOND FORM. 'bulk': how many values and letters a reading holds, each counted each time it is reached (what is shared counts as often as it is met; a slice's spare places count too). A statement '..UptoSaid' is the law's where the arguments, and the package variables that the reading takes, are together of bulk at most 1048576: NARROWER than '..Said'. Prove '..Said' where nothing that the law and all that it calls make is longer than what came in: it says more and counts as full. Else prove '..UptoSaid'. A law counts once. -/
mutual
def uptoBulk {H : Type} : DataW H → Nat
  | .lit (.string bytes) => bytes.length + 1
  | .lit _ => 1
  | .nil => 1
  | .ptr d => uptoBulk d + 1
  | .slice elems spare => uptoBulkAll elems + uptoBulkAll spare + 1
  | .agg parts => uptoBulkAll parts + 1
  | .iface _ d => uptoBulk d + 1
  | .map entries => uptoBulkEntries entries + 1
  | .held _ => 1
def uptoBulkAll {H : Type} : List (DataW H) → Nat
  | [] => 0
  | d :: r => uptoBulk d + uptoBulkAll r
def uptoBulkEntries {H : Type} : List (Lit × DataW H) → Nat
  | [] => 0
  | x :: r => uptoBulkEntry x + uptoBulkEntries r
def uptoBulkEntry {H : Type} : Lit × DataW H → Nat
  | (.string bytes, d) => bytes.length + uptoBulk d + 1
  | (_, d) => uptoBulk d + 1
 end
def uptoSmall : (H : Type) → List (DataW H) → Bool := fun _ ds => decide (uptoBulkAll ds ≤ 1048576)
def OpenSpec.upto (s : _root_.Go.ChangeSpec) : _root_.Go.OpenSpec := { _root_.Go.OpenSpec.ofChange s with cond := some uptoSmall }

/-- 'laws.FnPlaneRound', WHERE WHAT IT READS IS OF BULK AT MOST 1048576: true; the input reads as it did. -/
def fnPlaneRoundUptoRow : OpenClaim := { program := "ytbbjcgnoialidaadoor", sum := "1564d9e4bf252ee96cbe86355b1d9b397b251b300a8709930f9fe99e94bbf24e", func := "loop.example/g00835/laws.FnPlaneRound", spec := "fnPlaneRound", named := ["loop.example/g00835/impl.unmixFactors", "loop.example/g00835/impl.mixFactors"], apart := false, laid := [("loop.example/g00835/impl.unmixFactors", laid_loop_example_g00835_impl_unmixFactors), ("loop.example/g00835/impl.mixFactors", laid_loop_example_g00835_impl_mixFactors)], narrowed := true }
def FnPlaneRoundUptoSaid : Prop := fnPlaneRoundUptoRow.holds Tryd.pinned (OpenSpec.upto fnPlaneRoundSpec)

/-- 'laws.FnPlaneLock', WHERE WHAT IT READS IS OF BULK AT MOST 1048576: true; the input reads as it did. -/
def fnPlaneLockUptoRow : OpenClaim := { program := "ytbbjcgnoialidaadoor", sum := "1564d9e4bf252ee96cbe86355b1d9b397b251b300a8709930f9fe99e94bbf24e", func := "loop.example/g00835/laws.FnPlaneLock", spec := "fnPlaneLock", inPlace := ["internal/abi.NoEscape", "internal/bytealg.MakeNoZero"], named := ["loop.example/g00835/impl.unmixFactors", "loop.example/g00835/impl.mixFactors"], apart := false, laid := [("loop.example/g00835/impl.unmixFactors", laid_loop_example_g00835_impl_unmixFactors), ("loop.example/g00835/impl.mixFactors", laid_loop_example_g00835_impl_mixFactors)], narrowed := true }
def FnPlaneLockUptoSaid : Prop := fnPlaneLockUptoRow.holds Tryd.pinned (OpenSpec.upto fnPlaneLockSpec)

/-- 'laws.FnExactPlaneColumns', WHERE WHAT IT READS IS OF BULK AT MOST 1048576: true; the input reads as it did. -/
def fnExactPlaneColumnsUptoRow : OpenClaim := { program := "ytbbjcgnoialidaadoor", sum := "1564d9e4bf252ee96cbe86355b1d9b397b251b300a8709930f9fe99e94bbf24e", func := "loop.example/g00835/laws.FnExactPlaneColumns", spec := "fnExactPlaneColumns", named := ["loop.example/g00835/impl.unmixFactors", "loop.example/g00835/impl.mixFactors"], apart := false, laid := [("loop.example/g00835/impl.unmixFactors", laid_loop_example_g00835_impl_unmixFactors), ("loop.example/g00835/impl.mixFactors", laid_loop_example_g00835_impl_mixFactors)], narrowed := true }
def FnExactPlaneColumnsUptoSaid : Prop := fnExactPlaneColumnsUptoRow.holds Tryd.pinned (OpenSpec.upto fnExactPlaneColumnsSpec)

end Rows
end Go.Proofs.YtbbjcgnoialidaaDoor
