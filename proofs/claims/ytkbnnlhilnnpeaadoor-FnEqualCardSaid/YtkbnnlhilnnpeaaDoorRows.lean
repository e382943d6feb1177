/-
  NARROWER THAN 'FOR EVERY INPUT', by the rows' own cells (each row's printed sentence says how): FnUnmixed: laid · FnTable: laid · FnRound: laid · FnBack: laid · FnEqual: laid · FnExactUnmixed: laid · FnExactTable: laid · FnExactUntable: laid.
  DERIVED. THE GIVEN ROWS OF THIS SEAT. 8 by the template 'for every input the law returns true; each argument reads behind the call as it read before'; 0 by the template 'total and deterministic' (their statements: YtkbnnlhilnnpeaaDoorTotals.lean).
  GIVEN WITH THE SEED: the statements are not yours to turn. If you find one false, say at which input.
  Laid BY PROGRAM, IN A SANDBOX (cutbox-rows.mjs): the forced cells as the released guide's own fill.sh prints them over the translation 7d2d01f5eebcbc25… (all of the seat's roots in one cut). By AI agents, Wed Nov 11 2026. No macro, syntax, notation, axiom, sorry.
-/
import Derived.Test.YtkbnnlhilnnpeaaDoorChecked
import GoSem.Claim
import GoSem.ClaimJoined
import GoSem.ClaimMapViews
import Derived.JoinedTies
import Derived.KernelRfl
namespace Go.Proofs.YtkbnnlhilnnpeaaDoor
/- THE CELL 'sum', in the pinned program and in every row, IS THE sha256 OF THE DUMP (.gsa) THAT YtkbnnlhilnnpeaaDoorProg.lean LOADS. Nothing in Lean hashes anything: it is a label: what it is worth is what the hold of that sum in a sandbox is worth. -/
noncomputable def Tryd.pinned : Pinned := { name := "ytkbnnlhilnnpeaadoor", sum := "7d2d01f5eebcbc25d5cfd1838c7c21f2ff5ee59298d0425d5fda4a5c3ad9fd4d", checked := Tryd.checked }
namespace Rows
def none {H : Type} : Left H := { results := [], args := [] }

/- WHAT THE LISTED PACKAGE-LEVEL VARIABLES READ AS WHEN THE CALL BEGINS. Each datum BY PROGRAM (the guide's laid-datum.mjs) off the statement by which the dump's own 'gosem.cut.vars' lays the variable. In a bare row this is a premise. The card (YtkbnnlhilnnpeaaDoorCards.lean) ties it to the program's text. -/
def laid_loop_example_g00835_impl_unmixFactors {H : Type} : DataW H := .agg [.lit (.int .u8 14), .lit (.int .u8 9), .lit (.int .u8 13), .lit (.int .u8 11)]
def laid_loop_example_g00835_impl_mixFactors {H : Type} : DataW H := .agg [.lit (.int .u8 2), .lit (.int .u8 1), .lit (.int .u8 1), .lit (.int .u8 3)]

/-- 'laws.FnUnmixed': WHATEVER THE INPUT: true; the input reads as it did. -/
def fnUnmixedSpec : ChangeSpec := { name := "fnUnmixed", vars := ["loop.example/g00835/impl.unmixFactors", "loop.example/g00835/impl.mixFactors"], fn := fun _ => fun
  | [d, g1, g2] => { results := [.lit (.bool true)], args := [d], vars := [g1, g2] }
  | _ => none }
def fnUnmixedRow : OpenClaim := { program := "ytkbnnlhilnnpeaadoor", sum := "7d2d01f5eebcbc25d5cfd1838c7c21f2ff5ee59298d0425d5fda4a5c3ad9fd4d", func := "loop.example/g00835/laws.FnUnmixed", spec := "fnUnmixed", unfollowed := true, recurses := true, named := ["loop.example/g00835/impl.unmixFactors", "loop.example/g00835/impl.mixFactors"], apart := false, laid := [("loop.example/g00835/impl.unmixFactors", laid_loop_example_g00835_impl_unmixFactors), ("loop.example/g00835/impl.mixFactors", laid_loop_example_g00835_impl_mixFactors)] }
def FnUnmixedSaid : Prop := fnUnmixedRow.holds Tryd.pinned (OpenSpec.ofChange fnUnmixedSpec)

/-- ITS FALSE NEIGHBOUR: 'it returns false'. Refute it at one input. -/
def fnUnmixedWrong : ChangeSpec := { name := "fnUnmixed", vars := ["loop.example/g00835/impl.unmixFactors", "loop.example/g00835/impl.mixFactors"], fn := fun _ => fun
  | [d, g1, g2] => { results := [.lit (.bool false)], args := [d], vars := [g1, g2] }
  | _ => none }
def FnUnmixedWrongFalsely : Prop := fnUnmixedRow.holds Tryd.pinned (OpenSpec.ofChange fnUnmixedWrong)

/-- 'laws.FnTable': WHATEVER THE INPUT: true; the input reads as it did. -/
def fnTableSpec : ChangeSpec := { name := "fnTable", vars := ["loop.example/g00835/impl.mixFactors", "loop.example/g00835/impl.unmixFactors"], fn := fun _ => fun
  | [d, g1, g2] => { results := [.lit (.bool true)], args := [d], vars := [g1, g2] }
  | _ => none }
def fnTableRow : OpenClaim := { program := "ytkbnnlhilnnpeaadoor", sum := "7d2d01f5eebcbc25d5cfd1838c7c21f2ff5ee59298d0425d5fda4a5c3ad9fd4d", func := "loop.example/g00835/laws.FnTable", spec := "fnTable", unfollowed := true, recurses := true, named := ["loop.example/g00835/impl.mixFactors", "loop.example/g00835/impl.unmixFactors"], apart := false, laid := [("loop.example/g00835/impl.unmixFactors", laid_loop_example_g00835_impl_unmixFactors), ("loop.example/g00835/impl.mixFactors", laid_loop_example_g00835_impl_mixFactors)] }
def FnTableSaid : Prop := fnTableRow.holds Tryd.pinned (OpenSpec.ofChange fnTableSpec)

/-- ITS FALSE NEIGHBOUR: 'it returns false'. Refute it at one input. -/
def fnTableWrong : ChangeSpec := { name := "fnTable", vars := ["loop.example/g00835/impl.mixFactors", "loop.example/g00835/impl.unmixFactors"], fn := fun _ => fun
  | [d, g1, g2] => { results := [.lit (.bool false)], args := [d], vars := [g1, g2] }
  | _ => none }
def FnTableWrongFalsely : Prop := fnTableRow.holds Tryd.pinned (OpenSpec.ofChange fnTableWrong)

/-- 'laws.FnRound': WHATEVER THE INPUT: true; the input reads as it did. -/
def fnRoundSpec : ChangeSpec := { name := "fnRound", vars := ["loop.example/g00835/impl.mixFactors"], fn := fun _ => fun
  | [d, g1] => { results := [.lit (.bool true)], args := [d], vars := [g1] }
  | _ => none }
def fnRoundRow : OpenClaim := { program := "ytkbnnlhilnnpeaadoor", sum := "7d2d01f5eebcbc25d5cfd1838c7c21f2ff5ee59298d0425d5fda4a5c3ad9fd4d", func := "loop.example/g00835/laws.FnRound", spec := "fnRound", unfollowed := true, recurses := true, named := ["loop.example/g00835/impl.mixFactors"], apart := false, laid := [("loop.example/g00835/impl.mixFactors", laid_loop_example_g00835_impl_mixFactors)] }
def FnRoundSaid : Prop := fnRoundRow.holds Tryd.pinned (OpenSpec.ofChange fnRoundSpec)

/-- ITS FALSE NEIGHBOUR: 'it returns false'. Refute it at one input. -/
def fnRoundWrong : ChangeSpec := { name := "fnRound", vars := ["loop.example/g00835/impl.mixFactors"], fn := fun _ => fun
  | [d, g1] => { results := [.lit (.bool false)], args := [d], vars := [g1] }
  | _ => none }
def FnRoundWrongFalsely : Prop := fnRoundRow.holds Tryd.pinned (OpenSpec.ofChange fnRoundWrong)

/-- 'laws.FnBack': WHATEVER THE INPUT: true; the input reads as it did. -/
def fnBackSpec : ChangeSpec := { name := "fnBack", vars := ["loop.example/g00835/impl.mixFactors"], fn := fun _ => fun
  | [d, g1] => { results := [.lit (.bool true)], args := [d], vars := [g1] }
  | _ => none }
def fnBackRow : OpenClaim := { program := "ytkbnnlhilnnpeaadoor", sum := "7d2d01f5eebcbc25d5cfd1838c7c21f2ff5ee59298d0425d5fda4a5c3ad9fd4d", func := "loop.example/g00835/laws.FnBack", spec := "fnBack", unfollowed := true, recurses := true, named := ["loop.example/g00835/impl.mixFactors"], apart := false, laid := [("loop.example/g00835/impl.mixFactors", laid_loop_example_g00835_impl_mixFactors)] }
def FnBackSaid : Prop := fnBackRow.holds Tryd.pinned (OpenSpec.ofChange fnBackSpec)

/-- ITS FALSE NEIGHBOUR: 'it returns false'. Refute it at one input. -/
def fnBackWrong : ChangeSpec := { name := "fnBack", vars := ["loop.example/g00835/impl.mixFactors"], fn := fun _ => fun
  | [d, g1] => { results := [.lit (.bool false)], args := [d], vars := [g1] }
  | _ => none }
def FnBackWrongFalsely : Prop := fnBackRow.holds Tryd.pinned (OpenSpec.ofChange fnBackWrong)

/-- 'laws.FnEqual': WHATEVER THE INPUT: true; the input reads as it did. -/
def fnEqualSpec : ChangeSpec := { name := "fnEqual", vars := ["loop.example/g00835/impl.unmixFactors"], fn := fun _ => fun
  | [d, g1] => { results := [.lit (.bool true)], args := [d], vars := [g1] }
  | _ => none }
def fnEqualRow : OpenClaim := { program := "ytkbnnlhilnnpeaadoor", sum := "7d2d01f5eebcbc25d5cfd1838c7c21f2ff5ee59298d0425d5fda4a5c3ad9fd4d", func := "loop.example/g00835/laws.FnEqual", spec := "fnEqual", unfollowed := true, recurses := true, named := ["loop.example/g00835/impl.unmixFactors"], apart := false, laid := [("loop.example/g00835/impl.unmixFactors", laid_loop_example_g00835_impl_unmixFactors)] }
def FnEqualSaid : Prop := fnEqualRow.holds Tryd.pinned (OpenSpec.ofChange fnEqualSpec)

/-- ITS FALSE NEIGHBOUR: 'it returns false'. Refute it at one input. -/
def fnEqualWrong : ChangeSpec := { name := "fnEqual", vars := ["loop.example/g00835/impl.unmixFactors"], fn := fun _ => fun
  | [d, g1] => { results := [.lit (.bool false)], args := [d], vars := [g1] }
  | _ => none }
def FnEqualWrongFalsely : Prop := fnEqualRow.holds Tryd.pinned (OpenSpec.ofChange fnEqualWrong)

/-- 'laws.FnExactUnmixed': WHATEVER THE INPUT: true; the input reads as it did. -/
def fnExactUnmixedSpec : ChangeSpec := { name := "fnExactUnmixed", vars := ["loop.example/g00835/impl.unmixFactors"], fn := fun _ => fun
  | [d, g1] => { results := [.lit (.bool true)], args := [d], vars := [g1] }
  | _ => none }
def fnExactUnmixedRow : OpenClaim := { program := "ytkbnnlhilnnpeaadoor", sum := "7d2d01f5eebcbc25d5cfd1838c7c21f2ff5ee59298d0425d5fda4a5c3ad9fd4d", func := "loop.example/g00835/laws.FnExactUnmixed", spec := "fnExactUnmixed", unfollowed := true, recurses := true, named := ["loop.example/g00835/impl.unmixFactors"], apart := false, laid := [("loop.example/g00835/impl.unmixFactors", laid_loop_example_g00835_impl_unmixFactors)] }
def FnExactUnmixedSaid : Prop := fnExactUnmixedRow.holds Tryd.pinned (OpenSpec.ofChange fnExactUnmixedSpec)

/-- ITS FALSE NEIGHBOUR: 'it returns false'. Refute it at one input. -/
def fnExactUnmixedWrong : ChangeSpec := { name := "fnExactUnmixed", vars := ["loop.example/g00835/impl.unmixFactors"], fn := fun _ => fun
  | [d, g1] => { results := [.lit (.bool false)], args := [d], vars := [g1] }
  | _ => none }
def FnExactUnmixedWrongFalsely : Prop := fnExactUnmixedRow.holds Tryd.pinned (OpenSpec.ofChange fnExactUnmixedWrong)

/-- 'laws.FnExactTable': WHATEVER THE INPUT: true; the input reads as it did. -/
def fnExactTableSpec : ChangeSpec := { name := "fnExactTable", vars := ["loop.example/g00835/impl.mixFactors"], fn := fun _ => fun
  | [d1, d2, g1] => { results := [.lit (.bool true)], args := [d1, d2], vars := [g1] }
  | _ => none }
def fnExactTableRow : OpenClaim := { program := "ytkbnnlhilnnpeaadoor", sum := "7d2d01f5eebcbc25d5cfd1838c7c21f2ff5ee59298d0425d5fda4a5c3ad9fd4d", func := "loop.example/g00835/laws.FnExactTable", spec := "fnExactTable", unfollowed := true, recurses := true, named := ["loop.example/g00835/impl.mixFactors"], apart := false, laid := [("loop.example/g00835/impl.mixFactors", laid_loop_example_g00835_impl_mixFactors)] }
def FnExactTableSaid : Prop := fnExactTableRow.holds Tryd.pinned (OpenSpec.ofChange fnExactTableSpec)

/-- ITS FALSE NEIGHBOUR: 'it returns false'. Refute it at one input. -/
def fnExactTableWrong : ChangeSpec := { name := "fnExactTable", vars := ["loop.example/g00835/impl.mixFactors"], fn := fun _ => fun
  | [d1, d2, g1] => { results := [.lit (.bool false)], args := [d1, d2], vars := [g1] }
  | _ => none }
def FnExactTableWrongFalsely : Prop := fnExactTableRow.holds Tryd.pinned (OpenSpec.ofChange fnExactTableWrong)

/-- 'laws.FnExactUntable': WHATEVER THE INPUT: true; the input reads as it did. -/
def fnExactUntableSpec : ChangeSpec := { name := "fnExactUntable", vars := ["loop.example/g00835/impl.unmixFactors"], fn := fun _ => fun
  | [d1, d2, g1] => { results := [.lit (.bool true)], args := [d1, d2], vars := [g1] }
  | _ => none }
def fnExactUntableRow : OpenClaim := { program := "ytkbnnlhilnnpeaadoor", sum := "7d2d01f5eebcbc25d5cfd1838c7c21f2ff5ee59298d0425d5fda4a5c3ad9fd4d", func := "loop.example/g00835/laws.FnExactUntable", spec := "fnExactUntable", unfollowed := true, recurses := true, named := ["loop.example/g00835/impl.unmixFactors"], apart := false, laid := [("loop.example/g00835/impl.unmixFactors", laid_loop_example_g00835_impl_unmixFactors)] }
def FnExactUntableSaid : Prop := fnExactUntableRow.holds Tryd.pinned (OpenSpec.ofChange fnExactUntableSpec)

/-- ITS FALSE NEIGHBOUR: 'it returns false'. Refute it at one input. -/
def fnExactUntableWrong : ChangeSpec := { name := "fnExactUntable", vars := ["loop.example/g00835/impl.unmixFactors"], fn := fun _ => fun
  | [d1, d2, g1] => { results := [.lit (.bool false)], args := [d1, d2], vars := [g1] }
  | _ => none }
def FnExactUntableWrongFalsely : Prop := fnExactUntableRow.holds Tryd.pinned (OpenSpec.ofChange fnExactUntableWrong)

/- THE SECOND FORM. 'bulk': how many values and letters a reading holds, each counted each time it is reached (what is shared counts as often as it is met; a slice's spare places count too). A statement '..UptoSaid' is the law's where the arguments, and the package variables that the reading takes, are together of bulk at most 1048576: NARROWER than '..Said'. Prove '..Said' where nothing that the law and all that it calls make is longer than what came in: it says more and counts as full. Else prove '..UptoSaid'. A law counts once. -/
mutual
def uptoBulk {H : Type} : DataW H → Nat
  | .lit (.string bytes) => bytes.length + 1
  | .lit _ => 1
  | .nil => 1
  | .ptr d => uptoBulk d + 1
  | .slice elems spare => uptoBulkAll elems + uptoBulkAll spare + 1
  | .agg parts => uptoBulkAll parts + 1
  | .iface _ d => uptoBulk d + 1
  | .map entries => uptoBulkEntries entries + 1
  | .held _ => 1
def uptoBulkAll {H : Type} : List (DataW H) → Nat
  | [] => 0
  | d :: r => uptoBulk d + uptoBulkAll r
def uptoBulkEntries {H : Type} : List (Lit × DataW H) → Nat
  | [] => 0
  | x :: r => uptoBulkEntry x + uptoBulkEntries r
def uptoBulkEntry {H : Type} : Lit × DataW H → Nat
  | (.string bytes, d) => bytes.length + uptoBulk d + 1
  | (_, d) => uptoBulk d + 1
 end
def uptoSmall : (H : Type) → List (DataW H) → Bool := fun _ ds => decide (uptoBulkAll ds ≤ 1048576)
def OpenSpec.upto (s : _root_.Go.ChangeSpec) : _root_.Go.OpenSpec := { _root_.Go.OpenSpec.ofChange s with cond := some uptoSmall }

/-- 'laws.FnUnmixed', WHERE WHAT IT READS IS OF BULK AT MOST 1048576: true; the input reads as it did. -/
def fnUnmixedUptoRow : OpenClaim := { program := "ytkbnnlhilnnpeaadoor", sum := "7d2d01f5eebcbc25d5cfd1838c7c21f2ff5ee59298d0425d5fda4a5c3ad9fd4d", func := "loop.example/g00835/laws.FnUnmixed", spec := "fnUnmixed", unfollowed := true, recurses := true, named := ["loop.example/g00835/impl.unmixFactors", "loop.example/g00835/impl.mixFactors"], apart := false, laid := [("loop.example/g00835/impl.unmixFactors", laid_loop_example_g00835_impl_unmixFactors), ("loop.example/g00835/impl.mixFactors", laid_loop_example_g00835_impl_mixFactors)], narrowed := true }
def FnUnmixedUptoSaid : Prop := fnUnmixedUptoRow.holds Tryd.pinned (OpenSpec.upto fnUnmixedSpec)

/-- 'laws.FnTable', WHERE WHAT IT READS IS OF BULK AT MOST 1048576: true; the input reads as it did. -/
def fnTableUptoRow : OpenClaim := { program := "ytkbnnlhilnnpeaadoor", sum := "7d2d01f5eebcbc25d5cfd1838c7c21f2ff5ee59298d0425d5fda4a5c3ad9fd4d", func := "loop.example/g00835/laws.FnTable", spec := "fnTable", unfollowed := true, recurses := true, named := ["loop.example/g00835/impl.mixFactors", "loop.example/g00835/impl.unmixFactors"], apart := false, laid := [("loop.example/g00835/impl.unmixFactors", laid_loop_example_g00835_impl_unmixFactors), ("loop.example/g00835/impl.mixFactors", laid_loop_example_g00835_impl_mixFactors)], narrowed := true }
def FnTableUptoSaid : Prop := fnTableUptoRow.holds Tryd.pinned (OpenSpec.upto fnTableSpec)

/-- 'laws.FnRound', WHERE WHAT IT READS IS OF BULK AT MOST 1048576: true; the input reads as it did. -/
def fnRoundUptoRow : OpenClaim := { program := "ytkbnnlhilnnpeaadoor", sum := "7d2d01f5eebcbc25d5cfd1838c7c21f2ff5ee59298d0425d5fda4a5c3ad9fd4d", func := "loop.example/g00835/laws.FnRound", spec := "fnRound", unfollowed := true, recurses := true, named := ["loop.example/g00835/impl.mixFactors"], apart := false, laid := [("loop.example/g00835/impl.mixFactors", laid_loop_example_g00835_impl_mixFactors)], narrowed := true }
def FnRoundUptoSaid : Prop := fnRoundUptoRow.holds Tryd.pinned (OpenSpec.upto fnRoundSpec)

/-- 'laws.FnBack', WHERE WHAT IT READS IS OF BULK AT MOST 1048576: true; the input reads as it did. -/
def fnBackUptoRow : OpenClaim := { program := "ytkbnnlhilnnpeaadoor", sum := "7d2d01f5eebcbc25d5cfd1838c7c21f2ff5ee59298d0425d5fda4a5c3ad9fd4d", func := "loop.example/g00835/laws.FnBack", spec := "fnBack", unfollowed := true, recurses := true, named := ["loop.example/g00835/impl.mixFactors"], apart := false, laid := [("loop.example/g00835/impl.mixFactors", laid_loop_example_g00835_impl_mixFactors)], narrowed := true }
def FnBackUptoSaid : Prop := fnBackUptoRow.holds Tryd.pinned (OpenSpec.upto fnBackSpec)

/-- 'laws.FnEqual', WHERE WHAT IT READS IS OF BULK AT MOST 1048576: true; the input reads as it did. -/
def fnEqualUptoRow : OpenClaim := { program := "ytkbnnlhilnnpeaadoor", sum := "7d2d01f5eebcbc25d5cfd1838c7c21f2ff5ee59298d0425d5fda4a5c3ad9fd4d", func := "loop.example/g00835/laws.FnEqual", spec := "fnEqual", unfollowed := true, recurses := true, named := ["loop.example/g00835/impl.unmixFactors"], apart := false, laid := [("loop.example/g00835/impl.unmixFactors", laid_loop_example_g00835_impl_unmixFactors)], narrowed := true }
def FnEqualUptoSaid : Prop := fnEqualUptoRow.holds Tryd.pinned (OpenSpec.upto fnEqualSpec)

/-- 'laws.FnExactUnmixed', WHERE WHAT IT READS IS OF BULK AT MOST 1048576: true; the input reads as it did. -/
def fnExactUnmixedUptoRow : OpenClaim := { program := "ytkbnnlhilnnpeaadoor", sum := "7d2d01f5eebcbc25d5cfd1838c7c21f2ff5ee59298d0425d5fda4a5c3ad9fd4d", func := "loop.example/g00835/laws.FnExactUnmixed", spec := "fnExactUnmixed", unfollowed := true, recurses := true, named := ["loop.example/g00835/impl.unmixFactors"], apart := false, laid := [("loop.example/g00835/impl.unmixFactors", laid_loop_example_g00835_impl_unmixFactors)], narrowed := true }
def FnExactUnmixedUptoSaid : Prop := fnExactUnmixedUptoRow.holds Tryd.pinned (OpenSpec.upto fnExactUnmixedSpec)

/-- 'laws.FnExactTable', WHERE WHAT IT READS IS OF BULK AT MOST 1048576: true; the input reads as it did. -/
def fnExactTableUptoRow : OpenClaim := { program := "ytkbnnlhilnnpeaadoor", sum := "7d2d01f5eebcbc25d5cfd1838c7c21f2ff5ee59298d0425d5fda4a5c3ad9fd4d", func := "loop.example/g00835/laws.FnExactTable", spec := "fnExactTable", unfollowed := true, recurses := true, named := ["loop.example/g00835/impl.mixFactors"], apart := false, laid := [("loop.example/g00835/impl.mixFactors", laid_loop_example_g00835_impl_mixFactors)], narrowed := true }
def FnExactTableUptoSaid : Prop := fnExactTableUptoRow.holds Tryd.pinned (OpenSpec.upto fnExactTableSpec)

/-- 'laws.FnExactUntable', WHERE WHAT IT READS IS OF BULK AT MOST 1048576: true; the input reads as it did. -/
def fnExactUntableUptoRow : OpenClaim := { program := "ytkbnnlhilnnpeaadoor", sum := "7d2d01f5eebcbc25d5cfd1838c7c21f2ff5ee59298d0425d5fda4a5c3ad9fd4d", func := "loop.example/g00835/laws.FnExactUntable", spec := "fnExactUntable", unfollowed := true, recurses := true, named := ["loop.example/g00835/impl.unmixFactors"], apart := false, laid := [("loop.example/g00835/impl.unmixFactors", laid_loop_example_g00835_impl_unmixFactors)], narrowed := true }
def FnExactUntableUptoSaid : Prop := fnExactUntableUptoRow.holds Tryd.pinned (OpenSpec.upto fnExactUntableSpec)

end Rows
end Go.Proofs.YtkbnnlhilnnpeaaDoor
