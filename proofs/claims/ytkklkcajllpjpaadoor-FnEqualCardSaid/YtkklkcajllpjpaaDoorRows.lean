/-
  NARROWER THAN 'FOR EVERY INPUT', by the rows' own cells (each row's printed sentence says how): FnEqual: laid · FnExactLockTable: laid · FnExactUnlockTable: laid.
  DERIVED. THE GIVEN ROWS OF THIS SEAT. 3 by the template 'for every input the law returns true; each argument reads behind the call as it read before'; 0 by the template 'total and deterministic' (their statements: YtkklkcajllpjpaaDoorTotals.lean).
  GIVEN WITH THE SEED: the statements are not yours to turn. If you find one false, say at which input.
  Laid BY PROGRAM, IN A SANDBOX (cutbox-rows.mjs): the forced cells as the released guide's own fill.sh prints them over the translation b95d24391409cef2… (all of the seat's roots in one cut). By AI agents, Wed Nov 11 2026. No macro, syntax, notation, axiom, sorry.
-/
import Derived.Test.YtkklkcajllpjpaaDoorChecked
import GoSem.Claim
import GoSem.ClaimJoined
import GoSem.ClaimMapViews
import Derived.JoinedTies
import Derived.KernelRfl
namespace Go.Proofs.YtkklkcajllpjpaaDoor
/- THE CELL 'sum', in the pinned program and in every row, IS THE sha256 OF THE DUMP (.gsa) THAT YtkklkcajllpjpaaDoorProg.lean LOADS. Nothing in Lean hashes anything: it is a label: what it is worth is what the hold of that sum in a sandbox is worth. -/
noncomputable def Tryd.pinned : Pinned := { name := "ytkklkcajllpjpaadoor", sum := "b95d24391409cef25287a770ffeb127ff972ee2e6970faffebc9d81f424a8561", checked := Tryd.checked }
namespace Rows
def none {H : Type} : Left H := { results := [], args := [] }

/- WHAT THE LISTED PACKAGE-LEVEL VARIABLES READ AS WHEN THE CALL BEGINS. Each datum BY PROGRAM (the guide's laid-datum.mjs) off the statement by which the dump's own 'gosem.cut.vars' lays the variable. In a bare row this is a premise. The card (YtkklkcajllpjpaaDoorCards.lean) ties it to the program's text. -/
def laid_loop_example_g00835_impl_unmixFactors {H : Type} : DataW H := .agg [.lit (.int .u8 14), .lit (.int .u8 9), .lit (.int .u8 13), .lit (.int .u8 11)]
def laid_loop_example_g00835_impl_mixFactors {H : Type} : DataW H := .agg [.lit (.int .u8 2), .lit (.int .u8 1), .lit (.int .u8 1), .lit (.int .u8 3)]

/-- 'laws.FnEqual': WHATEVER THE INPUT: true; the input reads as it did. -/
def fnEqualSpec : ChangeSpec := { name := "fnEqual", vars := ["loop.example/g00835/impl.unmixFactors"], fn := fun _ => fun
  | [d, g1] => { results := [.lit (.bool true)], args := [d], vars := [g1] }
  | _ => none }
def fnEqualRow : OpenClaim := { program := "ytkklkcajllpjpaadoor", sum := "b95d24391409cef25287a770ffeb127ff972ee2e6970faffebc9d81f424a8561", func := "loop.example/g00835/laws.FnEqual", spec := "fnEqual", unfollowed := true, recurses := true, named := ["loop.example/g00835/impl.unmixFactors"], apart := false, laid := [("loop.example/g00835/impl.unmixFactors", laid_loop_example_g00835_impl_unmixFactors)] }
def FnEqualSaid : Prop := fnEqualRow.holds Tryd.pinned (OpenSpec.ofChange fnEqualSpec)

/-- ITS FALSE NEIGHBOUR: 'it returns false'. Refute it at one input. -/
def fnEqualWrong : ChangeSpec := { name := "fnEqual", vars := ["loop.example/g00835/impl.unmixFactors"], fn := fun _ => fun
  | [d, g1] => { results := [.lit (.bool false)], args := [d], vars := [g1] }
  | _ => none }
def FnEqualWrongFalsely : Prop := fnEqualRow.holds Tryd.pinned (OpenSpec.ofChange fnEqualWrong)

/-- 'laws.FnExactLockTable': WHATEVER THE INPUT: true; the input reads as it did. -/
def fnExactLockTableSpec : ChangeSpec := { name := "fnExactLockTable", vars := ["loop.example/g00835/impl.mixFactors"], fn := fun _ => fun
  | [d1, d2, g1] => { results := [.lit (.bool true)], args := [d1, d2], vars := [g1] }
  | _ => none }
def fnExactLockTableRow : OpenClaim := { program := "ytkklkcajllpjpaadoor", sum := "b95d24391409cef25287a770ffeb127ff972ee2e6970faffebc9d81f424a8561", func := "loop.example/g00835/laws.FnExactLockTable", spec := "fnExactLockTable", unfollowed := true, recurses := true, named := ["loop.example/g00835/impl.mixFactors"], apart := false, laid := [("loop.example/g00835/impl.mixFactors", laid_loop_example_g00835_impl_mixFactors)] }
def FnExactLockTableSaid : Prop := fnExactLockTableRow.holds Tryd.pinned (OpenSpec.ofChange fnExactLockTableSpec)

/-- ITS FALSE NEIGHBOUR: 'it returns false'. Refute it at one input. -/
def fnExactLockTableWrong : ChangeSpec := { name := "fnExactLockTable", vars := ["loop.example/g00835/impl.mixFactors"], fn := fun _ => fun
  | [d1, d2, g1] => { results := [.lit (.bool false)], args := [d1, d2], vars := [g1] }
  | _ => none }
def FnExactLockTableWrongFalsely : Prop := fnExactLockTableRow.holds Tryd.pinned (OpenSpec.ofChange fnExactLockTableWrong)

/-- 'laws.FnExactUnlockTable': WHATEVER THE INPUT: true; the input reads as it did. -/
def fnExactUnlockTableSpec : ChangeSpec := { name := "fnExactUnlockTable", vars := ["loop.example/g00835/impl.unmixFactors"], fn := fun _ => fun
  | [d1, d2, g1] => { results := [.lit (.bool true)], args := [d1, d2], vars := [g1] }
  | _ => none }
def fnExactUnlockTableRow : OpenClaim := { program := "ytkklkcajllpjpaadoor", sum := "b95d24391409cef25287a770ffeb127ff972ee2e6970faffebc9d81f424a8561", func := "loop.example/g00835/laws.FnExactUnlockTable", spec := "fnExactUnlockTable", unfollowed := true, recurses := true, named := ["loop.example/g00835/impl.unmixFactors"], apart := false, laid := [("loop.example/g00835/impl.unmixFactors", laid_loop_example_g00835_impl_unmixFactors)] }
def FnExactUnlockTableSaid : Prop := fnExactUnlockTableRow.holds Tryd.pinned (OpenSpec.ofChange fnExactUnlockTableSpec)

/-- ITS FALSE NEIGHBOUR: 'it returns false'. Refute it at one input. -/
def fnExactUnlockTableWrong : ChangeSpec := { name := "fnExactUnlockTable", vars := ["loop.example/g00835/impl.unmixFactors"], fn := fun _ => fun
  | [d1, d2, g1] => { results := [.lit (.bool false)], args := [d1, d2], vars := [g1] }
  | _ => none }
def FnExactUnlockTableWrongFalsely : Prop := fnExactUnlockTableRow.holds Tryd.pinned (OpenSpec.ofChange fnExactUnlockTableWrong)

/- THE SECOND FORM. 'bulk': how many values and letters a reading holds, each counted each time it is reached (what is shared counts as often as it is met; a slice's spare places count too). A statement '..UptoSaid' is the law's where the arguments, and the package variables that the reading takes, are together of bulk at most 1048576: NARROWER than '..Said'. Prove '..Said' where nothing that the law and all that it calls make is longer than what came in: it says more and counts as full. Else prove '..UptoSaid'. A law counts once. -/
mutual
def uptoBulk {H : Type} : DataW H → Nat
  | .lit (.string bytes) => bytes.length + 1
  | .lit _ => 1
  | .nil => 1
  | .ptr d => uptoBulk d + 1
  | .slice elems spare => uptoBulkAll elems + uptoBulkAll spare + 1
  | .agg parts => uptoBulkAll parts + 1
  | .iface _ d => uptoBulk d + 1
  | .map entries => uptoBulkEntries entries + 1
  | .held _ => 1
def uptoBulkAll {H : Type} : List (DataW H) → Nat
  | [] => 0
  | d :: r => uptoBulk d + uptoBulkAll r
def uptoBulkEntries {H : Type} : List (Lit × DataW H) → Nat
  | [] => 0
  | x :: r => uptoBulkEntry x + uptoBulkEntries r
def uptoBulkEntry {H : Type} : Lit × DataW H → Nat
  | (.string bytes, d) => bytes.length + uptoBulk d + 1
  | (_, d) => uptoBulk d + 1
 end
def uptoSmall : (H : Type) → List (DataW H) → Bool := fun _ ds => decide (uptoBulkAll ds ≤ 1048576)
def OpenSpec.upto (s : _root_.Go.ChangeSpec) : _root_.Go.OpenSpec := { _root_.Go.OpenSpec.ofChange s with cond := some uptoSmall }

/-- 'laws.FnEqual', WHERE WHAT IT READS IS OF BULK AT MOST 1048576: true; the input reads as it did. -/
def fnEqualUptoRow : OpenClaim := { program := "ytkklkcajllpjpaadoor", sum := "b95d24391409cef25287a770ffeb127ff972ee2e6970faffebc9d81f424a8561", func := "loop.example/g00835/laws.FnEqual", spec := "fnEqual", unfollowed := true, recurses := true, named := ["loop.example/g00835/impl.unmixFactors"], apart := false, laid := [("loop.example/g00835/impl.unmixFactors", laid_loop_example_g00835_impl_unmixFactors)], narrowed := true }
def FnEqualUptoSaid : Prop := fnEqualUptoRow.holds Tryd.pinned (OpenSpec.upto fnEqualSpec)

/-- 'laws.FnExactLockTable', WHERE WHAT IT READS IS OF BULK AT MOST 1048576: true; the input reads as it did. -/
def fnExactLockTableUptoRow : OpenClaim := { program := "ytkklkcajllpjpaadoor", sum := "b95d24391409cef25287a770ffeb127ff972ee2e6970faffebc9d81f424a8561", func := "loop.example/g00835/laws.FnExactLockTable", spec := "fnExactLockTable", unfollowed := true, recurses := true, named := ["loop.example/g00835/impl.mixFactors"], apart := false, laid := [("loop.example/g00835/impl.mixFactors", laid_loop_example_g00835_impl_mixFactors)], narrowed := true }
def FnExactLockTableUptoSaid : Prop := fnExactLockTableUptoRow.holds Tryd.pinned (OpenSpec.upto fnExactLockTableSpec)

/-- 'laws.FnExactUnlockTable', WHERE WHAT IT READS IS OF BULK AT MOST 1048576: true; the input reads as it did. -/
def fnExactUnlockTableUptoRow : OpenClaim := { program := "ytkklkcajllpjpaadoor", sum := "b95d24391409cef25287a770ffeb127ff972ee2e6970faffebc9d81f424a8561", func := "loop.example/g00835/laws.FnExactUnlockTable", spec := "fnExactUnlockTable", unfollowed := true, recurses := true, named := ["loop.example/g00835/impl.unmixFactors"], apart := false, laid := [("loop.example/g00835/impl.unmixFactors", laid_loop_example_g00835_impl_unmixFactors)], narrowed := true }
def FnExactUnlockTableUptoSaid : Prop := fnExactUnlockTableUptoRow.holds Tryd.pinned (OpenSpec.upto fnExactUnlockTableSpec)

end Rows
end Go.Proofs.YtkklkcajllpjpaaDoor
