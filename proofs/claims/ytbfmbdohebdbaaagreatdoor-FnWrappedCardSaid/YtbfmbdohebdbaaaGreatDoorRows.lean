/-
  NARROWER THAN 'FOR EVERY INPUT', by the rows' own cells (each row's printed sentence says how): FnWrap: ifaces, laid · FnUnwrap: ifaces, laid · FnWrapped: ifaces, laid · FnExactWrap: ifaces, laid · FnExactUnwrap: ifaces, laid.
  DERIVED. THE GIVEN ROWS OF THIS SEAT. 5 by the template 'for every input the law returns true; each argument reads behind the call as it read before'; 0 by the template 'total and deterministic' (their statements: YtbfmbdohebdbaaaGreatDoorTotals.lean).
  GIVEN WITH THE SEED: the statements are not yours to turn. If you find one false, say at which input.
  Laid BY PROGRAM, IN A SANDBOX (cutbox-rows.mjs): the forced cells as the released guide's own fill.sh prints them over the translation ba9f82033ff02763… (all of the seat's roots in one cut). By AI agents, Wed Nov 11 2026. No macro, syntax, notation, axiom, sorry.
-/
import Derived.Test.YtbfmbdohebdbaaaGreatDoorChecked
import GoSem.Claim
import GoSem.ClaimJoined
import GoSem.ClaimMapViews
import Derived.JoinedTies
import Derived.KernelRfl
namespace Go.Proofs.YtbfmbdohebdbaaaGreatDoor
/- THE CELL 'sum', in the pinned program and in every row, IS THE sha256 OF THE DUMP (.gsa) THAT YtbfmbdohebdbaaaGreatDoorProg.lean LOADS. Nothing in Lean hashes anything: it is a label: what it is worth is what the hold of that sum in a sandbox is worth. -/
noncomputable def Tryz.pinned : Pinned := { name := "ytbfmbdohebdbaaagreatdoor", sum := "ba9f82033ff0276304197e03efbec2bb70a788fd5310155c33988c76096c9429", checked := Tryz.checked }
namespace Rows
def none {H : Type} : Left H := { results := [], args := [] }

/- WHAT THE LISTED PACKAGE-LEVEL VARIABLES READ AS WHEN THE CALL BEGINS. Each datum BY PROGRAM (the guide's laid-datum.mjs) off the statement by which the dump's own 'gosem.cut.vars' lays the variable. In a bare row this is a premise. The card (YtbfmbdohebdbaaaGreatDoorCards.lean) ties it to the program's text. -/
def laid_errors_errorType {H : Type} : DataW H := .iface "internal/reflectlite.rtype" (.agg [.ptr (.lit (.string [101, 114, 114, 111, 114]))])
def laid_loop_example_g00835_impl_unmixFactors {H : Type} : DataW H := .agg [.lit (.int .u8 14), .lit (.int .u8 9), .lit (.int .u8 13), .lit (.int .u8 11)]
def laid_loop_example_g00835_impl_mixFactors {H : Type} : DataW H := .agg [.lit (.int .u8 2), .lit (.int .u8 1), .lit (.int .u8 1), .lit (.int .u8 3)]
def laid_loop_example_g00835_impl_errNoFit {H : Type} : DataW H := .iface "*errors.errorString" (.ptr (.agg [.lit (.string [116, 104, 101, 32, 107, 101, 121, 32, 100, 111, 101, 115, 110, 39, 116, 32, 102, 105, 116])]))

/-- 'laws.FnWrap': WHATEVER THE INPUT: true; the input reads as it did. -/
def fnWrapSpec : ChangeSpec := { name := "fnWrap", vars := ["loop.example/g00835/impl.mixFactors", "loop.example/g00835/impl.errNoFit", "loop.example/g00835/impl.unmixFactors"], fn := fun _ => fun
  | [d, g1, g2, g3] => { results := [.lit (.bool true)], args := [d], vars := [g1, g2, g3] }
  | _ => none }
def fnWrapRow : OpenClaim := { program := "ytbfmbdohebdbaaagreatdoor", sum := "ba9f82033ff0276304197e03efbec2bb70a788fd5310155c33988c76096c9429", func := "loop.example/g00835/laws.FnWrap", spec := "fnWrap", inPlace := ["internal/abi.NoEscape", "internal/bytealg.MakeNoZero", "internal/reflectlite.TypeOf", "internal/reflectlite.ValueOf", "(internal/reflectlite.Value).Type", "(internal/reflectlite.Value).IsNil", "(internal/reflectlite.Value).Elem", "(internal/reflectlite.Value).Set"], unfollowed := true, recurses := true, named := ["loop.example/g00835/impl.mixFactors", "loop.example/g00835/impl.errNoFit", "errors.errorType", "loop.example/g00835/impl.unmixFactors"], ifaces := true, apart := false, laid := [("errors.errorType", laid_errors_errorType), ("loop.example/g00835/impl.unmixFactors", laid_loop_example_g00835_impl_unmixFactors), ("loop.example/g00835/impl.mixFactors", laid_loop_example_g00835_impl_mixFactors), ("loop.example/g00835/impl.errNoFit", laid_loop_example_g00835_impl_errNoFit)] }
def FnWrapSaid : Prop := fnWrapRow.holds Tryz.pinned (OpenSpec.ofChange fnWrapSpec)

/-- ITS FALSE NEIGHBOUR: 'it returns false'. Refute it at one input. -/
def fnWrapWrong : ChangeSpec := { name := "fnWrap", vars := ["loop.example/g00835/impl.mixFactors", "loop.example/g00835/impl.errNoFit", "loop.example/g00835/impl.unmixFactors"], fn := fun _ => fun
  | [d, g1, g2, g3] => { results := [.lit (.bool false)], args := [d], vars := [g1, g2, g3] }
  | _ => none }
def FnWrapWrongFalsely : Prop := fnWrapRow.holds Tryz.pinned (OpenSpec.ofChange fnWrapWrong)

/-- 'laws.FnUnwrap': WHATEVER THE INPUT: true; the input reads as it did. -/
def fnUnwrapSpec : ChangeSpec := { name := "fnUnwrap", vars := ["loop.example/g00835/impl.errNoFit", "loop.example/g00835/impl.mixFactors", "loop.example/g00835/impl.unmixFactors"], fn := fun _ => fun
  | [d, g1, g2, g3] => { results := [.lit (.bool true)], args := [d], vars := [g1, g2, g3] }
  | _ => none }
def fnUnwrapRow : OpenClaim := { program := "ytbfmbdohebdbaaagreatdoor", sum := "ba9f82033ff0276304197e03efbec2bb70a788fd5310155c33988c76096c9429", func := "loop.example/g00835/laws.FnUnwrap", spec := "fnUnwrap", inPlace := ["internal/abi.NoEscape", "internal/bytealg.MakeNoZero", "internal/reflectlite.TypeOf", "internal/reflectlite.ValueOf", "(internal/reflectlite.Value).Type", "(internal/reflectlite.Value).IsNil", "(internal/reflectlite.Value).Elem", "(internal/reflectlite.Value).Set"], unfollowed := true, recurses := true, named := ["loop.example/g00835/impl.errNoFit", "loop.example/g00835/impl.mixFactors", "loop.example/g00835/impl.unmixFactors", "errors.errorType"], ifaces := true, apart := false, laid := [("errors.errorType", laid_errors_errorType), ("loop.example/g00835/impl.unmixFactors", laid_loop_example_g00835_impl_unmixFactors), ("loop.example/g00835/impl.mixFactors", laid_loop_example_g00835_impl_mixFactors), ("loop.example/g00835/impl.errNoFit", laid_loop_example_g00835_impl_errNoFit)] }
def FnUnwrapSaid : Prop := fnUnwrapRow.holds Tryz.pinned (OpenSpec.ofChange fnUnwrapSpec)

/-- ITS FALSE NEIGHBOUR: 'it returns false'. Refute it at one input. -/
def fnUnwrapWrong : ChangeSpec := { name := "fnUnwrap", vars := ["loop.example/g00835/impl.errNoFit", "loop.example/g00835/impl.mixFactors", "loop.example/g00835/impl.unmixFactors"], fn := fun _ => fun
  | [d, g1, g2, g3] => { results := [.lit (.bool false)], args := [d], vars := [g1, g2, g3] }
  | _ => none }
def FnUnwrapWrongFalsely : Prop := fnUnwrapRow.holds Tryz.pinned (OpenSpec.ofChange fnUnwrapWrong)

/-- 'laws.FnWrapped': WHATEVER THE INPUT: true; the input reads as it did. -/
def fnWrappedSpec : ChangeSpec := { name := "fnWrapped", vars := ["loop.example/g00835/impl.mixFactors", "loop.example/g00835/impl.errNoFit", "loop.example/g00835/impl.unmixFactors"], fn := fun _ => fun
  | [d, g1, g2, g3] => { results := [.lit (.bool true)], args := [d], vars := [g1, g2, g3] }
  | _ => none }
def fnWrappedRow : OpenClaim := { program := "ytbfmbdohebdbaaagreatdoor", sum := "ba9f82033ff0276304197e03efbec2bb70a788fd5310155c33988c76096c9429", func := "loop.example/g00835/laws.FnWrapped", spec := "fnWrapped", inPlace := ["internal/abi.NoEscape", "internal/bytealg.MakeNoZero", "internal/reflectlite.TypeOf", "internal/reflectlite.ValueOf", "(internal/reflectlite.Value).Type", "(internal/reflectlite.Value).IsNil", "(internal/reflectlite.Value).Elem", "(internal/reflectlite.Value).Set"], unfollowed := true, recurses := true, named := ["loop.example/g00835/impl.mixFactors", "loop.example/g00835/impl.errNoFit", "errors.errorType", "loop.example/g00835/impl.unmixFactors"], ifaces := true, apart := false, laid := [("errors.errorType", laid_errors_errorType), ("loop.example/g00835/impl.unmixFactors", laid_loop_example_g00835_impl_unmixFactors), ("loop.example/g00835/impl.mixFactors", laid_loop_example_g00835_impl_mixFactors), ("loop.example/g00835/impl.errNoFit", laid_loop_example_g00835_impl_errNoFit)] }
def FnWrappedSaid : Prop := fnWrappedRow.holds Tryz.pinned (OpenSpec.ofChange fnWrappedSpec)

/-- ITS FALSE NEIGHBOUR: 'it returns false'. Refute it at one input. -/
def fnWrappedWrong : ChangeSpec := { name := "fnWrapped", vars := ["loop.example/g00835/impl.mixFactors", "loop.example/g00835/impl.errNoFit", "loop.example/g00835/impl.unmixFactors"], fn := fun _ => fun
  | [d, g1, g2, g3] => { results := [.lit (.bool false)], args := [d], vars := [g1, g2, g3] }
  | _ => none }
def FnWrappedWrongFalsely : Prop := fnWrappedRow.holds Tryz.pinned (OpenSpec.ofChange fnWrappedWrong)

/-- 'laws.FnExactWrap': WHATEVER THE INPUT: true; the input reads as it did. -/
def fnExactWrapSpec : ChangeSpec := { name := "fnExactWrap", vars := ["loop.example/g00835/impl.mixFactors", "loop.example/g00835/impl.errNoFit"], fn := fun _ => fun
  | [d1, d2, g1, g2] => { results := [.lit (.bool true)], args := [d1, d2], vars := [g1, g2] }
  | _ => none }
def fnExactWrapRow : OpenClaim := { program := "ytbfmbdohebdbaaagreatdoor", sum := "ba9f82033ff0276304197e03efbec2bb70a788fd5310155c33988c76096c9429", func := "loop.example/g00835/laws.FnExactWrap", spec := "fnExactWrap", inPlace := ["internal/abi.NoEscape", "internal/bytealg.MakeNoZero", "internal/reflectlite.TypeOf", "internal/reflectlite.ValueOf", "(internal/reflectlite.Value).Type", "(internal/reflectlite.Value).IsNil", "(internal/reflectlite.Value).Elem", "(internal/reflectlite.Value).Set"], unfollowed := true, recurses := true, named := ["loop.example/g00835/impl.mixFactors", "loop.example/g00835/impl.errNoFit", "errors.errorType"], ifaces := true, apart := false, laid := [("errors.errorType", laid_errors_errorType), ("loop.example/g00835/impl.mixFactors", laid_loop_example_g00835_impl_mixFactors), ("loop.example/g00835/impl.errNoFit", laid_loop_example_g00835_impl_errNoFit)] }
def FnExactWrapSaid : Prop := fnExactWrapRow.holds Tryz.pinned (OpenSpec.ofChange fnExactWrapSpec)

/-- ITS FALSE NEIGHBOUR: 'it returns false'. Refute it at one input. -/
def fnExactWrapWrong : ChangeSpec := { name := "fnExactWrap", vars := ["loop.example/g00835/impl.mixFactors", "loop.example/g00835/impl.errNoFit"], fn := fun _ => fun
  | [d1, d2, g1, g2] => { results := [.lit (.bool false)], args := [d1, d2], vars := [g1, g2] }
  | _ => none }
def FnExactWrapWrongFalsely : Prop := fnExactWrapRow.holds Tryz.pinned (OpenSpec.ofChange fnExactWrapWrong)

/-- 'laws.FnExactUnwrap': WHATEVER THE INPUT: true; the input reads as it did. -/
def fnExactUnwrapSpec : ChangeSpec := { name := "fnExactUnwrap", vars := ["loop.example/g00835/impl.errNoFit", "loop.example/g00835/impl.mixFactors", "loop.example/g00835/impl.unmixFactors"], fn := fun _ => fun
  | [d1, d2, g1, g2, g3] => { results := [.lit (.bool true)], args := [d1, d2], vars := [g1, g2, g3] }
  | _ => none }
def fnExactUnwrapRow : OpenClaim := { program := "ytbfmbdohebdbaaagreatdoor", sum := "ba9f82033ff0276304197e03efbec2bb70a788fd5310155c33988c76096c9429", func := "loop.example/g00835/laws.FnExactUnwrap", spec := "fnExactUnwrap", inPlace := ["internal/abi.NoEscape", "internal/bytealg.MakeNoZero", "internal/reflectlite.TypeOf", "internal/reflectlite.ValueOf", "(internal/reflectlite.Value).Type", "(internal/reflectlite.Value).IsNil", "(internal/reflectlite.Value).Elem", "(internal/reflectlite.Value).Set"], unfollowed := true, recurses := true, named := ["loop.example/g00835/impl.errNoFit", "loop.example/g00835/impl.mixFactors", "loop.example/g00835/impl.unmixFactors", "errors.errorType"], ifaces := true, apart := false, laid := [("errors.errorType", laid_errors_errorType), ("loop.example/g00835/impl.unmixFactors", laid_loop_example_g00835_impl_unmixFactors), ("loop.example/g00835/impl.mixFactors", laid_loop_example_g00835_impl_mixFactors), ("loop.example/g00835/impl.errNoFit", laid_loop_example_g00835_impl_errNoFit)] }
def FnExactUnwrapSaid : Prop := fnExactUnwrapRow.holds Tryz.pinned (OpenSpec.ofChange fnExactUnwrapSpec)

/-- ITS FALSE NEIGHBOUR: 'it returns false'. Refute it at one input. -/
def fnExactUnwrapWrong : ChangeSpec := { name := "fnExactUnwrap", vars := ["loop.example/g00835/impl.errNoFit", "loop.example/g00835/impl.mixFactors", "loop.example/g00835/impl.unmixFactors"], fn := fun _ => fun
  | [d1, d2, g1, g2, g3] => { results := [.lit (.bool false)], args := [d1, d2], vars := [g1, g2, g3] }
  | _ => none }
def FnExactUnwrapWrongFalsely : Prop := fnExactUnwrapRow.holds Tryz.pinned (OpenSpec.ofChange fnExactUnwrapWrong)

/- THE SECOND FORM. 'bulk': how many values and letters a reading holds, each counted each time it is reached (what is shared counts as often as it is met; a slice's spare places count too). A statement '..UptoSaid' is the law's where the arguments, and the package variables that the reading takes, are together of bulk at most 1048576: NARROWER than '..Said'. Prove '..Said' where nothing that the law and all that it calls make is longer than what came in: it says more and counts as full. Else prove '..UptoSaid'. A law counts once. -/
mutual
def uptoBulk {H : Type} : DataW H → Nat
  | .lit (.string bytes) => bytes.length + 1
  | .lit _ => 1
  | .nil => 1
  | .ptr d => uptoBulk d + 1
  | .slice elems spare => uptoBulkAll elems + uptoBulkAll spare + 1
  | .agg parts => uptoBulkAll parts + 1
  | .iface _ d => uptoBulk d + 1
  | .map entries => uptoBulkEntries entries + 1
  | .held _ => 1
def uptoBulkAll {H : Type} : List (DataW H) → Nat
  | [] => 0
  | d :: r => uptoBulk d + uptoBulkAll r
def uptoBulkEntries {H : Type} : List (Lit × DataW H) → Nat
  | [] => 0
  | x :: r => uptoBulkEntry x + uptoBulkEntries r
def uptoBulkEntry {H : Type} : Lit × DataW H → Nat
  | (.string bytes, d) => bytes.length + uptoBulk d + 1
  | (_, d) => uptoBulk d + 1
 end
def uptoSmall : (H : Type) → List (DataW H) → Bool := fun _ ds => decide (uptoBulkAll ds ≤ 1048576)
def OpenSpec.upto (s : _root_.Go.ChangeSpec) : _root_.Go.OpenSpec := { _root_.Go.OpenSpec.ofChange s with cond := some uptoSmall }

/-- 'laws.FnWrap', WHERE WHAT IT READS IS OF BULK AT MOST 1048576: true; the input reads as it did. -/
def fnWrapUptoRow : OpenClaim := { program := "ytbfmbdohebdbaaagreatdoor", sum := "ba9f82033ff0276304197e03efbec2bb70a788fd5310155c33988c76096c9429", func := "loop.example/g00835/laws.FnWrap", spec := "fnWrap", inPlace := ["internal/abi.NoEscape", "internal/bytealg.MakeNoZero", "internal/reflectlite.TypeOf", "internal/reflectlite.ValueOf", "(internal/reflectlite.Value).Type", "(internal/reflectlite.Value).IsNil", "(internal/reflectlite.Value).Elem", "(internal/reflectlite.Value).Set"], unfollowed := true, recurses := true, named := ["loop.example/g00835/impl.mixFactors", "loop.example/g00835/impl.errNoFit", "errors.errorType", "loop.example/g00835/impl.unmixFactors"], ifaces := true, apart := false, laid := [("errors.errorType", laid_errors_errorType), ("loop.example/g00835/impl.unmixFactors", laid_loop_example_g00835_impl_unmixFactors), ("loop.example/g00835/impl.mixFactors", laid_loop_example_g00835_impl_mixFactors), ("loop.example/g00835/impl.errNoFit", laid_loop_example_g00835_impl_errNoFit)], narrowed := true }
def FnWrapUptoSaid : Prop := fnWrapUptoRow.holds Tryz.pinned (OpenSpec.upto fnWrapSpec)

/-- 'laws.FnUnwrap', WHERE WHAT IT READS IS OF BULK AT MOST 1048576: true; the input reads as it did. -/
def fnUnwrapUptoRow : OpenClaim := { program := "ytbfmbdohebdbaaagreatdoor", sum := "ba9f82033ff0276304197e03efbec2bb70a788fd5310155c33988c76096c9429", func := "loop.example/g00835/laws.FnUnwrap", spec := "fnUnwrap", inPlace := ["internal/abi.NoEscape", "internal/bytealg.MakeNoZero", "internal/reflectlite.TypeOf", "internal/reflectlite.ValueOf", "(internal/reflectlite.Value).Type", "(internal/reflectlite.Value).IsNil", "(internal/reflectlite.Value).Elem", "(internal/reflectlite.Value).Set"], unfollowed := true, recurses := true, named := ["loop.example/g00835/impl.errNoFit", "loop.example/g00835/impl.mixFactors", "loop.example/g00835/impl.unmixFactors", "errors.errorType"], ifaces := true, apart := false, laid := [("errors.errorType", laid_errors_errorType), ("loop.example/g00835/impl.unmixFactors", laid_loop_example_g00835_impl_unmixFactors), ("loop.example/g00835/impl.mixFactors", laid_loop_example_g00835_impl_mixFactors), ("loop.example/g00835/impl.errNoFit", laid_loop_example_g00835_impl_errNoFit)], narrowed := true }
def FnUnwrapUptoSaid : Prop := fnUnwrapUptoRow.holds Tryz.pinned (OpenSpec.upto fnUnwrapSpec)

/-- 'laws.FnWrapped', WHERE WHAT IT READS IS OF BULK AT MOST 1048576: true; the input reads as it did. -/
def fnWrappedUptoRow : OpenClaim := { program := "ytbfmbdohebdbaaagreatdoor", sum := "ba9f82033ff0276304197e03efbec2bb70a788fd5310155c33988c76096c9429", func := "loop.example/g00835/laws.FnWrapped", spec := "fnWrapped", inPlace := ["internal/abi.NoEscape", "internal/bytealg.MakeNoZero", "internal/reflectlite.TypeOf", "internal/reflectlite.ValueOf", "(internal/reflectlite.Value).Type", "(internal/reflectlite.Value).IsNil", "(internal/reflectlite.Value).Elem", "(internal/reflectlite.Value).Set"], unfollowed := true, recurses := true, named := ["loop.example/g00835/impl.mixFactors", "loop.example/g00835/impl.errNoFit", "errors.errorType", "loop.example/g00835/impl.unmixFactors"], ifaces := true, apart := false, laid := [("errors.errorType", laid_errors_errorType), ("loop.example/g00835/impl.unmixFactors", laid_loop_example_g00835_impl_unmixFactors), ("loop.example/g00835/impl.mixFactors", laid_loop_example_g00835_impl_mixFactors), ("loop.example/g00835/impl.errNoFit", laid_loop_example_g00835_impl_errNoFit)], narrowed := true }
def FnWrappedUptoSaid : Prop := fnWrappedUptoRow.holds Tryz.pinned (OpenSpec.upto fnWrappedSpec)

/-- 'laws.FnExactWrap', WHERE WHAT IT READS IS OF BULK AT MOST 1048576: true; the input reads as it did. -/
def fnExactWrapUptoRow : OpenClaim := { program := "ytbfmbdohebdbaaagreatdoor", sum := "ba9f82033ff0276304197e03efbec2bb70a788fd5310155c33988c76096c9429", func := "loop.example/g00835/laws.FnExactWrap", spec := "fnExactWrap", inPlace := ["internal/abi.NoEscape", "internal/bytealg.MakeNoZero", "internal/reflectlite.TypeOf", "internal/reflectlite.ValueOf", "(internal/reflectlite.Value).Type", "(internal/reflectlite.Value).IsNil", "(internal/reflectlite.Value).Elem", "(internal/reflectlite.Value).Set"], unfollowed := true, recurses := true, named := ["loop.example/g00835/impl.mixFactors", "loop.example/g00835/impl.errNoFit", "errors.errorType"], ifaces := true, apart := false, laid := [("errors.errorType", laid_errors_errorType), ("loop.example/g00835/impl.mixFactors", laid_loop_example_g00835_impl_mixFactors), ("loop.example/g00835/impl.errNoFit", laid_loop_example_g00835_impl_errNoFit)], narrowed := true }
def FnExactWrapUptoSaid : Prop := fnExactWrapUptoRow.holds Tryz.pinned (OpenSpec.upto fnExactWrapSpec)

/-- 'laws.FnExactUnwrap', WHERE WHAT IT READS IS OF BULK AT MOST 1048576: true; the input reads as it did. -/
def fnExactUnwrapUptoRow : OpenClaim := { program := "ytbfmbdohebdbaaagreatdoor", sum := "ba9f82033ff0276304197e03efbec2bb70a788fd5310155c33988c76096c9429", func := "loop.example/g00835/laws.FnExactUnwrap", spec := "fnExactUnwrap", inPlace := ["internal/abi.NoEscape", "internal/bytealg.MakeNoZero", "internal/reflectlite.TypeOf", "internal/reflectlite.ValueOf", "(internal/reflectlite.Value).Type", "(internal/reflectlite.Value).IsNil", "(internal/reflectlite.Value).Elem", "(internal/reflectlite.Value).Set"], unfollowed := true, recurses := true, named := ["loop.example/g00835/impl.errNoFit", "loop.example/g00835/impl.mixFactors", "loop.example/g00835/impl.unmixFactors", "errors.errorType"], ifaces := true, apart := false, laid := [("errors.errorType", laid_errors_errorType), ("loop.example/g00835/impl.unmixFactors", laid_loop_example_g00835_impl_unmixFactors), ("loop.example/g00835/impl.mixFactors", laid_loop_example_g00835_impl_mixFactors), ("loop.example/g00835/impl.errNoFit", laid_loop_example_g00835_impl_errNoFit)], narrowed := true }
def FnExactUnwrapUptoSaid : Prop := fnExactUnwrapUptoRow.holds Tryz.pinned (OpenSpec.upto fnExactUnwrapSpec)

end Rows
end Go.Proofs.YtbfmbdohebdbaaaGreatDoor
