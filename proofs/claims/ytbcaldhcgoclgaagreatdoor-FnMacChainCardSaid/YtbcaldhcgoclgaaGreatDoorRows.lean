/-
  NARROWER THAN 'FOR EVERY INPUT', by the rows' own cells (each row's printed sentence says how): FnMac: laid · FnMacOk: laid · FnSeal: laid · FnUnseal: laid · FnMacChain: laid · FnOpen: laid · FnExactMac: laid · FnExactMacOk: laid · FnExactSeal: laid · FnExactUnseal: laid.
  DERIVED. THE GIVEN ROWS OF THIS SEAT. 10 by the template 'for every input the law returns true; each argument reads behind the call as it read before'; 0 by the template 'total and deterministic' (their statements: YtbcaldhcgoclgaaGreatDoorTotals.lean).
  GIVEN WITH THE SEED: the statements are not yours to turn. If you find one false, say at which input.
  Laid BY PROGRAM, IN A SANDBOX (cutbox-rows.mjs): the forced cells as the released guide's own fill.sh prints them over the translation 585a21ddd088bd26… (all of the seat's roots in one cut). By AI agents, Wed Nov 11 2026. No macro, syntax, notation, axiom, sorry.
-/
import Derived.Test.YtbcaldhcgoclgaaGreatDoorChecked
import GoSem.Claim
import GoSem.ClaimJoined
import GoSem.ClaimMapViews
import Derived.JoinedTies
import Derived.KernelRfl
namespace Go.Proofs.YtbcaldhcgoclgaaGreatDoor
/- THE CELL 'sum', in the pinned program and in every row, IS THE sha256 OF THE DUMP (.gsa) THAT YtbcaldhcgoclgaaGreatDoorProg.lean LOADS. Nothing in Lean hashes anything: it is a label: what it is worth is what the hold of that sum in a sandbox is worth. -/
noncomputable def Tryz.pinned : Pinned := { name := "ytbcaldhcgoclgaagreatdoor", sum := "585a21ddd088bd264c03092a1e0a94e5ba547b8f098d152240c2ee23f4c5f3d1", checked := Tryz.checked }
namespace Rows
def none {H : Type} : Left H := { results := [], args := [] }

/- WHAT THE LISTED PACKAGE-LEVEL VARIABLES READ AS WHEN THE CALL BEGINS. Each datum BY PROGRAM (the guide's laid-datum.mjs) off the statement by which the dump's own 'gosem.cut.vars' lays the variable. In a bare row this is a premise. The card (YtbcaldhcgoclgaaGreatDoorCards.lean) ties it to the program's text. -/
def laid_loop_example_g00835_impl_mixFactors {H : Type} : DataW H := .agg [.lit (.int .u8 2), .lit (.int .u8 1), .lit (.int .u8 1), .lit (.int .u8 3)]
def laid_errors_errorType {H : Type} : DataW H := .iface "internal/reflectlite.rtype" (.agg [.ptr (.lit (.string [101, 114, 114, 111, 114]))])

/-- 'laws.FnMac': WHATEVER THE INPUT: true; the input reads as it did. -/
def fnMacSpec : ChangeSpec := { name := "fnMac", vars := ["loop.example/g00835/impl.mixFactors"], fn := fun _ => fun
  | [d, g1] => { results := [.lit (.bool true)], args := [d], vars := [g1] }
  | _ => none }
def fnMacRow : OpenClaim := { program := "ytbcaldhcgoclgaagreatdoor", sum := "585a21ddd088bd264c03092a1e0a94e5ba547b8f098d152240c2ee23f4c5f3d1", func := "loop.example/g00835/laws.FnMac", spec := "fnMac", inPlace := ["internal/abi.NoEscape", "internal/bytealg.MakeNoZero"], unfollowed := true, recurses := true, named := ["loop.example/g00835/impl.mixFactors"], leaving := true, apart := false, laid := [("loop.example/g00835/impl.mixFactors", laid_loop_example_g00835_impl_mixFactors)] }
def FnMacSaid : Prop := fnMacRow.holds Tryz.pinned (OpenSpec.ofChange fnMacSpec)

/-- ITS FALSE NEIGHBOUR: 'it returns false'. Refute it at one input. -/
def fnMacWrong : ChangeSpec := { name := "fnMac", vars := ["loop.example/g00835/impl.mixFactors"], fn := fun _ => fun
  | [d, g1] => { results := [.lit (.bool false)], args := [d], vars := [g1] }
  | _ => none }
def FnMacWrongFalsely : Prop := fnMacRow.holds Tryz.pinned (OpenSpec.ofChange fnMacWrong)

/-- 'laws.FnMacOk': WHATEVER THE INPUT: true; the input reads as it did. -/
def fnMacOkSpec : ChangeSpec := { name := "fnMacOk", vars := ["loop.example/g00835/impl.mixFactors"], fn := fun _ => fun
  | [d, g1] => { results := [.lit (.bool true)], args := [d], vars := [g1] }
  | _ => none }
def fnMacOkRow : OpenClaim := { program := "ytbcaldhcgoclgaagreatdoor", sum := "585a21ddd088bd264c03092a1e0a94e5ba547b8f098d152240c2ee23f4c5f3d1", func := "loop.example/g00835/laws.FnMacOk", spec := "fnMacOk", inPlace := ["internal/abi.NoEscape", "internal/bytealg.MakeNoZero"], unfollowed := true, recurses := true, named := ["loop.example/g00835/impl.mixFactors"], leaving := true, apart := false, laid := [("loop.example/g00835/impl.mixFactors", laid_loop_example_g00835_impl_mixFactors)] }
def FnMacOkSaid : Prop := fnMacOkRow.holds Tryz.pinned (OpenSpec.ofChange fnMacOkSpec)

/-- ITS FALSE NEIGHBOUR: 'it returns false'. Refute it at one input. -/
def fnMacOkWrong : ChangeSpec := { name := "fnMacOk", vars := ["loop.example/g00835/impl.mixFactors"], fn := fun _ => fun
  | [d, g1] => { results := [.lit (.bool false)], args := [d], vars := [g1] }
  | _ => none }
def FnMacOkWrongFalsely : Prop := fnMacOkRow.holds Tryz.pinned (OpenSpec.ofChange fnMacOkWrong)

/-- 'laws.FnSeal': WHATEVER THE INPUT: true; the input reads as it did. -/
def fnSealSpec : ChangeSpec := { name := "fnSeal", vars := ["loop.example/g00835/impl.mixFactors"], fn := fun _ => fun
  | [d, g1] => { results := [.lit (.bool true)], args := [d], vars := [g1] }
  | _ => none }
def fnSealRow : OpenClaim := { program := "ytbcaldhcgoclgaagreatdoor", sum := "585a21ddd088bd264c03092a1e0a94e5ba547b8f098d152240c2ee23f4c5f3d1", func := "loop.example/g00835/laws.FnSeal", spec := "fnSeal", inPlace := ["internal/abi.NoEscape", "internal/bytealg.MakeNoZero", "math/bits.Add64", "(*sync.WaitGroup).Add", "internal/race.ReleaseMerge", "internal/race.Disable", "internal/race.Enable", "internal/synctest.IsInBubble", "internal/synctest.Associate[sync.WaitGroup]", "sync.fatal", "sync/atomic.OrUint64", "sync/atomic.AddUint64", "internal/race.Read", "sync/atomic.LoadUint64", "sync/atomic.StoreUint64", "internal/synctest.Disassociate[sync.WaitGroup]", "sync.runtime_Semrelease", "(*sync.WaitGroup).Done", "(*sync.WaitGroup).Wait", "internal/race.Acquire", "internal/synctest.IsAssociated[sync.WaitGroup]", "sync/atomic.CompareAndSwapUint64", "internal/race.Write", "sync.runtime_SemacquireWaitGroup", "internal/reflectlite.ValueOf", "(internal/reflectlite.Value).Type", "(internal/reflectlite.Value).IsNil", "internal/reflectlite.TypeOf", "(internal/reflectlite.Value).Elem", "(internal/reflectlite.Value).Set"], unfollowed := true, recurses := true, named := ["loop.example/g00835/impl.mixFactors", "errors.errorType"], leaving := true, apart := false, laid := [("errors.errorType", laid_errors_errorType), ("loop.example/g00835/impl.mixFactors", laid_loop_example_g00835_impl_mixFactors)] }
def FnSealSaid : Prop := fnSealRow.holds Tryz.pinned (OpenSpec.ofChange fnSealSpec)

/-- ITS FALSE NEIGHBOUR: 'it returns false'. Refute it at one input. -/
def fnSealWrong : ChangeSpec := { name := "fnSeal", vars := ["loop.example/g00835/impl.mixFactors"], fn := fun _ => fun
  | [d, g1] => { results := [.lit (.bool false)], args := [d], vars := [g1] }
  | _ => none }
def FnSealWrongFalsely : Prop := fnSealRow.holds Tryz.pinned (OpenSpec.ofChange fnSealWrong)

/-- 'laws.FnUnseal': WHATEVER THE INPUT: true; the input reads as it did. -/
def fnUnsealSpec : ChangeSpec := { name := "fnUnseal", vars := ["loop.example/g00835/impl.mixFactors"], fn := fun _ => fun
  | [d, g1] => { results := [.lit (.bool true)], args := [d], vars := [g1] }
  | _ => none }
def fnUnsealRow : OpenClaim := { program := "ytbcaldhcgoclgaagreatdoor", sum := "585a21ddd088bd264c03092a1e0a94e5ba547b8f098d152240c2ee23f4c5f3d1", func := "loop.example/g00835/laws.FnUnseal", spec := "fnUnseal", inPlace := ["internal/abi.NoEscape", "internal/bytealg.MakeNoZero", "math/bits.Add64", "(*sync.WaitGroup).Add", "internal/race.ReleaseMerge", "internal/race.Disable", "internal/race.Enable", "internal/synctest.IsInBubble", "internal/synctest.Associate[sync.WaitGroup]", "sync.fatal", "sync/atomic.OrUint64", "sync/atomic.AddUint64", "internal/race.Read", "sync/atomic.LoadUint64", "sync/atomic.StoreUint64", "internal/synctest.Disassociate[sync.WaitGroup]", "sync.runtime_Semrelease", "(*sync.WaitGroup).Done", "(*sync.WaitGroup).Wait", "internal/race.Acquire", "internal/synctest.IsAssociated[sync.WaitGroup]", "sync/atomic.CompareAndSwapUint64", "internal/race.Write", "sync.runtime_SemacquireWaitGroup", "internal/reflectlite.ValueOf", "(internal/reflectlite.Value).Type", "(internal/reflectlite.Value).IsNil", "internal/reflectlite.TypeOf", "(internal/reflectlite.Value).Elem", "(internal/reflectlite.Value).Set"], unfollowed := true, recurses := true, named := ["loop.example/g00835/impl.mixFactors", "errors.errorType"], leaving := true, apart := false, laid := [("errors.errorType", laid_errors_errorType), ("loop.example/g00835/impl.mixFactors", laid_loop_example_g00835_impl_mixFactors)] }
def FnUnsealSaid : Prop := fnUnsealRow.holds Tryz.pinned (OpenSpec.ofChange fnUnsealSpec)

/-- ITS FALSE NEIGHBOUR: 'it returns false'. Refute it at one input. -/
def fnUnsealWrong : ChangeSpec := { name := "fnUnseal", vars := ["loop.example/g00835/impl.mixFactors"], fn := fun _ => fun
  | [d, g1] => { results := [.lit (.bool false)], args := [d], vars := [g1] }
  | _ => none }
def FnUnsealWrongFalsely : Prop := fnUnsealRow.holds Tryz.pinned (OpenSpec.ofChange fnUnsealWrong)

/-- 'laws.FnMacChain': WHATEVER THE INPUT: true; the input reads as it did. -/
def fnMacChainSpec : ChangeSpec := { name := "fnMacChain", vars := ["loop.example/g00835/impl.mixFactors"], fn := fun _ => fun
  | [d, g1] => { results := [.lit (.bool true)], args := [d], vars := [g1] }
  | _ => none }
def fnMacChainRow : OpenClaim := { program := "ytbcaldhcgoclgaagreatdoor", sum := "585a21ddd088bd264c03092a1e0a94e5ba547b8f098d152240c2ee23f4c5f3d1", func := "loop.example/g00835/laws.FnMacChain", spec := "fnMacChain", inPlace := ["internal/abi.NoEscape", "internal/bytealg.MakeNoZero", "(*sync.WaitGroup).Add", "internal/race.ReleaseMerge", "internal/race.Disable", "internal/race.Enable", "internal/synctest.IsInBubble", "internal/synctest.Associate[sync.WaitGroup]", "sync.fatal", "sync/atomic.OrUint64", "sync/atomic.AddUint64", "internal/race.Read", "sync/atomic.LoadUint64", "sync/atomic.StoreUint64", "internal/synctest.Disassociate[sync.WaitGroup]", "sync.runtime_Semrelease", "(*sync.WaitGroup).Done", "(*sync.WaitGroup).Wait", "internal/race.Acquire", "internal/synctest.IsAssociated[sync.WaitGroup]", "sync/atomic.CompareAndSwapUint64", "internal/race.Write", "sync.runtime_SemacquireWaitGroup", "math/bits.Add64", "internal/reflectlite.ValueOf", "(internal/reflectlite.Value).Type", "(internal/reflectlite.Value).IsNil", "internal/reflectlite.TypeOf", "(internal/reflectlite.Value).Elem", "(internal/reflectlite.Value).Set"], unfollowed := true, recurses := true, named := ["loop.example/g00835/impl.mixFactors", "errors.errorType"], leaving := true, apart := false, laid := [("errors.errorType", laid_errors_errorType), ("loop.example/g00835/impl.mixFactors", laid_loop_example_g00835_impl_mixFactors)] }
def FnMacChainSaid : Prop := fnMacChainRow.holds Tryz.pinned (OpenSpec.ofChange fnMacChainSpec)

/-- ITS FALSE NEIGHBOUR: 'it returns false'. Refute it at one input. -/
def fnMacChainWrong : ChangeSpec := { name := "fnMacChain", vars := ["loop.example/g00835/impl.mixFactors"], fn := fun _ => fun
  | [d, g1] => { results := [.lit (.bool false)], args := [d], vars := [g1] }
  | _ => none }
def FnMacChainWrongFalsely : Prop := fnMacChainRow.holds Tryz.pinned (OpenSpec.ofChange fnMacChainWrong)

/-- 'laws.FnOpen': WHATEVER THE INPUT: true; the input reads as it did. -/
def fnOpenSpec : ChangeSpec := { name := "fnOpen", vars := ["loop.example/g00835/impl.mixFactors"], fn := fun _ => fun
  | [d, g1] => { results := [.lit (.bool true)], args := [d], vars := [g1] }
  | _ => none }
def fnOpenRow : OpenClaim := { program := "ytbcaldhcgoclgaagreatdoor", sum := "585a21ddd088bd264c03092a1e0a94e5ba547b8f098d152240c2ee23f4c5f3d1", func := "loop.example/g00835/laws.FnOpen", spec := "fnOpen", inPlace := ["internal/abi.NoEscape", "internal/bytealg.MakeNoZero", "math/bits.Add64", "(*sync.WaitGroup).Add", "internal/race.ReleaseMerge", "internal/race.Disable", "internal/race.Enable", "internal/synctest.IsInBubble", "internal/synctest.Associate[sync.WaitGroup]", "sync.fatal", "sync/atomic.OrUint64", "sync/atomic.AddUint64", "internal/race.Read", "sync/atomic.LoadUint64", "sync/atomic.StoreUint64", "internal/synctest.Disassociate[sync.WaitGroup]", "sync.runtime_Semrelease", "(*sync.WaitGroup).Done", "(*sync.WaitGroup).Wait", "internal/race.Acquire", "internal/synctest.IsAssociated[sync.WaitGroup]", "sync/atomic.CompareAndSwapUint64", "internal/race.Write", "sync.runtime_SemacquireWaitGroup", "internal/reflectlite.ValueOf", "(internal/reflectlite.Value).Type", "(internal/reflectlite.Value).IsNil", "internal/reflectlite.TypeOf", "(internal/reflectlite.Value).Elem", "(internal/reflectlite.Value).Set"], unfollowed := true, recurses := true, named := ["loop.example/g00835/impl.mixFactors", "errors.errorType"], leaving := true, apart := false, laid := [("errors.errorType", laid_errors_errorType), ("loop.example/g00835/impl.mixFactors", laid_loop_example_g00835_impl_mixFactors)] }
def FnOpenSaid : Prop := fnOpenRow.holds Tryz.pinned (OpenSpec.ofChange fnOpenSpec)

/-- ITS FALSE NEIGHBOUR: 'it returns false'. Refute it at one input. -/
def fnOpenWrong : ChangeSpec := { name := "fnOpen", vars := ["loop.example/g00835/impl.mixFactors"], fn := fun _ => fun
  | [d, g1] => { results := [.lit (.bool false)], args := [d], vars := [g1] }
  | _ => none }
def FnOpenWrongFalsely : Prop := fnOpenRow.holds Tryz.pinned (OpenSpec.ofChange fnOpenWrong)

/-- 'laws.FnExactMac': WHATEVER THE INPUT: true; the input reads as it did. -/
def fnExactMacSpec : ChangeSpec := { name := "fnExactMac", vars := ["loop.example/g00835/impl.mixFactors"], fn := fun _ => fun
  | [d1, d2, g1] => { results := [.lit (.bool true)], args := [d1, d2], vars := [g1] }
  | _ => none }
def fnExactMacRow : OpenClaim := { program := "ytbcaldhcgoclgaagreatdoor", sum := "585a21ddd088bd264c03092a1e0a94e5ba547b8f098d152240c2ee23f4c5f3d1", func := "loop.example/g00835/laws.FnExactMac", spec := "fnExactMac", inPlace := ["internal/abi.NoEscape", "internal/bytealg.MakeNoZero"], unfollowed := true, recurses := true, named := ["loop.example/g00835/impl.mixFactors"], leaving := true, apart := false, laid := [("loop.example/g00835/impl.mixFactors", laid_loop_example_g00835_impl_mixFactors)] }
def FnExactMacSaid : Prop := fnExactMacRow.holds Tryz.pinned (OpenSpec.ofChange fnExactMacSpec)

/-- ITS FALSE NEIGHBOUR: 'it returns false'. Refute it at one input. -/
def fnExactMacWrong : ChangeSpec := { name := "fnExactMac", vars := ["loop.example/g00835/impl.mixFactors"], fn := fun _ => fun
  | [d1, d2, g1] => { results := [.lit (.bool false)], args := [d1, d2], vars := [g1] }
  | _ => none }
def FnExactMacWrongFalsely : Prop := fnExactMacRow.holds Tryz.pinned (OpenSpec.ofChange fnExactMacWrong)

/-- 'laws.FnExactMacOk': WHATEVER THE INPUT: true; the input reads as it did. -/
def fnExactMacOkSpec : ChangeSpec := { name := "fnExactMacOk", vars := ["loop.example/g00835/impl.mixFactors"], fn := fun _ => fun
  | [d1, d2, d3, g1] => { results := [.lit (.bool true)], args := [d1, d2, d3], vars := [g1] }
  | _ => none }
def fnExactMacOkRow : OpenClaim := { program := "ytbcaldhcgoclgaagreatdoor", sum := "585a21ddd088bd264c03092a1e0a94e5ba547b8f098d152240c2ee23f4c5f3d1", func := "loop.example/g00835/laws.FnExactMacOk", spec := "fnExactMacOk", inPlace := ["internal/abi.NoEscape", "internal/bytealg.MakeNoZero"], unfollowed := true, recurses := true, named := ["loop.example/g00835/impl.mixFactors"], leaving := true, apart := false, laid := [("loop.example/g00835/impl.mixFactors", laid_loop_example_g00835_impl_mixFactors)] }
def FnExactMacOkSaid : Prop := fnExactMacOkRow.holds Tryz.pinned (OpenSpec.ofChange fnExactMacOkSpec)

/-- ITS FALSE NEIGHBOUR: 'it returns false'. Refute it at one input. -/
def fnExactMacOkWrong : ChangeSpec := { name := "fnExactMacOk", vars := ["loop.example/g00835/impl.mixFactors"], fn := fun _ => fun
  | [d1, d2, d3, g1] => { results := [.lit (.bool false)], args := [d1, d2, d3], vars := [g1] }
  | _ => none }
def FnExactMacOkWrongFalsely : Prop := fnExactMacOkRow.holds Tryz.pinned (OpenSpec.ofChange fnExactMacOkWrong)

/-- 'laws.FnExactSeal': WHATEVER THE INPUT: true; the input reads as it did. -/
def fnExactSealSpec : ChangeSpec := { name := "fnExactSeal", vars := ["loop.example/g00835/impl.mixFactors"], fn := fun _ => fun
  | [d1, d2, d3, d4, g1] => { results := [.lit (.bool true)], args := [d1, d2, d3, d4], vars := [g1] }
  | _ => none }
def fnExactSealRow : OpenClaim := { program := "ytbcaldhcgoclgaagreatdoor", sum := "585a21ddd088bd264c03092a1e0a94e5ba547b8f098d152240c2ee23f4c5f3d1", func := "loop.example/g00835/laws.FnExactSeal", spec := "fnExactSeal", inPlace := ["internal/abi.NoEscape", "internal/bytealg.MakeNoZero", "math/bits.Add64", "(*sync.WaitGroup).Add", "internal/race.ReleaseMerge", "internal/race.Disable", "internal/race.Enable", "internal/synctest.IsInBubble", "internal/synctest.Associate[sync.WaitGroup]", "sync.fatal", "sync/atomic.OrUint64", "sync/atomic.AddUint64", "internal/race.Read", "sync/atomic.LoadUint64", "sync/atomic.StoreUint64", "internal/synctest.Disassociate[sync.WaitGroup]", "sync.runtime_Semrelease", "(*sync.WaitGroup).Done", "(*sync.WaitGroup).Wait", "internal/race.Acquire", "internal/synctest.IsAssociated[sync.WaitGroup]", "sync/atomic.CompareAndSwapUint64", "internal/race.Write", "sync.runtime_SemacquireWaitGroup", "internal/reflectlite.ValueOf", "(internal/reflectlite.Value).Type", "(internal/reflectlite.Value).IsNil", "internal/reflectlite.TypeOf", "(internal/reflectlite.Value).Elem", "(internal/reflectlite.Value).Set"], unfollowed := true, recurses := true, named := ["loop.example/g00835/impl.mixFactors", "errors.errorType"], leaving := true, apart := false, laid := [("errors.errorType", laid_errors_errorType), ("loop.example/g00835/impl.mixFactors", laid_loop_example_g00835_impl_mixFactors)] }
def FnExactSealSaid : Prop := fnExactSealRow.holds Tryz.pinned (OpenSpec.ofChange fnExactSealSpec)

/-- ITS FALSE NEIGHBOUR: 'it returns false'. Refute it at one input. -/
def fnExactSealWrong : ChangeSpec := { name := "fnExactSeal", vars := ["loop.example/g00835/impl.mixFactors"], fn := fun _ => fun
  | [d1, d2, d3, d4, g1] => { results := [.lit (.bool false)], args := [d1, d2, d3, d4], vars := [g1] }
  | _ => none }
def FnExactSealWrongFalsely : Prop := fnExactSealRow.holds Tryz.pinned (OpenSpec.ofChange fnExactSealWrong)

/-- 'laws.FnExactUnseal': WHATEVER THE INPUT: true; the input reads as it did. -/
def fnExactUnsealSpec : ChangeSpec := { name := "fnExactUnseal", vars := ["loop.example/g00835/impl.mixFactors"], fn := fun _ => fun
  | [d1, d2, d3, d4, g1] => { results := [.lit (.bool true)], args := [d1, d2, d3, d4], vars := [g1] }
  | _ => none }
def fnExactUnsealRow : OpenClaim := { program := "ytbcaldhcgoclgaagreatdoor", sum := "585a21ddd088bd264c03092a1e0a94e5ba547b8f098d152240c2ee23f4c5f3d1", func := "loop.example/g00835/laws.FnExactUnseal", spec := "fnExactUnseal", inPlace := ["internal/abi.NoEscape", "internal/bytealg.MakeNoZero", "math/bits.Add64", "(*sync.WaitGroup).Add", "internal/race.ReleaseMerge", "internal/race.Disable", "internal/race.Enable", "internal/synctest.IsInBubble", "internal/synctest.Associate[sync.WaitGroup]", "sync.fatal", "sync/atomic.OrUint64", "sync/atomic.AddUint64", "internal/race.Read", "sync/atomic.LoadUint64", "sync/atomic.StoreUint64", "internal/synctest.Disassociate[sync.WaitGroup]", "sync.runtime_Semrelease", "(*sync.WaitGroup).Done", "(*sync.WaitGroup).Wait", "internal/race.Acquire", "internal/synctest.IsAssociated[sync.WaitGroup]", "sync/atomic.CompareAndSwapUint64", "internal/race.Write", "sync.runtime_SemacquireWaitGroup", "internal/reflectlite.ValueOf", "(internal/reflectlite.Value).Type", "(internal/reflectlite.Value).IsNil", "internal/reflectlite.TypeOf", "(internal/reflectlite.Value).Elem", "(internal/reflectlite.Value).Set"], unfollowed := true, recurses := true, named := ["loop.example/g00835/impl.mixFactors", "errors.errorType"], leaving := true, apart := false, laid := [("errors.errorType", laid_errors_errorType), ("loop.example/g00835/impl.mixFactors", laid_loop_example_g00835_impl_mixFactors)] }
def FnExactUnsealSaid : Prop := fnExactUnsealRow.holds Tryz.pinned (OpenSpec.ofChange fnExactUnsealSpec)

/-- ITS FALSE NEIGHBOUR: 'it returns false'. Refute it at one input. -/
def fnExactUnsealWrong : ChangeSpec := { name := "fnExactUnseal", vars := ["loop.example/g00835/impl.mixFactors"], fn := fun _ => fun
  | [d1, d2, d3, d4, g1] => { results := [.lit (.bool false)], args := [d1, d2, d3, d4], vars := [g1] }
  | _ => none }
def FnExactUnsealWrongFalsely : Prop := fnExactUnsealRow.holds Tryz.pinned (OpenSpec.ofChange fnExactUnsealWrong)

/- THE SECOND FORM. 'bulk': how many values and letters a reading holds, each counted each time it is reached (what is shared counts as often as it is met; a slice's spare places count too). A statement '..UptoSaid' is the law's where the arguments, and the package variables that the reading takes, are together of bulk at most 1048576: NARROWER than '..Said'. Prove '..Said' where nothing that the law and all that it calls make is longer than what came in: it says more and counts as full. Else prove '..UptoSaid'. A law counts once. -/
mutual
def uptoBulk {H : Type} : DataW H → Nat
  | .lit (.string bytes) => bytes.length + 1
  | .lit _ => 1
  | .nil => 1
  | .ptr d => uptoBulk d + 1
  | .slice elems spare => uptoBulkAll elems + uptoBulkAll spare + 1
  | .agg parts => uptoBulkAll parts + 1
  | .iface _ d => uptoBulk d + 1
  | .map entries => uptoBulkEntries entries + 1
  | .held _ => 1
def uptoBulkAll {H : Type} : List (DataW H) → Nat
  | [] => 0
  | d :: r => uptoBulk d + uptoBulkAll r
def uptoBulkEntries {H : Type} : List (Lit × DataW H) → Nat
  | [] => 0
  | x :: r => uptoBulkEntry x + uptoBulkEntries r
def uptoBulkEntry {H : Type} : Lit × DataW H → Nat
  | (.string bytes, d) => bytes.length + uptoBulk d + 1
  | (_, d) => uptoBulk d + 1
 end
def uptoSmall : (H : Type) → List (DataW H) → Bool := fun _ ds => decide (uptoBulkAll ds ≤ 1048576)
def OpenSpec.upto (s : _root_.Go.ChangeSpec) : _root_.Go.OpenSpec := { _root_.Go.OpenSpec.ofChange s with cond := some uptoSmall }

/-- 'laws.FnMac', WHERE WHAT IT READS IS OF BULK AT MOST 1048576: true; the input reads as it did. -/
def fnMacUptoRow : OpenClaim := { program := "ytbcaldhcgoclgaagreatdoor", sum := "585a21ddd088bd264c03092a1e0a94e5ba547b8f098d152240c2ee23f4c5f3d1", func := "loop.example/g00835/laws.FnMac", spec := "fnMac", inPlace := ["internal/abi.NoEscape", "internal/bytealg.MakeNoZero"], unfollowed := true, recurses := true, named := ["loop.example/g00835/impl.mixFactors"], leaving := true, apart := false, laid := [("loop.example/g00835/impl.mixFactors", laid_loop_example_g00835_impl_mixFactors)], narrowed := true }
def FnMacUptoSaid : Prop := fnMacUptoRow.holds Tryz.pinned (OpenSpec.upto fnMacSpec)

/-- 'laws.FnMacOk', WHERE WHAT IT READS IS OF BULK AT MOST 1048576: true; the input reads as it did. -/
def fnMacOkUptoRow : OpenClaim := { program := "ytbcaldhcgoclgaagreatdoor", sum := "585a21ddd088bd264c03092a1e0a94e5ba547b8f098d152240c2ee23f4c5f3d1", func := "loop.example/g00835/laws.FnMacOk", spec := "fnMacOk", inPlace := ["internal/abi.NoEscape", "internal/bytealg.MakeNoZero"], unfollowed := true, recurses := true, named := ["loop.example/g00835/impl.mixFactors"], leaving := true, apart := false, laid := [("loop.example/g00835/impl.mixFactors", laid_loop_example_g00835_impl_mixFactors)], narrowed := true }
def FnMacOkUptoSaid : Prop := fnMacOkUptoRow.holds Tryz.pinned (OpenSpec.upto fnMacOkSpec)

/-- 'laws.FnSeal', WHERE WHAT IT READS IS OF BULK AT MOST 1048576: true; the input reads as it did. -/
def fnSealUptoRow : OpenClaim := { program := "ytbcaldhcgoclgaagreatdoor", sum := "585a21ddd088bd264c03092a1e0a94e5ba547b8f098d152240c2ee23f4c5f3d1", func := "loop.example/g00835/laws.FnSeal", spec := "fnSeal", inPlace := ["internal/abi.NoEscape", "internal/bytealg.MakeNoZero", "math/bits.Add64", "(*sync.WaitGroup).Add", "internal/race.ReleaseMerge", "internal/race.Disable", "internal/race.Enable", "internal/synctest.IsInBubble", "internal/synctest.Associate[sync.WaitGroup]", "sync.fatal", "sync/atomic.OrUint64", "sync/atomic.AddUint64", "internal/race.Read", "sync/atomic.LoadUint64", "sync/atomic.StoreUint64", "internal/synctest.Disassociate[sync.WaitGroup]", "sync.runtime_Semrelease", "(*sync.WaitGroup).Done", "(*sync.WaitGroup).Wait", "internal/race.Acquire", "internal/synctest.IsAssociated[sync.WaitGroup]", "sync/atomic.CompareAndSwapUint64", "internal/race.Write", "sync.runtime_SemacquireWaitGroup", "internal/reflectlite.ValueOf", "(internal/reflectlite.Value).Type", "(internal/reflectlite.Value).IsNil", "internal/reflectlite.TypeOf", "(internal/reflectlite.Value).Elem", "(internal/reflectlite.Value).Set"], unfollowed := true, recurses := true, named := ["loop.example/g00835/impl.mixFactors", "errors.errorType"], leaving := true, apart := false, laid := [("errors.errorType", laid_errors_errorType), ("loop.example/g00835/impl.mixFactors", laid_loop_example_g00835_impl_mixFactors)], narrowed := true }
def FnSealUptoSaid : Prop := fnSealUptoRow.holds Tryz.pinned (OpenSpec.upto fnSealSpec)

/-- 'laws.FnUnseal', WHERE WHAT IT READS IS OF BULK AT MOST 1048576: true; the input reads as it did. -/
def fnUnsealUptoRow : OpenClaim := { program := "ytbcaldhcgoclgaagreatdoor", sum := "585a21ddd088bd264c03092a1e0a94e5ba547b8f098d152240c2ee23f4c5f3d1", func := "loop.example/g00835/laws.FnUnseal", spec := "fnUnseal", inPlace := ["internal/abi.NoEscape", "internal/bytealg.MakeNoZero", "math/bits.Add64", "(*sync.WaitGroup).Add", "internal/race.ReleaseMerge", "internal/race.Disable", "internal/race.Enable", "internal/synctest.IsInBubble", "internal/synctest.Associate[sync.WaitGroup]", "sync.fatal", "sync/atomic.OrUint64", "sync/atomic.AddUint64", "internal/race.Read", "sync/atomic.LoadUint64", "sync/atomic.StoreUint64", "internal/synctest.Disassociate[sync.WaitGroup]", "sync.runtime_Semrelease", "(*sync.WaitGroup).Done", "(*sync.WaitGroup).Wait", "internal/race.Acquire", "internal/synctest.IsAssociated[sync.WaitGroup]", "sync/atomic.CompareAndSwapUint64", "internal/race.Write", "sync.runtime_SemacquireWaitGroup", "internal/reflectlite.ValueOf", "(internal/reflectlite.Value).Type", "(internal/reflectlite.Value).IsNil", "internal/reflectlite.TypeOf", "(internal/reflectlite.Value).Elem", "(internal/reflectlite.Value).Set"], unfollowed := true, recurses := true, named := ["loop.example/g00835/impl.mixFactors", "errors.errorType"], leaving := true, apart := false, laid := [("errors.errorType", laid_errors_errorType), ("loop.example/g00835/impl.mixFactors", laid_loop_example_g00835_impl_mixFactors)], narrowed := true }
def FnUnsealUptoSaid : Prop := fnUnsealUptoRow.holds Tryz.pinned (OpenSpec.upto fnUnsealSpec)

/-- 'laws.FnMacChain', WHERE WHAT IT READS IS OF BULK AT MOST 1048576: true; the input reads as it did. -/
def fnMacChainUptoRow : OpenClaim := { program := "ytbcaldhcgoclgaagreatdoor", sum := "585a21ddd088bd264c03092a1e0a94e5ba547b8f098d152240c2ee23f4c5f3d1", func := "loop.example/g00835/laws.FnMacChain", spec := "fnMacChain", inPlace := ["internal/abi.NoEscape", "internal/bytealg.MakeNoZero", "(*sync.WaitGroup).Add", "internal/race.ReleaseMerge", "internal/race.Disable", "internal/race.Enable", "internal/synctest.IsInBubble", "internal/synctest.Associate[sync.WaitGroup]", "sync.fatal", "sync/atomic.OrUint64", "sync/atomic.AddUint64", "internal/race.Read", "sync/atomic.LoadUint64", "sync/atomic.StoreUint64", "internal/synctest.Disassociate[sync.WaitGroup]", "sync.runtime_Semrelease", "(*sync.WaitGroup).Done", "(*sync.WaitGroup).Wait", "internal/race.Acquire", "internal/synctest.IsAssociated[sync.WaitGroup]", "sync/atomic.CompareAndSwapUint64", "internal/race.Write", "sync.runtime_SemacquireWaitGroup", "math/bits.Add64", "internal/reflectlite.ValueOf", "(internal/reflectlite.Value).Type", "(internal/reflectlite.Value).IsNil", "internal/reflectlite.TypeOf", "(internal/reflectlite.Value).Elem", "(internal/reflectlite.Value).Set"], unfollowed := true, recurses := true, named := ["loop.example/g00835/impl.mixFactors", "errors.errorType"], leaving := true, apart := false, laid := [("errors.errorType", laid_errors_errorType), ("loop.example/g00835/impl.mixFactors", laid_loop_example_g00835_impl_mixFactors)], narrowed := true }
def FnMacChainUptoSaid : Prop := fnMacChainUptoRow.holds Tryz.pinned (OpenSpec.upto fnMacChainSpec)

/-- 'laws.FnOpen', WHERE WHAT IT READS IS OF BULK AT MOST 1048576: true; the input reads as it did. -/
def fnOpenUptoRow : OpenClaim := { program := "ytbcaldhcgoclgaagreatdoor", sum := "585a21ddd088bd264c03092a1e0a94e5ba547b8f098d152240c2ee23f4c5f3d1", func := "loop.example/g00835/laws.FnOpen", spec := "fnOpen", inPlace := ["internal/abi.NoEscape", "internal/bytealg.MakeNoZero", "math/bits.Add64", "(*sync.WaitGroup).Add", "internal/race.ReleaseMerge", "internal/race.Disable", "internal/race.Enable", "internal/synctest.IsInBubble", "internal/synctest.Associate[sync.WaitGroup]", "sync.fatal", "sync/atomic.OrUint64", "sync/atomic.AddUint64", "internal/race.Read", "sync/atomic.LoadUint64", "sync/atomic.StoreUint64", "internal/synctest.Disassociate[sync.WaitGroup]", "sync.runtime_Semrelease", "(*sync.WaitGroup).Done", "(*sync.WaitGroup).Wait", "internal/race.Acquire", "internal/synctest.IsAssociated[sync.WaitGroup]", "sync/atomic.CompareAndSwapUint64", "internal/race.Write", "sync.runtime_SemacquireWaitGroup", "internal/reflectlite.ValueOf", "(internal/reflectlite.Value).Type", "(internal/reflectlite.Value).IsNil", "internal/reflectlite.TypeOf", "(internal/reflectlite.Value).Elem", "(internal/reflectlite.Value).Set"], unfollowed := true, recurses := true, named := ["loop.example/g00835/impl.mixFactors", "errors.errorType"], leaving := true, apart := false, laid := [("errors.errorType", laid_errors_errorType), ("loop.example/g00835/impl.mixFactors", laid_loop_example_g00835_impl_mixFactors)], narrowed := true }
def FnOpenUptoSaid : Prop := fnOpenUptoRow.holds Tryz.pinned (OpenSpec.upto fnOpenSpec)

/-- 'laws.FnExactMac', WHERE WHAT IT READS IS OF BULK AT MOST 1048576: true; the input reads as it did. -/
def fnExactMacUptoRow : OpenClaim := { program := "ytbcaldhcgoclgaagreatdoor", sum := "585a21ddd088bd264c03092a1e0a94e5ba547b8f098d152240c2ee23f4c5f3d1", func := "loop.example/g00835/laws.FnExactMac", spec := "fnExactMac", inPlace := ["internal/abi.NoEscape", "internal/bytealg.MakeNoZero"], unfollowed := true, recurses := true, named := ["loop.example/g00835/impl.mixFactors"], leaving := true, apart := false, laid := [("loop.example/g00835/impl.mixFactors", laid_loop_example_g00835_impl_mixFactors)], narrowed := true }
def FnExactMacUptoSaid : Prop := fnExactMacUptoRow.holds Tryz.pinned (OpenSpec.upto fnExactMacSpec)

/-- 'laws.FnExactMacOk', WHERE WHAT IT READS IS OF BULK AT MOST 1048576: true; the input reads as it did. -/
def fnExactMacOkUptoRow : OpenClaim := { program := "ytbcaldhcgoclgaagreatdoor", sum := "585a21ddd088bd264c03092a1e0a94e5ba547b8f098d152240c2ee23f4c5f3d1", func := "loop.example/g00835/laws.FnExactMacOk", spec := "fnExactMacOk", inPlace := ["internal/abi.NoEscape", "internal/bytealg.MakeNoZero"], unfollowed := true, recurses := true, named := ["loop.example/g00835/impl.mixFactors"], leaving := true, apart := false, laid := [("loop.example/g00835/impl.mixFactors", laid_loop_example_g00835_impl_mixFactors)], narrowed := true }
def FnExactMacOkUptoSaid : Prop := fnExactMacOkUptoRow.holds Tryz.pinned (OpenSpec.upto fnExactMacOkSpec)

/-- 'laws.FnExactSeal', WHERE WHAT IT READS IS OF BULK AT MOST 1048576: true; the input reads as it did. -/
def fnExactSealUptoRow : OpenClaim := { program := "ytbcaldhcgoclgaagreatdoor", sum := "585a21ddd088bd264c03092a1e0a94e5ba547b8f098d152240c2ee23f4c5f3d1", func := "loop.example/g00835/laws.FnExactSeal", spec := "fnExactSeal", inPlace := ["internal/abi.NoEscape", "internal/bytealg.MakeNoZero", "math/bits.Add64", "(*sync.WaitGroup).Add", "internal/race.ReleaseMerge", "internal/race.Disable", "internal/race.Enable", "internal/synctest.IsInBubble", "internal/synctest.Associate[sync.WaitGroup]", "sync.fatal", "sync/atomic.OrUint64", "sync/atomic.AddUint64", "internal/race.Read", "sync/atomic.LoadUint64", "sync/atomic.StoreUint64", "internal/synctest.Disassociate[sync.WaitGroup]", "sync.runtime_Semrelease", "(*sync.WaitGroup).Done", "(*sync.WaitGroup).Wait", "internal/race.Acquire", "internal/synctest.IsAssociated[sync.WaitGroup]", "sync/atomic.CompareAndSwapUint64", "internal/race.Write", "sync.runtime_SemacquireWaitGroup", "internal/reflectlite.ValueOf", "(internal/reflectlite.Value).Type", "(internal/reflectlite.Value).IsNil", "internal/reflectlite.TypeOf", "(internal/reflectlite.Value).Elem", "(internal/reflectlite.Value).Set"], unfollowed := true, recurses := true, named := ["loop.example/g00835/impl.mixFactors", "errors.errorType"], leaving := true, apart := false, laid := [("errors.errorType", laid_errors_errorType), ("loop.example/g00835/impl.mixFactors", laid_loop_example_g00835_impl_mixFactors)], narrowed := true }
def FnExactSealUptoSaid : Prop := fnExactSealUptoRow.holds Tryz.pinned (OpenSpec.upto fnExactSealSpec)

/-- 'laws.FnExactUnseal', WHERE WHAT IT READS IS OF BULK AT MOST 1048576: true; the input reads as it did. -/
def fnExactUnsealUptoRow : OpenClaim := { program := "ytbcaldhcgoclgaagreatdoor", sum := "585a21ddd088bd264c03092a1e0a94e5ba547b8f098d152240c2ee23f4c5f3d1", func := "loop.example/g00835/laws.FnExactUnseal", spec := "fnExactUnseal", inPlace := ["internal/abi.NoEscape", "internal/bytealg.MakeNoZero", "math/bits.Add64", "(*sync.WaitGroup).Add", "internal/race.ReleaseMerge", "internal/race.Disable", "internal/race.Enable", "internal/synctest.IsInBubble", "internal/synctest.Associate[sync.WaitGroup]", "sync.fatal", "sync/atomic.OrUint64", "sync/atomic.AddUint64", "internal/race.Read", "sync/atomic.LoadUint64", "sync/atomic.StoreUint64", "internal/synctest.Disassociate[sync.WaitGroup]", "sync.runtime_Semrelease", "(*sync.WaitGroup).Done", "(*sync.WaitGroup).Wait", "internal/race.Acquire", "internal/synctest.IsAssociated[sync.WaitGroup]", "sync/atomic.CompareAndSwapUint64", "internal/race.Write", "sync.runtime_SemacquireWaitGroup", "internal/reflectlite.ValueOf", "(internal/reflectlite.Value).Type", "(internal/reflectlite.Value).IsNil", "internal/reflectlite.TypeOf", "(internal/reflectlite.Value).Elem", "(internal/reflectlite.Value).Set"], unfollowed := true, recurses := true, named := ["loop.example/g00835/impl.mixFactors", "errors.errorType"], leaving := true, apart := false, laid := [("errors.errorType", laid_errors_errorType), ("loop.example/g00835/impl.mixFactors", laid_loop_example_g00835_impl_mixFactors)], narrowed := true }
def FnExactUnsealUptoSaid : Prop := fnExactUnsealUptoRow.holds Tryz.pinned (OpenSpec.upto fnExactUnsealSpec)

end Rows
end Go.Proofs.YtbcaldhcgoclgaaGreatDoor
