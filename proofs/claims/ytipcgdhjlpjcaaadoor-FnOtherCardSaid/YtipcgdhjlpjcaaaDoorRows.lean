/-
  NARROWER THAN 'FOR EVERY INPUT', by the rows' own cells (each row's printed sentence says how): FnOther: laid · FnKnown: laid · FnBack: laid · FnExactSteps: laid · FnExactLock: laid · FnExactUnlock: laid.
  DERIVED. THE GIVEN ROWS OF THIS SEAT. 6 by the template 'for every input the law returns true; each argument reads behind the call as it read before'; 0 by the template 'total and deterministic' (their statements: YtipcgdhjlpjcaaaDoorTotals.lean).
  GIVEN WITH THE SEED: the statements are not yours to turn. If you find one false, say at which input.
  Laid BY PROGRAM, IN A SANDBOX (cutbox-rows.mjs): the forced cells as the released guide's own fill.sh prints them over the translation ae9c5c00bcbf6d80… (all of the seat's roots in one cut). By AI agents, Wed Nov 11 2026. No macro, syntax, notation, axiom, sorry.
-/
import Derived.Test.YtipcgdhjlpjcaaaDoorChecked
import GoSem.Claim
import GoSem.ClaimJoined
import GoSem.ClaimMapViews
import Derived.JoinedTies
import Derived.KernelRfl
namespace Go.Proofs.YtipcgdhjlpjcaaaDoor
/- THE CELL 'sum', in the pinned program and in every row, IS THE sha256 OF THE DUMP (.gsa) THAT YtipcgdhjlpjcaaaDoorProg.lean LOADS. Nothing in Lean hashes anything: it is a label: what it is worth is what the hold of that sum in a sandbox is worth. -/
noncomputable def Tryd.pinned : Pinned := { name := "ytipcgdhjlpjcaaadoor", sum := "ae9c5c00bcbf6d804c53a6a57394c0559db3f605a0b70572e7dfdd72c71f911b", checked := Tryd.checked }
namespace Rows
def none {H : Type} : Left H := { results := [], args := [] }

/- WHAT THE LISTED PACKAGE-LEVEL VARIABLES READ AS WHEN THE CALL BEGINS. Each datum BY PROGRAM (the guide's laid-datum.mjs) off the statement by which the dump's own 'gosem.cut.vars' lays the variable. In a bare row this is a premise. The card (YtipcgdhjlpjcaaaDoorCards.lean) ties it to the program's text. -/
def laid_loop_example_g00835_impl_mixFactors {H : Type} : DataW H := .agg [.lit (.int .u8 2), .lit (.int .u8 1), .lit (.int .u8 1), .lit (.int .u8 3)]

/-- 'laws.FnOther': WHATEVER THE INPUT: true; the input reads as it did. -/
def fnOtherSpec : ChangeSpec := { name := "fnOther", vars := ["loop.example/g00835/impl.mixFactors"], fn := fun _ => fun
  | [d, g1] => { results := [.lit (.bool true)], args := [d], vars := [g1] }
  | _ => none }
def fnOtherRow : OpenClaim := { program := "ytipcgdhjlpjcaaadoor", sum := "ae9c5c00bcbf6d804c53a6a57394c0559db3f605a0b70572e7dfdd72c71f911b", func := "loop.example/g00835/laws.FnOther", spec := "fnOther", unfollowed := true, recurses := true, named := ["loop.example/g00835/impl.mixFactors"], apart := false, laid := [("loop.example/g00835/impl.mixFactors", laid_loop_example_g00835_impl_mixFactors)] }
def FnOtherSaid : Prop := fnOtherRow.holds Tryd.pinned (OpenSpec.ofChange fnOtherSpec)

/-- ITS FALSE NEIGHBOUR: 'it returns false'. Refute it at one input. -/
def fnOtherWrong : ChangeSpec := { name := "fnOther", vars := ["loop.example/g00835/impl.mixFactors"], fn := fun _ => fun
  | [d, g1] => { results := [.lit (.bool false)], args := [d], vars := [g1] }
  | _ => none }
def FnOtherWrongFalsely : Prop := fnOtherRow.holds Tryd.pinned (OpenSpec.ofChange fnOtherWrong)

/-- 'laws.FnKnown': WHATEVER THE INPUT: true; the input reads as it did. -/
def fnKnownSpec : ChangeSpec := { name := "fnKnown", vars := ["loop.example/g00835/impl.mixFactors"], fn := fun _ => fun
  | [d, g1] => { results := [.lit (.bool true)], args := [d], vars := [g1] }
  | _ => none }
def fnKnownRow : OpenClaim := { program := "ytipcgdhjlpjcaaadoor", sum := "ae9c5c00bcbf6d804c53a6a57394c0559db3f605a0b70572e7dfdd72c71f911b", func := "loop.example/g00835/laws.FnKnown", spec := "fnKnown", unfollowed := true, recurses := true, named := ["loop.example/g00835/impl.mixFactors"], apart := false, laid := [("loop.example/g00835/impl.mixFactors", laid_loop_example_g00835_impl_mixFactors)] }
def FnKnownSaid : Prop := fnKnownRow.holds Tryd.pinned (OpenSpec.ofChange fnKnownSpec)

/-- ITS FALSE NEIGHBOUR: 'it returns false'. Refute it at one input. -/
def fnKnownWrong : ChangeSpec := { name := "fnKnown", vars := ["loop.example/g00835/impl.mixFactors"], fn := fun _ => fun
  | [d, g1] => { results := [.lit (.bool false)], args := [d], vars := [g1] }
  | _ => none }
def FnKnownWrongFalsely : Prop := fnKnownRow.holds Tryd.pinned (OpenSpec.ofChange fnKnownWrong)

/-- 'laws.FnBack': WHATEVER THE INPUT: true; the input reads as it did. -/
def fnBackSpec : ChangeSpec := { name := "fnBack", vars := ["loop.example/g00835/impl.mixFactors"], fn := fun _ => fun
  | [d, g1] => { results := [.lit (.bool true)], args := [d], vars := [g1] }
  | _ => none }
def fnBackRow : OpenClaim := { program := "ytipcgdhjlpjcaaadoor", sum := "ae9c5c00bcbf6d804c53a6a57394c0559db3f605a0b70572e7dfdd72c71f911b", func := "loop.example/g00835/laws.FnBack", spec := "fnBack", unfollowed := true, recurses := true, named := ["loop.example/g00835/impl.mixFactors"], apart := false, laid := [("loop.example/g00835/impl.mixFactors", laid_loop_example_g00835_impl_mixFactors)] }
def FnBackSaid : Prop := fnBackRow.holds Tryd.pinned (OpenSpec.ofChange fnBackSpec)

/-- ITS FALSE NEIGHBOUR: 'it returns false'. Refute it at one input. -/
def fnBackWrong : ChangeSpec := { name := "fnBack", vars := ["loop.example/g00835/impl.mixFactors"], fn := fun _ => fun
  | [d, g1] => { results := [.lit (.bool false)], args := [d], vars := [g1] }
  | _ => none }
def FnBackWrongFalsely : Prop := fnBackRow.holds Tryd.pinned (OpenSpec.ofChange fnBackWrong)

/-- 'laws.FnExactSteps': WHATEVER THE INPUT: true; the input reads as it did. -/
def fnExactStepsSpec : ChangeSpec := { name := "fnExactSteps", vars := ["loop.example/g00835/impl.mixFactors"], fn := fun _ => fun
  | [d1, d2, g1] => { results := [.lit (.bool true)], args := [d1, d2], vars := [g1] }
  | _ => none }
def fnExactStepsRow : OpenClaim := { program := "ytipcgdhjlpjcaaadoor", sum := "ae9c5c00bcbf6d804c53a6a57394c0559db3f605a0b70572e7dfdd72c71f911b", func := "loop.example/g00835/laws.FnExactSteps", spec := "fnExactSteps", unfollowed := true, recurses := true, named := ["loop.example/g00835/impl.mixFactors"], apart := false, laid := [("loop.example/g00835/impl.mixFactors", laid_loop_example_g00835_impl_mixFactors)] }
def FnExactStepsSaid : Prop := fnExactStepsRow.holds Tryd.pinned (OpenSpec.ofChange fnExactStepsSpec)

/-- ITS FALSE NEIGHBOUR: 'it returns false'. Refute it at one input. -/
def fnExactStepsWrong : ChangeSpec := { name := "fnExactSteps", vars := ["loop.example/g00835/impl.mixFactors"], fn := fun _ => fun
  | [d1, d2, g1] => { results := [.lit (.bool false)], args := [d1, d2], vars := [g1] }
  | _ => none }
def FnExactStepsWrongFalsely : Prop := fnExactStepsRow.holds Tryd.pinned (OpenSpec.ofChange fnExactStepsWrong)

/-- 'laws.FnExactLock': WHATEVER THE INPUT: true; the input reads as it did. -/
def fnExactLockSpec : ChangeSpec := { name := "fnExactLock", vars := ["loop.example/g00835/impl.mixFactors"], fn := fun _ => fun
  | [d1, d2, g1] => { results := [.lit (.bool true)], args := [d1, d2], vars := [g1] }
  | _ => none }
def fnExactLockRow : OpenClaim := { program := "ytipcgdhjlpjcaaadoor", sum := "ae9c5c00bcbf6d804c53a6a57394c0559db3f605a0b70572e7dfdd72c71f911b", func := "loop.example/g00835/laws.FnExactLock", spec := "fnExactLock", unfollowed := true, recurses := true, named := ["loop.example/g00835/impl.mixFactors"], apart := false, laid := [("loop.example/g00835/impl.mixFactors", laid_loop_example_g00835_impl_mixFactors)] }
def FnExactLockSaid : Prop := fnExactLockRow.holds Tryd.pinned (OpenSpec.ofChange fnExactLockSpec)

/-- ITS FALSE NEIGHBOUR: 'it returns false'. Refute it at one input. -/
def fnExactLockWrong : ChangeSpec := { name := "fnExactLock", vars := ["loop.example/g00835/impl.mixFactors"], fn := fun _ => fun
  | [d1, d2, g1] => { results := [.lit (.bool false)], args := [d1, d2], vars := [g1] }
  | _ => none }
def FnExactLockWrongFalsely : Prop := fnExactLockRow.holds Tryd.pinned (OpenSpec.ofChange fnExactLockWrong)

/-- 'laws.FnExactUnlock': WHATEVER THE INPUT: true; the input reads as it did. -/
def fnExactUnlockSpec : ChangeSpec := { name := "fnExactUnlock", vars := ["loop.example/g00835/impl.mixFactors"], fn := fun _ => fun
  | [d1, d2, g1] => { results := [.lit (.bool true)], args := [d1, d2], vars := [g1] }
  | _ => none }
def fnExactUnlockRow : OpenClaim := { program := "ytipcgdhjlpjcaaadoor", sum := "ae9c5c00bcbf6d804c53a6a57394c0559db3f605a0b70572e7dfdd72c71f911b", func := "loop.example/g00835/laws.FnExactUnlock", spec := "fnExactUnlock", unfollowed := true, recurses := true, named := ["loop.example/g00835/impl.mixFactors"], apart := false, laid := [("loop.example/g00835/impl.mixFactors", laid_loop_example_g00835_impl_mixFactors)] }
def FnExactUnlockSaid : Prop := fnExactUnlockRow.holds Tryd.pinned (OpenSpec.ofChange fnExactUnlockSpec)

/-- ITS FALSE NEIGHBOUR: 'it returns false'. Refute it at one input. -/
def fnExactUnlockWrong : ChangeSpec := { name := "fnExactUnlock", vars := ["loop.example/g00835/impl.mixFactors"], fn := fun _ => fun
  | [d1, d2, g1] => { results := [.lit (.bool false)], args := [d1, d2], vars := [g1] }
  | _ => none }
def FnExactUnlockWrongFalsely : Prop := fnExactUnlockRow.holds Tryd.pinned (OpenSpec.ofChange fnExactUnlockWrong)

/- THE SECOND FORM. 'bulk': how many values and letters a reading holds, each counted each time it is reached (what is shared counts as often as it is met; a slice's spare places count too). A statement '..UptoSaid' is the law's where the arguments, and the package variables that the reading takes, are together of bulk at most 1048576: NARROWER than '..Said'. Prove '..Said' where nothing that the law and all that it calls make is longer than what came in: it says more and counts as full. Else prove '..UptoSaid'. A law counts once. -/
mutual
def uptoBulk {H : Type} : DataW H → Nat
  | .lit (.string bytes) => bytes.length + 1
  | .lit _ => 1
  | .nil => 1
  | .ptr d => uptoBulk d + 1
  | .slice elems spare => uptoBulkAll elems + uptoBulkAll spare + 1
  | .agg parts => uptoBulkAll parts + 1
  | .iface _ d => uptoBulk d + 1
  | .map entries => uptoBulkEntries entries + 1
  | .held _ => 1
def uptoBulkAll {H : Type} : List (DataW H) → Nat
  | [] => 0
  | d :: r => uptoBulk d + uptoBulkAll r
def uptoBulkEntries {H : Type} : List (Lit × DataW H) → Nat
  | [] => 0
  | x :: r => uptoBulkEntry x + uptoBulkEntries r
def uptoBulkEntry {H : Type} : Lit × DataW H → Nat
  | (.string bytes, d) => bytes.length + uptoBulk d + 1
  | (_, d) => uptoBulk d + 1
 end
def uptoSmall : (H : Type) → List (DataW H) → Bool := fun _ ds => decide (uptoBulkAll ds ≤ 1048576)
def OpenSpec.upto (s : _root_.Go.ChangeSpec) : _root_.Go.OpenSpec := { _root_.Go.OpenSpec.ofChange s with cond := some uptoSmall }

/-- 'laws.FnOther', WHERE WHAT IT READS IS OF BULK AT MOST 1048576: true; the input reads as it did. -/
def fnOtherUptoRow : OpenClaim := { program := "ytipcgdhjlpjcaaadoor", sum := "ae9c5c00bcbf6d804c53a6a57394c0559db3f605a0b70572e7dfdd72c71f911b", func := "loop.example/g00835/laws.FnOther", spec := "fnOther", unfollowed := true, recurses := true, named := ["loop.example/g00835/impl.mixFactors"], apart := false, laid := [("loop.example/g00835/impl.mixFactors", laid_loop_example_g00835_impl_mixFactors)], narrowed := true }
def FnOtherUptoSaid : Prop := fnOtherUptoRow.holds Tryd.pinned (OpenSpec.upto fnOtherSpec)

/-- 'laws.FnKnown', WHERE WHAT IT READS IS OF BULK AT MOST 1048576: true; the input reads as it did. -/
def fnKnownUptoRow : OpenClaim := { program := "ytipcgdhjlpjcaaadoor", sum := "ae9c5c00bcbf6d804c53a6a57394c0559db3f605a0b70572e7dfdd72c71f911b", func := "loop.example/g00835/laws.FnKnown", spec := "fnKnown", unfollowed := true, recurses := true, named := ["loop.example/g00835/impl.mixFactors"], apart := false, laid := [("loop.example/g00835/impl.mixFactors", laid_loop_example_g00835_impl_mixFactors)], narrowed := true }
def FnKnownUptoSaid : Prop := fnKnownUptoRow.holds Tryd.pinned (OpenSpec.upto fnKnownSpec)

/-- 'laws.FnBack', WHERE WHAT IT READS IS OF BULK AT MOST 1048576: true; the input reads as it did. -/
def fnBackUptoRow : OpenClaim := { program := "ytipcgdhjlpjcaaadoor", sum := "ae9c5c00bcbf6d804c53a6a57394c0559db3f605a0b70572e7dfdd72c71f911b", func := "loop.example/g00835/laws.FnBack", spec := "fnBack", unfollowed := true, recurses := true, named := ["loop.example/g00835/impl.mixFactors"], apart := false, laid := [("loop.example/g00835/impl.mixFactors", laid_loop_example_g00835_impl_mixFactors)], narrowed := true }
def FnBackUptoSaid : Prop := fnBackUptoRow.holds Tryd.pinned (OpenSpec.upto fnBackSpec)

/-- 'laws.FnExactSteps', WHERE WHAT IT READS IS OF BULK AT MOST 1048576: true; the input reads as it did. -/
def fnExactStepsUptoRow : OpenClaim := { program := "ytipcgdhjlpjcaaadoor", sum := "ae9c5c00bcbf6d804c53a6a57394c0559db3f605a0b70572e7dfdd72c71f911b", func := "loop.example/g00835/laws.FnExactSteps", spec := "fnExactSteps", unfollowed := true, recurses := true, named := ["loop.example/g00835/impl.mixFactors"], apart := false, laid := [("loop.example/g00835/impl.mixFactors", laid_loop_example_g00835_impl_mixFactors)], narrowed := true }
def FnExactStepsUptoSaid : Prop := fnExactStepsUptoRow.holds Tryd.pinned (OpenSpec.upto fnExactStepsSpec)

/-- 'laws.FnExactLock', WHERE WHAT IT READS IS OF BULK AT MOST 1048576: true; the input reads as it did. -/
def fnExactLockUptoRow : OpenClaim := { program := "ytipcgdhjlpjcaaadoor", sum := "ae9c5c00bcbf6d804c53a6a57394c0559db3f605a0b70572e7dfdd72c71f911b", func := "loop.example/g00835/laws.FnExactLock", spec := "fnExactLock", unfollowed := true, recurses := true, named := ["loop.example/g00835/impl.mixFactors"], apart := false, laid := [("loop.example/g00835/impl.mixFactors", laid_loop_example_g00835_impl_mixFactors)], narrowed := true }
def FnExactLockUptoSaid : Prop := fnExactLockUptoRow.holds Tryd.pinned (OpenSpec.upto fnExactLockSpec)

/-- 'laws.FnExactUnlock', WHERE WHAT IT READS IS OF BULK AT MOST 1048576: true; the input reads as it did. -/
def fnExactUnlockUptoRow : OpenClaim := { program := "ytipcgdhjlpjcaaadoor", sum := "ae9c5c00bcbf6d804c53a6a57394c0559db3f605a0b70572e7dfdd72c71f911b", func := "loop.example/g00835/laws.FnExactUnlock", spec := "fnExactUnlock", unfollowed := true, recurses := true, named := ["loop.example/g00835/impl.mixFactors"], apart := false, laid := [("loop.example/g00835/impl.mixFactors", laid_loop_example_g00835_impl_mixFactors)], narrowed := true }
def FnExactUnlockUptoSaid : Prop := fnExactUnlockUptoRow.holds Tryd.pinned (OpenSpec.upto fnExactUnlockSpec)

end Rows
end Go.Proofs.YtipcgdhjlpjcaaaDoor
