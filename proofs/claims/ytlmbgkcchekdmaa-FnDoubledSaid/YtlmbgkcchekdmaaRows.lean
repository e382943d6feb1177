/-
  No cell of these rows narrows 'for every input' (looked for: loops, veiled, ifaces, maps, wideKeys, modest, calm, conditions, laid).
  DERIVED. THE GIVEN ROWS OF THIS SEAT. 8 by the template 'for every input the law returns true; each argument reads behind the call as it read before'; 0 by the template 'total and deterministic' (their statements: YtlmbgkcchekdmaaTotals.lean).
  GIVEN WITH THE SEED: the statements are not yours to turn. If you find one false, say at which input.
  Laid BY PROGRAM, IN A SANDBOX (cutbox-rows.mjs): the forced cells as the released guide's own fill.sh prints them over the translation 91df0ddfe912ad8f… (all of the seat's roots in one cut). By AI agents, Wed Nov 11 2026. No macro, syntax, notation, axiom, sorry.
-/
import Derived.Test.YtlmbgkcchekdmaaChecked
import GoSem.Claim
import GoSem.ClaimJoined
import GoSem.ClaimMapViews
import Derived.JoinedTies
import Derived.KernelRfl
namespace Go.Proofs.Ytlmbgkcchekdmaa
/- THE CELL 'sum', in the pinned program and in every row, IS THE sha256 OF THE DUMP (.gsa) THAT YtlmbgkcchekdmaaProg.lean LOADS. Nothing in Lean hashes anything: it is a label: what it is worth is what the hold of that sum in a sandbox is worth. -/
noncomputable def Try.pinned : Pinned := { name := "ytlmbgkcchekdmaa", sum := "91df0ddfe912ad8f2fef8b2fb0c7f70990ac9f183447f4f19c82d3ce1c5e0da5", checked := Try.checked }
namespace Rows
def none {H : Type} : Left H := { results := [], args := [] }

/-- 'laws.FnPad': WHATEVER THE INPUT: true; the input reads as it did. -/
def fnPadSpec : ChangeSpec := { name := "fnPad", fn := fun _ => fun
  | [d] => { results := [.lit (.bool true)], args := [d] }
  | _ => none }
def fnPadRow : OpenClaim := { program := "ytlmbgkcchekdmaa", sum := "91df0ddfe912ad8f2fef8b2fb0c7f70990ac9f183447f4f19c82d3ce1c5e0da5", func := "loop.example/g00835/laws.FnPad", spec := "fnPad", inPlace := ["internal/bytealg.MakeNoZero"], apart := false }
def FnPadSaid : Prop := fnPadRow.holds Try.pinned (OpenSpec.ofChange fnPadSpec)

/-- ITS FALSE NEIGHBOUR: 'it returns false'. Refute it at one input. -/
def fnPadWrong : ChangeSpec := { name := "fnPad", fn := fun _ => fun
  | [d] => { results := [.lit (.bool false)], args := [d] }
  | _ => none }
def FnPadWrongFalsely : Prop := fnPadRow.holds Try.pinned (OpenSpec.ofChange fnPadWrong)

/-- 'laws.FnCount': WHATEVER THE INPUT: true; the input reads as it did. -/
def fnCountSpec : ChangeSpec := { name := "fnCount", fn := fun _ => fun
  | [d] => { results := [.lit (.bool true)], args := [d] }
  | _ => none }
def fnCountRow : OpenClaim := { program := "ytlmbgkcchekdmaa", sum := "91df0ddfe912ad8f2fef8b2fb0c7f70990ac9f183447f4f19c82d3ce1c5e0da5", func := "loop.example/g00835/laws.FnCount", spec := "fnCount", inPlace := ["math/bits.Add64"], unfollowed := true, recurses := true, apart := false }
def FnCountSaid : Prop := fnCountRow.holds Try.pinned (OpenSpec.ofChange fnCountSpec)

/-- ITS FALSE NEIGHBOUR: 'it returns false'. Refute it at one input. -/
def fnCountWrong : ChangeSpec := { name := "fnCount", fn := fun _ => fun
  | [d] => { results := [.lit (.bool false)], args := [d] }
  | _ => none }
def FnCountWrongFalsely : Prop := fnCountRow.holds Try.pinned (OpenSpec.ofChange fnCountWrong)

/-- 'laws.FnDoubled': WHATEVER THE INPUT: true; the input reads as it did. -/
def fnDoubledSpec : ChangeSpec := { name := "fnDoubled", fn := fun _ => fun
  | [d] => { results := [.lit (.bool true)], args := [d] }
  | _ => none }
def fnDoubledRow : OpenClaim := { program := "ytlmbgkcchekdmaa", sum := "91df0ddfe912ad8f2fef8b2fb0c7f70990ac9f183447f4f19c82d3ce1c5e0da5", func := "loop.example/g00835/laws.FnDoubled", spec := "fnDoubled", unfollowed := true, recurses := true, apart := false }
def FnDoubledSaid : Prop := fnDoubledRow.holds Try.pinned (OpenSpec.ofChange fnDoubledSpec)

/-- ITS FALSE NEIGHBOUR: 'it returns false'. Refute it at one input. -/
def fnDoubledWrong : ChangeSpec := { name := "fnDoubled", fn := fun _ => fun
  | [d] => { results := [.lit (.bool false)], args := [d] }
  | _ => none }
def FnDoubledWrongFalsely : Prop := fnDoubledRow.holds Try.pinned (OpenSpec.ofChange fnDoubledWrong)

/-- 'laws.FnUnpad': WHATEVER THE INPUT: true; the input reads as it did. -/
def fnUnpadSpec : ChangeSpec := { name := "fnUnpad", fn := fun _ => fun
  | [d] => { results := [.lit (.bool true)], args := [d] }
  | _ => none }
def fnUnpadRow : OpenClaim := { program := "ytlmbgkcchekdmaa", sum := "91df0ddfe912ad8f2fef8b2fb0c7f70990ac9f183447f4f19c82d3ce1c5e0da5", func := "loop.example/g00835/laws.FnUnpad", spec := "fnUnpad", inPlace := ["internal/bytealg.MakeNoZero"], apart := false }
def FnUnpadSaid : Prop := fnUnpadRow.holds Try.pinned (OpenSpec.ofChange fnUnpadSpec)

/-- ITS FALSE NEIGHBOUR: 'it returns false'. Refute it at one input. -/
def fnUnpadWrong : ChangeSpec := { name := "fnUnpad", fn := fun _ => fun
  | [d] => { results := [.lit (.bool false)], args := [d] }
  | _ => none }
def FnUnpadWrongFalsely : Prop := fnUnpadRow.holds Try.pinned (OpenSpec.ofChange fnUnpadWrong)

/-- 'laws.FnExactPad': WHATEVER THE INPUT: true; the input reads as it did. -/
def fnExactPadSpec : ChangeSpec := { name := "fnExactPad", fn := fun _ => fun
  | [d] => { results := [.lit (.bool true)], args := [d] }
  | _ => none }
def fnExactPadRow : OpenClaim := { program := "ytlmbgkcchekdmaa", sum := "91df0ddfe912ad8f2fef8b2fb0c7f70990ac9f183447f4f19c82d3ce1c5e0da5", func := "loop.example/g00835/laws.FnExactPad", spec := "fnExactPad", inPlace := ["internal/bytealg.MakeNoZero"], apart := false }
def FnExactPadSaid : Prop := fnExactPadRow.holds Try.pinned (OpenSpec.ofChange fnExactPadSpec)

/-- ITS FALSE NEIGHBOUR: 'it returns false'. Refute it at one input. -/
def fnExactPadWrong : ChangeSpec := { name := "fnExactPad", fn := fun _ => fun
  | [d] => { results := [.lit (.bool false)], args := [d] }
  | _ => none }
def FnExactPadWrongFalsely : Prop := fnExactPadRow.holds Try.pinned (OpenSpec.ofChange fnExactPadWrong)

/-- 'laws.FnExactUnpad': WHATEVER THE INPUT: true; the input reads as it did. -/
def fnExactUnpadSpec : ChangeSpec := { name := "fnExactUnpad", fn := fun _ => fun
  | [d] => { results := [.lit (.bool true)], args := [d] }
  | _ => none }
def fnExactUnpadRow : OpenClaim := { program := "ytlmbgkcchekdmaa", sum := "91df0ddfe912ad8f2fef8b2fb0c7f70990ac9f183447f4f19c82d3ce1c5e0da5", func := "loop.example/g00835/laws.FnExactUnpad", spec := "fnExactUnpad", inPlace := ["internal/bytealg.MakeNoZero"], apart := false }
def FnExactUnpadSaid : Prop := fnExactUnpadRow.holds Try.pinned (OpenSpec.ofChange fnExactUnpadSpec)

/-- ITS FALSE NEIGHBOUR: 'it returns false'. Refute it at one input. -/
def fnExactUnpadWrong : ChangeSpec := { name := "fnExactUnpad", fn := fun _ => fun
  | [d] => { results := [.lit (.bool false)], args := [d] }
  | _ => none }
def FnExactUnpadWrongFalsely : Prop := fnExactUnpadRow.holds Try.pinned (OpenSpec.ofChange fnExactUnpadWrong)

/-- 'laws.FnExactCount': WHATEVER THE INPUT: true; the input reads as it did. -/
def fnExactCountSpec : ChangeSpec := { name := "fnExactCount", fn := fun _ => fun
  | [d1, d2] => { results := [.lit (.bool true)], args := [d1, d2] }
  | _ => none }
def fnExactCountRow : OpenClaim := { program := "ytlmbgkcchekdmaa", sum := "91df0ddfe912ad8f2fef8b2fb0c7f70990ac9f183447f4f19c82d3ce1c5e0da5", func := "loop.example/g00835/laws.FnExactCount", spec := "fnExactCount", inPlace := ["math/bits.Add64"], unfollowed := true, recurses := true, apart := false }
def FnExactCountSaid : Prop := fnExactCountRow.holds Try.pinned (OpenSpec.ofChange fnExactCountSpec)

/-- ITS FALSE NEIGHBOUR: 'it returns false'. Refute it at one input. -/
def fnExactCountWrong : ChangeSpec := { name := "fnExactCount", fn := fun _ => fun
  | [d1, d2] => { results := [.lit (.bool false)], args := [d1, d2] }
  | _ => none }
def FnExactCountWrongFalsely : Prop := fnExactCountRow.holds Try.pinned (OpenSpec.ofChange fnExactCountWrong)

/-- 'laws.FnExactDoubled': WHATEVER THE INPUT: true; the input reads as it did. -/
def fnExactDoubledSpec : ChangeSpec := { name := "fnExactDoubled", fn := fun _ => fun
  | [d] => { results := [.lit (.bool true)], args := [d] }
  | _ => none }
def fnExactDoubledRow : OpenClaim := { program := "ytlmbgkcchekdmaa", sum := "91df0ddfe912ad8f2fef8b2fb0c7f70990ac9f183447f4f19c82d3ce1c5e0da5", func := "loop.example/g00835/laws.FnExactDoubled", spec := "fnExactDoubled", unfollowed := true, recurses := true, apart := false }
def FnExactDoubledSaid : Prop := fnExactDoubledRow.holds Try.pinned (OpenSpec.ofChange fnExactDoubledSpec)

/-- ITS FALSE NEIGHBOUR: 'it returns false'. Refute it at one input. -/
def fnExactDoubledWrong : ChangeSpec := { name := "fnExactDoubled", fn := fun _ => fun
  | [d] => { results := [.lit (.bool false)], args := [d] }
  | _ => none }
def FnExactDoubledWrongFalsely : Prop := fnExactDoubledRow.holds Try.pinned (OpenSpec.ofChange fnExactDoubledWrong)

/- THE SECOND FORM. 'bulk': how many values and letters a reading holds, each counted each time it is reached (what is shared counts as often as it is met; a slice's spare places count too). A statement '..UptoSaid' is the law's where the arguments, and the package variables that the reading takes, are together of bulk at most 1048576: NARROWER than '..Said'. Prove '..Said' where nothing that the law and all that it calls make is longer than what came in: it says more and counts as full. Else prove '..UptoSaid'. A law counts once. -/
mutual
def uptoBulk {H : Type} : DataW H → Nat
  | .lit (.string bytes) => bytes.length + 1
  | .lit _ => 1
  | .nil => 1
  | .ptr d => uptoBulk d + 1
  | .slice elems spare => uptoBulkAll elems + uptoBulkAll spare + 1
  | .agg parts => uptoBulkAll parts + 1
  | .iface _ d => uptoBulk d + 1
  | .map entries => uptoBulkEntries entries + 1
  | .held _ => 1
def uptoBulkAll {H : Type} : List (DataW H) → Nat
  | [] => 0
  | d :: r => uptoBulk d + uptoBulkAll r
def uptoBulkEntries {H : Type} : List (Lit × DataW H) → Nat
  | [] => 0
  | x :: r => uptoBulkEntry x + uptoBulkEntries r
def uptoBulkEntry {H : Type} : Lit × DataW H → Nat
  | (.string bytes, d) => bytes.length + uptoBulk d + 1
  | (_, d) => uptoBulk d + 1
 end
def uptoSmall : (H : Type) → List (DataW H) → Bool := fun _ ds => decide (uptoBulkAll ds ≤ 1048576)
def OpenSpec.upto (s : _root_.Go.ChangeSpec) : _root_.Go.OpenSpec := { _root_.Go.OpenSpec.ofChange s with cond := some uptoSmall }

/-- 'laws.FnPad', WHERE WHAT IT READS IS OF BULK AT MOST 1048576: true; the input reads as it did. -/
def fnPadUptoRow : OpenClaim := { program := "ytlmbgkcchekdmaa", sum := "91df0ddfe912ad8f2fef8b2fb0c7f70990ac9f183447f4f19c82d3ce1c5e0da5", func := "loop.example/g00835/laws.FnPad", spec := "fnPad", inPlace := ["internal/bytealg.MakeNoZero"], apart := false, narrowed := true }
def FnPadUptoSaid : Prop := fnPadUptoRow.holds Try.pinned (OpenSpec.upto fnPadSpec)

/-- 'laws.FnCount', WHERE WHAT IT READS IS OF BULK AT MOST 1048576: true; the input reads as it did. -/
def fnCountUptoRow : OpenClaim := { program := "ytlmbgkcchekdmaa", sum := "91df0ddfe912ad8f2fef8b2fb0c7f70990ac9f183447f4f19c82d3ce1c5e0da5", func := "loop.example/g00835/laws.FnCount", spec := "fnCount", inPlace := ["math/bits.Add64"], unfollowed := true, recurses := true, apart := false, narrowed := true }
def FnCountUptoSaid : Prop := fnCountUptoRow.holds Try.pinned (OpenSpec.upto fnCountSpec)

/-- 'laws.FnDoubled', WHERE WHAT IT READS IS OF BULK AT MOST 1048576: true; the input reads as it did. -/
def fnDoubledUptoRow : OpenClaim := { program := "ytlmbgkcchekdmaa", sum := "91df0ddfe912ad8f2fef8b2fb0c7f70990ac9f183447f4f19c82d3ce1c5e0da5", func := "loop.example/g00835/laws.FnDoubled", spec := "fnDoubled", unfollowed := true, recurses := true, apart := false, narrowed := true }
def FnDoubledUptoSaid : Prop := fnDoubledUptoRow.holds Try.pinned (OpenSpec.upto fnDoubledSpec)

/-- 'laws.FnUnpad', WHERE WHAT IT READS IS OF BULK AT MOST 1048576: true; the input reads as it did. -/
def fnUnpadUptoRow : OpenClaim := { program := "ytlmbgkcchekdmaa", sum := "91df0ddfe912ad8f2fef8b2fb0c7f70990ac9f183447f4f19c82d3ce1c5e0da5", func := "loop.example/g00835/laws.FnUnpad", spec := "fnUnpad", inPlace := ["internal/bytealg.MakeNoZero"], apart := false, narrowed := true }
def FnUnpadUptoSaid : Prop := fnUnpadUptoRow.holds Try.pinned (OpenSpec.upto fnUnpadSpec)

/-- 'laws.FnExactPad', WHERE WHAT IT READS IS OF BULK AT MOST 1048576: true; the input reads as it did. -/
def fnExactPadUptoRow : OpenClaim := { program := "ytlmbgkcchekdmaa", sum := "91df0ddfe912ad8f2fef8b2fb0c7f70990ac9f183447f4f19c82d3ce1c5e0da5", func := "loop.example/g00835/laws.FnExactPad", spec := "fnExactPad", inPlace := ["internal/bytealg.MakeNoZero"], apart := false, narrowed := true }
def FnExactPadUptoSaid : Prop := fnExactPadUptoRow.holds Try.pinned (OpenSpec.upto fnExactPadSpec)

/-- 'laws.FnExactUnpad', WHERE WHAT IT READS IS OF BULK AT MOST 1048576: true; the input reads as it did. -/
def fnExactUnpadUptoRow : OpenClaim := { program := "ytlmbgkcchekdmaa", sum := "91df0ddfe912ad8f2fef8b2fb0c7f70990ac9f183447f4f19c82d3ce1c5e0da5", func := "loop.example/g00835/laws.FnExactUnpad", spec := "fnExactUnpad", inPlace := ["internal/bytealg.MakeNoZero"], apart := false, narrowed := true }
def FnExactUnpadUptoSaid : Prop := fnExactUnpadUptoRow.holds Try.pinned (OpenSpec.upto fnExactUnpadSpec)

/-- 'laws.FnExactCount', WHERE WHAT IT READS IS OF BULK AT MOST 1048576: true; the input reads as it did. -/
def fnExactCountUptoRow : OpenClaim := { program := "ytlmbgkcchekdmaa", sum := "91df0ddfe912ad8f2fef8b2fb0c7f70990ac9f183447f4f19c82d3ce1c5e0da5", func := "loop.example/g00835/laws.FnExactCount", spec := "fnExactCount", inPlace := ["math/bits.Add64"], unfollowed := true, recurses := true, apart := false, narrowed := true }
def FnExactCountUptoSaid : Prop := fnExactCountUptoRow.holds Try.pinned (OpenSpec.upto fnExactCountSpec)

/-- 'laws.FnExactDoubled', WHERE WHAT IT READS IS OF BULK AT MOST 1048576: true; the input reads as it did. -/
def fnExactDoubledUptoRow : OpenClaim := { program := "ytlmbgkcchekdmaa", sum := "91df0ddfe912ad8f2fef8b2fb0c7f70990ac9f183447f4f19c82d3ce1c5e0da5", func := "loop.example/g00835/laws.FnExactDoubled", spec := "fnExactDoubled", unfollowed := true, recurses := true, apart := false, narrowed := true }
def FnExactDoubledUptoSaid : Prop := fnExactDoubledUptoRow.holds Try.pinned (OpenSpec.upto fnExactDoubledSpec)

end Rows
end Go.Proofs.Ytlmbgkcchekdmaa
