/-
  No cell of these rows narrows 'for every input' (looked for: loops, veiled, ifaces, maps, wideKeys, modest, calm, conditions, laid).
  DERIVED. THE GIVEN ROWS OF THIS SEAT. 4 by the template 'for every input the law returns true; each argument reads behind the call as it read before'; 0 by the template 'total and deterministic' (their statements: YtbcaldhcgoclgaaTotals.lean).
  GIVEN WITH THE SEED: the statements are not yours to turn. If you find one false, say at which input.
  Laid BY PROGRAM, IN A SANDBOX (cutbox-rows.mjs): the forced cells as the released guide's own fill.sh prints them over the translation f3d7b3b6ee5f6349… (all of the seat's roots in one cut). By AI agents, Wed Nov 11 2026. No macro, syntax, notation, axiom, sorry.
-/
import Derived.Test.YtbcaldhcgoclgaaChecked
import GoSem.Claim
import GoSem.ClaimJoined
import GoSem.ClaimMapViews
import Derived.JoinedTies
import Derived.KernelRfl
namespace Go.Proofs.Ytbcaldhcgoclgaa
/- THE CELL 'sum', in the pinned program and in every row, IS THE sha256 OF THE DUMP (.gsa) THAT YtbcaldhcgoclgaaProg.lean LOADS. Nothing in Lean hashes anything: it is a label: what it is worth is what the hold of that sum in a sandbox is worth. -/
noncomputable def Try.pinned : Pinned := { name := "ytbcaldhcgoclgaa", sum := "f3d7b3b6ee5f63494e6114e3d493741c93f9bfda370c1c7216b9a9f2ca225111", checked := Try.checked }
namespace Rows
def none {H : Type} : Left H := { results := [], args := [] }

/-- 'laws.FnBlockTimes': WHATEVER THE INPUT: true; the input reads as it did. -/
def fnBlockTimesSpec : ChangeSpec := { name := "fnBlockTimes", fn := fun _ => fun
  | [d] => { results := [.lit (.bool true)], args := [d] }
  | _ => none }
def fnBlockTimesRow : OpenClaim := { program := "ytbcaldhcgoclgaa", sum := "f3d7b3b6ee5f63494e6114e3d493741c93f9bfda370c1c7216b9a9f2ca225111", func := "loop.example/g00835/laws.FnBlockTimes", spec := "fnBlockTimes", unfollowed := true, recurses := true, apart := false }
def FnBlockTimesSaid : Prop := fnBlockTimesRow.holds Try.pinned (OpenSpec.ofChange fnBlockTimesSpec)

/-- ITS FALSE NEIGHBOUR: 'it returns false'. Refute it at one input. -/
def fnBlockTimesWrong : ChangeSpec := { name := "fnBlockTimes", fn := fun _ => fun
  | [d] => { results := [.lit (.bool false)], args := [d] }
  | _ => none }
def FnBlockTimesWrongFalsely : Prop := fnBlockTimesRow.holds Try.pinned (OpenSpec.ofChange fnBlockTimesWrong)

/-- 'laws.FnBlockHash': WHATEVER THE INPUT: true; the input reads as it did. -/
def fnBlockHashSpec : ChangeSpec := { name := "fnBlockHash", fn := fun _ => fun
  | [d] => { results := [.lit (.bool true)], args := [d] }
  | _ => none }
def fnBlockHashRow : OpenClaim := { program := "ytbcaldhcgoclgaa", sum := "f3d7b3b6ee5f63494e6114e3d493741c93f9bfda370c1c7216b9a9f2ca225111", func := "loop.example/g00835/laws.FnBlockHash", spec := "fnBlockHash", unfollowed := true, recurses := true, apart := false }
def FnBlockHashSaid : Prop := fnBlockHashRow.holds Try.pinned (OpenSpec.ofChange fnBlockHashSpec)

/-- ITS FALSE NEIGHBOUR: 'it returns false'. Refute it at one input. -/
def fnBlockHashWrong : ChangeSpec := { name := "fnBlockHash", fn := fun _ => fun
  | [d] => { results := [.lit (.bool false)], args := [d] }
  | _ => none }
def FnBlockHashWrongFalsely : Prop := fnBlockHashRow.holds Try.pinned (OpenSpec.ofChange fnBlockHashWrong)

/-- 'laws.FnExactBlockTimes': WHATEVER THE INPUT: true; the input reads as it did. -/
def fnExactBlockTimesSpec : ChangeSpec := { name := "fnExactBlockTimes", fn := fun _ => fun
  | [d1, d2] => { results := [.lit (.bool true)], args := [d1, d2] }
  | _ => none }
def fnExactBlockTimesRow : OpenClaim := { program := "ytbcaldhcgoclgaa", sum := "f3d7b3b6ee5f63494e6114e3d493741c93f9bfda370c1c7216b9a9f2ca225111", func := "loop.example/g00835/laws.FnExactBlockTimes", spec := "fnExactBlockTimes", unfollowed := true, recurses := true, apart := false }
def FnExactBlockTimesSaid : Prop := fnExactBlockTimesRow.holds Try.pinned (OpenSpec.ofChange fnExactBlockTimesSpec)

/-- ITS FALSE NEIGHBOUR: 'it returns false'. Refute it at one input. -/
def fnExactBlockTimesWrong : ChangeSpec := { name := "fnExactBlockTimes", fn := fun _ => fun
  | [d1, d2] => { results := [.lit (.bool false)], args := [d1, d2] }
  | _ => none }
def FnExactBlockTimesWrongFalsely : Prop := fnExactBlockTimesRow.holds Try.pinned (OpenSpec.ofChange fnExactBlockTimesWrong)

/-- 'laws.FnExactBlockHash': WHATEVER THE INPUT: true; the input reads as it did. -/
def fnExactBlockHashSpec : ChangeSpec := { name := "fnExactBlockHash", fn := fun _ => fun
  | [d1, d2] => { results := [.lit (.bool true)], args := [d1, d2] }
  | _ => none }
def fnExactBlockHashRow : OpenClaim := { program := "ytbcaldhcgoclgaa", sum := "f3d7b3b6ee5f63494e6114e3d493741c93f9bfda370c1c7216b9a9f2ca225111", func := "loop.example/g00835/laws.FnExactBlockHash", spec := "fnExactBlockHash", unfollowed := true, recurses := true, apart := false }
def FnExactBlockHashSaid : Prop := fnExactBlockHashRow.holds Try.pinned (OpenSpec.ofChange fnExactBlockHashSpec)

/-- ITS FALSE NEIGHBOUR: 'it returns false'. Refute it at one input. -/
def fnExactBlockHashWrong : ChangeSpec := { name := "fnExactBlockHash", fn := fun _ => fun
  | [d1, d2] => { results := [.lit (.bool false)], args := [d1, d2] }
  | _ => none }
def FnExactBlockHashWrongFalsely : Prop := fnExactBlockHashRow.holds Try.pinned (OpenSpec.ofChange fnExactBlockHashWrong)

/- THE SECOND FORM. 'bulk': how many values and letters a reading holds, each counted each time it is reached (what is shared counts as often as it is met; a slice's spare places count too). A statement '..UptoSaid' is the law's where the arguments, and the package variables that the reading takes, are together of bulk at most 1048576: NARROWER than '..Said'. Prove '..Said' where nothing that the law and all that it calls make is longer than what came in: it says more and counts as full. Else prove '..UptoSaid'. A law counts once. -/
mutual
def uptoBulk {H : Type} : DataW H → Nat
  | .lit (.string bytes) => bytes.length + 1
  | .lit _ => 1
  | .nil => 1
  | .ptr d => uptoBulk d + 1
  | .slice elems spare => uptoBulkAll elems + uptoBulkAll spare + 1
  | .agg parts => uptoBulkAll parts + 1
  | .iface _ d => uptoBulk d + 1
  | .map entries => uptoBulkEntries entries + 1
  | .held _ => 1
def uptoBulkAll {H : Type} : List (DataW H) → Nat
  | [] => 0
  | d :: r => uptoBulk d + uptoBulkAll r
def uptoBulkEntries {H : Type} : List (Lit × DataW H) → Nat
  | [] => 0
  | x :: r => uptoBulkEntry x + uptoBulkEntries r
def uptoBulkEntry {H : Type} : Lit × DataW H → Nat
  | (.string bytes, d) => bytes.length + uptoBulk d + 1
  | (_, d) => uptoBulk d + 1
 end
def uptoSmall : (H : Type) → List (DataW H) → Bool := fun _ ds => decide (uptoBulkAll ds ≤ 1048576)
def OpenSpec.upto (s : _root_.Go.ChangeSpec) : _root_.Go.OpenSpec := { _root_.Go.OpenSpec.ofChange s with cond := some uptoSmall }

/-- 'laws.FnBlockTimes', WHERE WHAT IT READS IS OF BULK AT MOST 1048576: true; the input reads as it did. -/
def fnBlockTimesUptoRow : OpenClaim := { program := "ytbcaldhcgoclgaa", sum := "f3d7b3b6ee5f63494e6114e3d493741c93f9bfda370c1c7216b9a9f2ca225111", func := "loop.example/g00835/laws.FnBlockTimes", spec := "fnBlockTimes", unfollowed := true, recurses := true, apart := false, narrowed := true }
def FnBlockTimesUptoSaid : Prop := fnBlockTimesUptoRow.holds Try.pinned (OpenSpec.upto fnBlockTimesSpec)

/-- 'laws.FnBlockHash', WHERE WHAT IT READS IS OF BULK AT MOST 1048576: true; the input reads as it did. -/
def fnBlockHashUptoRow : OpenClaim := { program := "ytbcaldhcgoclgaa", sum := "f3d7b3b6ee5f63494e6114e3d493741c93f9bfda370c1c7216b9a9f2ca225111", func := "loop.example/g00835/laws.FnBlockHash", spec := "fnBlockHash", unfollowed := true, recurses := true, apart := false, narrowed := true }
def FnBlockHashUptoSaid : Prop := fnBlockHashUptoRow.holds Try.pinned (OpenSpec.upto fnBlockHashSpec)

/-- 'laws.FnExactBlockTimes', WHERE WHAT IT READS IS OF BULK AT MOST 1048576: true; the input reads as it did. -/
def fnExactBlockTimesUptoRow : OpenClaim := { program := "ytbcaldhcgoclgaa", sum := "f3d7b3b6ee5f63494e6114e3d493741c93f9bfda370c1c7216b9a9f2ca225111", func := "loop.example/g00835/laws.FnExactBlockTimes", spec := "fnExactBlockTimes", unfollowed := true, recurses := true, apart := false, narrowed := true }
def FnExactBlockTimesUptoSaid : Prop := fnExactBlockTimesUptoRow.holds Try.pinned (OpenSpec.upto fnExactBlockTimesSpec)

/-- 'laws.FnExactBlockHash', WHERE WHAT IT READS IS OF BULK AT MOST 1048576: true; the input reads as it did. -/
def fnExactBlockHashUptoRow : OpenClaim := { program := "ytbcaldhcgoclgaa", sum := "f3d7b3b6ee5f63494e6114e3d493741c93f9bfda370c1c7216b9a9f2ca225111", func := "loop.example/g00835/laws.FnExactBlockHash", spec := "fnExactBlockHash", unfollowed := true, recurses := true, apart := false, narrowed := true }
def FnExactBlockHashUptoSaid : Prop := fnExactBlockHashUptoRow.holds Try.pinned (OpenSpec.upto fnExactBlockHashSpec)

end Rows
end Go.Proofs.Ytbcaldhcgoclgaa
