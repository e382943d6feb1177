/-
  No cell of these rows narrows 'for every input' (looked for: loops, veiled, ifaces, maps, wideKeys, modest, calm, conditions, laid).
  DERIVED. THE GIVEN ROWS OF THIS SEAT. 12 by the template 'for every input the law returns true; each argument reads behind the call as it read before'; 0 by the template 'total and deterministic' (their statements: YtbbjcgnoialidaaTotals.lean).
  GIVEN WITH THE SEED: the statements are not yours to turn. If you find one false, say at which input.
  Laid BY PROGRAM, IN A SANDBOX (cutbox-rows.mjs): the forced cells as the released guide's own fill.sh prints them over the translation e01b854cd667fe83… (all of the seat's roots in one cut). By AI agents, Wed Nov 11 2026. No macro, syntax, notation, axiom, sorry.
-/
import Derived.Test.YtbbjcgnoialidaaChecked
import GoSem.Claim
import GoSem.ClaimJoined
import GoSem.ClaimMapViews
import Derived.JoinedTies
import Derived.KernelRfl
namespace Go.Proofs.Ytbbjcgnoialidaa
/- THE CELL 'sum', in the pinned program and in every row, IS THE sha256 OF THE DUMP (.gsa) THAT YtbbjcgnoialidaaProg.lean LOADS. Nothing in Lean hashes anything: it is a label: what it is worth is what the hold of that sum in a sandbox is worth. -/
noncomputable def Try.pinned : Pinned := { name := "ytbbjcgnoialidaa", sum := "e01b854cd667fe838a3290e4aec3a31f74bcd115468e7bb2a2405f0316cf0829", checked := Try.checked }
namespace Rows
def none {H : Type} : Left H := { results := [], args := [] }

/-- 'laws.FnPlanes': WHATEVER THE INPUT: true; the input reads as it did. -/
def fnPlanesSpec : ChangeSpec := { name := "fnPlanes", fn := fun _ => fun
  | [d] => { results := [.lit (.bool true)], args := [d] }
  | _ => none }
def fnPlanesRow : OpenClaim := { program := "ytbbjcgnoialidaa", sum := "e01b854cd667fe838a3290e4aec3a31f74bcd115468e7bb2a2405f0316cf0829", func := "loop.example/g00835/laws.FnPlanes", spec := "fnPlanes", apart := false }
def FnPlanesSaid : Prop := fnPlanesRow.holds Try.pinned (OpenSpec.ofChange fnPlanesSpec)

/-- ITS FALSE NEIGHBOUR: 'it returns false'. Refute it at one input. -/
def fnPlanesWrong : ChangeSpec := { name := "fnPlanes", fn := fun _ => fun
  | [d] => { results := [.lit (.bool false)], args := [d] }
  | _ => none }
def FnPlanesWrongFalsely : Prop := fnPlanesRow.holds Try.pinned (OpenSpec.ofChange fnPlanesWrong)

/-- 'laws.FnPlaneSum': WHATEVER THE INPUT: true; the input reads as it did. -/
def fnPlaneSumSpec : ChangeSpec := { name := "fnPlaneSum", fn := fun _ => fun
  | [d] => { results := [.lit (.bool true)], args := [d] }
  | _ => none }
def fnPlaneSumRow : OpenClaim := { program := "ytbbjcgnoialidaa", sum := "e01b854cd667fe838a3290e4aec3a31f74bcd115468e7bb2a2405f0316cf0829", func := "loop.example/g00835/laws.FnPlaneSum", spec := "fnPlaneSum", apart := false }
def FnPlaneSumSaid : Prop := fnPlaneSumRow.holds Try.pinned (OpenSpec.ofChange fnPlaneSumSpec)

/-- ITS FALSE NEIGHBOUR: 'it returns false'. Refute it at one input. -/
def fnPlaneSumWrong : ChangeSpec := { name := "fnPlaneSum", fn := fun _ => fun
  | [d] => { results := [.lit (.bool false)], args := [d] }
  | _ => none }
def FnPlaneSumWrongFalsely : Prop := fnPlaneSumRow.holds Try.pinned (OpenSpec.ofChange fnPlaneSumWrong)

/-- 'laws.FnPlaneSub': WHATEVER THE INPUT: true; the input reads as it did. -/
def fnPlaneSubSpec : ChangeSpec := { name := "fnPlaneSub", fn := fun _ => fun
  | [d] => { results := [.lit (.bool true)], args := [d] }
  | _ => none }
def fnPlaneSubRow : OpenClaim := { program := "ytbbjcgnoialidaa", sum := "e01b854cd667fe838a3290e4aec3a31f74bcd115468e7bb2a2405f0316cf0829", func := "loop.example/g00835/laws.FnPlaneSub", spec := "fnPlaneSub", unfollowed := true, recurses := true, apart := false }
def FnPlaneSubSaid : Prop := fnPlaneSubRow.holds Try.pinned (OpenSpec.ofChange fnPlaneSubSpec)

/-- ITS FALSE NEIGHBOUR: 'it returns false'. Refute it at one input. -/
def fnPlaneSubWrong : ChangeSpec := { name := "fnPlaneSub", fn := fun _ => fun
  | [d] => { results := [.lit (.bool false)], args := [d] }
  | _ => none }
def FnPlaneSubWrongFalsely : Prop := fnPlaneSubRow.holds Try.pinned (OpenSpec.ofChange fnPlaneSubWrong)

/-- 'laws.FnPlanePower': WHATEVER THE INPUT: true; the input reads as it did. -/
def fnPlanePowerSpec : ChangeSpec := { name := "fnPlanePower", fn := fun _ => fun
  | [d] => { results := [.lit (.bool true)], args := [d] }
  | _ => none }
def fnPlanePowerRow : OpenClaim := { program := "ytbbjcgnoialidaa", sum := "e01b854cd667fe838a3290e4aec3a31f74bcd115468e7bb2a2405f0316cf0829", func := "loop.example/g00835/laws.FnPlanePower", spec := "fnPlanePower", apart := false }
def FnPlanePowerSaid : Prop := fnPlanePowerRow.holds Try.pinned (OpenSpec.ofChange fnPlanePowerSpec)

/-- ITS FALSE NEIGHBOUR: 'it returns false'. Refute it at one input. -/
def fnPlanePowerWrong : ChangeSpec := { name := "fnPlanePower", fn := fun _ => fun
  | [d] => { results := [.lit (.bool false)], args := [d] }
  | _ => none }
def FnPlanePowerWrongFalsely : Prop := fnPlanePowerRow.holds Try.pinned (OpenSpec.ofChange fnPlanePowerWrong)

/-- 'laws.FnExactToPlanes': WHATEVER THE INPUT: true; the input reads as it did. -/
def fnExactToPlanesSpec : ChangeSpec := { name := "fnExactToPlanes", fn := fun _ => fun
  | [d] => { results := [.lit (.bool true)], args := [d] }
  | _ => none }
def fnExactToPlanesRow : OpenClaim := { program := "ytbbjcgnoialidaa", sum := "e01b854cd667fe838a3290e4aec3a31f74bcd115468e7bb2a2405f0316cf0829", func := "loop.example/g00835/laws.FnExactToPlanes", spec := "fnExactToPlanes", apart := false }
def FnExactToPlanesSaid : Prop := fnExactToPlanesRow.holds Try.pinned (OpenSpec.ofChange fnExactToPlanesSpec)

/-- ITS FALSE NEIGHBOUR: 'it returns false'. Refute it at one input. -/
def fnExactToPlanesWrong : ChangeSpec := { name := "fnExactToPlanes", fn := fun _ => fun
  | [d] => { results := [.lit (.bool false)], args := [d] }
  | _ => none }
def FnExactToPlanesWrongFalsely : Prop := fnExactToPlanesRow.holds Try.pinned (OpenSpec.ofChange fnExactToPlanesWrong)

/-- 'laws.FnExactFromPlanes': WHATEVER THE INPUT: true; the input reads as it did. -/
def fnExactFromPlanesSpec : ChangeSpec := { name := "fnExactFromPlanes", fn := fun _ => fun
  | [d] => { results := [.lit (.bool true)], args := [d] }
  | _ => none }
def fnExactFromPlanesRow : OpenClaim := { program := "ytbbjcgnoialidaa", sum := "e01b854cd667fe838a3290e4aec3a31f74bcd115468e7bb2a2405f0316cf0829", func := "loop.example/g00835/laws.FnExactFromPlanes", spec := "fnExactFromPlanes", apart := false }
def FnExactFromPlanesSaid : Prop := fnExactFromPlanesRow.holds Try.pinned (OpenSpec.ofChange fnExactFromPlanesSpec)

/-- ITS FALSE NEIGHBOUR: 'it returns false'. Refute it at one input. -/
def fnExactFromPlanesWrong : ChangeSpec := { name := "fnExactFromPlanes", fn := fun _ => fun
  | [d] => { results := [.lit (.bool false)], args := [d] }
  | _ => none }
def FnExactFromPlanesWrongFalsely : Prop := fnExactFromPlanesRow.holds Try.pinned (OpenSpec.ofChange fnExactFromPlanesWrong)

/-- 'laws.FnExactPlaneXor': WHATEVER THE INPUT: true; the input reads as it did. -/
def fnExactPlaneXorSpec : ChangeSpec := { name := "fnExactPlaneXor", fn := fun _ => fun
  | [d1, d2] => { results := [.lit (.bool true)], args := [d1, d2] }
  | _ => none }
def fnExactPlaneXorRow : OpenClaim := { program := "ytbbjcgnoialidaa", sum := "e01b854cd667fe838a3290e4aec3a31f74bcd115468e7bb2a2405f0316cf0829", func := "loop.example/g00835/laws.FnExactPlaneXor", spec := "fnExactPlaneXor", apart := false }
def FnExactPlaneXorSaid : Prop := fnExactPlaneXorRow.holds Try.pinned (OpenSpec.ofChange fnExactPlaneXorSpec)

/-- ITS FALSE NEIGHBOUR: 'it returns false'. Refute it at one input. -/
def fnExactPlaneXorWrong : ChangeSpec := { name := "fnExactPlaneXor", fn := fun _ => fun
  | [d1, d2] => { results := [.lit (.bool false)], args := [d1, d2] }
  | _ => none }
def FnExactPlaneXorWrongFalsely : Prop := fnExactPlaneXorRow.holds Try.pinned (OpenSpec.ofChange fnExactPlaneXorWrong)

/-- 'laws.FnExactPlaneTimes': WHATEVER THE INPUT: true; the input reads as it did. -/
def fnExactPlaneTimesSpec : ChangeSpec := { name := "fnExactPlaneTimes", fn := fun _ => fun
  | [d1, d2] => { results := [.lit (.bool true)], args := [d1, d2] }
  | _ => none }
def fnExactPlaneTimesRow : OpenClaim := { program := "ytbbjcgnoialidaa", sum := "e01b854cd667fe838a3290e4aec3a31f74bcd115468e7bb2a2405f0316cf0829", func := "loop.example/g00835/laws.FnExactPlaneTimes", spec := "fnExactPlaneTimes", apart := false }
def FnExactPlaneTimesSaid : Prop := fnExactPlaneTimesRow.holds Try.pinned (OpenSpec.ofChange fnExactPlaneTimesSpec)

/-- ITS FALSE NEIGHBOUR: 'it returns false'. Refute it at one input. -/
def fnExactPlaneTimesWrong : ChangeSpec := { name := "fnExactPlaneTimes", fn := fun _ => fun
  | [d1, d2] => { results := [.lit (.bool false)], args := [d1, d2] }
  | _ => none }
def FnExactPlaneTimesWrongFalsely : Prop := fnExactPlaneTimesRow.holds Try.pinned (OpenSpec.ofChange fnExactPlaneTimesWrong)

/-- 'laws.FnExactPlaneSub': WHATEVER THE INPUT: true; the input reads as it did. -/
def fnExactPlaneSubSpec : ChangeSpec := { name := "fnExactPlaneSub", fn := fun _ => fun
  | [d] => { results := [.lit (.bool true)], args := [d] }
  | _ => none }
def fnExactPlaneSubRow : OpenClaim := { program := "ytbbjcgnoialidaa", sum := "e01b854cd667fe838a3290e4aec3a31f74bcd115468e7bb2a2405f0316cf0829", func := "loop.example/g00835/laws.FnExactPlaneSub", spec := "fnExactPlaneSub", apart := false }
def FnExactPlaneSubSaid : Prop := fnExactPlaneSubRow.holds Try.pinned (OpenSpec.ofChange fnExactPlaneSubSpec)

/-- ITS FALSE NEIGHBOUR: 'it returns false'. Refute it at one input. -/
def fnExactPlaneSubWrong : ChangeSpec := { name := "fnExactPlaneSub", fn := fun _ => fun
  | [d] => { results := [.lit (.bool false)], args := [d] }
  | _ => none }
def FnExactPlaneSubWrongFalsely : Prop := fnExactPlaneSubRow.holds Try.pinned (OpenSpec.ofChange fnExactPlaneSubWrong)

/-- 'laws.FnExactPlaneUnsub': WHATEVER THE INPUT: true; the input reads as it did. -/
def fnExactPlaneUnsubSpec : ChangeSpec := { name := "fnExactPlaneUnsub", fn := fun _ => fun
  | [d] => { results := [.lit (.bool true)], args := [d] }
  | _ => none }
def fnExactPlaneUnsubRow : OpenClaim := { program := "ytbbjcgnoialidaa", sum := "e01b854cd667fe838a3290e4aec3a31f74bcd115468e7bb2a2405f0316cf0829", func := "loop.example/g00835/laws.FnExactPlaneUnsub", spec := "fnExactPlaneUnsub", apart := false }
def FnExactPlaneUnsubSaid : Prop := fnExactPlaneUnsubRow.holds Try.pinned (OpenSpec.ofChange fnExactPlaneUnsubSpec)

/-- ITS FALSE NEIGHBOUR: 'it returns false'. Refute it at one input. -/
def fnExactPlaneUnsubWrong : ChangeSpec := { name := "fnExactPlaneUnsub", fn := fun _ => fun
  | [d] => { results := [.lit (.bool false)], args := [d] }
  | _ => none }
def FnExactPlaneUnsubWrongFalsely : Prop := fnExactPlaneUnsubRow.holds Try.pinned (OpenSpec.ofChange fnExactPlaneUnsubWrong)

/-- 'laws.FnExactPlaneRows': WHATEVER THE INPUT: true; the input reads as it did. -/
def fnExactPlaneRowsSpec : ChangeSpec := { name := "fnExactPlaneRows", fn := fun _ => fun
  | [d1, d2] => { results := [.lit (.bool true)], args := [d1, d2] }
  | _ => none }
def fnExactPlaneRowsRow : OpenClaim := { program := "ytbbjcgnoialidaa", sum := "e01b854cd667fe838a3290e4aec3a31f74bcd115468e7bb2a2405f0316cf0829", func := "loop.example/g00835/laws.FnExactPlaneRows", spec := "fnExactPlaneRows", apart := false }
def FnExactPlaneRowsSaid : Prop := fnExactPlaneRowsRow.holds Try.pinned (OpenSpec.ofChange fnExactPlaneRowsSpec)

/-- ITS FALSE NEIGHBOUR: 'it returns false'. Refute it at one input. -/
def fnExactPlaneRowsWrong : ChangeSpec := { name := "fnExactPlaneRows", fn := fun _ => fun
  | [d1, d2] => { results := [.lit (.bool false)], args := [d1, d2] }
  | _ => none }
def FnExactPlaneRowsWrongFalsely : Prop := fnExactPlaneRowsRow.holds Try.pinned (OpenSpec.ofChange fnExactPlaneRowsWrong)

/-- 'laws.FnExactPlaneKey': WHATEVER THE INPUT: true; the input reads as it did. -/
def fnExactPlaneKeySpec : ChangeSpec := { name := "fnExactPlaneKey", fn := fun _ => fun
  | [d] => { results := [.lit (.bool true)], args := [d] }
  | _ => none }
def fnExactPlaneKeyRow : OpenClaim := { program := "ytbbjcgnoialidaa", sum := "e01b854cd667fe838a3290e4aec3a31f74bcd115468e7bb2a2405f0316cf0829", func := "loop.example/g00835/laws.FnExactPlaneKey", spec := "fnExactPlaneKey", inPlace := ["internal/abi.NoEscape", "internal/bytealg.MakeNoZero"], apart := false }
def FnExactPlaneKeySaid : Prop := fnExactPlaneKeyRow.holds Try.pinned (OpenSpec.ofChange fnExactPlaneKeySpec)

/-- ITS FALSE NEIGHBOUR: 'it returns false'. Refute it at one input. -/
def fnExactPlaneKeyWrong : ChangeSpec := { name := "fnExactPlaneKey", fn := fun _ => fun
  | [d] => { results := [.lit (.bool false)], args := [d] }
  | _ => none }
def FnExactPlaneKeyWrongFalsely : Prop := fnExactPlaneKeyRow.holds Try.pinned (OpenSpec.ofChange fnExactPlaneKeyWrong)

/- THE SECOND FORM. 'bulk': how many values and letters a reading holds, each counted each time it is reached (what is shared counts as often as it is met; a slice's spare places count too). A statement '..UptoSaid' is the law's where the arguments, and the package variables that the reading takes, are together of bulk at most 1048576: NARROWER than '..Said'. Prove '..Said' where nothing that the law and all that it calls make is longer than what came in: it says more and counts as full. Else prove '..UptoSaid'. A law counts once. -/
mutual
def uptoBulk {H : Type} : DataW H → Nat
  | .lit (.string bytes) => bytes.length + 1
  | .lit _ => 1
  | .nil => 1
  | .ptr d => uptoBulk d + 1
  | .slice elems spare => uptoBulkAll elems + uptoBulkAll spare + 1
  | .agg parts => uptoBulkAll parts + 1
  | .iface _ d => uptoBulk d + 1
  | .map entries => uptoBulkEntries entries + 1
  | .held _ => 1
def uptoBulkAll {H : Type} : List (DataW H) → Nat
  | [] => 0
  | d :: r => uptoBulk d + uptoBulkAll r
def uptoBulkEntries {H : Type} : List (Lit × DataW H) → Nat
  | [] => 0
  | x :: r => uptoBulkEntry x + uptoBulkEntries r
def uptoBulkEntry {H : Type} : Lit × DataW H → Nat
  | (.string bytes, d) => bytes.length + uptoBulk d + 1
  | (_, d) => uptoBulk d + 1
 end
def uptoSmall : (H : Type) → List (DataW H) → Bool := fun _ ds => decide (uptoBulkAll ds ≤ 1048576)
def OpenSpec.upto (s : _root_.Go.ChangeSpec) : _root_.Go.OpenSpec := { _root_.Go.OpenSpec.ofChange s with cond := some uptoSmall }

/-- 'laws.FnPlanes', WHERE WHAT IT READS IS OF BULK AT MOST 1048576: true; the input reads as it did. -/
def fnPlanesUptoRow : OpenClaim := { program := "ytbbjcgnoialidaa", sum := "e01b854cd667fe838a3290e4aec3a31f74bcd115468e7bb2a2405f0316cf0829", func := "loop.example/g00835/laws.FnPlanes", spec := "fnPlanes", apart := false, narrowed := true }
def FnPlanesUptoSaid : Prop := fnPlanesUptoRow.holds Try.pinned (OpenSpec.upto fnPlanesSpec)

/-- 'laws.FnPlaneSum', WHERE WHAT IT READS IS OF BULK AT MOST 1048576: true; the input reads as it did. -/
def fnPlaneSumUptoRow : OpenClaim := { program := "ytbbjcgnoialidaa", sum := "e01b854cd667fe838a3290e4aec3a31f74bcd115468e7bb2a2405f0316cf0829", func := "loop.example/g00835/laws.FnPlaneSum", spec := "fnPlaneSum", apart := false, narrowed := true }
def FnPlaneSumUptoSaid : Prop := fnPlaneSumUptoRow.holds Try.pinned (OpenSpec.upto fnPlaneSumSpec)

/-- 'laws.FnPlaneSub', WHERE WHAT IT READS IS OF BULK AT MOST 1048576: true; the input reads as it did. -/
def fnPlaneSubUptoRow : OpenClaim := { program := "ytbbjcgnoialidaa", sum := "e01b854cd667fe838a3290e4aec3a31f74bcd115468e7bb2a2405f0316cf0829", func := "loop.example/g00835/laws.FnPlaneSub", spec := "fnPlaneSub", unfollowed := true, recurses := true, apart := false, narrowed := true }
def FnPlaneSubUptoSaid : Prop := fnPlaneSubUptoRow.holds Try.pinned (OpenSpec.upto fnPlaneSubSpec)

/-- 'laws.FnPlanePower', WHERE WHAT IT READS IS OF BULK AT MOST 1048576: true; the input reads as it did. -/
def fnPlanePowerUptoRow : OpenClaim := { program := "ytbbjcgnoialidaa", sum := "e01b854cd667fe838a3290e4aec3a31f74bcd115468e7bb2a2405f0316cf0829", func := "loop.example/g00835/laws.FnPlanePower", spec := "fnPlanePower", apart := false, narrowed := true }
def FnPlanePowerUptoSaid : Prop := fnPlanePowerUptoRow.holds Try.pinned (OpenSpec.upto fnPlanePowerSpec)

/-- 'laws.FnExactToPlanes', WHERE WHAT IT READS IS OF BULK AT MOST 1048576: true; the input reads as it did. -/
def fnExactToPlanesUptoRow : OpenClaim := { program := "ytbbjcgnoialidaa", sum := "e01b854cd667fe838a3290e4aec3a31f74bcd115468e7bb2a2405f0316cf0829", func := "loop.example/g00835/laws.FnExactToPlanes", spec := "fnExactToPlanes", apart := false, narrowed := true }
def FnExactToPlanesUptoSaid : Prop := fnExactToPlanesUptoRow.holds Try.pinned (OpenSpec.upto fnExactToPlanesSpec)

/-- 'laws.FnExactFromPlanes', WHERE WHAT IT READS IS OF BULK AT MOST 1048576: true; the input reads as it did. -/
def fnExactFromPlanesUptoRow : OpenClaim := { program := "ytbbjcgnoialidaa", sum := "e01b854cd667fe838a3290e4aec3a31f74bcd115468e7bb2a2405f0316cf0829", func := "loop.example/g00835/laws.FnExactFromPlanes", spec := "fnExactFromPlanes", apart := false, narrowed := true }
def FnExactFromPlanesUptoSaid : Prop := fnExactFromPlanesUptoRow.holds Try.pinned (OpenSpec.upto fnExactFromPlanesSpec)

/-- 'laws.FnExactPlaneXor', WHERE WHAT IT READS IS OF BULK AT MOST 1048576: true; the input reads as it did. -/
def fnExactPlaneXorUptoRow : OpenClaim := { program := "ytbbjcgnoialidaa", sum := "e01b854cd667fe838a3290e4aec3a31f74bcd115468e7bb2a2405f0316cf0829", func := "loop.example/g00835/laws.FnExactPlaneXor", spec := "fnExactPlaneXor", apart := false, narrowed := true }
def FnExactPlaneXorUptoSaid : Prop := fnExactPlaneXorUptoRow.holds Try.pinned (OpenSpec.upto fnExactPlaneXorSpec)

/-- 'laws.FnExactPlaneTimes', WHERE WHAT IT READS IS OF BULK AT MOST 1048576: true; the input reads as it did. -/
def fnExactPlaneTimesUptoRow : OpenClaim := { program := "ytbbjcgnoialidaa", sum := "e01b854cd667fe838a3290e4aec3a31f74bcd115468e7bb2a2405f0316cf0829", func := "loop.example/g00835/laws.FnExactPlaneTimes", spec := "fnExactPlaneTimes", apart := false, narrowed := true }
def FnExactPlaneTimesUptoSaid : Prop := fnExactPlaneTimesUptoRow.holds Try.pinned (OpenSpec.upto fnExactPlaneTimesSpec)

/-- 'laws.FnExactPlaneSub', WHERE WHAT IT READS IS OF BULK AT MOST 1048576: true; the input reads as it did. -/
def fnExactPlaneSubUptoRow : OpenClaim := { program := "ytbbjcgnoialidaa", sum := "e01b854cd667fe838a3290e4aec3a31f74bcd115468e7bb2a2405f0316cf0829", func := "loop.example/g00835/laws.FnExactPlaneSub", spec := "fnExactPlaneSub", apart := false, narrowed := true }
def FnExactPlaneSubUptoSaid : Prop := fnExactPlaneSubUptoRow.holds Try.pinned (OpenSpec.upto fnExactPlaneSubSpec)

/-- 'laws.FnExactPlaneUnsub', WHERE WHAT IT READS IS OF BULK AT MOST 1048576: true; the input reads as it did. -/
def fnExactPlaneUnsubUptoRow : OpenClaim := { program := "ytbbjcgnoialidaa", sum := "e01b854cd667fe838a3290e4aec3a31f74bcd115468e7bb2a2405f0316cf0829", func := "loop.example/g00835/laws.FnExactPlaneUnsub", spec := "fnExactPlaneUnsub", apart := false, narrowed := true }
def FnExactPlaneUnsubUptoSaid : Prop := fnExactPlaneUnsubUptoRow.holds Try.pinned (OpenSpec.upto fnExactPlaneUnsubSpec)

/-- 'laws.FnExactPlaneRows', WHERE WHAT IT READS IS OF BULK AT MOST 1048576: true; the input reads as it did. -/
def fnExactPlaneRowsUptoRow : OpenClaim := { program := "ytbbjcgnoialidaa", sum := "e01b854cd667fe838a3290e4aec3a31f74bcd115468e7bb2a2405f0316cf0829", func := "loop.example/g00835/laws.FnExactPlaneRows", spec := "fnExactPlaneRows", apart := false, narrowed := true }
def FnExactPlaneRowsUptoSaid : Prop := fnExactPlaneRowsUptoRow.holds Try.pinned (OpenSpec.upto fnExactPlaneRowsSpec)

/-- 'laws.FnExactPlaneKey', WHERE WHAT IT READS IS OF BULK AT MOST 1048576: true; the input reads as it did. -/
def fnExactPlaneKeyUptoRow : OpenClaim := { program := "ytbbjcgnoialidaa", sum := "e01b854cd667fe838a3290e4aec3a31f74bcd115468e7bb2a2405f0316cf0829", func := "loop.example/g00835/laws.FnExactPlaneKey", spec := "fnExactPlaneKey", inPlace := ["internal/abi.NoEscape", "internal/bytealg.MakeNoZero"], apart := false, narrowed := true }
def FnExactPlaneKeyUptoSaid : Prop := fnExactPlaneKeyUptoRow.holds Try.pinned (OpenSpec.upto fnExactPlaneKeySpec)

end Rows
end Go.Proofs.Ytbbjcgnoialidaa
