/-
  No cell of these rows narrows 'for every input' (looked for: loops, veiled, ifaces, maps, wideKeys, modest, calm, conditions, laid).
  DERIVED. THE GIVEN ROWS OF THIS SEAT. 9 by the template 'for every input the law returns true; each argument reads behind the call as it read before'; 0 by the template 'total and deterministic' (their statements: YtgfcbbijjdjijaaTotals.lean).
  GIVEN WITH THE SEED: the statements are not yours to turn. If you find one false, say at which input.
  Laid BY PROGRAM, IN A SANDBOX (cutbox-rows.mjs): the forced cells as the released guide's own fill.sh prints them over the translation 2ae28f19bb019348… (all of the seat's roots in one cut). By AI agents, Wed Nov 11 2026. No macro, syntax, notation, axiom, sorry.
-/
import Derived.Test.YtgfcbbijjdjijaaChecked
import GoSem.Claim
import GoSem.ClaimJoined
import GoSem.ClaimMapViews
import Derived.JoinedTies
import Derived.KernelRfl
namespace Go.Proofs.Ytgfcbbijjdjijaa
/- THE CELL 'sum', in the pinned program and in every row, IS THE sha256 OF THE DUMP (.gsa) THAT YtgfcbbijjdjijaaProg.lean LOADS. Nothing in Lean hashes anything: it is a label: what it is worth is what the hold of that sum in a sandbox is worth. -/
noncomputable def Try.pinned : Pinned := { name := "ytgfcbbijjdjijaa", sum := "2ae28f19bb019348a929c3d27837ecfa5cc391daf6ae650e9f1cba86068de847", checked := Try.checked }
namespace Rows
def none {H : Type} : Left H := { results := [], args := [] }

/-- 'laws.FnWord': WHATEVER THE INPUT: true; the input reads as it did. -/
def fnWordSpec : ChangeSpec := { name := "fnWord", fn := fun _ => fun
  | [d] => { results := [.lit (.bool true)], args := [d] }
  | _ => none }
def fnWordRow : OpenClaim := { program := "ytgfcbbijjdjijaa", sum := "2ae28f19bb019348a929c3d27837ecfa5cc391daf6ae650e9f1cba86068de847", func := "loop.example/g00835/laws.FnWord", spec := "fnWord", apart := false }
def FnWordSaid : Prop := fnWordRow.holds Try.pinned (OpenSpec.ofChange fnWordSpec)

/-- ITS FALSE NEIGHBOUR: 'it returns false'. Refute it at one input. -/
def fnWordWrong : ChangeSpec := { name := "fnWord", fn := fun _ => fun
  | [d] => { results := [.lit (.bool false)], args := [d] }
  | _ => none }
def FnWordWrongFalsely : Prop := fnWordRow.holds Try.pinned (OpenSpec.ofChange fnWordWrong)

/-- 'laws.FnTurn': WHATEVER THE INPUT: true; the input reads as it did. -/
def fnTurnSpec : ChangeSpec := { name := "fnTurn", fn := fun _ => fun
  | [d] => { results := [.lit (.bool true)], args := [d] }
  | _ => none }
def fnTurnRow : OpenClaim := { program := "ytgfcbbijjdjijaa", sum := "2ae28f19bb019348a929c3d27837ecfa5cc391daf6ae650e9f1cba86068de847", func := "loop.example/g00835/laws.FnTurn", spec := "fnTurn", apart := false }
def FnTurnSaid : Prop := fnTurnRow.holds Try.pinned (OpenSpec.ofChange fnTurnSpec)

/-- ITS FALSE NEIGHBOUR: 'it returns false'. Refute it at one input. -/
def fnTurnWrong : ChangeSpec := { name := "fnTurn", fn := fun _ => fun
  | [d] => { results := [.lit (.bool false)], args := [d] }
  | _ => none }
def FnTurnWrongFalsely : Prop := fnTurnRow.holds Try.pinned (OpenSpec.ofChange fnTurnWrong)

/-- 'laws.FnRcon': WHATEVER THE INPUT: true; the input reads as it did. -/
def fnRconSpec : ChangeSpec := { name := "fnRcon", fn := fun _ => fun
  | [d] => { results := [.lit (.bool true)], args := [d] }
  | _ => none }
def fnRconRow : OpenClaim := { program := "ytgfcbbijjdjijaa", sum := "2ae28f19bb019348a929c3d27837ecfa5cc391daf6ae650e9f1cba86068de847", func := "loop.example/g00835/laws.FnRcon", spec := "fnRcon", unfollowed := true, recurses := true, apart := false }
def FnRconSaid : Prop := fnRconRow.holds Try.pinned (OpenSpec.ofChange fnRconSpec)

/-- ITS FALSE NEIGHBOUR: 'it returns false'. Refute it at one input. -/
def fnRconWrong : ChangeSpec := { name := "fnRcon", fn := fun _ => fun
  | [d] => { results := [.lit (.bool false)], args := [d] }
  | _ => none }
def FnRconWrongFalsely : Prop := fnRconRow.holds Try.pinned (OpenSpec.ofChange fnRconWrong)

/-- 'laws.FnSubWord': WHATEVER THE INPUT: true; the input reads as it did. -/
def fnSubWordSpec : ChangeSpec := { name := "fnSubWord", fn := fun _ => fun
  | [d] => { results := [.lit (.bool true)], args := [d] }
  | _ => none }
def fnSubWordRow : OpenClaim := { program := "ytgfcbbijjdjijaa", sum := "2ae28f19bb019348a929c3d27837ecfa5cc391daf6ae650e9f1cba86068de847", func := "loop.example/g00835/laws.FnSubWord", spec := "fnSubWord", unfollowed := true, recurses := true, apart := false }
def FnSubWordSaid : Prop := fnSubWordRow.holds Try.pinned (OpenSpec.ofChange fnSubWordSpec)

/-- ITS FALSE NEIGHBOUR: 'it returns false'. Refute it at one input. -/
def fnSubWordWrong : ChangeSpec := { name := "fnSubWord", fn := fun _ => fun
  | [d] => { results := [.lit (.bool false)], args := [d] }
  | _ => none }
def FnSubWordWrongFalsely : Prop := fnSubWordRow.holds Try.pinned (OpenSpec.ofChange fnSubWordWrong)

/-- 'laws.FnExactPutWord': WHATEVER THE INPUT: true; the input reads as it did. -/
def fnExactPutWordSpec : ChangeSpec := { name := "fnExactPutWord", fn := fun _ => fun
  | [d] => { results := [.lit (.bool true)], args := [d] }
  | _ => none }
def fnExactPutWordRow : OpenClaim := { program := "ytgfcbbijjdjijaa", sum := "2ae28f19bb019348a929c3d27837ecfa5cc391daf6ae650e9f1cba86068de847", func := "loop.example/g00835/laws.FnExactPutWord", spec := "fnExactPutWord", apart := false }
def FnExactPutWordSaid : Prop := fnExactPutWordRow.holds Try.pinned (OpenSpec.ofChange fnExactPutWordSpec)

/-- ITS FALSE NEIGHBOUR: 'it returns false'. Refute it at one input. -/
def fnExactPutWordWrong : ChangeSpec := { name := "fnExactPutWord", fn := fun _ => fun
  | [d] => { results := [.lit (.bool false)], args := [d] }
  | _ => none }
def FnExactPutWordWrongFalsely : Prop := fnExactPutWordRow.holds Try.pinned (OpenSpec.ofChange fnExactPutWordWrong)

/-- 'laws.FnExactGetWord': WHATEVER THE INPUT: true; the input reads as it did. -/
def fnExactGetWordSpec : ChangeSpec := { name := "fnExactGetWord", fn := fun _ => fun
  | [d1, d2] => { results := [.lit (.bool true)], args := [d1, d2] }
  | _ => none }
def fnExactGetWordRow : OpenClaim := { program := "ytgfcbbijjdjijaa", sum := "2ae28f19bb019348a929c3d27837ecfa5cc391daf6ae650e9f1cba86068de847", func := "loop.example/g00835/laws.FnExactGetWord", spec := "fnExactGetWord", apart := false }
def FnExactGetWordSaid : Prop := fnExactGetWordRow.holds Try.pinned (OpenSpec.ofChange fnExactGetWordSpec)

/-- ITS FALSE NEIGHBOUR: 'it returns false'. Refute it at one input. -/
def fnExactGetWordWrong : ChangeSpec := { name := "fnExactGetWord", fn := fun _ => fun
  | [d1, d2] => { results := [.lit (.bool false)], args := [d1, d2] }
  | _ => none }
def FnExactGetWordWrongFalsely : Prop := fnExactGetWordRow.holds Try.pinned (OpenSpec.ofChange fnExactGetWordWrong)

/-- 'laws.FnExactTurn': WHATEVER THE INPUT: true; the input reads as it did. -/
def fnExactTurnSpec : ChangeSpec := { name := "fnExactTurn", fn := fun _ => fun
  | [d1, d2] => { results := [.lit (.bool true)], args := [d1, d2] }
  | _ => none }
def fnExactTurnRow : OpenClaim := { program := "ytgfcbbijjdjijaa", sum := "2ae28f19bb019348a929c3d27837ecfa5cc391daf6ae650e9f1cba86068de847", func := "loop.example/g00835/laws.FnExactTurn", spec := "fnExactTurn", apart := false }
def FnExactTurnSaid : Prop := fnExactTurnRow.holds Try.pinned (OpenSpec.ofChange fnExactTurnSpec)

/-- ITS FALSE NEIGHBOUR: 'it returns false'. Refute it at one input. -/
def fnExactTurnWrong : ChangeSpec := { name := "fnExactTurn", fn := fun _ => fun
  | [d1, d2] => { results := [.lit (.bool false)], args := [d1, d2] }
  | _ => none }
def FnExactTurnWrongFalsely : Prop := fnExactTurnRow.holds Try.pinned (OpenSpec.ofChange fnExactTurnWrong)

/-- 'laws.FnExactSubWord': WHATEVER THE INPUT: true; the input reads as it did. -/
def fnExactSubWordSpec : ChangeSpec := { name := "fnExactSubWord", fn := fun _ => fun
  | [d] => { results := [.lit (.bool true)], args := [d] }
  | _ => none }
def fnExactSubWordRow : OpenClaim := { program := "ytgfcbbijjdjijaa", sum := "2ae28f19bb019348a929c3d27837ecfa5cc391daf6ae650e9f1cba86068de847", func := "loop.example/g00835/laws.FnExactSubWord", spec := "fnExactSubWord", unfollowed := true, recurses := true, apart := false }
def FnExactSubWordSaid : Prop := fnExactSubWordRow.holds Try.pinned (OpenSpec.ofChange fnExactSubWordSpec)

/-- ITS FALSE NEIGHBOUR: 'it returns false'. Refute it at one input. -/
def fnExactSubWordWrong : ChangeSpec := { name := "fnExactSubWord", fn := fun _ => fun
  | [d] => { results := [.lit (.bool false)], args := [d] }
  | _ => none }
def FnExactSubWordWrongFalsely : Prop := fnExactSubWordRow.holds Try.pinned (OpenSpec.ofChange fnExactSubWordWrong)

/-- 'laws.FnExactRcon': WHATEVER THE INPUT: true; the input reads as it did. -/
def fnExactRconSpec : ChangeSpec := { name := "fnExactRcon", fn := fun _ => fun
  | [d] => { results := [.lit (.bool true)], args := [d] }
  | _ => none }
def fnExactRconRow : OpenClaim := { program := "ytgfcbbijjdjijaa", sum := "2ae28f19bb019348a929c3d27837ecfa5cc391daf6ae650e9f1cba86068de847", func := "loop.example/g00835/laws.FnExactRcon", spec := "fnExactRcon", apart := false }
def FnExactRconSaid : Prop := fnExactRconRow.holds Try.pinned (OpenSpec.ofChange fnExactRconSpec)

/-- ITS FALSE NEIGHBOUR: 'it returns false'. Refute it at one input. -/
def fnExactRconWrong : ChangeSpec := { name := "fnExactRcon", fn := fun _ => fun
  | [d] => { results := [.lit (.bool false)], args := [d] }
  | _ => none }
def FnExactRconWrongFalsely : Prop := fnExactRconRow.holds Try.pinned (OpenSpec.ofChange fnExactRconWrong)

/- THE SECOND FORM. 'bulk': how many values and letters a reading holds, each counted each time it is reached (what is shared counts as often as it is met; a slice's spare places count too). A statement '..UptoSaid' is the law's where the arguments, and the package variables that the reading takes, are together of bulk at most 1048576: NARROWER than '..Said'. Prove '..Said' where nothing that the law and all that it calls make is longer than what came in: it says more and counts as full. Else prove '..UptoSaid'. A law counts once. -/
mutual
def uptoBulk {H : Type} : DataW H → Nat
  | .lit (.string bytes) => bytes.length + 1
  | .lit _ => 1
  | .nil => 1
  | .ptr d => uptoBulk d + 1
  | .slice elems spare => uptoBulkAll elems + uptoBulkAll spare + 1
  | .agg parts => uptoBulkAll parts + 1
  | .iface _ d => uptoBulk d + 1
  | .map entries => uptoBulkEntries entries + 1
  | .held _ => 1
def uptoBulkAll {H : Type} : List (DataW H) → Nat
  | [] => 0
  | d :: r => uptoBulk d + uptoBulkAll r
def uptoBulkEntries {H : Type} : List (Lit × DataW H) → Nat
  | [] => 0
  | x :: r => uptoBulkEntry x + uptoBulkEntries r
def uptoBulkEntry {H : Type} : Lit × DataW H → Nat
  | (.string bytes, d) => bytes.length + uptoBulk d + 1
  | (_, d) => uptoBulk d + 1
 end
def uptoSmall : (H : Type) → List (DataW H) → Bool := fun _ ds => decide (uptoBulkAll ds ≤ 1048576)
def OpenSpec.upto (s : _root_.Go.ChangeSpec) : _root_.Go.OpenSpec := { _root_.Go.OpenSpec.ofChange s with cond := some uptoSmall }

/-- 'laws.FnWord', WHERE WHAT IT READS IS OF BULK AT MOST 1048576: true; the input reads as it did. -/
def fnWordUptoRow : OpenClaim := { program := "ytgfcbbijjdjijaa", sum := "2ae28f19bb019348a929c3d27837ecfa5cc391daf6ae650e9f1cba86068de847", func := "loop.example/g00835/laws.FnWord", spec := "fnWord", apart := false, narrowed := true }
def FnWordUptoSaid : Prop := fnWordUptoRow.holds Try.pinned (OpenSpec.upto fnWordSpec)

/-- 'laws.FnTurn', WHERE WHAT IT READS IS OF BULK AT MOST 1048576: true; the input reads as it did. -/
def fnTurnUptoRow : OpenClaim := { program := "ytgfcbbijjdjijaa", sum := "2ae28f19bb019348a929c3d27837ecfa5cc391daf6ae650e9f1cba86068de847", func := "loop.example/g00835/laws.FnTurn", spec := "fnTurn", apart := false, narrowed := true }
def FnTurnUptoSaid : Prop := fnTurnUptoRow.holds Try.pinned (OpenSpec.upto fnTurnSpec)

/-- 'laws.FnRcon', WHERE WHAT IT READS IS OF BULK AT MOST 1048576: true; the input reads as it did. -/
def fnRconUptoRow : OpenClaim := { program := "ytgfcbbijjdjijaa", sum := "2ae28f19bb019348a929c3d27837ecfa5cc391daf6ae650e9f1cba86068de847", func := "loop.example/g00835/laws.FnRcon", spec := "fnRcon", unfollowed := true, recurses := true, apart := false, narrowed := true }
def FnRconUptoSaid : Prop := fnRconUptoRow.holds Try.pinned (OpenSpec.upto fnRconSpec)

/-- 'laws.FnSubWord', WHERE WHAT IT READS IS OF BULK AT MOST 1048576: true; the input reads as it did. -/
def fnSubWordUptoRow : OpenClaim := { program := "ytgfcbbijjdjijaa", sum := "2ae28f19bb019348a929c3d27837ecfa5cc391daf6ae650e9f1cba86068de847", func := "loop.example/g00835/laws.FnSubWord", spec := "fnSubWord", unfollowed := true, recurses := true, apart := false, narrowed := true }
def FnSubWordUptoSaid : Prop := fnSubWordUptoRow.holds Try.pinned (OpenSpec.upto fnSubWordSpec)

/-- 'laws.FnExactPutWord', WHERE WHAT IT READS IS OF BULK AT MOST 1048576: true; the input reads as it did. -/
def fnExactPutWordUptoRow : OpenClaim := { program := "ytgfcbbijjdjijaa", sum := "2ae28f19bb019348a929c3d27837ecfa5cc391daf6ae650e9f1cba86068de847", func := "loop.example/g00835/laws.FnExactPutWord", spec := "fnExactPutWord", apart := false, narrowed := true }
def FnExactPutWordUptoSaid : Prop := fnExactPutWordUptoRow.holds Try.pinned (OpenSpec.upto fnExactPutWordSpec)

/-- 'laws.FnExactGetWord', WHERE WHAT IT READS IS OF BULK AT MOST 1048576: true; the input reads as it did. -/
def fnExactGetWordUptoRow : OpenClaim := { program := "ytgfcbbijjdjijaa", sum := "2ae28f19bb019348a929c3d27837ecfa5cc391daf6ae650e9f1cba86068de847", func := "loop.example/g00835/laws.FnExactGetWord", spec := "fnExactGetWord", apart := false, narrowed := true }
def FnExactGetWordUptoSaid : Prop := fnExactGetWordUptoRow.holds Try.pinned (OpenSpec.upto fnExactGetWordSpec)

/-- 'laws.FnExactTurn', WHERE WHAT IT READS IS OF BULK AT MOST 1048576: true; the input reads as it did. -/
def fnExactTurnUptoRow : OpenClaim := { program := "ytgfcbbijjdjijaa", sum := "2ae28f19bb019348a929c3d27837ecfa5cc391daf6ae650e9f1cba86068de847", func := "loop.example/g00835/laws.FnExactTurn", spec := "fnExactTurn", apart := false, narrowed := true }
def FnExactTurnUptoSaid : Prop := fnExactTurnUptoRow.holds Try.pinned (OpenSpec.upto fnExactTurnSpec)

/-- 'laws.FnExactSubWord', WHERE WHAT IT READS IS OF BULK AT MOST 1048576: true; the input reads as it did. -/
def fnExactSubWordUptoRow : OpenClaim := { program := "ytgfcbbijjdjijaa", sum := "2ae28f19bb019348a929c3d27837ecfa5cc391daf6ae650e9f1cba86068de847", func := "loop.example/g00835/laws.FnExactSubWord", spec := "fnExactSubWord", unfollowed := true, recurses := true, apart := false, narrowed := true }
def FnExactSubWordUptoSaid : Prop := fnExactSubWordUptoRow.holds Try.pinned (OpenSpec.upto fnExactSubWordSpec)

/-- 'laws.FnExactRcon', WHERE WHAT IT READS IS OF BULK AT MOST 1048576: true; the input reads as it did. -/
def fnExactRconUptoRow : OpenClaim := { program := "ytgfcbbijjdjijaa", sum := "2ae28f19bb019348a929c3d27837ecfa5cc391daf6ae650e9f1cba86068de847", func := "loop.example/g00835/laws.FnExactRcon", spec := "fnExactRcon", apart := false, narrowed := true }
def FnExactRconUptoSaid : Prop := fnExactRconUptoRow.holds Try.pinned (OpenSpec.upto fnExactRconSpec)

end Rows
end Go.Proofs.Ytgfcbbijjdjijaa
