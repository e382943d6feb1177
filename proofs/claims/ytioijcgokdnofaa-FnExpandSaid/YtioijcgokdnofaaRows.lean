/-
  No cell of these rows narrows 'for every input' (looked for: loops, veiled, ifaces, maps, wideKeys, modest, calm, conditions, laid).
  DERIVED. THE GIVEN ROWS OF THIS SEAT. 12 by the template 'for every input the law returns true; each argument reads behind the call as it read before'; 0 by the template 'total and deterministic' (their statements: YtioijcgokdnofaaTotals.lean).
  GIVEN WITH THE SEED: the statements are not yours to turn. If you find one false, say at which input.
  Laid BY PROGRAM, IN A SANDBOX (cutbox-rows.mjs): the forced cells as the released guide's own fill.sh prints them over the translation 8aa448e95e782da4… (all of the seat's roots in one cut). By AI agents, Wed Nov 11 2026. No macro, syntax, notation, axiom, sorry.
-/
import Derived.Test.YtioijcgokdnofaaChecked
import GoSem.Claim
import GoSem.ClaimJoined
import GoSem.ClaimMapViews
import Derived.JoinedTies
import Derived.KernelRfl
namespace Go.Proofs.Ytioijcgokdnofaa
/- THE CELL 'sum', in the pinned program and in every row, IS THE sha256 OF THE DUMP (.gsa) THAT YtioijcgokdnofaaProg.lean LOADS. Nothing in Lean hashes anything: it is a label: what it is worth is what the hold of that sum in a sandbox is worth. -/
noncomputable def Try.pinned : Pinned := { name := "ytioijcgokdnofaa", sum := "8aa448e95e782da40e5493e1fa17d713c05868490526804dfcd7a907f4d54ac3", checked := Try.checked }
namespace Rows
def none {H : Type} : Left H := { results := [], args := [] }

/-- 'laws.FnWord': WHATEVER THE INPUT: true; the input reads as it did. -/
def fnWordSpec : ChangeSpec := { name := "fnWord", fn := fun _ => fun
  | [d] => { results := [.lit (.bool true)], args := [d] }
  | _ => none }
def fnWordRow : OpenClaim := { program := "ytioijcgokdnofaa", sum := "8aa448e95e782da40e5493e1fa17d713c05868490526804dfcd7a907f4d54ac3", func := "loop.example/g00835/laws.FnWord", spec := "fnWord", apart := false }
def FnWordSaid : Prop := fnWordRow.holds Try.pinned (OpenSpec.ofChange fnWordSpec)

/-- ITS FALSE NEIGHBOUR: 'it returns false'. Refute it at one input. -/
def fnWordWrong : ChangeSpec := { name := "fnWord", fn := fun _ => fun
  | [d] => { results := [.lit (.bool false)], args := [d] }
  | _ => none }
def FnWordWrongFalsely : Prop := fnWordRow.holds Try.pinned (OpenSpec.ofChange fnWordWrong)

/-- 'laws.FnRcon': WHATEVER THE INPUT: true; the input reads as it did. -/
def fnRconSpec : ChangeSpec := { name := "fnRcon", fn := fun _ => fun
  | [d] => { results := [.lit (.bool true)], args := [d] }
  | _ => none }
def fnRconRow : OpenClaim := { program := "ytioijcgokdnofaa", sum := "8aa448e95e782da40e5493e1fa17d713c05868490526804dfcd7a907f4d54ac3", func := "loop.example/g00835/laws.FnRcon", spec := "fnRcon", unfollowed := true, recurses := true, apart := false }
def FnRconSaid : Prop := fnRconRow.holds Try.pinned (OpenSpec.ofChange fnRconSpec)

/-- ITS FALSE NEIGHBOUR: 'it returns false'. Refute it at one input. -/
def fnRconWrong : ChangeSpec := { name := "fnRcon", fn := fun _ => fun
  | [d] => { results := [.lit (.bool false)], args := [d] }
  | _ => none }
def FnRconWrongFalsely : Prop := fnRconRow.holds Try.pinned (OpenSpec.ofChange fnRconWrong)

/-- 'laws.FnExpand': WHATEVER THE INPUT: true; the input reads as it did. -/
def fnExpandSpec : ChangeSpec := { name := "fnExpand", fn := fun _ => fun
  | [d] => { results := [.lit (.bool true)], args := [d] }
  | _ => none }
def fnExpandRow : OpenClaim := { program := "ytioijcgokdnofaa", sum := "8aa448e95e782da40e5493e1fa17d713c05868490526804dfcd7a907f4d54ac3", func := "loop.example/g00835/laws.FnExpand", spec := "fnExpand", unfollowed := true, recurses := true, apart := false }
def FnExpandSaid : Prop := fnExpandRow.holds Try.pinned (OpenSpec.ofChange fnExpandSpec)

/-- ITS FALSE NEIGHBOUR: 'it returns false'. Refute it at one input. -/
def fnExpandWrong : ChangeSpec := { name := "fnExpand", fn := fun _ => fun
  | [d] => { results := [.lit (.bool false)], args := [d] }
  | _ => none }
def FnExpandWrongFalsely : Prop := fnExpandRow.holds Try.pinned (OpenSpec.ofChange fnExpandWrong)

/-- 'laws.FnRoundKey': WHATEVER THE INPUT: true; the input reads as it did. -/
def fnRoundKeySpec : ChangeSpec := { name := "fnRoundKey", fn := fun _ => fun
  | [d] => { results := [.lit (.bool true)], args := [d] }
  | _ => none }
def fnRoundKeyRow : OpenClaim := { program := "ytioijcgokdnofaa", sum := "8aa448e95e782da40e5493e1fa17d713c05868490526804dfcd7a907f4d54ac3", func := "loop.example/g00835/laws.FnRoundKey", spec := "fnRoundKey", unfollowed := true, recurses := true, apart := false }
def FnRoundKeySaid : Prop := fnRoundKeyRow.holds Try.pinned (OpenSpec.ofChange fnRoundKeySpec)

/-- ITS FALSE NEIGHBOUR: 'it returns false'. Refute it at one input. -/
def fnRoundKeyWrong : ChangeSpec := { name := "fnRoundKey", fn := fun _ => fun
  | [d] => { results := [.lit (.bool false)], args := [d] }
  | _ => none }
def FnRoundKeyWrongFalsely : Prop := fnRoundKeyRow.holds Try.pinned (OpenSpec.ofChange fnRoundKeyWrong)

/-- 'laws.FnSubWord': WHATEVER THE INPUT: true; the input reads as it did. -/
def fnSubWordSpec : ChangeSpec := { name := "fnSubWord", fn := fun _ => fun
  | [d] => { results := [.lit (.bool true)], args := [d] }
  | _ => none }
def fnSubWordRow : OpenClaim := { program := "ytioijcgokdnofaa", sum := "8aa448e95e782da40e5493e1fa17d713c05868490526804dfcd7a907f4d54ac3", func := "loop.example/g00835/laws.FnSubWord", spec := "fnSubWord", unfollowed := true, recurses := true, apart := false }
def FnSubWordSaid : Prop := fnSubWordRow.holds Try.pinned (OpenSpec.ofChange fnSubWordSpec)

/-- ITS FALSE NEIGHBOUR: 'it returns false'. Refute it at one input. -/
def fnSubWordWrong : ChangeSpec := { name := "fnSubWord", fn := fun _ => fun
  | [d] => { results := [.lit (.bool false)], args := [d] }
  | _ => none }
def FnSubWordWrongFalsely : Prop := fnSubWordRow.holds Try.pinned (OpenSpec.ofChange fnSubWordWrong)

/-- 'laws.FnApart': WHATEVER THE INPUT: true; the input reads as it did. -/
def fnApartSpec : ChangeSpec := { name := "fnApart", fn := fun _ => fun
  | [d] => { results := [.lit (.bool true)], args := [d] }
  | _ => none }
def fnApartRow : OpenClaim := { program := "ytioijcgokdnofaa", sum := "8aa448e95e782da40e5493e1fa17d713c05868490526804dfcd7a907f4d54ac3", func := "loop.example/g00835/laws.FnApart", spec := "fnApart", unfollowed := true, recurses := true, apart := false }
def FnApartSaid : Prop := fnApartRow.holds Try.pinned (OpenSpec.ofChange fnApartSpec)

/-- ITS FALSE NEIGHBOUR: 'it returns false'. Refute it at one input. -/
def fnApartWrong : ChangeSpec := { name := "fnApart", fn := fun _ => fun
  | [d] => { results := [.lit (.bool false)], args := [d] }
  | _ => none }
def FnApartWrongFalsely : Prop := fnApartRow.holds Try.pinned (OpenSpec.ofChange fnApartWrong)

/-- 'laws.FnExactPutWord': WHATEVER THE INPUT: true; the input reads as it did. -/
def fnExactPutWordSpec : ChangeSpec := { name := "fnExactPutWord", fn := fun _ => fun
  | [d] => { results := [.lit (.bool true)], args := [d] }
  | _ => none }
def fnExactPutWordRow : OpenClaim := { program := "ytioijcgokdnofaa", sum := "8aa448e95e782da40e5493e1fa17d713c05868490526804dfcd7a907f4d54ac3", func := "loop.example/g00835/laws.FnExactPutWord", spec := "fnExactPutWord", apart := false }
def FnExactPutWordSaid : Prop := fnExactPutWordRow.holds Try.pinned (OpenSpec.ofChange fnExactPutWordSpec)

/-- ITS FALSE NEIGHBOUR: 'it returns false'. Refute it at one input. -/
def fnExactPutWordWrong : ChangeSpec := { name := "fnExactPutWord", fn := fun _ => fun
  | [d] => { results := [.lit (.bool false)], args := [d] }
  | _ => none }
def FnExactPutWordWrongFalsely : Prop := fnExactPutWordRow.holds Try.pinned (OpenSpec.ofChange fnExactPutWordWrong)

/-- 'laws.FnExactSubWord': WHATEVER THE INPUT: true; the input reads as it did. -/
def fnExactSubWordSpec : ChangeSpec := { name := "fnExactSubWord", fn := fun _ => fun
  | [d] => { results := [.lit (.bool true)], args := [d] }
  | _ => none }
def fnExactSubWordRow : OpenClaim := { program := "ytioijcgokdnofaa", sum := "8aa448e95e782da40e5493e1fa17d713c05868490526804dfcd7a907f4d54ac3", func := "loop.example/g00835/laws.FnExactSubWord", spec := "fnExactSubWord", unfollowed := true, recurses := true, apart := false }
def FnExactSubWordSaid : Prop := fnExactSubWordRow.holds Try.pinned (OpenSpec.ofChange fnExactSubWordSpec)

/-- ITS FALSE NEIGHBOUR: 'it returns false'. Refute it at one input. -/
def fnExactSubWordWrong : ChangeSpec := { name := "fnExactSubWord", fn := fun _ => fun
  | [d] => { results := [.lit (.bool false)], args := [d] }
  | _ => none }
def FnExactSubWordWrongFalsely : Prop := fnExactSubWordRow.holds Try.pinned (OpenSpec.ofChange fnExactSubWordWrong)

/-- 'laws.FnExactKeyOk': WHATEVER THE INPUT: true; the input reads as it did. -/
def fnExactKeyOkSpec : ChangeSpec := { name := "fnExactKeyOk", fn := fun _ => fun
  | [d] => { results := [.lit (.bool true)], args := [d] }
  | _ => none }
def fnExactKeyOkRow : OpenClaim := { program := "ytioijcgokdnofaa", sum := "8aa448e95e782da40e5493e1fa17d713c05868490526804dfcd7a907f4d54ac3", func := "loop.example/g00835/laws.FnExactKeyOk", spec := "fnExactKeyOk", apart := false }
def FnExactKeyOkSaid : Prop := fnExactKeyOkRow.holds Try.pinned (OpenSpec.ofChange fnExactKeyOkSpec)

/-- ITS FALSE NEIGHBOUR: 'it returns false'. Refute it at one input. -/
def fnExactKeyOkWrong : ChangeSpec := { name := "fnExactKeyOk", fn := fun _ => fun
  | [d] => { results := [.lit (.bool false)], args := [d] }
  | _ => none }
def FnExactKeyOkWrongFalsely : Prop := fnExactKeyOkRow.holds Try.pinned (OpenSpec.ofChange fnExactKeyOkWrong)

/-- 'laws.FnExactRounds': WHATEVER THE INPUT: true; the input reads as it did. -/
def fnExactRoundsSpec : ChangeSpec := { name := "fnExactRounds", fn := fun _ => fun
  | [d] => { results := [.lit (.bool true)], args := [d] }
  | _ => none }
def fnExactRoundsRow : OpenClaim := { program := "ytioijcgokdnofaa", sum := "8aa448e95e782da40e5493e1fa17d713c05868490526804dfcd7a907f4d54ac3", func := "loop.example/g00835/laws.FnExactRounds", spec := "fnExactRounds", apart := false }
def FnExactRoundsSaid : Prop := fnExactRoundsRow.holds Try.pinned (OpenSpec.ofChange fnExactRoundsSpec)

/-- ITS FALSE NEIGHBOUR: 'it returns false'. Refute it at one input. -/
def fnExactRoundsWrong : ChangeSpec := { name := "fnExactRounds", fn := fun _ => fun
  | [d] => { results := [.lit (.bool false)], args := [d] }
  | _ => none }
def FnExactRoundsWrongFalsely : Prop := fnExactRoundsRow.holds Try.pinned (OpenSpec.ofChange fnExactRoundsWrong)

/-- 'laws.FnExactExpand': WHATEVER THE INPUT: true; the input reads as it did. -/
def fnExactExpandSpec : ChangeSpec := { name := "fnExactExpand", fn := fun _ => fun
  | [d] => { results := [.lit (.bool true)], args := [d] }
  | _ => none }
def fnExactExpandRow : OpenClaim := { program := "ytioijcgokdnofaa", sum := "8aa448e95e782da40e5493e1fa17d713c05868490526804dfcd7a907f4d54ac3", func := "loop.example/g00835/laws.FnExactExpand", spec := "fnExactExpand", unfollowed := true, recurses := true, apart := false }
def FnExactExpandSaid : Prop := fnExactExpandRow.holds Try.pinned (OpenSpec.ofChange fnExactExpandSpec)

/-- ITS FALSE NEIGHBOUR: 'it returns false'. Refute it at one input. -/
def fnExactExpandWrong : ChangeSpec := { name := "fnExactExpand", fn := fun _ => fun
  | [d] => { results := [.lit (.bool false)], args := [d] }
  | _ => none }
def FnExactExpandWrongFalsely : Prop := fnExactExpandRow.holds Try.pinned (OpenSpec.ofChange fnExactExpandWrong)

/-- 'laws.FnExactRoundKey': WHATEVER THE INPUT: true; the input reads as it did. -/
def fnExactRoundKeySpec : ChangeSpec := { name := "fnExactRoundKey", fn := fun _ => fun
  | [d1, d2] => { results := [.lit (.bool true)], args := [d1, d2] }
  | _ => none }
def fnExactRoundKeyRow : OpenClaim := { program := "ytioijcgokdnofaa", sum := "8aa448e95e782da40e5493e1fa17d713c05868490526804dfcd7a907f4d54ac3", func := "loop.example/g00835/laws.FnExactRoundKey", spec := "fnExactRoundKey", unfollowed := true, recurses := true, apart := false }
def FnExactRoundKeySaid : Prop := fnExactRoundKeyRow.holds Try.pinned (OpenSpec.ofChange fnExactRoundKeySpec)

/-- ITS FALSE NEIGHBOUR: 'it returns false'. Refute it at one input. -/
def fnExactRoundKeyWrong : ChangeSpec := { name := "fnExactRoundKey", fn := fun _ => fun
  | [d1, d2] => { results := [.lit (.bool false)], args := [d1, d2] }
  | _ => none }
def FnExactRoundKeyWrongFalsely : Prop := fnExactRoundKeyRow.holds Try.pinned (OpenSpec.ofChange fnExactRoundKeyWrong)

/- THE SECOND FORM. 'bulk': how many values and letters a reading holds, each counted each time it is reached (what is shared counts as often as it is met; a slice's spare places count too). A statement '..UptoSaid' is the law's where the arguments, and the package variables that the reading takes, are together of bulk at most 1048576: NARROWER than '..Said'. Prove '..Said' where nothing that the law and all that it calls make is longer than what came in: it says more and counts as full. Else prove '..UptoSaid'. A law counts once. -/
mutual
def uptoBulk {H : Type} : DataW H → Nat
  | .lit (.string bytes) => bytes.length + 1
  | .lit _ => 1
  | .nil => 1
  | .ptr d => uptoBulk d + 1
  | .slice elems spare => uptoBulkAll elems + uptoBulkAll spare + 1
  | .agg parts => uptoBulkAll parts + 1
  | .iface _ d => uptoBulk d + 1
  | .map entries => uptoBulkEntries entries + 1
  | .held _ => 1
def uptoBulkAll {H : Type} : List (DataW H) → Nat
  | [] => 0
  | d :: r => uptoBulk d + uptoBulkAll r
def uptoBulkEntries {H : Type} : List (Lit × DataW H) → Nat
  | [] => 0
  | x :: r => uptoBulkEntry x + uptoBulkEntries r
def uptoBulkEntry {H : Type} : Lit × DataW H → Nat
  | (.string bytes, d) => bytes.length + uptoBulk d + 1
  | (_, d) => uptoBulk d + 1
 end
def uptoSmall : (H : Type) → List (DataW H) → Bool := fun _ ds => decide (uptoBulkAll ds ≤ 1048576)
def OpenSpec.upto (s : _root_.Go.ChangeSpec) : _root_.Go.OpenSpec := { _root_.Go.OpenSpec.ofChange s with cond := some uptoSmall }

/-- 'laws.FnWord', WHERE WHAT IT READS IS OF BULK AT MOST 1048576: true; the input reads as it did. -/
def fnWordUptoRow : OpenClaim := { program := "ytioijcgokdnofaa", sum := "8aa448e95e782da40e5493e1fa17d713c05868490526804dfcd7a907f4d54ac3", func := "loop.example/g00835/laws.FnWord", spec := "fnWord", apart := false, narrowed := true }
def FnWordUptoSaid : Prop := fnWordUptoRow.holds Try.pinned (OpenSpec.upto fnWordSpec)

/-- 'laws.FnRcon', WHERE WHAT IT READS IS OF BULK AT MOST 1048576: true; the input reads as it did. -/
def fnRconUptoRow : OpenClaim := { program := "ytioijcgokdnofaa", sum := "8aa448e95e782da40e5493e1fa17d713c05868490526804dfcd7a907f4d54ac3", func := "loop.example/g00835/laws.FnRcon", spec := "fnRcon", unfollowed := true, recurses := true, apart := false, narrowed := true }
def FnRconUptoSaid : Prop := fnRconUptoRow.holds Try.pinned (OpenSpec.upto fnRconSpec)

/-- 'laws.FnExpand', WHERE WHAT IT READS IS OF BULK AT MOST 1048576: true; the input reads as it did. -/
def fnExpandUptoRow : OpenClaim := { program := "ytioijcgokdnofaa", sum := "8aa448e95e782da40e5493e1fa17d713c05868490526804dfcd7a907f4d54ac3", func := "loop.example/g00835/laws.FnExpand", spec := "fnExpand", unfollowed := true, recurses := true, apart := false, narrowed := true }
def FnExpandUptoSaid : Prop := fnExpandUptoRow.holds Try.pinned (OpenSpec.upto fnExpandSpec)

/-- 'laws.FnRoundKey', WHERE WHAT IT READS IS OF BULK AT MOST 1048576: true; the input reads as it did. -/
def fnRoundKeyUptoRow : OpenClaim := { program := "ytioijcgokdnofaa", sum := "8aa448e95e782da40e5493e1fa17d713c05868490526804dfcd7a907f4d54ac3", func := "loop.example/g00835/laws.FnRoundKey", spec := "fnRoundKey", unfollowed := true, recurses := true, apart := false, narrowed := true }
def FnRoundKeyUptoSaid : Prop := fnRoundKeyUptoRow.holds Try.pinned (OpenSpec.upto fnRoundKeySpec)

/-- 'laws.FnSubWord', WHERE WHAT IT READS IS OF BULK AT MOST 1048576: true; the input reads as it did. -/
def fnSubWordUptoRow : OpenClaim := { program := "ytioijcgokdnofaa", sum := "8aa448e95e782da40e5493e1fa17d713c05868490526804dfcd7a907f4d54ac3", func := "loop.example/g00835/laws.FnSubWord", spec := "fnSubWord", unfollowed := true, recurses := true, apart := false, narrowed := true }
def FnSubWordUptoSaid : Prop := fnSubWordUptoRow.holds Try.pinned (OpenSpec.upto fnSubWordSpec)

/-- 'laws.FnApart', WHERE WHAT IT READS IS OF BULK AT MOST 1048576: true; the input reads as it did. -/
def fnApartUptoRow : OpenClaim := { program := "ytioijcgokdnofaa", sum := "8aa448e95e782da40e5493e1fa17d713c05868490526804dfcd7a907f4d54ac3", func := "loop.example/g00835/laws.FnApart", spec := "fnApart", unfollowed := true, recurses := true, apart := false, narrowed := true }
def FnApartUptoSaid : Prop := fnApartUptoRow.holds Try.pinned (OpenSpec.upto fnApartSpec)

/-- 'laws.FnExactPutWord', WHERE WHAT IT READS IS OF BULK AT MOST 1048576: true; the input reads as it did. -/
def fnExactPutWordUptoRow : OpenClaim := { program := "ytioijcgokdnofaa", sum := "8aa448e95e782da40e5493e1fa17d713c05868490526804dfcd7a907f4d54ac3", func := "loop.example/g00835/laws.FnExactPutWord", spec := "fnExactPutWord", apart := false, narrowed := true }
def FnExactPutWordUptoSaid : Prop := fnExactPutWordUptoRow.holds Try.pinned (OpenSpec.upto fnExactPutWordSpec)

/-- 'laws.FnExactSubWord', WHERE WHAT IT READS IS OF BULK AT MOST 1048576: true; the input reads as it did. -/
def fnExactSubWordUptoRow : OpenClaim := { program := "ytioijcgokdnofaa", sum := "8aa448e95e782da40e5493e1fa17d713c05868490526804dfcd7a907f4d54ac3", func := "loop.example/g00835/laws.FnExactSubWord", spec := "fnExactSubWord", unfollowed := true, recurses := true, apart := false, narrowed := true }
def FnExactSubWordUptoSaid : Prop := fnExactSubWordUptoRow.holds Try.pinned (OpenSpec.upto fnExactSubWordSpec)

/-- 'laws.FnExactKeyOk', WHERE WHAT IT READS IS OF BULK AT MOST 1048576: true; the input reads as it did. -/
def fnExactKeyOkUptoRow : OpenClaim := { program := "ytioijcgokdnofaa", sum := "8aa448e95e782da40e5493e1fa17d713c05868490526804dfcd7a907f4d54ac3", func := "loop.example/g00835/laws.FnExactKeyOk", spec := "fnExactKeyOk", apart := false, narrowed := true }
def FnExactKeyOkUptoSaid : Prop := fnExactKeyOkUptoRow.holds Try.pinned (OpenSpec.upto fnExactKeyOkSpec)

/-- 'laws.FnExactRounds', WHERE WHAT IT READS IS OF BULK AT MOST 1048576: true; the input reads as it did. -/
def fnExactRoundsUptoRow : OpenClaim := { program := "ytioijcgokdnofaa", sum := "8aa448e95e782da40e5493e1fa17d713c05868490526804dfcd7a907f4d54ac3", func := "loop.example/g00835/laws.FnExactRounds", spec := "fnExactRounds", apart := false, narrowed := true }
def FnExactRoundsUptoSaid : Prop := fnExactRoundsUptoRow.holds Try.pinned (OpenSpec.upto fnExactRoundsSpec)

/-- 'laws.FnExactExpand', WHERE WHAT IT READS IS OF BULK AT MOST 1048576: true; the input reads as it did. -/
def fnExactExpandUptoRow : OpenClaim := { program := "ytioijcgokdnofaa", sum := "8aa448e95e782da40e5493e1fa17d713c05868490526804dfcd7a907f4d54ac3", func := "loop.example/g00835/laws.FnExactExpand", spec := "fnExactExpand", unfollowed := true, recurses := true, apart := false, narrowed := true }
def FnExactExpandUptoSaid : Prop := fnExactExpandUptoRow.holds Try.pinned (OpenSpec.upto fnExactExpandSpec)

/-- 'laws.FnExactRoundKey', WHERE WHAT IT READS IS OF BULK AT MOST 1048576: true; the input reads as it did. -/
def fnExactRoundKeyUptoRow : OpenClaim := { program := "ytioijcgokdnofaa", sum := "8aa448e95e782da40e5493e1fa17d713c05868490526804dfcd7a907f4d54ac3", func := "loop.example/g00835/laws.FnExactRoundKey", spec := "fnExactRoundKey", unfollowed := true, recurses := true, apart := false, narrowed := true }
def FnExactRoundKeyUptoSaid : Prop := fnExactRoundKeyUptoRow.holds Try.pinned (OpenSpec.upto fnExactRoundKeySpec)

end Rows
end Go.Proofs.Ytioijcgokdnofaa
