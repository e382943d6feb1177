/-
  No cell of these rows narrows 'for every input' (looked for: loops, veiled, ifaces, maps, wideKeys, modest, calm, conditions, laid).
  DERIVED. THE GIVEN ROWS OF THIS SEAT. 10 by the template 'for every input the law returns true; each argument reads behind the call as it read before'; 0 by the template 'total and deterministic' (their statements: YthnagcnfejgkmaaTotals.lean).
  GIVEN WITH THE SEED: the statements are not yours to turn. If you find one false, say at which input.
  Laid BY PROGRAM, IN A SANDBOX (cutbox-rows.mjs): the forced cells as the released guide's own fill.sh prints them over the translation 729d46c15aced7fb… (all of the seat's roots in one cut). By AI agents, Wed Nov 11 2026. No macro, syntax, notation, axiom, sorry.
-/
import Derived.Test.YthnagcnfejgkmaaChecked
import GoSem.Claim
import GoSem.ClaimJoined
import GoSem.ClaimMapViews
import Derived.JoinedTies
import Derived.KernelRfl
namespace Go.Proofs.Ythnagcnfejgkmaa
/- THE CELL 'sum', in the pinned program and in every row, IS THE sha256 OF THE DUMP (.gsa) THAT YthnagcnfejgkmaaProg.lean LOADS. Nothing in Lean hashes anything: it is a label: what it is worth is what the hold of that sum in a sandbox is worth. -/
noncomputable def Try.pinned : Pinned := { name := "ythnagcnfejgkmaa", sum := "729d46c15aced7fb2c0a3ab54b6a908c40561b8e34c87f3a91eb9b1f72cd6e95", checked := Try.checked }
namespace Rows
def none {H : Type} : Left H := { results := [], args := [] }

/-- 'laws.FnAffine': WHATEVER THE INPUT: true; the input reads as it did. -/
def fnAffineSpec : ChangeSpec := { name := "fnAffine", fn := fun _ => fun
  | [d] => { results := [.lit (.bool true)], args := [d] }
  | _ => none }
def fnAffineRow : OpenClaim := { program := "ythnagcnfejgkmaa", sum := "729d46c15aced7fb2c0a3ab54b6a908c40561b8e34c87f3a91eb9b1f72cd6e95", func := "loop.example/g00835/laws.FnAffine", spec := "fnAffine", apart := false }
def FnAffineSaid : Prop := fnAffineRow.holds Try.pinned (OpenSpec.ofChange fnAffineSpec)

/-- ITS FALSE NEIGHBOUR: 'it returns false'. Refute it at one input. -/
def fnAffineWrong : ChangeSpec := { name := "fnAffine", fn := fun _ => fun
  | [d] => { results := [.lit (.bool false)], args := [d] }
  | _ => none }
def FnAffineWrongFalsely : Prop := fnAffineRow.holds Try.pinned (OpenSpec.ofChange fnAffineWrong)

/-- 'laws.FnSub': WHATEVER THE INPUT: true; the input reads as it did. -/
def fnSubSpec : ChangeSpec := { name := "fnSub", fn := fun _ => fun
  | [d] => { results := [.lit (.bool true)], args := [d] }
  | _ => none }
def fnSubRow : OpenClaim := { program := "ythnagcnfejgkmaa", sum := "729d46c15aced7fb2c0a3ab54b6a908c40561b8e34c87f3a91eb9b1f72cd6e95", func := "loop.example/g00835/laws.FnSub", spec := "fnSub", unfollowed := true, recurses := true, apart := false }
def FnSubSaid : Prop := fnSubRow.holds Try.pinned (OpenSpec.ofChange fnSubSpec)

/-- ITS FALSE NEIGHBOUR: 'it returns false'. Refute it at one input. -/
def fnSubWrong : ChangeSpec := { name := "fnSub", fn := fun _ => fun
  | [d] => { results := [.lit (.bool false)], args := [d] }
  | _ => none }
def FnSubWrongFalsely : Prop := fnSubRow.holds Try.pinned (OpenSpec.ofChange fnSubWrong)

/-- 'laws.FnSubText': WHATEVER THE INPUT: true; the input reads as it did. -/
def fnSubTextSpec : ChangeSpec := { name := "fnSubText", fn := fun _ => fun
  | [d] => { results := [.lit (.bool true)], args := [d] }
  | _ => none }
def fnSubTextRow : OpenClaim := { program := "ythnagcnfejgkmaa", sum := "729d46c15aced7fb2c0a3ab54b6a908c40561b8e34c87f3a91eb9b1f72cd6e95", func := "loop.example/g00835/laws.FnSubText", spec := "fnSubText", unfollowed := true, recurses := true, apart := false }
def FnSubTextSaid : Prop := fnSubTextRow.holds Try.pinned (OpenSpec.ofChange fnSubTextSpec)

/-- ITS FALSE NEIGHBOUR: 'it returns false'. Refute it at one input. -/
def fnSubTextWrong : ChangeSpec := { name := "fnSubText", fn := fun _ => fun
  | [d] => { results := [.lit (.bool false)], args := [d] }
  | _ => none }
def FnSubTextWrongFalsely : Prop := fnSubTextRow.holds Try.pinned (OpenSpec.ofChange fnSubTextWrong)

/-- 'laws.FnBox': WHATEVER THE INPUT: true; the input reads as it did. -/
def fnBoxSpec : ChangeSpec := { name := "fnBox", fn := fun _ => fun
  | [d] => { results := [.lit (.bool true)], args := [d] }
  | _ => none }
def fnBoxRow : OpenClaim := { program := "ythnagcnfejgkmaa", sum := "729d46c15aced7fb2c0a3ab54b6a908c40561b8e34c87f3a91eb9b1f72cd6e95", func := "loop.example/g00835/laws.FnBox", spec := "fnBox", unfollowed := true, recurses := true, apart := false }
def FnBoxSaid : Prop := fnBoxRow.holds Try.pinned (OpenSpec.ofChange fnBoxSpec)

/-- ITS FALSE NEIGHBOUR: 'it returns false'. Refute it at one input. -/
def fnBoxWrong : ChangeSpec := { name := "fnBox", fn := fun _ => fun
  | [d] => { results := [.lit (.bool false)], args := [d] }
  | _ => none }
def FnBoxWrongFalsely : Prop := fnBoxRow.holds Try.pinned (OpenSpec.ofChange fnBoxWrong)

/-- 'laws.FnExactAffine': WHATEVER THE INPUT: true; the input reads as it did. -/
def fnExactAffineSpec : ChangeSpec := { name := "fnExactAffine", fn := fun _ => fun
  | [d] => { results := [.lit (.bool true)], args := [d] }
  | _ => none }
def fnExactAffineRow : OpenClaim := { program := "ythnagcnfejgkmaa", sum := "729d46c15aced7fb2c0a3ab54b6a908c40561b8e34c87f3a91eb9b1f72cd6e95", func := "loop.example/g00835/laws.FnExactAffine", spec := "fnExactAffine", apart := false }
def FnExactAffineSaid : Prop := fnExactAffineRow.holds Try.pinned (OpenSpec.ofChange fnExactAffineSpec)

/-- ITS FALSE NEIGHBOUR: 'it returns false'. Refute it at one input. -/
def fnExactAffineWrong : ChangeSpec := { name := "fnExactAffine", fn := fun _ => fun
  | [d] => { results := [.lit (.bool false)], args := [d] }
  | _ => none }
def FnExactAffineWrongFalsely : Prop := fnExactAffineRow.holds Try.pinned (OpenSpec.ofChange fnExactAffineWrong)

/-- 'laws.FnExactUnaffine': WHATEVER THE INPUT: true; the input reads as it did. -/
def fnExactUnaffineSpec : ChangeSpec := { name := "fnExactUnaffine", fn := fun _ => fun
  | [d] => { results := [.lit (.bool true)], args := [d] }
  | _ => none }
def fnExactUnaffineRow : OpenClaim := { program := "ythnagcnfejgkmaa", sum := "729d46c15aced7fb2c0a3ab54b6a908c40561b8e34c87f3a91eb9b1f72cd6e95", func := "loop.example/g00835/laws.FnExactUnaffine", spec := "fnExactUnaffine", apart := false }
def FnExactUnaffineSaid : Prop := fnExactUnaffineRow.holds Try.pinned (OpenSpec.ofChange fnExactUnaffineSpec)

/-- ITS FALSE NEIGHBOUR: 'it returns false'. Refute it at one input. -/
def fnExactUnaffineWrong : ChangeSpec := { name := "fnExactUnaffine", fn := fun _ => fun
  | [d] => { results := [.lit (.bool false)], args := [d] }
  | _ => none }
def FnExactUnaffineWrongFalsely : Prop := fnExactUnaffineRow.holds Try.pinned (OpenSpec.ofChange fnExactUnaffineWrong)

/-- 'laws.FnExactSub': WHATEVER THE INPUT: true; the input reads as it did. -/
def fnExactSubSpec : ChangeSpec := { name := "fnExactSub", fn := fun _ => fun
  | [d] => { results := [.lit (.bool true)], args := [d] }
  | _ => none }
def fnExactSubRow : OpenClaim := { program := "ythnagcnfejgkmaa", sum := "729d46c15aced7fb2c0a3ab54b6a908c40561b8e34c87f3a91eb9b1f72cd6e95", func := "loop.example/g00835/laws.FnExactSub", spec := "fnExactSub", unfollowed := true, recurses := true, apart := false }
def FnExactSubSaid : Prop := fnExactSubRow.holds Try.pinned (OpenSpec.ofChange fnExactSubSpec)

/-- ITS FALSE NEIGHBOUR: 'it returns false'. Refute it at one input. -/
def fnExactSubWrong : ChangeSpec := { name := "fnExactSub", fn := fun _ => fun
  | [d] => { results := [.lit (.bool false)], args := [d] }
  | _ => none }
def FnExactSubWrongFalsely : Prop := fnExactSubRow.holds Try.pinned (OpenSpec.ofChange fnExactSubWrong)

/-- 'laws.FnExactUnsub': WHATEVER THE INPUT: true; the input reads as it did. -/
def fnExactUnsubSpec : ChangeSpec := { name := "fnExactUnsub", fn := fun _ => fun
  | [d] => { results := [.lit (.bool true)], args := [d] }
  | _ => none }
def fnExactUnsubRow : OpenClaim := { program := "ythnagcnfejgkmaa", sum := "729d46c15aced7fb2c0a3ab54b6a908c40561b8e34c87f3a91eb9b1f72cd6e95", func := "loop.example/g00835/laws.FnExactUnsub", spec := "fnExactUnsub", unfollowed := true, recurses := true, apart := false }
def FnExactUnsubSaid : Prop := fnExactUnsubRow.holds Try.pinned (OpenSpec.ofChange fnExactUnsubSpec)

/-- ITS FALSE NEIGHBOUR: 'it returns false'. Refute it at one input. -/
def fnExactUnsubWrong : ChangeSpec := { name := "fnExactUnsub", fn := fun _ => fun
  | [d] => { results := [.lit (.bool false)], args := [d] }
  | _ => none }
def FnExactUnsubWrongFalsely : Prop := fnExactUnsubRow.holds Try.pinned (OpenSpec.ofChange fnExactUnsubWrong)

/-- 'laws.FnExactSubText': WHATEVER THE INPUT: true; the input reads as it did. -/
def fnExactSubTextSpec : ChangeSpec := { name := "fnExactSubText", fn := fun _ => fun
  | [d] => { results := [.lit (.bool true)], args := [d] }
  | _ => none }
def fnExactSubTextRow : OpenClaim := { program := "ythnagcnfejgkmaa", sum := "729d46c15aced7fb2c0a3ab54b6a908c40561b8e34c87f3a91eb9b1f72cd6e95", func := "loop.example/g00835/laws.FnExactSubText", spec := "fnExactSubText", unfollowed := true, recurses := true, apart := false }
def FnExactSubTextSaid : Prop := fnExactSubTextRow.holds Try.pinned (OpenSpec.ofChange fnExactSubTextSpec)

/-- ITS FALSE NEIGHBOUR: 'it returns false'. Refute it at one input. -/
def fnExactSubTextWrong : ChangeSpec := { name := "fnExactSubText", fn := fun _ => fun
  | [d] => { results := [.lit (.bool false)], args := [d] }
  | _ => none }
def FnExactSubTextWrongFalsely : Prop := fnExactSubTextRow.holds Try.pinned (OpenSpec.ofChange fnExactSubTextWrong)

/-- 'laws.FnExactUnsubText': WHATEVER THE INPUT: true; the input reads as it did. -/
def fnExactUnsubTextSpec : ChangeSpec := { name := "fnExactUnsubText", fn := fun _ => fun
  | [d] => { results := [.lit (.bool true)], args := [d] }
  | _ => none }
def fnExactUnsubTextRow : OpenClaim := { program := "ythnagcnfejgkmaa", sum := "729d46c15aced7fb2c0a3ab54b6a908c40561b8e34c87f3a91eb9b1f72cd6e95", func := "loop.example/g00835/laws.FnExactUnsubText", spec := "fnExactUnsubText", unfollowed := true, recurses := true, apart := false }
def FnExactUnsubTextSaid : Prop := fnExactUnsubTextRow.holds Try.pinned (OpenSpec.ofChange fnExactUnsubTextSpec)

/-- ITS FALSE NEIGHBOUR: 'it returns false'. Refute it at one input. -/
def fnExactUnsubTextWrong : ChangeSpec := { name := "fnExactUnsubText", fn := fun _ => fun
  | [d] => { results := [.lit (.bool false)], args := [d] }
  | _ => none }
def FnExactUnsubTextWrongFalsely : Prop := fnExactUnsubTextRow.holds Try.pinned (OpenSpec.ofChange fnExactUnsubTextWrong)

/- THE SECOND FORM. 'bulk': how many values and letters a reading holds, each counted each time it is reached (what is shared counts as often as it is met; a slice's spare places count too). A statement '..UptoSaid' is the law's where the arguments, and the package variables that the reading takes, are together of bulk at most 1048576: NARROWER than '..Said'. Prove '..Said' where nothing that the law and all that it calls make is longer than what came in: it says more and counts as full. Else prove '..UptoSaid'. A law counts once. -/
mutual
def uptoBulk {H : Type} : DataW H → Nat
  | .lit (.string bytes) => bytes.length + 1
  | .lit _ => 1
  | .nil => 1
  | .ptr d => uptoBulk d + 1
  | .slice elems spare => uptoBulkAll elems + uptoBulkAll spare + 1
  | .agg parts => uptoBulkAll parts + 1
  | .iface _ d => uptoBulk d + 1
  | .map entries => uptoBulkEntries entries + 1
  | .held _ => 1
def uptoBulkAll {H : Type} : List (DataW H) → Nat
  | [] => 0
  | d :: r => uptoBulk d + uptoBulkAll r
def uptoBulkEntries {H : Type} : List (Lit × DataW H) → Nat
  | [] => 0
  | x :: r => uptoBulkEntry x + uptoBulkEntries r
def uptoBulkEntry {H : Type} : Lit × DataW H → Nat
  | (.string bytes, d) => bytes.length + uptoBulk d + 1
  | (_, d) => uptoBulk d + 1
 end
def uptoSmall : (H : Type) → List (DataW H) → Bool := fun _ ds => decide (uptoBulkAll ds ≤ 1048576)
def OpenSpec.upto (s : _root_.Go.ChangeSpec) : _root_.Go.OpenSpec := { _root_.Go.OpenSpec.ofChange s with cond := some uptoSmall }

/-- 'laws.FnAffine', WHERE WHAT IT READS IS OF BULK AT MOST 1048576: true; the input reads as it did. -/
def fnAffineUptoRow : OpenClaim := { program := "ythnagcnfejgkmaa", sum := "729d46c15aced7fb2c0a3ab54b6a908c40561b8e34c87f3a91eb9b1f72cd6e95", func := "loop.example/g00835/laws.FnAffine", spec := "fnAffine", apart := false, narrowed := true }
def FnAffineUptoSaid : Prop := fnAffineUptoRow.holds Try.pinned (OpenSpec.upto fnAffineSpec)

/-- 'laws.FnSub', WHERE WHAT IT READS IS OF BULK AT MOST 1048576: true; the input reads as it did. -/
def fnSubUptoRow : OpenClaim := { program := "ythnagcnfejgkmaa", sum := "729d46c15aced7fb2c0a3ab54b6a908c40561b8e34c87f3a91eb9b1f72cd6e95", func := "loop.example/g00835/laws.FnSub", spec := "fnSub", unfollowed := true, recurses := true, apart := false, narrowed := true }
def FnSubUptoSaid : Prop := fnSubUptoRow.holds Try.pinned (OpenSpec.upto fnSubSpec)

/-- 'laws.FnSubText', WHERE WHAT IT READS IS OF BULK AT MOST 1048576: true; the input reads as it did. -/
def fnSubTextUptoRow : OpenClaim := { program := "ythnagcnfejgkmaa", sum := "729d46c15aced7fb2c0a3ab54b6a908c40561b8e34c87f3a91eb9b1f72cd6e95", func := "loop.example/g00835/laws.FnSubText", spec := "fnSubText", unfollowed := true, recurses := true, apart := false, narrowed := true }
def FnSubTextUptoSaid : Prop := fnSubTextUptoRow.holds Try.pinned (OpenSpec.upto fnSubTextSpec)

/-- 'laws.FnBox', WHERE WHAT IT READS IS OF BULK AT MOST 1048576: true; the input reads as it did. -/
def fnBoxUptoRow : OpenClaim := { program := "ythnagcnfejgkmaa", sum := "729d46c15aced7fb2c0a3ab54b6a908c40561b8e34c87f3a91eb9b1f72cd6e95", func := "loop.example/g00835/laws.FnBox", spec := "fnBox", unfollowed := true, recurses := true, apart := false, narrowed := true }
def FnBoxUptoSaid : Prop := fnBoxUptoRow.holds Try.pinned (OpenSpec.upto fnBoxSpec)

/-- 'laws.FnExactAffine', WHERE WHAT IT READS IS OF BULK AT MOST 1048576: true; the input reads as it did. -/
def fnExactAffineUptoRow : OpenClaim := { program := "ythnagcnfejgkmaa", sum := "729d46c15aced7fb2c0a3ab54b6a908c40561b8e34c87f3a91eb9b1f72cd6e95", func := "loop.example/g00835/laws.FnExactAffine", spec := "fnExactAffine", apart := false, narrowed := true }
def FnExactAffineUptoSaid : Prop := fnExactAffineUptoRow.holds Try.pinned (OpenSpec.upto fnExactAffineSpec)

/-- 'laws.FnExactUnaffine', WHERE WHAT IT READS IS OF BULK AT MOST 1048576: true; the input reads as it did. -/
def fnExactUnaffineUptoRow : OpenClaim := { program := "ythnagcnfejgkmaa", sum := "729d46c15aced7fb2c0a3ab54b6a908c40561b8e34c87f3a91eb9b1f72cd6e95", func := "loop.example/g00835/laws.FnExactUnaffine", spec := "fnExactUnaffine", apart := false, narrowed := true }
def FnExactUnaffineUptoSaid : Prop := fnExactUnaffineUptoRow.holds Try.pinned (OpenSpec.upto fnExactUnaffineSpec)

/-- 'laws.FnExactSub', WHERE WHAT IT READS IS OF BULK AT MOST 1048576: true; the input reads as it did. -/
def fnExactSubUptoRow : OpenClaim := { program := "ythnagcnfejgkmaa", sum := "729d46c15aced7fb2c0a3ab54b6a908c40561b8e34c87f3a91eb9b1f72cd6e95", func := "loop.example/g00835/laws.FnExactSub", spec := "fnExactSub", unfollowed := true, recurses := true, apart := false, narrowed := true }
def FnExactSubUptoSaid : Prop := fnExactSubUptoRow.holds Try.pinned (OpenSpec.upto fnExactSubSpec)

/-- 'laws.FnExactUnsub', WHERE WHAT IT READS IS OF BULK AT MOST 1048576: true; the input reads as it did. -/
def fnExactUnsubUptoRow : OpenClaim := { program := "ythnagcnfejgkmaa", sum := "729d46c15aced7fb2c0a3ab54b6a908c40561b8e34c87f3a91eb9b1f72cd6e95", func := "loop.example/g00835/laws.FnExactUnsub", spec := "fnExactUnsub", unfollowed := true, recurses := true, apart := false, narrowed := true }
def FnExactUnsubUptoSaid : Prop := fnExactUnsubUptoRow.holds Try.pinned (OpenSpec.upto fnExactUnsubSpec)

/-- 'laws.FnExactSubText', WHERE WHAT IT READS IS OF BULK AT MOST 1048576: true; the input reads as it did. -/
def fnExactSubTextUptoRow : OpenClaim := { program := "ythnagcnfejgkmaa", sum := "729d46c15aced7fb2c0a3ab54b6a908c40561b8e34c87f3a91eb9b1f72cd6e95", func := "loop.example/g00835/laws.FnExactSubText", spec := "fnExactSubText", unfollowed := true, recurses := true, apart := false, narrowed := true }
def FnExactSubTextUptoSaid : Prop := fnExactSubTextUptoRow.holds Try.pinned (OpenSpec.upto fnExactSubTextSpec)

/-- 'laws.FnExactUnsubText', WHERE WHAT IT READS IS OF BULK AT MOST 1048576: true; the input reads as it did. -/
def fnExactUnsubTextUptoRow : OpenClaim := { program := "ythnagcnfejgkmaa", sum := "729d46c15aced7fb2c0a3ab54b6a908c40561b8e34c87f3a91eb9b1f72cd6e95", func := "loop.example/g00835/laws.FnExactUnsubText", spec := "fnExactUnsubText", unfollowed := true, recurses := true, apart := false, narrowed := true }
def FnExactUnsubTextUptoSaid : Prop := fnExactUnsubTextUptoRow.holds Try.pinned (OpenSpec.upto fnExactUnsubTextSpec)

end Rows
end Go.Proofs.Ythnagcnfejgkmaa
