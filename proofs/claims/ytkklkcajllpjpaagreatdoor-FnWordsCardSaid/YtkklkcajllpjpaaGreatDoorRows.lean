/-
  NARROWER THAN 'FOR EVERY INPUT', by the rows' own cells (each row's printed sentence says how): FnWords: laid · FnSliced: laid · FnBlocks: laid · FnAlone: laid · FnExactLockSliced: laid · FnExactUnlockSliced: laid · FnExactLockBlocks: laid · FnExactUnlockBlocks: laid.
  DERIVED. THE GIVEN ROWS OF THIS SEAT. 8 by the template 'for every input the law returns true; each argument reads behind the call as it read before'; 0 by the template 'total and deterministic' (their statements: YtkklkcajllpjpaaGreatDoorTotals.lean).
  GIVEN WITH THE SEED: the statements are not yours to turn. If you find one false, say at which input.
  Laid BY PROGRAM, IN A SANDBOX (cutbox-rows.mjs): the forced cells as the released guide's own fill.sh prints them over the translation 956eded2a5e8a0e6… (all of the seat's roots in one cut). By AI agents, Wed Nov 11 2026. No macro, syntax, notation, axiom, sorry.
-/
import Derived.Test.YtkklkcajllpjpaaGreatDoorChecked
import GoSem.Claim
import GoSem.ClaimJoined
import GoSem.ClaimMapViews
import Derived.JoinedTies
import Derived.KernelRfl
namespace Go.Proofs.YtkklkcajllpjpaaGreatDoor
/- THE CELL 'sum', in the pinned program and in every row, IS THE sha256 OF THE DUMP (.gsa) THAT YtkklkcajllpjpaaGreatDoorProg.lean LOADS. Nothing in Lean hashes anything: it is a label: what it is worth is what the hold of that sum in a sandbox is worth. -/
noncomputable def Tryz.pinned : Pinned := { name := "ytkklkcajllpjpaagreatdoor", sum := "956eded2a5e8a0e664e5085c976db5a4f66729e195d6a458956ebae110ee35e0", checked := Tryz.checked }
namespace Rows
def none {H : Type} : Left H := { results := [], args := [] }

/- WHAT THE LISTED PACKAGE-LEVEL VARIABLES READ AS WHEN THE CALL BEGINS. Each datum BY PROGRAM (the guide's laid-datum.mjs) off the statement by which the dump's own 'gosem.cut.vars' lays the variable. In a bare row this is a premise. The card (YtkklkcajllpjpaaGreatDoorCards.lean) ties it to the program's text. -/
def laid_loop_example_g00835_impl_unmixFactors {H : Type} : DataW H := .agg [.lit (.int .u8 14), .lit (.int .u8 9), .lit (.int .u8 13), .lit (.int .u8 11)]
def laid_loop_example_g00835_impl_mixFactors {H : Type} : DataW H := .agg [.lit (.int .u8 2), .lit (.int .u8 1), .lit (.int .u8 1), .lit (.int .u8 3)]

/-- 'laws.FnWords': WHATEVER THE INPUT: true; the input reads as it did. -/
def fnWordsSpec : ChangeSpec := { name := "fnWords", vars := ["loop.example/g00835/impl.mixFactors", "loop.example/g00835/impl.unmixFactors"], fn := fun _ => fun
  | [d, g1, g2] => { results := [.lit (.bool true)], args := [d], vars := [g1, g2] }
  | _ => none }
def fnWordsRow : OpenClaim := { program := "ytkklkcajllpjpaagreatdoor", sum := "956eded2a5e8a0e664e5085c976db5a4f66729e195d6a458956ebae110ee35e0", func := "loop.example/g00835/laws.FnWords", spec := "fnWords", unfollowed := true, recurses := true, named := ["loop.example/g00835/impl.mixFactors", "loop.example/g00835/impl.unmixFactors"], apart := false, laid := [("loop.example/g00835/impl.unmixFactors", laid_loop_example_g00835_impl_unmixFactors), ("loop.example/g00835/impl.mixFactors", laid_loop_example_g00835_impl_mixFactors)] }
def FnWordsSaid : Prop := fnWordsRow.holds Tryz.pinned (OpenSpec.ofChange fnWordsSpec)

/-- ITS FALSE NEIGHBOUR: 'it returns false'. Refute it at one input. -/
def fnWordsWrong : ChangeSpec := { name := "fnWords", vars := ["loop.example/g00835/impl.mixFactors", "loop.example/g00835/impl.unmixFactors"], fn := fun _ => fun
  | [d, g1, g2] => { results := [.lit (.bool false)], args := [d], vars := [g1, g2] }
  | _ => none }
def FnWordsWrongFalsely : Prop := fnWordsRow.holds Tryz.pinned (OpenSpec.ofChange fnWordsWrong)

/-- 'laws.FnSliced': WHATEVER THE INPUT: true; the input reads as it did. -/
def fnSlicedSpec : ChangeSpec := { name := "fnSliced", vars := ["loop.example/g00835/impl.mixFactors", "loop.example/g00835/impl.unmixFactors"], fn := fun _ => fun
  | [d, g1, g2] => { results := [.lit (.bool true)], args := [d], vars := [g1, g2] }
  | _ => none }
def fnSlicedRow : OpenClaim := { program := "ytkklkcajllpjpaagreatdoor", sum := "956eded2a5e8a0e664e5085c976db5a4f66729e195d6a458956ebae110ee35e0", func := "loop.example/g00835/laws.FnSliced", spec := "fnSliced", inPlace := ["internal/abi.NoEscape", "internal/bytealg.MakeNoZero"], unfollowed := true, recurses := true, named := ["loop.example/g00835/impl.mixFactors", "loop.example/g00835/impl.unmixFactors"], apart := false, laid := [("loop.example/g00835/impl.unmixFactors", laid_loop_example_g00835_impl_unmixFactors), ("loop.example/g00835/impl.mixFactors", laid_loop_example_g00835_impl_mixFactors)] }
def FnSlicedSaid : Prop := fnSlicedRow.holds Tryz.pinned (OpenSpec.ofChange fnSlicedSpec)

/-- ITS FALSE NEIGHBOUR: 'it returns false'. Refute it at one input. -/
def fnSlicedWrong : ChangeSpec := { name := "fnSliced", vars := ["loop.example/g00835/impl.mixFactors", "loop.example/g00835/impl.unmixFactors"], fn := fun _ => fun
  | [d, g1, g2] => { results := [.lit (.bool false)], args := [d], vars := [g1, g2] }
  | _ => none }
def FnSlicedWrongFalsely : Prop := fnSlicedRow.holds Tryz.pinned (OpenSpec.ofChange fnSlicedWrong)

/-- 'laws.FnBlocks': WHATEVER THE INPUT: true; the input reads as it did. -/
def fnBlocksSpec : ChangeSpec := { name := "fnBlocks", vars := ["loop.example/g00835/impl.mixFactors", "loop.example/g00835/impl.unmixFactors"], fn := fun _ => fun
  | [d, g1, g2] => { results := [.lit (.bool true)], args := [d], vars := [g1, g2] }
  | _ => none }
def fnBlocksRow : OpenClaim := { program := "ytkklkcajllpjpaagreatdoor", sum := "956eded2a5e8a0e664e5085c976db5a4f66729e195d6a458956ebae110ee35e0", func := "loop.example/g00835/laws.FnBlocks", spec := "fnBlocks", inPlace := ["internal/abi.NoEscape", "internal/bytealg.MakeNoZero"], unfollowed := true, recurses := true, named := ["loop.example/g00835/impl.mixFactors", "loop.example/g00835/impl.unmixFactors"], apart := false, laid := [("loop.example/g00835/impl.unmixFactors", laid_loop_example_g00835_impl_unmixFactors), ("loop.example/g00835/impl.mixFactors", laid_loop_example_g00835_impl_mixFactors)] }
def FnBlocksSaid : Prop := fnBlocksRow.holds Tryz.pinned (OpenSpec.ofChange fnBlocksSpec)

/-- ITS FALSE NEIGHBOUR: 'it returns false'. Refute it at one input. -/
def fnBlocksWrong : ChangeSpec := { name := "fnBlocks", vars := ["loop.example/g00835/impl.mixFactors", "loop.example/g00835/impl.unmixFactors"], fn := fun _ => fun
  | [d, g1, g2] => { results := [.lit (.bool false)], args := [d], vars := [g1, g2] }
  | _ => none }
def FnBlocksWrongFalsely : Prop := fnBlocksRow.holds Tryz.pinned (OpenSpec.ofChange fnBlocksWrong)

/-- 'laws.FnAlone': WHATEVER THE INPUT: true; the input reads as it did. -/
def fnAloneSpec : ChangeSpec := { name := "fnAlone", vars := ["loop.example/g00835/impl.mixFactors", "loop.example/g00835/impl.unmixFactors"], fn := fun _ => fun
  | [d, g1, g2] => { results := [.lit (.bool true)], args := [d], vars := [g1, g2] }
  | _ => none }
def fnAloneRow : OpenClaim := { program := "ytkklkcajllpjpaagreatdoor", sum := "956eded2a5e8a0e664e5085c976db5a4f66729e195d6a458956ebae110ee35e0", func := "loop.example/g00835/laws.FnAlone", spec := "fnAlone", inPlace := ["internal/abi.NoEscape", "internal/bytealg.MakeNoZero"], unfollowed := true, recurses := true, named := ["loop.example/g00835/impl.mixFactors", "loop.example/g00835/impl.unmixFactors"], apart := false, laid := [("loop.example/g00835/impl.unmixFactors", laid_loop_example_g00835_impl_unmixFactors), ("loop.example/g00835/impl.mixFactors", laid_loop_example_g00835_impl_mixFactors)] }
def FnAloneSaid : Prop := fnAloneRow.holds Tryz.pinned (OpenSpec.ofChange fnAloneSpec)

/-- ITS FALSE NEIGHBOUR: 'it returns false'. Refute it at one input. -/
def fnAloneWrong : ChangeSpec := { name := "fnAlone", vars := ["loop.example/g00835/impl.mixFactors", "loop.example/g00835/impl.unmixFactors"], fn := fun _ => fun
  | [d, g1, g2] => { results := [.lit (.bool false)], args := [d], vars := [g1, g2] }
  | _ => none }
def FnAloneWrongFalsely : Prop := fnAloneRow.holds Tryz.pinned (OpenSpec.ofChange fnAloneWrong)

/-- 'laws.FnExactLockSliced': WHATEVER THE INPUT: true; the input reads as it did. -/
def fnExactLockSlicedSpec : ChangeSpec := { name := "fnExactLockSliced", vars := ["loop.example/g00835/impl.mixFactors"], fn := fun _ => fun
  | [d1, d2, g1] => { results := [.lit (.bool true)], args := [d1, d2], vars := [g1] }
  | _ => none }
def fnExactLockSlicedRow : OpenClaim := { program := "ytkklkcajllpjpaagreatdoor", sum := "956eded2a5e8a0e664e5085c976db5a4f66729e195d6a458956ebae110ee35e0", func := "loop.example/g00835/laws.FnExactLockSliced", spec := "fnExactLockSliced", inPlace := ["internal/abi.NoEscape", "internal/bytealg.MakeNoZero"], unfollowed := true, recurses := true, named := ["loop.example/g00835/impl.mixFactors"], apart := false, laid := [("loop.example/g00835/impl.mixFactors", laid_loop_example_g00835_impl_mixFactors)] }
def FnExactLockSlicedSaid : Prop := fnExactLockSlicedRow.holds Tryz.pinned (OpenSpec.ofChange fnExactLockSlicedSpec)

/-- ITS FALSE NEIGHBOUR: 'it returns false'. Refute it at one input. -/
def fnExactLockSlicedWrong : ChangeSpec := { name := "fnExactLockSliced", vars := ["loop.example/g00835/impl.mixFactors"], fn := fun _ => fun
  | [d1, d2, g1] => { results := [.lit (.bool false)], args := [d1, d2], vars := [g1] }
  | _ => none }
def FnExactLockSlicedWrongFalsely : Prop := fnExactLockSlicedRow.holds Tryz.pinned (OpenSpec.ofChange fnExactLockSlicedWrong)

/-- 'laws.FnExactUnlockSliced': WHATEVER THE INPUT: true; the input reads as it did. -/
def fnExactUnlockSlicedSpec : ChangeSpec := { name := "fnExactUnlockSliced", vars := ["loop.example/g00835/impl.mixFactors", "loop.example/g00835/impl.unmixFactors"], fn := fun _ => fun
  | [d1, d2, g1, g2] => { results := [.lit (.bool true)], args := [d1, d2], vars := [g1, g2] }
  | _ => none }
def fnExactUnlockSlicedRow : OpenClaim := { program := "ytkklkcajllpjpaagreatdoor", sum := "956eded2a5e8a0e664e5085c976db5a4f66729e195d6a458956ebae110ee35e0", func := "loop.example/g00835/laws.FnExactUnlockSliced", spec := "fnExactUnlockSliced", inPlace := ["internal/abi.NoEscape", "internal/bytealg.MakeNoZero"], unfollowed := true, recurses := true, named := ["loop.example/g00835/impl.mixFactors", "loop.example/g00835/impl.unmixFactors"], apart := false, laid := [("loop.example/g00835/impl.unmixFactors", laid_loop_example_g00835_impl_unmixFactors), ("loop.example/g00835/impl.mixFactors", laid_loop_example_g00835_impl_mixFactors)] }
def FnExactUnlockSlicedSaid : Prop := fnExactUnlockSlicedRow.holds Tryz.pinned (OpenSpec.ofChange fnExactUnlockSlicedSpec)

/-- ITS FALSE NEIGHBOUR: 'it returns false'. Refute it at one input. -/
def fnExactUnlockSlicedWrong : ChangeSpec := { name := "fnExactUnlockSliced", vars := ["loop.example/g00835/impl.mixFactors", "loop.example/g00835/impl.unmixFactors"], fn := fun _ => fun
  | [d1, d2, g1, g2] => { results := [.lit (.bool false)], args := [d1, d2], vars := [g1, g2] }
  | _ => none }
def FnExactUnlockSlicedWrongFalsely : Prop := fnExactUnlockSlicedRow.holds Tryz.pinned (OpenSpec.ofChange fnExactUnlockSlicedWrong)

/-- 'laws.FnExactLockBlocks': WHATEVER THE INPUT: true; the input reads as it did. -/
def fnExactLockBlocksSpec : ChangeSpec := { name := "fnExactLockBlocks", vars := ["loop.example/g00835/impl.mixFactors"], fn := fun _ => fun
  | [d1, d2, d3, g1] => { results := [.lit (.bool true)], args := [d1, d2, d3], vars := [g1] }
  | _ => none }
def fnExactLockBlocksRow : OpenClaim := { program := "ytkklkcajllpjpaagreatdoor", sum := "956eded2a5e8a0e664e5085c976db5a4f66729e195d6a458956ebae110ee35e0", func := "loop.example/g00835/laws.FnExactLockBlocks", spec := "fnExactLockBlocks", inPlace := ["internal/abi.NoEscape", "internal/bytealg.MakeNoZero"], unfollowed := true, recurses := true, named := ["loop.example/g00835/impl.mixFactors"], apart := false, laid := [("loop.example/g00835/impl.mixFactors", laid_loop_example_g00835_impl_mixFactors)] }
def FnExactLockBlocksSaid : Prop := fnExactLockBlocksRow.holds Tryz.pinned (OpenSpec.ofChange fnExactLockBlocksSpec)

/-- ITS FALSE NEIGHBOUR: 'it returns false'. Refute it at one input. -/
def fnExactLockBlocksWrong : ChangeSpec := { name := "fnExactLockBlocks", vars := ["loop.example/g00835/impl.mixFactors"], fn := fun _ => fun
  | [d1, d2, d3, g1] => { results := [.lit (.bool false)], args := [d1, d2, d3], vars := [g1] }
  | _ => none }
def FnExactLockBlocksWrongFalsely : Prop := fnExactLockBlocksRow.holds Tryz.pinned (OpenSpec.ofChange fnExactLockBlocksWrong)

/-- 'laws.FnExactUnlockBlocks': WHATEVER THE INPUT: true; the input reads as it did. -/
def fnExactUnlockBlocksSpec : ChangeSpec := { name := "fnExactUnlockBlocks", vars := ["loop.example/g00835/impl.mixFactors", "loop.example/g00835/impl.unmixFactors"], fn := fun _ => fun
  | [d1, d2, d3, g1, g2] => { results := [.lit (.bool true)], args := [d1, d2, d3], vars := [g1, g2] }
  | _ => none }
def fnExactUnlockBlocksRow : OpenClaim := { program := "ytkklkcajllpjpaagreatdoor", sum := "956eded2a5e8a0e664e5085c976db5a4f66729e195d6a458956ebae110ee35e0", func := "loop.example/g00835/laws.FnExactUnlockBlocks", spec := "fnExactUnlockBlocks", inPlace := ["internal/abi.NoEscape", "internal/bytealg.MakeNoZero"], unfollowed := true, recurses := true, named := ["loop.example/g00835/impl.mixFactors", "loop.example/g00835/impl.unmixFactors"], apart := false, laid := [("loop.example/g00835/impl.unmixFactors", laid_loop_example_g00835_impl_unmixFactors), ("loop.example/g00835/impl.mixFactors", laid_loop_example_g00835_impl_mixFactors)] }
def FnExactUnlockBlocksSaid : Prop := fnExactUnlockBlocksRow.holds Tryz.pinned (OpenSpec.ofChange fnExactUnlockBlocksSpec)

/-- ITS FALSE NEIGHBOUR: 'it returns false'. Refute it at one input. -/
def fnExactUnlockBlocksWrong : ChangeSpec := { name := "fnExactUnlockBlocks", vars := ["loop.example/g00835/impl.mixFactors", "loop.example/g00835/impl.unmixFactors"], fn := fun _ => fun
  | [d1, d2, d3, g1, g2] => { results := [.lit (.bool false)], args := [d1, d2, d3], vars := [g1, g2] }
  | _ => none }
def FnExactUnlockBlocksWrongFalsely : Prop := fnExactUnlockBlocksRow.holds Tryz.pinned (OpenSpec.ofChange fnExactUnlockBlocksWrong)

/- THE SECOND FORM. 'bulk': how many values and letters a reading holds, each counted each time it is reached (what is shared counts as often as it is met; a slice's spare places count too). A statement '..UptoSaid' is the law's where the arguments, and the package variables that the reading takes, are together of bulk at most 1048576: NARROWER than '..Said'. Prove '..Said' where nothing that the law and all that it calls make is longer than what came in: it says more and counts as full. Else prove '..UptoSaid'. A law counts once. -/
mutual
def uptoBulk {H : Type} : DataW H → Nat
  | .lit (.string bytes) => bytes.length + 1
  | .lit _ => 1
  | .nil => 1
  | .ptr d => uptoBulk d + 1
  | .slice elems spare => uptoBulkAll elems + uptoBulkAll spare + 1
  | .agg parts => uptoBulkAll parts + 1
  | .iface _ d => uptoBulk d + 1
  | .map entries => uptoBulkEntries entries + 1
  | .held _ => 1
def uptoBulkAll {H : Type} : List (DataW H) → Nat
  | [] => 0
  | d :: r => uptoBulk d + uptoBulkAll r
def uptoBulkEntries {H : Type} : List (Lit × DataW H) → Nat
  | [] => 0
  | x :: r => uptoBulkEntry x + uptoBulkEntries r
def uptoBulkEntry {H : Type} : Lit × DataW H → Nat
  | (.string bytes, d) => bytes.length + uptoBulk d + 1
  | (_, d) => uptoBulk d + 1
 end
def uptoSmall : (H : Type) → List (DataW H) → Bool := fun _ ds => decide (uptoBulkAll ds ≤ 1048576)
def OpenSpec.upto (s : _root_.Go.ChangeSpec) : _root_.Go.OpenSpec := { _root_.Go.OpenSpec.ofChange s with cond := some uptoSmall }

/-- 'laws.FnWords', WHERE WHAT IT READS IS OF BULK AT MOST 1048576: true; the input reads as it did. -/
def fnWordsUptoRow : OpenClaim := { program := "ytkklkcajllpjpaagreatdoor", sum := "956eded2a5e8a0e664e5085c976db5a4f66729e195d6a458956ebae110ee35e0", func := "loop.example/g00835/laws.FnWords", spec := "fnWords", unfollowed := true, recurses := true, named := ["loop.example/g00835/impl.mixFactors", "loop.example/g00835/impl.unmixFactors"], apart := false, laid := [("loop.example/g00835/impl.unmixFactors", laid_loop_example_g00835_impl_unmixFactors), ("loop.example/g00835/impl.mixFactors", laid_loop_example_g00835_impl_mixFactors)], narrowed := true }
def FnWordsUptoSaid : Prop := fnWordsUptoRow.holds Tryz.pinned (OpenSpec.upto fnWordsSpec)

/-- 'laws.FnSliced', WHERE WHAT IT READS IS OF BULK AT MOST 1048576: true; the input reads as it did. -/
def fnSlicedUptoRow : OpenClaim := { program := "ytkklkcajllpjpaagreatdoor", sum := "956eded2a5e8a0e664e5085c976db5a4f66729e195d6a458956ebae110ee35e0", func := "loop.example/g00835/laws.FnSliced", spec := "fnSliced", inPlace := ["internal/abi.NoEscape", "internal/bytealg.MakeNoZero"], unfollowed := true, recurses := true, named := ["loop.example/g00835/impl.mixFactors", "loop.example/g00835/impl.unmixFactors"], apart := false, laid := [("loop.example/g00835/impl.unmixFactors", laid_loop_example_g00835_impl_unmixFactors), ("loop.example/g00835/impl.mixFactors", laid_loop_example_g00835_impl_mixFactors)], narrowed := true }
def FnSlicedUptoSaid : Prop := fnSlicedUptoRow.holds Tryz.pinned (OpenSpec.upto fnSlicedSpec)

/-- 'laws.FnBlocks', WHERE WHAT IT READS IS OF BULK AT MOST 1048576: true; the input reads as it did. -/
def fnBlocksUptoRow : OpenClaim := { program := "ytkklkcajllpjpaagreatdoor", sum := "956eded2a5e8a0e664e5085c976db5a4f66729e195d6a458956ebae110ee35e0", func := "loop.example/g00835/laws.FnBlocks", spec := "fnBlocks", inPlace := ["internal/abi.NoEscape", "internal/bytealg.MakeNoZero"], unfollowed := true, recurses := true, named := ["loop.example/g00835/impl.mixFactors", "loop.example/g00835/impl.unmixFactors"], apart := false, laid := [("loop.example/g00835/impl.unmixFactors", laid_loop_example_g00835_impl_unmixFactors), ("loop.example/g00835/impl.mixFactors", laid_loop_example_g00835_impl_mixFactors)], narrowed := true }
def FnBlocksUptoSaid : Prop := fnBlocksUptoRow.holds Tryz.pinned (OpenSpec.upto fnBlocksSpec)

/-- 'laws.FnAlone', WHERE WHAT IT READS IS OF BULK AT MOST 1048576: true; the input reads as it did. -/
def fnAloneUptoRow : OpenClaim := { program := "ytkklkcajllpjpaagreatdoor", sum := "956eded2a5e8a0e664e5085c976db5a4f66729e195d6a458956ebae110ee35e0", func := "loop.example/g00835/laws.FnAlone", spec := "fnAlone", inPlace := ["internal/abi.NoEscape", "internal/bytealg.MakeNoZero"], unfollowed := true, recurses := true, named := ["loop.example/g00835/impl.mixFactors", "loop.example/g00835/impl.unmixFactors"], apart := false, laid := [("loop.example/g00835/impl.unmixFactors", laid_loop_example_g00835_impl_unmixFactors), ("loop.example/g00835/impl.mixFactors", laid_loop_example_g00835_impl_mixFactors)], narrowed := true }
def FnAloneUptoSaid : Prop := fnAloneUptoRow.holds Tryz.pinned (OpenSpec.upto fnAloneSpec)

/-- 'laws.FnExactLockSliced', WHERE WHAT IT READS IS OF BULK AT MOST 1048576: true; the input reads as it did. -/
def fnExactLockSlicedUptoRow : OpenClaim := { program := "ytkklkcajllpjpaagreatdoor", sum := "956eded2a5e8a0e664e5085c976db5a4f66729e195d6a458956ebae110ee35e0", func := "loop.example/g00835/laws.FnExactLockSliced", spec := "fnExactLockSliced", inPlace := ["internal/abi.NoEscape", "internal/bytealg.MakeNoZero"], unfollowed := true, recurses := true, named := ["loop.example/g00835/impl.mixFactors"], apart := false, laid := [("loop.example/g00835/impl.mixFactors", laid_loop_example_g00835_impl_mixFactors)], narrowed := true }
def FnExactLockSlicedUptoSaid : Prop := fnExactLockSlicedUptoRow.holds Tryz.pinned (OpenSpec.upto fnExactLockSlicedSpec)

/-- 'laws.FnExactUnlockSliced', WHERE WHAT IT READS IS OF BULK AT MOST 1048576: true; the input reads as it did. -/
def fnExactUnlockSlicedUptoRow : OpenClaim := { program := "ytkklkcajllpjpaagreatdoor", sum := "956eded2a5e8a0e664e5085c976db5a4f66729e195d6a458956ebae110ee35e0", func := "loop.example/g00835/laws.FnExactUnlockSliced", spec := "fnExactUnlockSliced", inPlace := ["internal/abi.NoEscape", "internal/bytealg.MakeNoZero"], unfollowed := true, recurses := true, named := ["loop.example/g00835/impl.mixFactors", "loop.example/g00835/impl.unmixFactors"], apart := false, laid := [("loop.example/g00835/impl.unmixFactors", laid_loop_example_g00835_impl_unmixFactors), ("loop.example/g00835/impl.mixFactors", laid_loop_example_g00835_impl_mixFactors)], narrowed := true }
def FnExactUnlockSlicedUptoSaid : Prop := fnExactUnlockSlicedUptoRow.holds Tryz.pinned (OpenSpec.upto fnExactUnlockSlicedSpec)

/-- 'laws.FnExactLockBlocks', WHERE WHAT IT READS IS OF BULK AT MOST 1048576: true; the input reads as it did. -/
def fnExactLockBlocksUptoRow : OpenClaim := { program := "ytkklkcajllpjpaagreatdoor", sum := "956eded2a5e8a0e664e5085c976db5a4f66729e195d6a458956ebae110ee35e0", func := "loop.example/g00835/laws.FnExactLockBlocks", spec := "fnExactLockBlocks", inPlace := ["internal/abi.NoEscape", "internal/bytealg.MakeNoZero"], unfollowed := true, recurses := true, named := ["loop.example/g00835/impl.mixFactors"], apart := false, laid := [("loop.example/g00835/impl.mixFactors", laid_loop_example_g00835_impl_mixFactors)], narrowed := true }
def FnExactLockBlocksUptoSaid : Prop := fnExactLockBlocksUptoRow.holds Tryz.pinned (OpenSpec.upto fnExactLockBlocksSpec)

/-- 'laws.FnExactUnlockBlocks', WHERE WHAT IT READS IS OF BULK AT MOST 1048576: true; the input reads as it did. -/
def fnExactUnlockBlocksUptoRow : OpenClaim := { program := "ytkklkcajllpjpaagreatdoor", sum := "956eded2a5e8a0e664e5085c976db5a4f66729e195d6a458956ebae110ee35e0", func := "loop.example/g00835/laws.FnExactUnlockBlocks", spec := "fnExactUnlockBlocks", inPlace := ["internal/abi.NoEscape", "internal/bytealg.MakeNoZero"], unfollowed := true, recurses := true, named := ["loop.example/g00835/impl.mixFactors", "loop.example/g00835/impl.unmixFactors"], apart := false, laid := [("loop.example/g00835/impl.unmixFactors", laid_loop_example_g00835_impl_unmixFactors), ("loop.example/g00835/impl.mixFactors", laid_loop_example_g00835_impl_mixFactors)], narrowed := true }
def FnExactUnlockBlocksUptoSaid : Prop := fnExactUnlockBlocksUptoRow.holds Tryz.pinned (OpenSpec.upto fnExactUnlockBlocksSpec)

end Rows
end Go.Proofs.YtkklkcajllpjpaaGreatDoor
