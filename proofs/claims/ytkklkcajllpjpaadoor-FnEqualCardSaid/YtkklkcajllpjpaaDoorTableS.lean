/-
  What spec.Table, Untable and TableRound answer.
-/
import Derived.Test.YtkklkcajllpjpaaDoorTableMath
import Derived.Test.YtkklkcajllpjpaaDoorWord
import Derived.Test.YtkklkcajllpjpaaDoorBase
import Derived.IntWalk
set_option linter.unusedVariables false
set_option linter.unusedSimpArgs false
namespace Go.Proofs.YtkklkcajllpjpaaDoor
open Go Go.RowKit
attribute [local go_sem ↓] Go.wp_at_zero Go.wp_at_succ

end Go.Proofs.YtkklkcajllpjpaaDoor
