/-
  What impl.Hex and spec.Hex answer: two digits for each byte.
-/
import Derived.Test.YtipcgdhjlpjcaaaDoorProg
import Derived.Test.YtipcgdhjlpjcaaaDoorPure
import Derived.Test.YtipcgdhjlpjcaaaDoorShelf
import Derived.Test.YtipcgdhjlpjcaaaDoorBase
import Derived.WalkKit
import Derived.LoopTactic
import Derived.OwnWalk
import Derived.WalkLawsBesides
import Derived.WalkSpells
import Derived.Outline
import Derived.Below
import Derived.Laws.AppendOwn
import Derived.Laws.OwnMore
import Derived.Deep.OwnRows
import Derived.Deep.RegionHeld3
import Derived.Deep.DrawnRows
import Derived.Deep.AppendLies
import Derived.Deep.DeepFit
import Derived.Handy
set_option linter.unusedVariables false
namespace Go.Proofs.YtipcgdhjlpjcaaaDoor
open Go.RowKit

attribute [local go_sem high] fold_hexTab run_index_hexTab
attribute [local go_sem] u8_and_15
attribute [local go_sem ↓] Go.wp_at_zero Go.wp_at_succ

theorem hex_rel {s : ByteArray} {w w2 w1 : World} {k : Nat} {e : TypeId} {u v : Value} {o : Obj} (hlt : k < s.size)
    (hown2 : w2.ownsRow w.heap.size e 1 u (2 * k) (cells8 (hexOf (s.data.toList.take k)))) (hbel2 : Below w.heap.size w w2)
    (hown3 : w1.ownsRow w.heap.size e 1 v (2 * k + 2) (cells8 (hexOf (s.data.toList.take k)) ++ cells8 [hexDig (s[k].toNat / 16), hexDig (s[k].toNat % 16)]))
    (hgrow : (w2.alloc o).drew.grownBy w1 u.ownBlock) :
    w1.ownsRow w.heap.size e 1 v (2 * (k + 1)) (cells8 (hexOf (s.data.toList.take (k + 1)))) ∧ Below w.heap.size w w1 := by
  refine ⟨?_, ?_⟩
  · rw [hexOf_snoc s k hlt, cells8_append]
    exact hown3
  · have h1 : Below w.heap.size w (w2.alloc o).drew := (hbel2.alloc hbel2.size _).drew
    exact h1.grown hgrow h1.size (fun b hb => (hown2.lt b hb).1)

end Go.Proofs.YtipcgdhjlpjcaaaDoor
