/-
  What spec.RoundKey answers.
-/
import Derived.Test.YtbgjeipgmlcgaaaDoorKeyS
import Derived.WalkKit
import Derived.LoopTactic
import Derived.OwnWalk
import Derived.WalkLawsBesides
import Derived.WalkSpells
import Derived.Outline
import Derived.Below
import Derived.Laws.OwnMore
import Derived.Laws.IdiomStrings
import Derived.Deep.QuietTactic
import Derived.BigQuiet
import Derived.IntWalk
set_option linter.unusedVariables false
namespace Go.Proofs.YtbgjeipgmlcgaaaDoor
open Go.RowKit

theorem rowW_size (f : Nat → UInt32) (k : Nat) : (⟨(rowW f k).toArray⟩ : ByteArray).size = 4 * k := by
  show (rowW f k).toArray.size = 4 * k
  induction k with
  | zero => rfl
  | succ k ih => rw [rowW_succ]; simp at ih ⊢; omega
theorem rowW_put (f : Nat → UInt32) (k : Nat) : (⟨(rowW f k).toArray⟩ : ByteArray) ++ putW (f k) = ⟨(rowW f (k + 1)).toArray⟩ := by
  rw [rowW_succ]
  apply ByteArray.ext
  simp [putW]
end Go.Proofs.YtbgjeipgmlcgaaaDoor
