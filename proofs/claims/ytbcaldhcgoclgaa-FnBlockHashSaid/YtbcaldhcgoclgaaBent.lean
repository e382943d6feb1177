/-
  What spec.l01Bent answers: some text, longer by at most one byte.
-/
import Derived.Test.YtbcaldhcgoclgaaBase
import Derived.Deep.RegionHeld3
import Derived.Deep.DrawnRows
import Derived.Deep.AppendLies
import Derived.WalkKit
import Derived.LoopTactic
import Derived.OwnWalk
import Derived.WalkLawsBesides
import Derived.WalkSpells
import Derived.Outline
import Derived.Laws.Pointers
import Derived.Deep.QuietTactic
import Derived.BigQuiet
import Derived.IntWalk
set_option linter.unusedVariables false
namespace Go.Proofs.Ytbcaldhcgoclgaa
open Go.RowKit

theorem six (a b c d e f : ByteArray) (ha : a.size ≤ 1) (hb : b.size ≤ 1) (hc : c.size ≤ 1) (hd : d.size ≤ 1) (he : e.size ≤ 1) (hf : f.size ≤ 1) :
    ∀ j, j < 6 → ∃ u : ByteArray, (#[Value.string a, .string b, .string c, .string d, .string e, .string f] : Array Value)[j]? = some (.string u) ∧ u.size ≤ 1 := by
  intro j hj
  match j, hj with
  | 0, _ => exact ⟨_, rfl, ha⟩
  | 1, _ => exact ⟨_, rfl, hb⟩
  | 2, _ => exact ⟨_, rfl, hc⟩
  | 3, _ => exact ⟨_, rfl, hd⟩
  | 4, _ => exact ⟨_, rfl, he⟩
  | 5, _ => exact ⟨_, rfl, hf⟩

end Go.Proofs.Ytbcaldhcgoclgaa
