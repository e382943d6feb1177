/-
  The walk of laws.FnExpand: it returns true at every code.
-/
import Derived.Test.YtkbnnlhilnnpeaaW24
import Derived.Test.YtkbnnlhilnnpeaaDraws
import Derived.Test.YtkbnnlhilnnpeaaApartKey
import Derived.WalkKit
import Derived.LoopTactic
import Derived.OwnWalk
import Derived.WalkLawsBesides
import Derived.WalkSpells
import Derived.Outline
import Derived.Below
import Derived.Deep.RegionHeld3
import Derived.Deep.QuietTactic
import Derived.BigQuiet
import Derived.IntWalk
set_option linter.unusedVariables false
namespace Go.Proofs.Ytkbnnlhilnnpeaa
open Go.RowKit

theorem nums_at (s : ByteArray) (n L j : Nat) (h : j < (nums (upTo (ew s n) L)).length) : (nums (upTo (ew s n) L))[j] = ((ew s n j).toNat : Int) := by
  simp only [nums, List.getElem_map, upTo_get]
/-- the cells of a list of words that can be read. -/
theorem irow_word {w : World} {A : Option Addr} {s : ByteArray} {n L j : Nat} (h : IRow w A L (nums (upTo (ew s n) L))) (hj : j < L) : ∃ b o, A = some ⟨b, o, none⟩ ∧ b < w.heap.size ∧ w.cell? ⟨b, o + j, none⟩ = some (.int .i64 ((ew s n j).toNat : Int)) := by
  obtain ⟨b, o, hA, hb, hc⟩ := h.2 j (by rw [nums_length, upTo_length]; exact hj)
  rw [nums_at] at hc
  exact ⟨b, o, hA, hb, hc⟩
end Go.Proofs.Ytkbnnlhilnnpeaa
