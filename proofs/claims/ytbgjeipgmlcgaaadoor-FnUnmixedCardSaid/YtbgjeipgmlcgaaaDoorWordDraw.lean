/-
  What the draws of words answer.
-/
import Derived.Test.YtbgjeipgmlcgaaaDoorBytes
import Derived.Test.YtbgjeipgmlcgaaaDoorWordS
import Derived.Deep.RegionHeld3
import Derived.Deep.DrawnRows
import Derived.Deep.AppendLies
import Derived.WalkKit
import Derived.LoopTactic
import Derived.OwnWalk
import Derived.WalkLawsBesides
import Derived.WalkSpells
import Derived.Outline
import Derived.Laws.Pointers
import Derived.Deep.QuietTactic
import Derived.BigQuiet
import Derived.IntWalk
set_option linter.unusedVariables false
namespace Go.Proofs.YtbgjeipgmlcgaaaDoor
open Go.RowKit

theorem CurIn.below {w w' : World} {B g : Nat} {A : Option Addr} {len cap : Nat} (h : CurIn w B g A len cap) (hb : Below w.heap.size w w') : CurIn w' B g A len cap := by
  have hlt := h.lt
  obtain ⟨h1, h2, h3, i, hh, h4, h5⟩ := h
  exact ⟨h1, h2, h3.below hb (by omega), i, hh, h4, (hb.block g hlt).trans h5⟩
theorem w32_in64 (x : UInt32) : In64 (x.toNat : Int) := by have := w32_lt x; unfold In64; omega
end Go.Proofs.YtbgjeipgmlcgaaaDoor
