/-
  The walks of laws.FnExactKeyOk, Rounds, RoundKey and Expand.
-/
import Derived.Test.YtkklkcajllpjpaaDoorKey
import Derived.WalkKit
import Derived.LoopTactic
import Derived.OwnWalk
import Derived.WalkLawsBesides
import Derived.WalkSpells
import Derived.Outline
import Derived.Below
set_option linter.unusedVariables false
namespace Go.Proofs.YtkklkcajllpjpaaDoor
open Go.RowKit

theorem exInts_len (s : ByteArray) : (exInts s).length ≤ 1000 := by
  by_cases h : kOk s
  · obtain ⟨n, hn⟩ := h.of
    rw [exInts_of s n hn, nums_length, upTo_length]
    have := hn.le
    unfold kL; omega
  · rw [exInts_no s h]; simp
/-- A list of the call's own, as a slice: it can be read, and it can be written. -/
theorem OwnInts.open {w : World} {l : List Int} {e : Ending} {w' : World} (h : OwnInts w l e w') : ∃ A c, e = .returned (.slice A l.length c) ∧ w'.ownsRow w.heap.size 3 1 (.slice A l.length c) l.length (cells64 l) ∧ IRow w' A l.length l ∧ l.length ≤ c ∧ c ≤ 9223372036854775807 ∧ Below w.heap.size w w' := by
  obtain ⟨v, rfl, hown, hb⟩ := h
  obtain ⟨A, c, rfl, h1, h2⟩ := own_slice64 hown
  exact ⟨A, c, rfl, hown, own_irow hown, h1, h2, hb⟩
theorem IRow.up {w w' : World} {B n : Nat} {A : Option Addr} {l : List Int} (h : IRow w A n l) (hlt : ∀ a, A = some a → a.block < B) (hb : Below B w w') : IRow w' A n l :=
  ⟨h.1, fun j hj => by
    obtain ⟨b, o, hA, hg, hc⟩ := h.2 j hj
    have := hlt _ hA
    exact ⟨b, o, hA, Nat.lt_of_lt_of_le hg hb.size, (hb.cell (p := ⟨b, o + j, none⟩) this).trans hc⟩⟩
theorem own_low {w : World} {B n c : Nat} {A : Option Addr} {e : TypeId} {xs : List Value} (h : w.ownsRow B e 1 (.slice A n c) n xs) : ∀ a, A = some a → a.block < w.heap.size := fun a ha => by
  subst ha; exact (h.lt a.block rfl).2
end Go.Proofs.YtkklkcajllpjpaaDoor
