/-
  Draws of a key and a block.
-/
import Derived.Test.YtkbnnlhilnnpeaaGreatDoorDraws
set_option linter.unusedVariables false
set_option linter.unusedSimpArgs false
namespace Go.Proofs.YtkbnnlhilnnpeaaGreatDoor
open Go.RowKit

set_option maxRecDepth 100000 in
set_option maxHeartbeats 1600000 in
theorem draw_Steps (w : World) (A : Option Addr) (len cap : Nat) (hcode : CodeAt w w.heap.size A len) (hl : len ≤ 1048576) :
    Calls Tryz.prog 6 #[.slice A len cap] w fun e w' => ∃ (k s : ByteArray), e = .returned (.tuple #[.string k, .string s]) ∧ k.size ≤ 1000 ∧ s.size ≤ 1000 ∧ Below w.heap.size w w' := by
  have H := Lib.hid hcode
  clear hcode
  go_enter Tryz.func6, Tryz.ntmps6
  go_wp2_with fail
  refine (new_any _ _ _ _ H.out hl).mono ?_; rintro e w1 ⟨g, rfl, hc1, hb1⟩
  go_wp2_with fail
  refine (odd_any _ _ _ _ _ _ hc1).mono ?_; rintro e w2 ⟨k, rfl, hk, hc2, hg2⟩
  have HX := Lib.hid hk
  clear hk
  go_wp2_with fail
  refine (block_any _ _ _ _ _ _ hc2).mono ?_; rintro e w3 ⟨s, rfl, hs, hc3, hg3⟩
  have HU := Lib.hid hs
  clear hs
  go_wp2
  go_ret2
  exact ⟨_, _, rfl, HX.out, HU.out, below_only hb1 (only_trans hg2 hg3) hc1.1 hb1.size⟩
end Go.Proofs.YtkbnnlhilnnpeaaGreatDoor
