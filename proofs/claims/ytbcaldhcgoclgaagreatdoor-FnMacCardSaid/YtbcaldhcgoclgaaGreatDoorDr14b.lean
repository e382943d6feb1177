/-
  Draws of keys and texts that are sealed.
-/
import Derived.Test.YtbcaldhcgoclgaaGreatDoorPadDraw
import Derived.Test.YtbcaldhcgoclgaaGreatDoorDraws
import Derived.Test.YtbcaldhcgoclgaaGreatDoorSealI
set_option linter.unusedVariables false
namespace Go.Proofs.YtbcaldhcgoclgaaGreatDoor
open Go.RowKit
attribute [local go_sem ↓] Go.wp_at_zero Go.wp_at_succ

set_option maxRecDepth 100000 in
set_option maxHeartbeats 1600000 in
theorem draw_Mac (w : World) (A : Option Addr) (len cap : Nat) (hcode : CodeAt w w.heap.size A len) (hl : len ≤ 1048576) :
    Calls Tryz.prog 14 #[.slice A len cap] w fun e w' => ∃ k s : ByteArray, e = .returned (.tuple #[.string k, .string s]) ∧ s.size ≤ 1000 ∧ Below w.heap.size w w' := by
  have H := Lib.hid hcode
  clear hcode
  go_enter Tryz.func14, Tryz.ntmps14
  go_wp2_with fail
  refine (new_any _ _ _ _ H.out hl).mono ?_; rintro e w1 ⟨g, rfl, hc1, hb1⟩
  go_wp2_with fail
  refine (odd_any _ _ _ _ _ _ hc1).mono ?_; rintro e w2 ⟨k, rfl, hkz, hc2, hg2⟩
  have hb2 := below_only hb1 hg2 hc1.1 hb1.size
  have HL := Lib.hid hc1.1
  clear hg2 hb1 hc1 hkz
  go_wp2_with fail
  refine (text11_any _ _ _ _ _ _ hc2).mono ?_; rintro e w3 ⟨t, rfl, ht, hc3, hg3⟩
  have HY := Lib.hid (show t.size ≤ 1000 by omega)
  have hb3 := Lib.hid (below_only hb2 hg3 HL.out hb2.size)
  clear ht hg3 hb2
  go_wp2
  go_ret2
  exact ⟨_, _, rfl, HY.out, hb3.out⟩
set_option maxRecDepth 100000 in
set_option maxHeartbeats 1600000 in
theorem draw_Subkeys (w : World) (A : Option Addr) (len cap : Nat) (hcode : CodeAt w w.heap.size A len) (hl : len ≤ 1048576) :
    Calls Tryz.prog 16 #[.slice A len cap] w fun e w' => ∃ k : ByteArray, e = .returned (.string k) ∧ Below w.heap.size w w' := by
  have H := Lib.hid hcode
  clear hcode
  go_enter Tryz.func16, Tryz.ntmps16
  go_wp2_with fail
  refine (new_any _ _ _ _ H.out hl).mono ?_; rintro e w1 ⟨g, rfl, hc1, hb1⟩
  go_wp2_with fail
  refine (odd_any _ _ _ _ _ _ hc1).mono ?_; rintro e w2 ⟨k, rfl, hkz, hc2, hg2⟩
  have hb2 := Lib.hid (below_only hb1 hg2 hc1.1 hb1.size)
  clear hg2 hb1 hc1 hkz
  go_wp2
  go_ret
  exact ⟨_, rfl, hb2.out⟩
end Go.Proofs.YtbcaldhcgoclgaaGreatDoor
