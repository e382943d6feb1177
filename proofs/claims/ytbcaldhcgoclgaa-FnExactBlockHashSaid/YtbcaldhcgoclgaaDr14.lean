/-
  Draws of blocks that are multiplied, hashed and sealed.
-/
import Derived.Test.YtbcaldhcgoclgaaPadDraw
import Derived.Test.YtbcaldhcgoclgaaDraws
set_option linter.unusedVariables false
namespace Go.Proofs.Ytbcaldhcgoclgaa
open Go.RowKit
attribute [local go_sem ↓] Go.wp_at_zero Go.wp_at_succ

set_option maxRecDepth 100000 in
set_option maxHeartbeats 1600000 in
theorem draw_BlockTimes (w : World) (A : Option Addr) (len cap : Nat) (hcode : CodeAt w w.heap.size A len) (hl : len ≤ 1048576) :
    Calls Try.prog 8 #[.slice A len cap] w fun e w' => ∃ s t : ByteArray, e = .returned (.tuple #[.string s, .string t]) ∧ s.size ≤ 1000 ∧ t.size ≤ 1000 ∧ Below w.heap.size w w' := by
  have H := Lib.hid hcode
  clear hcode
  go_enter Try.func8, Try.ntmps8
  go_wp2_with fail
  refine (new_any _ _ _ _ H.out hl).mono ?_; rintro e w1 ⟨g, rfl, hc1, hb1⟩
  go_wp2_with fail
  refine (block11_any _ _ _ _ _ _ hc1).mono ?_; rintro e w2 ⟨s, rfl, hs, hc2, hg2⟩
  have HX := Lib.hid hs
  have hb2 := below_only hb1 hg2 hc1.1 hb1.size
  have HL := Lib.hid hc1.1
  clear hs hg2 hb1 hc1
  go_wp2_with fail
  refine (block11_any _ _ _ _ _ _ hc2).mono ?_; rintro e w3 ⟨t, rfl, ht, hc3, hg3⟩
  have HY := Lib.hid ht
  have hb3 := Lib.hid (below_only hb2 hg3 HL.out hb2.size)
  clear ht hg3 hb2
  go_wp2
  go_ret2
  exact ⟨_, _, rfl, HX.out, HY.out, hb3.out⟩
set_option maxRecDepth 100000 in
set_option maxHeartbeats 1600000 in
theorem draw_BlockHash (w : World) (A : Option Addr) (len cap : Nat) (hcode : CodeAt w w.heap.size A len) (hl : len ≤ 1048576) :
    Calls Try.prog 13 #[.slice A len cap] w fun e w' => ∃ s t : ByteArray, e = .returned (.tuple #[.string s, .string t]) ∧ s.size ≤ 1000 ∧ t.size ≤ 1000 ∧ Below w.heap.size w w' := by
  have H := Lib.hid hcode
  clear hcode
  go_enter Try.func13, Try.ntmps13
  go_wp2_with fail
  refine (new_any _ _ _ _ H.out hl).mono ?_; rintro e w1 ⟨g, rfl, hc1, hb1⟩
  go_wp2_with fail
  refine (block_any _ _ _ _ _ _ hc1).mono ?_; rintro e w2 ⟨s, rfl, hs, hc2, hg2⟩
  have HX := Lib.hid (show s.size ≤ 1000 by omega)
  have hb2 := below_only hb1 hg2 hc1.1 hb1.size
  have HL := Lib.hid hc1.1
  clear hs hg2 hb1 hc1
  go_wp2_with fail
  refine (text11_any _ _ _ _ _ _ hc2).mono ?_; rintro e w3 ⟨t, rfl, ht, hc3, hg3⟩
  have HY := Lib.hid (show t.size ≤ 1000 by omega)
  have hb3 := Lib.hid (below_only hb2 hg3 HL.out hb2.size)
  clear ht hg3 hb2
  go_wp2
  go_ret2
  exact ⟨_, _, rfl, HX.out, HY.out, hb3.out⟩
end Go.Proofs.Ytbcaldhcgoclgaa
