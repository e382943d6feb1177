/-
  The walks of laws.FnExactPad, Unpad, Count and Doubled.
-/
import Derived.Test.YtlmbgkcchekdmaaUnpadI
import Derived.Test.YtlmbgkcchekdmaaWideI
set_option linter.unusedVariables false
set_option linter.unusedSimpArgs false
namespace Go.Proofs.Ytlmbgkcchekdmaa
open Go.RowKit

set_option maxHeartbeats 400000 in
theorem walk_FnExactPad (a0 : ByteArray) (w0 : a0.size ≤ maxLen) (w : World) :
    Calls Try.prog 7 #[.string a0] w fun e w' => e = .returned (.bool true) ∧ Below w.heap.size w w' := by
  unfold maxLen at w0
  by_cases hs : 1048576 < a0.size
  · go_enter Try.func7, Try.ntmps7
    go_wp2
    go_ret
    exact ⟨rfl, Below.refl _ _⟩
  · have H1 := fun W => Lib.hid (Pad_spec a0 (by omega) W)
    have H2 := fun W => Lib.hid (Pad_impl a0 (by omega) W)
    generalize padT a0 = b at *
    go_enter Try.func7, Try.ntmps7
    go_wp2_with fail
    refine (H1 _).out.mono ?_; rintro e w1 ⟨rfl, hb1⟩
    go_wp2_with fail
    refine (H2 _).out.mono ?_; rintro e w2 ⟨rfl, hb2⟩
    have hb := hb1.trans (hb2.mono hb1.size)
    clear hb1 hb2
    go_wp2
    go_ret
    exact ⟨rfl, hb⟩
set_option maxHeartbeats 400000 in
theorem walk_FnExactUnpad (a0 : ByteArray) (w0 : a0.size ≤ maxLen) (w : World) :
    Calls Try.prog 8 #[.string a0] w fun e w' => e = .returned (.bool true) ∧ Below w.heap.size w w' := by
  unfold maxLen at w0
  by_cases hs : 1048576 < a0.size
  · go_enter Try.func8, Try.ntmps8
    go_wp2
    go_ret
    exact ⟨rfl, Below.refl _ _⟩
  · have H1 := fun W => Lib.hid (Unpad_spec a0 (by omega) W)
    have H2 := fun W => Lib.hid (Unpad_impl a0 (by omega) W)
    generalize unT a0 = b at *
    generalize decide (unOk a0) = c at *
    go_enter Try.func8, Try.ntmps8
    go_wp2_with fail
    refine (H1 _).out.mono ?_; rintro e w1 ⟨rfl, hb1⟩
    go_wp2_with fail
    refine (H2 _).out.mono ?_; rintro e w2 ⟨rfl, hb2⟩
    have hb := hb1.trans (hb2.mono hb1.size)
    clear hb1 hb2
    go_wp2
    go_ret
    exact ⟨rfl, hb⟩
set_option maxHeartbeats 400000 in
theorem walk_FnExactCount (a0 : ByteArray) (a1 : Int) (w0 : a0.size ≤ maxLen) (w1 : (Lit.int .i64 a1).wf = true) (w : World) :
    Calls Try.prog 9 #[.string a0, .int .i64 a1] w fun e w' => e = .returned (.bool true) ∧ Below w.heap.size w w' := by
  unfold maxLen at w0
  obtain ⟨h0, h1⟩ : -9223372036854775808 ≤ a1 ∧ a1 ≤ 9223372036854775807 := by
    simp [Lit.wf, IntKind.min, IntKind.max, IntKind.bits, IntKind.signed] at w1
    exact w1
  clear w1
  by_cases hs : 1048576 < a0.size
  · go_enter Try.func9, Try.ntmps9
    go_wp2
    go_ret
    exact ⟨rfl, Below.refl _ _⟩
  · have H1 := fun W => Lib.hid (Count_spec a0 a1 h1 W)
    have H2 := fun W => Lib.hid (Count_impl a0 a1 h1 W)
    generalize cntI a0 a1 = b at *
    go_enter Try.func9, Try.ntmps9
    go_wp2_with fail
    refine (H1 _).out.mono ?_; rintro e w1 ⟨rfl, hb1⟩
    go_wp2_with fail
    refine (H2 _).out.mono ?_; rintro e w2 ⟨rfl, hb2⟩
    have hb := hb1.trans (hb2.mono hb1.size)
    clear hb1 hb2
    go_wp2
    go_ret
    exact ⟨rfl, hb⟩
set_option maxHeartbeats 400000 in
theorem walk_FnExactDoubled (a0 : ByteArray) (w0 : a0.size ≤ maxLen) (w : World) :
    Calls Try.prog 10 #[.string a0] w fun e w' => e = .returned (.bool true) ∧ Below w.heap.size w w' := by
  unfold maxLen at w0
  by_cases hs : 1048576 < a0.size
  · go_enter Try.func10, Try.ntmps10
    go_wp2
    go_ret
    exact ⟨rfl, Below.refl _ _⟩
  · have H1 := fun W => Lib.hid (Doubled_spec a0 W)
    have H2 := fun W => Lib.hid (Doubled_impl a0 W)
    generalize dblI a0 = b at *
    go_enter Try.func10, Try.ntmps10
    go_wp2_with fail
    refine (H1 _).out.mono ?_; rintro e w1 ⟨rfl, hb1⟩
    go_wp2_with fail
    refine (H2 _).out.mono ?_; rintro e w2 ⟨rfl, hb2⟩
    have hb := hb1.trans (hb2.mono hb1.size)
    clear hb1 hb2
    go_wp2
    go_ret
    exact ⟨rfl, hb⟩
end Go.Proofs.Ytlmbgkcchekdmaa
