/-
  The walks of laws.FnExactBlockTimes and laws.FnBlockTimes.
-/
import Derived.Test.YtbcaldhcgoclgaaGfT
import Derived.Test.YtbcaldhcgoclgaaGfS
import Derived.Test.YtbcaldhcgoclgaaPadDraw
import Derived.Test.YtbcaldhcgoclgaaDraws
import Derived.Test.YtbcaldhcgoclgaaSums
set_option linter.unusedVariables false
set_option linter.unusedSimpArgs false
namespace Go.Proofs.Ytbcaldhcgoclgaa
open Go.RowKit

set_option maxHeartbeats 800000 in
theorem walk_FnExactBlockTimes (a0 a1 : ByteArray) (w0 : a0.size ≤ maxLen) (w1 : a1.size ≤ maxLen) (w : World) :
    Calls Try.prog 5 #[.string a0, .string a1] w fun e w' => e = .returned (.bool true) ∧ Below w.heap.size w w' := by
  unfold maxLen at w0 w1
  have h0 : (a0.size : Int) ≤ 9223372036854775807 := by omega
  have h1 : (a1.size : Int) ≤ 9223372036854775807 := by omega
  by_cases hs : (1048576 : Int) < a0.size
  · go_enter Try.func5, Try.ntmps5
    go_wp2
    go_ret
    exact ⟨rfl, Below.refl _ _⟩
  · by_cases hs1 : (1048576 : Int) < a1.size
    · go_enter Try.func5, Try.ntmps5
      go_wp2
      go_ret
      exact ⟨rfl, Below.refl _ _⟩
    · have H1 := fun W => Lib.hid (BlockTimes_spec a0 a1 W)
      have H2 := fun W => Lib.hid (BlockTimes_impl a0 a1 W)
      generalize tmI a0 a1 = b at *
      go_enter Try.func5, Try.ntmps5
      go_wp2_with fail
      refine (H1 _).out.mono ?_; rintro e w1 ⟨rfl, hb1⟩
      go_wp2_with fail
      refine (H2 _).out.mono ?_; rintro e w2 ⟨rfl, hb2⟩
      have hb := hb1.trans (hb2.mono hb1.size)
      clear hb1 hb2
      go_wp2
      go_ret
      exact ⟨rfl, hb⟩
end Go.Proofs.Ytbcaldhcgoclgaa
