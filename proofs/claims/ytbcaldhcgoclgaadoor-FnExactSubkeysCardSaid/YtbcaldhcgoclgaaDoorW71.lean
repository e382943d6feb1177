/-
  The walk of laws.FnExactSubkeys.
-/
import Derived.Test.YtbcaldhcgoclgaaDoorSubI
import Derived.Test.YtbcaldhcgoclgaaDoorLockLaid
set_option linter.unusedVariables false
set_option linter.unusedSimpArgs false
namespace Go.Proofs.YtbcaldhcgoclgaaDoor
open Go.RowKit

theorem facts_FnExactSubkeys {W : World} (h : laidMetH Tryd.prog Rows.fnExactSubkeysRow.laid W) : MxF W := mxf_laid h
set_option maxRecDepth 100000 in
set_option maxHeartbeats 800000 in
theorem walk_FnExactSubkeys (a0 : ByteArray) (w0 : a0.size ≤ maxLen) (w : World) (hf : MxF w) :
    Calls Tryd.prog 3 #[.string a0] w fun e w' => e = .returned (.bool true) ∧ Below w.heap.size w w' := by
  unfold maxLen at w0
  by_cases hs : 1048576 < a0.size
  · go_enter Tryd.func3, Tryd.ntmps3
    go_wp2
    go_ret
    exact ⟨rfl, Below.refl _ _⟩
  · have C1 := fun W => Lib.hid (Subkeys_spec a0 W)
    have C2 := fun W hW => Lib.hid (Subkeys_impl a0 W hW)
    have HF : Hid (∀ W, Below w.heap.size w W → MxF W) := Lib.hid (fun W hW => hf.below hW (Nat.le_refl _))
    clear hf
    generalize sk1 a0 = x at *
    generalize sk2 a0 = y at *
    go_enter Tryd.func3, Tryd.ntmps3
    go_wp2_with fail
    refine (C1 _).out.mono ?_; rintro e w1 ⟨rfl, hb1⟩
    go_wp2_with fail
    refine (C2 _ (HF.out _ hb1)).out.mono ?_; rintro e w2 ⟨rfl, hb2⟩
    go_wp2
    go_ret
    exact ⟨rfl, hb1.trans (hb2.mono hb1.size)⟩
end Go.Proofs.YtbcaldhcgoclgaaDoor
