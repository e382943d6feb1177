/-
  The walks of laws.FnExactMac and laws.FnExactMacOk.
-/
import Derived.Test.YtbcaldhcgoclgaaGreatDoorSealI
import Derived.Test.YtbcaldhcgoclgaaGreatDoorLockLaid
set_option linter.unusedVariables false
set_option linter.unusedSimpArgs false
namespace Go.Proofs.YtbcaldhcgoclgaaGreatDoor
open Go.RowKit

theorem facts_FnExactMac {W : World} (h : laidMetH Tryz.prog Rows.fnExactMacRow.laid W) : MxF W := mxf_laid h
theorem facts_FnExactMacOk {W : World} (h : laidMetH Tryz.prog Rows.fnExactMacOkRow.laid W) : MxF W := mxf_laid h
set_option maxRecDepth 100000 in
set_option maxHeartbeats 800000 in
theorem walk_FnExactMac (a0 a1 : ByteArray) (w0 : a0.size ≤ maxLen) (w1 : a1.size ≤ maxLen) (w : World) (hf : MxF w) :
    Calls Tryz.prog 9 #[.string a0, .string a1] w fun e w' => e = .returned (.bool true) ∧ Below w.heap.size w w' := by
  unfold maxLen at w0 w1
  by_cases hs : 1048576 < a0.size
  · go_enter Tryz.func9, Tryz.ntmps9
    go_wp2
    go_ret
    exact ⟨rfl, Below.refl _ _⟩
  · by_cases hs1 : 1048576 < a1.size
    · go_enter Tryz.func9, Tryz.ntmps9
      go_wp2
      go_ret
      exact ⟨rfl, Below.refl _ _⟩
    · have C1 := fun W => Lib.hid (Mac_spec a0 a1 (by omega) W)
      have C2 := fun W hW => Lib.hid (Mac_impl a0 a1 (by omega) W hW)
      have HF : Hid (∀ W, Below w.heap.size w W → MxF W) := Lib.hid (fun W hW => hf.below hW (Nat.le_refl _))
      clear hf
      generalize macT a0 a1 = r at *
      go_enter Tryz.func9, Tryz.ntmps9
      go_wp2_with fail
      refine (C1 _).out.mono ?_; rintro e w1 ⟨rfl, hb1⟩
      go_wp2_with fail
      refine (C2 _ (HF.out _ hb1)).out.mono ?_; rintro e w2 ⟨rfl, hb2⟩
      go_wp2
      go_ret
      exact ⟨rfl, hb1.trans (hb2.mono hb1.size)⟩
set_option maxRecDepth 100000 in
set_option maxHeartbeats 800000 in
theorem walk_FnExactMacOk (a0 a1 a2 : ByteArray) (w0 : a0.size ≤ maxLen) (w1 : a1.size ≤ maxLen) (w2 : a2.size ≤ maxLen) (w : World) (hf : MxF w) :
    Calls Tryz.prog 10 #[.string a0, .string a1, .string a2] w fun e w' => e = .returned (.bool true) ∧ Below w.heap.size w w' := by
  unfold maxLen at w0 w1 w2
  by_cases hs : 1048576 < a0.size
  · go_enter Tryz.func10, Tryz.ntmps10
    go_wp2
    go_ret
    exact ⟨rfl, Below.refl _ _⟩
  · by_cases hs1 : 1048576 < a1.size
    · go_enter Tryz.func10, Tryz.ntmps10
      go_wp2
      go_ret
      exact ⟨rfl, Below.refl _ _⟩
    · by_cases hs2 : 1048576 < a2.size
      · go_enter Tryz.func10, Tryz.ntmps10
        go_wp2
        go_ret
        exact ⟨rfl, Below.refl _ _⟩
      · have C1 := fun W => Lib.hid (MacOk_spec a0 a1 a2 (by omega) W)
        have C2 := fun W hW => Lib.hid (MacOk_impl a0 a1 a2 (by omega) W hW)
        have HF : Hid (∀ W, Below w.heap.size w W → MxF W) := Lib.hid (fun W hW => hf.below hW (Nat.le_refl _))
        clear hf
        generalize okT a0 a1 a2 = r at *
        cases r <;>
        · go_enter Tryz.func10, Tryz.ntmps10
          go_wp2_with fail
          refine (C1 _).out.mono ?_; rintro e w1 ⟨rfl, hb1⟩
          go_wp2_with fail
          refine (C2 _ (HF.out _ hb1)).out.mono ?_; rintro e w2 ⟨rfl, hb2⟩
          go_wp2
          go_ret
          exact ⟨rfl, hb1.trans (hb2.mono hb1.size)⟩
end Go.Proofs.YtbcaldhcgoclgaaGreatDoor
