/-
  The walks of laws.FnExactLockSliced, FnExactUnlockSliced, FnExactLockBlocks and FnExactUnlockBlocks.
-/
import Derived.Test.YtkklkcajllpjpaaGreatDoorEng
import Derived.Test.YtkklkcajllpjpaaGreatDoorEachS
import Derived.Test.YtkklkcajllpjpaaGreatDoorTabLaid
set_option linter.unusedVariables false
set_option linter.unusedSimpArgs false
namespace Go.Proofs.YtkklkcajllpjpaaGreatDoor
open Go Go.RowKit
attribute [local go_sem ↓] Go.wp_at_zero Go.wp_at_succ

theorem facts_FnExactLockSliced {W : World} (h : laidMetH Tryz.prog Rows.fnExactLockSlicedRow.laid W) : Fac4 W 0 mxF := Mx8_laid h
set_option maxRecDepth 100000 in
set_option maxHeartbeats 800000 in
theorem walk_FnExactLockSliced (a0 a1 : ByteArray) (w0 : a0.size ≤ maxLen) (w1 : a1.size ≤ maxLen) (w : World) (hf : Fac4 w 0 mxF) :
    Calls Tryz.prog 7 #[.string a0, .string a1] w fun e w' => e = .returned (.bool true) ∧ Below w.heap.size w w' := by
  unfold maxLen at w0 w1
  by_cases hs : 1048576 < a0.size
  · go_enter Tryz.func7, Tryz.ntmps7
    go_wp2
    go_ret
    exact ⟨rfl, Below.refl _ _⟩
  · by_cases hs1 : 1048576 < a1.size
    · go_enter Tryz.func7, Tryz.ntmps7
      go_wp2
      go_ret
      exact ⟨rfl, Below.refl _ _⟩
    · have C1 := fun W => Lib.hid (LockSliced_spec10 a0 a1 (by omega) W)
      have C2 := fun W (hW : Fac4 W 0 mxF) => Lib.hid (LockSliced_impl a0 a1 (by omega) W hW)
      have HF : Hid (∀ W, Below w.heap.size w W → Fac4 W 0 mxF) := Lib.hid (fun W hW => hf.below hW hf.1)
      clear hf
      generalize slT false a0 a1 = r at *
      go_enter Tryz.func7, Tryz.ntmps7
      go_wp2_with fail
      refine (C1 _).out.mono ?_; rintro e w1 ⟨rfl, hb1⟩
      go_wp2_with fail
      refine (C2 _ (HF.out _ hb1)).out.mono ?_; rintro e w2 ⟨rfl, hb2⟩
      go_wp2
      go_ret
      exact ⟨rfl, hb1.trans (hb2.mono hb1.size)⟩
theorem facts_FnExactLockBlocks {W : World} (h : laidMetH Tryz.prog Rows.fnExactLockBlocksRow.laid W) : Fac4 W 0 mxF := Mx8_laid h
set_option maxRecDepth 100000 in
set_option maxHeartbeats 800000 in
theorem walk_FnExactLockBlocks (a0 : Int) (a1 a2 : ByteArray) (w0 : (Lit.int .i64 a0).wf = true) (w1 : a1.size ≤ maxLen) (w2 : a2.size ≤ maxLen) (w : World) (hf : Fac4 w 0 mxF) :
    Calls Tryz.prog 9 #[.int .i64 a0, .string a1, .string a2] w fun e w' => e = .returned (.bool true) ∧ Below w.heap.size w w' := by
  unfold maxLen at w1 w2
  clear w0
  by_cases hs : 1048576 < a1.size
  · go_enter Tryz.func9, Tryz.ntmps9
    go_wp2
    go_ret
    exact ⟨rfl, Below.refl _ _⟩
  · by_cases hs1 : 1048576 < a2.size
    · go_enter Tryz.func9, Tryz.ntmps9
      go_wp2
      go_ret
      exact ⟨rfl, Below.refl _ _⟩
    · have C1 := fun W => Lib.hid (LockBlocks_spec a0 a1 a2 (by omega) W)
      have C2 := fun W (hW : Fac4 W 0 mxF) => Lib.hid (LockBlocks_impl a0 a1 a2 (by omega) W hW)
      have HF : Hid (∀ W, Below w.heap.size w W → Fac4 W 0 mxF) := Lib.hid (fun W hW => hf.below hW hf.1)
      clear hf
      generalize blT false a0 a1 a2 = r at *
      generalize coT a0 a1 a2 = co at *
      go_enter Tryz.func9, Tryz.ntmps9
      go_wp2_with fail
      refine (C1 _).out.mono ?_; rintro e w1 ⟨rfl, hb1⟩
      go_wp2_with fail
      refine (C2 _ (HF.out _ hb1)).out.mono ?_; rintro e w2 ⟨rfl, hb2⟩
      go_wp2
      go_ret
      exact ⟨rfl, hb1.trans (hb2.mono hb1.size)⟩
theorem facts_FnExactUnlockSliced {W : World} (h : laidMetH Tryz.prog Rows.fnExactUnlockSlicedRow.laid W) : Fac4 W 0 mxF ∧ Fac4 W 1 unF := by
  have h' : laidMet Tryz.prog [("loop.example/g00835/impl.unmixFactors", Lib.tabData .u8 [14, 9, 13, 11]), ("loop.example/g00835/impl.mixFactors", Lib.tabData .u8 [2, 1, 1, 3])] W := h
  exact ⟨Mx8_laid (laid_tail8 h'), Un8_laid h'⟩
set_option maxRecDepth 100000 in
set_option maxHeartbeats 800000 in
theorem walk_FnExactUnlockSliced (a0 a1 : ByteArray) (w0 : a0.size ≤ maxLen) (w1 : a1.size ≤ maxLen) (w : World) (hf : Fac4 w 0 mxF ∧ Fac4 w 1 unF) :
    Calls Tryz.prog 8 #[.string a0, .string a1] w fun e w' => e = .returned (.bool true) ∧ Below w.heap.size w w' := by
  unfold maxLen at w0 w1
  by_cases hs : 1048576 < a0.size
  · go_enter Tryz.func8, Tryz.ntmps8
    go_wp2
    go_ret
    exact ⟨rfl, Below.refl _ _⟩
  · by_cases hs1 : 1048576 < a1.size
    · go_enter Tryz.func8, Tryz.ntmps8
      go_wp2
      go_ret
      exact ⟨rfl, Below.refl _ _⟩
    · have C1 := fun W => Lib.hid (UnlockSliced_spec10 a0 a1 (by omega) W)
      have C2 := fun W (hW : Fac4 W 0 mxF ∧ Fac4 W 1 unF) => Lib.hid (UnlockSliced_impl a0 a1 (by omega) W hW.1 hW.2)
      have HF : Hid (∀ W, Below w.heap.size w W → Fac4 W 0 mxF ∧ Fac4 W 1 unF) := Lib.hid (fun W hW => ⟨hf.1.below hW hf.1.1, hf.2.below hW hf.2.1⟩)
      clear hf
      generalize slT true a0 a1 = r at *
      go_enter Tryz.func8, Tryz.ntmps8
      go_wp2_with fail
      refine (C1 _).out.mono ?_; rintro e w1 ⟨rfl, hb1⟩
      go_wp2_with fail
      refine (C2 _ (HF.out _ hb1)).out.mono ?_; rintro e w2 ⟨rfl, hb2⟩
      go_wp2
      go_ret
      exact ⟨rfl, hb1.trans (hb2.mono hb1.size)⟩
theorem facts_FnExactUnlockBlocks {W : World} (h : laidMetH Tryz.prog Rows.fnExactUnlockBlocksRow.laid W) : Fac4 W 0 mxF ∧ Fac4 W 1 unF := by
  have h' : laidMet Tryz.prog [("loop.example/g00835/impl.unmixFactors", Lib.tabData .u8 [14, 9, 13, 11]), ("loop.example/g00835/impl.mixFactors", Lib.tabData .u8 [2, 1, 1, 3])] W := h
  exact ⟨Mx8_laid (laid_tail8 h'), Un8_laid h'⟩
set_option maxRecDepth 100000 in
set_option maxHeartbeats 800000 in
theorem walk_FnExactUnlockBlocks (a0 : Int) (a1 a2 : ByteArray) (w0 : (Lit.int .i64 a0).wf = true) (w1 : a1.size ≤ maxLen) (w2 : a2.size ≤ maxLen) (w : World) (hf : Fac4 w 0 mxF ∧ Fac4 w 1 unF) :
    Calls Tryz.prog 10 #[.int .i64 a0, .string a1, .string a2] w fun e w' => e = .returned (.bool true) ∧ Below w.heap.size w w' := by
  unfold maxLen at w1 w2
  clear w0
  by_cases hs : 1048576 < a1.size
  · go_enter Tryz.func10, Tryz.ntmps10
    go_wp2
    go_ret
    exact ⟨rfl, Below.refl _ _⟩
  · by_cases hs1 : 1048576 < a2.size
    · go_enter Tryz.func10, Tryz.ntmps10
      go_wp2
      go_ret
      exact ⟨rfl, Below.refl _ _⟩
    · have C1 := fun W => Lib.hid (UnlockBlocks_spec a0 a1 a2 (by omega) W)
      have C2 := fun W (hW : Fac4 W 0 mxF ∧ Fac4 W 1 unF) => Lib.hid (UnlockBlocks_impl a0 a1 a2 (by omega) W hW.1 hW.2)
      have HF : Hid (∀ W, Below w.heap.size w W → Fac4 W 0 mxF ∧ Fac4 W 1 unF) := Lib.hid (fun W hW => ⟨hf.1.below hW hf.1.1, hf.2.below hW hf.2.1⟩)
      clear hf
      generalize blT true a0 a1 a2 = r at *
      generalize coT a0 a1 a2 = co at *
      go_enter Tryz.func10, Tryz.ntmps10
      go_wp2_with fail
      refine (C1 _).out.mono ?_; rintro e w1 ⟨rfl, hb1⟩
      go_wp2_with fail
      refine (C2 _ (HF.out _ hb1)).out.mono ?_; rintro e w2 ⟨rfl, hb2⟩
      go_wp2
      go_ret
      exact ⟨rfl, hb1.trans (hb2.mono hb1.size)⟩
end Go.Proofs.YtkklkcajllpjpaaGreatDoor
