/-
  The walks of laws.FnExactLockTable and FnExactUnlockTable.
-/
import Derived.Test.YtkklkcajllpjpaaDoorLkB
import Derived.Test.YtkklkcajllpjpaaDoorLockSp
import Derived.Test.YtkklkcajllpjpaaDoorTabLaid
set_option linter.unusedVariables false
set_option linter.unusedSimpArgs false
namespace Go.Proofs.YtkklkcajllpjpaaDoor
open Go Go.RowKit
attribute [local go_sem ↓] Go.wp_at_zero Go.wp_at_succ

set_option maxRecDepth 100000 in
theorem LockTable_spec (key s : ByteArray) (w : World) :
    Calls Tryd.prog 19 #[.string key, .string s] w fun e w' => e = .returned (.string (lockT key s)) ∧ Below w.heap.size w w' := by
  have H := Lib.hid (Lock_spec key s w)
  generalize lockT key s = x at *
  go_enter Tryd.func19, Tryd.ntmps19
  go_wp2_with fail
  refine H.out.mono ?_; rintro e w1 ⟨rfl, hb1⟩
  go_wp2
  exact ⟨rfl, _, results_tmp rfl _ _ _, rfl, hb1⟩
set_option maxRecDepth 100000 in
theorem UnlockTable_spec (key s : ByteArray) (w : World) :
    Calls Tryd.prog 21 #[.string key, .string s] w fun e w' => e = .returned (.string (unlockT key s)) ∧ Below w.heap.size w w' := by
  have H := Lib.hid (Unlock_spec key s w)
  generalize unlockT key s = x at *
  go_enter Tryd.func21, Tryd.ntmps21
  go_wp2_with fail
  refine H.out.mono ?_; rintro e w1 ⟨rfl, hb1⟩
  go_wp2
  exact ⟨rfl, _, results_tmp rfl _ _ _, rfl, hb1⟩
theorem facts_FnExactLockTable {W : World} (h : laidMetH Tryd.prog Rows.fnExactLockTableRow.laid W) : Fac4 W 1 mxF := Mx8_laid h
set_option maxRecDepth 100000 in
set_option maxHeartbeats 800000 in
theorem walk_FnExactLockTable (a0 a1 : ByteArray) (w0 : a0.size ≤ maxLen) (w1 : a1.size ≤ maxLen) (w : World) (hf : Fac4 w 1 mxF) :
    Calls Tryd.prog 4 #[.string a0, .string a1] w fun e w' => e = .returned (.bool true) ∧ Below w.heap.size w w' := by
  unfold maxLen at w0 w1
  by_cases hs : 1048576 < a0.size
  · go_enter Tryd.func4, Tryd.ntmps4
    go_wp2
    go_ret
    exact ⟨rfl, Below.refl _ _⟩
  · by_cases hs1 : 1048576 < a1.size
    · go_enter Tryd.func4, Tryd.ntmps4
      go_wp2
      go_ret
      exact ⟨rfl, Below.refl _ _⟩
    · have C1 := fun W => Lib.hid (LockTable_spec a0 a1 W)
      have C2 := fun W hW => Lib.hid (LockTable_impl a0 a1 W hW)
      have HF : Hid (∀ W, Below w.heap.size w W → Fac4 W 1 mxF) := Lib.hid (fun W hW => hf.below hW hf.1)
      clear hf
      generalize lockT a0 a1 = r at *
      go_enter Tryd.func4, Tryd.ntmps4
      go_wp2_with fail
      refine (C1 _).out.mono ?_; rintro e w1 ⟨rfl, hb1⟩
      go_wp2_with fail
      refine (C2 _ (HF.out _ hb1)).out.mono ?_; rintro e w2 ⟨rfl, hb2⟩
      go_wp2
      go_ret
      exact ⟨rfl, hb1.trans (hb2.mono hb1.size)⟩
theorem facts_FnExactUnlockTable {W : World} (h : laidMetH Tryd.prog Rows.fnExactUnlockTableRow.laid W) : Fac4 W 0 unF := Un8_laid h
set_option maxRecDepth 100000 in
set_option maxHeartbeats 800000 in
theorem walk_FnExactUnlockTable (a0 a1 : ByteArray) (w0 : a0.size ≤ maxLen) (w1 : a1.size ≤ maxLen) (w : World) (hf : Fac4 w 0 unF) :
    Calls Tryd.prog 5 #[.string a0, .string a1] w fun e w' => e = .returned (.bool true) ∧ Below w.heap.size w w' := by
  unfold maxLen at w0 w1
  by_cases hs : 1048576 < a0.size
  · go_enter Tryd.func5, Tryd.ntmps5
    go_wp2
    go_ret
    exact ⟨rfl, Below.refl _ _⟩
  · by_cases hs1 : 1048576 < a1.size
    · go_enter Tryd.func5, Tryd.ntmps5
      go_wp2
      go_ret
      exact ⟨rfl, Below.refl _ _⟩
    · have C1 := fun W => Lib.hid (UnlockTable_spec a0 a1 W)
      have C2 := fun W hW => Lib.hid (UnlockTable_impl a0 a1 W hW)
      have HF : Hid (∀ W, Below w.heap.size w W → Fac4 W 0 unF) := Lib.hid (fun W hW => hf.below hW hf.1)
      clear hf
      generalize unlockT a0 a1 = r at *
      go_enter Tryd.func5, Tryd.ntmps5
      go_wp2_with fail
      refine (C1 _).out.mono ?_; rintro e w1 ⟨rfl, hb1⟩
      go_wp2_with fail
      refine (C2 _ (HF.out _ hb1)).out.mono ?_; rintro e w2 ⟨rfl, hb2⟩
      go_wp2
      go_ret
      exact ⟨rfl, hb1.trans (hb2.mono hb1.size)⟩
end Go.Proofs.YtkklkcajllpjpaaDoor
