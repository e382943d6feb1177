/-
  What refuses: impl.refusal and spec.l12Code tell one code of an engine, a mode, a key and an iv; streams that begin: Begin.
-/
import Derived.Test.YtlcfbeoaddjmnaaSizeI
import Derived.Test.YtlcfbeoaddjmnaaKey
import Derived.Deep.RegionHeld3
set_option linter.unusedVariables false
set_option linter.unusedSimpArgs false
namespace Go.Proofs.Ytlcfbeoaddjmnaa
open Go.RowKit

/-- the first of the reasons, 0 where there is none. -/
def cdT (e m : Int) (key iv : ByteArray) : Int := if 0 ≤ e ∧ e ≤ 2 then (if 0 ≤ m ∧ m ≤ 2 then (if kOk key then (if m = 0 ∨ iv.size = 16 then 0 else 4) else 3) else 2) else 1
theorem cdT_eng (e m : Int) (key iv : ByteArray) (h : ¬ (0 ≤ e ∧ e ≤ 2)) : cdT e m key iv = 1 := if_neg h
theorem cdT_mode (e m : Int) (key iv : ByteArray) (h : 0 ≤ e ∧ e ≤ 2) (hm : ¬ (0 ≤ m ∧ m ≤ 2)) : cdT e m key iv = 2 := by unfold cdT; rw [if_pos h, if_neg hm]
theorem cdT_key (e m : Int) (key iv : ByteArray) (h : 0 ≤ e ∧ e ≤ 2) (hm : 0 ≤ m ∧ m ≤ 2) (hk : ¬ kOk key) : cdT e m key iv = 3 := by unfold cdT; rw [if_pos h, if_pos hm, if_neg hk]
theorem cdT_iv (e m : Int) (key iv : ByteArray) (h : 0 ≤ e ∧ e ≤ 2) (hm : 0 ≤ m ∧ m ≤ 2) (hk : kOk key) (hi : ¬ (m = 0 ∨ iv.size = 16)) : cdT e m key iv = 4 := by unfold cdT; rw [if_pos h, if_pos hm, if_pos hk, if_neg hi]
theorem cdT_ok (e m : Int) (key iv : ByteArray) (h : 0 ≤ e ∧ e ≤ 2) (hm : 0 ≤ m ∧ m ≤ 2) (hk : kOk key) (hi : m = 0 ∨ iv.size = 16) : cdT e m key iv = 0 := by unfold cdT; rw [if_pos h, if_pos hm, if_pos hk, if_pos hi]

set_option maxRecDepth 100000 in
theorem eng_yes (n : Int) (h : 0 ≤ n ∧ n ≤ 2) (w : World) :
    Calls Try.prog 10 #[.int .i64 n] w fun e w' => e = .returned (.bool true) ∧ w = w' := by
  obtain ⟨h0, h1⟩ := h
  go_enter Try.func10, Try.ntmps10
  go_wp2
  go_ret
  exact ⟨rfl, rfl⟩
set_option maxRecDepth 100000 in
theorem eng_no (n : Int) (h : ¬ (0 ≤ n ∧ n ≤ 2)) (w : World) :
    Calls Try.prog 10 #[.int .i64 n] w fun e w' => e = .returned (.bool false) ∧ w = w' := by
  by_cases h0 : 0 ≤ n
  · have h1 : ¬ n ≤ 2 := fun h2 => h ⟨h0, h2⟩
    clear h
    go_enter Try.func10, Try.ntmps10
    go_wp2
    go_ret
    exact ⟨rfl, rfl⟩
  · clear h
    go_enter Try.func10, Try.ntmps10
    go_wp2
    go_ret
    exact ⟨rfl, rfl⟩
theorem keyI_yes (s : ByteArray) (h : kOk s) (w : World) :
    Calls Try.prog 11 #[.string s] w fun e w' => e = .returned (.bool true) ∧ w = w' := by
  have := KeyOk_impl s w; rwa [decide_eq_true h] at this
theorem keyI_no (s : ByteArray) (h : ¬ kOk s) (w : World) :
    Calls Try.prog 11 #[.string s] w fun e w' => e = .returned (.bool false) ∧ w = w' := by
  have := KeyOk_impl s w; rwa [decide_eq_false h] at this

theorem iv_yes (m : Int) (n : Nat) (h : m = 0 ∨ n = 16) (hm : ¬ m = 0) : (n : Int) = 16 := by rcases h with h | h <;> omega

end Go.Proofs.Ytlcfbeoaddjmnaa
