/-
  What impl's Unpad answers.
-/
import Derived.Test.YtlmbgkcchekdmaaPadI
set_option linter.unusedVariables false
set_option linter.unusedSimpArgs false
namespace Go.Proofs.Ytlmbgkcchekdmaa
open Go.RowKit

theorem size_zero (s : ByteArray) (h : s.size = 0) : s = ⟨#[]⟩ := by
  apply ByteArray.ext
  exact Array.eq_empty_of_size_eq_zero h
theorem text_some (s : ByteArray) (h : 0 < s.size) : s.toList.isEmpty = false := by
  rw [ByteArray.toList_eq, List.isEmpty_eq_false_iff]
  intro e
  have h2 := congrArg List.length e
  simp at h2
  have h3 : s.size = 0 := by rw [h2]; rfl
  omega
set_option maxRecDepth 100000 in
set_option maxHeartbeats 1600000 in
theorem Unpad_none_impl (s : ByteArray) (h : ¬ unOk s) (hs : s.size ≤ 1073741824) (w : World) :
    Calls Try.prog 15 #[.string s] w fun e w' => e = .returned (.tuple #[.string ⟨#[]⟩, .bool false]) ∧ Below w.heap.size w w' := by
  by_cases h0 : s.size = 0
  · obtain rfl := size_zero s h0
    clear h h0 hs
    go_enter Try.func15, Try.ntmps15
    go_wp2
    go_ret2
    exact ⟨rfl, Below.refl _ _⟩
  · have hx := fun W => last_run s (by omega) W
    have hemp := text_some s (by omega)
    have h1 : (1 : Int) ≤ (s.size : Int) := by omega
    have h2 : ¬ (s.size : Int) = 0 := by omega
    have hl := lastN_lt s
    have hl2 : ((lastN s : Nat) : Int) < 256 := by omega
    by_cases hn : s.size < lastN s
    · have h3 : (s.size : Int) < ((lastN s : Nat) : Int) := by omega
      clear h h0 hl
      generalize lastN s = n at *
      go_enter Try.func15, Try.ntmps15
      go_wp2
      go_ret2
      exact ⟨rfl, Below.refl _ _⟩
    · have h3 : ¬ (s.size : Int) < ((lastN s : Nat) : Int) := by omega
      have hsl := fun W => head_run s (lastN s) (by omega) W
      have hne : ¬ padT (s.extract 0 (s.size - lastN s)) = s := fun e => h ⟨by omega, by omega, e⟩
      have HP := fun W => Lib.hid (Pad_impl (s.extract 0 (s.size - lastN s)) (by rw [ByteArray.size_extract]; omega) W)
      have h4 : (0 : Int) ≤ (s.size : Int) - ((lastN s : Nat) : Int) := by omega
      replace hne := text_ne hne
      clear h h0 hl
      generalize s.extract 0 (s.size - lastN s) = T at *
      generalize lastN s = n at *
      generalize padT T = Q at *
      go_enter Try.func15, Try.ntmps15
      go_wp2_with fail
      refine (HP _).out.mono ?_; rintro e w1 ⟨rfl, hb1⟩
      go_wp2
      go_ret2
      exact ⟨rfl, hb1⟩
set_option maxRecDepth 100000 in
set_option maxHeartbeats 1600000 in
theorem Unpad_some_impl (s : ByteArray) (h : unOk s) (hs : s.size ≤ 1073741824) (w : World) :
    Calls Try.prog 15 #[.string s] w fun e w' => e = .returned (.tuple #[.string (s.extract 0 (s.size - lastN s)), .bool true]) ∧ Below w.heap.size w w' := by
  obtain ⟨h0, hn, he⟩ := h
  have hx := fun W => last_run s (by omega) W
  have hemp := text_some s h0
  have h1 : (1 : Int) ≤ (s.size : Int) := by omega
  have h2 : ¬ (s.size : Int) = 0 := by omega
  have hl := lastN_lt s
  have hl2 : ((lastN s : Nat) : Int) < 256 := by omega
  have h3 : ¬ (s.size : Int) < ((lastN s : Nat) : Int) := by omega
  have hsl := fun W => head_run s (lastN s) (by omega) W
  have HP := fun W => Lib.hid (Pad_impl (s.extract 0 (s.size - lastN s)) (by rw [ByteArray.size_extract]; omega) W)
  have HC := fun W => Lib.hid (clone_any (s.extract 0 (s.size - lastN s)) W (by rw [ByteArray.size_extract]; omega))
  have h4 : (0 : Int) ≤ (s.size : Int) - ((lastN s : Nat) : Int) := by omega
  rw [he] at HP
  clear h0 hl hn he
  generalize s.extract 0 (s.size - lastN s) = T at *
  generalize lastN s = n at *
  go_enter Try.func15, Try.ntmps15
  go_wp2_with fail
  refine (HP _).out.mono ?_; rintro e w1 ⟨rfl, hb1⟩
  go_wp2_with fail
  refine (HC _).out.mono ?_; rintro e w2 ⟨rfl, hb2⟩
  have HB := Lib.hid (hb1.trans (hb2.mono hb1.size))
  clear hb1 hb2
  go_wp2
  go_ret2
  exact ⟨rfl, HB.out⟩
theorem Unpad_impl (s : ByteArray) (hs : s.size ≤ 1073741824) (w : World) :
    Calls Try.prog 15 #[.string s] w fun e w' => e = .returned (.tuple #[.string (unT s), .bool (decide (unOk s))]) ∧ Below w.heap.size w w' := by
  by_cases h : unOk s
  · rw [unT_yes s h, decide_eq_true h]; exact Unpad_some_impl s h hs w
  · rw [unT_no s h, decide_eq_false h]; exact Unpad_none_impl s h hs w
end Go.Proofs.Ytlmbgkcchekdmaa
