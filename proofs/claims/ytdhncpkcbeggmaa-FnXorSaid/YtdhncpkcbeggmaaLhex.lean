/-
  What spec.l01In, spec.l01Digit and spec.l01Hex answer.
-/
import Derived.Test.YtdhncpkcbeggmaaProg
import Derived.Test.YtdhncpkcbeggmaaMath
import Derived.Test.YtdhncpkcbeggmaaShelf
import Derived.Test.YtdhncpkcbeggmaaKit
import Derived.Test.YtdhncpkcbeggmaaHex
import Derived.Test.YtdhncpkcbeggmaaUnhexMath
import Derived.Deep.QuietTactic
import Derived.BigQuiet
import Derived.WalkKit
import Derived.LoopTactic
import Derived.OwnWalk
import Derived.WalkLawsBesides
import Derived.WalkSpells
import Derived.Outline
import Derived.Below
import Derived.Laws.AppendOwn
import Derived.Laws.OwnMore
import Derived.Deep.OwnRows
import Derived.Deep.RegionHeld3
import Derived.Deep.DrawnRows
import Derived.Deep.AppendLies
import Derived.Deep.DeepFit
import Derived.Handy
set_option linter.unusedVariables false
namespace Go.Proofs.Ytdhncpkcbeggmaa
open Go.RowKit

attribute [local go_sem ↓] Go.wp_at_zero Go.wp_at_succ

theorem ret_bool {a b : Bool} (h : a = b) : Ending.returned (.bool a) = .returned (.bool b) := by rw [h]

set_option maxHeartbeats 400000 in
theorem in_any (x a b : Int) (w : World) : Calls Try.prog 45 #[.int .i64 x, .int .i64 a, .int .i64 b] w fun e w' => e = .returned (.bool (decide (a ≤ x) && decide (x ≤ b))) ∧ w = w' := by
  by_cases h : a ≤ x
  · by_cases h2 : x ≤ b
    · have HV : Hid ((decide (a ≤ x) && decide (x ≤ b)) = true) := Lib.hid (by simp [h, h2])
      go_enter Try.func45, Try.ntmps45
      go_wp2
      go_ret
      exact ⟨ret_bool (by first | exact HV.out.symm | (simp; omega) | simp), rfl⟩
    · have HV : Hid ((decide (a ≤ x) && decide (x ≤ b)) = false) := Lib.hid (by simp [h]; omega)
      go_enter Try.func45, Try.ntmps45
      go_wp2
      go_ret
      exact ⟨ret_bool (by first | exact HV.out.symm | (simp; omega) | simp), rfl⟩
  · have HV : Hid ((decide (a ≤ x) && decide (x ≤ b)) = false) := Lib.hid (by simp; omega)
    go_enter Try.func45, Try.ntmps45
    go_wp2
    go_ret
    exact ⟨ret_bool (by first | exact HV.out.symm | (simp; omega) | simp), rfl⟩

def isDigit (c : UInt8) : Bool := decide ((48 : Int) ≤ (c.toNat : Int)) && decide ((c.toNat : Int) ≤ 57)
theorem isDigit_iff (c : UInt8) : isDigit c = true ↔ 48 ≤ c.toNat ∧ c.toNat ≤ 57 := by unfold isDigit; simp; omega
def isLetter (c : UInt8) : Bool := decide ((97 : Int) ≤ (c.toNat : Int)) && decide ((c.toNat : Int) ≤ 102)
theorem isLetter_iff (c : UInt8) : isLetter c = true ↔ 97 ≤ c.toNat ∧ c.toNat ≤ 102 := by unfold isLetter; simp; omega
theorem in_digit (c : UInt8) (w : World) : Calls Try.prog 45 #[.int .i64 c.toNat, .int .i64 48, .int .i64 57] w fun e w' => e = .returned (.bool (isDigit c)) ∧ w = w' := in_any _ _ _ _
theorem in_letter (c : UInt8) (w : World) : Calls Try.prog 45 #[.int .i64 c.toNat, .int .i64 97, .int .i64 102] w fun e w' => e = .returned (.bool (isLetter c)) ∧ w = w' := in_any _ _ _ _

set_option maxHeartbeats 400000 in
theorem digit_any (c : UInt8) (w : World) : Calls Try.prog 44 #[.int .u8 c.toNat] w fun e w' => e = .returned (.bool (isDigit c)) ∧ w = w' := by
  have hc := c.toNat_lt
  have hc' : (c.toNat : Int) < 256 := by omega
  go_enter Try.func44, Try.ntmps44
  go_wp2_with (go_at_call 45; refine (in_digit c _).mono ?_; rintro e w' ⟨rfl, rfl⟩)
  go_ret
  exact ⟨rfl, rfl⟩

set_option maxHeartbeats 400000 in
theorem lhex_any (c : UInt8) (w : World) : Calls Try.prog 35 #[.int .u8 c.toNat] w fun e w' => e = .returned (.int .i64 (hexVal c)) ∧ w' = w := by
  have hc := c.toNat_lt
  have hc' : (c.toNat : Int) < 256 := by omega
  by_cases h : isDigit c = true
  · obtain ⟨h0, h1⟩ := (isDigit_iff c).1 h
    have HV := Lib.hid (hexVal_digit c h0 h1)
    go_enter Try.func35, Try.ntmps35
    go_wp2_with (go_at_call 44; refine (digit_any c _).mono ?_; rintro e w' ⟨rfl, rfl⟩)
    go_ret
    exact ⟨ret_int (by rw [HV.out]), rfl⟩
  · have hn : isDigit c = false := by simpa using h
    have h' : ¬ (48 ≤ c.toNat ∧ c.toNat ≤ 57) := fun hh => h ((isDigit_iff c).2 hh)
    clear h
    by_cases h2 : isLetter c = true
    · obtain ⟨h0, h1⟩ := (isLetter_iff c).1 h2
      have HV := Lib.hid (hexVal_letter c h0 h1)
      clear h'
      go_enter Try.func35, Try.ntmps35
      go_wp2_with (first | (go_at_call 44; refine (digit_any c _).mono ?_; rintro e w' ⟨rfl, rfl⟩) | (go_at_call 45; refine (in_letter c _).mono ?_; rintro e w' ⟨rfl, rfl⟩))
      go_ret
      exact ⟨ret_int (by rw [HV.out]), rfl⟩
    · have hn2 : isLetter c = false := by simpa using h2
      have HV := Lib.hid (hexVal_none c h' (fun hh => h2 ((isLetter_iff c).2 hh)))
      clear h' h2
      go_enter Try.func35, Try.ntmps35
      go_wp2_with (first | (go_at_call 44; refine (digit_any c _).mono ?_; rintro e w' ⟨rfl, rfl⟩) | (go_at_call 45; refine (in_letter c _).mono ?_; rintro e w' ⟨rfl, rfl⟩))
      go_ret
      exact ⟨ret_int (by rw [HV.out]), rfl⟩
end Go.Proofs.Ytdhncpkcbeggmaa
