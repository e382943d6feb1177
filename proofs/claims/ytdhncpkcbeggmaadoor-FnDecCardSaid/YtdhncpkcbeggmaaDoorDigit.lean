/-
  What spec.l01In and spec.l01Digit answer.
-/
import Derived.Test.YtdhncpkcbeggmaaDoorProg
import Derived.WalkKit
import Derived.LoopTactic
import Derived.OwnWalk
import Derived.WalkLawsBesides
import Derived.WalkSpells
import Derived.Outline
import Derived.Below
import Derived.Lib.Hide
set_option linter.unusedVariables false
namespace Go.Proofs.YtdhncpkcbeggmaaDoor
open Go.RowKit

theorem ret_bool {a b : Bool} (h : a = b) : Ending.returned (.bool a) = .returned (.bool b) := by rw [h]

set_option maxHeartbeats 400000 in
theorem in_any (x a b : Int) (w : World) : Calls Tryd.prog 43 #[.int .i64 x, .int .i64 a, .int .i64 b] w fun e w' => e = .returned (.bool (decide (a ≤ x) && decide (x ≤ b))) ∧ w = w' := by
  by_cases h : a ≤ x
  · by_cases h2 : x ≤ b
    · have HV : Hid ((decide (a ≤ x) && decide (x ≤ b)) = true) := Lib.hid (by simp [h, h2])
      go_enter Tryd.func43, Tryd.ntmps43
      go_wp2
      go_ret
      exact ⟨ret_bool (by first | exact HV.out.symm | (simp; omega) | simp), rfl⟩
    · have HV : Hid ((decide (a ≤ x) && decide (x ≤ b)) = false) := Lib.hid (by simp [h]; omega)
      go_enter Tryd.func43, Tryd.ntmps43
      go_wp2
      go_ret
      exact ⟨ret_bool (by first | exact HV.out.symm | (simp; omega) | simp), rfl⟩
  · have HV : Hid ((decide (a ≤ x) && decide (x ≤ b)) = false) := Lib.hid (by simp; omega)
    go_enter Tryd.func43, Tryd.ntmps43
    go_wp2
    go_ret
    exact ⟨ret_bool (by first | exact HV.out.symm | (simp; omega) | simp), rfl⟩

def isDigit (c : UInt8) : Bool := decide ((48 : Int) ≤ (c.toNat : Int)) && decide ((c.toNat : Int) ≤ 57)
theorem isDigit_iff (c : UInt8) : isDigit c = true ↔ 48 ≤ c.toNat ∧ c.toNat ≤ 57 := by unfold isDigit; simp; omega
theorem in_digit (c : UInt8) (w : World) : Calls Tryd.prog 43 #[.int .i64 c.toNat, .int .i64 48, .int .i64 57] w fun e w' => e = .returned (.bool (isDigit c)) ∧ w = w' := in_any _ _ _ _
set_option maxHeartbeats 400000 in
theorem digit_any (c : UInt8) (w : World) : Calls Tryd.prog 32 #[.int .u8 c.toNat] w fun e w' => e = .returned (.bool (isDigit c)) ∧ w = w' := by
  have hc := c.toNat_lt
  have hc' : (c.toNat : Int) < 256 := by omega
  go_enter Tryd.func32, Tryd.ntmps32
  go_wp2_with (go_at_call 43; refine (in_digit c _).mono ?_; rintro e w' ⟨rfl, rfl⟩)
  go_ret
  exact ⟨rfl, rfl⟩

end Go.Proofs.YtdhncpkcbeggmaaDoor
