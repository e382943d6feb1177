/-
  What spec.l03Turn, spec.Affine, spec.Unaffine, spec.Sub and spec.Unsub answer.
-/
import Derived.Test.YtbgjeipgmlcgaaaDoorFieldI
import Derived.Test.YtbgjeipgmlcgaaaDoorFieldS
import Derived.Test.YtbgjeipgmlcgaaaDoorPlaneMath
import Derived.Test.YtbgjeipgmlcgaaaDoorInts
import Derived.Test.YtbgjeipgmlcgaaaDoorBoxMath
import Derived.WalkKit
import Derived.LoopTactic
import Derived.OwnWalk
import Derived.WalkLawsBesides
import Derived.WalkSpells
import Derived.Outline
import Derived.Below
set_option linter.unusedVariables false
namespace Go.Proofs.YtbgjeipgmlcgaaaDoor
open Go.RowKit

theorem turn_val (b : Int) (s : Nat) (h8 : s ≤ 8) : bits .and .i64 (bits .or .i64 (wrap64 (bits .and .i64 b 255 * 2 ^ s)) (bits .and .i64 b 255 / 2 ^ (8 - s))) 255 = ((rotl (b8 b) s).toNat : Int) := by
  have hc := (b8 b).toNat_lt
  have hp : 2 ^ s ≤ 2 ^ 8 := Nat.pow_le_pow_right (by omega) h8
  have hm : (b8 b).toNat * 2 ^ s ≤ 255 * 2 ^ 8 := Nat.mul_le_mul (by omega) hp
  rw [rotl_nat _ s h8]
  simp only [and255_b8 b]
  have e1 : wrap64 (((b8 b).toNat : Int) * 2 ^ s) = (((b8 b).toNat * 2 ^ s : Nat) : Int) := by
    have e0 : ((b8 b).toNat : Int) * 2 ^ s = (((b8 b).toNat * 2 ^ s : Nat) : Int) := by rw [Int.natCast_mul, Int.natCast_pow]; rfl
    rw [e0]
    simp only [wrap64]
    omega
  have e2 : ((b8 b).toNat : Int) / 2 ^ (8 - s) = (((b8 b).toNat / 2 ^ (8 - s) : Nat) : Int) := by rw [Int.natCast_ediv, Int.natCast_pow]; rfl
  have e3 : (b8 b).toNat / 2 ^ (8 - s) < 256 := Nat.lt_of_le_of_lt (Nat.div_le_self _ _) hc
  rw [e1, e2, i64_or_nat _ _ (by omega) (by omega), i64_and255]
  have h1 : ((b8 b).toNat * 2 ^ s ||| (b8 b).toNat / 2 ^ (8 - s)) % 2 ^ 8 = ((b8 b).toNat * 2 ^ s % 2 ^ 8 ||| (b8 b).toNat / 2 ^ (8 - s) % 2 ^ 8) := Nat.or_mod_two_pow
  have h2 : (b8 b).toNat / 2 ^ (8 - s) % 2 ^ 8 = (b8 b).toNat / 2 ^ (8 - s) := Nat.mod_eq_of_lt e3
  rw [h2] at h1
  rw [show (256 : Int) = ((2 ^ 8 : Nat) : Int) by rfl, ← Int.natCast_emod, h1]
theorem Turn3_spec (b : Int) (s : Nat) (h8 : s ≤ 8) (w : World) :
    Calls Tryd.prog 90 #[.int .i64 b, .int .i64 s] w fun e w' => e = .returned (.int .i64 (rotl (b8 b) s).toNat) ∧ w = w' := by
  have HV := Lib.hid (turn_val b s h8)
  have h1 : (s : Int) ≤ 8 := by omega
  go_enter Tryd.func90, Tryd.ntmps90
  go_wp2
  go_ret
  exact ⟨ret_i HV.out, rfl⟩
theorem turn1 (b : Int) (w : World) : Calls Tryd.prog 90 #[.int .i64 b, .int .i64 1] w fun e w' => e = .returned (.int .i64 (rotl (b8 b) 1).toNat) ∧ w = w' := Turn3_spec b 1 (by omega) w
theorem turn2 (b : Int) (w : World) : Calls Tryd.prog 90 #[.int .i64 b, .int .i64 2] w fun e w' => e = .returned (.int .i64 (rotl (b8 b) 2).toNat) ∧ w = w' := Turn3_spec b 2 (by omega) w
theorem turn3 (b : Int) (w : World) : Calls Tryd.prog 90 #[.int .i64 b, .int .i64 3] w fun e w' => e = .returned (.int .i64 (rotl (b8 b) 3).toNat) ∧ w = w' := Turn3_spec b 3 (by omega) w
theorem turn4 (b : Int) (w : World) : Calls Tryd.prog 90 #[.int .i64 b, .int .i64 4] w fun e w' => e = .returned (.int .i64 (rotl (b8 b) 4).toNat) ∧ w = w' := Turn3_spec b 4 (by omega) w
theorem turn6 (b : Int) (w : World) : Calls Tryd.prog 90 #[.int .i64 b, .int .i64 6] w fun e w' => e = .returned (.int .i64 (rotl (b8 b) 6).toNat) ∧ w = w' := Turn3_spec b 6 (by omega) w
theorem aff_val (b : Int) : bits .xor .i64 (bits .xor .i64 (bits .xor .i64 (bits .xor .i64 (bits .xor .i64 (bits .and .i64 b 255) (rotl (b8 b) 1).toNat) (rotl (b8 b) 2).toNat) (rotl (b8 b) 3).toNat) (rotl (b8 b) 4).toNat) 99 = ((aff (b8 b)).toNat : Int) := by
  rw [and255_b8, i64_x, i64_x, i64_x, i64_x, show (99 : Int) = ((99 : UInt8).toNat : Int) by rfl, i64_x, aff_sp]
theorem unaff_val (b : Int) : bits .xor .i64 (bits .xor .i64 (bits .xor .i64 ((rotl (b8 b) 1).toNat) (rotl (b8 b) 3).toNat) (rotl (b8 b) 6).toNat) 5 = ((unaff (b8 b)).toNat : Int) := by
  rw [i64_x, i64_x, show (5 : Int) = ((5 : UInt8).toNat : Int) by rfl, i64_x, unaff_sp]
theorem Affine_spec (b : Int) (w : World) :
    Calls Tryd.prog 84 #[.int .i64 b] w fun e w' => e = .returned (.int .i64 (aff (b8 b)).toNat) ∧ w = w' := by
  have HA := Lib.hid (aff_val b)
  go_enter Tryd.func84, Tryd.ntmps84
  go_wp2_with fail
  refine (turn1 b _).mono ?_; rintro e w' ⟨rfl, rfl⟩
  go_wp2_with fail
  refine (turn2 b _).mono ?_; rintro e w' ⟨rfl, rfl⟩
  go_wp2_with fail
  refine (turn3 b _).mono ?_; rintro e w' ⟨rfl, rfl⟩
  go_wp2_with fail
  refine (turn4 b _).mono ?_; rintro e w' ⟨rfl, rfl⟩
  go_wp2
  go_ret
  exact ⟨ret_i HA.out, rfl⟩
theorem Affine_spec8 (c : UInt8) (w : World) :
    Calls Tryd.prog 84 #[.int .i64 c.toNat] w fun e w' => e = .returned (.int .i64 (aff c).toNat) ∧ w = w' := by
  have := Affine_spec (c.toNat : Int) w
  rwa [b8_of] at this
theorem Inverse_spec8 (c : UInt8) (w : World) :
    Calls Tryd.prog 85 #[.int .i64 c.toNat] w fun e w' => e = .returned (.int .i64 (inv c).toNat) ∧ w = w' := by
  have := Inverse_spec (c.toNat : Int) w
  rwa [b8_of] at this
theorem Sub_spec (b : Int) (w : World) :
    Calls Tryd.prog 75 #[.int .i64 b] w fun e w' => e = .returned (.int .i64 (sbox (b8 b)).toNat) ∧ w = w' := by
  go_enter Tryd.func75, Tryd.ntmps75
  go_wp2_with (first | (go_at_call 85; refine (Inverse_spec b _).mono ?_; rintro e w' ⟨rfl, rfl⟩) | (go_at_call 84; refine (Affine_spec8 _ _).mono ?_; rintro e w' ⟨rfl, rfl⟩))
  go_ret
  exact ⟨rfl, rfl⟩
end Go.Proofs.YtbgjeipgmlcgaaaDoor
