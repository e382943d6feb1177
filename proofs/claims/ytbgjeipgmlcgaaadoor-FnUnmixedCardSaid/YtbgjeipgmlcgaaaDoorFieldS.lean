/-
  What spec.Twice, spec.Times, spec.Power and spec.Inverse answer.
-/
import Derived.Test.YtbgjeipgmlcgaaaDoorProg
import Derived.Test.YtbgjeipgmlcgaaaDoorFieldMath
import Derived.Test.YtbgjeipgmlcgaaaDoorFieldI
import Derived.Test.YtbgjeipgmlcgaaaDoorPlaneMath
import Derived.WalkKit
import Derived.LoopTactic
import Derived.OwnWalk
import Derived.WalkLawsBesides
import Derived.WalkSpells
import Derived.Outline
import Derived.Below
set_option linter.unusedVariables false
namespace Go.Proofs.YtbgjeipgmlcgaaaDoor
open Go.RowKit

theorem i64_mask (n : Int) (m : Nat) (hm : m ≤ 62) : bits .and .i64 n ((2 ^ m - 1 : Nat) : Int) = n % ((2 ^ m : Nat) : Int) := by
  have hp : (2 : Nat) ^ m ≤ 2 ^ 62 := Nat.pow_le_pow_right (by omega) hm
  have hp0 : 0 < (2 : Nat) ^ m := Nat.two_pow_pos m
  have h127 : (BitVec.ofInt 64 ((2 ^ m - 1 : Nat) : Int)).toNat = 2 ^ m - 1 := by
    rw [BitVec.ofInt_natCast, BitVec.toNat_ofNat]; exact Nat.mod_eq_of_lt (by omega)
  have key : (BitVec.ofInt 64 n &&& BitVec.ofInt 64 ((2 ^ m - 1 : Nat) : Int)).toNat = (n % ((2 ^ 64 : Nat) : Int)).toNat % 2 ^ m := by
    rw [BitVec.toNat_and, BitVec.toNat_ofInt, h127, Nat.and_two_pow_sub_one_eq_mod]
  show IntKind.i64.wrap ((BitVec.ofInt 64 n &&& BitVec.ofInt 64 ((2 ^ m - 1 : Nat) : Int)).toNat : Nat) = _
  have hlt : (n % ((2 ^ 64 : Nat) : Int)).toNat % 2 ^ m < 2 ^ m := Nat.mod_lt _ hp0
  have hdvd : ((2 ^ m : Nat) : Int) ∣ ((2 ^ 64 : Nat) : Int) := Int.natCast_dvd_natCast.2 (Nat.pow_dvd_pow 2 (by omega))
  have he : (((n % ((2 ^ 64 : Nat) : Int)).toNat % 2 ^ m : Nat) : Int) = n % ((2 ^ m : Nat) : Int) := by
    rw [Int.natCast_emod, Int.toNat_of_nonneg (Int.emod_nonneg _ (by omega)), Int.emod_emod_of_dvd _ hdvd]
  rw [key, IntKind.wrap_i64, ← he]
  generalize (n % ((2 ^ 64 : Nat) : Int)).toNat % 2 ^ m = r at *
  omega
theorem i64_and255 (n : Int) : bits .and .i64 n 255 = n % 256 := i64_mask n 8 (by omega)
theorem i64_and1 (n : Int) : bits .and .i64 n 1 = n % 2 := i64_mask n 1 (by omega)
theorem sp_hi0 : ∀ n : Fin 256, (bits .and .i64 (n.val : Int) 128 != 0) = true → bits .xor .i64 (wrap64 ((n.val : Int) * 2) % 256) 27 = ((tw (UInt8.ofNat n.val)).toNat : Int) := by decide +kernel
theorem sp_lo0 : ∀ n : Fin 256, (bits .and .i64 (n.val : Int) 128 != 0) = false → wrap64 ((n.val : Int) * 2) = ((tw (UInt8.ofNat n.val)).toNat : Int) := by decide +kernel
theorem sp_hi (a : Int) (h : (bits .and .i64 (bits .and .i64 a 255) 128 != 0) = true) : bits .xor .i64 (bits .and .i64 (wrap64 (bits .and .i64 a 255 * 2)) 255) 27 = ((tw (b8 a)).toNat : Int) := by
  simp only [i64_and255] at h ⊢
  have := sp_hi0 ⟨(a % 256).toNat, by omega⟩
  simp only [Int.toNat_of_nonneg (show 0 ≤ a % 256 by omega)] at this
  exact this h
theorem sp_lo (a : Int) (h : (bits .and .i64 (bits .and .i64 a 255) 128 != 0) = false) : wrap64 (bits .and .i64 a 255 * 2) = ((tw (b8 a)).toNat : Int) := by
  simp only [i64_and255] at h ⊢
  have := sp_lo0 ⟨(a % 256).toNat, by omega⟩
  simp only [Int.toNat_of_nonneg (show 0 ≤ a % 256 by omega)] at this
  exact this h
theorem Twice_spec (a : Int) (w : World) :
    Calls Tryd.prog 74 #[.int .i64 a] w fun e w' => e = .returned (.int .i64 (tw (b8 a)).toNat) ∧ w = w' := by
  go_enter Tryd.func74, Tryd.ntmps74
  go_wp2
  · go_ret
    exact ⟨ret_i (sp_hi a (by assumption)), rfl⟩
  · go_ret
    exact ⟨ret_i (sp_lo a (by assumption)), rfl⟩

theorem Twice_spec8 (a : UInt8) (w : World) :
    Calls Tryd.prog 74 #[.int .i64 a.toNat] w fun e w' => e = .returned (.int .i64 (tw a).toNat) ∧ w = w' := by
  have := Twice_spec (a.toNat : Int) w
  rwa [b8_of] at this
theorem and255_b8 (a : Int) : bits .and .i64 a 255 = ((b8 a).toNat : Int) := by rw [i64_and255, b8_val]
theorem test_bit (b : Int) (k : Nat) (hk : k < 8) : (bits .and .i64 (b / 2 ^ k) 1 == 1) = decide ((b8 b).toNat / 2 ^ k % 2 = 1) := by
  rw [i64_and1, bit_b8 b k hk]
  generalize (b8 b).toNat / 2 ^ k % 2 = m
  rw [Bool.eq_iff_iff]
  simp
  omega
theorem tm_up (k : Nat) (p a : UInt8) (b : Nat) (hk : k < 8) : tm (8 - (k + 1)) (if b / 2 ^ k % 2 = 1 then p ^^^ a else p) (tw a) (b / 2 ^ (k + 1)) = tm (8 - k) p a (b / 2 ^ k) := by
  rw [show 8 - k = (8 - (k + 1)) + 1 by omega, tm, Nat.div_div_eq_div_mul, ← Nat.pow_succ]
set_option maxHeartbeats 400000 in
theorem Times_spec (a b : Int) (w : World) :
    Calls Tryd.prog 61 #[.int .i64 a, .int .i64 b] w fun e w' => e = .returned (.int .i64 (mul (b8 a) (b8 b)).toNat) ∧ w = w' := by
  go_enter Tryd.func61, Tryd.ntmps61
  go_wp2
  go_loop [0, 5, 6] (fun x p i => ∃ (k : Nat) (a' p' : UInt8), k ≤ 8 ∧ x = .int .i64 a'.toNat ∧ i = .int .i64 k ∧ p = .int .i64 p'.toNat ∧ Hid (tm (8 - k) p' a' ((b8 b).toNat / 2 ^ k) = mul (b8 a) (b8 b))) (fun _ _ i => 8 - (intOf i).toNat)
  case atStart => exact ⟨0, b8 a, 0, by omega, val_i (and255_b8 a), rfl, rfl, Lib.hid (by simp [mul])⟩
  case round =>
    obtain ⟨k, a', p', hk, rfl, rfl, rfl, HM⟩ := hrel
    by_cases hlt : k < 8
    · have HU := Lib.hid (tm_up k p' a' (b8 b).toNat hlt)
      have HX := Lib.hid (i64_x p' a')
      have HB := Lib.hid (test_bit b k hlt)
      by_cases h1 : (b8 b).toNat / 2 ^ k % 2 = 1
      · have hT : (bits .and .i64 (b / 2 ^ k) 1 == 1) = true := by rw [HB.out]; simpa using h1
        have HU := Lib.hid (if_pos (t := p' ^^^ a') (e := p') h1 ▸ HU.out)
        clear HB h1
        go_wp2_with (go_at_call 74; refine (Twice_spec8 _ _).mono ?_; rintro e w' ⟨rfl, rfl⟩)
        go_round
        case rel => exact ⟨k + 1, tw a', p' ^^^ a', by omega, rfl, by go_num, val_i HX.out, Lib.hid (HU.out.trans HM.out)⟩
        case measure => simp [intOf]; omega
      · have hT : (bits .and .i64 (b / 2 ^ k) 1 == 1) = false := by rw [HB.out]; simpa using h1
        have HU := Lib.hid (if_neg (t := p' ^^^ a') (e := p') h1 ▸ HU.out)
        clear HB h1
        go_wp2_with (go_at_call 74; refine (Twice_spec8 _ _).mono ?_; rintro e w' ⟨rfl, rfl⟩)
        go_round
        case rel => exact ⟨k + 1, tw a', p', by omega, rfl, by go_num, rfl, Lib.hid (HU.out.trans HM.out)⟩
        case measure => simp [intOf]; omega
    · go_wp2
      go_ret
      exact ⟨ret_i (by rw [← HM.out, show 8 - k = 0 by omega]; rfl), rfl⟩
theorem Times_spec8 (a b : UInt8) (w : World) :
    Calls Tryd.prog 61 #[.int .i64 a.toNat, .int .i64 b.toNat] w fun e w' => e = .returned (.int .i64 (mul a b).toNat) ∧ w = w' := by
  have := Times_spec (a.toNat : Int) (b.toNat : Int) w
  rwa [b8_of, b8_of] at this
theorem i64_one (b : Nat) : bits .and .i64 (b : Int) 1 = ((b % 2 : Nat) : Int) := by rw [i64_and1]; omega
set_option maxHeartbeats 400000 in
theorem Power_spec (a n : Int) (hn : -9223372036854775808 ≤ n) (hn2 : n ≤ 9223372036854775807) (w : World) :
    Calls Tryd.prog 64 #[.int .i64 a, .int .i64 n] w fun e w' => e = .returned (.int .i64 (Pow (b8 a) n).toNat) ∧ w = w' := by
  by_cases h0 : n < 0
  · have HP := Lib.hid (Pow_neg (b8 a) n h0)
    go_enter Tryd.func64, Tryd.ntmps64
    go_wp2
    go_ret
    exact ⟨ret_i (by rw [HP.out]; rfl), rfl⟩
  · obtain ⟨m, rfl⟩ := Int.eq_ofNat_of_zero_le (Int.not_lt.1 h0)
    have HP := Lib.hid (Pow_nat (b8 a) m)
    have HB0 : Hid (m < 2 ^ 64) := Lib.hid (by simp; omega)
    have h3 : ¬ ((m : Int) < 0) := h0
    have hm : m ≤ 9223372036854775807 := by omega
    go_enter Tryd.func64, Tryd.ntmps64
    go_wp2
    go_loop [0, 1, 5] (fun x y p => ∃ (f : Nat) (a' p' : UInt8) (b' : Nat), f ≤ 64 ∧ Hid (b' < 2 ^ f) ∧ b' ≤ 9223372036854775807 ∧ x = .int .i64 a'.toNat ∧ y = .int .i64 b' ∧ p = .int .i64 p'.toNat ∧ Hid (pw f p' a' b' = power (b8 a) m)) (fun _ y _ => (intOf y).toNat)
    case atStart => exact ⟨64, b8 a, 1, m, by omega, HB0, hm, val_i (and255_b8 a), rfl, rfl, Lib.hid rfl⟩
    case round =>
      obtain ⟨f, a', p', b', hf, hb1, hb2, rfl, rfl, rfl, HM⟩ := hrel
      have hone := i64_one b'
      by_cases hz : b' = 0
      · subst hz
        go_wp2
        go_ret
        exact ⟨ret_i (by rw [HP.out, ← HM.out, pw_zero]), rfl⟩
      · have hb3 : 0 < b' := by omega
        have hb4 : (0 : Int) < (b' : Int) := by omega
        have HN := Lib.hid (pos_of f b' hb1.out hz)
        have HB := Lib.hid (half_lt f b' HN.out hb1.out)
        clear hb1
        by_cases h1 : b' % 2 = 1
        · have HT := Lib.hid (pw_one f p' a' b' HN.out h1)
          rw [h1] at hone
          go_wp2_with (go_at_call 61; refine (Times_spec8 _ _ _).mono ?_; rintro e w' ⟨rfl, rfl⟩)
          go_round
          case rel => exact ⟨f - 1, mul a' a', mul p' a', b' / 2, by omega, HB, by omega, rfl, by go_num, rfl, Lib.hid (HT.out.trans HM.out)⟩
          case measure => simp [intOf]; omega
        · have HT := Lib.hid (pw_none f p' a' b' HN.out h1)
          rw [show b' % 2 = 0 by omega] at hone
          go_wp2_with (go_at_call 61; refine (Times_spec8 _ _ _).mono ?_; rintro e w' ⟨rfl, rfl⟩)
          go_round
          case rel => exact ⟨f - 1, mul a' a', p', b' / 2, by omega, HB, by omega, rfl, by go_num, rfl, Lib.hid (HT.out.trans HM.out)⟩
          case measure => simp [intOf]; omega
theorem Inverse_spec (a : Int) (w : World) :
    Calls Tryd.prog 85 #[.int .i64 a] w fun e w' => e = .returned (.int .i64 (inv (b8 a)).toNat) ∧ w = w' := by
  have HP := Lib.hid (Pow_nat (b8 a) 254)
  go_enter Tryd.func85, Tryd.ntmps85
  go_wp2_with (go_at_call 64; refine (Power_spec a 254 (by omega) (by omega) _).mono ?_; rintro e w' ⟨rfl, rfl⟩)
  go_ret
  exact ⟨ret_i (by rw [show (254 : Int) = ((254 : Nat) : Int) by rfl, HP.out]; rfl), rfl⟩
theorem par_up (p m : Nat) (hp : p < 2) : bits .xor .i64 (p : Int) ((m % 2 : Nat) : Int) = ((p ^^^ (m % 2) : Nat) : Int) := i64_xor_nat _ _ (by omega) (by omega)
end Go.Proofs.YtbgjeipgmlcgaaaDoor
