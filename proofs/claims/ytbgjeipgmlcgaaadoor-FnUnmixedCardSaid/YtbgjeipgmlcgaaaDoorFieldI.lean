/-
  What impl.twice, impl.times, impl.power, impl.inverse and impl.parity answer, and their faces.
-/
import Derived.Test.YtbgjeipgmlcgaaaDoorProg
import Derived.Test.YtbgjeipgmlcgaaaDoorFieldMath
import Derived.WalkKit
import Derived.LoopTactic
import Derived.OwnWalk
import Derived.WalkLawsBesides
import Derived.WalkSpells
import Derived.Outline
import Derived.Below
set_option linter.unusedVariables false
namespace Go.Proofs.YtbgjeipgmlcgaaaDoor
open Go.RowKit

theorem ret_i {k : IntKind} {a b : Int} (h : a = b) : Ending.returned (.int k a) = .returned (.int k b) := by rw [h]
theorem val_i {k : IntKind} {a b : Int} (h : a = b) : Value.int k a = .int k b := by rw [h]
theorem tw_hi : ∀ n : Fin 256, (bits .and .u8 (n.val : Int) 128 != 0) = true → bits .xor .u8 ((n.val : Int) * 2 % 256) 27 = ((tw (UInt8.ofNat n.val)).toNat : Int) := by decide +kernel
theorem tw_lo : ∀ n : Fin 256, (bits .and .u8 (n.val : Int) 128 != 0) = false → (n.val : Int) * 2 % 256 = ((tw (UInt8.ofNat n.val)).toNat : Int) := by decide +kernel
theorem tw_hi' (c : UInt8) (h : (bits .and .u8 (c.toNat : Int) 128 != 0) = true) : bits .xor .u8 ((c.toNat : Int) * 2 % 256) 27 = ((tw c).toNat : Int) := by
  have := tw_hi ⟨c.toNat, c.toNat_lt⟩ h; simpa using this
theorem tw_lo' (c : UInt8) (h : (bits .and .u8 (c.toNat : Int) 128 != 0) = false) : (c.toNat : Int) * 2 % 256 = ((tw c).toNat : Int) := by
  have := tw_lo ⟨c.toNat, c.toNat_lt⟩ h; simpa using this
theorem twice_impl (c : UInt8) (w : World) :
    Calls Tryd.prog 83 #[.int .u8 c.toNat] w fun e w' => e = .returned (.int .u8 (tw c).toNat) ∧ w = w' := by
  go_enter Tryd.func83, Tryd.ntmps83
  go_wp2
  · go_ret
    exact ⟨ret_i (tw_hi' c (by assumption)), rfl⟩
  · go_ret
    exact ⟨ret_i (tw_lo' c (by assumption)), rfl⟩
theorem u8_one (b : Nat) (h : b < 256) : bits .and .u8 (b : Int) 1 = ((b % 2 : Nat) : Int) := by
  rw [show (1 : Int) = ((1 : Nat) : Int) by rfl, u8_and_nat b 1 h (by omega), nat_mask1]
theorem u8_x (c d : UInt8) : bits .xor .u8 (c.toNat : Int) (d.toNat : Int) = ((c ^^^ d).toNat : Int) := by
  rw [u8_xor_nat _ _ c.toNat_lt d.toNat_lt, UInt8.toNat_xor]

theorem tm_one (n : Nat) (p a : UInt8) (b : Nat) (h : 0 < n) (h1 : b % 2 = 1) : tm (n - 1) (p ^^^ a) (tw a) (b / 2) = tm n p a b := by
  obtain ⟨m, rfl⟩ : ∃ m, n = m + 1 := ⟨n - 1, by omega⟩
  simp [tm, h1]
theorem tm_none (n : Nat) (p a : UInt8) (b : Nat) (h : 0 < n) (h1 : ¬ b % 2 = 1) : tm (n - 1) p (tw a) (b / 2) = tm n p a b := by
  obtain ⟨m, rfl⟩ : ∃ m, n = m + 1 := ⟨n - 1, by omega⟩
  simp [tm, h1]
theorem half_lt (n b : Nat) (h0 : 0 < n) (h : b < 2 ^ n) : b / 2 < 2 ^ (n - 1) := by
  obtain ⟨m, rfl⟩ : ∃ m, n = m + 1 := ⟨n - 1, by omega⟩
  rw [Nat.pow_succ] at h
  simp only [Nat.add_sub_cancel]
  omega
theorem pos_of (n b : Nat) (h : b < 2 ^ n) (h0 : ¬ b = 0) : 0 < n := by
  rcases n with _ | n
  · exact absurd (by simpa using h) h0
  · omega

set_option maxHeartbeats 400000 in
theorem times_impl (a b : UInt8) (w : World) :
    Calls Tryd.prog 73 #[.int .u8 a.toNat, .int .u8 b.toNat] w fun e w' => e = .returned (.int .u8 (mul a b).toNat) ∧ w = w' := by
  have hb := b.toNat_lt
  go_enter Tryd.func73, Tryd.ntmps73
  go_wp2
  go_loop [0, 1, 5] (fun x y p => ∃ (n : Nat) (a' p' : UInt8) (b' : Nat), n ≤ 8 ∧ b' < 2 ^ n ∧ b' < 256 ∧ x = .int .u8 a'.toNat ∧ y = .int .u8 b' ∧ p = .int .u8 p'.toNat ∧ Hid (tm n p' a' b' = mul a b)) (fun _ y _ => (intOf y).toNat)
  case atStart => exact ⟨8, a, 0, b.toNat, by omega, hb, hb, rfl, rfl, rfl, Lib.hid rfl⟩
  case round =>
    obtain ⟨n, a', p', b', hn, hb1, hb2, rfl, rfl, rfl, HM⟩ := hrel
    have HX := Lib.hid (u8_x p' a')
    have hone := u8_one b' hb2
    by_cases h0 : b' = 0
    · subst h0
      go_wp2
      go_ret
      exact ⟨ret_i (by rw [← HM.out, tm_zero]), rfl⟩
    · have h0' : ((b' : Int) != 0) = true := by simpa using h0
      have hb3 : 0 < b' := by omega
      have HN := Lib.hid (pos_of n b' hb1 h0)
      have HB := Lib.hid (half_lt n b' HN.out hb1)
      clear hb1
      by_cases h1 : b' % 2 = 1
      · have HT := Lib.hid (tm_one n p' a' b' HN.out h1)
        rw [h1] at hone
        go_wp2_with (go_at_call 83; refine (twice_impl _ _).mono ?_; rintro e w' ⟨rfl, rfl⟩)
        go_round
        case rel => exact ⟨n - 1, tw a', p' ^^^ a', b' / 2, by omega, HB.out, by omega, rfl, by go_num, val_i HX.out, Lib.hid (HT.out.trans HM.out)⟩
        case measure => simp [intOf]; omega
      · have HT := Lib.hid (tm_none n p' a' b' HN.out h1)
        rw [show b' % 2 = 0 by omega] at hone
        go_wp2_with (go_at_call 83; refine (twice_impl _ _).mono ?_; rintro e w' ⟨rfl, rfl⟩)
        go_round
        case rel => exact ⟨n - 1, tw a', p', b' / 2, by omega, HB.out, by omega, rfl, by go_num, rfl, Lib.hid (HT.out.trans HM.out)⟩
        case measure => simp [intOf]; omega

theorem pw_one (n : Nat) (p a : UInt8) (b : Nat) (h : 0 < n) (h1 : b % 2 = 1) : pw (n - 1) (mul p a) (mul a a) (b / 2) = pw n p a b := by
  obtain ⟨m, rfl⟩ : ∃ m, n = m + 1 := ⟨n - 1, by omega⟩
  simp [pw, h1]
theorem pw_none (n : Nat) (p a : UInt8) (b : Nat) (h : 0 < n) (h1 : ¬ b % 2 = 1) : pw (n - 1) p (mul a a) (b / 2) = pw n p a b := by
  obtain ⟨m, rfl⟩ : ∃ m, n = m + 1 := ⟨n - 1, by omega⟩
  simp [pw, h1]
theorem u64_one (b : Nat) (h : b < 18446744073709551616) : bits .and .u64 (b : Int) 1 = ((b % 2 : Nat) : Int) := by
  rw [show (1 : Int) = ((1 : Nat) : Int) by rfl, u64_and_nat b 1 h (by omega), nat_mask1]
def B64 (n : Nat) : Prop := n < 18446744073709551616
set_option maxHeartbeats 400000 in
theorem power_impl (a : UInt8) (b : Nat) (hb : b < 18446744073709551616) (w : World) :
    Calls Tryd.prog 94 #[.int .u8 a.toNat, .int .u64 b] w fun e w' => e = .returned (.int .u8 (power a b).toNat) ∧ w = w' := by
  have HB0 : Hid (b < 2 ^ 64) := Lib.hid (by simpa using hb)
  go_enter Tryd.func94, Tryd.ntmps94
  go_wp2
  go_loop [0, 1, 5] (fun x y p => ∃ (n : Nat) (a' p' : UInt8) (b' : Nat), n ≤ 64 ∧ Hid (b' < 2 ^ n) ∧ b' < 18446744073709551616 ∧ x = .int .u8 a'.toNat ∧ y = .int .u64 b' ∧ p = .int .u8 p'.toNat ∧ Hid (pw n p' a' b' = power a b)) (fun _ y _ => (intOf y).toNat)
  case atStart => exact ⟨64, a, 1, b, by omega, HB0, hb, rfl, rfl, rfl, Lib.hid rfl⟩
  case round =>
    obtain ⟨n, a', p', b', hn, hb1, hb2, rfl, rfl, rfl, HM⟩ := hrel
    have hone := u64_one b' hb2
    by_cases h0 : b' = 0
    · subst h0
      go_wp2
      go_ret
      exact ⟨ret_i (by rw [← HM.out, pw_zero]), rfl⟩
    · have h0' : ((b' : Int) != 0) = true := by simpa using h0
      have hb3 : 0 < b' := by omega
      have HN := Lib.hid (pos_of n b' hb1.out h0)
      have HB := Lib.hid (half_lt n b' HN.out hb1.out)
      clear hb1
      by_cases h1 : b' % 2 = 1
      · have HT := Lib.hid (pw_one n p' a' b' HN.out h1)
        rw [h1] at hone
        go_wp2_with (go_at_call 73; refine (times_impl _ _ _).mono ?_; rintro e w' ⟨rfl, rfl⟩)
        go_round
        case rel => exact ⟨n - 1, mul a' a', mul p' a', b' / 2, by omega, HB, by omega, rfl, by go_num, rfl, Lib.hid (HT.out.trans HM.out)⟩
        case measure => simp [intOf]; omega
      · have HT := Lib.hid (pw_none n p' a' b' HN.out h1)
        rw [show b' % 2 = 0 by omega] at hone
        go_wp2_with (go_at_call 73; refine (times_impl _ _ _).mono ?_; rintro e w' ⟨rfl, rfl⟩)
        go_round
        case rel => exact ⟨n - 1, mul a' a', p', b' / 2, by omega, HB, by omega, rfl, by go_num, rfl, Lib.hid (HT.out.trans HM.out)⟩
        case measure => simp [intOf]; omega

theorem twice_mod (a : Int) (w : World) :
    Calls Tryd.prog 83 #[.int .u8 (a % 256)] w fun e w' => e = .returned (.int .u8 (tw (b8 a)).toNat) ∧ w = w' := by
  rw [← b8_val]; exact twice_impl _ w
theorem times_mod (a b : Int) (w : World) :
    Calls Tryd.prog 73 #[.int .u8 (a % 256), .int .u8 (b % 256)] w fun e w' => e = .returned (.int .u8 (mul (b8 a) (b8 b)).toNat) ∧ w = w' := by
  rw [← b8_val, ← b8_val]; exact times_impl _ _ w
theorem power_mod (a : Int) (n : Nat) (hn : n < 18446744073709551616) (w : World) :
    Calls Tryd.prog 94 #[.int .u8 (a % 256), .int .u64 n] w fun e w' => e = .returned (.int .u8 (power (b8 a) n).toNat) ∧ w = w' := by
  rw [← b8_val]; exact power_impl _ n hn w
/-- Power as the document tells it: 0 of a number below 0. -/
def Pow (a : UInt8) (n : Int) : UInt8 := if n < 0 then 0 else power a n.toNat
theorem Pow_neg (a : UInt8) (n : Int) (h : n < 0) : Pow a n = 0 := if_pos h
theorem Pow_nat (a : UInt8) (n : Nat) : Pow a n = power a n := by unfold Pow; rw [if_neg (by omega)]; simp
theorem Power_impl (a n : Int) (hn : -9223372036854775808 ≤ n) (hn2 : n ≤ 9223372036854775807) (w : World) :
    Calls Tryd.prog 89 #[.int .i64 a, .int .i64 n] w fun e w' => e = .returned (.int .i64 (Pow (b8 a) n).toNat) ∧ w = w' := by
  by_cases h0 : n < 0
  · have HP := Lib.hid (Pow_neg (b8 a) n h0)
    go_enter Tryd.func89, Tryd.ntmps89
    go_wp2
    go_ret
    exact ⟨ret_i (by rw [HP.out]; rfl), rfl⟩
  · obtain ⟨m, rfl⟩ := Int.eq_ofNat_of_zero_le (Int.not_lt.1 h0)
    have HP := Lib.hid (Pow_nat (b8 a) m)
    have h2 := (power (b8 a) m).toNat_lt
    have h3 : ¬ ((m : Int) < 0) := h0
    go_enter Tryd.func89, Tryd.ntmps89
    go_wp2_with (go_at_call 94; refine (power_mod _ m (by omega) _).mono ?_; rintro e w' ⟨rfl, rfl⟩)
    go_ret
    exact ⟨ret_i (by rw [HP.out]), rfl⟩
end Go.Proofs.YtbgjeipgmlcgaaaDoor
