/-
  Contracts and facts that the laws of this seat use: FieldI, FieldS, Ints, Cur, Byte, DrawN, AffS, BoxI, Kit, MapT, Bytes.
-/
import Derived.Test.YtbfmbdohebdbaaaGreatDoorProg
import Derived.Test.YtbfmbdohebdbaaaGreatDoorPure
import Derived.WalkKit
import Derived.LoopTactic
import Derived.OwnWalk
import Derived.WalkLawsBesides
import Derived.WalkSpells
import Derived.Outline
import Derived.Below
import Derived.Lib.Hide
import Derived.Laws.AppendOwn
import Derived.Laws.OwnMore
import Derived.Laws.MakeOwn
import Derived.Deep.QuietTactic
import Derived.Deep.Draws
import Derived.BigQuiet
import Derived.WalkSmall
import Derived.IntWalk
import Derived.StillTailTactics
import Derived.Deep.RegionHeld3
import Derived.Deep.DrawnRows
import Derived.Deep.AppendLies
import Derived.Lib.SlBytesRow
import Derived.Laws.BitsAllLaws
import Derived.Laws.Pointers
import Derived.Deep.WholeRow
import Derived.Great.Walk
import Derived.Great.BuildSlice
import Derived.Lib.Tables
import Derived.KernelRfl
import Derived.OrdersHeld
import Derived.Deep.OwnRows
import Derived.Deep.DeepFit
import Derived.Handy
set_option linter.unusedVariables false
namespace Go.Proofs.YtbfmbdohebdbaaaGreatDoor
open Go.RowKit

theorem ret_i {k : IntKind} {a b : Int} (h : a = b) : Ending.returned (.int k a) = .returned (.int k b) := by rw [h]
theorem val_i {k : IntKind} {a b : Int} (h : a = b) : Value.int k a = .int k b := by rw [h]
theorem tw_hi : ∀ n : Fin 256, (bits .and .u8 (n.val : Int) 128 != 0) = true → bits .xor .u8 ((n.val : Int) * 2 % 256) 27 = ((tw (UInt8.ofNat n.val)).toNat : Int) := by decide +kernel
theorem tw_lo : ∀ n : Fin 256, (bits .and .u8 (n.val : Int) 128 != 0) = false → (n.val : Int) * 2 % 256 = ((tw (UInt8.ofNat n.val)).toNat : Int) := by decide +kernel
theorem tw_hi' (c : UInt8) (h : (bits .and .u8 (c.toNat : Int) 128 != 0) = true) : bits .xor .u8 ((c.toNat : Int) * 2 % 256) 27 = ((tw c).toNat : Int) := by
  have := tw_hi ⟨c.toNat, c.toNat_lt⟩ h; simpa using this
theorem tw_lo' (c : UInt8) (h : (bits .and .u8 (c.toNat : Int) 128 != 0) = false) : (c.toNat : Int) * 2 % 256 = ((tw c).toNat : Int) := by
  have := tw_lo ⟨c.toNat, c.toNat_lt⟩ h; simpa using this
theorem twice_impl (c : UInt8) (w : World) :
    Calls Tryz.prog 181 #[.int .u8 c.toNat] w fun e w' => e = .returned (.int .u8 (tw c).toNat) ∧ w = w' := by
  go_enter Tryz.func181, Tryz.ntmps181
  go_wp2
  · go_ret
    exact ⟨ret_i (tw_hi' c (by assumption)), rfl⟩
  · go_ret
    exact ⟨ret_i (tw_lo' c (by assumption)), rfl⟩
theorem u8_one (b : Nat) (h : b < 256) : bits .and .u8 (b : Int) 1 = ((b % 2 : Nat) : Int) := by
  rw [show (1 : Int) = ((1 : Nat) : Int) by rfl, u8_and_nat b 1 h (by omega), nat_mask1]
theorem u8_x (c d : UInt8) : bits .xor .u8 (c.toNat : Int) (d.toNat : Int) = ((c ^^^ d).toNat : Int) := by
  rw [u8_xor_nat _ _ c.toNat_lt d.toNat_lt, UInt8.toNat_xor]

theorem tm_one (n : Nat) (p a : UInt8) (b : Nat) (h : 0 < n) (h1 : b % 2 = 1) : tm (n - 1) (p ^^^ a) (tw a) (b / 2) = tm n p a b := by
  obtain ⟨m, rfl⟩ : ∃ m, n = m + 1 := ⟨n - 1, by omega⟩
  simp [tm, h1]
theorem tm_none (n : Nat) (p a : UInt8) (b : Nat) (h : 0 < n) (h1 : ¬ b % 2 = 1) : tm (n - 1) p (tw a) (b / 2) = tm n p a b := by
  obtain ⟨m, rfl⟩ : ∃ m, n = m + 1 := ⟨n - 1, by omega⟩
  simp [tm, h1]
theorem half_lt (n b : Nat) (h0 : 0 < n) (h : b < 2 ^ n) : b / 2 < 2 ^ (n - 1) := by
  obtain ⟨m, rfl⟩ : ∃ m, n = m + 1 := ⟨n - 1, by omega⟩
  rw [Nat.pow_succ] at h
  simp only [Nat.add_sub_cancel]
  omega
theorem pos_of (n b : Nat) (h : b < 2 ^ n) (h0 : ¬ b = 0) : 0 < n := by
  rcases n with _ | n
  · exact absurd (by simpa using h) h0
  · omega

set_option maxHeartbeats 400000 in
theorem times_impl (a b : UInt8) (w : World) :
    Calls Tryz.prog 163 #[.int .u8 a.toNat, .int .u8 b.toNat] w fun e w' => e = .returned (.int .u8 (mul a b).toNat) ∧ w = w' := by
  have hb := b.toNat_lt
  go_enter Tryz.func163, Tryz.ntmps163
  go_wp2
  go_loop [0, 1, 5] (fun x y p => ∃ (n : Nat) (a' p' : UInt8) (b' : Nat), n ≤ 8 ∧ b' < 2 ^ n ∧ b' < 256 ∧ x = .int .u8 a'.toNat ∧ y = .int .u8 b' ∧ p = .int .u8 p'.toNat ∧ Hid (tm n p' a' b' = mul a b)) (fun _ y _ => (intOf y).toNat)
  case atStart => exact ⟨8, a, 0, b.toNat, by omega, hb, hb, rfl, rfl, rfl, Lib.hid rfl⟩
  case round =>
    obtain ⟨n, a', p', b', hn, hb1, hb2, rfl, rfl, rfl, HM⟩ := hrel
    have HX := Lib.hid (u8_x p' a')
    have hone := u8_one b' hb2
    by_cases h0 : b' = 0
    · subst h0
      go_wp2
      go_ret
      exact ⟨ret_i (by rw [← HM.out, tm_zero]), rfl⟩
    · have h0' : ((b' : Int) != 0) = true := by simpa using h0
      have hb3 : 0 < b' := by omega
      have HN := Lib.hid (pos_of n b' hb1 h0)
      have HB := Lib.hid (half_lt n b' HN.out hb1)
      clear hb1
      by_cases h1 : b' % 2 = 1
      · have HT := Lib.hid (tm_one n p' a' b' HN.out h1)
        rw [h1] at hone
        go_wp2_with (go_at_call 181; refine (twice_impl _ _).mono ?_; rintro e w' ⟨rfl, rfl⟩)
        go_round
        case rel => exact ⟨n - 1, tw a', p' ^^^ a', b' / 2, by omega, HB.out, by omega, rfl, by go_num, val_i HX.out, Lib.hid (HT.out.trans HM.out)⟩
        case measure => simp [intOf]; omega
      · have HT := Lib.hid (tm_none n p' a' b' HN.out h1)
        rw [show b' % 2 = 0 by omega] at hone
        go_wp2_with (go_at_call 181; refine (twice_impl _ _).mono ?_; rintro e w' ⟨rfl, rfl⟩)
        go_round
        case rel => exact ⟨n - 1, tw a', p', b' / 2, by omega, HB.out, by omega, rfl, by go_num, rfl, Lib.hid (HT.out.trans HM.out)⟩
        case measure => simp [intOf]; omega

theorem pw_one (n : Nat) (p a : UInt8) (b : Nat) (h : 0 < n) (h1 : b % 2 = 1) : pw (n - 1) (mul p a) (mul a a) (b / 2) = pw n p a b := by
  obtain ⟨m, rfl⟩ : ∃ m, n = m + 1 := ⟨n - 1, by omega⟩
  simp [pw, h1]
theorem pw_none (n : Nat) (p a : UInt8) (b : Nat) (h : 0 < n) (h1 : ¬ b % 2 = 1) : pw (n - 1) p (mul a a) (b / 2) = pw n p a b := by
  obtain ⟨m, rfl⟩ : ∃ m, n = m + 1 := ⟨n - 1, by omega⟩
  simp [pw, h1]
theorem u64_one (b : Nat) (h : b < 18446744073709551616) : bits .and .u64 (b : Int) 1 = ((b % 2 : Nat) : Int) := by
  rw [show (1 : Int) = ((1 : Nat) : Int) by rfl, u64_and_nat b 1 h (by omega), nat_mask1]
def B64 (n : Nat) : Prop := n < 18446744073709551616
set_option maxHeartbeats 400000 in
theorem power_impl (a : UInt8) (b : Nat) (hb : b < 18446744073709551616) (w : World) :
    Calls Tryz.prog 199 #[.int .u8 a.toNat, .int .u64 b] w fun e w' => e = .returned (.int .u8 (power a b).toNat) ∧ w = w' := by
  have HB0 : Hid (b < 2 ^ 64) := Lib.hid (by simpa using hb)
  go_enter Tryz.func199, Tryz.ntmps199
  go_wp2
  go_loop [0, 1, 5] (fun x y p => ∃ (n : Nat) (a' p' : UInt8) (b' : Nat), n ≤ 64 ∧ Hid (b' < 2 ^ n) ∧ b' < 18446744073709551616 ∧ x = .int .u8 a'.toNat ∧ y = .int .u64 b' ∧ p = .int .u8 p'.toNat ∧ Hid (pw n p' a' b' = power a b)) (fun _ y _ => (intOf y).toNat)
  case atStart => exact ⟨64, a, 1, b, by omega, HB0, hb, rfl, rfl, rfl, Lib.hid rfl⟩
  case round =>
    obtain ⟨n, a', p', b', hn, hb1, hb2, rfl, rfl, rfl, HM⟩ := hrel
    have hone := u64_one b' hb2
    by_cases h0 : b' = 0
    · subst h0
      go_wp2
      go_ret
      exact ⟨ret_i (by rw [← HM.out, pw_zero]), rfl⟩
    · have h0' : ((b' : Int) != 0) = true := by simpa using h0
      have hb3 : 0 < b' := by omega
      have HN := Lib.hid (pos_of n b' hb1.out h0)
      have HB := Lib.hid (half_lt n b' HN.out hb1.out)
      clear hb1
      by_cases h1 : b' % 2 = 1
      · have HT := Lib.hid (pw_one n p' a' b' HN.out h1)
        rw [h1] at hone
        go_wp2_with (go_at_call 163; refine (times_impl _ _ _).mono ?_; rintro e w' ⟨rfl, rfl⟩)
        go_round
        case rel => exact ⟨n - 1, mul a' a', mul p' a', b' / 2, by omega, HB, by omega, rfl, by go_num, rfl, Lib.hid (HT.out.trans HM.out)⟩
        case measure => simp [intOf]; omega
      · have HT := Lib.hid (pw_none n p' a' b' HN.out h1)
        rw [show b' % 2 = 0 by omega] at hone
        go_wp2_with (go_at_call 163; refine (times_impl _ _ _).mono ?_; rintro e w' ⟨rfl, rfl⟩)
        go_round
        case rel => exact ⟨n - 1, mul a' a', p', b' / 2, by omega, HB, by omega, rfl, by go_num, rfl, Lib.hid (HT.out.trans HM.out)⟩
        case measure => simp [intOf]; omega

theorem twice_mod (a : Int) (w : World) :
    Calls Tryz.prog 181 #[.int .u8 (a % 256)] w fun e w' => e = .returned (.int .u8 (tw (b8 a)).toNat) ∧ w = w' := by
  rw [← b8_val]; exact twice_impl _ w
theorem times_mod (a b : Int) (w : World) :
    Calls Tryz.prog 163 #[.int .u8 (a % 256), .int .u8 (b % 256)] w fun e w' => e = .returned (.int .u8 (mul (b8 a) (b8 b)).toNat) ∧ w = w' := by
  rw [← b8_val, ← b8_val]; exact times_impl _ _ w
theorem power_mod (a : Int) (n : Nat) (hn : n < 18446744073709551616) (w : World) :
    Calls Tryz.prog 199 #[.int .u8 (a % 256), .int .u64 n] w fun e w' => e = .returned (.int .u8 (power (b8 a) n).toNat) ∧ w = w' := by
  rw [← b8_val]; exact power_impl _ n hn w
/-- Power as the document tells it: 0 of a number below 0. -/
def Pow (a : UInt8) (n : Int) : UInt8 := if n < 0 then 0 else power a n.toNat
theorem Pow_neg (a : UInt8) (n : Int) (h : n < 0) : Pow a n = 0 := if_pos h
theorem Pow_nat (a : UInt8) (n : Nat) : Pow a n = power a n := by unfold Pow; rw [if_neg (by omega)]; simp
theorem Power_impl (a n : Int) (hn : -9223372036854775808 ≤ n) (hn2 : n ≤ 9223372036854775807) (w : World) :
    Calls Tryz.prog 195 #[.int .i64 a, .int .i64 n] w fun e w' => e = .returned (.int .i64 (Pow (b8 a) n).toNat) ∧ w = w' := by
  by_cases h0 : n < 0
  · have HP := Lib.hid (Pow_neg (b8 a) n h0)
    go_enter Tryz.func195, Tryz.ntmps195
    go_wp2
    go_ret
    exact ⟨ret_i (by rw [HP.out]; rfl), rfl⟩
  · obtain ⟨m, rfl⟩ := Int.eq_ofNat_of_zero_le (Int.not_lt.1 h0)
    have HP := Lib.hid (Pow_nat (b8 a) m)
    have h2 := (power (b8 a) m).toNat_lt
    have h3 : ¬ ((m : Int) < 0) := h0
    go_enter Tryz.func195, Tryz.ntmps195
    go_wp2_with (go_at_call 199; refine (power_mod _ m (by omega) _).mono ?_; rintro e w' ⟨rfl, rfl⟩)
    go_ret
    exact ⟨ret_i (by rw [HP.out]), rfl⟩
end Go.Proofs.YtbfmbdohebdbaaaGreatDoor
set_option linter.unusedVariables false
namespace Go.Proofs.YtbfmbdohebdbaaaGreatDoor
open Go.RowKit

theorem i64_mask (n : Int) (m : Nat) (hm : m ≤ 62) : bits .and .i64 n ((2 ^ m - 1 : Nat) : Int) = n % ((2 ^ m : Nat) : Int) := by
  have hp : (2 : Nat) ^ m ≤ 2 ^ 62 := Nat.pow_le_pow_right (by omega) hm
  have hp0 : 0 < (2 : Nat) ^ m := Nat.two_pow_pos m
  have h127 : (BitVec.ofInt 64 ((2 ^ m - 1 : Nat) : Int)).toNat = 2 ^ m - 1 := by
    rw [BitVec.ofInt_natCast, BitVec.toNat_ofNat]; exact Nat.mod_eq_of_lt (by omega)
  have key : (BitVec.ofInt 64 n &&& BitVec.ofInt 64 ((2 ^ m - 1 : Nat) : Int)).toNat = (n % ((2 ^ 64 : Nat) : Int)).toNat % 2 ^ m := by
    rw [BitVec.toNat_and, BitVec.toNat_ofInt, h127, Nat.and_two_pow_sub_one_eq_mod]
  show IntKind.i64.wrap ((BitVec.ofInt 64 n &&& BitVec.ofInt 64 ((2 ^ m - 1 : Nat) : Int)).toNat : Nat) = _
  have hlt : (n % ((2 ^ 64 : Nat) : Int)).toNat % 2 ^ m < 2 ^ m := Nat.mod_lt _ hp0
  have hdvd : ((2 ^ m : Nat) : Int) ∣ ((2 ^ 64 : Nat) : Int) := Int.natCast_dvd_natCast.2 (Nat.pow_dvd_pow 2 (by omega))
  have he : (((n % ((2 ^ 64 : Nat) : Int)).toNat % 2 ^ m : Nat) : Int) = n % ((2 ^ m : Nat) : Int) := by
    rw [Int.natCast_emod, Int.toNat_of_nonneg (Int.emod_nonneg _ (by omega)), Int.emod_emod_of_dvd _ hdvd]
  rw [key, IntKind.wrap_i64, ← he]
  generalize (n % ((2 ^ 64 : Nat) : Int)).toNat % 2 ^ m = r at *
  omega
theorem i64_and255 (n : Int) : bits .and .i64 n 255 = n % 256 := i64_mask n 8 (by omega)
theorem i64_and1 (n : Int) : bits .and .i64 n 1 = n % 2 := i64_mask n 1 (by omega)
theorem sp_hi0 : ∀ n : Fin 256, (bits .and .i64 (n.val : Int) 128 != 0) = true → bits .xor .i64 (wrap64 ((n.val : Int) * 2) % 256) 27 = ((tw (UInt8.ofNat n.val)).toNat : Int) := by decide +kernel
theorem sp_lo0 : ∀ n : Fin 256, (bits .and .i64 (n.val : Int) 128 != 0) = false → wrap64 ((n.val : Int) * 2) = ((tw (UInt8.ofNat n.val)).toNat : Int) := by decide +kernel
theorem sp_hi (a : Int) (h : (bits .and .i64 (bits .and .i64 a 255) 128 != 0) = true) : bits .xor .i64 (bits .and .i64 (wrap64 (bits .and .i64 a 255 * 2)) 255) 27 = ((tw (b8 a)).toNat : Int) := by
  simp only [i64_and255] at h ⊢
  have := sp_hi0 ⟨(a % 256).toNat, by omega⟩
  simp only [Int.toNat_of_nonneg (show 0 ≤ a % 256 by omega)] at this
  exact this h
theorem sp_lo (a : Int) (h : (bits .and .i64 (bits .and .i64 a 255) 128 != 0) = false) : wrap64 (bits .and .i64 a 255 * 2) = ((tw (b8 a)).toNat : Int) := by
  simp only [i64_and255] at h ⊢
  have := sp_lo0 ⟨(a % 256).toNat, by omega⟩
  simp only [Int.toNat_of_nonneg (show 0 ≤ a % 256 by omega)] at this
  exact this h
theorem Twice_spec (a : Int) (w : World) :
    Calls Tryz.prog 178 #[.int .i64 a] w fun e w' => e = .returned (.int .i64 (tw (b8 a)).toNat) ∧ w = w' := by
  go_enter Tryz.func178, Tryz.ntmps178
  go_wp2
  · go_ret
    exact ⟨ret_i (sp_hi a (by assumption)), rfl⟩
  · go_ret
    exact ⟨ret_i (sp_lo a (by assumption)), rfl⟩

theorem Twice_spec8 (a : UInt8) (w : World) :
    Calls Tryz.prog 178 #[.int .i64 a.toNat] w fun e w' => e = .returned (.int .i64 (tw a).toNat) ∧ w = w' := by
  have := Twice_spec (a.toNat : Int) w
  rwa [b8_of] at this
theorem and255_b8 (a : Int) : bits .and .i64 a 255 = ((b8 a).toNat : Int) := by rw [i64_and255, b8_val]
theorem test_bit (b : Int) (k : Nat) (hk : k < 8) : (bits .and .i64 (b / 2 ^ k) 1 == 1) = decide ((b8 b).toNat / 2 ^ k % 2 = 1) := by
  rw [i64_and1, bit_b8 b k hk]
  generalize (b8 b).toNat / 2 ^ k % 2 = m
  rw [Bool.eq_iff_iff]
  simp
  omega
theorem tm_up (k : Nat) (p a : UInt8) (b : Nat) (hk : k < 8) : tm (8 - (k + 1)) (if b / 2 ^ k % 2 = 1 then p ^^^ a else p) (tw a) (b / 2 ^ (k + 1)) = tm (8 - k) p a (b / 2 ^ k) := by
  rw [show 8 - k = (8 - (k + 1)) + 1 by omega, tm, Nat.div_div_eq_div_mul, ← Nat.pow_succ]
set_option maxHeartbeats 400000 in
theorem Times_spec (a b : Int) (w : World) :
    Calls Tryz.prog 155 #[.int .i64 a, .int .i64 b] w fun e w' => e = .returned (.int .i64 (mul (b8 a) (b8 b)).toNat) ∧ w = w' := by
  go_enter Tryz.func155, Tryz.ntmps155
  go_wp2
  go_loop [0, 5, 6] (fun x p i => ∃ (k : Nat) (a' p' : UInt8), k ≤ 8 ∧ x = .int .i64 a'.toNat ∧ i = .int .i64 k ∧ p = .int .i64 p'.toNat ∧ Hid (tm (8 - k) p' a' ((b8 b).toNat / 2 ^ k) = mul (b8 a) (b8 b))) (fun _ _ i => 8 - (intOf i).toNat)
  case atStart => exact ⟨0, b8 a, 0, by omega, val_i (and255_b8 a), rfl, rfl, Lib.hid (by simp [mul])⟩
  case round =>
    obtain ⟨k, a', p', hk, rfl, rfl, rfl, HM⟩ := hrel
    by_cases hlt : k < 8
    · have HU := Lib.hid (tm_up k p' a' (b8 b).toNat hlt)
      have HX := Lib.hid (i64_x p' a')
      have HB := Lib.hid (test_bit b k hlt)
      by_cases h1 : (b8 b).toNat / 2 ^ k % 2 = 1
      · have hT : (bits .and .i64 (b / 2 ^ k) 1 == 1) = true := by rw [HB.out]; simpa using h1
        have HU := Lib.hid (if_pos (t := p' ^^^ a') (e := p') h1 ▸ HU.out)
        clear HB h1
        go_wp2_with (go_at_call 178; refine (Twice_spec8 _ _).mono ?_; rintro e w' ⟨rfl, rfl⟩)
        go_round
        case rel => exact ⟨k + 1, tw a', p' ^^^ a', by omega, rfl, by go_num, val_i HX.out, Lib.hid (HU.out.trans HM.out)⟩
        case measure => simp [intOf]; omega
      · have hT : (bits .and .i64 (b / 2 ^ k) 1 == 1) = false := by rw [HB.out]; simpa using h1
        have HU := Lib.hid (if_neg (t := p' ^^^ a') (e := p') h1 ▸ HU.out)
        clear HB h1
        go_wp2_with (go_at_call 178; refine (Twice_spec8 _ _).mono ?_; rintro e w' ⟨rfl, rfl⟩)
        go_round
        case rel => exact ⟨k + 1, tw a', p', by omega, rfl, by go_num, rfl, Lib.hid (HU.out.trans HM.out)⟩
        case measure => simp [intOf]; omega
    · go_wp2
      go_ret
      exact ⟨ret_i (by rw [← HM.out, show 8 - k = 0 by omega]; rfl), rfl⟩
theorem Times_spec8 (a b : UInt8) (w : World) :
    Calls Tryz.prog 155 #[.int .i64 a.toNat, .int .i64 b.toNat] w fun e w' => e = .returned (.int .i64 (mul a b).toNat) ∧ w = w' := by
  have := Times_spec (a.toNat : Int) (b.toNat : Int) w
  rwa [b8_of, b8_of] at this
theorem i64_one (b : Nat) : bits .and .i64 (b : Int) 1 = ((b % 2 : Nat) : Int) := by rw [i64_and1]; omega
set_option maxHeartbeats 400000 in
theorem Power_spec (a n : Int) (hn : -9223372036854775808 ≤ n) (hn2 : n ≤ 9223372036854775807) (w : World) :
    Calls Tryz.prog 154 #[.int .i64 a, .int .i64 n] w fun e w' => e = .returned (.int .i64 (Pow (b8 a) n).toNat) ∧ w = w' := by
  by_cases h0 : n < 0
  · have HP := Lib.hid (Pow_neg (b8 a) n h0)
    go_enter Tryz.func154, Tryz.ntmps154
    go_wp2
    go_ret
    exact ⟨ret_i (by rw [HP.out]; rfl), rfl⟩
  · obtain ⟨m, rfl⟩ := Int.eq_ofNat_of_zero_le (Int.not_lt.1 h0)
    have HP := Lib.hid (Pow_nat (b8 a) m)
    have HB0 : Hid (m < 2 ^ 64) := Lib.hid (by simp; omega)
    have h3 : ¬ ((m : Int) < 0) := h0
    have hm : m ≤ 9223372036854775807 := by omega
    go_enter Tryz.func154, Tryz.ntmps154
    go_wp2
    go_loop [0, 1, 5] (fun x y p => ∃ (f : Nat) (a' p' : UInt8) (b' : Nat), f ≤ 64 ∧ Hid (b' < 2 ^ f) ∧ b' ≤ 9223372036854775807 ∧ x = .int .i64 a'.toNat ∧ y = .int .i64 b' ∧ p = .int .i64 p'.toNat ∧ Hid (pw f p' a' b' = power (b8 a) m)) (fun _ y _ => (intOf y).toNat)
    case atStart => exact ⟨64, b8 a, 1, m, by omega, HB0, hm, val_i (and255_b8 a), rfl, rfl, Lib.hid rfl⟩
    case round =>
      obtain ⟨f, a', p', b', hf, hb1, hb2, rfl, rfl, rfl, HM⟩ := hrel
      have hone := i64_one b'
      by_cases hz : b' = 0
      · subst hz
        go_wp2
        go_ret
        exact ⟨ret_i (by rw [HP.out, ← HM.out, pw_zero]), rfl⟩
      · have hb3 : 0 < b' := by omega
        have hb4 : (0 : Int) < (b' : Int) := by omega
        have HN := Lib.hid (pos_of f b' hb1.out hz)
        have HB := Lib.hid (half_lt f b' HN.out hb1.out)
        clear hb1
        by_cases h1 : b' % 2 = 1
        · have HT := Lib.hid (pw_one f p' a' b' HN.out h1)
          rw [h1] at hone
          go_wp2_with (go_at_call 155; refine (Times_spec8 _ _ _).mono ?_; rintro e w' ⟨rfl, rfl⟩)
          go_round
          case rel => exact ⟨f - 1, mul a' a', mul p' a', b' / 2, by omega, HB, by omega, rfl, by go_num, rfl, Lib.hid (HT.out.trans HM.out)⟩
          case measure => simp [intOf]; omega
        · have HT := Lib.hid (pw_none f p' a' b' HN.out h1)
          rw [show b' % 2 = 0 by omega] at hone
          go_wp2_with (go_at_call 155; refine (Times_spec8 _ _ _).mono ?_; rintro e w' ⟨rfl, rfl⟩)
          go_round
          case rel => exact ⟨f - 1, mul a' a', p', b' / 2, by omega, HB, by omega, rfl, by go_num, rfl, Lib.hid (HT.out.trans HM.out)⟩
          case measure => simp [intOf]; omega
theorem Inverse_spec (a : Int) (w : World) :
    Calls Tryz.prog 113 #[.int .i64 a] w fun e w' => e = .returned (.int .i64 (inv (b8 a)).toNat) ∧ w = w' := by
  have HP := Lib.hid (Pow_nat (b8 a) 254)
  go_enter Tryz.func113, Tryz.ntmps113
  go_wp2_with (go_at_call 154; refine (Power_spec a 254 (by omega) (by omega) _).mono ?_; rintro e w' ⟨rfl, rfl⟩)
  go_ret
  exact ⟨ret_i (by rw [show (254 : Int) = ((254 : Nat) : Int) by rfl, HP.out]; rfl), rfl⟩
theorem par_up (p m : Nat) (hp : p < 2) : bits .xor .i64 (p : Int) ((m % 2 : Nat) : Int) = ((p ^^^ (m % 2) : Nat) : Int) := i64_xor_nat _ _ (by omega) (by omega)
end Go.Proofs.YtbfmbdohebdbaaaGreatDoor
set_option linter.unusedVariables false
namespace Go.Proofs.YtbfmbdohebdbaaaGreatDoor
open Go.RowKit
attribute [local go_sem ↓] Go.wp_at_zero Go.wp_at_succ

def cells64 (l : List Int) : List Value := l.map (Value.int .i64)
/-- The integers can be read. -/
def IRow (w : World) (A : Option Addr) (n : Nat) (l : List Int) : Prop :=
  l.length = n ∧ ∀ j (h : j < l.length), ∃ b o, A = some ⟨b, o, none⟩ ∧ b < w.heap.size ∧ w.cell? ⟨b, o + j, none⟩ = some (.int .i64 l[j])
theorem IRow.below {w w' : World} {n : Nat} {A : Option Addr} {l : List Int} (h : IRow w A n l) (hb : Below w.heap.size w w') : IRow w' A n l :=
  ⟨h.1, fun j hj => by
    obtain ⟨b, o, hA, hg, hc⟩ := h.2 j hj
    exact ⟨b, o, hA, Nat.lt_of_lt_of_le hg hb.size, (hb.cell (p := ⟨b, o + j, none⟩) hg).trans hc⟩⟩
theorem IRow.drewN {w : World} {n : Nat} {A : Option Addr} {l : List Int} (h : IRow w A n l) (k : Nat) : IRow (w.drewN k) A n l := h
theorem own_irow {w : World} {base n c : Nat} {A : Option Addr} {l : List Int} (h : w.ownsRow base 3 1 (.slice A n c) n (cells64 l)) : IRow w A n l := by
  have hl : l.length = n := by have := h.1; simpa [cells64] using this
  refine ⟨hl, fun j hj => ?_⟩
  obtain ⟨g, cap, hv, hb, hg⟩ := h.form (by omega)
  have hA : A = some ⟨g, 0, none⟩ := by injection hv
  subst hA
  refine ⟨g, 0, rfl, hg, ?_⟩
  rw [Nat.zero_add, h.cellAt j (by omega), cells64, List.getElem?_map, List.getElem?_eq_getElem hj]
  rfl
def mk64 (n : Nat) : Array Value := madeCells #[.int .i64 0] n
theorem mk64_size (n : Nat) : (mk64 n).size = n := size_madeCells _ _
theorem run_make64 {P : Program} {t e : TypeId} {i : TypeInfo} (ht : P.underlying t = some (.slice e)) (hi : P.info? e = some i) (hz : i.zero = some (.int .i64 0)) (h1 : i.size = 1) (h2 : i.bytes = 8)
    (l c : Nat) (hlc : l ≤ c) (hc : c ≤ 35184372088832) (w : World) :
    (Instr.makeSlice t (.int .i64 (l : Int)) (.int .i64 (c : Int))).run P w = .ok (.slice (some ⟨w.heap.size, 0, none⟩) l c) (w.alloc (.cells (mk64 c) e)) := by
  have := run_make (P := P) w t e i (.int .i64 0) ht hi hz .i64 .i64 l c (by omega) (by omega) (by rw [h2]; omega) (by omega)
  rw [this]
  simp [h1, mk64, Value.cells]
theorem mk64_list (n : Nat) : (mk64 n).toList = cells64 (List.replicate n 0) := by
  unfold mk64
  rw [toList_madeCells_one]
  simp [cells64]
/-- the first k of l, then noughts. -/
def fillTo (l : List Int) (k : Nat) : List Int := l.take k ++ List.replicate (l.length - k) 0
theorem fillTo_zero (l : List Int) : fillTo l 0 = List.replicate l.length 0 := by simp [fillTo]
theorem fillTo_all (l : List Int) (k : Nat) (h : l.length ≤ k) : fillTo l k = l := by
  unfold fillTo
  rw [List.take_of_length_le h, show l.length - k = 0 by omega]
  simp
theorem fillTo_length (l : List Int) (k : Nat) (h : k ≤ l.length) : (fillTo l k).length = l.length := by
  unfold fillTo
  rw [List.length_append, List.length_take, List.length_replicate]; omega
theorem fillTo_set (l : List Int) (k : Nat) (h : k < l.length) : (fillTo l k).set k l[k] = fillTo l (k + 1) := by
  have h1 : (l.take k).length = k := by rw [List.length_take]; omega
  unfold fillTo
  rw [List.take_succ_eq_append_getElem h, List.set_append_right _ _ (by omega), h1, Nat.sub_self, show l.length - k = (l.length - (k + 1)) + 1 by omega, List.replicate_succ, List.set_cons_zero, List.append_assoc]
  rfl
theorem info64 : (Tryz.prog.info? 3).map (fun i => (i.zero, i.size, i.bytes)) = some (some (.int .i64 0), 1, 8) := by kernel_rfl

theorem irow_block {w : World} {b : Nat} {T : TypeId} (l : List Int) (hb : w.heap[b]? = some (.cells (l.map (Value.int .i64)).toArray T (0, 0))) : IRow w (some ⟨b, 0, none⟩) l.length l := by
  have hlt : b < w.heap.size := by
    rcases Nat.lt_or_ge b w.heap.size with h | h
    · exact h
    · rw [Array.getElem?_eq_none h] at hb; cases hb
  refine ⟨rfl, fun j hj => ⟨b, 0, rfl, hlt, ?_⟩⟩
  rw [Nat.zero_add]
  refine (cell_of_row w b j _ T (0, 0) hb).trans ?_
  simp [List.getElem?_eq_getElem hj]
end Go.Proofs.YtbfmbdohebdbaaaGreatDoor
set_option linter.unusedVariables false
namespace Go.Proofs.YtbfmbdohebdbaaaGreatDoor
open Go Go.RowKit Go.Proofs

/-- What the walk is told of a slice of integers that came in: it is nil; or it leads to a row of 'cap' cells, the numbers 'zs'. -/
def IsRow (k : IntKind) (w : World) (a : Option Addr) (len cap : Nat) (zs : List Int) : Prop :=
  (a = none ∧ len = 0 ∧ cap = 0 ∧ zs = []) ∨
  ∃ x, a = some x ∧ len ≤ cap ∧ cap ≤ maxLen ∧ zs.length = cap ∧ (∀ i, i < zs.length → w.cell? (x.add i) = some (.int k (zs.getD i 0))) ∧ ∀ n ∈ zs, (Lit.int k n).wf = true

/-- The bytes of a code can be read, at blocks below B. -/
def CodeAt (w : World) (B : Nat) (A : Option Addr) (len : Nat) : Prop :=
  ∀ j, j < len → ∃ (b o x : Nat), A = some ⟨b, o, none⟩ ∧ b < B ∧ x < 256 ∧ w.cell? ⟨b, o + j, none⟩ = some (.int .u8 (x : Int))
theorem IsRow.code {w : World} {a : Option Addr} {len cap : Nat} {zs : List Int} (h : IsRow .u8 w a len cap zs) : CodeAt w w.heap.size a len ∧ len ≤ 9223372036854775807 := by
  rcases h with ⟨rfl, rfl, rfl, rfl⟩ | ⟨x, rfl, hl, hm, hz, hcell, hwz⟩
  · exact ⟨fun j hj => by omega, by omega⟩
  · refine ⟨fun j hj => ?_, by unfold maxLen at hm; omega⟩
    obtain ⟨b, off, spot⟩ := x
    have hspot : spot = none := by simpa [Addr.add] using World.cell?_spot (hcell 0 (by omega))
    subst hspot
    have hc0 : w.cell? ⟨b, off + j, none⟩ = some (.int .u8 (zs.getD j 0)) := by
      rw [← hcell j (by omega), show (⟨b, off, none⟩ : Addr).add j = ⟨b, off + j, none⟩ by unfold Addr.add; split <;> simp_all]
    have hin : zs.getD j 0 ∈ zs := by
      have : j < zs.length := by omega
      rw [List.getD_eq_getElem?_getD, List.getElem?_eq_getElem this]
      exact List.getElem_mem this
    have hwf := hwz _ hin
    have hb : 0 ≤ zs.getD j 0 ∧ zs.getD j 0 < 256 := by
      simp [Lit.wf, IntKind.min, IntKind.max, IntKind.bits, IntKind.signed] at hwf
      rw [List.getD_eq_getElem?_getD]
      omega
    exact ⟨b, off, (zs.getD j 0).toNat, rfl, World.block_lt_of_cell? w _ hc0, by omega, by rw [hc0, Int.toNat_of_nonneg hb.1]⟩
theorem CodeAt.below {w w' : World} {B C : Nat} {A : Option Addr} {len : Nat} (h : CodeAt w B A len) (hb : Below C w w') (hB : B ≤ C) : CodeAt w' B A len := fun j hj => by
  obtain ⟨b, o, x, hA, hbl, hx, hc⟩ := h j hj
  exact ⟨b, o, x, hA, hbl, hx, (hb.cell (p := ⟨b, o + j, none⟩) (Nat.lt_of_lt_of_le hbl hB)).trans hc⟩
theorem CodeAt.grown {w w' : World} {B : Nat} {A : Option Addr} {len : Nat} {row : Option Nat} (h : CodeAt w B A len) (hg : w.grownBy w' row) (hr : ∀ k, row = some k → B ≤ k) : CodeAt w' B A len := fun j hj => by
  obtain ⟨b, o, x, hA, hbl, hx, hc⟩ := h j hj
  refine ⟨b, o, x, hA, hbl, hx, hg.cell hc (fun e => ?_)⟩
  have := hr b e.symm
  omega

/-- The cursor's block g holds the code, a place in it and a number; the code can be read, below B. -/
def CurIn (w : World) (B g : Nat) (A : Option Addr) (len cap : Nat) : Prop :=
  B ≤ g ∧ len ≤ 1048576 ∧ CodeAt w B A len ∧ ∃ (i : Nat) (h : Int), i ≤ len ∧ w.heap[g]? = some (.cells #[.slice A len cap, .int .i64 i, .int .i64 h] 51 (0, 0))
theorem CurIn.lt {w : World} {B g : Nat} {A : Option Addr} {len cap : Nat} (h : CurIn w B g A len cap) : g < w.heap.size := by
  obtain ⟨_, _, _, i, hh, _, hg⟩ := h
  rcases Nat.lt_or_ge g w.heap.size with hlt | hge
  · exact hlt
  · rw [Array.getElem?_eq_none hge] at hg; cases hg
theorem CurIn.grown {w w' : World} {B g : Nat} {A : Option Addr} {len cap : Nat} {row : Option Nat} (h : CurIn w B g A len cap) (hg : w.grownBy w' row) (hr : ∀ k, row = some k → g < k) : CurIn w' B g A len cap := by
  have hlt := h.lt
  obtain ⟨h1, h2, h3, i, hh, h4, h5⟩ := h
  refine ⟨h1, h2, h3.grown hg (fun k e => by have := hr k e; omega), i, hh, h4, (hg.block g hlt (fun e => ?_)).trans h5⟩
  have := hr g e.symm
  omega
theorem CurIn.drewN {w : World} {B g : Nat} {A : Option Addr} {len cap : Nat} (h : CurIn w B g A len cap) (n : Nat) : CurIn (w.drewN n) B g A len cap := h
theorem CurIn.drew {w : World} {B g : Nat} {A : Option Addr} {len cap : Nat} (h : CurIn w B g A len cap) : CurIn w.drew B g A len cap := h
theorem CurIn.alloc {w : World} {B g : Nat} {A : Option Addr} {len cap : Nat} (h : CurIn w B g A len cap) (o : Obj) : CurIn (w.alloc o) B g A len cap :=
  h.grown (World.grownBy_alloc w o none) (fun k e => by cases e)

theorem only_drewN {a w : World} {row : Option Nat} (h : a.grownBy w row) (n : Nat) : a.grownBy (w.drewN n) row := ⟨h.os, h.tape, h.output, h.size, h.block⟩
theorem only_drew {a w : World} {row : Option Nat} (h : a.grownBy w row) : a.grownBy w.drew row := ⟨h.os, h.tape, h.output, h.size, h.block⟩
theorem only_alloc {a w : World} {row : Option Nat} (h : a.grownBy w row) (o : Obj) : a.grownBy (w.alloc o) row :=
  ⟨h.os, h.tape, h.output, Nat.le_trans h.size (by simp), fun i hi hne => (Below.heap_alloc w o i (Nat.lt_of_lt_of_le hi h.size)).trans (h.block i hi hne)⟩
theorem only_setCell {a w : World} {g : Nat} (h : a.grownBy w (some g)) {p : Addr} (hp : p.block = g ∨ a.heap.size ≤ p.block) (u : Value) : a.grownBy (w.setCell p u) (some g) :=
  ⟨h.os, h.tape, h.output, by simpa [World.setCell] using h.size, fun i hi hne => (Below.heap_setCell w p u i (by
    rintro rfl
    rcases hp with hp | hp
    · exact hne (by rw [hp])
    · omega)).trans (h.block i hi hne)⟩
theorem only_refl (w : World) (row : Option Nat) : w.grownBy w row := ⟨rfl, rfl, rfl, Nat.le_refl _, fun _ _ _ => rfl⟩
theorem only_trans {a b c : World} {g : Nat} (h : a.grownBy b (some g)) (k : b.grownBy c (some g)) : a.grownBy c (some g) :=
  ⟨k.os.trans h.os, k.tape.trans h.tape, k.output.trans h.output, Nat.le_trans h.size k.size, fun i hi hne => (k.block i (Nat.lt_of_lt_of_le hi h.size) hne).trans (h.block i hi hne)⟩
theorem only_below {a b c : World} {g B : Nat} (h : a.grownBy b (some g)) (k : Below B b c) (hB : a.heap.size ≤ B) : a.grownBy c (some g) :=
  ⟨k.os.trans h.os, k.tape.trans h.tape, k.output.trans h.output, Nat.le_trans h.size k.size, fun i hi hne => (k.block i (Nat.lt_of_lt_of_le hi hB)).trans (h.block i hi hne)⟩
theorem only_grown {a b c : World} {g : Nat} {row : Option Nat} (h : a.grownBy b (some g)) (k : b.grownBy c row) (hr : ∀ r, row = some r → r = g ∨ a.heap.size ≤ r) : a.grownBy c (some g) :=
  ⟨k.os.trans h.os, k.tape.trans h.tape, k.output.trans h.output, Nat.le_trans h.size k.size, fun i hi hne => (k.block i (Nat.lt_of_lt_of_le hi h.size) (fun e => by
    rcases hr i e.symm with h2 | h2
    · exact hne (by rw [h2])
    · omega)).trans (h.block i hi hne)⟩
theorem below_only {B : Nat} {a b c : World} {g : Nat} (h : Below B a b) (k : b.grownBy c (some g)) (hg : B ≤ g) (hB : B ≤ b.heap.size) : Below B a c := h.grown k hB (fun r e => by cases e; exact hg)

theorem ofInt64_and (x : Int) (m : Nat) (hm : m < 9223372036854775808) : ∃ r : Nat, bits .and .i64 x (m : Int) = (r : Int) ∧ r ≤ m := by
  refine ⟨(BitVec.ofInt 64 x).toNat &&& m, ?_, Nat.and_le_right⟩
  have hx : (BitVec.ofInt 64 x).toNat &&& m ≤ m := Nat.and_le_right
  have hm2 : (BitVec.ofInt 64 (m : Int)).toNat = m := by
    rw [BitVec.ofInt_natCast, BitVec.toNat_ofNat]; exact Nat.mod_eq_of_lt (by omega)
  show IntKind.i64.wrap ((BitVec.ofInt 64 x &&& BitVec.ofInt 64 (m : Int)).toNat : Int) = _
  rw [BitVec.toNat_and, hm2, IntKind.wrap_i64]
  omega
theorem and255 (x : Int) : 0 ≤ bits .and .i64 x 255 ∧ bits .and .i64 x 255 ≤ 255 := by
  obtain ⟨r, h, hr⟩ := ofInt64_and x 255 (by omega)
  have : bits .and .i64 x 255 = (r : Int) := h
  omega
theorem andMask (x : Int) : 0 ≤ bits .and .i64 x 1073741823 ∧ bits .and .i64 x 1073741823 ≤ 1073741823 := by
  obtain ⟨r, h, hr⟩ := ofInt64_and x 1073741823 (by omega)
  have : bits .and .i64 x 1073741823 = (r : Int) := h
  omega
end Go.Proofs.YtbfmbdohebdbaaaGreatDoor
set_option linter.unusedVariables false
namespace Go.Proofs.YtbfmbdohebdbaaaGreatDoor
open Go.RowKit

theorem cur_one {w : World} {B g : Nat} {A : Option Addr} {len cap i : Nat} {h : Int} (hg : w.heap[g]? = some (.cells #[.slice A len cap, .int .i64 i, .int .i64 h] 51 (0, 0)))
    (hB : B ≤ g) (hlen : len ≤ 1048576) (hcode : CodeAt w B A len) (hi : i ≤ len) (v : Int) (n : Nat) : CurIn ((w.setCell ⟨g, 2, none⟩ (.int .i64 v)).drewN n) B g A len cap := by
  have h1 := heap_setCell_same w g 2 _ _ (.int .i64 v) hg
  exact ⟨hB, hlen, (hcode.grown (only_setCell (g := g) (only_refl w _) (.inl rfl) _) (fun k e => by cases e; exact hB)).grown (only_drewN (only_refl _ none) n) (fun k e => by cases e), i, v, hi, h1⟩
theorem cur_two {w : World} {B g : Nat} {A : Option Addr} {len cap i : Nat} {h : Int} (hg : w.heap[g]? = some (.cells #[.slice A len cap, .int .i64 i, .int .i64 h] 51 (0, 0)))
    (hB : B ≤ g) (hlen : len ≤ 1048576) (hcode : CodeAt w B A len) (v : Int) (n : Nat) (u : Value) (hi : u = .int .i64 ((i : Int) + 1) ∧ i < len) :
    CurIn (((w.setCell ⟨g, 2, none⟩ (.int .i64 v)).drewN n).setCell ⟨g, 1, none⟩ u) B g A len cap := by
  have h1 := heap_setCell_same w g 2 _ _ (.int .i64 v) hg
  have h2 := heap_setCell_same ((w.setCell ⟨g, 2, none⟩ (.int .i64 v)).drewN n) g 1 _ _ u h1
  have hg1 : w.grownBy (((w.setCell ⟨g, 2, none⟩ (.int .i64 v)).drewN n).setCell ⟨g, 1, none⟩ u) (some g) :=
    only_setCell (p := ⟨g, 1, none⟩) (only_drewN (only_setCell (p := ⟨g, 2, none⟩) (only_refl _ (some g)) (.inl rfl) _) _) (.inl rfl) _
  obtain ⟨hu, hlt⟩ := hi
  rw [show ((i : Int) + 1) = ((i + 1 : Nat) : Int) by omega] at hu
  subst hu
  exact ⟨hB, hlen, hcode.grown hg1 (fun k e => by cases e; exact hB), i + 1, v, by omega, h2⟩

set_option maxRecDepth 100000 in
set_option maxHeartbeats 1600000 in
theorem byte_any (w : World) (B g : Nat) (A : Option Addr) (len cap : Nat) (hc : CurIn w B g A len cap) :
    Calls Tryz.prog 51 #[.pointer (some ⟨g, 0, none⟩)] w fun e w' => ∃ x : Int, e = .returned (.int .i64 x) ∧ 0 ≤ x ∧ x ≤ 255 ∧ CurIn w' B g A len cap ∧ w.grownBy w' (some g) := by
  obtain ⟨hB, hlen, hcode, i, h, hi, hg⟩ := hc
  have c0 : w.cell? ⟨g, 0, none⟩ = some (.slice A len cap) := cell_of_row w g 0 _ _ _ hg
  have c1 : w.cell? ⟨g, 1, none⟩ = some (.int .i64 i) := cell_of_row w g 1 _ _ _ hg
  have c2 : w.cell? ⟨g, 2, none⟩ = some (.int .i64 h) := cell_of_row w g 2 _ _ _ hg
  have f1 := frozen_of_row w g 1 _ _ hg
  have f2 := frozen_of_row w g 2 _ _ hg
  have HG := Lib.hid hg
  have HC := Lib.hid hcode
  clear hg hcode
  by_cases hlt : i < len
  · obtain ⟨b, o, x, rfl, hb, hx, hcell⟩ := HC.out i hlt
    have hne : ¬ b = g := by omega
    have hne2 : ¬ g = b := by omega
    have hi0 : (0 : Int) ≤ (i : Int) := by omega
    have hi1 : (i : Int) < (len : Int) := by omega
    have hx' : (x : Int) < 256 := by omega
    go_enter Tryz.func51, Tryz.ntmps51
    go_wp2
    go_quiet (fail)
    go_wp2
    go_quiet (fail)
    go_wp2
    go_quiet (fail)
    go_wp2
    go_ret
    refine ⟨_, rfl, (and255 _).1, (and255 _).2, cur_two HG.out hB hlen HC.out _ _ _ ⟨rfl, hlt⟩, ?_⟩
    exact only_setCell (p := ⟨g, 1, none⟩) (only_drewN (only_setCell (p := ⟨g, 2, none⟩) (only_refl _ (some g)) (.inl rfl) _) _) (.inl rfl) _
  · have hi1 : ¬ (i : Int) < (len : Int) := by omega
    go_enter Tryz.func51, Tryz.ntmps51
    go_wp2
    go_quiet (fail)
    go_wp2
    go_quiet (fail)
    go_wp2
    go_ret
    refine ⟨_, rfl, (and255 _).1, (and255 _).2, ?_, ?_⟩
    · exact (cur_one HG.out hB hlen HC.out hi _ _).drewN nq
    · exact only_drewN (only_drewN (only_setCell (p := ⟨g, 2, none⟩) (only_refl _ (some g)) (.inl rfl) _) _) _
end Go.Proofs.YtbfmbdohebdbaaaGreatDoor
set_option linter.unusedVariables false
namespace Go.Proofs.YtbfmbdohebdbaaaGreatDoor
open Go.RowKit

set_option maxHeartbeats 800000 in
theorem below_small (n : Int) (h0 : 0 < n) (h1 : n ≤ 256) (w : World) (B g : Nat) (A : Option Addr) (len cap : Nat) (hc : CurIn w B g A len cap) :
    Calls Tryz.prog 35 #[.pointer (some ⟨g, 0, none⟩), .int .i64 n] w fun e w' => ∃ x : Int, e = .returned (.int .i64 x) ∧ 0 ≤ x ∧ x < n ∧ CurIn w' B g A len cap ∧ w.grownBy w' (some g) := by
  go_enter Tryz.func35, Tryz.ntmps35
  go_wp2_with (go_at_call 51; refine (byte_any _ _ _ _ _ _ hc).mono ?_; rintro e w1 ⟨x, rfl, hx0, hx1, hc1, hg1⟩)
  go_ret
  exact ⟨_, rfl, Int.emod_nonneg _ (by omega), Int.emod_lt_of_pos _ h0, hc1, hg1⟩

set_option maxHeartbeats 800000 in
theorem below_big (n : Int) (h0 : 256 < n) (h1 : n ≤ 1099511627776) (w : World) (B g : Nat) (A : Option Addr) (len cap : Nat) (hc : CurIn w B g A len cap) :
    Calls Tryz.prog 35 #[.pointer (some ⟨g, 0, none⟩), .int .i64 n] w fun e w' => ∃ x : Int, e = .returned (.int .i64 x) ∧ 0 ≤ x ∧ x < n ∧ CurIn w' B g A len cap ∧ w.grownBy w' (some g) := by
  have hn0 : ¬ n ≤ 0 := by omega
  have hn1 : ¬ n ≤ 256 := by omega
  go_enter Tryz.func35, Tryz.ntmps35
  go_wp2_with fail
  refine (byte_any _ _ _ _ _ _ hc).mono ?_; rintro e w1 ⟨x, rfl, hx0, hx1, hc1, hg1⟩
  go_wp2_with fail
  refine (byte_any _ _ _ _ _ _ hc1).mono ?_; rintro e w2 ⟨y, rfl, hy0, hy1, hc2, hg2⟩
  go_wp2_with fail
  refine (byte_any _ _ _ _ _ _ hc2).mono ?_; rintro e w3 ⟨z, rfl, hz0, hz1, hc3, hg3⟩
  go_wp2_with fail
  refine (byte_any _ _ _ _ _ _ hc3).mono ?_; rintro e w4 ⟨u, rfl, hu0, hu1, hc4, hg4⟩
  go_wp2
  go_ret
  exact ⟨_, rfl, Int.emod_nonneg _ (by omega), Int.emod_lt_of_pos _ (by omega), hc4, only_trans (only_trans (only_trans hg1 hg2) hg3) hg4⟩

theorem below_any (n : Int) (h0 : 0 < n) (h1 : n ≤ 1099511627776) (w : World) (B g : Nat) (A : Option Addr) (len cap : Nat) (hc : CurIn w B g A len cap) :
    Calls Tryz.prog 35 #[.pointer (some ⟨g, 0, none⟩), .int .i64 n] w fun e w' => ∃ x : Int, e = .returned (.int .i64 x) ∧ 0 ≤ x ∧ x < n ∧ CurIn w' B g A len cap ∧ w.grownBy w' (some g) := by
  rcases Int.lt_or_le 256 n with h | h
  · exact below_big n h h1 w B g A len cap hc
  · exact below_small n h0 h w B g A len cap hc

set_option maxHeartbeats 800000 in
theorem once_any (n : Int) (h0 : 0 < n) (h1 : n ≤ 256) (w : World) (B g : Nat) (A : Option Addr) (len cap : Nat) (hc : CurIn w B g A len cap) :
    Calls Tryz.prog 31 #[.pointer (some ⟨g, 0, none⟩), .int .i64 n] w fun e w' => ∃ x : Bool, e = .returned (.bool x) ∧ CurIn w' B g A len cap ∧ w.grownBy w' (some g) := by
  go_enter Tryz.func31, Tryz.ntmps31
  go_wp2_with (go_at_call 35; refine (below_small _ h0 h1 _ _ _ _ _ _ hc).mono ?_; rintro e w1 ⟨x, rfl, hx0, hx1, hc1, hg1⟩)
  go_ret
  exact ⟨_, rfl, hc1, hg1⟩

set_option maxHeartbeats 800000 in
theorem pickint_any (P : Int → Prop) (n b : Nat) (T : TypeId) (cs : Array Value) (h0 : 0 < n) (h1 : n ≤ 256) (w : World) (B g : Nat) (A : Option Addr) (len cap : Nat) (hc : CurIn w B g A len cap)
    (hb : w.heap[b]? = some (.cells cs T (0, 0))) (hbg : g < b) (hcs : ∀ j, j < n → ∃ x : Int, cs[j]? = some (.int .i64 x) ∧ P x) :
    Calls Tryz.prog 23 #[.pointer (some ⟨g, 0, none⟩), .slice (some ⟨b, 0, none⟩) n n] w fun e w' => ∃ x : Int, e = .returned (.int .i64 x) ∧ P x ∧ CurIn w' B g A len cap ∧ w.grownBy w' (some g) := by
  have hn0 : (0 : Int) < (n : Int) := by omega
  have hn1 : (n : Int) ≤ 256 := by omega
  have HB := Lib.hid hb
  have HC := Lib.hid hcs
  clear hb hcs
  go_enter Tryz.func23, Tryz.ntmps23
  go_wp2_with fail
  refine (below_small _ hn0 hn1 _ _ _ _ _ _ hc).mono ?_; rintro e w1 ⟨x, rfl, hx0, hx1, hc1, hg1⟩
  have hlt := World.block_lt_of_cell? w ⟨b, 0, none⟩ ((cell_of_row w b 0 cs T (0, 0) HB.out).trans (HC.out 0 h0).choose_spec.1)
  have hb1 := (hg1.block b hlt (by intro e; cases e; omega)).trans HB.out
  obtain ⟨j, rfl⟩ := Int.eq_ofNat_of_zero_le hx0
  obtain ⟨y, hy, hP⟩ := HC.out j (by omega)
  have hcell : w1.cell? ⟨b, j, none⟩ = some (.int .i64 y) := (cell_of_row w1 b j cs T (0, 0) hb1).trans hy
  clear hb1 hy hlt
  go_wp2
  go_ret
  exact ⟨_, rfl, hP, hc1, hg1⟩

theorem new_cur {w : World} {A : Option Addr} {len cap : Nat} (hcode : CodeAt w w.heap.size A len) (hl : len ≤ 1048576) (y : Int) :
    CurIn (w.alloc (.cells #[.slice A len cap, .int .i64 0, .int .i64 y] 51)) w.heap.size w.heap.size A len cap :=
  ⟨Nat.le_refl _, hl, hcode.below ((Below.refl w.heap.size w).alloc (Nat.le_refl _) _) (Nat.le_refl _), 0, y, Nat.zero_le _, heap_alloc_new w _⟩

set_option maxRecDepth 100000 in
set_option maxHeartbeats 800000 in
theorem new_any (w : World) (A : Option Addr) (len cap : Nat) (hcode : CodeAt w w.heap.size A len) (hl : len ≤ 1048576) :
    Calls Tryz.prog 20 #[.slice A len cap] w fun e w' => ∃ g, e = .returned (.pointer (some ⟨g, 0, none⟩)) ∧ CurIn w' w.heap.size g A len cap ∧ Below w.heap.size w w' := by
  have H := Lib.hid hcode
  clear hcode
  go_enter Tryz.func20, Tryz.ntmps20
  go_wp2
  go_loop [3, 4] (fun h i => ∃ (k : Nat) (y : Int), k ≤ len ∧ 0 ≤ y ∧ y ≤ 1073741823 ∧ i = .int .i64 k ∧ h = .int .i64 y) (fun _ i => len - (intOf i).toNat)
  case atStart => exact ⟨0, _, Nat.zero_le _, by omega, by omega, rfl, rfl⟩
  case round =>
    obtain ⟨k, y, hk, hy0, hy1, rfl, rfl⟩ := hrel
    by_cases hlt : k < len
    · by_cases h4 : k < 4000
      · obtain ⟨b, o, x, rfl, hb, hx, hcell⟩ := H.out k hlt
        have hk0 : (0 : Int) ≤ (k : Int) := by omega
        have hk1 : (k : Int) < (len : Int) := by omega
        have hx' : (x : Int) < 256 := by omega
        go_wp2
        go_round
        case rel => exact ⟨k + 1, _, by omega, (andMask _).1, (andMask _).2, by go_num, rfl⟩
        case measure => simp [intOf]; omega
      · have hk1 : (k : Int) < (len : Int) := by omega
        have hk4 : ¬ (k : Int) < 4000 := by omega
        go_wp2
        go_ret
        exact ⟨_, rfl, new_cur H.out hl _, (Below.refl _ _).alloc (Nat.le_refl _) _⟩
    · have hk1 : ¬ (k : Int) < (len : Int) := by omega
      go_wp2
      go_ret
      exact ⟨_, rfl, new_cur H.out hl _, (Below.refl _ _).alloc (Nat.le_refl _) _⟩
def In64 (x : Int) : Prop := -9223372036854775808 ≤ x ∧ x ≤ 9223372036854775807
/-- what holds of each of a literal's numbers. -/
theorem lits {P : Int → Prop} (l : List Int) (h : ∀ u ∈ l, P u) : ∀ j, j < l.length → ∃ u : Int, (l.map (Value.int .i64)).toArray[j]? = some (.int .i64 u) ∧ P u := by
  intro j hj
  refine ⟨l[j], ?_, h _ (List.getElem_mem hj)⟩
  simp [List.getElem?_eq_getElem hj]
set_option maxHeartbeats 800000 in
theorem big_small (w : World) (A : Option Addr) (len cap : Nat) (h : len ≤ 1048576) :
    Calls Tryz.prog 8 #[.slice A len cap] w fun e w' => e = .returned (.bool false) ∧ w = w' := by
  have h1 : ¬ (1048576 : Int) < (len : Int) := by omega
  go_enter Tryz.func8, Tryz.ntmps8
  go_wp2
  go_ret
  exact ⟨by first | (simp; done) | (simp; omega), rfl⟩
set_option maxHeartbeats 800000 in
theorem big_great (w : World) (A : Option Addr) (len cap : Nat) (h : 1048576 < len) (h2 : len ≤ 9223372036854775807) :
    Calls Tryz.prog 8 #[.slice A len cap] w fun e w' => e = .returned (.bool true) ∧ w = w' := by
  have h1 : (1048576 : Int) < (len : Int) := by omega
  go_enter Tryz.func8, Tryz.ntmps8
  go_wp2
  go_ret
  exact ⟨by first | (simp; done) | (simp; omega), rfl⟩
theorem CodeAt.up {w : World} {B C : Nat} {A : Option Addr} {len : Nat} (h : CodeAt w B A len) (hB : B ≤ C) : CodeAt w C A len := fun j hj => by
  obtain ⟨b, o, x, hA, hb, hx, hc⟩ := h j hj
  exact ⟨b, o, x, hA, Nat.lt_of_lt_of_le hb hB, hx, hc⟩

/-- a byte of the code, or a number told by its place and the code's length. -/
theorem at_any (i : Nat) (hi : i ≤ 1000) (w : World) (A : Option Addr) (len cap : Nat) (h : CodeAt w w.heap.size A len) (hl : len ≤ 1048576) :
    Calls Tryz.prog 17 #[.slice A len cap, .int .i64 i] w fun e w' => (∃ x : Nat, e = .returned (.int .i64 x) ∧ x < 256) ∧ w = w' := by
  have H := Lib.hid h
  clear h
  by_cases hlt : i < len
  · obtain ⟨b, o, x, rfl, hb, hx, hcell⟩ := H.out i hlt
    have h0 : (0 : Int) ≤ (i : Int) := by omega
    have h1 : (i : Int) < (len : Int) := by omega
    go_enter Tryz.func17, Tryz.ntmps17
    go_wp2
    go_ret
    exact ⟨⟨x, rfl, hx⟩, rfl⟩
  · have h1 : ¬ (i : Int) < (len : Int) := by omega
    go_enter Tryz.func17, Tryz.ntmps17
    go_wp2
    go_ret
    exact ⟨⟨(i * 7 + len) % 256, by rw [show (((i * 7 + len) % 256 : Nat) : Int) = ((i : Int) * 7 + (len : Int)) % 256 by omega]; rfl, by omega⟩, rfl⟩
set_option maxHeartbeats 800000 in
theorem pick_any (P : ByteArray → Prop) (n b : Nat) (T : TypeId) (cs : Array Value) (h0 : 0 < n) (h1 : n ≤ 256) (w : World) (B g : Nat) (A : Option Addr) (len cap : Nat) (hc : CurIn w B g A len cap)
    (hb : w.heap[b]? = some (.cells cs T (0, 0))) (hbg : g < b) (hcs : ∀ j, j < n → ∃ x : ByteArray, cs[j]? = some (.string x) ∧ P x) :
    Calls Tryz.prog 46 #[.pointer (some ⟨g, 0, none⟩), .slice (some ⟨b, 0, none⟩) n n] w fun e w' => ∃ x : ByteArray, e = .returned (.string x) ∧ P x ∧ CurIn w' B g A len cap ∧ w.grownBy w' (some g) := by
  have hn0 : (0 : Int) < (n : Int) := by omega
  have hn1 : (n : Int) ≤ 256 := by omega
  have HB := Lib.hid hb
  have HC := Lib.hid hcs
  clear hb hcs
  go_enter Tryz.func46, Tryz.ntmps46
  go_wp2_with fail
  refine (below_small _ hn0 hn1 _ _ _ _ _ _ hc).mono ?_; rintro e w1 ⟨x, rfl, hx0, hx1, hc1, hg1⟩
  have hlt := World.block_lt_of_cell? w ⟨b, 0, none⟩ ((cell_of_row w b 0 cs T (0, 0) HB.out).trans (HC.out 0 h0).choose_spec.1)
  have hb1 := (hg1.block b hlt (by intro e; cases e; omega)).trans HB.out
  obtain ⟨j, rfl⟩ := Int.eq_ofNat_of_zero_le hx0
  obtain ⟨y, hy, hP⟩ := HC.out j (by omega)
  have hcell : w1.cell? ⟨b, j, none⟩ = some (.string y) := (cell_of_row w1 b j cs T (0, 0) hb1).trans hy
  clear hb1 hy hlt
  go_wp2
  go_ret
  exact ⟨_, rfl, hP, hc1, hg1⟩
end Go.Proofs.YtbfmbdohebdbaaaGreatDoor
set_option linter.unusedVariables false
namespace Go.Proofs.YtbfmbdohebdbaaaGreatDoor
open Go.RowKit

theorem turn_val (b : Int) (s : Nat) (h8 : s ≤ 8) : bits .and .i64 (bits .or .i64 (wrap64 (bits .and .i64 b 255 * 2 ^ s)) (bits .and .i64 b 255 / 2 ^ (8 - s))) 255 = ((rotl (b8 b) s).toNat : Int) := by
  have hc := (b8 b).toNat_lt
  have hp : 2 ^ s ≤ 2 ^ 8 := Nat.pow_le_pow_right (by omega) h8
  have hm : (b8 b).toNat * 2 ^ s ≤ 255 * 2 ^ 8 := Nat.mul_le_mul (by omega) hp
  rw [rotl_nat _ s h8]
  simp only [and255_b8 b]
  have e1 : wrap64 (((b8 b).toNat : Int) * 2 ^ s) = (((b8 b).toNat * 2 ^ s : Nat) : Int) := by
    have e0 : ((b8 b).toNat : Int) * 2 ^ s = (((b8 b).toNat * 2 ^ s : Nat) : Int) := by rw [Int.natCast_mul, Int.natCast_pow]; rfl
    rw [e0]
    simp only [wrap64]
    omega
  have e2 : ((b8 b).toNat : Int) / 2 ^ (8 - s) = (((b8 b).toNat / 2 ^ (8 - s) : Nat) : Int) := by rw [Int.natCast_ediv, Int.natCast_pow]; rfl
  have e3 : (b8 b).toNat / 2 ^ (8 - s) < 256 := Nat.lt_of_le_of_lt (Nat.div_le_self _ _) hc
  rw [e1, e2, i64_or_nat _ _ (by omega) (by omega), i64_and255]
  have h1 : ((b8 b).toNat * 2 ^ s ||| (b8 b).toNat / 2 ^ (8 - s)) % 2 ^ 8 = ((b8 b).toNat * 2 ^ s % 2 ^ 8 ||| (b8 b).toNat / 2 ^ (8 - s) % 2 ^ 8) := Nat.or_mod_two_pow
  have h2 : (b8 b).toNat / 2 ^ (8 - s) % 2 ^ 8 = (b8 b).toNat / 2 ^ (8 - s) := Nat.mod_eq_of_lt e3
  rw [h2] at h1
  rw [show (256 : Int) = ((2 ^ 8 : Nat) : Int) by rfl, ← Int.natCast_emod, h1]
theorem Turn3_spec (b : Int) (s : Nat) (h8 : s ≤ 8) (w : World) :
    Calls Tryz.prog 156 #[.int .i64 b, .int .i64 s] w fun e w' => e = .returned (.int .i64 (rotl (b8 b) s).toNat) ∧ w = w' := by
  have HV := Lib.hid (turn_val b s h8)
  have h1 : (s : Int) ≤ 8 := by omega
  go_enter Tryz.func156, Tryz.ntmps156
  go_wp2
  go_ret
  exact ⟨ret_i HV.out, rfl⟩
theorem turn1 (b : Int) (w : World) : Calls Tryz.prog 156 #[.int .i64 b, .int .i64 1] w fun e w' => e = .returned (.int .i64 (rotl (b8 b) 1).toNat) ∧ w = w' := Turn3_spec b 1 (by omega) w
theorem turn2 (b : Int) (w : World) : Calls Tryz.prog 156 #[.int .i64 b, .int .i64 2] w fun e w' => e = .returned (.int .i64 (rotl (b8 b) 2).toNat) ∧ w = w' := Turn3_spec b 2 (by omega) w
theorem turn3 (b : Int) (w : World) : Calls Tryz.prog 156 #[.int .i64 b, .int .i64 3] w fun e w' => e = .returned (.int .i64 (rotl (b8 b) 3).toNat) ∧ w = w' := Turn3_spec b 3 (by omega) w
theorem turn4 (b : Int) (w : World) : Calls Tryz.prog 156 #[.int .i64 b, .int .i64 4] w fun e w' => e = .returned (.int .i64 (rotl (b8 b) 4).toNat) ∧ w = w' := Turn3_spec b 4 (by omega) w
theorem turn6 (b : Int) (w : World) : Calls Tryz.prog 156 #[.int .i64 b, .int .i64 6] w fun e w' => e = .returned (.int .i64 (rotl (b8 b) 6).toNat) ∧ w = w' := Turn3_spec b 6 (by omega) w
theorem aff_val (b : Int) : bits .xor .i64 (bits .xor .i64 (bits .xor .i64 (bits .xor .i64 (bits .xor .i64 (bits .and .i64 b 255) (rotl (b8 b) 1).toNat) (rotl (b8 b) 2).toNat) (rotl (b8 b) 3).toNat) (rotl (b8 b) 4).toNat) 99 = ((aff (b8 b)).toNat : Int) := by
  rw [and255_b8, i64_x, i64_x, i64_x, i64_x, show (99 : Int) = ((99 : UInt8).toNat : Int) by rfl, i64_x, aff_sp]
theorem unaff_val (b : Int) : bits .xor .i64 (bits .xor .i64 (bits .xor .i64 ((rotl (b8 b) 1).toNat) (rotl (b8 b) 3).toNat) (rotl (b8 b) 6).toNat) 5 = ((unaff (b8 b)).toNat : Int) := by
  rw [i64_x, i64_x, show (5 : Int) = ((5 : UInt8).toNat : Int) by rfl, i64_x, unaff_sp]
theorem Affine_spec (b : Int) (w : World) :
    Calls Tryz.prog 145 #[.int .i64 b] w fun e w' => e = .returned (.int .i64 (aff (b8 b)).toNat) ∧ w = w' := by
  have HA := Lib.hid (aff_val b)
  go_enter Tryz.func145, Tryz.ntmps145
  go_wp2_with fail
  refine (turn1 b _).mono ?_; rintro e w' ⟨rfl, rfl⟩
  go_wp2_with fail
  refine (turn2 b _).mono ?_; rintro e w' ⟨rfl, rfl⟩
  go_wp2_with fail
  refine (turn3 b _).mono ?_; rintro e w' ⟨rfl, rfl⟩
  go_wp2_with fail
  refine (turn4 b _).mono ?_; rintro e w' ⟨rfl, rfl⟩
  go_wp2
  go_ret
  exact ⟨ret_i HA.out, rfl⟩
theorem Unaffine_spec (b : Int) (w : World) :
    Calls Tryz.prog 114 #[.int .i64 b] w fun e w' => e = .returned (.int .i64 (unaff (b8 b)).toNat) ∧ w = w' := by
  have HA := Lib.hid (unaff_val b)
  go_enter Tryz.func114, Tryz.ntmps114
  go_wp2_with fail
  refine (turn1 b _).mono ?_; rintro e w' ⟨rfl, rfl⟩
  go_wp2_with fail
  refine (turn3 b _).mono ?_; rintro e w' ⟨rfl, rfl⟩
  go_wp2_with fail
  refine (turn6 b _).mono ?_; rintro e w' ⟨rfl, rfl⟩
  go_wp2
  go_ret
  exact ⟨ret_i HA.out, rfl⟩
theorem Affine_spec8 (c : UInt8) (w : World) :
    Calls Tryz.prog 145 #[.int .i64 c.toNat] w fun e w' => e = .returned (.int .i64 (aff c).toNat) ∧ w = w' := by
  have := Affine_spec (c.toNat : Int) w
  rwa [b8_of] at this
theorem Inverse_spec8 (c : UInt8) (w : World) :
    Calls Tryz.prog 113 #[.int .i64 c.toNat] w fun e w' => e = .returned (.int .i64 (inv c).toNat) ∧ w = w' := by
  have := Inverse_spec (c.toNat : Int) w
  rwa [b8_of] at this
theorem Sub_spec (b : Int) (w : World) :
    Calls Tryz.prog 100 #[.int .i64 b] w fun e w' => e = .returned (.int .i64 (sbox (b8 b)).toNat) ∧ w = w' := by
  go_enter Tryz.func100, Tryz.ntmps100
  go_wp2_with (first | (go_at_call 113; refine (Inverse_spec b _).mono ?_; rintro e w' ⟨rfl, rfl⟩) | (go_at_call 145; refine (Affine_spec8 _ _).mono ?_; rintro e w' ⟨rfl, rfl⟩))
  go_ret
  exact ⟨rfl, rfl⟩
theorem Unsub_spec (b : Int) (w : World) :
    Calls Tryz.prog 80 #[.int .i64 b] w fun e w' => e = .returned (.int .i64 (ubox (b8 b)).toNat) ∧ w = w' := by
  go_enter Tryz.func80, Tryz.ntmps80
  go_wp2_with (first | (go_at_call 114; refine (Unaffine_spec b _).mono ?_; rintro e w' ⟨rfl, rfl⟩) | (go_at_call 113; refine (Inverse_spec8 _ _).mono ?_; rintro e w' ⟨rfl, rfl⟩))
  go_ret
  exact ⟨rfl, rfl⟩
end Go.Proofs.YtbfmbdohebdbaaaGreatDoor
set_option linter.unusedVariables false
namespace Go.Proofs.YtbfmbdohebdbaaaGreatDoor
open Go.RowKit

/-- a table of what f tells of each byte. -/
def tabOf (f : UInt8 → UInt8) : Array Value := ((List.range 256).map fun i => Value.int .u8 ((f (UInt8.ofNat i)).toNat : Int)).toArray
theorem tabOf_at (f : UInt8 → UInt8) (c : UInt8) : (tabOf f)[c.toNat]? = some (.int .u8 ((f c).toNat : Int)) := by
  have hc := c.toNat_lt
  have h : ((List.range 256).map fun i => Value.int .u8 ((f (UInt8.ofNat i)).toNat : Int))[c.toNat]? = some (.int .u8 ((f (UInt8.ofNat c.toNat)).toNat : Int)) := by
    rw [List.getElem?_map, List.getElem?_range (by omega)]; rfl
  rw [UInt8.ofNat_toNat] at h
  unfold tabOf
  rw [List.getElem?_toArray]
  exact h
def zeros256 : Array Value := Array.replicate 256 (.int .u8 0)
theorem tabOf_size (f : UInt8 → UInt8) : (tabOf f).size = 256 := by simp [tabOf]
theorem box_size {f : UInt8 → UInt8} : (Tryz.prog.info? 126).map (·.size) = some (tabOf f).size := by rw [tabOf_size]; kernel_rfl
set_option maxRecDepth 100000 in
theorem subBox_impl (w : World) : Calls Tryz.prog 87 #[] w fun e w' => e = .returned (.agg (tabOf sbox)) ∧ w' = w.alloc (.cells (tabOf sbox) 126) := by
  go_enter Tryz.func87, Tryz.ntmps87
  apply wp_seq
  apply wp_region_lit
  refine Great.wpList_runTo rfl (some 0) rfl (.pointer (some ⟨w.heap.size, 0, none⟩)) (w.alloc (.cells zeros256 126)) (by kernel_rfl) ?_
  apply wpList_nil
  simp only [Exit.then]
  apply wp_seq
  apply wp_region_lit
  refine wpList_buildTo rfl 126 _ rfl (some 1) rfl (tabOf sbox) (by kernel_rfl) ?_
  refine wpList_store_rowTo rfl 126 _ _ rfl rfl w.heap.size (tabOf sbox) rfl rfl 126 zeros256 (heap_alloc_new w _) box_size (by kernel_rfl) (by kernel_rfl) ?_
  apply wpList_nil
  simp only [Exit.then]
  apply wp_ret
  rw [World.setRow_alloc_new]
  refine bodyPost_ret (v := .agg (tabOf sbox)) ?_ rfl ⟨rfl, rfl⟩
  exact results_cell_row rfl _ _ w.heap.size 126 _ (0, 0) _ rfl (heap_alloc_new w _) Tryz.underlying126 rfl box_size
set_option maxRecDepth 100000 in
theorem unsubBox_impl (w : World) : Calls Tryz.prog 103 #[] w fun e w' => e = .returned (.agg (tabOf ubox)) ∧ w' = w.alloc (.cells (tabOf ubox) 126) := by
  go_enter Tryz.func103, Tryz.ntmps103
  apply wp_seq
  apply wp_region_lit
  refine Great.wpList_runTo rfl (some 0) rfl (.pointer (some ⟨w.heap.size, 0, none⟩)) (w.alloc (.cells zeros256 126)) (by kernel_rfl) ?_
  apply wpList_nil
  simp only [Exit.then]
  apply wp_seq
  apply wp_region_lit
  refine wpList_buildTo rfl 126 _ rfl (some 1) rfl (tabOf ubox) (by kernel_rfl) ?_
  refine wpList_store_rowTo rfl 126 _ _ rfl rfl w.heap.size (tabOf ubox) rfl rfl 126 zeros256 (heap_alloc_new w _) box_size (by kernel_rfl) (by kernel_rfl) ?_
  apply wpList_nil
  simp only [Exit.then]
  apply wp_ret
  rw [World.setRow_alloc_new]
  refine bodyPost_ret (v := .agg (tabOf ubox)) ?_ rfl ⟨rfl, rfl⟩
  exact results_cell_row rfl _ _ w.heap.size 126 _ (0, 0) _ rfl (heap_alloc_new w _) Tryz.underlying126 rfl box_size
theorem subBox_any (w : World) : Calls Tryz.prog 87 #[] w fun e w' => e = .returned (.agg (tabOf sbox)) ∧ Below w.heap.size w w' :=
  (subBox_impl w).mono fun e w' ⟨he, hw⟩ => ⟨he, by rw [hw]; exact (Below.refl _ _).alloc (Nat.le_refl _) _⟩
theorem unsubBox_any (w : World) : Calls Tryz.prog 103 #[] w fun e w' => e = .returned (.agg (tabOf ubox)) ∧ Below w.heap.size w w' :=
  (unsubBox_impl w).mono fun e w' ⟨he, hw⟩ => ⟨he, by rw [hw]; exact (Below.refl _ _).alloc (Nat.le_refl _) _⟩
/-- the value that reads a box. -/
def reader (g : Nat) : Value := .func (.func 189) #[] #[.pointer (some ⟨g, 0, none⟩)]
theorem readerOf_impl (t : Array Value) (w : World) :
    Calls Tryz.prog 173 #[.agg t] w fun e w' => e = .returned (reader w.heap.size) ∧ w' = w.alloc (.cells t 126) := by
  have hmf : ∀ (fn : Fn) (first cap : Array Value) (w : World), (Instr.makeFunc fn first cap).run Tryz.prog w = .ok (.func fn first cap) w := fun _ _ _ _ => rfl
  go_enter Tryz.func173, Tryz.ntmps173
  go_wp2
  go_ret
  exact ⟨rfl, rfl⟩
/-- A box of f stands at block g. -/
def BoxAt (w : World) (g : Nat) (f : UInt8 → UInt8) : Prop := w.heap[g]? = some (.cells (tabOf f) 126 (0, 0))
theorem BoxAt.lt {w : World} {g : Nat} {f : UInt8 → UInt8} (h : BoxAt w g f) : g < w.heap.size := by
  rcases Nat.lt_or_ge g w.heap.size with h2 | h2
  · exact h2
  · rw [BoxAt, Array.getElem?_eq_none h2] at h; cases h
theorem BoxAt.below {w w' : World} {B g : Nat} {f : UInt8 → UInt8} (h : BoxAt w g f) (hb : Below B w w') (hg : g < B) : BoxAt w' g f := (hb.block g hg).trans h
theorem BoxAt.new (w : World) (f : UInt8 → UInt8) : BoxAt (w.alloc (.cells (tabOf f) 126)) w.heap.size f := heap_alloc_new w _
theorem BoxAt.is (w : World) {f : UInt8 → UInt8} {T : Array Value} (h : tabOf f = T) : BoxAt (w.alloc (.cells T 126)) w.heap.size f := by subst h; exact heap_alloc_new w _
theorem reads (f : UInt8 → UInt8) (b : UInt8) (w : World) (g : Nat) (h : BoxAt w g f) :
    Calls Tryz.prog 189 #[.int .u8 b.toNat, .pointer (some ⟨g, 0, none⟩)] w fun e w' => e = .returned (.int .u8 (f b).toNat) ∧ w = w' := by
  have hc : w.cell? ⟨g, b.toNat, none⟩ = some (.int .u8 ((f b).toNat : Int)) := (cell_of_row w g b.toNat _ _ _ h).trans (tabOf_at f b)
  have hb := b.toNat_lt
  have hb1 : (b.toNat : Int) < 256 := by omega
  clear h
  go_enter Tryz.func189, Tryz.ntmps189
  go_wp2
  go_ret
  exact ⟨rfl, rfl⟩
theorem reads_mod (f : UInt8 → UInt8) (a : Int) (w : World) (g : Nat) (h : BoxAt w g f) :
    Calls Tryz.prog 189 #[.int .u8 (a % 256), .pointer (some ⟨g, 0, none⟩)] w fun e w' => e = .returned (.int .u8 (f (b8 a)).toNat) ∧ w = w' := by
  rw [← b8_val]; exact reads f _ w g h
end Go.Proofs.YtbfmbdohebdbaaaGreatDoor
set_option linter.unusedVariables false
namespace Go.Proofs.YtbfmbdohebdbaaaGreatDoor
open Go Go.RowKit Go.Proofs

def hexTab : ByteArray := ⟨#[48, 49, 50, 51, 52, 53, 54, 55, 56, 57, 97, 98, 99, 100, 101, 102]⟩
theorem fold_hexTab : (⟨#[48, 49, 50, 51, 52, 53, 54, 55, 56, 57, 97, 98, 99, 100, 101, 102]⟩ : ByteArray) = hexTab := rfl
theorem hexTab_size : hexTab.size = 16 := by decide +kernel
theorem hexTab_at : ∀ n : Fin 16, (hexTab[n.val]?).getD 0 = hexDig n.val := by decide +kernel
theorem run_index_hexTab {P : Program} (w : World) (t : TypeId) (k : IntKind) (i : Int) (h : P.underlying t = some .string) (h0 : 0 ≤ i) (h1 : i < 16) :
    (Instr.index t (.string hexTab) (.int k i)).run P w = .ok (.int .u8 ((hexDig i.toNat).toNat : Int)) w := by
  have hi : 0 ≤ i ∧ i < (hexTab.size : Int) := by rw [hexTab_size]; omega
  have h2 : i.toNat < hexTab.size := by rw [hexTab_size]; omega
  rw [run_index_string w t hexTab k i h, dif_pos hi]
  have h3 := hexTab_at ⟨i.toNat, by omega⟩
  simp only [ByteArray.getElem?_lt' _ _ h2, Option.getD_some] at h3
  rw [← h3]
theorem u8_and_15 (x : Int) (h0 : 0 ≤ x) (h1 : x < 256) : bits .and .u8 x 15 = x % 16 := by
  rw [u8_and x 15 h0 h1 (by omega) (by omega)]
  show ((x.toNat &&& 15 : Nat) : Int) = _
  rw [nat_mask4]; omega

/-- 'string(b)' of a row of the call's own. -/
theorem run_string_own {P : Program} {src e dst : TypeId} (hs : P.underlying src = some (.slice e)) (he : P.underlying e = some (.int .u8)) (hd : P.underlying dst = some .string)
    {w : World} {base n : Nat} {v : Value} {l : List UInt8} (h : w.ownsRow base e 1 v n (cells8 l)) : (convert src dst v).run P w = .ok (.string ⟨l.toArray⟩) w := by
  have hl : n = l.length := by have := h.1; rw [cells8_length] at this; omega
  subst hl
  have h1 := h.1
  rcases h.2 with ⟨rfl, h0⟩ | ⟨g, cap, cur, rfl, hb, hg, hn, hc, hs2, ht⟩
  · have : l = [] := List.eq_nil_of_length_eq_zero h0
    subst this
    rw [run_convert_bytes_string w src dst e _ _ _ hs he hd]
    simp [Conv.bytesToString]
    rfl
  · have hsz : (⟨l.toArray⟩ : ByteArray).size = l.length := by simp [ByteArray.size]
    have hB : Lib.Bytes w g 0 ⟨l.toArray⟩ := fun i hi => by
      have hi' : i < l.length := by simpa [ByteArray.size] using hi
      have := h.cells (g := g) rfl i (cell8 l[i]) (by simp [cells8, List.getElem?_map, List.getElem?_eq_getElem hi'])
      rw [show (⟨g, 0 + i, none⟩ : Addr) = (⟨g, 0, none⟩ : Addr).add i by unfold Addr.add; split <;> simp_all, this]
      rfl
    have := Lib.run_convert_whole (P := P) w src e dst hs he hd g 0 ⟨l.toArray⟩ hB cap
    rw [hsz] at this
    exact this
theorem cells8_two (w : World) (o : TypeId) (c d : UInt8) : ∀ j u, [cell8 c, cell8 d][j]? = some u → (w.alloc (.cells #[.int .u8 (c.toNat : Int), .int .u8 (d.toNat : Int)] o)).cell? ((⟨w.heap.size, 0, none⟩ : Addr).add j) = some u :=
  World.news_of_block (cs := #[.int .u8 (c.toNat : Int), .int .u8 (d.toNat : Int)]) (heap_alloc_new w _)
theorem cells8_one (w : World) (o : TypeId) (c : UInt8) : ∀ j u, [cell8 c][j]? = some u → (w.alloc (.cells #[.int .u8 (c.toNat : Int)] o)).cell? ((⟨w.heap.size, 0, none⟩ : Addr).add j) = some u :=
  World.news_of_block (cs := #[.int .u8 (c.toNat : Int)]) (heap_alloc_new w _)
theorem cells8_oneCell (l : List UInt8) : ∀ u ∈ cells8 l, u.oneCell' = true := by
  intro u hu
  obtain ⟨c, _, rfl⟩ := List.mem_map.1 hu
  rfl
/-- 'wpAnyH_take' with what the kernel reckons left out: operation i is taken first. -/
theorem tk {P : Program} {ops : Array Oper} {Q : Exit → Act → World → Prop} {md : Region.Mode} {S : World → Prop} (i : Nat) {oi : Oper} {v : Value} {fuel : Nat} {listed : Array Bool} {a : Act} {w : World}
    (hy : ∀ w, S w → (execOp a.eval oi).run P w = .ok (.value v) w) (hS : S w) (h : wpAnyH P md ops Q S fuel (listed.setIfInBounds i true) (a.put oi.dst v) w)
    (hi : ops[i]? = some oi := by rfl) (hs : Region.noSelect ops = true := by kernel_rfl) (hf : Region.free md ops listed i = true := by kernel_rfl) (hr : (Region.ready md ops listed).contains i = true := by kernel_rfl)
    (hg : Region.wanted oi (yielded ops a.tmps) = true := by kernel_rfl) (hQ : ∀ c a w, Q (.panic c) (a.put oi.dst v) w → Q (.panic c) a w := by exact fun _ _ _ h => h) : wpAnyH P md ops Q S (fuel + 1) listed a w :=
  wpAnyH_take hi hs hf hr hQ (Or.inl ⟨hg, hy⟩) hS h
/-- A stop: the walk stands still here, so that a law can be handed in by hand. -/
def Stp (p : Prop) : Prop := p
theorem stp {p : Prop} (h : Stp p) : p := h
theorem unstp {p : Prop} (h : p) : Stp p := h
def mk8 (n : Nat) : Array Value := madeCells #[.int .u8 0] n
theorem mk8_size (n : Nat) : (mk8 n).size = n := size_madeCells _ _
/-- make of a slice of bytes. -/
theorem run_make8 {P : Program} {t e : TypeId} {i : TypeInfo} (ht : P.underlying t = some (.slice e)) (hi : P.info? e = some i) (hz : i.zero = some (.int .u8 0)) (h1 : i.size = 1) (h2 : i.bytes = 1)
    (l c : Nat) (hlc : l ≤ c) (hc : c ≤ 281474976710656) (w : World) :
    (Instr.makeSlice t (.int .i64 (l : Int)) (.int .i64 (c : Int))).run P w = .ok (.slice (some ⟨w.heap.size, 0, none⟩) l c) (w.alloc (.cells (mk8 c) e)) := by
  have := run_make (P := P) w t e i (.int .u8 0) ht hi hz .i64 .i64 l c (by omega) (by omega) (by rw [h2]; omega) (by omega)
  rw [this]
  simp [h1, mk8, Value.cells]
theorem run_make8_0 {P : Program} {t e : TypeId} {i : TypeInfo} (ht : P.underlying t = some (.slice e)) (hi : P.info? e = some i) (hz : i.zero = some (.int .u8 0)) (h1 : i.size = 1) (h2 : i.bytes = 1)
    (c : Nat) (hc : c ≤ 281474976710656) (w : World) :
    (Instr.makeSlice t (.int .i64 0) (.int .i64 (c : Int))).run P w = .ok (.slice (some ⟨w.heap.size, 0, none⟩) 0 c) (w.alloc (.cells (mk8 c) e)) :=
  run_make8 ht hi hz h1 h2 0 c (by omega) hc w
theorem mk8_list (n : Nat) : (mk8 n).toList = cells8 (List.replicate n 0) := by
  unfold mk8
  rw [toList_madeCells_one]
  simp [cells8, cell8]
theorem cell8_xor (c d : UInt8) : cell8 (c ^^^ d) = .int .u8 ((c.toNat ^^^ d.toNat : Nat) : Int) := by simp [cell8, UInt8.toNat_xor]
theorem Tryz.info5 : (Tryz.prog.info? 5).map (fun i => (i.zero, i.size, i.bytes)) = some (some (.int .u8 0), 1, 1) := by kernel_rfl
end Go.Proofs.YtbfmbdohebdbaaaGreatDoor
set_option linter.unusedVariables false
namespace Go.Proofs.YtbfmbdohebdbaaaGreatDoor
open Go.RowKit

attribute [local go_sem ↓] Go.wp_at_zero Go.wp_at_succ

/-- the text with f of each byte. -/
def mapT (f : UInt8 → UInt8) (s : ByteArray) : ByteArray := ⟨(s.data.toList.map f).toArray⟩
theorem mapT_size (f : UInt8 → UInt8) (s : ByteArray) : (mapT f s).size = s.size := by
  show ((s.data.toList.map f).toArray).size = s.data.size
  simp
/-- the first k bytes, changed. -/
def mapTo (f : UInt8 → UInt8) (s : ByteArray) (k : Nat) : List UInt8 := (s.data.toList.take k).map f
theorem mapTo_snoc (f : UInt8 → UInt8) (s : ByteArray) (k : Nat) (h : k < s.size) : mapTo f s (k + 1) = mapTo f s k ++ [f s[k]] := by
  unfold mapTo; rw [take_snoc s k h]; simp
theorem mapTo_all (f : UInt8 → UInt8) (s : ByteArray) (k : Nat) (h : s.size ≤ k) : (⟨(mapTo f s k).toArray⟩ : ByteArray) = mapT f s := by
  unfold mapTo mapT; rw [List.take_of_length_le (by simp; omega)]
theorem mapTo_length (f : UInt8 → UInt8) (s : ByteArray) (k : Nat) (h : k ≤ s.size) : (mapTo f s k).length = k := by
  have : s.data.toList.length = s.size := by simp
  simp [mapTo, List.length_take]; omega
theorem ret_text {a b : ByteArray} (h : a = b) : Ending.returned (.string a) = .returned (.string b) := by rw [h]
/-- a row of n bytes whose first k are changed. -/
def mapRow (f : UInt8 → UInt8) (s : ByteArray) (k n : Nat) : List UInt8 := mapTo f s k ++ List.replicate (n - k) 0
theorem mapRow_zero (f : UInt8 → UInt8) (s : ByteArray) (n : Nat) : mapRow f s 0 n = List.replicate n 0 := by simp [mapRow, mapTo]
theorem mapRow_length (f : UInt8 → UInt8) (s : ByteArray) (k n : Nat) (hn : n ≤ s.size) (hk : k ≤ n) : (mapRow f s k n).length = n := by
  rw [mapRow, List.length_append, mapTo_length f s k (by omega)]; simp; omega
theorem mapRow_set (f : UInt8 → UInt8) (s : ByteArray) (k n : Nat) (hn : n ≤ s.size) (hk : k < n) : (mapRow f s k n).set k (f (s[k]'(by omega))) = mapRow f s (k + 1) n := by
  have h := mapTo_length f s k (by omega)
  unfold mapRow
  rw [mapTo_snoc f s k (by omega), List.set_append_right _ _ (by omega), h, Nat.sub_self, show n - k = (n - (k + 1)) + 1 by omega, List.replicate_succ]
  simp
theorem mapRow_all (f : UInt8 → UInt8) (s : ByteArray) (k : Nat) (h : k = s.size) : (⟨(mapRow f s k s.size).toArray⟩ : ByteArray) = mapT f s := by
  rw [mapRow, show s.size - k = 0 by omega, List.replicate_zero, List.append_nil, mapTo_all f s k (by omega)]

set_option maxRecDepth 100000 in
set_option maxHeartbeats 1600000 in
theorem each_impl (f : UInt8 → UInt8) (s : ByteArray) (w : World) (g : Nat) (hg : BoxAt w g f) (hs : s.size ≤ 1073741824) :
    Calls Tryz.prog 198 #[.string s, reader g] w fun e w' => e = .returned (.string (mapT f s)) ∧ Below w.heap.size w w' := by
  obtain ⟨i0, hi, hz0, hz1, hz2⟩ := info_parts Tryz.info5
  have hmk := run_make8 Tryz.underlying22 hi hz0 hz1 hz2 s.size s.size (by omega) (by omega) w
  have hgl := hg.lt
  have HG := Lib.hid hg
  unfold reader
  clear hg
  go_enter Tryz.func198, Tryz.ntmps198
  go_wp2
  clear hmk
  go_loopw [12] (fun i wr => ∃ k : Nat, k ≤ s.size ∧ i = .int .i64 k ∧ wr.ownsRow w.heap.size 5 1 (.slice (some ⟨w.heap.size, 0, none⟩) s.size s.size) s.size (cells8 (mapRow f s k s.size)) ∧ Below w.heap.size w wr) (fun i _ => s.size - (intOf i).toNat)
  case atStart =>
    refine ⟨0, Nat.zero_le _, rfl, ?_, (Below.refl _ _).alloc (Nat.le_refl _) _⟩
    have h0 := World.ownsRow_lit w (e := 5) (size := 1) (mk8 s.size) s.size (Nat.le_refl w.heap.size) (by unfold maxLen; omega) (by rw [mk8_size]; omega)
    rw [mk8_list] at h0
    rw [mapRow_zero]
    exact h0
  case round =>
    obtain ⟨k, hk, rfl, hown, hbel⟩ := hrel
    by_cases hlt : k < s.size
    · have hka : k < s.size := by omega
      have hc := s[k].toNat_lt
      have hc' : (s[k].toNat : Int) < 256 := by omega
      have hk0 : (0 : Int) ≤ (k : Int) := by omega
      have hk1 : (k : Int) < (s.size : Int) := by omega
      clear hc
      obtain ⟨u, hcell⟩ : ∃ u, wr.cell? ⟨w.heap.size, k, none⟩ = some u := by
        have hl : (cells8 (mapRow f s k s.size)).length = s.size := by rw [cells8_length, mapRow_length f s k s.size (by omega) hk]
        exact ⟨_, (hown.cellAt k (by omega)).trans (List.getElem?_eq_getElem (by omega))⟩
      have hfr := hown.frozenAt k
      have hown2 := hown.stored k (cell8 (f s[k]))
      have hbel2 : Below w.heap.size w (wr.setCell ⟨w.heap.size, k, none⟩ (cell8 (f s[k]))) := hbel.setCell (Nat.le_refl _) _
      have hcs : (cells8 (mapRow f s k s.size)).set k (cell8 (f s[k])) = cells8 (mapRow f s (k + 1) s.size) := by rw [← mapRow_set f s k s.size (by omega) hlt]; simp [cells8, List.map_set]
      rw [hcs] at hown2
      unfold cell8 at hown2 hbel2
      have HO := Lib.hid hown2
      have HB := Lib.hid hbel2
      have hgw := HG.out.below hbel hgl
      have HR := fun W => Lib.hid (reads f s[k] W g)
      have HGW := Lib.hid hgw
      clear hown2 hbel2 hcs hgw
      go_wp2_with fail
      refine ((HR _).out HGW.out).mono ?_; rintro e w' ⟨rfl, rfl⟩
      go_wp2
      go_roundw
      case rel => exact ⟨k + 1, by omega, by go_num, HO.out.1, HB.out⟩
      case measure => simp [intOf]; omega
    · have hconv := run_string_own Tryz.underlying22 Tryz.underlying5 Tryz.underlying9 hown
      have hk1 : ¬ (k : Int) < (s.size : Int) := by omega
      go_wp2
      go_ret
      exact ⟨ret_text (mapRow_all f s k (by omega)), hbel⟩
set_option maxRecDepth 100000 in
set_option maxHeartbeats 800000 in
theorem SubText_impl (s : ByteArray) (w : World) (hs : s.size ≤ 1073741824) :
    Calls Tryz.prog 194 #[.string s] w fun e w' => e = .returned (.string (mapT sbox s)) ∧ Below w.heap.size w w' := by
  obtain ⟨T, hT⟩ : ∃ T, tabOf sbox = T := ⟨_, rfl⟩
  have HT := Lib.hid hT
  have HS := subBox_any w
  rw [hT] at HS
  clear hT
  go_enter Tryz.func194, Tryz.ntmps194
  go_wp2_with fail
  refine HS.mono ?_; rintro e w1 ⟨rfl, hb⟩
  go_wp2_with fail
  refine (readerOf_impl T w1).mono ?_; rintro e w' ⟨rfl, rfl⟩
  go_wp2_with fail
  refine (each_impl sbox s _ w1.heap.size (BoxAt.is w1 HT.out) hs).mono ?_; rintro e w2 ⟨rfl, hb2⟩
  have hb3 := hb.alloc hb.size (.cells T 126)
  have hb4 := hb3.trans (hb2.mono hb3.size)
  clear hb hb2 hb3
  go_wp2
  go_ret
  exact ⟨rfl, hb4⟩
theorem Sub_spec8 (c : UInt8) (w : World) :
    Calls Tryz.prog 100 #[.int .i64 c.toNat] w fun e w' => e = .returned (.int .i64 (sbox c).toNat) ∧ w = w' := by
  have := Sub_spec (c.toNat : Int) w
  rwa [b8_of] at this
theorem Unsub_spec8 (c : UInt8) (w : World) :
    Calls Tryz.prog 80 #[.int .i64 c.toNat] w fun e w' => e = .returned (.int .i64 (ubox c).toNat) ∧ w = w' := by
  have := Unsub_spec (c.toNat : Int) w
  rwa [b8_of] at this
theorem map_rel {f : UInt8 → UInt8} {s : ByteArray} {w w2 w1 : World} {k : Nat} {e : TypeId} {u v : Value} {o : Obj} {x : UInt8} (hlt : k < s.size) (hx : f s[k] = x)
    (hown2 : w2.ownsRow w.heap.size e 1 u k (cells8 (mapTo f s k))) (hbel2 : Below w.heap.size w w2)
    (hown3 : w1.ownsRow w.heap.size e 1 v (k + 1) (cells8 (mapTo f s k) ++ [.int .u8 (x.toNat : Int)]))
    (hgrow : (w2.alloc o).grownBy w1 u.ownBlock) :
    w1.ownsRow w.heap.size e 1 v (k + 1) (cells8 (mapTo f s (k + 1))) ∧ Below w.heap.size w w1 := by
  refine ⟨?_, ?_⟩
  · rw [mapTo_snoc f s k hlt, cells8_append, hx]
    exact hown3
  · have h1 : Below w.heap.size w (w2.alloc o) := hbel2.alloc hbel2.size _
    exact h1.grown hgrow h1.size (fun b hb => (hown2.lt b hb).1)
set_option maxRecDepth 100000 in
set_option maxHeartbeats 800000 in
theorem SubText_spec (s : ByteArray) (w : World) (hs : s.size ≤ 1073741824) :
    Calls Tryz.prog 72 #[.string s] w fun e w' => e = .returned (.string (mapT sbox s)) ∧ Below w.heap.size w w' := by
  obtain ⟨i0, hi, hz0, hz1, hz2⟩ := info_parts Tryz.info5
  go_enter Tryz.func72, Tryz.ntmps72
  go_wp2
  go_loopw [3, 4] (fun v i wr => ∃ k : Nat, k ≤ s.size ∧ i = .int .i64 k ∧ wr.ownsRow w.heap.size 5 1 v k (cells8 (mapTo sbox s k)) ∧ Below w.heap.size w wr) (fun _ i _ => s.size - (intOf i).toNat)
  case atStart => exact ⟨0, Nat.zero_le _, rfl, World.ownsRow_lit w #[] 0 (Nat.le_refl _) (by simp [maxLen]) rfl, (Below.refl _ _).alloc (Nat.le_refl _) _⟩
  case round =>
    obtain ⟨k, hk, rfl, hown, hbel⟩ := hrel
    by_cases hlt : k < s.size
    · obtain ⟨x, hx⟩ : ∃ x, sbox s[k] = x := ⟨_, rfl⟩
      have HS := fun W => Lib.hid (Sub_spec8 s[k] W)
      simp only [hx] at HS
      have HX := Lib.hid hx
      clear hx
      have hc := s[k].toNat_lt
      have hc' : (s[k].toNat : Int) < 256 := by omega
      have hd := x.toNat_lt
      have hd' : (x.toNat : Int) < 256 := by omega
      have hk0 : (0 : Int) ≤ (k : Int) := by omega
      have hk1 : (k : Int) < (s.size : Int) := by omega
      clear hd hc
      go_wp2_with fail
      refine (HS _).out.mono ?_; rintro e w' ⟨rfl, rfl⟩
      go_wp2_with (at_builtin; refine stp ?_)
      refine unstp ?_
      refine wpList_append_lies _ rfl (.tmp 12) (.tmp 19) 22 rfl w.heap.size 5 i0 (.int .u8 0) 1 1 Tryz.underlying22 hi hz0 hz1 hz2 rfl (by decide) u3 k (cells8 (mapTo sbox s k)) rfl (hown.alloc _) ⟨wr.heap.size, 0, none⟩ 1 1 [.int .u8 (x.toNat : Int)] rfl rfl (World.news_of_block (cs := #[.int .u8 (x.toNat : Int)]) (heap_alloc_new wr _)) (by simp [Value.oneCell']) (by omega) (by unfold maxLen; omega) (by omega) (by have := hbel.size; simp; omega) (wr.heap.size + 1) (by simp) ?_
      intro g2 cap2 w5 hown5 hgrow hat hlt5
      have hrel := map_rel hlt HX.out hown hbel hown5 hgrow
      clear hown hbel hown5 hgrow hat hlt5
      go_wp2
      go_roundw
      case rel => exact ⟨k + 1, by omega, by go_num, hrel.1, hrel.2⟩
      case measure => simp [intOf]; omega
    · have hconv := run_string_own Tryz.underlying22 Tryz.underlying5 Tryz.underlying9 hown
      go_wp2
      go_ret
      exact ⟨ret_text (mapTo_all sbox s k (by omega)), hbel⟩
set_option maxRecDepth 100000 in
set_option maxHeartbeats 800000 in
theorem UnsubText_spec (s : ByteArray) (w : World) (hs : s.size ≤ 1073741824) :
    Calls Tryz.prog 49 #[.string s] w fun e w' => e = .returned (.string (mapT ubox s)) ∧ Below w.heap.size w w' := by
  obtain ⟨i0, hi, hz0, hz1, hz2⟩ := info_parts Tryz.info5
  go_enter Tryz.func49, Tryz.ntmps49
  go_wp2
  go_loopw [3, 4] (fun v i wr => ∃ k : Nat, k ≤ s.size ∧ i = .int .i64 k ∧ wr.ownsRow w.heap.size 5 1 v k (cells8 (mapTo ubox s k)) ∧ Below w.heap.size w wr) (fun _ i _ => s.size - (intOf i).toNat)
  case atStart => exact ⟨0, Nat.zero_le _, rfl, World.ownsRow_lit w #[] 0 (Nat.le_refl _) (by simp [maxLen]) rfl, (Below.refl _ _).alloc (Nat.le_refl _) _⟩
  case round =>
    obtain ⟨k, hk, rfl, hown, hbel⟩ := hrel
    by_cases hlt : k < s.size
    · obtain ⟨x, hx⟩ : ∃ x, ubox s[k] = x := ⟨_, rfl⟩
      have HS := fun W => Lib.hid (Unsub_spec8 s[k] W)
      simp only [hx] at HS
      have HX := Lib.hid hx
      clear hx
      have hc := s[k].toNat_lt
      have hc' : (s[k].toNat : Int) < 256 := by omega
      have hd := x.toNat_lt
      have hd' : (x.toNat : Int) < 256 := by omega
      have hk0 : (0 : Int) ≤ (k : Int) := by omega
      have hk1 : (k : Int) < (s.size : Int) := by omega
      clear hd hc
      go_wp2_with fail
      refine (HS _).out.mono ?_; rintro e w' ⟨rfl, rfl⟩
      go_wp2_with (at_builtin; refine stp ?_)
      refine unstp ?_
      refine wpList_append_lies _ rfl (.tmp 12) (.tmp 19) 22 rfl w.heap.size 5 i0 (.int .u8 0) 1 1 Tryz.underlying22 hi hz0 hz1 hz2 rfl (by decide) u3 k (cells8 (mapTo ubox s k)) rfl (hown.alloc _) ⟨wr.heap.size, 0, none⟩ 1 1 [.int .u8 (x.toNat : Int)] rfl rfl (World.news_of_block (cs := #[.int .u8 (x.toNat : Int)]) (heap_alloc_new wr _)) (by simp [Value.oneCell']) (by omega) (by unfold maxLen; omega) (by omega) (by have := hbel.size; simp; omega) (wr.heap.size + 1) (by simp) ?_
      intro g2 cap2 w5 hown5 hgrow hat hlt5
      have hrel := map_rel hlt HX.out hown hbel hown5 hgrow
      clear hown hbel hown5 hgrow hat hlt5
      go_wp2
      go_roundw
      case rel => exact ⟨k + 1, by omega, by go_num, hrel.1, hrel.2⟩
      case measure => simp [intOf]; omega
    · have hconv := run_string_own Tryz.underlying22 Tryz.underlying5 Tryz.underlying9 hown
      go_wp2
      go_ret
      exact ⟨ret_text (mapTo_all ubox s k (by omega)), hbel⟩
end Go.Proofs.YtbfmbdohebdbaaaGreatDoor
set_option linter.unusedVariables false
namespace Go.Proofs.YtbfmbdohebdbaaaGreatDoor
open Go.RowKit

theorem own_only {w w' : World} {base n size g : Nat} {e : TypeId} {v : Value} {xs : List Value} (h : w.ownsRow base e size v n xs) (hg : w.grownBy w' (some g)) (hlt : g < base) : w'.ownsRow base e size v n xs :=
  h.kept hg (.inr (fun he => by have := (h.lt g he).1; omega))
theorem cell_byte (x : Int) (h0 : 0 ≤ x) (h1 : x ≤ 255) : Value.int .u8 x = cell8 (UInt8.ofNat x.toNat) := by
  unfold cell8
  rw [UInt8.toNat_ofNat']
  congr 1
  omega
theorem seven (x y z : Int) (hx0 : 0 ≤ x) (hx1 : x < 256) (hy0 : 0 ≤ y) (hy1 : y < 256) (hz0 : 0 ≤ z) (hz1 : z < 256) :
    ∀ j, j < 7 → ∃ u : Int, (#[Value.int .i64 0, .int .i64 1, .int .i64 128, .int .i64 255, .int .i64 x, .int .i64 y, .int .i64 z] : Array Value)[j]? = some (.int .i64 u) ∧ (0 ≤ u ∧ u ≤ 255) := by
  intro j hj
  match j, hj with
  | 0, _ => exact ⟨_, rfl, by omega, by omega⟩
  | 1, _ => exact ⟨_, rfl, by omega, by omega⟩
  | 2, _ => exact ⟨_, rfl, by omega, by omega⟩
  | 3, _ => exact ⟨_, rfl, by omega, by omega⟩
  | 4, _ => exact ⟨_, rfl, hx0, by omega⟩
  | 5, _ => exact ⟨_, rfl, hy0, by omega⟩
  | 6, _ => exact ⟨_, rfl, hz0, by omega⟩

theorem bytes_rel {w w4 w5 : World} {k B g : Nat} {A : Option Addr} {len cap : Nat} {e : TypeId} {u v : Value} {o : Obj} {l : List UInt8} {x : Int} (hgw : g < w.heap.size)
    (hown4 : w4.ownsRow w.heap.size e 1 u k (cells8 l)) (hc4 : CurIn w4 B g A len cap) (hgr4 : w.grownBy w4 (some g)) (h0 : 0 ≤ x) (h1 : x ≤ 255)
    (hown5 : w5.ownsRow w.heap.size e 1 v (k + 1) (cells8 l ++ [.int .u8 x])) (hgrow : (w4.alloc o).grownBy w5 u.ownBlock) :
    w5.ownsRow w.heap.size e 1 v (k + 1) (cells8 (l ++ [UInt8.ofNat x.toNat])) ∧ CurIn w5 B g A len cap ∧ w.grownBy w5 (some g) := by
  have hr : ∀ r, u.ownBlock = some r → w.heap.size ≤ r := fun r e => (hown4.lt r e).1
  refine ⟨?_, (hc4.alloc o).grown hgrow (fun r e => Nat.lt_of_lt_of_le hgw (hr r e)), only_grown (only_alloc hgr4 o) hgrow (fun r e => .inr (hr r e))⟩
  rw [cells8_append, show cells8 [UInt8.ofNat x.toNat] = [.int .u8 x] by rw [cell_byte x h0 h1]; rfl]
  exact hown5

set_option maxRecDepth 100000 in
set_option maxHeartbeats 1600000 in
theorem bytes_any (n : Nat) (hn : n ≤ 65536) (w : World) (B g : Nat) (A : Option Addr) (len cap : Nat) (hc : CurIn w B g A len cap) :
    Calls Tryz.prog 22 #[.pointer (some ⟨g, 0, none⟩), .int .i64 n] w fun e w' => ∃ s : ByteArray, e = .returned (.string s) ∧ s.size = n ∧ CurIn w' B g A len cap ∧ w.grownBy w' (some g) := by
  obtain ⟨i0, hi, hz0, hz1, hz2⟩ := info_parts Tryz.info5
  have hgw := hc.lt
  go_enter Tryz.func22, Tryz.ntmps22
  go_wp2
  go_loopw [5, 6] (fun v i wr => ∃ (k : Nat) (l : List UInt8), k ≤ n ∧ Hid (l.length = k) ∧ i = .int .i64 k ∧ wr.ownsRow w.heap.size 5 1 v k (cells8 l) ∧ CurIn wr B g A len cap ∧ w.grownBy wr (some g)) (fun _ i _ => n - (intOf i).toNat)
  case atStart => exact ⟨0, [], Nat.zero_le _, Lib.hid rfl, rfl, World.ownsRow_lit w #[] 0 (Nat.le_refl _) (by simp [maxLen]) rfl, hc.alloc _, only_alloc (only_refl _ _) _⟩
  case round =>
    obtain ⟨k, l, hk, hl, rfl, hown, hcr, hgr⟩ := hrel
    by_cases hlt : k < n
    · have hk1 : (k : Int) < (n : Int) := by omega
      go_wp2_with fail
      refine (below_small _ (by omega) (by omega) _ _ _ _ _ _ hcr).mono ?_; rintro e w1 ⟨x, rfl, hx0, hx1, hc1, hg1⟩
      go_wp2_with fail
      refine (below_small _ (by omega) (by omega) _ _ _ _ _ _ hc1).mono ?_; rintro e w2 ⟨y, rfl, hy0, hy1, hc2, hg2⟩
      go_wp2_with fail
      refine (below_small _ (by omega) (by omega) _ _ _ _ _ _ hc2).mono ?_; rintro e w3 ⟨z, rfl, hz0', hz1', hc3, hg3⟩
      have hown3 := own_only (own_only (own_only hown hg1 hgw) hg2 hgw) hg3 hgw
      have hgr3 := only_trans (only_trans (only_trans hgr hg1) hg2) hg3
      clear hg1 hg2 hg3 hown hgr hc1 hc2 hcr
      go_wp2_with fail
      refine (pickint_any (fun u => 0 ≤ u ∧ u ≤ 255) 7 w3.heap.size 3 _ (by omega) (by omega) _ _ _ _ _ _ (hc3.alloc _) (heap_alloc_new w3 _) hc3.lt (seven x y z hx0 hx1 hy0 hy1 hz0' hz1')).mono ?_
      rintro e w4 ⟨u, rfl, ⟨hu0, hu1⟩, hc4, hg4⟩
      have hown4 := own_only (hown3.alloc _) hg4 hgw
      have hgr4 := only_trans (only_alloc hgr3 _) hg4
      clear hown3 hgr3 hg4 hc3
      go_wp2_with (at_builtin; refine stp ?_)
      refine unstp ?_
      refine wpList_append_lies _ rfl (.tmp 13) (.tmp 24) 22 rfl w.heap.size 5 i0 (.int .u8 0) 1 1 Tryz.underlying22 hi hz0 hz1 hz2 rfl (by decide) u5 k (cells8 l) rfl (hown4.alloc _) ⟨w4.heap.size, 0, none⟩ 1 1 [.int .u8 u] rfl rfl (World.news_of_block (cs := #[.int .u8 u]) (heap_alloc_new w4 _)) (by simp [Value.oneCell']) (by omega) (by unfold maxLen; omega) (by omega) (by have := hgr4.size; simp; omega) (w4.heap.size + 1) (by simp) ?_
      intro g2 cap2 w5 hown5 hgrow hat hlt5
      have hrel := bytes_rel hgw hown4 hc4 hgr4 hu0 hu1 hown5 hgrow
      have HL : Hid ((l ++ [UInt8.ofNat u.toNat]).length = k + 1) := Lib.hid (by have := hl.out; simp; omega)
      clear hown4 hc4 hgr4 hown5 hgrow hat hlt5
      go_wp2
      go_roundw
      case rel => exact ⟨k + 1, _, by omega, HL, by go_num, hrel.1, hrel.2.1, hrel.2.2⟩
      case measure => simp [intOf]; omega
    · have hk1 : ¬ (k : Int) < (n : Int) := by omega
      have hconv := run_string_own Tryz.underlying22 Tryz.underlying5 Tryz.underlying9 hown
      go_wp2
      go_ret
      exact ⟨_, rfl, by have := hl.out; simp [ByteArray.size]; omega, hcr, hgr⟩
end Go.Proofs.YtbfmbdohebdbaaaGreatDoor
