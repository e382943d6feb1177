/-
  The walks of laws.FnInverse and laws.FnPower: each returns true at every code.
-/
import Derived.Test.YthajoodnjcmnlaaW10
import Derived.Test.YthajoodnjcmnlaaFieldI
import Derived.Test.YthajoodnjcmnlaaFieldS
import Derived.Test.YthajoodnjcmnlaaPlaneMath
import Derived.Test.YthajoodnjcmnlaaFieldDraw
import Derived.Test.YthajoodnjcmnlaaDrawN
import Derived.WalkKit
import Derived.LoopTactic
import Derived.OwnWalk
import Derived.WalkLawsBesides
import Derived.WalkSpells
import Derived.Outline
import Derived.Below
set_option linter.unusedVariables false
namespace Go.Proofs.Ythajoodnjcmnlaa
open Go.RowKit

theorem inv_is (x : Int) (v : UInt8) (h : inv (b8 x) = v) (w : World) :
    Calls Try.prog 22 #[.int .i64 x] w fun e w' => e = .returned (.int .i64 v.toNat) ∧ w = w' := by
  subst h; exact Inverse_impl x w
theorem inv_sp (x : Int) (v : UInt8) (h : inv (b8 x) = v) (w : World) :
    Calls Try.prog 23 #[.int .i64 x] w fun e w' => e = .returned (.int .i64 v.toNat) ∧ w = w' := by
  subst h; exact Inverse_spec x w
theorem pow_is (x n : Int) (hn : In64 n) (v : UInt8) (h : Pow (b8 x) n = v) (w : World) :
    Calls Try.prog 25 #[.int .i64 x, .int .i64 n] w fun e w' => e = .returned (.int .i64 v.toNat) ∧ w = w' := by
  subst h; exact Power_impl x n hn.1 hn.2 w
theorem pow_sp (x n : Int) (hn : In64 n) (v : UInt8) (h : Pow (b8 x) n = v) (w : World) :
    Calls Try.prog 26 #[.int .i64 x, .int .i64 n] w fun e w' => e = .returned (.int .i64 v.toNat) ∧ w = w' := by
  subst h; exact Power_spec x n hn.1 hn.2 w
theorem times_one (x y : Int) (h : mul (b8 x) (b8 y) = 1) (w : World) :
    Calls Try.prog 17 #[.int .i64 x, .int .i64 y] w fun e w' => e = .returned (.int .i64 1) ∧ w = w' := by
  have := times_is x y 1 h w
  exact this
theorem inv_zero (x : Int) (h : b8 x = 0) (w : World) :
    Calls Try.prog 22 #[.int .i64 x] w fun e w' => e = .returned (.int .i64 0) ∧ w = w' := by
  have := inv_is x 0 (by rw [h, inv_0]) w
  exact this
theorem inv_zero_sp (x : Int) (h : b8 x = 0) (w : World) :
    Calls Try.prog 23 #[.int .i64 x] w fun e w' => e = .returned (.int .i64 0) ∧ w = w' := by
  have := inv_sp x 0 (by rw [h, inv_0]) w
  exact this

set_option maxRecDepth 100000 in
set_option maxHeartbeats 1600000 in
theorem walk_FnInverse (a0 : Option Addr) (len0 cap0 : Nat) (z0 : List Int) (w : World) (w0 : IsRow .u8 w a0 len0 cap0 z0) :
    Calls Try.prog 4 #[.slice a0 len0 cap0] w fun e w' => e = .returned (.bool true) ∧ Below w.heap.size w w' := by
  obtain ⟨hcode, hlen⟩ := w0.code
  clear w0
  by_cases hl : len0 ≤ 1048576
  · have H := Lib.hid hcode
    clear hcode
    go_enter Try.func4, Try.ntmps4
    go_wp2_with fail
    refine (big_small _ _ _ _ hl).mono ?_; rintro e w' ⟨rfl, rfl⟩
    go_wp2_with fail
    refine (draw_one _ _ _ _ H.out hl).mono ?_; rintro e w1 ⟨x, rfl, hx, hb1⟩
    clear hx
    by_cases h0 : b8 x = 0
    · have HZ := Lib.hid h0
      have hx2 : bits .and .i64 x 255 = 0 := by rw [and255_b8, h0]; rfl
      clear h0
      go_wp2_with fail
      refine (inv_zero _ HZ.out _).mono ?_; rintro e w' ⟨rfl, rfl⟩
      go_wp2_with fail
      refine (inv_zero_sp _ HZ.out _).mono ?_; rintro e w' ⟨rfl, rfl⟩
      go_wp2
      go_ret
      exact ⟨rfl, hb1⟩
    · obtain ⟨f1, f2, f3⟩ := field_of _ h0
      have f4 := mul_inv _ h0
      obtain ⟨X, hX⟩ : ∃ X, X = b8 x := ⟨_, rfl⟩
      obtain ⟨I, hI⟩ : ∃ I, I = inv (b8 x) := ⟨_, rfl⟩
      obtain ⟨S, hS⟩ : ∃ S, S = mul (b8 x) 7 := ⟨_, rfl⟩
      obtain ⟨J, hJ⟩ : ∃ J, J = inv 7 := ⟨_, rfl⟩
      obtain ⟨K, hK⟩ : ∃ K, K = mul I J := ⟨_, rfl⟩
      have h1 := Lib.hid hI.symm
      have h2 : Hid (mul (b8 x) (b8 (I.toNat : Int)) = 1) := Lib.hid (by rw [b8_of, hI, f4])
      have h3 : Hid (inv (b8 (I.toNat : Int)) = X) := Lib.hid (by rw [b8_of, hI, f2, hX])
      have h4 : Hid (mul (b8 x) (b8 7) = S) := Lib.hid (by rw [hS]; rfl)
      have h5 : Hid (inv (b8 (S.toNat : Int)) = K) := Lib.hid (by rw [b8_of, hS, f3, hK, hI, hJ])
      have h6 : Hid (inv (b8 7) = J) := Lib.hid (by rw [hJ]; rfl)
      have h7 : Hid (mul (b8 (I.toNat : Int)) (b8 (J.toNat : Int)) = K) := Lib.hid (by rw [b8_of, b8_of, hK])
      have hx2 : bits .and .i64 x 255 = (X.toNat : Int) := by rw [hX, and255_b8]
      have hx3 : ((X.toNat : Int) == 0) = false := by
        have : ¬ X.toNat = 0 := fun e => h0 (by rw [← hX]; exact UInt8.toNat_inj.1 e)
        simp; omega
      clear hX hI hS hJ hK f1 f2 f3 f4 h0
      go_wp2_with fail
      refine (inv_is _ I h1.out _).mono ?_; rintro e w' ⟨rfl, rfl⟩
      go_wp2_with fail
      refine (inv_sp _ I h1.out _).mono ?_; rintro e w' ⟨rfl, rfl⟩
      go_wp2_with fail
      refine (times_one _ _ h2.out _).mono ?_; rintro e w' ⟨rfl, rfl⟩
      go_wp2_with fail
      refine (inv_is _ X h3.out _).mono ?_; rintro e w' ⟨rfl, rfl⟩
      go_wp2_with fail
      refine (times_is _ _ S h4.out _).mono ?_; rintro e w' ⟨rfl, rfl⟩
      go_wp2_with fail
      refine (inv_is _ K h5.out _).mono ?_; rintro e w' ⟨rfl, rfl⟩
      go_wp2_with fail
      refine (inv_is _ J h6.out _).mono ?_; rintro e w' ⟨rfl, rfl⟩
      go_wp2_with fail
      refine (times_is _ _ K h7.out _).mono ?_; rintro e w' ⟨rfl, rfl⟩
      go_wp2
      go_ret
      exact ⟨rfl, hb1⟩
  · go_enter Try.func4, Try.ntmps4
    go_wp2_with fail
    refine (big_great _ _ _ _ (by omega) hlen).mono ?_; rintro e w' ⟨rfl, rfl⟩
    go_wp2
    go_ret
    exact ⟨rfl, Below.refl _ _⟩

theorem Pow_at (a : UInt8) (m : Nat) (n : Int) (h : n = (m : Int)) : Pow a n = power a m := by rw [h, Pow_nat]
set_option maxRecDepth 100000 in
set_option maxHeartbeats 1600000 in
theorem walk_FnPower (a0 : Option Addr) (len0 cap0 : Nat) (z0 : List Int) (w : World) (w0 : IsRow .u8 w a0 len0 cap0 z0) :
    Calls Try.prog 5 #[.slice a0 len0 cap0] w fun e w' => e = .returned (.bool true) ∧ Below w.heap.size w w' := by
  obtain ⟨hcode, hlen⟩ := w0.code
  clear w0
  by_cases hl : len0 ≤ 1048576
  · have H := Lib.hid hcode
    clear hcode
    go_enter Try.func5, Try.ntmps5
    go_wp2_with fail
    refine (big_small _ _ _ _ hl).mono ?_; rintro e w' ⟨rfl, rfl⟩
    go_wp2_with fail
    refine (draw_power _ _ _ _ H.out hl).mono ?_; rintro e w1 ⟨x, n, rfl, hx, hn, hb1⟩
    clear hx
    obtain ⟨P, hP⟩ : ∃ P, P = Pow (b8 x) n := ⟨_, rfl⟩
    have h1 := Lib.hid hP.symm
    have HN := Lib.hid hn
    have HC := Lib.hid ((H.out.below hb1 (Nat.le_refl _)).up hb1.size)
    clear hP hn
    go_wp2_with fail
    refine (pow_is _ _ HN.out P h1.out _).mono ?_; rintro e w' ⟨rfl, rfl⟩
    go_wp2_with fail
    refine (pow_sp _ _ HN.out P h1.out _).mono ?_; rintro e w' ⟨rfl, rfl⟩
    go_wp2_with fail
    refine (at_any 1 (by omega) _ _ _ _ HC.out hl).mono ?_; rintro e w' ⟨⟨m, rfl, hm⟩, rfl⟩
    go_wp2_with fail
    refine (at_any 0 (by omega) _ _ _ _ HC.out hl).mono ?_; rintro e w' ⟨⟨c, rfl, hc⟩, rfl⟩
    obtain ⟨b, hb⟩ : ∃ b : Int, b = 1 + (c : Int) % 255 := ⟨_, rfl⟩
    have hnz : ¬ b8 b = 0 := fun e => by
      have := b8_val b
      rw [e] at this
      simp at this
      omega
    obtain ⟨Q, hQ⟩ : ∃ Q, Q = power (b8 b) m := ⟨_, rfl⟩
    obtain ⟨R, hR⟩ : ∃ R, R = power (b8 b) 300 := ⟨_, rfl⟩
    obtain ⟨S, hS⟩ : ∃ S, S = mul Q R := ⟨_, rfl⟩
    obtain ⟨I, hI⟩ : ∃ I, I = inv (b8 b) := ⟨_, rfl⟩
    have k1 : Hid (Pow (b8 b) ((m : Int) + 300) = S) := Lib.hid (by rw [Pow_at _ (m + 300) _ (by omega), hS, hQ, hR, power_add _ _ _ (by omega)])
    have k2 : Hid (Pow (b8 b) (m : Int) = Q) := Lib.hid (by rw [Pow_nat, hQ])
    have k3 : Hid (Pow (b8 b) 300 = R) := Lib.hid (by rw [Pow_at _ 300 _ (by omega), hR])
    have k4 : Hid (mul (b8 (Q.toNat : Int)) (b8 (R.toNat : Int)) = S) := Lib.hid (by rw [b8_of, b8_of, hS])
    have k5 : Hid (Pow (b8 b) ((m : Int) + 255) = Q) := Lib.hid (by rw [Pow_at _ (m + 255) _ (by omega), hQ, power_255 _ hnz _ (by omega)])
    have k6 : Hid (Pow (b8 b) 254 = I) := Lib.hid (by rw [Pow_at _ 254 _ (by omega), hI]; rfl)
    have k7 := Lib.hid hI.symm
    have i1 : In64 ((m : Int) + 300) := ⟨by omega, by omega⟩
    have i2 : In64 (m : Int) := ⟨by omega, by omega⟩
    have i5 : In64 ((m : Int) + 255) := ⟨by omega, by omega⟩
    have I1 := Lib.hid i1
    have I2 := Lib.hid i2
    have I5 := Lib.hid i5
    have I3 : Hid (In64 300) := Lib.hid ⟨by omega, by omega⟩
    have I6 : Hid (In64 254) := Lib.hid ⟨by omega, by omega⟩
    have HB := Lib.hid hb
    clear hb hnz hQ hR hS hI i1 i2 i5
    have hP0 : 0 ≤ n ∨ (n < 0 ∧ P = 0) := by
      rcases Int.lt_or_le n 0 with h | h
      · exact .inr ⟨h, by rw [← h1.out, Pow_neg _ _ h]⟩
      · exact .inl h
    rcases hP0 with hp | ⟨hp, rfl⟩
    all_goals
      go_wp2_with fail
      rw [← HB.out]
      refine (pow_is _ _ I1.out S k1.out _).mono ?_; rintro e w' ⟨rfl, rfl⟩
      go_wp2_with fail
      refine (pow_is _ _ I2.out Q k2.out _).mono ?_; rintro e w' ⟨rfl, rfl⟩
      go_wp2_with fail
      refine (pow_is _ _ I3.out R k3.out _).mono ?_; rintro e w' ⟨rfl, rfl⟩
      go_wp2_with fail
      refine (times_is _ _ S k4.out _).mono ?_; rintro e w' ⟨rfl, rfl⟩
      go_wp2_with fail
      refine (pow_is _ _ I5.out Q k5.out _).mono ?_; rintro e w' ⟨rfl, rfl⟩
      go_wp2_with fail
      refine (pow_is _ _ I2.out Q k2.out _).mono ?_; rintro e w' ⟨rfl, rfl⟩
      go_wp2_with fail
      refine (pow_is _ _ I6.out I k6.out _).mono ?_; rintro e w' ⟨rfl, rfl⟩
      go_wp2_with fail
      refine (inv_is _ I k7.out _).mono ?_; rintro e w' ⟨rfl, rfl⟩
      go_wp2
      go_ret
      exact ⟨rfl, hb1⟩
  · go_enter Try.func5, Try.ntmps5
    go_wp2_with fail
    refine (big_great _ _ _ _ (by omega) hlen).mono ?_; rintro e w' ⟨rfl, rfl⟩
    go_wp2
    go_ret
    exact ⟨rfl, Below.refl _ _⟩
end Go.Proofs.Ythajoodnjcmnlaa
