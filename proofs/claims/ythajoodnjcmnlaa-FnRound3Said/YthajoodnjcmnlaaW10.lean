/-
  The walk of laws.FnTimes: it returns true at every code.
-/
import Derived.Test.YthajoodnjcmnlaaFieldI
import Derived.Test.YthajoodnjcmnlaaFieldS
import Derived.Test.YthajoodnjcmnlaaPlaneMath
import Derived.Test.YthajoodnjcmnlaaFieldDraw
import Derived.Test.YthajoodnjcmnlaaDrawN
import Derived.WalkKit
import Derived.LoopTactic
import Derived.OwnWalk
import Derived.WalkLawsBesides
import Derived.WalkSpells
import Derived.Outline
import Derived.Below
set_option linter.unusedVariables false
namespace Go.Proofs.Ythajoodnjcmnlaa
open Go.RowKit

/-- contracts under a name for what comes. -/
theorem times_is (x y : Int) (v : UInt8) (h : mul (b8 x) (b8 y) = v) (w : World) :
    Calls Try.prog 17 #[.int .i64 x, .int .i64 y] w fun e w' => e = .returned (.int .i64 v.toNat) ∧ w = w' := by
  subst h; exact Times_impl x y w
theorem times_sp (x y : Int) (v : UInt8) (h : mul (b8 x) (b8 y) = v) (w : World) :
    Calls Try.prog 18 #[.int .i64 x, .int .i64 y] w fun e w' => e = .returned (.int .i64 v.toNat) ∧ w = w' := by
  subst h; exact Times_spec x y w
theorem twice_is (x : Int) (v : UInt8) (h : tw (b8 x) = v) (w : World) :
    Calls Try.prog 19 #[.int .i64 x] w fun e w' => e = .returned (.int .i64 v.toNat) ∧ w = w' := by
  subst h; exact Twice_impl x w
theorem twice_sp (x : Int) (v : UInt8) (h : tw (b8 x) = v) (w : World) :
    Calls Try.prog 20 #[.int .i64 x] w fun e w' => e = .returned (.int .i64 v.toNat) ∧ w = w' := by
  subst h; exact Twice_spec x w
theorem byte_bd (c : UInt8) : ¬ (255 : Int) < (c.toNat : Int) ∧ ¬ (c.toNat : Int) < 0 := by
  have := c.toNat_lt
  omega
theorem b8_byte (x : Nat) (h : x < 256) : ((b8 (x : Int)).toNat : Int) = x := by rw [b8_val]; omega

set_option maxRecDepth 100000 in
set_option maxHeartbeats 1600000 in
theorem walk_FnTimes (a0 : Option Addr) (len0 cap0 : Nat) (z0 : List Int) (w : World) (w0 : IsRow .u8 w a0 len0 cap0 z0) :
    Calls Try.prog 3 #[.slice a0 len0 cap0] w fun e w' => e = .returned (.bool true) ∧ Below w.heap.size w w' := by
  obtain ⟨hcode, hlen⟩ := w0.code
  clear w0
  by_cases hl : len0 ≤ 1048576
  · have H := Lib.hid hcode
    clear hcode
    go_enter Try.func3, Try.ntmps3
    go_wp2_with fail
    refine (big_small _ _ _ _ hl).mono ?_; rintro e w' ⟨rfl, rfl⟩
    go_wp2_with fail
    refine (draw_times _ _ _ _ H.out hl).mono ?_; rintro e w1 ⟨x, y, rfl, hx, hy, hb1⟩
    clear hx hy
    go_wp2_with fail
    refine (at_any 0 (by omega) _ _ _ _ ((H.out.below hb1 (Nat.le_refl _)).up hb1.size) hl).mono ?_; rintro e w' ⟨⟨c, rfl, hc⟩, rfl⟩
    obtain ⟨P, hP⟩ : ∃ P, P = mul (b8 x) (b8 y) := ⟨_, rfl⟩
    obtain ⟨Q, hQ⟩ : ∃ Q, Q = mul (b8 x) (b8 c) := ⟨_, rfl⟩
    obtain ⟨R, hR⟩ : ∃ R, R = P ^^^ Q := ⟨_, rfl⟩
    obtain ⟨S, hS⟩ : ∃ S, S = mul P (b8 c) := ⟨_, rfl⟩
    obtain ⟨T, hT⟩ : ∃ T, T = mul (b8 y) (b8 c) := ⟨_, rfl⟩
    obtain ⟨U, hU⟩ : ∃ U, U = tw (b8 x) := ⟨_, rfl⟩
    obtain ⟨X, hX⟩ : ∃ X, X = b8 x := ⟨_, rfl⟩
    have h1 := Lib.hid hP.symm
    have h2 : Hid (mul (b8 y) (b8 x) = P) := Lib.hid (by rw [hP, mul_comm])
    have h3 := Lib.hid hQ.symm
    have h4 : Hid (mul (b8 x) (b8 (bits .xor .i64 y c)) = R) := Lib.hid (by rw [hR, hP, hQ, b8_xor, mul_xr])
    have h5 : Hid (mul (b8 (P.toNat : Int)) (b8 c) = S) := Lib.hid (by rw [hS, b8_of])
    have h6 := Lib.hid hT.symm
    have h7 : Hid (mul (b8 x) (b8 (T.toNat : Int)) = S) := Lib.hid (by rw [hS, hP, b8_of, hT, mul_assoc])
    have h8 : Hid (mul (b8 x) (b8 1) = X) := Lib.hid (by rw [hX]; exact mul_1r _)
    have h9 : Hid (mul (b8 x) (b8 2) = U) := Lib.hid (by rw [hU]; exact mul_2r _)
    have h10 := Lib.hid hU.symm
    have hx1 : bits .xor .i64 (P.toNat : Int) (Q.toNat : Int) = (R.toNat : Int) := by rw [hR, i64_x]
    have hx2 : bits .and .i64 x 255 = (X.toNat : Int) := by rw [hX, and255_b8]
    obtain ⟨hp1, hp2⟩ := byte_bd P
    clear hP hQ hR hS hT hU hX hc
    go_wp2_with fail
    refine (times_is _ _ P h1.out _).mono ?_; rintro e w' ⟨rfl, rfl⟩
    go_wp2_with fail
    refine (times_sp _ _ P h1.out _).mono ?_; rintro e w' ⟨rfl, rfl⟩
    go_wp2_with fail
    refine (times_is _ _ P h2.out _).mono ?_; rintro e w' ⟨rfl, rfl⟩
    go_wp2_with fail
    refine (times_is _ _ R h4.out _).mono ?_; rintro e w' ⟨rfl, rfl⟩
    go_wp2_with fail
    refine (times_is _ _ Q h3.out _).mono ?_; rintro e w' ⟨rfl, rfl⟩
    go_wp2_with fail
    refine (times_is _ _ P h1.out _).mono ?_; rintro e w' ⟨rfl, rfl⟩
    go_wp2_with fail
    refine (times_is _ _ S h5.out _).mono ?_; rintro e w' ⟨rfl, rfl⟩
    go_wp2_with fail
    refine (times_is _ _ T h6.out _).mono ?_; rintro e w' ⟨rfl, rfl⟩
    go_wp2_with fail
    refine (times_is _ _ S h7.out _).mono ?_; rintro e w' ⟨rfl, rfl⟩
    go_wp2_with fail
    refine (times_is _ _ X h8.out _).mono ?_; rintro e w' ⟨rfl, rfl⟩
    go_wp2_with fail
    refine (times_is _ _ U h9.out _).mono ?_; rintro e w' ⟨rfl, rfl⟩
    go_wp2_with fail
    refine (twice_is _ U h10.out _).mono ?_; rintro e w' ⟨rfl, rfl⟩
    go_wp2_with fail
    refine (twice_is _ U h10.out _).mono ?_; rintro e w' ⟨rfl, rfl⟩
    go_wp2_with fail
    refine (twice_sp _ U h10.out _).mono ?_; rintro e w' ⟨rfl, rfl⟩
    go_wp2
    go_ret
    exact ⟨rfl, hb1⟩
  · go_enter Try.func3, Try.ntmps3
    go_wp2_with fail
    refine (big_great _ _ _ _ (by omega) hlen).mono ?_; rintro e w' ⟨rfl, rfl⟩
    go_wp2
    go_ret
    exact ⟨rfl, Below.refl _ _⟩
end Go.Proofs.Ythajoodnjcmnlaa
