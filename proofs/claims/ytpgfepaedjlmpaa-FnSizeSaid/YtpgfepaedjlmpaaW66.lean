/-
  The walks of laws.FnExactSize and laws.FnSize: they return true.
-/
import Derived.Test.YtpgfepaedjlmpaaSizeI
set_option linter.unusedVariables false
set_option linter.unusedSimpArgs false
namespace Go.Proofs.Ytpgfepaedjlmpaa
open Go.RowKit

set_option maxHeartbeats 800000 in
theorem walk_FnExactSize (m n : Int) (w0 : (Lit.int .i64 m).wf = true) (w1 : (Lit.int .i64 n).wf = true) (w : World) :
    Calls Try.prog 4 #[.int .i64 m, .int .i64 n] w fun e w' => e = .returned (.bool true) ∧ Below w.heap.size w w' := by
  have HS := Lib.hid (Size_spec m n w)
  have HI := Lib.hid (Size_impl m n w)
  generalize sizeI m n = x at *
  go_enter Try.func4, Try.ntmps4
  go_wp2_with fail
  refine HS.out.mono ?_; rintro e w' ⟨rfl, rfl⟩
  go_wp2_with fail
  refine HI.out.mono ?_; rintro e w' ⟨rfl, rfl⟩
  go_wp2
  go_ret
  exact ⟨rfl, Below.refl _ _⟩

theorem sizeI_each (n : Int) (h0 : 0 ≤ n) (h1 : n ≤ 65535) (k : Nat) (hk : k < 2) : ∃ a b : Int, sizeI k n = a ∧ sizeI k (n + 1) = b ∧ a % 16 = 0 ∧ n < a ∧ a ≤ n + 16 ∧ a ≤ b ∧ b ≤ a + 16 := by
  refine ⟨_, _, rfl, rfl, ?_⟩
  have e : sizeI k n = n - n % 16 + 16 := by unfold sizeI; rw [if_pos (by omega), if_neg (by omega)]
  have f : sizeI k (n + 1) = (n + 1) - (n + 1) % 16 + 16 := by unfold sizeI; rw [if_pos (by omega), if_neg (by omega)]
  rw [e, f]
  omega
theorem sizeI_count (n : Int) (h0 : 0 ≤ n) (h1 : n ≤ 65535) : sizeI 2 n = n ∧ sizeI 2 (n + 1) = n + 1 := by
  constructor <;> (unfold sizeI; rw [if_pos (by omega)]; rfl)
theorem sizeI_3 (n : Int) : sizeI 3 n = -1 := by unfold sizeI; rw [if_neg (by omega)]
theorem sizeI_less (m n : Int) (h : n < 0) : sizeI m n = -1 := by unfold sizeI; rw [if_neg (by omega)]
theorem size_is (m n x : Int) (h : sizeI m n = x) (w : World) :
    Calls Try.prog 7 #[.int .i64 m, .int .i64 n] w fun e w' => e = .returned (.int .i64 x) ∧ w = w' := by
  subst h; exact Size_impl m n w
theorem size_sp (m n x : Int) (h : sizeI m n = x) (w : World) :
    Calls Try.prog 8 #[.int .i64 m, .int .i64 n] w fun e w' => e = .returned (.int .i64 x) ∧ w = w' := by
  subst h; exact Size_spec m n w

set_option maxRecDepth 100000 in
set_option maxHeartbeats 3200000 in
theorem walk_FnSize (a0 : Option Addr) (len0 cap0 : Nat) (z0 : List Int) (w : World) (w0 : IsRow .u8 w a0 len0 cap0 z0) :
    Calls Try.prog 3 #[.slice a0 len0 cap0] w fun e w' => e = .returned (.bool true) ∧ Below w.heap.size w w' := by
  obtain ⟨hcode, hlen⟩ := w0.code
  clear w0
  by_cases hl : len0 ≤ 1048576
  · have H := Lib.hid hcode
    clear hcode
    go_enter Try.func3, Try.ntmps3
    go_wp2_with fail
    refine (big_small _ _ _ _ hl).mono ?_; rintro e w' ⟨rfl, rfl⟩
    go_wp2_with fail
    refine (at_any 0 (by omega) _ _ _ _ H.out hl).mono ?_; rintro e w' ⟨⟨p, rfl, hp⟩, rfl⟩
    go_wp2_with fail
    refine (at_any 1 (by omega) _ _ _ _ H.out hl).mono ?_; rintro e w' ⟨⟨q, rfl, hq⟩, rfl⟩
    have hp0 : (0 : Int) ≤ (p : Int) * 256 := by omega
    have hp1 : (p : Int) * 256 ≤ 65280 := by omega
    go_wp2
    have h0 : 0 ≤ (p : Int) * 256 + (q : Int) := by omega
    have h1 : (p : Int) * 256 + (q : Int) ≤ 65535 := by omega
    generalize (p : Int) * 256 + (q : Int) = n at *
    clear hp0 hp1 hp hq
    go_loop [4] (fun v => ∃ k : Nat, k ≤ 3 ∧ v = .int .i64 k) (fun v => 3 - (intOf v).toNat)
    case atStart => exact ⟨0, by omega, rfl⟩
    case round =>
      obtain ⟨k, hk, rfl⟩ := hrel
      by_cases h2 : k < 2
      · obtain ⟨a, b, ha, hb, f1, f2, f3, f4, f5⟩ := sizeI_each n h0 h1 k h2
        have HA := Lib.hid ha
        have HB := Lib.hid hb
        have et : a.tmod 16 = 0 := (Int.tmod_eq_emod_of_nonneg (by omega)).trans f1
        clear ha hb f1
        go_wp2_with fail
        refine (size_is _ _ a HA.out _).mono ?_; rintro e w' ⟨rfl, rfl⟩
        go_wp2_with fail
        refine (size_is _ _ b HB.out _).mono ?_; rintro e w' ⟨rfl, rfl⟩
        go_wp2_with fail
        refine (size_sp _ _ a HA.out _).mono ?_; rintro e w' ⟨rfl, rfl⟩
        go_wp2
        go_round
        case rel => exact ⟨k + 1, by omega, by go_num⟩
        case measure => simp [intOf]; omega
      · by_cases h3 : k < 3
        · obtain rfl : k = 2 := by omega
          have HA := Lib.hid (sizeI_count n h0 h1)
          go_wp2_with fail
          refine (size_is _ _ n HA.out.1 _).mono ?_; rintro e w' ⟨rfl, rfl⟩
          go_wp2_with fail
          refine (size_is _ _ (n + 1) HA.out.2 _).mono ?_; rintro e w' ⟨rfl, rfl⟩
          go_wp2_with fail
          refine (size_sp _ _ n HA.out.1 _).mono ?_; rintro e w' ⟨rfl, rfl⟩
          go_wp2
          go_round
          case rel => exact ⟨3, by omega, rfl⟩
          case measure => simp [intOf]
        · obtain rfl : k = 3 := by omega
          have HA := Lib.hid (sizeI_3 n)
          have HB := Lib.hid (sizeI_less 0 (-1 - n) (by omega))
          go_wp2_with fail
          refine (size_is _ _ _ HA.out _).mono ?_; rintro e w' ⟨rfl, rfl⟩
          go_wp2_with fail
          refine (size_is _ _ _ HB.out _).mono ?_; rintro e w' ⟨rfl, rfl⟩
          go_wp2
          go_ret
          exact ⟨rfl, Below.refl _ _⟩
  · go_enter Try.func3, Try.ntmps3
    go_wp2_with fail
    refine (big_great _ _ _ _ (by omega) hlen).mono ?_; rintro e w' ⟨rfl, rfl⟩
    go_wp2
    go_ret
    exact ⟨rfl, Below.refl _ _⟩
end Go.Proofs.Ytpgfepaedjlmpaa
