/-
  Sizes of what is locked: impl.Size and spec.Size tell one function of the mode and the number.
-/
import Derived.Test.YtpgfepaedjlmpaaBase
import Derived.WalkKit
import Derived.OwnWalk
import Derived.WalkLawsBesides
import Derived.WalkSpells
import Derived.Outline
import Derived.Laws.Pointers
import Derived.IntWalk
import Derived.LoopTactic
set_option linter.unusedVariables false
set_option linter.unusedSimpArgs false
namespace Go.Proofs.Ytpgfepaedjlmpaa
open Go.RowKit

/-- how long it is: -1 where nothing is told. -/
def sizeI (m n : Int) : Int := if 0 ≤ m ∧ m ≤ 2 ∧ 0 ≤ n ∧ n ≤ 1000000000 then (if m = 2 then n else n - n % 16 + 16) else -1

set_option maxHeartbeats 800000 in
theorem modeOk_yes (m : Int) (h0 : 0 ≤ m) (h1 : m ≤ 2) (w : World) :
    Calls Try.prog 9 #[.int .i64 m] w fun e w' => e = .returned (.bool true) ∧ w = w' := by
  go_enter Try.func9, Try.ntmps9
  go_wp2
  go_ret
  exact ⟨by first | rfl | (simp; done) | (simp; omega), rfl⟩
set_option maxHeartbeats 800000 in
theorem modeOk_no (m : Int) (h : m < 0 ∨ 2 < m) (w : World) :
    Calls Try.prog 9 #[.int .i64 m] w fun e w' => e = .returned (.bool false) ∧ w = w' := by
  rcases h with h | h
  · have h0 : ¬ (0 : Int) ≤ m := by omega
    go_enter Try.func9, Try.ntmps9
    go_wp2
    go_ret
    exact ⟨by first | rfl | (simp; done) | (simp; omega), rfl⟩
  · have h0 : (0 : Int) ≤ m := by omega
    have h1 : ¬ m ≤ 2 := by omega
    go_enter Try.func9, Try.ntmps9
    go_wp2
    go_ret
    exact ⟨by first | rfl | (simp; done) | (simp; omega), rfl⟩
set_option maxHeartbeats 800000 in
theorem in_yes (x a b : Int) (h0 : a ≤ x) (h1 : x ≤ b) (w : World) :
    Calls Try.prog 10 #[.int .i64 x, .int .i64 a, .int .i64 b] w fun e w' => e = .returned (.bool true) ∧ w = w' := by
  go_enter Try.func10, Try.ntmps10
  go_wp2
  go_ret
  exact ⟨by first | rfl | (simp; done) | (simp; omega), rfl⟩
set_option maxHeartbeats 800000 in
theorem in_no (x a b : Int) (h : x < a ∨ b < x) (w : World) :
    Calls Try.prog 10 #[.int .i64 x, .int .i64 a, .int .i64 b] w fun e w' => e = .returned (.bool false) ∧ w = w' := by
  by_cases h0 : a ≤ x
  · have h1 : ¬ x ≤ b := by omega
    go_enter Try.func10, Try.ntmps10
    go_wp2
    go_ret
    exact ⟨by first | rfl | (simp; done) | (simp; omega), rfl⟩
  · go_enter Try.func10, Try.ntmps10
    go_wp2
    go_ret
    exact ⟨by first | rfl | (simp; done) | (simp; omega), rfl⟩

set_option maxHeartbeats 1600000 in
theorem Size_impl (m n : Int) (w : World) :
    Calls Try.prog 7 #[.int .i64 m, .int .i64 n] w fun e w' => e = .returned (.int .i64 (sizeI m n)) ∧ w = w' := by
  by_cases hm : 0 ≤ m ∧ m ≤ 2
  · obtain ⟨hm0, hm1⟩ := hm
    have HM := Lib.hid (modeOk_yes m hm0 hm1 w)
    by_cases h0 : n < 0
    · have e : sizeI m n = -1 := by unfold sizeI; rw [if_neg (by omega)]
      rw [e]
      go_enter Try.func7, Try.ntmps7
      go_wp2_with fail
      refine HM.out.mono ?_; rintro e w' ⟨rfl, rfl⟩
      go_wp2
      go_ret
      exact ⟨rfl, rfl⟩
    · by_cases h1 : 1000000000 < n
      · have e : sizeI m n = -1 := by unfold sizeI; rw [if_neg (by omega)]
        rw [e]
        go_enter Try.func7, Try.ntmps7
        go_wp2_with fail
        refine HM.out.mono ?_; rintro e w' ⟨rfl, rfl⟩
        go_wp2
        go_ret
        exact ⟨rfl, rfl⟩
      · by_cases h2 : m = 2
        · subst h2
          have e : sizeI 2 n = n := by unfold sizeI; rw [if_pos (by omega)]; rfl
          rw [e]
          go_enter Try.func7, Try.ntmps7
          go_wp2_with fail
          refine HM.out.mono ?_; rintro e w' ⟨rfl, rfl⟩
          go_wp2
          go_ret
          exact ⟨rfl, rfl⟩
        · have e : sizeI m n = n + 16 - n % 16 := by unfold sizeI; rw [if_pos (by omega), if_neg h2]; omega
          rw [e]
          have hn : 0 ≤ n := by omega
          have et : n.tmod 16 = n % 16 := Int.tmod_eq_emod_of_nonneg hn
          clear e
          go_enter Try.func7, Try.ntmps7
          go_wp2_with fail
          refine HM.out.mono ?_; rintro e w' ⟨rfl, rfl⟩
          go_wp2
          go_ret
          exact ⟨by first | rfl | (congr 2; omega), rfl⟩
  · have HM := Lib.hid (modeOk_no m (by omega) w)
    have e : sizeI m n = -1 := by unfold sizeI; rw [if_neg (by omega)]
    rw [e]
    go_enter Try.func7, Try.ntmps7
    go_wp2_with fail
    refine HM.out.mono ?_; rintro e w' ⟨rfl, rfl⟩
    go_wp2
    go_ret
    exact ⟨rfl, rfl⟩

set_option maxHeartbeats 1600000 in
theorem Size_spec (m n : Int) (w : World) :
    Calls Try.prog 8 #[.int .i64 m, .int .i64 n] w fun e w' => e = .returned (.int .i64 (sizeI m n)) ∧ w = w' := by
  by_cases hm : 0 ≤ m ∧ m ≤ 2
  · obtain ⟨hm0, hm1⟩ := hm
    have HM := Lib.hid (in_yes m 0 2 hm0 hm1 w)
    by_cases h0 : 0 ≤ n ∧ n ≤ 1000000000
    · have HN := Lib.hid (in_yes n 0 1000000000 h0.1 h0.2 w)
      by_cases h2 : m = 2
      · subst h2
        have e : sizeI 2 n = n := by unfold sizeI; rw [if_pos (by omega)]; rfl
        rw [e]
        go_enter Try.func8, Try.ntmps8
        go_wp2_with fail
        refine HM.out.mono ?_; rintro e w' ⟨rfl, rfl⟩
        go_wp2_with fail
        refine HN.out.mono ?_; rintro e w' ⟨rfl, rfl⟩
        go_wp2
        go_ret
        exact ⟨rfl, rfl⟩
      · have e : sizeI m n = n / 16 * 16 + 16 := by unfold sizeI; rw [if_pos (by omega), if_neg h2]; omega
        rw [e]
        obtain ⟨hn, hn1⟩ := h0
        have et : n.tdiv 16 = n / 16 := Int.tdiv_eq_ediv_of_nonneg hn
        clear e
        go_enter Try.func8, Try.ntmps8
        go_wp2_with fail
        refine HM.out.mono ?_; rintro e w' ⟨rfl, rfl⟩
        go_wp2_with fail
        refine HN.out.mono ?_; rintro e w' ⟨rfl, rfl⟩
        go_wp2
        go_ret
        exact ⟨by first | rfl | (congr 2; omega), rfl⟩
    · have HN := Lib.hid (in_no n 0 1000000000 (by omega) w)
      have e : sizeI m n = -1 := by unfold sizeI; rw [if_neg (by omega)]
      rw [e]
      clear h0
      go_enter Try.func8, Try.ntmps8
      go_wp2_with fail
      refine HM.out.mono ?_; rintro e w' ⟨rfl, rfl⟩
      go_wp2_with fail
      refine HN.out.mono ?_; rintro e w' ⟨rfl, rfl⟩
      go_wp2
      go_ret
      exact ⟨rfl, rfl⟩
  · have HM := Lib.hid (in_no m 0 2 (by omega) w)
    have e : sizeI m n = -1 := by unfold sizeI; rw [if_neg (by omega)]
    rw [e]
    clear hm
    go_enter Try.func8, Try.ntmps8
    go_wp2_with fail
    refine HM.out.mono ?_; rintro e w' ⟨rfl, rfl⟩
    go_wp2
    go_ret
    exact ⟨rfl, rfl⟩
end Go.Proofs.Ytpgfepaedjlmpaa
