/-
  The walk of laws.FnSubWord: it returns true at every code.
-/
import Derived.Test.YtioijcgokdnofaaWordDraw
import Derived.Test.YtioijcgokdnofaaWordJ
import Derived.Test.YtioijcgokdnofaaWordMore
import Derived.WalkKit
import Derived.LoopTactic
import Derived.OwnWalk
import Derived.WalkLawsBesides
import Derived.WalkSpells
import Derived.Outline
import Derived.Below
set_option linter.unusedVariables false
set_option linter.unusedSimpArgs false
namespace Go.Proofs.Ytioijcgokdnofaa
open Go.RowKit

theorem turn_is (n k : Int) (j : Nat) (hk : k = (j : Int)) (hj : j < 32) (v : UInt32) (h : rot (w32 n) j = v) (w : World) :
    Calls Try.prog 43 #[.int .i64 n, .int .i64 k] w fun e w' => e = .returned (.int .i64 v.toNat) ∧ w = w' := by
  subst hk h
  have := Turn_impl n (j : Int) w
  rwa [turnI_at n j hj] at this
theorem subw_is (n : Int) (v : UInt32) (h : subW (w32 n) = v) (w : World) :
    Calls Try.prog 26 #[.int .i64 n] w fun e w' => e = .returned (.int .i64 v.toNat) ∧ Below w.heap.size w w' := by
  subst h; exact SubWord_impl n w
theorem subw_sp (n : Int) (v : UInt32) (h : subW (w32 n) = v) (w : World) :
    Calls Try.prog 27 #[.int .i64 n] w fun e w' => e = .returned (.int .i64 v.toNat) ∧ Below w.heap.size w w' := by
  subst h; exact SubWord_spec n w
set_option maxRecDepth 100000 in
set_option maxHeartbeats 1600000 in
theorem walk_FnSubWord (a0 : Option Addr) (len0 cap0 : Nat) (z0 : List Int) (w : World) (w0 : IsRow .u8 w a0 len0 cap0 z0) :
    Calls Try.prog 7 #[.slice a0 len0 cap0] w fun e w' => e = .returned (.bool true) ∧ Below w.heap.size w w' := by
  obtain ⟨hcode, hlen⟩ := w0.code
  clear w0
  by_cases hl : len0 ≤ 1048576
  · have H := Lib.hid hcode
    clear hcode
    go_enter Try.func7, Try.ntmps7
    go_wp2_with fail
    refine (big_small _ _ _ _ hl).mono ?_; rintro e w' ⟨rfl, rfl⟩
    go_wp2_with fail
    refine (draw_SubWord _ _ _ _ H.out hl).mono ?_; rintro e w1 ⟨n, rfl, hn, hb1⟩
    clear hn
    have HC := Lib.hid ((H.out.below hb1 (Nat.le_refl _)).up hb1.size)
    have hbb := hb1
    clear hb1
    go_wp2_with fail
    refine (at_any 0 (by omega) _ _ _ _ HC.out hl).mono ?_; rintro e w' ⟨⟨x, rfl, hx⟩, rfl⟩
    clear HC
    obtain ⟨j, hj, hj4⟩ : ∃ j : Nat, (x : Int) % 4 = (j : Int) ∧ j < 4 := ⟨x % 4, by omega, by omega⟩
    obtain ⟨S, hS⟩ : ∃ S, subW (w32 n) = S := ⟨_, rfl⟩
    obtain ⟨T, hT⟩ : ∃ T, rot (w32 n) (8 * j) = T := ⟨_, rfl⟩
    obtain ⟨U, hU⟩ : ∃ U, rot S (8 * j) = U := ⟨_, rfl⟩
    have h1 := Lib.hid hS
    have h2 : Hid (subW (w32 (T.toNat : Int)) = U) := Lib.hid (by rw [w32_of, ← hT, ← hU, ← hS]; exact mapW_rot sbox (w32 n) j hj4)
    have h3 : Hid (rot (w32 (S.toNat : Int)) (8 * j) = U) := Lib.hid (by rw [w32_of, hU])
    replace hT := Lib.hid hT
    have hSl : (S.toNat : Int) ≤ 4294967295 := by have := w32_lt S; omega
    have hS0 : (0 : Int) ≤ (S.toNat : Int) := by omega
    clear hS hU
    have h4 : j = 0 ∨ j = 1 ∨ j = 2 ∨ j = 3 := by omega
    clear hj4
    have h0x : (0 : Int) ≤ (x : Int) := by omega
    have hx2 : (x : Int) < 256 := by omega
    clear hx
    go_wp2_with fail
    refine (subw_is _ S h1.out _).mono ?_; rintro e wq ⟨rfl, hq⟩
    replace hbb := hbb.trans (hq.mono hbb.size)
    clear hq
    go_wp2_with fail
    refine (subw_sp _ S h1.out _).mono ?_; rintro e wq ⟨rfl, hq⟩
    replace hbb := hbb.trans (hq.mono hbb.size)
    clear hq
    have hk : 8 * ((x : Int) % 4) = ((8 * j : Nat) : Int) := by omega
    go_wp2_with fail
    refine (turn_is _ _ (8 * j) (by omega) (by omega) T hT.out _).mono ?_; rintro e w' ⟨rfl, rfl⟩
    go_wp2_with fail
    refine (subw_is _ U h2.out _).mono ?_; rintro e wq ⟨rfl, hq⟩
    replace hbb := hbb.trans (hq.mono hbb.size)
    clear hq
    go_wp2_with fail
    refine (turn_is _ _ (8 * j) (by omega) (by omega) U h3.out _).mono ?_; rintro e w' ⟨rfl, rfl⟩
    go_wp2
    go_ret
    exact ⟨rfl, hbb⟩
  · go_enter Try.func7, Try.ntmps7
    go_wp2_with fail
    refine (big_great _ _ _ _ (by omega) hlen).mono ?_; rintro e w' ⟨rfl, rfl⟩
    go_wp2
    go_ret
    exact ⟨rfl, Below.refl _ _⟩
end Go.Proofs.Ytioijcgokdnofaa
