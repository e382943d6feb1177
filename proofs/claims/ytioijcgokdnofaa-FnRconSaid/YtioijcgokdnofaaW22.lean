/-
  The walk of laws.FnRcon: it returns true at every code.
-/
import Derived.Test.YtioijcgokdnofaaWordDraw
import Derived.Test.YtioijcgokdnofaaWordJ
import Derived.Test.YtioijcgokdnofaaWordMore
import Derived.Test.YtioijcgokdnofaaW23
import Derived.WalkKit
import Derived.LoopTactic
import Derived.OwnWalk
import Derived.WalkLawsBesides
import Derived.WalkSpells
import Derived.Outline
import Derived.Below
set_option linter.unusedVariables false
set_option linter.unusedSimpArgs false
namespace Go.Proofs.Ytioijcgokdnofaa
open Go.RowKit

theorem putw_is (n : Int) (v : ByteArray) (h : putW (w32 n) = v) (w : World) :
    Calls Try.prog 17 #[.int .i64 n] w fun e w' => e = .returned (.string v) ∧ Below w.heap.size w w' := by
  subst h; exact PutWord_impl n w
theorem subt_is (s v : ByteArray) (h : mapT sbox s = v) (hs : s.size = 4) (w : World) :
    Calls Try.prog 28 #[.string s] w fun e w' => e = .returned (.string v) ∧ Below w.heap.size w w' := by
  subst h; exact SubText_impl s w (by omega)
theorem rcon_is (i : Int) (v : Int) (h : rconI i = v) (hi : In64 i) (w : World) :
    Calls Try.prog 24 #[.int .i64 i] w fun e w' => e = .returned (.int .i64 v) ∧ w = w' := by
  subst h; exact Rcon_impl i hi.1 hi.2 w
theorem rcon_sp (i : Int) (v : Int) (h : rconI i = v) (hi : In64 i) (w : World) :
    Calls Try.prog 25 #[.int .i64 i] w fun e w' => e = .returned (.int .i64 v) ∧ w = w' := by
  subst h; exact Rcon_spec i hi.1 hi.2 w
theorem rconI_up (j : Nat) (hj : j ≤ 1000) : rconI ((j : Int) + 1) = ((power 2 j).toNat : Int) * 16777216 := by
  rw [rconI_at _ (by omega)]
  have e : Pow (b8 2) ((j : Int) + 1 - 1) = power 2 j := by
    rw [show (j : Int) + 1 - 1 = (j : Int) by omega, Pow_nat]
    rfl
  rw [e]
theorem low24 (c : UInt8) : bits .and .i64 ((c.toNat : Int) * 16777216) 16777215 = 0 := by
  have h : bits .and .i64 ((c.toNat : Int) * 16777216) 16777215 = (c.toNat : Int) * 16777216 % 16777216 := i64_mask _ 24 (by omega)
  rw [h]
  omega
theorem twice_is (x : Int) (v : UInt8) (h : tw (b8 x) = v) (w : World) :
    Calls Try.prog 29 #[.int .i64 x] w fun e w' => e = .returned (.int .i64 v.toNat) ∧ w = w' := by
  subst h; exact Twice_impl x w
set_option maxRecDepth 100000 in
set_option maxHeartbeats 1600000 in
theorem walk_FnRcon (a0 : Option Addr) (len0 cap0 : Nat) (z0 : List Int) (w : World) (w0 : IsRow .u8 w a0 len0 cap0 z0) :
    Calls Try.prog 4 #[.slice a0 len0 cap0] w fun e w' => e = .returned (.bool true) ∧ Below w.heap.size w w' := by
  obtain ⟨hcode, hlen⟩ := w0.code
  clear w0
  by_cases hl : len0 ≤ 1048576
  · have H := Lib.hid hcode
    clear hcode
    go_enter Try.func4, Try.ntmps4
    go_wp2_with fail
    refine (big_small _ _ _ _ hl).mono ?_; rintro e w' ⟨rfl, rfl⟩
    go_wp2_with fail
    refine (draw_Rcon _ _ _ _ H.out hl).mono ?_; rintro e w1 ⟨i, rfl, hi, hb1⟩
    have HI := Lib.hid hi
    clear hi
    have HC := Lib.hid ((H.out.below hb1 (Nat.le_refl _)).up hb1.size)
    go_wp2_with fail
    refine (draw_SubWord _ _ _ _ HC.out hl).mono ?_; rintro e w2 ⟨n, rfl, hn, hb2⟩
    have hbb := hb1.trans (hb2.mono hb1.size)
    clear hn hb1 hb2 HC
    obtain ⟨S, hS⟩ : ∃ S, subW (w32 n) = S := ⟨_, rfl⟩
    obtain ⟨t, ht⟩ : ∃ t, putW (w32 n) = t := ⟨_, rfl⟩
    obtain ⟨u, hu⟩ : ∃ u, putW S = u := ⟨_, rfl⟩
    obtain ⟨R, hR⟩ : ∃ R, rconI i = R := ⟨_, rfl⟩
    have h1 := Lib.hid hS
    have h2 := Lib.hid ht
    have h3 : Hid (putW (w32 (S.toNat : Int)) = u) := Lib.hid (by rw [w32_of, hu])
    have h4 : Hid (mapT sbox t = u) := Lib.hid (by rw [← ht, mapT_putW, ← hu, ← hS]; rfl)
    have h5 := Lib.hid hR
    have hsz : t.size = 4 := by rw [← ht]; rfl
    clear hS hu ht
    go_wp2_with fail
    refine (rcon_is _ R h5.out HI.out _).mono ?_; rintro e w' ⟨rfl, rfl⟩
    go_wp2_with fail
    refine (rcon_sp _ R h5.out HI.out _).mono ?_; rintro e w' ⟨rfl, rfl⟩
    clear h5
    go_wp2_with fail
    refine (subw_is _ S h1.out _).mono ?_; rintro e wq ⟨rfl, hq⟩
    replace hbb := hbb.trans (hq.mono hbb.size)
    clear hq
    go_wp2_with fail
    refine (subw_sp _ S h1.out _).mono ?_; rintro e wq ⟨rfl, hq⟩
    replace hbb := hbb.trans (hq.mono hbb.size)
    clear hq
    go_wp2_with fail
    refine (subw_is _ S h1.out _).mono ?_; rintro e wq ⟨rfl, hq⟩
    replace hbb := hbb.trans (hq.mono hbb.size)
    clear hq
    go_wp2_with fail
    refine (putw_is _ u h3.out _).mono ?_; rintro e wq ⟨rfl, hq⟩
    replace hbb := hbb.trans (hq.mono hbb.size)
    clear hq
    go_wp2_with fail
    refine (putw_is _ t h2.out _).mono ?_; rintro e wq ⟨rfl, hq⟩
    replace hbb := hbb.trans (hq.mono hbb.size)
    clear hq
    go_wp2_with fail
    refine (subt_is _ u h4.out hsz _).mono ?_; rintro e wq ⟨rfl, hq⟩
    replace hbb := hbb.trans (hq.mono hbb.size)
    clear hq h1 h2 h3 h4 hsz
    by_cases hlo : i < 1
    · obtain rfl : R = 0 := hR.symm.trans (rconI_no i hlo)
      clear hR
      have hlo2 : ¬ (0 : Int) < i := by omega
      go_wp2
      go_ret
      exact ⟨rfl, hbb⟩
    · by_cases hhi : 1000 < i
      · have hlo2 : (0 : Int) < i := by omega
        clear hR
        go_wp2
        go_ret
        exact ⟨rfl, hbb⟩
      · obtain ⟨j, rfl⟩ : ∃ j : Nat, i = (j : Int) + 1 := ⟨(i - 1).toNat, by omega⟩
        obtain ⟨P, hP⟩ : ∃ P, power 2 j = P := ⟨_, rfl⟩
        obtain ⟨Q, hQ⟩ : ∃ Q, tw P = Q := ⟨_, rfl⟩
        have hPQ : power 2 (j + 1) = Q := by rw [power_2 j (by omega), hP, hQ]
        obtain rfl : R = (P.toNat : Int) * 16777216 := by rw [← hR, rconI_up j (by omega), hP]
        have h6 : Hid (rconI ((j : Int) + 1 + 1) = (Q.toNat : Int) * 16777216) := Lib.hid (by
          have := rconI_up (j + 1) (by omega)
          rw [hPQ] at this
          rw [← this]; congr 1)
        have h7 : Hid (tw (b8 (P.toNat : Int)) = Q) := Lib.hid (by rw [b8_of, hQ])
        have h8 : Hid (rconI 1 = 16777216) := Lib.hid (by exact rconI_up 0 (by omega))
        have hlow := low24 P
        have hPl := P.toNat_lt
        have hQl := Q.toNat_lt
        have hj1 : (j : Int) < 1000 := by omega
        have d1 : (P.toNat : Int) * 16777216 / 16777216 = (P.toNat : Int) := by omega
        have d2 : (Q.toNat : Int) * 16777216 / 16777216 = (Q.toNat : Int) := by omega
        clear hR hP hQ hPQ
        go_wp2_with fail
        refine (rcon_is _ _ h6.out (by unfold In64; omega) _).mono ?_; rintro e w' ⟨rfl, rfl⟩
        go_wp2_with fail
        refine (twice_is _ Q h7.out _).mono ?_; rintro e w' ⟨rfl, rfl⟩
        go_wp2_with fail
        refine (rcon_is _ _ h8.out (by unfold In64; omega) _).mono ?_; rintro e w' ⟨rfl, rfl⟩
        go_wp2
        go_ret
        exact ⟨rfl, hbb⟩
  · go_enter Try.func4, Try.ntmps4
    go_wp2_with fail
    refine (big_great _ _ _ _ (by omega) hlen).mono ?_; rintro e w' ⟨rfl, rfl⟩
    go_wp2
    go_ret
    exact ⟨rfl, Below.refl _ _⟩
end Go.Proofs.Ytioijcgokdnofaa
