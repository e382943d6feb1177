/-
  What impl's key type answers: size, ok, words, rounds, grow, growLong, growths; KeyOk, Rounds.
-/
import Derived.Test.YtbgjeipgmlcgaaaDoorKeyMath
import Derived.Test.YtbgjeipgmlcgaaaDoorWordJ
import Derived.WalkKit
import Derived.LoopTactic
import Derived.OwnWalk
import Derived.WalkLawsBesides
import Derived.WalkSpells
import Derived.Outline
import Derived.Below
import Derived.Laws.OwnMore
import Derived.Laws.IdiomStrings
import Derived.Deep.RegionHeld3
import Derived.Deep.QuietTactic
import Derived.BigQuiet
import Derived.IntWalk
set_option linter.unusedVariables false
namespace Go.Proofs.YtbgjeipgmlcgaaaDoor
open Go.RowKit

def kSz (s : ByteArray) : Int := if s.size = 16 then 0 else if s.size = 24 then 1 else if s.size = 32 then 2 else -1
theorem kSz_ok (s : ByteArray) : (kSz s = -1) = ¬ kOk s := by
  unfold kSz kOk
  by_cases h1 : s.size = 16
  · simp [h1]
  · by_cases h2 : s.size = 24
    · simp [h2]
    · by_cases h3 : s.size = 32
      · simp [h3]
      · simp [h1, h2, h3]
set_option maxRecDepth 100000 in
theorem size_impl (s : ByteArray) (w : World) :
    Calls Tryd.prog 57 #[.string s] w fun e w' => e = .returned (.int .i64 (kSz s)) ∧ w = w' := by
  by_cases h1 : s.size = 16
  · have HV : Hid (kSz s = 0) := Lib.hid (by unfold kSz; simp [h1])
    go_enter Tryd.func57, Tryd.ntmps57
    go_wp2
    go_ret
    exact ⟨ret_i HV.out.symm, rfl⟩
  · by_cases h2 : s.size = 24
    · have HV : Hid (kSz s = 1) := Lib.hid (by unfold kSz; simp [h2])
      clear h1
      go_enter Tryd.func57, Tryd.ntmps57
      go_wp2
      go_ret
      exact ⟨ret_i HV.out.symm, rfl⟩
    · by_cases h3 : s.size = 32
      · have HV : Hid (kSz s = 2) := Lib.hid (by unfold kSz; simp [h3])
        clear h1 h2
        go_enter Tryd.func57, Tryd.ntmps57
        go_wp2
        go_ret
        exact ⟨ret_i HV.out.symm, rfl⟩
      · have HV : Hid (kSz s = -1) := Lib.hid (by unfold kSz; simp [h1, h2, h3])
        have k1 : ¬ (s.size : Int) = 16 := by omega
        have k2 : ¬ (s.size : Int) = 24 := by omega
        have k3 : ¬ (s.size : Int) = 32 := by omega
        clear h1 h2 h3
        go_enter Tryd.func57, Tryd.ntmps57
        go_wp2
        go_ret
        exact ⟨ret_i HV.out.symm, rfl⟩
theorem size_at (s : ByteArray) (v : Int) (h : kSz s = v) (w : World) :
    Calls Tryd.prog 57 #[.string s] w fun e w' => e = .returned (.int .i64 v) ∧ w = w' := by
  subst h; exact size_impl s w
set_option maxRecDepth 100000 in
theorem ok_yes (s : ByteArray) (h : kOk s) (w : World) :
    Calls Tryd.prog 52 #[.string s] w fun e w' => e = .returned (.bool true) ∧ w = w' := by
  have HS := Lib.hid (size_impl s)
  have hne : (kSz s != -1) = true := bne_iff_ne.2 (by rw [Ne, kSz_ok]; simpa using h)
  generalize kSz s = v at *
  clear h
  go_enter Tryd.func52, Tryd.ntmps52
  go_wp2_with fail
  refine (HS.out _).mono ?_; rintro e w' ⟨rfl, rfl⟩
  go_wp2
  go_ret
  exact ⟨rfl, rfl⟩
set_option maxRecDepth 100000 in
theorem ok_no (s : ByteArray) (h : ¬ kOk s) (w : World) :
    Calls Tryd.prog 52 #[.string s] w fun e w' => e = .returned (.bool false) ∧ w = w' := by
  have hne : kSz s = -1 := by rw [kSz_ok]; exact h
  have HS := Lib.hid (size_at s (-1) hne)
  clear h hne
  go_enter Tryd.func52, Tryd.ntmps52
  go_wp2_with fail
  refine (HS.out _).mono ?_; rintro e w' ⟨rfl, rfl⟩
  go_wp2
  go_ret
  exact ⟨rfl, rfl⟩
set_option maxRecDepth 100000 in
theorem words_impl (s : ByteArray) (n : Nat) (h : s.size = 4 * n) (hn : n ≤ 8) (w : World) :
    Calls Tryd.prog 54 #[.string s] w fun e w' => e = .returned (.int .i64 n) ∧ w = w' := by
  have hv : (s.size : Int) / 4 = (n : Int) := by omega
  have hz : (s.size : Int) ≤ 32 := by omega
  have HV := Lib.hid hv
  clear h hn hv
  go_enter Tryd.func54, Tryd.ntmps54
  go_wp2
  go_ret
  exact ⟨ret_i HV.out, rfl⟩
/-- a right key of n words. -/
def kOf (s : ByteArray) (n : Nat) : Prop := s.size = 4 * n ∧ (n = 4 ∨ n = 6 ∨ n = 8)
theorem kOk.of {s : ByteArray} (h : kOk s) : ∃ n, kOf s n := by
  rcases h with h | h | h
  · exact ⟨4, h, .inl rfl⟩
  · exact ⟨6, h, .inr (.inl rfl)⟩
  · exact ⟨8, h, .inr (.inr rfl)⟩
theorem kOf.ok {s : ByteArray} {n : Nat} (h : kOf s n) : kOk s := by
  obtain ⟨h1, rfl | rfl | rfl⟩ := h
  · exact .inl h1
  · exact .inr (.inl h1)
  · exact .inr (.inr h1)
theorem kOf.le {s : ByteArray} {n : Nat} (h : kOf s n) : 4 ≤ n ∧ n ≤ 8 := by rcases h.2 with rfl | rfl | rfl <;> omega
set_option maxRecDepth 100000 in
theorem rounds_yes (s : ByteArray) (n : Nat) (h : kOf s n) (w : World) :
    Calls Tryd.prog 53 #[.string s] w fun e w' => e = .returned (.int .i64 ((n + 6 : Nat) : Int)) ∧ w = w' := by
  have H1 := Lib.hid (ok_yes s h.ok)
  have hle := h.le
  have H2 := Lib.hid (words_impl s n h.1 hle.2)
  have h8 : (n : Int) ≤ 8 := by omega
  clear h hle
  go_enter Tryd.func53, Tryd.ntmps53
  go_wp2_with fail
  refine (H1.out _).mono ?_; rintro e w' ⟨rfl, rfl⟩
  go_wp2_with fail
  refine (H2.out _).mono ?_; rintro e w' ⟨rfl, rfl⟩
  go_wp2
  go_ret
  exact ⟨ret_i (by omega), rfl⟩
set_option maxRecDepth 100000 in
theorem rounds_no (s : ByteArray) (h : ¬ kOk s) (w : World) :
    Calls Tryd.prog 53 #[.string s] w fun e w' => e = .returned (.int .i64 0) ∧ w = w' := by
  have H1 := Lib.hid (ok_no s h)
  clear h
  go_enter Tryd.func53, Tryd.ntmps53
  go_wp2_with fail
  refine (H1.out _).mono ?_; rintro e w' ⟨rfl, rfl⟩
  go_wp2
  go_ret
  exact ⟨rfl, rfl⟩
/-- Rounds as the document tells it. -/
def kRi (s : ByteArray) : Int := if kOk s then ((s.size / 4 + 6 : Nat) : Int) else 0
theorem kRi_no (s : ByteArray) (h : ¬ kOk s) : kRi s = 0 := if_neg h
theorem kRi_of (s : ByteArray) (n : Nat) (h : kOf s n) : kRi s = ((n + 6 : Nat) : Int) := by
  unfold kRi; rw [if_pos h.ok, h.1, Nat.mul_div_cancel_left n (by omega)]
theorem rconI_pos (j : Nat) (h : 1 ≤ j) : rconI (j : Int) = ((rcon j).toNat : Int) := by
  unfold rconI; rw [if_neg (by omega)]; simp
theorem below_drewN1 {w w1 : World} {n B : Nat} (h : Below B (w.drewN n) w1) : Below B w w1 := ⟨h.os, h.tape, h.output, h.size, h.block⟩
/-- what grow tells: growW, but for the word in the middle of a key of eight words. -/
def growS (n i : Nat) (x : UInt32) : UInt32 := if i % n = 0 then subW (rot x 8) ^^^ rcon (i / n) else x
theorem growW_S (n i : Nat) (x : UInt32) (h : ¬ (n = 8 ∧ i % 8 = 4)) : growW n i x = growS n i x := by
  unfold growW growS; rw [if_neg h]
set_option maxRecDepth 100000 in
theorem grow_impl (s : ByteArray) (n : Nat) (h : kOf s n) (i : Nat) (hi : n ≤ i) (hi2 : i ≤ 1000) (x : UInt32) (w : World) :
    Calls Tryd.prog 71 #[.string s, .int .i64 i, .int .u32 x.toNat] w fun e w' => e = .returned (.int .u32 (growS n i x).toNat) ∧ Below w.heap.size w w' := by
  have hle := h.le
  have H2 := Lib.hid (words_impl s n h.1 hle.2)
  have h8 : (n : Int) ≤ 8 := by omega
  have h4 : (4 : Int) ≤ (n : Int) := by omega
  have hx := w32_lt x
  have hx2 : (x.toNat : Int) < 4294967296 := by omega
  have hi3 : (i : Int) ≤ 1000 := by omega
  by_cases hm : i % n = 0
  · have HT := Lib.hid (Turn_impl (x.toNat : Int) 8)
    have e1 : turnI (x.toNat : Int) 8 = ((rot x 8).toNat : Int) := by
      have := turnI_at (x.toNat : Int) 8 (by omega)
      rw [w32_of] at this; exact this
    have HW := Lib.hid (SubWord_impl ((rot x 8).toNat : Int))
    have hq : 1 ≤ i / n := Nat.div_pos hi (by omega)
    have hq2 : i / n ≤ 1000 := Nat.le_trans (Nat.div_le_self _ _) hi2
    have HR := Lib.hid (Rcon_impl ((i / n : Nat) : Int) (by omega) (by omega))
    have HV : Hid (growS n i x = subW (rot x 8) ^^^ rcon (i / n)) := Lib.hid (by unfold growS; rw [if_pos hm])
    have HX := Lib.hid (i64_xor32 (subW (rot x 8)) (rcon (i / n)))
    rw [e1] at HT
    rw [w32_of] at HW
    rw [rconI_pos _ hq] at HR
    have ed : (i : Int).tdiv (n : Int) = ((i / n : Nat) : Int) := by rw [Int.tdiv_eq_ediv_of_nonneg (by omega)]; rfl
    have em : (i : Int).tmod (n : Int) = 0 := by rw [Int.tmod_eq_emod_of_nonneg (by omega)]; omega
    have hqi : ((i / n : Nat) : Int) ≤ 1000 := by omega
    generalize i / n = q at *
    generalize rot x 8 = y at *
    generalize subW y = z at *
    generalize rcon q = v at *
    have hy := w32_lt y
    have hz := w32_lt z
    have hv := w32_lt v
    have hzv := w32_lt (z ^^^ v)
    have HZ : Hid (((z ^^^ v).toNat : Int) % 4294967296 = ((z ^^^ v).toNat : Int)) := Lib.hid (by omega)
    clear h hle hm hi hi2 hq hq2 e1
    go_enter Tryd.func71, Tryd.ntmps71
    go_wp2_with fail
    refine (H2.out _).mono ?_; rintro e w' ⟨rfl, rfl⟩
    go_wp2_with fail
    refine (HT.out _).mono ?_; rintro e w' ⟨rfl, rfl⟩
    go_wp2_with fail
    refine (HW.out _).mono ?_; rintro e w1 ⟨rfl, hb1⟩
    go_wp2_with fail
    refine (H2.out _).mono ?_; rintro e w' ⟨rfl, rfl⟩
    go_wp2_with fail
    refine (HR.out _).mono ?_; rintro e w' ⟨rfl, rfl⟩
    go_wp2
    go_ret
    exact ⟨ret_i (by rw [HV.out, HX.out, HZ.out]), hb1⟩
  · have HV : Hid (growS n i x = x) := Lib.hid (by unfold growS; rw [if_neg hm])
    obtain ⟨m, hm2⟩ : ∃ m, i % n = m := ⟨_, rfl⟩
    have em : (i : Int).tmod (n : Int) = (m : Int) := by rw [Int.tmod_eq_emod_of_nonneg (by omega), ← hm2]; rfl
    have hm3 : ((m : Int) != 0) = true := bne_iff_ne.2 (by omega)
    have hml : m ≤ 8 := by have := Nat.mod_lt i (show 0 < n by omega); omega
    have hm4 : (m : Int) ≤ 8 := by omega
    clear h hle hm hi hi2 hm2 hml
    go_enter Tryd.func71, Tryd.ntmps71
    go_wp2_with fail
    refine (H2.out _).mono ?_; rintro e w' ⟨rfl, rfl⟩
    go_wp2
    go_ret
    exact ⟨ret_i (by rw [HV.out]), Below.refl _ _⟩
set_option maxRecDepth 100000 in
theorem growLong_impl (s : ByteArray) (h : kOf s 8) (i : Nat) (hi : 8 ≤ i) (hi2 : i ≤ 1000) (x : UInt32) (w : World) :
    Calls Tryd.prog 72 #[.string s, .int .i64 i, .int .u32 x.toNat] w fun e w' => e = .returned (.int .u32 (growW 8 i x).toNat) ∧ Below w.heap.size w w' := by
  have H3 := Lib.hid (fun W => show Calls Tryd.prog 54 #[.string s] W fun e w' => e = .returned (.int .i64 8) ∧ w' = W from (words_impl s 8 h.1 (by omega) W).mono fun e w' h => ⟨h.1, h.2.symm⟩)
  have hx := w32_lt x
  have hx2 : (x.toNat : Int) < 4294967296 := by omega
  have hi3 : (i : Int) ≤ 1000 := by omega
  by_cases hm : i % 8 = 4
  · have HW := Lib.hid (SubWord_impl (x.toNat : Int))
    rw [w32_of] at HW
    have HV := Lib.hid (growW_4 i x hm)
    have em : (i : Int).tmod 8 = 4 := by rw [Int.tmod_eq_emod_of_nonneg (by omega)]; omega
    generalize subW x = z at *
    have hz := w32_lt z
    clear h hm hi hi2
    go_enter Tryd.func72, Tryd.ntmps72
    go_wp2
    go_quiet ((go_at_call 54; exact Calls.quiet_of_same (H3.out _)))
    go_wp2_with fail
    refine (HW.out _).mono ?_; rintro e w1 ⟨rfl, hb1⟩
    go_wp2
    go_ret
    exact ⟨ret_i (by rw [HV.out]), below_drewN1 hb1⟩
  · have HG := Lib.hid (grow_impl s 8 h i hi hi2 x)
    have HV := Lib.hid (growW_S 8 i x (by omega))
    obtain ⟨m, hm2⟩ : ∃ m, i % 8 = m := ⟨_, rfl⟩
    have em : (i : Int).tmod 8 = (m : Int) := by rw [Int.tmod_eq_emod_of_nonneg (by omega)]; omega
    have hm3 : ((m : Int) == 4) = false := beq_eq_false_iff_ne.2 (by omega)
    have hm4 : (m : Int) ≤ 8 := by omega
    generalize growS 8 i x = z at *
    clear h hm hi hi2 hm2
    go_enter Tryd.func72, Tryd.ntmps72
    go_wp2
    go_quiet ((go_at_call 54; exact Calls.quiet_of_same (H3.out _)))
    go_wp2_with fail
    refine (HG.out _).mono ?_; rintro e w1 ⟨rfl, hb1⟩
    go_wp2
    go_ret
    exact ⟨ret_i (by rw [HV.out]), below_drewN1 hb1⟩
end Go.Proofs.YtbgjeipgmlcgaaaDoor
