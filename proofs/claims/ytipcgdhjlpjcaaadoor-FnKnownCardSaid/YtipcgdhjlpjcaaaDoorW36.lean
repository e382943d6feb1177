/-
  The walk of laws.FnKnown: three locks that are known.
-/
import Derived.Test.YtipcgdhjlpjcaaaDoorLockLaid
import Derived.Test.YtipcgdhjlpjcaaaDoorLockKnown
import Derived.Test.YtipcgdhjlpjcaaaDoorPassH
import Derived.Test.YtipcgdhjlpjcaaaDoorBase
import Derived.Test.YtipcgdhjlpjcaaaDoorHexI
set_option linter.unusedVariables false
set_option linter.unusedSimpArgs false
namespace Go.Proofs.YtipcgdhjlpjcaaaDoor
open Go.RowKit

theorem facts_FnKnown {W : World} (h : laidMetH Tryd.prog Rows.fnKnownRow.laid W) : MxF W := mxf_laid h
def kn_hex (x : ByteArray) : ByteArray := ⟨(hexOf x.data.toList).toArray⟩
theorem hexk_impl (s : ByteArray) (hs : s.size ≤ 1073741824) (x : ByteArray) (hx : kn_hex s = x) (w : World) :
    Calls Tryd.prog 18 #[.string s] w fun e w' => e = .returned (.string x) ∧ Below w.heap.size w w' := by
  rw [← hx]; exact hex_impl s w hs
def knA : ByteArray := ⟨#[0, 1, 2, 3, 4, 5, 6, 7, 8, 9, 10, 11, 12, 13, 14, 15, 16, 17, 18, 19, 20, 21, 22, 23, 24, 25, 26, 27, 28, 29, 30, 31]⟩
theorem knA_4 : knA.extract 0 16 = knK4 := by decide +kernel
def knH4 : ByteArray := ⟨#[54, 57, 99, 52, 101, 48, 100, 56, 54, 97, 55, 98, 48, 52, 51, 48, 100, 56, 99, 100, 98, 55, 56, 48, 55, 48, 98, 52, 99, 53, 53, 97]⟩
theorem knH4_is : kn_hex knX4 = knH4 := by decide +kernel
theorem knA_6 : knA.extract 0 24 = knK6 := by decide +kernel
def knH6 : ByteArray := ⟨#[100, 100, 97, 57, 55, 99, 97, 52, 56, 54, 52, 99, 100, 102, 101, 48, 54, 101, 97, 102, 55, 48, 97, 48, 101, 99, 48, 100, 55, 49, 57, 49]⟩
theorem knH6_is : kn_hex knX6 = knH6 := by decide +kernel
theorem knA_8 : knA.extract 0 32 = knK8 := by decide +kernel
def knH8 : ByteArray := ⟨#[56, 101, 97, 50, 98, 55, 99, 97, 53, 49, 54, 55, 52, 53, 98, 102, 101, 97, 102, 99, 52, 57, 57, 48, 52, 98, 52, 57, 54, 48, 56, 57]⟩
theorem knH8_is : kn_hex knX8 = knH8 := by decide +kernel
set_option maxRecDepth 100000 in
set_option maxHeartbeats 1600000 in
theorem walk_FnKnown (a0 : Option Addr) (len0 cap0 : Nat) (z0 : List Int) (w : World) (w0 : IsRow .u8 w a0 len0 cap0 z0) (hf : MxF w) :
    Calls Tryd.prog 4 #[.slice a0 len0 cap0] w fun e w' => e = .returned (.bool true) ∧ Below w.heap.size w w' := by
  obtain ⟨hcode, hlen⟩ := w0.code
  clear w0
  by_cases hl : len0 ≤ 1048576
  · have H := Lib.hid hcode
    have HF : Hid (∀ W, Below w.heap.size w W → MxF W) := Lib.hid (fun W hW => hf.below hW (Nat.le_refl _))
    clear hcode hf
    go_enter Tryd.func4, Tryd.ntmps4
    go_wp2_with fail
    refine (big_small _ _ _ _ hl).mono ?_; rintro e w' ⟨rfl, rfl⟩
    go_wp2_with fail
    refine (at_any 0 (by omega) _ _ _ _ H.out hl).mono ?_; rintro e w' ⟨⟨x, rfl, hx⟩, rfl⟩
    have h3 : x % 3 = 0 ∨ x % 3 = 1 ∨ x % 3 = 2 := by omega
    rcases h3 with h3 | h3 | h3
    · have e3 : (x : Int).tmod 3 = 0 := by rw [Int.tmod_eq_emod_of_nonneg (by omega)]; omega
      clear h3
      obtain ⟨X, hX⟩ : ∃ X, knX4 = X := ⟨_, rfl⟩
      have C1 := fun W hW => Lib.hid (Lock_impl (knA.extract 0 16) knB W hW)
      have C2 := fun W => Lib.hid (hexk_impl knX4 (by decide) _ knH4_is W)
      have C3 := fun W hW => Lib.hid (Unlock_impl (knA.extract 0 16) knX4 W hW)
      simp only [knA_4, known4, known4_back] at C1 C3
      rw [← knA_4] at C1 C3
      simp only [hX] at C1 C2 C3
      clear hX
      go_wp2_with fail
      refine (C1 _ (HF.out _ ((Below.refl _ _).alloc (Nat.le_refl _) _))).out.mono ?_; rintro e w1 ⟨rfl, hb1⟩
      have HB1 := Lib.hid (((Below.refl w.heap.size w).alloc (Nat.le_refl _) _).trans (hb1.mono (by simp)))
      clear hb1
      go_wp2_with fail
      refine (C2 _).out.mono ?_; rintro e w2 ⟨rfl, hb2⟩
      have HB2 := Lib.hid (HB1.out.trans (hb2.mono HB1.out.size))
      clear hb2
      unfold knH4
      go_wp2_with fail
      refine (C3 _ (HF.out _ HB2.out)).out.mono ?_; rintro e w3 ⟨rfl, hb3⟩
      have HB3 := Lib.hid (HB2.out.trans (hb3.mono HB2.out.size))
      clear hb3
      unfold knB
      go_wp2
      go_ret
      exact ⟨rfl, HB3.out⟩
    · have e3 : (x : Int).tmod 3 = 1 := by rw [Int.tmod_eq_emod_of_nonneg (by omega)]; omega
      clear h3
      obtain ⟨X, hX⟩ : ∃ X, knX6 = X := ⟨_, rfl⟩
      have C1 := fun W hW => Lib.hid (Lock_impl (knA.extract 0 24) knB W hW)
      have C2 := fun W => Lib.hid (hexk_impl knX6 (by decide) _ knH6_is W)
      have C3 := fun W hW => Lib.hid (Unlock_impl (knA.extract 0 24) knX6 W hW)
      simp only [knA_6, known6, known6_back] at C1 C3
      rw [← knA_6] at C1 C3
      simp only [hX] at C1 C2 C3
      clear hX
      go_wp2_with fail
      refine (C1 _ (HF.out _ ((Below.refl _ _).alloc (Nat.le_refl _) _))).out.mono ?_; rintro e w1 ⟨rfl, hb1⟩
      have HB1 := Lib.hid (((Below.refl w.heap.size w).alloc (Nat.le_refl _) _).trans (hb1.mono (by simp)))
      clear hb1
      go_wp2_with fail
      refine (C2 _).out.mono ?_; rintro e w2 ⟨rfl, hb2⟩
      have HB2 := Lib.hid (HB1.out.trans (hb2.mono HB1.out.size))
      clear hb2
      unfold knH6
      go_wp2_with fail
      refine (C3 _ (HF.out _ HB2.out)).out.mono ?_; rintro e w3 ⟨rfl, hb3⟩
      have HB3 := Lib.hid (HB2.out.trans (hb3.mono HB2.out.size))
      clear hb3
      unfold knB
      go_wp2
      go_ret
      exact ⟨rfl, HB3.out⟩
    · have e3 : (x : Int).tmod 3 = 2 := by rw [Int.tmod_eq_emod_of_nonneg (by omega)]; omega
      clear h3
      obtain ⟨X, hX⟩ : ∃ X, knX8 = X := ⟨_, rfl⟩
      have C1 := fun W hW => Lib.hid (Lock_impl (knA.extract 0 32) knB W hW)
      have C2 := fun W => Lib.hid (hexk_impl knX8 (by decide) _ knH8_is W)
      have C3 := fun W hW => Lib.hid (Unlock_impl (knA.extract 0 32) knX8 W hW)
      simp only [knA_8, known8, known8_back] at C1 C3
      rw [← knA_8] at C1 C3
      simp only [hX] at C1 C2 C3
      clear hX
      go_wp2_with fail
      refine (C1 _ (HF.out _ ((Below.refl _ _).alloc (Nat.le_refl _) _))).out.mono ?_; rintro e w1 ⟨rfl, hb1⟩
      have HB1 := Lib.hid (((Below.refl w.heap.size w).alloc (Nat.le_refl _) _).trans (hb1.mono (by simp)))
      clear hb1
      go_wp2_with fail
      refine (C2 _).out.mono ?_; rintro e w2 ⟨rfl, hb2⟩
      have HB2 := Lib.hid (HB1.out.trans (hb2.mono HB1.out.size))
      clear hb2
      unfold knH8
      go_wp2_with fail
      refine (C3 _ (HF.out _ HB2.out)).out.mono ?_; rintro e w3 ⟨rfl, hb3⟩
      have HB3 := Lib.hid (HB2.out.trans (hb3.mono HB2.out.size))
      clear hb3
      unfold knB
      go_wp2
      go_ret
      exact ⟨rfl, HB3.out⟩
  · go_enter Tryd.func4, Tryd.ntmps4
    go_wp2_with fail
    refine (big_great _ _ _ _ (by omega) hlen).mono ?_; rintro e w' ⟨rfl, rfl⟩
    go_wp2
    go_ret
    exact ⟨rfl, Below.refl _ _⟩
end Go.Proofs.YtipcgdhjlpjcaaaDoor
