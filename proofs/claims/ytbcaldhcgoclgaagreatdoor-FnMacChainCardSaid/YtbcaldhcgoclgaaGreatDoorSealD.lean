/-
  Contracts and facts that the laws of this seat use: Dr14b, W73.
-/
import Derived.Test.YtbcaldhcgoclgaaGreatDoorPadDraw
import Derived.Test.YtbcaldhcgoclgaaGreatDoorDraws
import Derived.Test.YtbcaldhcgoclgaaGreatDoorSealI
import Derived.Test.YtbcaldhcgoclgaaGreatDoorLockLaid
set_option linter.unusedVariables false
namespace Go.Proofs.YtbcaldhcgoclgaaGreatDoor
open Go.RowKit
attribute [local go_sem ↓] Go.wp_at_zero Go.wp_at_succ

set_option maxRecDepth 100000 in
set_option maxHeartbeats 1600000 in
theorem draw_Mac (w : World) (A : Option Addr) (len cap : Nat) (hcode : CodeAt w w.heap.size A len) (hl : len ≤ 1048576) :
    Calls Tryz.prog 14 #[.slice A len cap] w fun e w' => ∃ k s : ByteArray, e = .returned (.tuple #[.string k, .string s]) ∧ s.size ≤ 1000 ∧ Below w.heap.size w w' := by
  have H := Lib.hid hcode
  clear hcode
  go_enter Tryz.func14, Tryz.ntmps14
  go_wp2_with fail
  refine (new_any _ _ _ _ H.out hl).mono ?_; rintro e w1 ⟨g, rfl, hc1, hb1⟩
  go_wp2_with fail
  refine (odd_any _ _ _ _ _ _ hc1).mono ?_; rintro e w2 ⟨k, rfl, hkz, hc2, hg2⟩
  have hb2 := below_only hb1 hg2 hc1.1 hb1.size
  have HL := Lib.hid hc1.1
  clear hg2 hb1 hc1 hkz
  go_wp2_with fail
  refine (text11_any _ _ _ _ _ _ hc2).mono ?_; rintro e w3 ⟨t, rfl, ht, hc3, hg3⟩
  have HY := Lib.hid (show t.size ≤ 1000 by omega)
  have hb3 := Lib.hid (below_only hb2 hg3 HL.out hb2.size)
  clear ht hg3 hb2
  go_wp2
  go_ret2
  exact ⟨_, _, rfl, HY.out, hb3.out⟩
set_option maxRecDepth 100000 in
set_option maxHeartbeats 1600000 in
theorem draw_Subkeys (w : World) (A : Option Addr) (len cap : Nat) (hcode : CodeAt w w.heap.size A len) (hl : len ≤ 1048576) :
    Calls Tryz.prog 16 #[.slice A len cap] w fun e w' => ∃ k : ByteArray, e = .returned (.string k) ∧ Below w.heap.size w w' := by
  have H := Lib.hid hcode
  clear hcode
  go_enter Tryz.func16, Tryz.ntmps16
  go_wp2_with fail
  refine (new_any _ _ _ _ H.out hl).mono ?_; rintro e w1 ⟨g, rfl, hc1, hb1⟩
  go_wp2_with fail
  refine (odd_any _ _ _ _ _ _ hc1).mono ?_; rintro e w2 ⟨k, rfl, hkz, hc2, hg2⟩
  have hb2 := Lib.hid (below_only hb1 hg2 hc1.1 hb1.size)
  clear hg2 hb1 hc1 hkz
  go_wp2
  go_ret
  exact ⟨_, rfl, hb2.out⟩
end Go.Proofs.YtbcaldhcgoclgaaGreatDoor
set_option linter.unusedVariables false
set_option linter.unusedSimpArgs false
namespace Go.Proofs.YtbcaldhcgoclgaaGreatDoor
open Go.RowKit

theorem mac_inj (key a b : ByteArray) (hk : kOk key) (ha : a.size = 16) (hb : b.size = 16) (h : lockT key a = lockT key b) : a = b := by
  have h1 := wayT_inv false key a hk ha
  have h2 := wayT_inv false key b hk hb
  have e : wayT false key a = wayT false key b := h
  rw [← h1, e, h2]
theorem mac_is (key s r : ByteArray) (hs : s.size ≤ 1048576) (h : macT key s = r) (w : World) (hf : MxF w) :
    Calls Tryz.prog 15 #[.string key, .string s] w fun e w' => e = .returned (.string r) ∧ Below w.heap.size w w' := by
  rw [← h]; exact Mac_impl key s hs w hf
theorem mac_sp (key s r : ByteArray) (hs : s.size ≤ 1048576) (h : macT key s = r) (w : World) :
    Calls Tryz.prog 19 #[.string key, .string s] w fun e w' => e = .returned (.string r) ∧ Below w.heap.size w w' := by
  rw [← h]; exact Mac_spec key s hs w
theorem macok_is (key s tag : ByteArray) (b : Bool) (hs : s.size ≤ 1048576) (h : okT key s tag = b) (w : World) (hf : MxF w) :
    Calls Tryz.prog 22 #[.string key, .string s, .string tag] w fun e w' => e = .returned (.bool b) ∧ Below w.heap.size w w' := by
  rw [← h]; exact MacOk_impl key s tag hs w hf
theorem pre_self (m : ByteArray) : Lib.hasPrefix m.data.toList m.data.toList = true := by
  unfold Lib.hasPrefix
  exact List.isPrefixOf_iff_prefix.2 (List.prefix_refl _)
theorem full_not (a : ByteArray) (h : 0 < a.size) : a.toList.isEmpty = false := by
  rw [toList_data, List.isEmpty_eq_false_iff]
  intro e
  have h2 := congrArg List.length e
  have e1 : a.data.toList.length = a.size := by simp
  rw [e1, List.length_nil] at h2
  omega
theorem none_text (a : ByteArray) (h : a.size = 0) : a = ⟨#[]⟩ := b_ext a _ 0 h rfl fun i hi => by omega
theorem facts_FnMac {W : World} (h : laidMetH Tryz.prog Rows.fnMacRow.laid W) : MxF W := mxf_laid h
set_option maxRecDepth 100000 in
set_option maxHeartbeats 3200000 in
theorem walk_FnMac (a0 : Option Addr) (len0 cap0 : Nat) (z0 : List Int) (w : World) (w0 : IsRow .u8 w a0 len0 cap0 z0) (hf : MxF w) :
    Calls Tryz.prog 3 #[.slice a0 len0 cap0] w fun e w' => e = .returned (.bool true) ∧ Below w.heap.size w w' := by
  obtain ⟨hcode, hlen⟩ := w0.code
  clear w0
  have HF : Hid (∀ W, Below w.heap.size w W → MxF W) := Lib.hid (fun W hW => hf.below hW (Nat.le_refl _))
  clear hf
  by_cases hl : len0 ≤ 1048576
  · have H := Lib.hid hcode
    clear hcode
    go_enter Tryz.func3, Tryz.ntmps3
    go_wp2_with fail
    refine (big_small _ _ _ _ hl).mono ?_; rintro e w' ⟨rfl, rfl⟩
    go_wp2_with fail
    refine (draw_Mac _ _ _ _ H.out hl).mono ?_; rintro e w1 ⟨key, s, rfl, hs, hb1⟩
    have hbb := hb1
    clear hb1
    obtain ⟨x, hx⟩ : ∃ x, macT key s = x := ⟨_, rfl⟩
    have c1 := fun W hW => Lib.hid (mac_is key s x (by omega) hx W hW)
    have c2 := fun W => Lib.hid (mac_sp key s x (by omega) hx W)
    have c3 := fun W => Lib.hid (KeyOk_spec key W)
    go_wp2_with fail
    refine ((c1 _ (HF.out _ hbb)).out).mono ?_; rintro e wq ⟨rfl, hq⟩
    replace hbb := hbb.trans (hq.mono hbb.size)
    clear hq
    go_wp2_with fail
    refine (draw_Subkeys _ _ _ _ ((H.out.below hbb (Nat.le_refl _)).up hbb.size) hl).mono ?_; rintro e w2 ⟨k, rfl, hq⟩
    replace hbb := hbb.trans (hq.mono hbb.size)
    clear hq
    obtain ⟨a, ha⟩ : ∃ a, sk1 k = a := ⟨_, rfl⟩
    obtain ⟨b, hb⟩ : ∃ b, sk2 k = b := ⟨_, rfl⟩
    have hab : dblI a = b := by rw [← ha, ← hb]; rfl
    have c4 := fun W hW => Lib.hid (Subkeys_impl k W hW)
    have c5 := fun W => Lib.hid (Subkeys_spec k W)
    have c6 := fun W => Lib.hid (Doubled_impl a W)
    rw [hab] at c6
    simp only [ha, hb] at c4 c5
    go_wp2_with fail
    refine ((c4 _ (HF.out _ hbb)).out).mono ?_; rintro e wq ⟨rfl, hq⟩
    replace hbb := hbb.trans (hq.mono hbb.size)
    clear hq
    go_wp2_with fail
    refine ((c5 _).out).mono ?_; rintro e wq ⟨rfl, hq⟩
    replace hbb := hbb.trans (hq.mono hbb.size)
    clear hq
    go_wp2_with fail
    refine ((c2 _).out).mono ?_; rintro e wq ⟨rfl, hq⟩
    replace hbb := hbb.trans (hq.mono hbb.size)
    clear hq
    by_cases hk : kOk key
    · rw [decide_eq_true hk] at c3
      have hx16 : x.size = 16 := by rw [← hx]; exact macT_size key s hk
      have kx : (x.size : Int) = 16 := by omega
      have hok : okT key s x = true := by
        unfold okT
        rw [hx, pre_self, decide_eq_true (show 4 ≤ x.size by omega)]; rfl
      have c7 := fun W hW => Lib.hid (macok_is key s x true (by omega) hok W hW)
      have hr : (s.size : Int).tmod 16 = ((s.size % 16 : Nat) : Int) := by rw [Int.tmod_eq_emod_of_nonneg (by omega)]; omega
      have hmore : (s.size = 0 ∨ (0 < s.size % 16 ∧ s.size % 16 < 15)) → ((macT key (s ++ ⟨#[120]⟩)).toList == x.toList) = false := fun h => text_ne (by
        rw [← hx, macT_yes key s hk, macT_yes key _ hk]
        exact mac_more (fun a b ha hb e => mac_inj key a b hk ha hb e) s h)
      have c8 := fun W hW => Lib.hid (mac_is key (s ++ ⟨#[120]⟩) _ (by rw [ByteArray.size_append]; show s.size + 1 ≤ _; omega) rfl W hW)
      have hcat : ¬ 9223372036854775807 < s.size + 1 := by omega
      have hs0 : (0 : Int) ≤ (s.size : Int) := by omega
      have hs1 : (s.size : Int) ≤ 1000 := by omega
      have hemp : a.toList.isEmpty = (decide (¬ kOk k)) := by
        by_cases hk2 : kOk k
        · rw [decide_eq_false (fun h => h hk2)]
          exact full_text a (by rw [← ha]; exact sk1_size k hk2)
        · rw [decide_eq_true hk2, ← ha, sk1_no k hk2, toList_data]; rfl
      generalize macT key (s ++ ⟨#[120]⟩) = y at *
      obtain ⟨sx, hsx⟩ : ∃ sx, s ++ (⟨#[120]⟩ : ByteArray) = sx := ⟨_, rfl⟩
      simp only [hsx] at c8
      clear hx hok hx16 hk ha hb hab c1 c2 c4 c5
      go_wp2_with fail
      refine ((c3 _).out).mono ?_; rintro e wq ⟨rfl, rfl⟩
      by_cases h0 : s.size = 0
      · have hm := hmore (.inl h0)
        have hse : s.toList.isEmpty = true := by rw [none_text s h0, toList_data]; rfl
        have hsz : (s.size : Int) = 0 := by omega
        clear hmore hr h0
        go_wp2_with fail
        refine ((c8 _ (HF.out _ hbb)).out).mono ?_; rintro e wq ⟨rfl, hq⟩
        replace hbb := hbb.trans (hq.mono hbb.size)
        clear hq
        cases hkk : decide (¬ kOk k) with
        | true =>
          rw [hkk] at hemp
          go_wp2_with fail
          refine ((c7 _ (HF.out _ hbb)).out).mono ?_; rintro e wq ⟨rfl, hq⟩
          replace hbb := hbb.trans (hq.mono hbb.size)
          clear hq
          go_wp2
          go_ret
          exact ⟨rfl, hbb⟩
        | false =>
          rw [hkk] at hemp
          go_wp2_with fail
          refine ((c6 _).out).mono ?_; rintro e wq ⟨rfl, hq⟩
          replace hbb := hbb.trans (hq.mono hbb.size)
          clear hq
          go_wp2_with fail
          refine ((c7 _ (HF.out _ hbb)).out).mono ?_; rintro e wq ⟨rfl, hq⟩
          replace hbb := hbb.trans (hq.mono hbb.size)
          clear hq
          go_wp2
          go_ret
          exact ⟨rfl, hbb⟩
      · have hse : s.toList.isEmpty = false := full_not s (by omega)
        by_cases h1 : s.size % 16 = 0
        · have hrz : ((s.size % 16 : Nat) : Int) = 0 := by omega
          clear hmore h0
          rw [hrz] at hr
          cases hkk : decide (¬ kOk k) with
          | true =>
            rw [hkk] at hemp
            go_wp2_with fail
            refine ((c7 _ (HF.out _ hbb)).out).mono ?_; rintro e wq ⟨rfl, hq⟩
            replace hbb := hbb.trans (hq.mono hbb.size)
            clear hq
            go_wp2
            go_ret
            exact ⟨rfl, hbb⟩
          | false =>
            rw [hkk] at hemp
            go_wp2_with fail
            refine ((c6 _).out).mono ?_; rintro e wq ⟨rfl, hq⟩
            replace hbb := hbb.trans (hq.mono hbb.size)
            clear hq
            go_wp2_with fail
            refine ((c7 _ (HF.out _ hbb)).out).mono ?_; rintro e wq ⟨rfl, hq⟩
            replace hbb := hbb.trans (hq.mono hbb.size)
            clear hq
            go_wp2
            go_ret
            exact ⟨rfl, hbb⟩
        · have hr1 : (0 : Int) < ((s.size % 16 : Nat) : Int) := by omega
          by_cases h2 : s.size % 16 < 15
          · have hm := hmore (.inr ⟨by omega, h2⟩)
            have hr2 : ((s.size % 16 : Nat) : Int) < 15 := by omega
            clear hmore h0 h1 h2
            generalize s.size % 16 = r at *
            go_wp2_with fail
            refine ((c8 _ (HF.out _ hbb)).out).mono ?_; rintro e wq ⟨rfl, hq⟩
            replace hbb := hbb.trans (hq.mono hbb.size)
            clear hq
            cases hkk : decide (¬ kOk k) with
            | true =>
              rw [hkk] at hemp
              go_wp2_with fail
              refine ((c7 _ (HF.out _ hbb)).out).mono ?_; rintro e wq ⟨rfl, hq⟩
              replace hbb := hbb.trans (hq.mono hbb.size)
              clear hq
              go_wp2
              go_ret
              exact ⟨rfl, hbb⟩
            | false =>
              rw [hkk] at hemp
              go_wp2_with fail
              refine ((c6 _).out).mono ?_; rintro e wq ⟨rfl, hq⟩
              replace hbb := hbb.trans (hq.mono hbb.size)
              clear hq
              go_wp2_with fail
              refine ((c7 _ (HF.out _ hbb)).out).mono ?_; rintro e wq ⟨rfl, hq⟩
              replace hbb := hbb.trans (hq.mono hbb.size)
              clear hq
              go_wp2
              go_ret
              exact ⟨rfl, hbb⟩
          · have hr2 : ¬ ((s.size % 16 : Nat) : Int) < 15 := by omega
            clear hmore h0 h1 h2
            generalize s.size % 16 = r at *
            cases hkk : decide (¬ kOk k) with
            | true =>
              rw [hkk] at hemp
              go_wp2_with fail
              refine ((c7 _ (HF.out _ hbb)).out).mono ?_; rintro e wq ⟨rfl, hq⟩
              replace hbb := hbb.trans (hq.mono hbb.size)
              clear hq
              go_wp2
              go_ret
              exact ⟨rfl, hbb⟩
            | false =>
              rw [hkk] at hemp
              go_wp2_with fail
              refine ((c6 _).out).mono ?_; rintro e wq ⟨rfl, hq⟩
              replace hbb := hbb.trans (hq.mono hbb.size)
              clear hq
              go_wp2_with fail
              refine ((c7 _ (HF.out _ hbb)).out).mono ?_; rintro e wq ⟨rfl, hq⟩
              replace hbb := hbb.trans (hq.mono hbb.size)
              clear hq
              go_wp2
              go_ret
              exact ⟨rfl, hbb⟩
    · rw [decide_eq_false hk] at c3
      rw [macT_no key s hk] at hx
      subst hx
      clear c1 c2 c4 c5 c6
      go_wp2_with fail
      refine ((c3 _).out).mono ?_; rintro e wq ⟨rfl, rfl⟩
      go_wp2
      go_ret
      exact ⟨rfl, hbb⟩
  · go_enter Tryz.func3, Tryz.ntmps3
    go_wp2_with fail
    refine (big_great _ _ _ _ (by omega) hlen).mono ?_; rintro e w' ⟨rfl, rfl⟩
    go_wp2
    go_ret
    exact ⟨rfl, Below.refl _ _⟩
end Go.Proofs.YtbcaldhcgoclgaaGreatDoor
