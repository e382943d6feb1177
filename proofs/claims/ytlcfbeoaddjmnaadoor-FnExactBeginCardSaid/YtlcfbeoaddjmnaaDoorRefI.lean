/-
  What refuses: impl.refusal and spec.l12Code tell one code of an engine, a mode, a key and an iv; streams that begin: Begin.
-/
import Derived.Test.YtlcfbeoaddjmnaaDoorSizeI
import Derived.Test.YtlcfbeoaddjmnaaDoorKey
import Derived.Deep.RegionHeld3
set_option linter.unusedVariables false
set_option linter.unusedSimpArgs false
namespace Go.Proofs.YtlcfbeoaddjmnaaDoor
open Go.RowKit

/-- the first of the reasons, 0 where there is none. -/
def cdT (e m : Int) (key iv : ByteArray) : Int := if 0 ≤ e ∧ e ≤ 2 then (if 0 ≤ m ∧ m ≤ 2 then (if kOk key then (if m = 0 ∨ iv.size = 16 then 0 else 4) else 3) else 2) else 1
theorem cdT_eng (e m : Int) (key iv : ByteArray) (h : ¬ (0 ≤ e ∧ e ≤ 2)) : cdT e m key iv = 1 := if_neg h
theorem cdT_mode (e m : Int) (key iv : ByteArray) (h : 0 ≤ e ∧ e ≤ 2) (hm : ¬ (0 ≤ m ∧ m ≤ 2)) : cdT e m key iv = 2 := by unfold cdT; rw [if_pos h, if_neg hm]
theorem cdT_key (e m : Int) (key iv : ByteArray) (h : 0 ≤ e ∧ e ≤ 2) (hm : 0 ≤ m ∧ m ≤ 2) (hk : ¬ kOk key) : cdT e m key iv = 3 := by unfold cdT; rw [if_pos h, if_pos hm, if_neg hk]
theorem cdT_iv (e m : Int) (key iv : ByteArray) (h : 0 ≤ e ∧ e ≤ 2) (hm : 0 ≤ m ∧ m ≤ 2) (hk : kOk key) (hi : ¬ (m = 0 ∨ iv.size = 16)) : cdT e m key iv = 4 := by unfold cdT; rw [if_pos h, if_pos hm, if_pos hk, if_neg hi]
theorem cdT_ok (e m : Int) (key iv : ByteArray) (h : 0 ≤ e ∧ e ≤ 2) (hm : 0 ≤ m ∧ m ≤ 2) (hk : kOk key) (hi : m = 0 ∨ iv.size = 16) : cdT e m key iv = 0 := by unfold cdT; rw [if_pos h, if_pos hm, if_pos hk, if_pos hi]

set_option maxRecDepth 100000 in
theorem eng_yes (n : Int) (h : 0 ≤ n ∧ n ≤ 2) (w : World) :
    Calls Tryd.prog 14 #[.int .i64 n] w fun e w' => e = .returned (.bool true) ∧ w = w' := by
  obtain ⟨h0, h1⟩ := h
  go_enter Tryd.func14, Tryd.ntmps14
  go_wp2
  go_ret
  exact ⟨rfl, rfl⟩
set_option maxRecDepth 100000 in
theorem eng_no (n : Int) (h : ¬ (0 ≤ n ∧ n ≤ 2)) (w : World) :
    Calls Tryd.prog 14 #[.int .i64 n] w fun e w' => e = .returned (.bool false) ∧ w = w' := by
  by_cases h0 : 0 ≤ n
  · have h1 : ¬ n ≤ 2 := fun h2 => h ⟨h0, h2⟩
    clear h
    go_enter Tryd.func14, Tryd.ntmps14
    go_wp2
    go_ret
    exact ⟨rfl, rfl⟩
  · clear h
    go_enter Tryd.func14, Tryd.ntmps14
    go_wp2
    go_ret
    exact ⟨rfl, rfl⟩
theorem keyI_yes (s : ByteArray) (h : kOk s) (w : World) :
    Calls Tryd.prog 16 #[.string s] w fun e w' => e = .returned (.bool true) ∧ w = w' := by
  have := KeyOk_impl s w; rwa [decide_eq_true h] at this
theorem keyI_no (s : ByteArray) (h : ¬ kOk s) (w : World) :
    Calls Tryd.prog 16 #[.string s] w fun e w' => e = .returned (.bool false) ∧ w = w' := by
  have := KeyOk_impl s w; rwa [decide_eq_false h] at this

/-- what refuses, as an error. -/
def refV (c : Int) : Value := if c = 0 then .nilIface else .iface 36 (.int .i64 c)
theorem iv_yes (m : Int) (n : Nat) (h : m = 0 ∨ n = 16) (hm : ¬ m = 0) : (n : Int) = 16 := by rcases h with h | h <;> omega

set_option maxRecDepth 100000 in
set_option maxHeartbeats 1600000 in
theorem refusal_impl (e m : Int) (key iv : ByteArray) (w : World) :
    Calls Tryd.prog 9 #[.int .i64 e, .int .i64 m, .string key, .string iv] w fun x w' => x = .returned (refV (cdT e m key iv)) ∧ w = w' := by
  by_cases he : 0 ≤ e ∧ e ≤ 2
  · have HE := Lib.hid (eng_yes e he w)
    by_cases hm : 0 ≤ m ∧ m ≤ 2
    · have HM := Lib.hid (modeOk_yes m hm.1 hm.2 w)
      by_cases hk : kOk key
      · have HK := Lib.hid (keyI_yes key hk w)
        by_cases hi : m = 0 ∨ iv.size = 16
        · rw [cdT_ok e m key iv he hm hk hi]
          by_cases h0 : m = 0
          · subst h0
            clear he hm hk hi
            go_enter Tryd.func9, Tryd.ntmps9
            go_wp2_with fail
            refine HE.out.mono ?_; rintro e w' ⟨rfl, rfl⟩
            go_wp2_with fail
            refine HM.out.mono ?_; rintro e w' ⟨rfl, rfl⟩
            go_wp2_with fail
            refine HK.out.mono ?_; rintro e w' ⟨rfl, rfl⟩
            go_wp2
            go_ret
            exact ⟨rfl, rfl⟩
          · have h16 := iv_yes m iv.size hi h0
            have q1 : (m != 0) = true := bne_iff_ne.2 h0
            clear he hm hk hi h0
            go_enter Tryd.func9, Tryd.ntmps9
            go_wp2_with fail
            refine HE.out.mono ?_; rintro e w' ⟨rfl, rfl⟩
            go_wp2_with fail
            refine HM.out.mono ?_; rintro e w' ⟨rfl, rfl⟩
            go_wp2_with fail
            refine HK.out.mono ?_; rintro e w' ⟨rfl, rfl⟩
            go_wp2
            go_ret
            exact ⟨rfl, rfl⟩
        · rw [cdT_iv e m key iv he hm hk hi]
          have h0 : ¬ m = 0 := fun h => hi (.inl h)
          have h16 : ¬ (iv.size : Int) = 16 := fun h => hi (.inr (by omega))
          have q1 : (m != 0) = true := bne_iff_ne.2 h0
          have q2 : ((iv.size : Int) != 16) = true := bne_iff_ne.2 h16
          clear he hm hk hi h0 h16
          go_enter Tryd.func9, Tryd.ntmps9
          go_wp2_with fail
          refine HE.out.mono ?_; rintro e w' ⟨rfl, rfl⟩
          go_wp2_with fail
          refine HM.out.mono ?_; rintro e w' ⟨rfl, rfl⟩
          go_wp2_with fail
          refine HK.out.mono ?_; rintro e w' ⟨rfl, rfl⟩
          go_wp2
          go_ret
          exact ⟨rfl, rfl⟩
      · have HK := Lib.hid (keyI_no key hk w)
        rw [cdT_key e m key iv he hm hk]
        clear he hm hk
        go_enter Tryd.func9, Tryd.ntmps9
        go_wp2_with fail
        refine HE.out.mono ?_; rintro e w' ⟨rfl, rfl⟩
        go_wp2_with fail
        refine HM.out.mono ?_; rintro e w' ⟨rfl, rfl⟩
        go_wp2_with fail
        refine HK.out.mono ?_; rintro e w' ⟨rfl, rfl⟩
        go_wp2
        go_ret
        exact ⟨rfl, rfl⟩
    · have HM := Lib.hid (modeOk_no m (by omega) w)
      rw [cdT_mode e m key iv he hm]
      clear he hm
      go_enter Tryd.func9, Tryd.ntmps9
      go_wp2_with fail
      refine HE.out.mono ?_; rintro e w' ⟨rfl, rfl⟩
      go_wp2_with fail
      refine HM.out.mono ?_; rintro e w' ⟨rfl, rfl⟩
      go_wp2
      go_ret
      exact ⟨rfl, rfl⟩
  · have HE := Lib.hid (eng_no e he w)
    rw [cdT_eng e m key iv he]
    clear he
    go_enter Tryd.func9, Tryd.ntmps9
    go_wp2_with fail
    refine HE.out.mono ?_; rintro e w' ⟨rfl, rfl⟩
    go_wp2
    go_ret
    exact ⟨rfl, rfl⟩

set_option maxRecDepth 100000 in
set_option maxHeartbeats 1600000 in
theorem l12Code_spec (e m : Int) (key iv : ByteArray) (w : World) :
    Calls Tryd.prog 7 #[.int .i64 e, .int .i64 m, .string key, .string iv] w fun x w' => x = .returned (.int .i64 (cdT e m key iv)) ∧ w = w' := by
  by_cases he : 0 ≤ e ∧ e ≤ 2
  · have HE := Lib.hid (inq_yes e 0 2 he.1 he.2 w)
    by_cases hm : 0 ≤ m ∧ m ≤ 2
    · have HM := Lib.hid (inq_yes m 0 2 hm.1 hm.2 w)
      by_cases hk : kOk key
      · have HK := Lib.hid (ok_yes_spec key hk w)
        by_cases hi : m = 0 ∨ iv.size = 16
        · rw [cdT_ok e m key iv he hm hk hi]
          by_cases h0 : m = 0
          · subst h0
            clear he hm hk hi
            go_enter Tryd.func7, Tryd.ntmps7
            go_wp2_with fail
            refine HE.out.mono ?_; rintro e w' ⟨rfl, rfl⟩
            go_wp2_with fail
            refine HM.out.mono ?_; rintro e w' ⟨rfl, rfl⟩
            go_wp2_with fail
            refine HK.out.mono ?_; rintro e w' ⟨rfl, rfl⟩
            go_wp2
            go_ret
            exact ⟨rfl, rfl⟩
          · have h16 := iv_yes m iv.size hi h0
            have q1 : (m != 0) = true := bne_iff_ne.2 h0
            clear he hm hk hi h0
            go_enter Tryd.func7, Tryd.ntmps7
            go_wp2_with fail
            refine HE.out.mono ?_; rintro e w' ⟨rfl, rfl⟩
            go_wp2_with fail
            refine HM.out.mono ?_; rintro e w' ⟨rfl, rfl⟩
            go_wp2_with fail
            refine HK.out.mono ?_; rintro e w' ⟨rfl, rfl⟩
            go_wp2
            go_ret
            exact ⟨rfl, rfl⟩
        · rw [cdT_iv e m key iv he hm hk hi]
          have h0 : ¬ m = 0 := fun h => hi (.inl h)
          have h16 : ¬ (iv.size : Int) = 16 := fun h => hi (.inr (by omega))
          have q1 : (m != 0) = true := bne_iff_ne.2 h0
          have q2 : ((iv.size : Int) != 16) = true := bne_iff_ne.2 h16
          clear he hm hk hi h0 h16
          go_enter Tryd.func7, Tryd.ntmps7
          go_wp2_with fail
          refine HE.out.mono ?_; rintro e w' ⟨rfl, rfl⟩
          go_wp2_with fail
          refine HM.out.mono ?_; rintro e w' ⟨rfl, rfl⟩
          go_wp2_with fail
          refine HK.out.mono ?_; rintro e w' ⟨rfl, rfl⟩
          go_wp2
          go_ret
          exact ⟨rfl, rfl⟩
      · have HK := Lib.hid (ok_no_spec key hk w)
        rw [cdT_key e m key iv he hm hk]
        clear he hm hk
        go_enter Tryd.func7, Tryd.ntmps7
        go_wp2_with fail
        refine HE.out.mono ?_; rintro e w' ⟨rfl, rfl⟩
        go_wp2_with fail
        refine HM.out.mono ?_; rintro e w' ⟨rfl, rfl⟩
        go_wp2_with fail
        refine HK.out.mono ?_; rintro e w' ⟨rfl, rfl⟩
        go_wp2
        go_ret
        exact ⟨rfl, rfl⟩
    · have HM := Lib.hid (inq_no m 0 2 (by omega) w)
      rw [cdT_mode e m key iv he hm]
      clear he hm
      go_enter Tryd.func7, Tryd.ntmps7
      go_wp2_with fail
      refine HE.out.mono ?_; rintro e w' ⟨rfl, rfl⟩
      go_wp2_with fail
      refine HM.out.mono ?_; rintro e w' ⟨rfl, rfl⟩
      go_wp2
      go_ret
      exact ⟨rfl, rfl⟩
  · have HE := Lib.hid (inq_no e 0 2 (by omega) w)
    rw [cdT_eng e m key iv he]
    clear he
    go_enter Tryd.func7, Tryd.ntmps7
    go_wp2_with fail
    refine HE.out.mono ?_; rintro e w' ⟨rfl, rfl⟩
    go_wp2
    go_ret
    exact ⟨rfl, rfl⟩
end Go.Proofs.YtlcfbeoaddjmnaaDoor
