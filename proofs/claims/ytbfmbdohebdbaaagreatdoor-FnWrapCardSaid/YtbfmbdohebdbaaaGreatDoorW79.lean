/-
  The walk of laws.FnWrap.
-/
import Derived.Test.YtbfmbdohebdbaaaGreatDoorDr15
import Derived.Test.YtbfmbdohebdbaaaGreatDoorWrapX
set_option linter.unusedVariables false
set_option linter.unusedSimpArgs false
namespace Go.Proofs.YtbfmbdohebdbaaaGreatDoor
open Go Go.RowKit
attribute [local go_sem ↓] Go.wp_at_zero Go.wp_at_succ

set_option maxRecDepth 100000 in
set_option maxHeartbeats 3200000 in
theorem walk_FnWrap (a0 : Option Addr) (len0 cap0 : Nat) (z0 : List Int) (w : World) (w0 : IsRow .u8 w a0 len0 cap0 z0) (hf : ∃ fa, WFac w fa ∧ Fac4 w 2 unF) :
    Calls Tryz.prog 3 #[.slice a0 len0 cap0] w fun e w' => e = .returned (.bool true) ∧ Below w.heap.size w w' := by
  obtain ⟨hcode, hlen⟩ := w0.code
  clear w0
  obtain ⟨fa, hf, hu⟩ := hf
  have HF : Hid (∀ W, Below w.heap.size w W → WFac W fa) := Lib.hid (fun W hW => hf.up hW)
  have HU : Hid (∀ W, Below w.heap.size w W → Fac4 W 2 unF) := Lib.hid (fun W hW => hu.below hW hu.1)
  clear hf hu
  by_cases hl : len0 ≤ 1048576
  · have H := Lib.hid hcode
    clear hcode
    go_enter Tryz.func3, Tryz.ntmps3
    go_wp2_with fail
    refine (big_small _ _ _ _ hl).mono ?_; rintro e w' ⟨rfl, rfl⟩
    go_wp2_with fail
    refine (draw_Wrap _ _ _ _ H.out hl).mono ?_; rintro e w1 ⟨key, s, rfl, hs, hbb⟩
    have c1 := fun W hW => Lib.hid (Wrap_impl key s fa (by omega) W hW)
    have c2 := fun W => Lib.hid (Wrap_spec key s W)
    by_cases h : wrOk key s
    · have hx := wrT_size key s h
      have hco := wrC_ok key s h
      obtain ⟨hfit, hback⟩ := uw_wrT key s h
      have c3 := fun W hW hW2 => Lib.hid (Unwrap_impl key (wrT key s) fa (by omega) W hW hW2)
      rw [hback, uwC_fit _ _ hfit] at c3
      rw [hco] at c1 c2
      generalize wrT key s = x at *
      have hxs : (x.size : Int) = (s.size : Int) + 8 := by omega
      clear hfit hback hco h
      go_wp2_with fail
      refine ((c1 _ (HF.out _ hbb)).out).mono ?_; rintro e wq ⟨rfl, hq⟩
      replace hbb := hbb.trans (hq.mono hbb.size)
      clear hq
      go_wp2_with fail
      refine ((c2 _).out).mono ?_; rintro e wq ⟨rfl, hq⟩
      replace hbb := hbb.trans (hq.mono hbb.size)
      clear hq
      go_wp2_with fail
      refine ((c3 _ (HF.out _ hbb) (HU.out _ hbb)).out).mono ?_; rintro e wq ⟨rfl, hq⟩
      replace hbb := hbb.trans (hq.mono hbb.size)
      clear hq
      go_wp2
      go_ret
      exact ⟨rfl, hbb⟩
    · have hx := wrT_no key s h
      have hco : ¬ wrC key s = 0 := by
        by_cases hk : kOk key
        · rw [wrC_len key s hk h]; omega
        · rw [wrC_key key s hk]; omega
      rw [hx] at c1 c2
      generalize wrC key s = co at *
      clear h hx
      go_wp2_with fail
      refine ((c1 _ (HF.out _ hbb)).out).mono ?_; rintro e wq ⟨rfl, hq⟩
      replace hbb := hbb.trans (hq.mono hbb.size)
      clear hq
      go_wp2_with fail
      refine ((c2 _).out).mono ?_; rintro e wq ⟨rfl, hq⟩
      replace hbb := hbb.trans (hq.mono hbb.size)
      clear hq
      go_wp2
      go_ret
      exact ⟨rfl, hbb⟩
  · go_enter Tryz.func3, Tryz.ntmps3
    go_wp2_with fail
    refine (big_great _ _ _ _ (by omega) (by omega)).mono ?_; rintro e w' ⟨rfl, rfl⟩
    go_wp2
    go_ret
    exact ⟨rfl, Below.refl _ _⟩
end Go.Proofs.YtbfmbdohebdbaaaGreatDoor
