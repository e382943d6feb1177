/-
  The walks of laws.FnExactShiftRows, FnExactUnshiftRows and FnRows.
-/
import Derived.Test.YtbgjeipgmlcgaaaShiftS
import Derived.Test.YtbgjeipgmlcgaaaBlockDraw
set_option linter.unusedVariables false
set_option linter.unusedSimpArgs false
namespace Go.Proofs.Ytbgjeipgmlcgaaa
open Go.RowKit

set_option maxRecDepth 100000 in
set_option maxHeartbeats 800000 in
theorem walk_FnExactShiftRows (a0 : ByteArray) (w0 : a0.size ≤ maxLen) (w : World) :
    Calls Try.prog 4 #[.string a0] w fun e w' => e = .returned (.bool true) ∧ Below w.heap.size w w' := by
  unfold maxLen at w0
  by_cases hs : 1048576 < a0.size
  · go_enter Try.func4, Try.ntmps4
    go_wp2
    go_ret
    exact ⟨rfl, Below.refl _ _⟩
  · have C1 := fun W => Lib.hid (ShiftRows_spec a0 W)
    have C2 := fun W => Lib.hid (ShiftRows_impl a0 W)
    generalize shT 1 a0 = r at *
    go_enter Try.func4, Try.ntmps4
    go_wp2_with fail
    refine (C1 _).out.mono ?_; rintro e w1 ⟨rfl, hb1⟩
    go_wp2_with fail
    refine (C2 _).out.mono ?_; rintro e w2 ⟨rfl, hb2⟩
    go_wp2
    go_ret
    exact ⟨rfl, hb1.trans (hb2.mono hb1.size)⟩
set_option maxRecDepth 100000 in
set_option maxHeartbeats 800000 in
theorem walk_FnExactUnshiftRows (a0 : ByteArray) (w0 : a0.size ≤ maxLen) (w : World) :
    Calls Try.prog 5 #[.string a0] w fun e w' => e = .returned (.bool true) ∧ Below w.heap.size w w' := by
  unfold maxLen at w0
  by_cases hs : 1048576 < a0.size
  · go_enter Try.func5, Try.ntmps5
    go_wp2
    go_ret
    exact ⟨rfl, Below.refl _ _⟩
  · have C1 := fun W => Lib.hid (UnshiftRows_spec a0 W)
    have C2 := fun W => Lib.hid (UnshiftRows_impl a0 W)
    generalize shT 3 a0 = r at *
    go_enter Try.func5, Try.ntmps5
    go_wp2_with fail
    refine (C1 _).out.mono ?_; rintro e w1 ⟨rfl, hb1⟩
    go_wp2_with fail
    refine (C2 _).out.mono ?_; rintro e w2 ⟨rfl, hb2⟩
    go_wp2
    go_ret
    exact ⟨rfl, hb1.trans (hb2.mono hb1.size)⟩
set_option maxRecDepth 100000 in
set_option maxHeartbeats 3200000 in
theorem walk_FnRows (a0 : Option Addr) (len0 cap0 : Nat) (z0 : List Int) (w : World) (w0 : IsRow .u8 w a0 len0 cap0 z0) :
    Calls Try.prog 3 #[.slice a0 len0 cap0] w fun e w' => e = .returned (.bool true) ∧ Below w.heap.size w w' := by
  obtain ⟨hcode, hlen⟩ := w0.code
  clear w0
  by_cases hl : len0 ≤ 1048576
  · have H := Lib.hid hcode
    clear hcode
    go_enter Try.func3, Try.ntmps3
    go_wp2_with fail
    refine (big_small _ _ _ _ hl).mono ?_; rintro e w' ⟨rfl, rfl⟩
    go_wp2_with fail
    refine (draw_ShiftRows _ _ _ _ H.out hl).mono ?_; rintro e w1 ⟨s, rfl, hs, hb1⟩
    have HC := Lib.hid ((H.out.below hb1 (Nat.le_refl _)).up hb1.size)
    go_wp2_with fail
    refine (draw_UnshiftRows _ _ _ _ HC.out hl).mono ?_; rintro e w2 ⟨t, rfl, ht, hb2⟩
    have hbb := hb1.trans (hb2.mono hb1.size)
    clear hb1 hb2 HC
    have c1 := fun W => Lib.hid (ShiftRows_impl s W)
    have c2 := fun W => Lib.hid (UnshiftRows_impl t W)
    have c3 := fun W => Lib.hid (ShiftRows_spec s W)
    have c4 := fun W => Lib.hid (UnshiftRows_spec t W)
    by_cases h : s.size = 16
    · obtain ⟨x, hx⟩ : ∃ x, shT 1 s = x := ⟨_, rfl⟩
      obtain ⟨y, hy⟩ : ∃ y, shT 3 t = y := ⟨_, rfl⟩
      have hx16 : x.size = 16 := by rw [← hx, shT_yes 1 s h]; exact shS_size _ _
      obtain ⟨x2, hx2⟩ : ∃ z, shT 1 x = z := ⟨_, rfl⟩
      have hx216 : x2.size = 16 := by rw [← hx2, shT_yes 1 x hx16]; exact shS_size _ _
      obtain ⟨x3, hx3⟩ : ∃ z, shT 1 x2 = z := ⟨_, rfl⟩
      have hx316 : x3.size = 16 := by rw [← hx3, shT_yes 1 x2 hx216]; exact shS_size _ _
      have e1 : shT 3 x = s := by rw [shT_yes 3 x hx16, ← hx, shT_yes 1 s h]; exact sh_back s h
      have e4 : shT 1 x3 = s := by
        rw [shT_yes 1 x3 hx316, ← hx3, shT_yes 1 x2 hx216, ← hx2, shT_yes 1 x hx16, ← hx, shT_yes 1 s h]; exact sh_four s h
      have c5 := fun W => Lib.hid (UnshiftRows_impl x W)
      have c6 := fun W => Lib.hid (ShiftRows_impl x W)
      have c7 := fun W => Lib.hid (ShiftRows_impl x2 W)
      have c8 := fun W => Lib.hid (ShiftRows_impl x3 W)
      have c9 := fun W => Lib.hid (ShiftRows_impl y W)
      simp only [hx, hy, hx2, hx3, e1, e4] at c1 c2 c3 c4 c5 c6 c7 c8 c9
      have hs2 : (s.size : Int) = 16 := by omega
      clear hx hx2 hx3 e1 e4 hx16 hx216 hx316 h hs
      by_cases h2 : t.size = 16
      · have e5 : shT 1 y = t := by rw [← hy, shT_yes 3 t h2, shT_yes 1 _ (shS_size _ _)]; exact sh_forth t h2
        simp only [e5] at c9
        have ht2 : (t.size : Int) = 16 := by omega
        clear hy e5 h2 ht
        go_wp2_with fail
        refine ((c1 _).out).mono ?_; rintro e wq ⟨rfl, hq⟩
        replace hbb := hbb.trans (hq.mono hbb.size)
        clear hq
        go_wp2_with fail
        refine ((c2 _).out).mono ?_; rintro e wq ⟨rfl, hq⟩
        replace hbb := hbb.trans (hq.mono hbb.size)
        clear hq
        go_wp2_with fail
        refine ((c3 _).out).mono ?_; rintro e wq ⟨rfl, hq⟩
        replace hbb := hbb.trans (hq.mono hbb.size)
        clear hq
        go_wp2_with fail
        refine ((c4 _).out).mono ?_; rintro e wq ⟨rfl, hq⟩
        replace hbb := hbb.trans (hq.mono hbb.size)
        clear hq
        go_wp2_with fail
        refine ((c5 _).out).mono ?_; rintro e wq ⟨rfl, hq⟩
        replace hbb := hbb.trans (hq.mono hbb.size)
        clear hq
        go_wp2_with fail
        refine ((c6 _).out).mono ?_; rintro e wq ⟨rfl, hq⟩
        replace hbb := hbb.trans (hq.mono hbb.size)
        clear hq
        go_wp2_with fail
        refine ((c7 _).out).mono ?_; rintro e wq ⟨rfl, hq⟩
        replace hbb := hbb.trans (hq.mono hbb.size)
        clear hq
        go_wp2_with fail
        refine ((c8 _).out).mono ?_; rintro e wq ⟨rfl, hq⟩
        replace hbb := hbb.trans (hq.mono hbb.size)
        clear hq
        go_wp2_with fail
        refine ((c9 _).out).mono ?_; rintro e wq ⟨rfl, hq⟩
        replace hbb := hbb.trans (hq.mono hbb.size)
        clear hq
        go_wp2
        go_ret
        exact ⟨rfl, hbb⟩
      · have ht2 : ¬ (t.size : Int) = 16 := by omega
        clear hy h2 ht
        go_wp2_with fail
        refine ((c1 _).out).mono ?_; rintro e wq ⟨rfl, hq⟩
        replace hbb := hbb.trans (hq.mono hbb.size)
        clear hq
        go_wp2_with fail
        refine ((c2 _).out).mono ?_; rintro e wq ⟨rfl, hq⟩
        replace hbb := hbb.trans (hq.mono hbb.size)
        clear hq
        go_wp2_with fail
        refine ((c3 _).out).mono ?_; rintro e wq ⟨rfl, hq⟩
        replace hbb := hbb.trans (hq.mono hbb.size)
        clear hq
        go_wp2_with fail
        refine ((c4 _).out).mono ?_; rintro e wq ⟨rfl, hq⟩
        replace hbb := hbb.trans (hq.mono hbb.size)
        clear hq
        go_wp2_with fail
        refine ((c5 _).out).mono ?_; rintro e wq ⟨rfl, hq⟩
        replace hbb := hbb.trans (hq.mono hbb.size)
        clear hq
        go_wp2_with fail
        refine ((c6 _).out).mono ?_; rintro e wq ⟨rfl, hq⟩
        replace hbb := hbb.trans (hq.mono hbb.size)
        clear hq
        go_wp2_with fail
        refine ((c7 _).out).mono ?_; rintro e wq ⟨rfl, hq⟩
        replace hbb := hbb.trans (hq.mono hbb.size)
        clear hq
        go_wp2_with fail
        refine ((c8 _).out).mono ?_; rintro e wq ⟨rfl, hq⟩
        replace hbb := hbb.trans (hq.mono hbb.size)
        clear hq
        go_wp2
        go_ret
        exact ⟨rfl, hbb⟩
    · have hs2 : ¬ (s.size : Int) = 16 := by omega
      simp only [shT_no 1 s h] at c1 c3
      obtain ⟨y, hy⟩ : ∃ y, shT 3 t = y := ⟨_, rfl⟩
      simp only [hy] at c2 c4
      clear h hs hy
      go_wp2_with fail
      refine ((c1 _).out).mono ?_; rintro e wq ⟨rfl, hq⟩
      replace hbb := hbb.trans (hq.mono hbb.size)
      clear hq
      go_wp2_with fail
      refine ((c2 _).out).mono ?_; rintro e wq ⟨rfl, hq⟩
      replace hbb := hbb.trans (hq.mono hbb.size)
      clear hq
      go_wp2_with fail
      refine ((c3 _).out).mono ?_; rintro e wq ⟨rfl, hq⟩
      replace hbb := hbb.trans (hq.mono hbb.size)
      clear hq
      go_wp2_with fail
      refine ((c4 _).out).mono ?_; rintro e wq ⟨rfl, hq⟩
      replace hbb := hbb.trans (hq.mono hbb.size)
      clear hq
      go_wp2
      go_ret
      exact ⟨rfl, hbb⟩
  · go_enter Try.func3, Try.ntmps3
    go_wp2_with fail
    refine (big_great _ _ _ _ (by omega) hlen).mono ?_; rintro e w' ⟨rfl, rfl⟩
    go_wp2
    go_ret
    exact ⟨rfl, Below.refl _ _⟩
end Go.Proofs.Ytbgjeipgmlcgaaa
