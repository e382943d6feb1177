/-
  The walks of laws.FnExactMixColumns, FnExactUnmixColumns and FnColumns.
-/
import Derived.Test.YtbgjeipgmlcgaaaDoorRows
import Derived.Test.YtbgjeipgmlcgaaaDoorCols
import Derived.Test.YtbgjeipgmlcgaaaDoorDraws
import Derived.Lib.LaidTab
set_option linter.unusedVariables false
set_option linter.unusedSimpArgs false
namespace Go.Proofs.YtbgjeipgmlcgaaaDoor
open Go.RowKit

theorem gMxF : Tryd.prog.globalNamed "loop.example/g00835/impl.mixFactors" = some 1 := by kernel_rfl
theorem mxf_laid {rest : List (String × DataW Unit)} {W : World} (h : laidMet Tryd.prog (("loop.example/g00835/impl.mixFactors", Lib.tabData .u8 [2, 1, 1, 3]) :: rest) W) : MxF W := by
  have t : Lib.TabIs Tryd.prog W "loop.example/g00835/impl.mixFactors" .u8 [2, 1, 1, 3] := Lib.tabIs_of_head (zs := [2, 1, 1, 3]) (rest := rest) gMxF (t := 43) (e := 5) (n := 4) (by kernel_rfl) Tryd.underlying43 Tryd.underlying5 (by kernel_rfl) (by kernel_rfl) h
  have c0 : W.cell? ⟨1, 0, none⟩ = some (.int .u8 ((mxF 0).toNat : Int)) := t.cell gMxF 0 (by simp)
  have c1 : W.cell? ⟨1, 1, none⟩ = some (.int .u8 ((mxF 1).toNat : Int)) := t.cell gMxF 1 (by simp)
  have c2 : W.cell? ⟨1, 2, none⟩ = some (.int .u8 ((mxF 2).toNat : Int)) := t.cell gMxF 2 (by simp)
  have c3 : W.cell? ⟨1, 3, none⟩ = some (.int .u8 ((mxF 3).toNat : Int)) := t.cell gMxF 3 (by simp)
  exact ⟨World.block_lt_of_cell? W _ c0, c0, c1, c2, c3⟩
theorem facts_FnExactMixColumns {W : World} (h : laidMetH Tryd.prog Rows.fnExactMixColumnsRow.laid W) : MxF W := mxf_laid h
theorem facts_FnExactUnmixColumns {W : World} (h : laidMetH Tryd.prog Rows.fnExactUnmixColumnsRow.laid W) : MxF W := mxf_laid h
theorem facts_FnColumns {W : World} (h : laidMetH Tryd.prog Rows.fnColumnsRow.laid W) : MxF W := mxf_laid h
theorem facts_FnMix {W : World} (h : laidMetH Tryd.prog Rows.fnMixRow.laid W) : MxF W := mxf_laid h
theorem each_mx (s : ByteArray) : eachT mxW s = mxT s := rfl
theorem each_un (s : ByteArray) : eachT unmixW s = unT s := rfl
set_option maxRecDepth 100000 in
set_option maxHeartbeats 800000 in
theorem walk_FnExactMixColumns (a0 : ByteArray) (w0 : a0.size ≤ maxLen) (w : World) (hf : MxF w) :
    Calls Tryd.prog 7 #[.string a0] w fun e w' => e = .returned (.bool true) ∧ Below w.heap.size w w' := by
  unfold maxLen at w0
  by_cases hs : 1048576 < a0.size
  · go_enter Tryd.func7, Tryd.ntmps7
    go_wp2
    go_ret
    exact ⟨rfl, Below.refl _ _⟩
  · have C1 := fun W => Lib.hid (MixColumns_spec a0 W)
    have C2 := fun W hW => Lib.hid (MixColumns_impl a0 W hW)
    have HF : Hid (∀ W, Below w.heap.size w W → MxF W) := Lib.hid (fun W hW => hf.below hW (Nat.le_refl _))
    rw [each_mx] at C1
    clear hf
    generalize mxT a0 = r at *
    go_enter Tryd.func7, Tryd.ntmps7
    go_wp2_with fail
    refine (C1 _).out.mono ?_; rintro e w1 ⟨rfl, hb1⟩
    go_wp2_with fail
    refine (C2 _ (HF.out _ hb1)).out.mono ?_; rintro e w2 ⟨rfl, hb2⟩
    go_wp2
    go_ret
    exact ⟨rfl, hb1.trans (hb2.mono hb1.size)⟩
set_option maxRecDepth 100000 in
set_option maxHeartbeats 800000 in
theorem walk_FnExactUnmixColumns (a0 : ByteArray) (w0 : a0.size ≤ maxLen) (w : World) (hf : MxF w) :
    Calls Tryd.prog 8 #[.string a0] w fun e w' => e = .returned (.bool true) ∧ Below w.heap.size w w' := by
  unfold maxLen at w0
  by_cases hs : 1048576 < a0.size
  · go_enter Tryd.func8, Tryd.ntmps8
    go_wp2
    go_ret
    exact ⟨rfl, Below.refl _ _⟩
  · have C1 := fun W => Lib.hid (UnmixColumns_spec a0 W)
    have C2 := fun W hW => Lib.hid (UnmixColumns_impl a0 W hW)
    have HF : Hid (∀ W, Below w.heap.size w W → MxF W) := Lib.hid (fun W hW => hf.below hW (Nat.le_refl _))
    rw [each_un] at C1
    clear hf
    generalize unT a0 = r at *
    go_enter Tryd.func8, Tryd.ntmps8
    go_wp2_with fail
    refine (C1 _).out.mono ?_; rintro e w1 ⟨rfl, hb1⟩
    go_wp2_with fail
    refine (C2 _ (HF.out _ hb1)).out.mono ?_; rintro e w2 ⟨rfl, hb2⟩
    go_wp2
    go_ret
    exact ⟨rfl, hb1.trans (hb2.mono hb1.size)⟩
set_option maxRecDepth 100000 in
set_option maxHeartbeats 3200000 in
theorem walk_FnColumns (a0 : Option Addr) (len0 cap0 : Nat) (z0 : List Int) (w : World) (w0 : IsRow .u8 w a0 len0 cap0 z0) (hf : MxF w) :
    Calls Tryd.prog 4 #[.slice a0 len0 cap0] w fun e w' => e = .returned (.bool true) ∧ Below w.heap.size w w' := by
  obtain ⟨hcode, hlen⟩ := w0.code
  clear w0
  by_cases hl : len0 ≤ 1048576
  · have H := Lib.hid hcode
    have HF : Hid (∀ W, Below w.heap.size w W → MxF W) := Lib.hid (fun W hW => hf.below hW (Nat.le_refl _))
    clear hcode hf
    go_enter Tryd.func4, Tryd.ntmps4
    go_wp2_with fail
    refine (big_small _ _ _ _ hl).mono ?_; rintro e w' ⟨rfl, rfl⟩
    go_wp2_with fail
    refine (draw_MixColumns _ _ _ _ H.out hl).mono ?_; rintro e w1 ⟨s, rfl, hs, hb1⟩
    have HC := Lib.hid ((H.out.below hb1 (Nat.le_refl _)).up hb1.size)
    go_wp2_with fail
    refine (draw_UnmixColumns _ _ _ _ HC.out hl).mono ?_; rintro e w2 ⟨t, rfl, ht, hb2⟩
    have hbb := hb1.trans (hb2.mono hb1.size)
    clear hb1 hb2 HC
    have c1 := fun W hW => Lib.hid (MixColumns_impl s W (HF.out W hW))
    have c2 := fun W hW => Lib.hid (UnmixColumns_impl t W (HF.out W hW))
    have c3 := fun W => Lib.hid (MixColumns_spec s W)
    have c4 := fun W => Lib.hid (UnmixColumns_spec t W)
    rw [each_mx] at c3
    rw [each_un] at c4
    by_cases h : s.size = 16
    · obtain ⟨x, hx⟩ : ∃ x, mxT s = x := ⟨_, rfl⟩
      obtain ⟨y, hy⟩ : ∃ y, unT t = y := ⟨_, rfl⟩
      have hx16 : x.size = 16 := by rw [← hx, mxT_yes s h]; exact mxS_size _
      obtain ⟨x2, hx2⟩ : ∃ z, mxT x = z := ⟨_, rfl⟩
      have hx216 : x2.size = 16 := by rw [← hx2, mxT_yes x hx16]; exact mxS_size _
      obtain ⟨x3, hx3⟩ : ∃ z, mxT x2 = z := ⟨_, rfl⟩
      have hx316 : x3.size = 16 := by rw [← hx3, mxT_yes x2 hx216]; exact mxS_size _
      have e1 : unT x = s := by rw [unT_yes x hx16, ← hx, mxT_yes s h]; exact un_mxS s h
      have e4 : mxT x3 = s := by
        rw [mxT_yes x3 hx316, ← hx3, mxT_yes x2 hx216, ← hx2, mxT_yes x hx16, ← hx, mxT_yes s h]; exact mx_fourS s h
      have c5 := fun W hW => Lib.hid (UnmixColumns_impl x W (HF.out W hW))
      have c6 := fun W hW => Lib.hid (MixColumns_impl x W (HF.out W hW))
      have c7 := fun W hW => Lib.hid (MixColumns_impl x2 W (HF.out W hW))
      have c8 := fun W hW => Lib.hid (MixColumns_impl x3 W (HF.out W hW))
      have c9 := fun W hW => Lib.hid (MixColumns_impl y W (HF.out W hW))
      simp only [hx, hy, hx2, hx3, e1, e4] at c1 c2 c3 c4 c5 c6 c7 c8 c9
      have hs2 : (s.size : Int) = 16 := by omega
      clear hx hx2 hx3 e1 e4 hx16 hx216 hx316 h hs
      by_cases h2 : t.size = 16
      · have e5 : mxT y = t := by rw [← hy, unT_yes t h2, mxT_yes _ (unS_size _)]; exact mx_unS t h2
        simp only [e5] at c9
        have ht2 : (t.size : Int) = 16 := by omega
        clear hy e5 h2 ht
        go_wp2_with fail
        refine ((c1 _ hbb).out).mono ?_; rintro e wq ⟨rfl, hq⟩
        replace hbb := hbb.trans (hq.mono hbb.size)
        clear hq
        go_wp2_with fail
        refine ((c2 _ hbb).out).mono ?_; rintro e wq ⟨rfl, hq⟩
        replace hbb := hbb.trans (hq.mono hbb.size)
        clear hq
        go_wp2_with fail
        refine ((c3 _).out).mono ?_; rintro e wq ⟨rfl, hq⟩
        replace hbb := hbb.trans (hq.mono hbb.size)
        clear hq
        go_wp2_with fail
        refine ((c4 _).out).mono ?_; rintro e wq ⟨rfl, hq⟩
        replace hbb := hbb.trans (hq.mono hbb.size)
        clear hq
        go_wp2_with fail
        refine ((c5 _ hbb).out).mono ?_; rintro e wq ⟨rfl, hq⟩
        replace hbb := hbb.trans (hq.mono hbb.size)
        clear hq
        go_wp2_with fail
        refine ((c6 _ hbb).out).mono ?_; rintro e wq ⟨rfl, hq⟩
        replace hbb := hbb.trans (hq.mono hbb.size)
        clear hq
        go_wp2_with fail
        refine ((c7 _ hbb).out).mono ?_; rintro e wq ⟨rfl, hq⟩
        replace hbb := hbb.trans (hq.mono hbb.size)
        clear hq
        go_wp2_with fail
        refine ((c8 _ hbb).out).mono ?_; rintro e wq ⟨rfl, hq⟩
        replace hbb := hbb.trans (hq.mono hbb.size)
        clear hq
        go_wp2_with fail
        refine ((c9 _ hbb).out).mono ?_; rintro e wq ⟨rfl, hq⟩
        replace hbb := hbb.trans (hq.mono hbb.size)
        clear hq
        go_wp2
        go_ret
        exact ⟨rfl, hbb⟩
      · have ht2 : ¬ (t.size : Int) = 16 := by omega
        clear hy h2 ht
        go_wp2_with fail
        refine ((c1 _ hbb).out).mono ?_; rintro e wq ⟨rfl, hq⟩
        replace hbb := hbb.trans (hq.mono hbb.size)
        clear hq
        go_wp2_with fail
        refine ((c2 _ hbb).out).mono ?_; rintro e wq ⟨rfl, hq⟩
        replace hbb := hbb.trans (hq.mono hbb.size)
        clear hq
        go_wp2_with fail
        refine ((c3 _).out).mono ?_; rintro e wq ⟨rfl, hq⟩
        replace hbb := hbb.trans (hq.mono hbb.size)
        clear hq
        go_wp2_with fail
        refine ((c4 _).out).mono ?_; rintro e wq ⟨rfl, hq⟩
        replace hbb := hbb.trans (hq.mono hbb.size)
        clear hq
        go_wp2_with fail
        refine ((c5 _ hbb).out).mono ?_; rintro e wq ⟨rfl, hq⟩
        replace hbb := hbb.trans (hq.mono hbb.size)
        clear hq
        go_wp2_with fail
        refine ((c6 _ hbb).out).mono ?_; rintro e wq ⟨rfl, hq⟩
        replace hbb := hbb.trans (hq.mono hbb.size)
        clear hq
        go_wp2_with fail
        refine ((c7 _ hbb).out).mono ?_; rintro e wq ⟨rfl, hq⟩
        replace hbb := hbb.trans (hq.mono hbb.size)
        clear hq
        go_wp2_with fail
        refine ((c8 _ hbb).out).mono ?_; rintro e wq ⟨rfl, hq⟩
        replace hbb := hbb.trans (hq.mono hbb.size)
        clear hq
        go_wp2
        go_ret
        exact ⟨rfl, hbb⟩
    · have hs2 : ¬ (s.size : Int) = 16 := by omega
      simp only [mxT_no s h] at c1 c3
      obtain ⟨y, hy⟩ : ∃ y, unT t = y := ⟨_, rfl⟩
      simp only [hy] at c2 c4
      clear h hs hy
      go_wp2_with fail
      refine ((c1 _ hbb).out).mono ?_; rintro e wq ⟨rfl, hq⟩
      replace hbb := hbb.trans (hq.mono hbb.size)
      clear hq
      go_wp2_with fail
      refine ((c2 _ hbb).out).mono ?_; rintro e wq ⟨rfl, hq⟩
      replace hbb := hbb.trans (hq.mono hbb.size)
      clear hq
      go_wp2_with fail
      refine ((c3 _).out).mono ?_; rintro e wq ⟨rfl, hq⟩
      replace hbb := hbb.trans (hq.mono hbb.size)
      clear hq
      go_wp2_with fail
      refine ((c4 _).out).mono ?_; rintro e wq ⟨rfl, hq⟩
      replace hbb := hbb.trans (hq.mono hbb.size)
      clear hq
      go_wp2
      go_ret
      exact ⟨rfl, hbb⟩
  · go_enter Tryd.func4, Tryd.ntmps4
    go_wp2_with fail
    refine (big_great _ _ _ _ (by omega) hlen).mono ?_; rintro e w' ⟨rfl, rfl⟩
    go_wp2
    go_ret
    exact ⟨rfl, Below.refl _ _⟩
end Go.Proofs.YtbgjeipgmlcgaaaDoor
