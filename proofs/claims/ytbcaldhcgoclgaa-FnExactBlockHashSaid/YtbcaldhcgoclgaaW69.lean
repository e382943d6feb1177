/-
  The walk of laws.FnBlockTimes.
-/
import Derived.Test.YtbcaldhcgoclgaaW68
import Derived.Test.YtbcaldhcgoclgaaDr14
set_option linter.unusedVariables false
set_option linter.unusedSimpArgs false
namespace Go.Proofs.Ytbcaldhcgoclgaa
open Go.RowKit

theorem times_is (a b r : ByteArray) (h : tmI a b = r) (w : World) :
    Calls Try.prog 9 #[.string a, .string b] w fun e w' => e = .returned (.string r) ∧ Below w.heap.size w w' := by
  rw [← h]; exact BlockTimes_impl a b w
theorem times_sp (a b r : ByteArray) (h : tmI a b = r) (w : World) :
    Calls Try.prog 10 #[.string a, .string b] w fun e w' => e = .returned (.string r) ∧ Below w.heap.size w w' := by
  rw [← h]; exact BlockTimes_spec a b w
theorem gfxor_is (a b r : ByteArray) (ha : a.size = 16) (hb : b.size = 16) (h : xorS a b = r) (w : World) :
    Calls Try.prog 12 #[.string a, .string b] w fun e w' => e = .returned (.string r) ∧ Below w.heap.size w w' := by
  rw [← h, ← xorOf_S a b ha hb]; exact xor_impl a b w (by omega) (by omega)
/-- a byte 128 and fifteen bytes 0: one. -/
def oneT : ByteArray := ⟨#[128]⟩ ++ txt (fun _ => 0) 15
theorem oneT_size : oneT.size = 16 := by
  unfold oneT
  rw [ByteArray.size_append, txt_size]; rfl
theorem oneT_N : gfN oneT = gfE := by decide +kernel
theorem made15 (w : World) : (convert 22 9 (.slice (some ⟨w.heap.size, 0, none⟩) 15 15)).run Try.prog (w.alloc (.cells (mk8 15) 5)) = .ok (.string (txt (fun _ => 0) 15)) (w.alloc (.cells (mk8 15) 5)) :=
  made_conv (by omega) (heap_alloc_new w _)
set_option maxRecDepth 100000 in
set_option maxHeartbeats 3200000 in
theorem walk_FnBlockTimes (a0 : Option Addr) (len0 cap0 : Nat) (z0 : List Int) (w : World) (w0 : IsRow .u8 w a0 len0 cap0 z0) :
    Calls Try.prog 3 #[.slice a0 len0 cap0] w fun e w' => e = .returned (.bool true) ∧ Below w.heap.size w w' := by
  obtain ⟨hcode, hlen⟩ := w0.code
  clear w0
  by_cases hl : len0 ≤ 1048576
  · have H := Lib.hid hcode
    clear hcode
    go_enter Try.func3, Try.ntmps3
    go_wp2_with fail
    refine (big_small _ _ _ _ hl).mono ?_; rintro e w' ⟨rfl, rfl⟩
    go_wp2_with fail
    refine (draw_BlockTimes _ _ _ _ H.out hl).mono ?_; rintro e w1 ⟨a, b, rfl, ha, hb, hb1⟩
    have hbb := hb1
    clear hb1
    obtain ⟨x, hx⟩ : ∃ x, tmI a b = x := ⟨_, rfl⟩
    have c1 := fun W => Lib.hid (times_is a b x hx W)
    have c2 := fun W => Lib.hid (times_sp a b x hx W)
    go_wp2_with fail
    refine ((c1 _).out).mono ?_; rintro e wq ⟨rfl, hq⟩
    replace hbb := hbb.trans (hq.mono hbb.size)
    clear hq
    go_wp2_with fail
    refine ((c2 _).out).mono ?_; rintro e wq ⟨rfl, hq⟩
    replace hbb := hbb.trans (hq.mono hbb.size)
    clear hq
    by_cases h : a.size = 16 ∧ b.size = 16
    · obtain ⟨ha2, hb2⟩ := h
      have ka : (a.size : Int) = 16 := by omega
      have kb : (b.size : Int) = 16 := by omega
      rw [tmI_yes a b ha2 hb2] at hx
      go_wp2_with fail
      refine (bytes_law 3 16 (by omega) _ _ _ _ ((H.out.below hbb (Nat.le_refl _)).up hbb.size) hl).mono ?_; rintro e w2 ⟨c, rfl, hc, hq⟩
      replace hbb := hbb.trans (hq.mono hbb.size)
      clear hq
      obtain ⟨u, hu⟩ : ∃ u, xorS b c = u := ⟨_, rfl⟩
      obtain ⟨v, hv⟩ : ∃ v, tmB a u = v := ⟨_, rfl⟩
      obtain ⟨y, hy⟩ : ∃ y, tmB a c = y := ⟨_, rfl⟩
      obtain ⟨z, hz⟩ : ∃ z, tmB x c = z := ⟨_, rfl⟩
      obtain ⟨t, ht⟩ : ∃ t, tmB b c = t := ⟨_, rfl⟩
      have hu2 : u.size = 16 := by rw [← hu]; exact xorS_size _ _
      have hx2 : x.size = 16 := by rw [← hx]; exact tmB_size _ _
      have hy2 : y.size = 16 := by rw [← hy]; exact tmB_size _ _
      have ht2 : t.size = 16 := by rw [← ht]; exact tmB_size _ _
      have ho2 := oneT_size
      have e1 : tmI b a = x := by rw [tmI_yes b a hb2 ha2, tmB_comm, hx]
      have e2 : xorS x y = v := by rw [← hv, ← hu, tmB_sum a b c hb2 hc, hx, hy]
      have e3 : tmI a oneT = a := by rw [tmI_yes a _ ha2 ho2, tmB_one a _ ha2 oneT_N]
      have e4 : tmB a t = z := by rw [← ht, ← tmB_assoc, hx, hz]
      have d1 := fun W => Lib.hid (times_is b a x e1 W)
      have d2 := fun W => Lib.hid (gfxor_is b c u hb2 hc hu W)
      have d3 := fun W => Lib.hid (times_is a u v (by rw [tmI_yes a u ha2 hu2, hv]) W)
      have d4 := fun W => Lib.hid (times_is a c y (by rw [tmI_yes a c ha2 hc, hy]) W)
      have d5 := fun W => Lib.hid (gfxor_is x y v hx2 hy2 e2 W)
      have d6 := fun W => Lib.hid (times_is a oneT a e3 W)
      have d7 := fun W => Lib.hid (times_is a b x (by rw [tmI_yes a b ha2 hb2, hx]) W)
      have d8 := fun W => Lib.hid (times_is x c z (by rw [tmI_yes x c hx2 hc, hz]) W)
      have d9 := fun W => Lib.hid (times_is b c t (by rw [tmI_yes b c hb2 hc, ht]) W)
      have d10 := fun W => Lib.hid (times_is a t z (by rw [tmI_yes a t ha2 ht2, e4]) W)
      have hcat : (⟨#[128]⟩ : ByteArray) ++ txt (fun _ => 0) 15 = oneT := rfl
      have hcs : (txt (fun _ => 0) 15).size = 15 := txt_size _ _
      have hmd : ∀ W : World, (Instr.makeSlice 22 (.int .i64 15) (.int .i64 15)).run Try.prog W = .ok (.slice (some ⟨W.heap.size, 0, none⟩) 15 15) (W.alloc (.cells (mk8 15) 5)) := fun W => by
        obtain ⟨i0, hi, hz0, hz1, hz2⟩ := info_parts Try.info5
        exact run_make8 Try.underlying22 hi hz0 hz1 hz2 15 15 (Nat.le_refl _) (by omega) W
      have hcv := made15
      clear hx hu hv hy hz ht hu2 hx2 hy2 ht2 ho2 e1 e2 e3 e4 c1 c2 ha hb ha2 hb2 hc
      generalize txt (fun _ => 0) 15 = o15 at *
      generalize oneT = one at *
      replace hbb := hbb.alloc hbb.size (.cells (mk8 15) 5)
      go_wp2_with fail
      refine ((d1 _).out).mono ?_; rintro e wq ⟨rfl, hq⟩
      replace hbb := hbb.trans (hq.mono hbb.size)
      clear hq
      go_wp2_with fail
      refine ((d2 _).out).mono ?_; rintro e wq ⟨rfl, hq⟩
      replace hbb := hbb.trans (hq.mono hbb.size)
      clear hq
      go_wp2_with fail
      refine ((d3 _).out).mono ?_; rintro e wq ⟨rfl, hq⟩
      replace hbb := hbb.trans (hq.mono hbb.size)
      clear hq
      go_wp2_with fail
      refine ((d4 _).out).mono ?_; rintro e wq ⟨rfl, hq⟩
      replace hbb := hbb.trans (hq.mono hbb.size)
      clear hq
      go_wp2_with fail
      refine ((d5 _).out).mono ?_; rintro e wq ⟨rfl, hq⟩
      replace hbb := hbb.trans (hq.mono hbb.size)
      clear hq
      go_wp2_with fail
      refine ((d6 _).out).mono ?_; rintro e wq ⟨rfl, hq⟩
      replace hbb := hbb.trans (hq.mono hbb.size)
      clear hq
      go_wp2_with fail
      refine ((d7 _).out).mono ?_; rintro e wq ⟨rfl, hq⟩
      replace hbb := hbb.trans (hq.mono hbb.size)
      clear hq
      go_wp2_with fail
      refine ((d8 _).out).mono ?_; rintro e wq ⟨rfl, hq⟩
      replace hbb := hbb.trans (hq.mono hbb.size)
      clear hq
      go_wp2_with fail
      refine ((d9 _).out).mono ?_; rintro e wq ⟨rfl, hq⟩
      replace hbb := hbb.trans (hq.mono hbb.size)
      clear hq
      go_wp2_with fail
      refine ((d10 _).out).mono ?_; rintro e wq ⟨rfl, hq⟩
      replace hbb := hbb.trans (hq.mono hbb.size)
      clear hq
      go_wp2
      go_ret
      exact ⟨rfl, hbb⟩
    · rw [tmI_no a b h] at hx
      subst hx
      clear c1 c2
      by_cases h1 : a.size = 16
      · have k1 : (a.size : Int) = 16 := by omega
        have k2 : ¬ (b.size : Int) = 16 := by omega
        clear h ha hb
        go_wp2
        go_ret
        exact ⟨rfl, hbb⟩
      · have k1 : ¬ (a.size : Int) = 16 := by omega
        clear h ha hb
        go_wp2
        go_ret
        exact ⟨rfl, hbb⟩
  · go_enter Try.func3, Try.ntmps3
    go_wp2_with fail
    refine (big_great _ _ _ _ (by omega) hlen).mono ?_; rintro e w' ⟨rfl, rfl⟩
    go_wp2
    go_ret
    exact ⟨rfl, Below.refl _ _⟩
end Go.Proofs.Ytbcaldhcgoclgaa
