/-
  What spec's BlockHash answers.
-/
import Derived.Test.YtbcaldhcgoclgaaFillI
import Derived.Test.YtbcaldhcgoclgaaGfS
set_option linter.unusedVariables false
set_option linter.unusedSimpArgs false
namespace Go.Proofs.Ytbcaldhcgoclgaa
open Go.RowKit

theorem cut16_spec (s : ByteArray) (n k : Nat) (hs : s.size = 16 * n) (hk : k < n) (A : Int) (hA : ((16 * k : Nat) : Int) = A) (W : World) :
    (Instr.slice 9 (.string s) (some (.int .i64 A)) (some (.int .i64 (A + 16))) none).run Try.prog W = .ok (.string (blk (byteOf s) k)) W := by
  have h1 := run_slice_string (P := Try.prog) W 9 s .i64 .i64 A (A + 16) Try.underlying9 (by omega) (by omega) (by omega)
  have e1 : A.toNat = 16 * k := by omega
  have e2 : (A + 16).toNat = 16 * k + 16 := by omega
  rw [e1, e2] at h1
  have e3 : s.extract (16 * k) (16 * k + 16) = blk (byteOf s) k := by
    refine b_ext _ _ 16 (by rw [ByteArray.size_extract]; omega) (blk_size _ _) fun i hi => ?_
    rw [byte_cut _ _ _ _ (by omega) (by omega), blk_byte _ _ _ hi]
  rw [e3] at h1
  exact h1
set_option maxRecDepth 100000 in
set_option maxHeartbeats 1600000 in
theorem BlockHash_spec (h s : ByteArray) (hs : s.size ≤ 1073741824) (w : World) :
    Calls Try.prog 15 #[.string h, .string s] w fun e w' => e = .returned (.string (hsI h s)) ∧ Below w.heap.size w w' := by
  by_cases hh : h.size = 16
  · have hh1 : (h.size : Int) = 16 := by omega
    obtain ⟨n, hn⟩ : ∃ n, (s.size + 15) / 16 = n := ⟨_, rfl⟩
    have hz := zpT_size s
    rw [hn] at hz
    have HW := fun W => Lib.hid (l14Whole_spec s hs W)
    have HZ := fun W => Lib.hid (l14Zero_spec 16 (by omega) W)
    rw [zer16_txt] at HZ
    have HE : Hid (hsK h (blk (byteOf (zpT s))) n = hsI h s) := Lib.hid (by rw [hsI_yes h s hh, ← hn]; rfl)
    obtain ⟨z, hzz⟩ : ∃ z, zpT s = z := ⟨_, rfl⟩
    rw [hzz] at hz HW HE
    have CS := fun k (hk : k < n) A hA W => Lib.hid (cut16_spec z n k hz hk A hA W)
    obtain ⟨K, hK⟩ : ∃ K : Nat → ByteArray, hsK h (blk (byteOf z)) = K := ⟨_, rfl⟩
    have HX := fun k W => Lib.hid (gfXor_spec (hsK h (blk (byteOf z)) k) (blk (byteOf z) k) (hsK_size _ _ _) (blk_size _ _) W)
    have HT := fun k W => Lib.hid (BlockTimes_spec (xorS (hsK h (blk (byteOf z)) k) (blk (byteOf z) k)) h W)
    have HS : ∀ k, tmI (xorS (hsK h (blk (byteOf z)) k) (blk (byteOf z) k)) h = K (k + 1) := fun k => by rw [tmI_yes _ _ (xorS_size _ _) hh, ← hK]; rfl
    simp only [HS] at HT
    have H0 : Hid (K 0 = zer16) := Lib.hid (by rw [← hK]; rfl)
    rw [hK] at HX HT HE
    have hz1 : (z.size : Int) = 16 * (n : Int) := by omega
    have hn1 : (n : Int) ≤ 100000000 := by omega
    have hn0 : (0 : Int) ≤ (n : Int) := by omega
    clear hK HS hzz hz hn hs hh
    go_enter Try.func15, Try.ntmps15
    go_wp2_with fail
    refine (HW _).out.mono ?_; rintro e w1 ⟨rfl, hb1⟩
    go_wp2_with fail
    refine (HZ _).out.mono ?_; rintro e w2 ⟨rfl, hb2⟩
    have hbb := hb1.trans (hb2.mono hb1.size)
    clear hb1 hb2
    go_wp2_with fail
    go_loopw [5, 6] (fun o v wr => ∃ (k : Nat) (A : Int), k ≤ n ∧ ((16 * k : Nat) : Int) = A ∧ v = .int .i64 A ∧ o = .string (K k) ∧ Below w.heap.size w wr) (fun _ v _ => 16 * n - (intOf v).toNat)
    case atStart => exact ⟨0, 0, by omega, by omega, rfl, by rw [H0.out], hbb⟩
    case round =>
      clear hbb
      obtain ⟨k, A, hk, hA, rfl, rfl, hbel⟩ := hrel
      have hA0 : (0 : Int) ≤ A := by omega
      have hA1 : A ≤ 1600000000 := by omega
      by_cases hlt : k < n
      · have hA2 : A < 16 * (n : Int) := by omega
        have hcs := fun W => (CS k hlt A hA W).out
        have hE : ((16 * (k + 1) : Nat) : Int) = A + 16 := by omega
        have hX := fun W => (HX k W).out
        have hT := fun W => (HT k W).out
        clear CS HX HT HE H0 HW HZ
        generalize blk (byteOf z) k = bk at *
        generalize xorS (K k) bk = xk at *
        go_wp2_with fail
        refine (hX _).mono ?_; rintro e w3 ⟨rfl, hb3⟩
        go_wp2_with fail
        refine (hT _).mono ?_; rintro e w4 ⟨rfl, hb4⟩
        have hb5 := hbel.trans (hb3.mono hbel.size)
        have hb6 := hb5.trans (hb4.mono hb5.size)
        clear hb3 hb4 hb5 hcs hX hT
        go_wp2
        go_roundw
        case rel => exact ⟨k + 1, A + 16, by omega, hE, by go_num, rfl, hb6⟩
        case measure => simp [intOf]; omega
      · obtain rfl : k = n := by omega
        have hA3 : A = 16 * (k : Int) := by omega
        subst hA3
        have hneg : ¬ (16 * (k : Int)) < 16 * (k : Int) := by omega
        rw [HE.out]
        clear CS HX HT HE H0 HW HZ
        go_wp2
        go_ret
        exact ⟨rfl, hbel⟩
  · have hh1 : ¬ (h.size : Int) = 16 := by omega
    rw [hsI_no h s hh]
    go_enter Try.func15, Try.ntmps15
    go_wp2
    go_ret
    exact ⟨rfl, Below.refl _ _⟩
end Go.Proofs.Ytbcaldhcgoclgaa
