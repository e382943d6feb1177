/-
  Plain facts on a block as two halves of 64 bits: what is counted up and what is doubled. No program.
-/
import Derived.Test.YtlmbgkcchekdmaaNumMath
set_option linter.unusedVariables false
set_option linter.unusedSimpArgs false
namespace Go.Proofs.Ytlmbgkcchekdmaa
open Go Go.RowKit

/-- the words of two halves. -/
def halW (h l : Nat) : Nat → UInt32
  | 0 => w32 ((h / 4294967296 : Nat) : Int)
  | 1 => w32 (h : Int)
  | 2 => w32 ((l / 4294967296 : Nat) : Int)
  | _ => w32 (l : Int)
theorem w32_nat (x : Nat) : (w32 (x : Int)).toNat = x % 4294967296 := by have := w32_val (x : Int); omega
theorem halW_0 (h l : Nat) (hh : h < 18446744073709551616) : ((halW h l 0).toNat : Int) = (h : Int) / 4294967296 := by
  show ((w32 _).toNat : Int) = _
  rw [w32_nat]; omega
theorem halW_1 (h l : Nat) : ((halW h l 1).toNat : Int) = (h : Int) % 4294967296 := by
  show ((w32 _).toNat : Int) = _
  rw [w32_nat]; omega
theorem halW_2 (h l : Nat) (hl : l < 18446744073709551616) : ((halW h l 2).toNat : Int) = (l : Int) / 4294967296 := by
  show ((w32 _).toNat : Int) = _
  rw [w32_nat]; omega
theorem halW_3 (h l : Nat) : ((halW h l 3).toNat : Int) = (l : Int) % 4294967296 := by
  show ((w32 _).toNat : Int) = _
  rw [w32_nat]; omega
/-- two words as a half. -/
def hlfN (s : ByteArray) (j : Nat) : Nat := (colW s j).toNat * 4294967296 + (colW s (j + 1)).toNat
theorem hlfN_lt (s : ByteArray) (j : Nat) : hlfN s j < 18446744073709551616 := by
  have h1 := w32_lt (colW s j)
  have h2 := w32_lt (colW s (j + 1))
  unfold hlfN; omega
theorem numB_hlf (s : ByteArray) : numB (byteOf s) = hlfN s 0 * 18446744073709551616 + hlfN s 2 := by
  unfold hlfN colW getW
  simp only [mkW_nat, numB, numTo, Nat.reduceMul, Nat.reduceAdd]
  omega
theorem hlf_hi (s : ByteArray) : hlfN s 0 = numB (byteOf s) / 18446744073709551616 := by have := hlfN_lt s 2; have := numB_hlf s; omega
theorem hlf_lo (s : ByteArray) : hlfN s 2 = numB (byteOf s) % 18446744073709551616 := by have := hlfN_lt s 2; have := numB_hlf s; omega
/-- what two halves are written as. -/
theorem hal_txt (h l : Nat) (hh : h < 18446744073709551616) (hl : l < 18446744073709551616) : ofW (halW h l) = txt (digB (h * 18446744073709551616 + l)) 16 := by
  refine txt_ext _ _ 16 fun i hi => ?_
  apply UInt8.toNat_inj.1
  rw [digB_toNat]
  have h16 : i = 0 ∨ i = 1 ∨ i = 2 ∨ i = 3 ∨ i = 4 ∨ i = 5 ∨ i = 6 ∨ i = 7 ∨ i = 8 ∨ i = 9 ∨ i = 10 ∨ i = 11 ∨ i = 12 ∨ i = 13 ∨ i = 14 ∨ i = 15 := by omega
  rcases h16 with rfl | rfl | rfl | rfl | rfl | rfl | rfl | rfl | rfl | rfl | rfl | rfl | rfl | rfl | rfl | rfl <;>
    simp only [Nat.reduceDiv, Nat.reduceMod, Nat.reduceSub, Nat.reducePow, halW, wb0, wb1, wb2, wb3, w32_nat] <;> omega
/-- counted up by halves. -/
theorem cnt_hal (s : ByteArray) (n : Nat) (hn : n < 18446744073709551616) :
    ofW (halW ((hlfN s 0 + (hlfN s 2 + n) / 18446744073709551616) % 18446744073709551616) ((hlfN s 2 + n) % 18446744073709551616)) = cntT s n := by
  rw [hal_txt _ _ (Nat.mod_lt _ (by omega)) (Nat.mod_lt _ (by omega))]
  unfold cntT
  refine txt_ext _ _ 16 fun i hi => ?_
  rw [← digB_mod (numB (byteOf s) + n) i hi, numB_hlf]
  have h0 := hlfN_lt s 0
  have h2 := hlfN_lt s 2
  congr 1
  rw [show (256 : Nat) ^ 16 = 340282366920938463463374607431768211456 by rfl]
  omega
/-! ### doubled -/
theorem dig_dbl (N j : Nat) (hj : 1 ≤ j) : 2 * N / 256 ^ j % 256 = (2 * (N / 256 ^ j % 256) + N / 256 ^ (j - 1) % 256 / 128) % 256 := by
  obtain ⟨k, rfl⟩ : ∃ k, j = k + 1 := ⟨j - 1, by omega⟩
  rw [Nat.add_sub_cancel, Nat.pow_succ, ← Nat.div_div_eq_div_mul, ← Nat.div_div_eq_div_mul]
  have hp : 0 < 256 ^ k := Nat.pow_pos (by omega)
  generalize 256 ^ k = P at *
  have e : 2 * N / P = 2 * (N / P) + 2 * (N % P) / P := by
    have h := Nat.div_add_mod N P
    have h2 : 2 * N = 2 * (N % P) + P * (2 * (N / P)) := by
      rw [← Nat.mul_assoc, Nat.mul_comm P 2, Nat.mul_assoc]
      omega
    rw [h2, Nat.add_mul_div_left _ _ hp]; omega
  have h1 : 2 * (N % P) / P < 2 := by
    rw [Nat.div_lt_iff_lt_mul hp]
    have := Nat.mod_lt N hp
    omega
  rw [e]
  generalize N / P = M at *
  generalize 2 * (N % P) / P = x at *
  omega
theorem xor_low (x c : Nat) (hc : c < 256) : x ^^^ c = 256 * (x / 256) + (x % 256 ^^^ c) := by
  have h1 : (x ^^^ c) / 2 ^ 8 = x / 2 ^ 8 ^^^ c / 2 ^ 8 := Nat.xor_div_two_pow
  have h2 : (x ^^^ c) % 2 ^ 8 = x % 2 ^ 8 ^^^ c % 2 ^ 8 := Nat.xor_mod_two_pow
  simp only [Nat.reducePow] at h1 h2
  rw [Nat.div_eq_of_lt hc, Nat.xor_zero] at h1
  rw [Nat.mod_eq_of_lt hc] at h2
  have := Nat.div_add_mod (x ^^^ c) 256
  omega
theorem xor_low_lt (x c : Nat) (hc : c < 256) : x % 256 ^^^ c < 256 := Nat.xor_lt_two_pow (n := 8) (by omega) (by omega)
theorem shl1_nat (x : UInt8) : (x <<< 1).toNat = 2 * x.toNat % 256 := by
  have h : ∀ n : Fin 256, (UInt8.ofNat n.val <<< 1).toNat = 2 * n.val % 256 := by decide +kernel
  have := h ⟨x.toNat, x.toNat_lt⟩
  simpa using this
theorem top8_nat (x : UInt8) : (top8 x).toNat = x.toNat / 128 := by
  have h : ∀ n : Fin 256, (top8 (UInt8.ofNat n.val)).toNat = n.val / 128 := by decide +kernel
  have := h ⟨x.toNat, x.toNat_lt⟩
  simpa using this
theorem up_nat (x y : UInt8) : ((x <<< 1) ^^^ top8 y).toNat = (2 * x.toNat + y.toNat / 128) % 256 := by
  have h : ∀ n : Fin 256, ((UInt8.ofNat n.val <<< 1) ^^^ (0 : UInt8)).toNat = (2 * n.val + 0) % 256 ∧ ((UInt8.ofNat n.val <<< 1) ^^^ (1 : UInt8)).toNat = (2 * n.val + 1) % 256 := by decide +kernel
  have h1 := h ⟨x.toNat, x.toNat_lt⟩
  simp only [UInt8.ofNat_toNat] at h1
  have hy := top8_nat y
  rcases top8_01 y with h2 | h2
  · rw [h2] at hy ⊢; rw [h1.1, ← hy]; rfl
  · rw [h2] at hy ⊢; rw [h1.2, ← hy]; rfl
theorem dbl_dig (f : Nat → UInt8) (i : Nat) (hi : i < 15) : 2 * numB f / 256 ^ (15 - i) % 256 = (dblF f i).toNat := by
  have h1 := congrArg UInt8.toNat (dig_num f i (by omega))
  have h2 := congrArg UInt8.toNat (dig_num f (i + 1) (by omega))
  rw [digB_toNat] at h1 h2
  rw [dig_dbl _ _ (by omega), show 15 - i - 1 = 15 - (i + 1) by omega, h1, h2]
  unfold dblF
  rw [if_pos hi, up_nat]
theorem dbl_dig15 (f : Nat → UInt8) : 2 * numB f % 256 = ((f 15) <<< 1).toNat := by
  have h1 := congrArg UInt8.toNat (dig_num f 15 (by omega))
  rw [digB_toNat] at h1
  simp only [Nat.sub_self, Nat.pow_zero, Nat.div_one] at h1
  rw [shl1_nat, ← h1]; omega
theorem dbl_top (f : Nat → UInt8) : (if top8 (f 0) = 1 then (135 : UInt8) else 0).toNat = numB f / 170141183460469231731687303715884105728 * 135 := by
  have h1 := congrArg UInt8.toNat (dig_num f 0 (by omega))
  rw [digB_toNat] at h1
  have h2 := numB_lt f
  simp only [Nat.sub_zero, Nat.reducePow] at h1 h2
  have h3 := top8_nat (f 0)
  rcases top8_01 (f 0) with h4 | h4
  · rw [if_neg (by rw [h4]; decide)]
    rw [h4] at h3
    have h5 : (f 0).toNat / 128 = 0 := h3.symm
    have : numB f / 170141183460469231731687303715884105728 = 0 := by omega
    rw [this]; rfl
  · rw [if_pos h4]
    rw [h4] at h3
    have h5 : (f 0).toNat / 128 = 1 := h3.symm
    have : numB f / 170141183460469231731687303715884105728 = 1 := by omega
    rw [this]; rfl
/-- doubled by halves. -/
theorem dbl_hal (s : ByteArray) :
    ofW (halW (hlfN s 0 * 2 % 18446744073709551616 + hlfN s 2 / 9223372036854775808) ((hlfN s 2 * 2 % 18446744073709551616) ^^^ (hlfN s 0 / 9223372036854775808 * 135))) = dblT s := by
  have h0 := hlfN_lt s 0
  have h2 := hlfN_lt s 2
  have hN := numB_hlf s
  have hc : hlfN s 0 / 9223372036854775808 * 135 = numB (byteOf s) / 170141183460469231731687303715884105728 * 135 := by rw [hN]; omega
  have hcl : numB (byteOf s) / 170141183460469231731687303715884105728 * 135 < 256 := by rw [hN]; omega
  have ht := dbl_top (byteOf s)
  rw [hc]
  generalize hC : numB (byteOf s) / 170141183460469231731687303715884105728 * 135 = C at *
  have hx := xor_low (hlfN s 2 * 2 % 18446744073709551616) C hcl
  have hxl := xor_low_lt (hlfN s 2 * 2 % 18446744073709551616) C hcl
  have hm8 : hlfN s 2 * 2 % 18446744073709551616 % 256 = 2 * numB (byteOf s) % 256 := by rw [hN]; omega
  rw [hm8, dbl_dig15] at hx hxl
  rw [hal_txt _ _ (by omega) (by rw [hx]; omega), hx]
  unfold dblT
  refine txt_ext _ _ 16 fun i hi => ?_
  apply UInt8.toNat_inj.1
  rw [digB_toNat]
  by_cases hi2 : i < 15
  · rw [← dbl_dig _ i hi2]
    generalize (byteOf s 15 <<< 1).toNat ^^^ C = y at *
    obtain ⟨k, hk⟩ : ∃ k, 15 - i = k + 1 := ⟨14 - i, by omega⟩
    have hk2 : k < 15 := by omega
    rw [hk, Nat.pow_succ, Nat.mul_comm (256 ^ k) 256, ← Nat.div_div_eq_div_mul, ← Nat.div_div_eq_div_mul]
    have e : ((hlfN s 0 * 2 % 18446744073709551616 + hlfN s 2 / 9223372036854775808) * 18446744073709551616 + (256 * (hlfN s 2 * 2 % 18446744073709551616 / 256) + y)) / 256 = 2 * numB (byteOf s) / 256 % 1329227995784915872903807060280344576 := by rw [hN]; omega
    rw [e]
    have e2 : (1329227995784915872903807060280344576 : Nat) = 256 ^ k * 256 ^ (15 - k) := by rw [← Nat.pow_add, show k + (15 - k) = 15 by omega]
    rw [e2, Nat.mod_mul_right_div_self]
    obtain ⟨m, hm⟩ : ∃ m, 15 - k = m + 1 := ⟨14 - k, by omega⟩
    rw [hm, Nat.pow_succ, Nat.mul_comm (256 ^ m) 256, Nat.mod_mul_right_mod]
  · obtain rfl : i = 15 := by omega
    rw [Nat.sub_self, Nat.pow_zero, Nat.div_one]
    unfold dblF
    rw [if_neg (by omega), UInt8.toNat_xor, ht]
    omega
end Go.Proofs.Ytlmbgkcchekdmaa
