/-
  Plain facts on words: four bytes put together and taken apart, and turned. No program.
-/
import Derived.Test.YtbgjeipgmlcgaaaDoorFieldMath
import Derived.Test.YtbgjeipgmlcgaaaDoorPlaneMath
import Derived.Test.YtbgjeipgmlcgaaaDoorBoxMath
import Derived.Laws.BitsAllLaws
set_option linter.unusedVariables false
namespace Go.Proofs.YtbgjeipgmlcgaaaDoor
open Go Go.RowKit

/-- a word of any number: its lowest 32 bits. -/
def w32 (x : Int) : UInt32 := UInt32.ofNat (x % 4294967296).toNat
theorem w32_lt (x : UInt32) : x.toNat < 4294967296 := x.toNat_lt
theorem w32_val (x : Int) : ((w32 x).toNat : Int) = x % 4294967296 := by
  unfold w32
  rw [UInt32.toNat_ofNat']
  omega
theorem w32_of (c : UInt32) : w32 (c.toNat : Int) = c := by
  have h := w32_lt c
  apply UInt32.toNat_inj.1
  have := w32_val (c.toNat : Int)
  omega
theorem w32_eq {x : Int} {c : UInt32} (h : x % 4294967296 = (c.toNat : Int)) : w32 x = c := by
  apply UInt32.toNat_inj.1
  have := w32_val x
  omega
/-- the i-th byte of a word, the highest one first. -/
def wb (x : UInt32) (i : Nat) : UInt8 := UInt8.ofNat (x.toNat / 2 ^ (24 - 8 * i))
theorem wb0 (x : UInt32) : (wb x 0).toNat = x.toNat / 16777216 := by
  have := w32_lt x; unfold wb; rw [UInt8.toNat_ofNat']; show x.toNat / 16777216 % 256 = _; omega
theorem wb1 (x : UInt32) : (wb x 1).toNat = x.toNat / 65536 % 256 := by
  unfold wb; rw [UInt8.toNat_ofNat']
theorem wb2 (x : UInt32) : (wb x 2).toNat = x.toNat / 256 % 256 := by
  unfold wb; rw [UInt8.toNat_ofNat']
theorem wb3 (x : UInt32) : (wb x 3).toNat = x.toNat % 256 := by
  unfold wb; rw [UInt8.toNat_ofNat']; show x.toNat / 1 % 256 = _; omega
/-- a word of four bytes. -/
def mkW (a b c d : UInt8) : UInt32 := UInt32.ofNat (a.toNat * 16777216 + b.toNat * 65536 + c.toNat * 256 + d.toNat)
theorem mkW_nat (a b c d : UInt8) : (mkW a b c d).toNat = a.toNat * 16777216 + b.toNat * 65536 + c.toNat * 256 + d.toNat := by
  have := a.toNat_lt; have := b.toNat_lt; have := c.toNat_lt; have := d.toNat_lt
  unfold mkW; rw [UInt32.toNat_ofNat']; omega
theorem mkW_wb (x : UInt32) : mkW (wb x 0) (wb x 1) (wb x 2) (wb x 3) = x := by
  have := w32_lt x
  apply UInt32.toNat_inj.1
  rw [mkW_nat, wb0, wb1, wb2, wb3]; omega
theorem wb0_mk (a b c d : UInt8) : wb (mkW a b c d) 0 = a := by
  have := a.toNat_lt; have := b.toNat_lt; have := c.toNat_lt; have := d.toNat_lt
  apply UInt8.toNat_inj.1; rw [wb0, mkW_nat]; omega
theorem wb1_mk (a b c d : UInt8) : wb (mkW a b c d) 1 = b := by
  have := a.toNat_lt; have := b.toNat_lt; have := c.toNat_lt; have := d.toNat_lt
  apply UInt8.toNat_inj.1; rw [wb1, mkW_nat]; omega
theorem wb2_mk (a b c d : UInt8) : wb (mkW a b c d) 2 = c := by
  have := a.toNat_lt; have := b.toNat_lt; have := c.toNat_lt; have := d.toNat_lt
  apply UInt8.toNat_inj.1; rw [wb2, mkW_nat]; omega
theorem wb3_mk (a b c d : UInt8) : wb (mkW a b c d) 3 = d := by
  have := a.toNat_lt; have := b.toNat_lt; have := c.toNat_lt; have := d.toNat_lt
  apply UInt8.toNat_inj.1; rw [wb3, mkW_nat]; omega
theorem w_ext {x y : UInt32} (h0 : wb x 0 = wb y 0) (h1 : wb x 1 = wb y 1) (h2 : wb x 2 = wb y 2) (h3 : wb x 3 = wb y 3) : x = y := by
  rw [← mkW_wb x, h0, h1, h2, h3, mkW_wb]
/-- the text of a word. -/
def putW (x : UInt32) : ByteArray := ⟨#[wb x 0, wb x 1, wb x 2, wb x 3]⟩
theorem putW_size (x : UInt32) : (putW x).size = 4 := rfl
theorem putW_inj {x y : UInt32} (h : putW x = putW y) : x = y := by
  unfold putW at h
  have h2 : ([wb x 0, wb x 1, wb x 2, wb x 3] : List UInt8) = [wb y 0, wb y 1, wb y 2, wb y 3] := by
    have := congrArg (fun b => b.data.toList) h
    simpa using this
  injection h2 with a b
  injection b with b c
  injection c with c d
  injection d with d e
  exact w_ext a b c d
def byteOf (s : ByteArray) (i : Nat) : UInt8 := s.data.toList.getD i 0
theorem byteOf_at (s : ByteArray) (i : Nat) (h : i < s.size) : s[i] = byteOf s i := by
  have h2 : i < s.data.toList.length := by simpa using h
  unfold byteOf
  rw [List.getD_eq_getElem?_getD, List.getElem?_eq_getElem h2]
  rfl
/-- the word that stands in s from place i on. -/
def getW (s : ByteArray) (i : Nat) : UInt32 := mkW (byteOf s i) (byteOf s (i + 1)) (byteOf s (i + 2)) (byteOf s (i + 3))
theorem getW_putW (x : UInt32) : getW (putW x) 0 = x := mkW_wb x
/-- a word whose bytes are each changed. -/
def mapW (f : UInt8 → UInt8) (x : UInt32) : UInt32 := mkW (f (wb x 0)) (f (wb x 1)) (f (wb x 2)) (f (wb x 3))
/-- a word turned up by k places, k at most 32. -/
def rot (x : UInt32) (k : Nat) : UInt32 := UInt32.ofNat (x.toNat * 2 ^ k % 4294967296 + x.toNat / 2 ^ (32 - k))
theorem nat_or_add (a b k : Nat) (h : b < 2 ^ k) : a * 2 ^ k ||| b = a * 2 ^ k + b := by
  have := Nat.shiftLeft_add_eq_or_of_lt h a
  rw [Nat.shiftLeft_eq] at this
  exact this.symm
theorem rot_lo (x k : Nat) (hk : k ≤ 32) : x * 2 ^ k % 4294967296 = x % 2 ^ (32 - k) * 2 ^ k := by
  have h : 4294967296 = 2 ^ (32 - k) * 2 ^ k := by rw [← Nat.pow_add, show 32 - k + k = 32 by omega]
  rw [h, Nat.mul_mod_mul_right]
theorem rot_hi (x k : Nat) (hk : k ≤ 32) (h : x < 4294967296) : x / 2 ^ (32 - k) < 2 ^ k := by
  apply Nat.div_lt_of_lt_mul
  rw [← Nat.pow_add, show 32 - k + k = 32 by omega]; exact h
theorem rot_or (x k : Nat) (hk : k ≤ 32) (h : x < 4294967296) : (x * 2 ^ k % 4294967296 ||| x / 2 ^ (32 - k)) = x * 2 ^ k % 4294967296 + x / 2 ^ (32 - k) := by
  rw [rot_lo x k hk, nat_or_add _ _ _ (rot_hi x k hk h)]
theorem rot_sum (x k : Nat) (hk : k ≤ 32) (h : x < 4294967296) : x * 2 ^ k % 4294967296 + x / 2 ^ (32 - k) < 4294967296 := by
  have h2 := rot_hi x k hk h
  have h3 : x % 2 ^ (32 - k) < 2 ^ (32 - k) := Nat.mod_lt _ (Nat.two_pow_pos _)
  have h4 : 4294967296 = 2 ^ (32 - k) * 2 ^ k := by rw [← Nat.pow_add, show 32 - k + k = 32 by omega]
  rw [rot_lo x k hk]
  have h5 : (x % 2 ^ (32 - k) + 1) * 2 ^ k ≤ 2 ^ (32 - k) * 2 ^ k := Nat.mul_le_mul_right _ h3
  rw [Nat.add_mul, Nat.one_mul] at h5
  omega
theorem rot_nat (x : UInt32) (k : Nat) (hk : k ≤ 32) : (rot x k).toNat = x.toNat * 2 ^ k % 4294967296 + x.toNat / 2 ^ (32 - k) := by
  have := rot_sum x.toNat k hk (w32_lt x)
  unfold rot; rw [UInt32.toNat_ofNat']; exact Nat.mod_eq_of_lt this
def rotN (x k : Nat) : Nat := x * 2 ^ k % 4294967296 + x / 2 ^ (32 - k)
theorem rotN_lt (x k : Nat) (hk : k ≤ 32) (h : x < 4294967296) : rotN x k < 4294967296 := rot_sum x k hk h
theorem bit_off (x i : Nat) (h : x < 4294967296) (hi : 32 ≤ i) : x.testBit i = false :=
  Nat.testBit_lt_two_pow (Nat.lt_of_lt_of_le h (Nat.pow_le_pow_right (n := 2) (by omega) hi))
theorem rotN_bit (x k i : Nat) (hk : k < 32) (h : x < 4294967296) (hi : i < 32) : (rotN x k).testBit i = x.testBit ((i + (32 - k)) % 32) := by
  unfold rotN
  rw [← rot_or x k (by omega) h, Nat.testBit_or, show 4294967296 = 2 ^ 32 by rfl, Nat.testBit_mod_two_pow, Nat.testBit_mul_two_pow, Nat.testBit_div_two_pow]
  by_cases hik : k ≤ i
  · rw [show (i + (32 - k)) % 32 = i - k by omega, bit_off x (i + (32 - k)) h (by omega)]
    simp [hi, hik]
  · rw [show (i + (32 - k)) % 32 = i + (32 - k) by omega]
    simp [hi, hik]
theorem nat_bits {x y : Nat} (hx : x < 4294967296) (hy : y < 4294967296) (h : ∀ i, i < 32 → x.testBit i = y.testBit i) : x = y := by
  apply Nat.eq_of_testBit_eq
  intro i
  by_cases hi : i < 32
  · exact h i hi
  · rw [bit_off x i hx (by omega), bit_off y i hy (by omega)]
theorem rotN_rotN (x : Nat) (h : x < 4294967296) (j k : Nat) (hj : j < 32) (hk : k < 32) : rotN (rotN x j) k = rotN x ((j + k) % 32) := by
  have hr := rotN_lt x j (by omega) h
  refine nat_bits (rotN_lt _ k (by omega) hr) (rotN_lt _ _ (by omega) h) fun i hi => ?_
  rw [rotN_bit _ k i hk hr hi, rotN_bit x j _ hj h (by omega), rotN_bit x _ i (by omega) h hi]
  congr 1; omega
theorem rotN_0 (x : Nat) (h : x < 4294967296) : rotN x 0 = x := by unfold rotN; simp only [Nat.reducePow, Nat.reduceSub]; omega
theorem rot_rotN (x : UInt32) (k : Nat) (hk : k ≤ 32) : (rot x k).toNat = rotN x.toNat k := rot_nat x k hk
theorem rot_rot (x : UInt32) (j k : Nat) (hj : j < 32) (hk : k < 32) : rot (rot x j) k = rot x ((j + k) % 32) := by
  apply UInt32.toNat_inj.1
  rw [rot_rotN _ k (by omega), rot_rotN _ j (by omega), rot_rotN _ _ (by omega), rotN_rotN _ (w32_lt x) j k hj hk]
theorem rot_0 (x : UInt32) : rot x 0 = x := by
  apply UInt32.toNat_inj.1
  rw [rot_rotN _ _ (by omega), rotN_0 _ (w32_lt x)]
theorem rot_back (x : UInt32) (k : Nat) (hk : k < 32) : rot (rot x k) ((32 - k) % 32) = x := by
  rw [rot_rot x k _ hk (by omega), show (k + (32 - k) % 32) % 32 = 0 by omega, rot_0]
theorem rot_b0 (x : UInt32) : rot x 0 = mkW (wb x 0) (wb x 1) (wb x 2) (wb x 3) := by
  have := w32_lt x
  rw [mkW_wb]; apply UInt32.toNat_inj.1; rw [rot_nat _ _ (by omega)]; simp only [Nat.reducePow, Nat.reduceSub]; omega
theorem rot_b8 (x : UInt32) : rot x 8 = mkW (wb x 1) (wb x 2) (wb x 3) (wb x 0) := by
  have := w32_lt x
  apply UInt32.toNat_inj.1; rw [rot_nat _ _ (by omega), mkW_nat, wb0, wb1, wb2, wb3]; simp only [Nat.reducePow, Nat.reduceSub]; omega
theorem rot_b16 (x : UInt32) : rot x 16 = mkW (wb x 2) (wb x 3) (wb x 0) (wb x 1) := by
  have := w32_lt x
  apply UInt32.toNat_inj.1; rw [rot_nat _ _ (by omega), mkW_nat, wb0, wb1, wb2, wb3]; simp only [Nat.reducePow, Nat.reduceSub]; omega
theorem rot_b24 (x : UInt32) : rot x 24 = mkW (wb x 3) (wb x 0) (wb x 1) (wb x 2) := by
  have := w32_lt x
  apply UInt32.toNat_inj.1; rw [rot_nat _ _ (by omega), mkW_nat, wb0, wb1, wb2, wb3]; simp only [Nat.reducePow, Nat.reduceSub]; omega
theorem mapW_rot (f : UInt8 → UInt8) (x : UInt32) (j : Nat) (hj : j < 4) : mapW f (rot x (8 * j)) = rot (mapW f x) (8 * j) := by
  have h : j = 0 ∨ j = 1 ∨ j = 2 ∨ j = 3 := by omega
  rcases h with rfl | rfl | rfl | rfl
  · rw [rot_b0, rot_b0]; simp [mapW, wb0_mk, wb1_mk, wb2_mk, wb3_mk]
  · rw [rot_b8, rot_b8]; simp [mapW, wb0_mk, wb1_mk, wb2_mk, wb3_mk]
  · rw [rot_b16, rot_b16]; simp [mapW, wb0_mk, wb1_mk, wb2_mk, wb3_mk]
  · rw [rot_b24, rot_b24]; simp [mapW, wb0_mk, wb1_mk, wb2_mk, wb3_mk]
def subW (x : UInt32) : UInt32 := mapW sbox x
/-- what is added to a key. -/
def rcon (i : Nat) : UInt32 := mkW (power 2 (i - 1)) 0 0 0
theorem mul_2_all : ∀ n : Fin 256, mul (UInt8.ofNat n.val) 2 = tw (UInt8.ofNat n.val) := by decide +kernel
theorem mul_2 (c : UInt8) : mul c 2 = tw c := of_all (P := fun c => mul c 2 = tw c) mul_2_all c
theorem power_2 (n : Nat) (h : n + 1 < 2 ^ 64) : power 2 (n + 1) = tw (power 2 n) := by
  rw [power_add 2 n 1 h, ← mul_2]; congr 1
end Go.Proofs.YtbgjeipgmlcgaaaDoor
