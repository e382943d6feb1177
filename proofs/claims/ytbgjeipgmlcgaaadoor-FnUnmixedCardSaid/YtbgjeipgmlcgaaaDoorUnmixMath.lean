/-
  Plain facts on words whose columns are mixed by factors. No program.
-/
import Derived.Test.YtbgjeipgmlcgaaaDoorKeyMath
set_option linter.unusedVariables false
namespace Go.Proofs.YtbgjeipgmlcgaaaDoor
open Go Go.RowKit

theorem wb_xor (x y : UInt32) (i : Nat) : wb (x ^^^ y) i = wb x i ^^^ wb y i := by
  apply UInt8.toNat_inj.1
  unfold wb
  rw [UInt8.toNat_xor, UInt8.toNat_ofNat', UInt8.toNat_ofNat', UInt8.toNat_ofNat', UInt32.toNat_xor, nat_xor_div]
  exact nat_xor_mod _ _
theorem mkW_xor (a b c d a' b' c' d' : UInt8) : mkW a b c d ^^^ mkW a' b' c' d' = mkW (a ^^^ a') (b ^^^ b') (c ^^^ c') (d ^^^ d') := by
  apply w_ext <;> simp only [wb_xor, wb0_mk, wb1_mk, wb2_mk, wb3_mk]
/-- the products of a byte with four factors, put together to a word. -/
def spr (f : Nat → UInt8) (b : UInt8) : UInt32 := mkW (mul (f 0) b) (mul (f 1) b) (mul (f 2) b) (mul (f 3) b)
/-- the products of a byte with the first k of four factors. -/
def sprTo (f : Nat → UInt8) (b : UInt8) : Nat → Nat
  | 0 => 0
  | k + 1 => sprTo f b k * 256 % 4294967296 + (mul (f k) b).toNat
theorem sprTo_4 (f : Nat → UInt8) (b : UInt8) : sprTo f b 4 = (spr f b).toNat := by
  have h0 := (mul (f 0) b).toNat_lt
  have h1 := (mul (f 1) b).toNat_lt
  have h2 := (mul (f 2) b).toNat_lt
  have h3 := (mul (f 3) b).toNat_lt
  unfold spr
  rw [mkW_nat]
  simp only [sprTo]
  omega
theorem sprTo_up (f : Nat → UInt8) (b : UInt8) (k : Nat) (y : UInt8) (hy : mul (f k) b = y) : bits .or .u32 ((sprTo f b k : Int) * 256 % 4294967296) (y.toNat : Int) = ((sprTo f b (k + 1) : Nat) : Int) := by
  have hyl := y.toNat_lt
  have e : (sprTo f b k : Int) * 256 % 4294967296 = ((sprTo f b k * 256 % 4294967296 : Nat) : Int) := by omega
  have h1 : sprTo f b k * 256 % 4294967296 = (sprTo f b k % 16777216) * 2 ^ 8 := by omega
  have h2 := nat_or_add (sprTo f b k % 16777216) y.toNat 8 (by omega)
  rw [e, u32_or_nat _ _ (by omega) (by omega), sprTo, hy, h1, h2]
theorem sprTo_lt (f : Nat → UInt8) (b : UInt8) (k : Nat) : sprTo f b k < 4294967296 := by
  cases k with
  | zero => simp [sprTo]
  | succ k => have := (mul (f k) b).toNat_lt; rw [sprTo]; omega
/-- how far the word of the byte at a place is turned up. -/
def upBy (k : Nat) : Nat := (32 - 8 * k) % 32
/-- a word's column mixed by factors, its first k bytes. -/
def mixTo (f : Nat → UInt8) (x : UInt32) : Nat → UInt32
  | 0 => 0
  | k + 1 => mixTo f x k ^^^ rot (spr f (wb x k)) (upBy k)
def mixW (f : Nat → UInt8) (x : UInt32) : UInt32 := mixTo f x 4
theorem mixW_bytes (f : Nat → UInt8) (x : UInt32) : mixW f x =
    mkW (mul (f 0) (wb x 0) ^^^ mul (f 3) (wb x 1) ^^^ mul (f 2) (wb x 2) ^^^ mul (f 1) (wb x 3))
      (mul (f 1) (wb x 0) ^^^ mul (f 0) (wb x 1) ^^^ mul (f 3) (wb x 2) ^^^ mul (f 2) (wb x 3))
      (mul (f 2) (wb x 0) ^^^ mul (f 1) (wb x 1) ^^^ mul (f 0) (wb x 2) ^^^ mul (f 3) (wb x 3))
      (mul (f 3) (wb x 0) ^^^ mul (f 2) (wb x 1) ^^^ mul (f 1) (wb x 2) ^^^ mul (f 0) (wb x 3)) := by
  have e0 : upBy 0 = 0 := rfl
  have e1 : upBy 1 = 24 := rfl
  have e2 : upBy 2 = 16 := rfl
  have e3 : upBy 3 = 8 := rfl
  unfold mixW
  simp only [mixTo, e0, e1, e2, e3]
  rw [UInt32.zero_xor, rot_b0, rot_b24, rot_b16, rot_b8]
  simp only [spr, wb0_mk, wb1_mk, wb2_mk, wb3_mk, mkW_xor]
/-- one byte of a column, multiplied by a row that is turned on, its first k products. -/
def colTo (r : Nat → UInt8) (x : UInt32) (i : Nat) : Nat → UInt8
  | 0 => 0
  | k + 1 => colTo r x i k ^^^ mul (r ((k + 4 - i) % 4)) (wb x k)
theorem col_mix (r f : Nat → UInt8) (x : UInt32) (h0 : f 0 = r 0) (h1 : f 1 = r 3) (h2 : f 2 = r 2) (h3 : f 3 = r 1) :
    mkW (colTo r x 0 4) (colTo r x 1 4) (colTo r x 2 4) (colTo r x 3 4) = mixW f x := by
  rw [mixW_bytes, h0, h1, h2, h3]
  simp only [colTo, Nat.zero_add, Nat.reduceAdd, Nat.reduceSub, Nat.reduceMod, zero_x]
/-- the factors of the words for the other way, and the row of them. -/
def unF : Nat → UInt8
  | 0 => 14
  | 1 => 9
  | 2 => 13
  | _ => 11
def unR : Nat → UInt8
  | 0 => 14
  | 1 => 11
  | 2 => 13
  | _ => 9
theorem unmix_f (x : UInt32) : mixW unF x = unmixW x := by
  rw [mixW_bytes]; rfl
theorem unmix_r (x : UInt32) : mkW (colTo unR x 0 4) (colTo unR x 1 4) (colTo unR x 2 4) (colTo unR x 3 4) = unmixW x := by
  rw [col_mix unR unF x rfl rfl rfl rfl, unmix_f]
theorem uw_out (s : ByteArray) (n i : Nat) (h : ¬ (4 ≤ i ∧ i < kL n - 4)) : uw s n i = ew s n i := if_neg h
theorem uw_in (s : ByteArray) (n i : Nat) (h : 4 ≤ i ∧ i < kL n - 4) : uw s n i = unmixW (ew s n i) := if_pos h
theorem rowTo_start {α : Type} (f h : Nat → α) (m k : Nat) (e : ∀ j, j < k → f j = h j) : rowTo f h m k = upTo h m := by
  unfold rowTo upTo
  apply List.map_congr_left
  intro i hi
  by_cases hk : i < k
  · rw [if_pos hk, e i hk]
  · rw [if_neg hk]
theorem rowTo_end {α : Type} (f h : Nat → α) (m k : Nat) (e : ∀ j, k ≤ j → j < m → f j = h j) : rowTo f h m k = upTo f m := by
  unfold rowTo upTo
  apply List.map_congr_left
  intro i hi
  by_cases hk : i < k
  · rw [if_pos hk]
  · rw [if_neg hk, e i (by omega) (List.mem_range.1 hi)]
end Go.Proofs.YtbgjeipgmlcgaaaDoor
