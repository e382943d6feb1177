/-
  Blocks as numbers of 128 bits, the highest byte first: sums, and what is moved one place up. No program.
-/
import Derived.Test.YtlmbgkcchekdmaaPure
set_option linter.unusedVariables false
set_option linter.unusedSimpArgs false
namespace Go.Proofs.Ytlmbgkcchekdmaa
open Go Go.RowKit

/-- the number that the first k bytes are. -/
def numTo (f : Nat → UInt8) : Nat → Nat
  | 0 => 0
  | k + 1 => numTo f k * 256 + (f k).toNat
/-- a block as a number. -/
def numB (f : Nat → UInt8) : Nat := numTo f 16
/-- byte i of a number of 16 bytes. -/
def digB (N i : Nat) : UInt8 := UInt8.ofNat (N / 256 ^ (15 - i) % 256)
theorem numTo_lt (f : Nat → UInt8) : ∀ k, numTo f k < 256 ^ k
  | 0 => by show (0 : Nat) < 256 ^ 0; decide
  | k + 1 => by
    have h := numTo_lt f k
    have hb := (f k).toNat_lt
    rw [numTo, Nat.pow_succ]
    omega
theorem numTo_ext {f g : Nat → UInt8} : ∀ k, (∀ i, i < k → f i = g i) → numTo f k = numTo g k
  | 0, _ => rfl
  | k + 1, h => by rw [numTo, numTo, numTo_ext k fun i hi => h i (by omega), h k (by omega)]
/-- a byte out of a number. -/
theorem numTo_dig (f : Nat → UInt8) : ∀ k j, j < k → numTo f k / 256 ^ j % 256 = (f (k - 1 - j)).toNat
  | 0, j, h => absurd h (by omega)
  | k + 1, 0, _ => by
    have hb := (f k).toNat_lt
    rw [numTo, Nat.pow_zero, Nat.div_one]
    show (numTo f k * 256 + (f k).toNat) % 256 = (f (k + 1 - 1 - 0)).toNat
    rw [show k + 1 - 1 - 0 = k by omega]
    omega
  | k + 1, j + 1, h => by
    have hb := (f k).toNat_lt
    have ih := numTo_dig f k j (by omega)
    have e : (numTo f k * 256 + (f k).toNat) / 256 ^ (j + 1) = numTo f k / 256 ^ j := by
      rw [Nat.pow_succ, Nat.mul_comm (256 ^ j) 256, ← Nat.div_div_eq_div_mul]
      congr 1
      omega
    rw [numTo, e, ih]
    congr 2
    omega
theorem digB_toNat (N i : Nat) : (digB N i).toNat = N / 256 ^ (15 - i) % 256 := by
  unfold digB
  rw [UInt8.toNat_ofNat', Nat.mod_eq_of_lt]
  exact Nat.mod_lt _ (by omega)
theorem dig_num (f : Nat → UInt8) (i : Nat) (hi : i < 16) : digB (numB f) i = f i := by
  apply UInt8.toNat_inj.1
  rw [digB_toNat]
  have h := numTo_dig f 16 (15 - i) (by omega)
  rw [show 16 - 1 - (15 - i) = i by omega] at h
  exact h
theorem numTo_digs (N : Nat) : ∀ k, k ≤ 16 → numTo (digB N) k = N / 256 ^ (16 - k) % 256 ^ k
  | 0, _ => by rw [Nat.pow_zero, Nat.mod_one]; rfl
  | k + 1, h => by
    rw [numTo, numTo_digs N k (by omega), digB_toNat]
    have e1 : 16 - k = (15 - k) + 1 := by omega
    have e2 : 16 - (k + 1) = 15 - k := by omega
    rw [e1, e2, Nat.pow_succ 256 (15 - k), ← Nat.div_div_eq_div_mul]
    generalize N / 256 ^ (15 - k) = M
    rw [Nat.pow_succ, Nat.mul_comm (256 ^ k) 256, Nat.mod_mul]
    omega
theorem num_dig (N : Nat) : numB (digB N) = N % 256 ^ 16 := by
  have h := numTo_digs N 16 (Nat.le_refl _)
  rw [Nat.sub_self, Nat.pow_zero, Nat.div_one] at h
  exact h
theorem digB_mod (N i : Nat) (hi : i < 16) : digB (N % 256 ^ 16) i = digB N i := by
  rw [← num_dig N, dig_num _ i hi]
theorem numB_lt (f : Nat → UInt8) : numB f < 256 ^ 16 := numTo_lt f 16
theorem numB_inj {f g : Nat → UInt8} (h : numB f = numB g) (i : Nat) (hi : i < 16) : f i = g i := by rw [← dig_num f i hi, h, dig_num g i hi]
/-! ### sums, byte by byte from the lowest -/
/-- what is carried into byte j of the sum of A and n. -/
def carB (A n j : Nat) : Nat := (A % 256 ^ j + n % 256 ^ j) / 256 ^ j
theorem car_0 (A n : Nat) : carB A n 0 = 0 := by unfold carB; simp [Nat.mod_one]
theorem mod_up (A j : Nat) : A % 256 ^ (j + 1) = A % 256 ^ j + 256 ^ j * (A / 256 ^ j % 256) := by rw [Nat.pow_succ, Nat.mod_mul]
theorem car_up (A n j : Nat) : carB A n (j + 1) = (n / 256 ^ j % 256 + A / 256 ^ j % 256 + carB A n j) / 256 := by
  unfold carB
  have hp : 0 < 256 ^ j := Nat.pow_pos (by omega)
  rw [mod_up A j, mod_up n j, Nat.pow_succ, ← Nat.div_div_eq_div_mul]
  congr 1
  have e : A % 256 ^ j + 256 ^ j * (A / 256 ^ j % 256) + (n % 256 ^ j + 256 ^ j * (n / 256 ^ j % 256)) = (A % 256 ^ j + n % 256 ^ j) + 256 ^ j * (n / 256 ^ j % 256 + A / 256 ^ j % 256) := by
    rw [Nat.mul_add]; omega
  rw [e, Nat.add_mul_div_left _ _ hp]
  omega
theorem sum_dig (A n j : Nat) : (A + n) / 256 ^ j % 256 = (n / 256 ^ j % 256 + A / 256 ^ j % 256 + carB A n j) % 256 := by
  unfold carB
  have hp : 0 < 256 ^ j := Nat.pow_pos (by omega)
  have eA := Nat.div_add_mod A (256 ^ j)
  have en := Nat.div_add_mod n (256 ^ j)
  have e : A + n = (A % 256 ^ j + n % 256 ^ j) + 256 ^ j * (A / 256 ^ j + n / 256 ^ j) := by
    rw [Nat.mul_add]; omega
  rw [e, Nat.add_mul_div_left _ _ hp]
  omega
theorem car_le (A n j : Nat) : carB A n j ≤ 1 := by
  unfold carB
  have hp : 0 < 256 ^ j := Nat.pow_pos (by omega)
  have h1 := Nat.mod_lt A hp
  have h2 := Nat.mod_lt n hp
  have : (A % 256 ^ j + n % 256 ^ j) / 256 ^ j < 2 := by
    rw [Nat.div_lt_iff_lt_mul hp]; omega
  omega
/-- Count as the document tells it. -/
def cntT (block : ByteArray) (n : Nat) : ByteArray := txt (digB (numB (byteOf block) + n)) 16
theorem cntT_size (block : ByteArray) (n : Nat) : (cntT block n).size = 16 := txt_size _ _
theorem cnt_num (block : ByteArray) (n : Nat) : numB (byteOf (cntT block n)) = (numB (byteOf block) + n) % 256 ^ 16 := by
  rw [← num_dig]
  exact numTo_ext 16 fun i hi => txt_byte _ _ _ hi
theorem cntT_cnt (block : ByteArray) (m n : Nat) : cntT (cntT block m) n = cntT block (m + n) := by
  refine txt_ext _ _ 16 fun i hi => ?_
  rw [cnt_num, ← digB_mod _ i hi, Nat.mod_add_mod, ← Nat.add_assoc, digB_mod _ i hi]
theorem cntT_comm (block : ByteArray) (m n : Nat) : cntT (cntT block m) n = cntT (cntT block n) m := by rw [cntT_cnt, cntT_cnt, Nat.add_comm]
theorem cntT_0 (block : ByteArray) (h : block.size = 16) : cntT block 0 = block := by
  refine Eq.trans (txt_ext _ (byteOf block) 16 fun i hi => ?_) (txt_own block 16 h)
  rw [Nat.add_zero, dig_num _ i hi]
theorem cntT_eq (block : ByteArray) (h : block.size = 16) (n : Nat) (hn : n < 256 ^ 16) : cntT block n = block ↔ n = 0 := by
  constructor
  · intro e
    have h1 := cnt_num block n
    rw [e] at h1
    have h2 := numB_lt (byteOf block)
    by_cases h3 : numB (byteOf block) + n < 256 ^ 16
    · rw [Nat.mod_eq_of_lt h3] at h1; omega
    · have h4 : (numB (byteOf block) + n) % 256 ^ 16 = numB (byteOf block) + n - 256 ^ 16 := by
        rw [Nat.mod_eq_sub_mod (by omega), Nat.mod_eq_of_lt (by omega)]
      rw [h4] at h1; omega
  · rintro rfl; exact cntT_0 block h
/-! ### moved one place up -/
/-- the highest bit of a byte. -/
def top8 (x : UInt8) : UInt8 := x >>> 7
def dblF (f : Nat → UInt8) (i : Nat) : UInt8 := if i < 15 then (f i <<< 1) ^^^ top8 (f (i + 1)) else (f 15 <<< 1) ^^^ (if top8 (f 0) = 1 then 135 else 0)
/-- Doubled as the document tells it. -/
def dblT (block : ByteArray) : ByteArray := txt (dblF (byteOf block)) 16
theorem dblT_size (block : ByteArray) : (dblT block).size = 16 := txt_size _ _
theorem top8_01 (x : UInt8) : top8 x = 0 ∨ top8 x = 1 := by
  have h : ∀ n : Fin 256, top8 (UInt8.ofNat n.val) = 0 ∨ top8 (UInt8.ofNat n.val) = 1 := by decide +kernel
  have := h ⟨x.toNat, x.toNat_lt⟩
  simpa using this
theorem top8_x (x y : UInt8) : top8 (x ^^^ y) = top8 x ^^^ top8 y := by unfold top8; rw [UInt8.shiftRight_xor]
theorem top8_128 (x : UInt8) : top8 x = 1 ↔ 128 ≤ x.toNat := by
  have h : ∀ n : Fin 256, top8 (UInt8.ofNat n.val) = 1 ↔ 128 ≤ n.val := by decide +kernel
  have := h ⟨x.toNat, x.toNat_lt⟩
  simpa using this
theorem top8_pick (x y : UInt8) : (if top8 (x ^^^ y) = 1 then (135 : UInt8) else 0) = (if top8 x = 1 then 135 else 0) ^^^ (if top8 y = 1 then 135 else 0) := by
  rw [top8_x]
  rcases top8_01 x with h | h <;> rcases top8_01 y with h2 | h2 <;> rw [h, h2] <;> decide
theorem x4 (a b c d : UInt8) : (a ^^^ b) ^^^ (c ^^^ d) = (a ^^^ c) ^^^ (b ^^^ d) := by
  rw [UInt8.xor_assoc, UInt8.xor_assoc]
  congr 1
  rw [← UInt8.xor_assoc, ← UInt8.xor_assoc, UInt8.xor_comm b c]
theorem dblF_x (f g : Nat → UInt8) (i : Nat) : dblF (fun i => f i ^^^ g i) i = dblF f i ^^^ dblF g i := by
  unfold dblF
  by_cases h : i < 15
  · rw [if_pos h, if_pos h, if_pos h, UInt8.shiftLeft_xor, top8_x, x4]
  · rw [if_neg h, if_neg h, if_neg h, UInt8.shiftLeft_xor, top8_pick, x4]
theorem dblF_ext {f g : Nat → UInt8} (h : ∀ i, i < 16 → f i = g i) (i : Nat) (hi : i < 16) : dblF f i = dblF g i := by
  unfold dblF
  by_cases h2 : i < 15
  · rw [if_pos h2, if_pos h2, h i hi, h (i + 1) (by omega)]
  · rw [if_neg h2, if_neg h2, h 15 (by omega), h 0 (by omega)]
theorem dblT_x (a b : ByteArray) : dblT (xorS a b) = xorS (dblT a) (dblT b) := by
  refine txt_ext _ _ 16 fun i hi => ?_
  show dblF (byteOf (xorS a b)) i = byteOf (dblT a) i ^^^ byteOf (dblT b) i
  rw [dblF_ext (g := fun i => byteOf a i ^^^ byteOf b i) (fun i hi => xorS_byte a b i hi) i hi, dblF_x]
  unfold dblT
  rw [txt_byte _ _ _ hi, txt_byte _ _ _ hi]
/-- the lowest bit of what is doubled tells of the highest one of what was. -/
theorem dbl_low (f : Nat → UInt8) : dblF f 15 &&& 1 = top8 (f 0) := by
  have h : ∀ n : Fin 256, ((UInt8.ofNat n.val <<< 1) ^^^ 0) &&& 1 = 0 ∧ ((UInt8.ofNat n.val <<< 1) ^^^ 135) &&& 1 = 1 := by decide +kernel
  have h1 := h ⟨(f 15).toNat, (f 15).toNat_lt⟩
  simp only [UInt8.ofNat_toNat] at h1
  unfold dblF
  rw [if_neg (by omega)]
  rcases top8_01 (f 0) with h2 | h2
  · rw [h2]; exact h1.1
  · rw [h2]; exact h1.2
/-- a byte moved up, and what comes in from below: or and exclusive or are the same. -/
theorem up_or (x y : UInt8) : (x <<< 1) ||| top8 y = (x <<< 1) ^^^ top8 y := by
  have h : ∀ n : Fin 256, (UInt8.ofNat n.val <<< 1) ||| (0 : UInt8) = (UInt8.ofNat n.val <<< 1) ^^^ 0 ∧ (UInt8.ofNat n.val <<< 1) ||| (1 : UInt8) = (UInt8.ofNat n.val <<< 1) ^^^ 1 := by decide +kernel
  have h1 := h ⟨x.toNat, x.toNat_lt⟩
  simp only [UInt8.ofNat_toNat] at h1
  rcases top8_01 y with h2 | h2
  · rw [h2]; exact h1.1
  · rw [h2]; exact h1.2
end Go.Proofs.Ytlmbgkcchekdmaa
