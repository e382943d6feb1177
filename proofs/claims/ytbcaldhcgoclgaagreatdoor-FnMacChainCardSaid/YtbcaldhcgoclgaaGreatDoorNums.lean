/-
  Contracts and facts that the laws of this seat use: NumMath, PadMath, WideMath.
-/
import Derived.Test.YtbcaldhcgoclgaaGreatDoorPure
set_option linter.unusedVariables false
set_option linter.unusedSimpArgs false
namespace Go.Proofs.YtbcaldhcgoclgaaGreatDoor
open Go Go.RowKit

/-- the number that the first k bytes are. -/
def numTo (f : Nat → UInt8) : Nat → Nat
  | 0 => 0
  | k + 1 => numTo f k * 256 + (f k).toNat
/-- a block as a number. -/
def numB (f : Nat → UInt8) : Nat := numTo f 16
/-- byte i of a number of 16 bytes. -/
def digB (N i : Nat) : UInt8 := UInt8.ofNat (N / 256 ^ (15 - i) % 256)
theorem numTo_lt (f : Nat → UInt8) : ∀ k, numTo f k < 256 ^ k
  | 0 => by show (0 : Nat) < 256 ^ 0; decide
  | k + 1 => by
    have h := numTo_lt f k
    have hb := (f k).toNat_lt
    rw [numTo, Nat.pow_succ]
    omega
theorem numTo_ext {f g : Nat → UInt8} : ∀ k, (∀ i, i < k → f i = g i) → numTo f k = numTo g k
  | 0, _ => rfl
  | k + 1, h => by rw [numTo, numTo, numTo_ext k fun i hi => h i (by omega), h k (by omega)]
/-- a byte out of a number. -/
theorem numTo_dig (f : Nat → UInt8) : ∀ k j, j < k → numTo f k / 256 ^ j % 256 = (f (k - 1 - j)).toNat
  | 0, j, h => absurd h (by omega)
  | k + 1, 0, _ => by
    have hb := (f k).toNat_lt
    rw [numTo, Nat.pow_zero, Nat.div_one]
    show (numTo f k * 256 + (f k).toNat) % 256 = (f (k + 1 - 1 - 0)).toNat
    rw [show k + 1 - 1 - 0 = k by omega]
    omega
  | k + 1, j + 1, h => by
    have hb := (f k).toNat_lt
    have ih := numTo_dig f k j (by omega)
    have e : (numTo f k * 256 + (f k).toNat) / 256 ^ (j + 1) = numTo f k / 256 ^ j := by
      rw [Nat.pow_succ, Nat.mul_comm (256 ^ j) 256, ← Nat.div_div_eq_div_mul]
      congr 1
      omega
    rw [numTo, e, ih]
    congr 2
    omega
theorem digB_toNat (N i : Nat) : (digB N i).toNat = N / 256 ^ (15 - i) % 256 := by
  unfold digB
  rw [UInt8.toNat_ofNat', Nat.mod_eq_of_lt]
  exact Nat.mod_lt _ (by omega)
theorem dig_num (f : Nat → UInt8) (i : Nat) (hi : i < 16) : digB (numB f) i = f i := by
  apply UInt8.toNat_inj.1
  rw [digB_toNat]
  have h := numTo_dig f 16 (15 - i) (by omega)
  rw [show 16 - 1 - (15 - i) = i by omega] at h
  exact h
theorem numTo_digs (N : Nat) : ∀ k, k ≤ 16 → numTo (digB N) k = N / 256 ^ (16 - k) % 256 ^ k
  | 0, _ => by rw [Nat.pow_zero, Nat.mod_one]; rfl
  | k + 1, h => by
    rw [numTo, numTo_digs N k (by omega), digB_toNat]
    have e1 : 16 - k = (15 - k) + 1 := by omega
    have e2 : 16 - (k + 1) = 15 - k := by omega
    rw [e1, e2, Nat.pow_succ 256 (15 - k), ← Nat.div_div_eq_div_mul]
    generalize N / 256 ^ (15 - k) = M
    rw [Nat.pow_succ, Nat.mul_comm (256 ^ k) 256, Nat.mod_mul]
    omega
theorem num_dig (N : Nat) : numB (digB N) = N % 256 ^ 16 := by
  have h := numTo_digs N 16 (Nat.le_refl _)
  rw [Nat.sub_self, Nat.pow_zero, Nat.div_one] at h
  exact h
theorem digB_mod (N i : Nat) (hi : i < 16) : digB (N % 256 ^ 16) i = digB N i := by
  rw [← num_dig N, dig_num _ i hi]
theorem numB_lt (f : Nat → UInt8) : numB f < 256 ^ 16 := numTo_lt f 16
theorem numB_inj {f g : Nat → UInt8} (h : numB f = numB g) (i : Nat) (hi : i < 16) : f i = g i := by rw [← dig_num f i hi, h, dig_num g i hi]
/-! ### sums, byte by byte from the lowest -/
/-- what is carried into byte j of the sum of A and n. -/
def carB (A n j : Nat) : Nat := (A % 256 ^ j + n % 256 ^ j) / 256 ^ j
theorem car_0 (A n : Nat) : carB A n 0 = 0 := by unfold carB; simp [Nat.mod_one]
theorem mod_up (A j : Nat) : A % 256 ^ (j + 1) = A % 256 ^ j + 256 ^ j * (A / 256 ^ j % 256) := by rw [Nat.pow_succ, Nat.mod_mul]
theorem car_up (A n j : Nat) : carB A n (j + 1) = (n / 256 ^ j % 256 + A / 256 ^ j % 256 + carB A n j) / 256 := by
  unfold carB
  have hp : 0 < 256 ^ j := Nat.pow_pos (by omega)
  rw [mod_up A j, mod_up n j, Nat.pow_succ, ← Nat.div_div_eq_div_mul]
  congr 1
  have e : A % 256 ^ j + 256 ^ j * (A / 256 ^ j % 256) + (n % 256 ^ j + 256 ^ j * (n / 256 ^ j % 256)) = (A % 256 ^ j + n % 256 ^ j) + 256 ^ j * (n / 256 ^ j % 256 + A / 256 ^ j % 256) := by
    rw [Nat.mul_add]; omega
  rw [e, Nat.add_mul_div_left _ _ hp]
  omega
theorem sum_dig (A n j : Nat) : (A + n) / 256 ^ j % 256 = (n / 256 ^ j % 256 + A / 256 ^ j % 256 + carB A n j) % 256 := by
  unfold carB
  have hp : 0 < 256 ^ j := Nat.pow_pos (by omega)
  have eA := Nat.div_add_mod A (256 ^ j)
  have en := Nat.div_add_mod n (256 ^ j)
  have e : A + n = (A % 256 ^ j + n % 256 ^ j) + 256 ^ j * (A / 256 ^ j + n / 256 ^ j) := by
    rw [Nat.mul_add]; omega
  rw [e, Nat.add_mul_div_left _ _ hp]
  omega
theorem car_le (A n j : Nat) : carB A n j ≤ 1 := by
  unfold carB
  have hp : 0 < 256 ^ j := Nat.pow_pos (by omega)
  have h1 := Nat.mod_lt A hp
  have h2 := Nat.mod_lt n hp
  have : (A % 256 ^ j + n % 256 ^ j) / 256 ^ j < 2 := by
    rw [Nat.div_lt_iff_lt_mul hp]; omega
  omega
/-- Count as the document tells it. -/
def cntT (block : ByteArray) (n : Nat) : ByteArray := txt (digB (numB (byteOf block) + n)) 16
theorem cntT_size (block : ByteArray) (n : Nat) : (cntT block n).size = 16 := txt_size _ _
theorem cnt_num (block : ByteArray) (n : Nat) : numB (byteOf (cntT block n)) = (numB (byteOf block) + n) % 256 ^ 16 := by
  rw [← num_dig]
  exact numTo_ext 16 fun i hi => txt_byte _ _ _ hi
theorem cntT_cnt (block : ByteArray) (m n : Nat) : cntT (cntT block m) n = cntT block (m + n) := by
  refine txt_ext _ _ 16 fun i hi => ?_
  rw [cnt_num, ← digB_mod _ i hi, Nat.mod_add_mod, ← Nat.add_assoc, digB_mod _ i hi]
theorem cntT_comm (block : ByteArray) (m n : Nat) : cntT (cntT block m) n = cntT (cntT block n) m := by rw [cntT_cnt, cntT_cnt, Nat.add_comm]
theorem cntT_0 (block : ByteArray) (h : block.size = 16) : cntT block 0 = block := by
  refine Eq.trans (txt_ext _ (byteOf block) 16 fun i hi => ?_) (txt_own block 16 h)
  rw [Nat.add_zero, dig_num _ i hi]
theorem cntT_eq (block : ByteArray) (h : block.size = 16) (n : Nat) (hn : n < 256 ^ 16) : cntT block n = block ↔ n = 0 := by
  constructor
  · intro e
    have h1 := cnt_num block n
    rw [e] at h1
    have h2 := numB_lt (byteOf block)
    by_cases h3 : numB (byteOf block) + n < 256 ^ 16
    · rw [Nat.mod_eq_of_lt h3] at h1; omega
    · have h4 : (numB (byteOf block) + n) % 256 ^ 16 = numB (byteOf block) + n - 256 ^ 16 := by
        rw [Nat.mod_eq_sub_mod (by omega), Nat.mod_eq_of_lt (by omega)]
      rw [h4] at h1; omega
  · rintro rfl; exact cntT_0 block h
/-! ### moved one place up -/
/-- the highest bit of a byte. -/
def top8 (x : UInt8) : UInt8 := x >>> 7
def dblF (f : Nat → UInt8) (i : Nat) : UInt8 := if i < 15 then (f i <<< 1) ^^^ top8 (f (i + 1)) else (f 15 <<< 1) ^^^ (if top8 (f 0) = 1 then 135 else 0)
/-- Doubled as the document tells it. -/
def dblT (block : ByteArray) : ByteArray := txt (dblF (byteOf block)) 16
theorem dblT_size (block : ByteArray) : (dblT block).size = 16 := txt_size _ _
theorem top8_01 (x : UInt8) : top8 x = 0 ∨ top8 x = 1 := by
  have h : ∀ n : Fin 256, top8 (UInt8.ofNat n.val) = 0 ∨ top8 (UInt8.ofNat n.val) = 1 := by decide +kernel
  have := h ⟨x.toNat, x.toNat_lt⟩
  simpa using this
theorem top8_x (x y : UInt8) : top8 (x ^^^ y) = top8 x ^^^ top8 y := by unfold top8; rw [UInt8.shiftRight_xor]
theorem top8_128 (x : UInt8) : top8 x = 1 ↔ 128 ≤ x.toNat := by
  have h : ∀ n : Fin 256, top8 (UInt8.ofNat n.val) = 1 ↔ 128 ≤ n.val := by decide +kernel
  have := h ⟨x.toNat, x.toNat_lt⟩
  simpa using this
theorem top8_pick (x y : UInt8) : (if top8 (x ^^^ y) = 1 then (135 : UInt8) else 0) = (if top8 x = 1 then 135 else 0) ^^^ (if top8 y = 1 then 135 else 0) := by
  rw [top8_x]
  rcases top8_01 x with h | h <;> rcases top8_01 y with h2 | h2 <;> rw [h, h2] <;> decide
theorem x4 (a b c d : UInt8) : (a ^^^ b) ^^^ (c ^^^ d) = (a ^^^ c) ^^^ (b ^^^ d) := by
  rw [UInt8.xor_assoc, UInt8.xor_assoc]
  congr 1
  rw [← UInt8.xor_assoc, ← UInt8.xor_assoc, UInt8.xor_comm b c]
theorem dblF_x (f g : Nat → UInt8) (i : Nat) : dblF (fun i => f i ^^^ g i) i = dblF f i ^^^ dblF g i := by
  unfold dblF
  by_cases h : i < 15
  · rw [if_pos h, if_pos h, if_pos h, UInt8.shiftLeft_xor, top8_x, x4]
  · rw [if_neg h, if_neg h, if_neg h, UInt8.shiftLeft_xor, top8_pick, x4]
theorem dblF_ext {f g : Nat → UInt8} (h : ∀ i, i < 16 → f i = g i) (i : Nat) (hi : i < 16) : dblF f i = dblF g i := by
  unfold dblF
  by_cases h2 : i < 15
  · rw [if_pos h2, if_pos h2, h i hi, h (i + 1) (by omega)]
  · rw [if_neg h2, if_neg h2, h 15 (by omega), h 0 (by omega)]
theorem dblT_x (a b : ByteArray) : dblT (xorS a b) = xorS (dblT a) (dblT b) := by
  refine txt_ext _ _ 16 fun i hi => ?_
  show dblF (byteOf (xorS a b)) i = byteOf (dblT a) i ^^^ byteOf (dblT b) i
  rw [dblF_ext (g := fun i => byteOf a i ^^^ byteOf b i) (fun i hi => xorS_byte a b i hi) i hi, dblF_x]
  unfold dblT
  rw [txt_byte _ _ _ hi, txt_byte _ _ _ hi]
/-- the lowest bit of what is doubled tells of the highest one of what was. -/
theorem dbl_low (f : Nat → UInt8) : dblF f 15 &&& 1 = top8 (f 0) := by
  have h : ∀ n : Fin 256, ((UInt8.ofNat n.val <<< 1) ^^^ 0) &&& 1 = 0 ∧ ((UInt8.ofNat n.val <<< 1) ^^^ 135) &&& 1 = 1 := by decide +kernel
  have h1 := h ⟨(f 15).toNat, (f 15).toNat_lt⟩
  simp only [UInt8.ofNat_toNat] at h1
  unfold dblF
  rw [if_neg (by omega)]
  rcases top8_01 (f 0) with h2 | h2
  · rw [h2]; exact h1.1
  · rw [h2]; exact h1.2
/-- a byte moved up, and what comes in from below: or and exclusive or are the same. -/
theorem up_or (x y : UInt8) : (x <<< 1) ||| top8 y = (x <<< 1) ^^^ top8 y := by
  have h : ∀ n : Fin 256, (UInt8.ofNat n.val <<< 1) ||| (0 : UInt8) = (UInt8.ofNat n.val <<< 1) ^^^ 0 ∧ (UInt8.ofNat n.val <<< 1) ||| (1 : UInt8) = (UInt8.ofNat n.val <<< 1) ^^^ 1 := by decide +kernel
  have h1 := h ⟨x.toNat, x.toNat_lt⟩
  simp only [UInt8.ofNat_toNat] at h1
  rcases top8_01 y with h2 | h2
  · rw [h2]; exact h1.1
  · rw [h2]; exact h1.2
end Go.Proofs.YtbcaldhcgoclgaaGreatDoor
set_option linter.unusedVariables false
set_option linter.unusedSimpArgs false
namespace Go.Proofs.YtbcaldhcgoclgaaGreatDoor
open Go Go.RowKit

theorem bo_app (a b : ByteArray) (i : Nat) : byteOf (a ++ b) i = if i < a.size then byteOf a i else byteOf b (i - a.size) := by
  have hl : a.data.toList.length = a.size := by simp
  unfold byteOf
  rw [ByteArray.data_append, Array.toList_append, List.getD_eq_getElem?_getD, List.getElem?_append, hl]
  by_cases h : i < a.size
  · rw [if_pos h, if_pos h, List.getD_eq_getElem?_getD]
  · rw [if_neg h, if_neg h, List.getD_eq_getElem?_getD]
/-- as many bytes as there lack to a whole block. -/
def padN (s : ByteArray) : Nat := 16 - s.size % 16
theorem padN_in (s : ByteArray) : 1 ≤ padN s ∧ padN s ≤ 16 := by unfold padN; omega
def padT (s : ByteArray) : ByteArray := s ++ txt (fun _ => UInt8.ofNat (padN s)) (padN s)
theorem padT_size (s : ByteArray) : (padT s).size = s.size + padN s := by unfold padT; rw [ByteArray.size_append, txt_size]
theorem padT_whole (s : ByteArray) : (padT s).size % 16 = 0 := by rw [padT_size]; unfold padN; omega
theorem padT_lo (s : ByteArray) (i : Nat) (h : i < s.size) : byteOf (padT s) i = byteOf s i := by unfold padT; rw [bo_app, if_pos h]
theorem padT_hi (s : ByteArray) (i : Nat) (h1 : s.size ≤ i) (h2 : i < s.size + padN s) : byteOf (padT s) i = UInt8.ofNat (padN s) := by
  unfold padT; rw [bo_app, if_neg (by omega), txt_byte _ _ _ (by omega)]
/-- the last byte of a text as a number. -/
def lastN (t : ByteArray) : Nat := (byteOf t (t.size - 1)).toNat
theorem lastN_lt (t : ByteArray) : lastN t < 256 := UInt8.toNat_lt _
theorem lastN_pad (s : ByteArray) : lastN (padT s) = padN s := by
  have h := padN_in s
  unfold lastN
  rw [padT_size, padT_hi s _ (by omega) (by omega), UInt8.toNat_ofNat', Nat.mod_eq_of_lt (by omega)]
/-- the head of a text. -/
theorem head_size (t : ByteArray) (k : Nat) (h : k ≤ t.size) : (t.extract 0 k).size = k := by rw [ByteArray.size_extract]; omega
theorem head_byte (t : ByteArray) (k i : Nat) (h : k ≤ t.size) (hi : i < k) : byteOf (t.extract 0 k) i = byteOf t i := by
  rw [← byteOf_at _ _ (by rw [head_size t k h]; exact hi), ByteArray.getElem_extract, byteOf_at, Nat.zero_add]
theorem head_pad (s : ByteArray) : (padT s).extract 0 s.size = s := by
  refine b_ext _ _ s.size (head_size _ _ (by rw [padT_size]; omega)) rfl fun i hi => ?_
  rw [head_byte _ _ _ (by rw [padT_size]; omega) hi, padT_lo s i hi]
/-- there is a text whose padding this one is. -/
def unOk (t : ByteArray) : Prop := 0 < t.size ∧ lastN t ≤ t.size ∧ padT (t.extract 0 (t.size - lastN t)) = t
instance (t : ByteArray) : Decidable (unOk t) := by unfold unOk; exact inferInstance
def unpT (t : ByteArray) : ByteArray := if unOk t then t.extract 0 (t.size - lastN t) else ⟨#[]⟩
theorem unpT_yes (t : ByteArray) (h : unOk t) : unpT t = t.extract 0 (t.size - lastN t) := if_pos h
theorem unpT_no (t : ByteArray) (h : ¬ unOk t) : unpT t = ⟨#[]⟩ := if_neg h
theorem un_pad_head (s : ByteArray) : (padT s).extract 0 ((padT s).size - lastN (padT s)) = s := by
  rw [lastN_pad, padT_size, Nat.add_sub_cancel, head_pad]
theorem un_pad_ok (s : ByteArray) : unOk (padT s) := by
  have h := padN_in s
  refine ⟨by rw [padT_size]; omega, by rw [lastN_pad, padT_size]; omega, by rw [un_pad_head]⟩
theorem un_pad (s : ByteArray) : unpT (padT s) = s := by rw [unpT_yes _ (un_pad_ok s), un_pad_head]
theorem pad_un (t : ByteArray) (h : unOk t) : padT (unpT t) = t := by rw [unpT_yes t h]; exact h.2.2
theorem padT_inj (s t : ByteArray) (h : padT s = padT t) : s = t := by rw [← un_pad s, h, un_pad t]
/-- .. told by its bytes. -/
theorem unOk_iff (t : ByteArray) : unOk t ↔ 0 < t.size ∧ t.size % 16 = 0 ∧ 1 ≤ lastN t ∧ lastN t ≤ 16 ∧ ∀ i, t.size - lastN t ≤ i → i < t.size → byteOf t i = byteOf t (t.size - 1) := by
  constructor
  · intro h
    obtain ⟨h0, h1, h2⟩ := h
    generalize hu : t.extract 0 (t.size - lastN t) = u at h2
    have hp := padN_in u
    have hl := lastN_pad u
    have hz := padT_size u
    have hw := padT_whole u
    rw [h2] at hl hz hw
    refine ⟨h0, hw, by omega, by omega, fun i h3 h4 => ?_⟩
    have e : ∀ i, u.size ≤ i → i < u.size + padN u → byteOf t i = UInt8.ofNat (padN u) := fun i h5 h6 => by
      have := padT_hi u i h5 h6
      rwa [h2] at this
    rw [e i (by omega) (by omega), e (t.size - 1) (by omega) (by omega)]
  · rintro ⟨h0, h1, h2, h3, h4⟩
    have hk : lastN t ≤ t.size := by omega
    refine ⟨h0, hk, ?_⟩
    have hs := head_size t (t.size - lastN t) (by omega)
    have hn : padN (t.extract 0 (t.size - lastN t)) = lastN t := by unfold padN; rw [hs]; omega
    refine b_ext _ _ t.size (by rw [padT_size, hs, hn]; omega) rfl fun i hi => ?_
    by_cases hlo : i < t.size - lastN t
    · rw [padT_lo _ i (by rw [hs]; exact hlo), head_byte t _ i (by omega) hlo]
    · rw [padT_hi _ i (by rw [hs]; omega) (by rw [hs, hn]; omega), hn, h4 i (by omega) hi]
      unfold lastN
      rw [UInt8.ofNat_toNat]
theorem unOk_not_whole (t : ByteArray) (h : ¬ t.size % 16 = 0) : ¬ unOk t := fun h2 => h ((unOk_iff t).1 h2).2.1
theorem unOk_not_last (t : ByteArray) (h : ¬ (1 ≤ lastN t ∧ lastN t ≤ 16)) : ¬ unOk t := fun h2 => h ⟨((unOk_iff t).1 h2).2.2.1, ((unOk_iff t).1 h2).2.2.2.1⟩
end Go.Proofs.YtbcaldhcgoclgaaGreatDoor
set_option linter.unusedVariables false
set_option linter.unusedSimpArgs false
namespace Go.Proofs.YtbcaldhcgoclgaaGreatDoor
open Go Go.RowKit

/-- the words of two halves. -/
def halW (h l : Nat) : Nat → UInt32
  | 0 => w32 ((h / 4294967296 : Nat) : Int)
  | 1 => w32 (h : Int)
  | 2 => w32 ((l / 4294967296 : Nat) : Int)
  | _ => w32 (l : Int)
theorem w32_nat (x : Nat) : (w32 (x : Int)).toNat = x % 4294967296 := by have := w32_val (x : Int); omega
theorem halW_0 (h l : Nat) (hh : h < 18446744073709551616) : ((halW h l 0).toNat : Int) = (h : Int) / 4294967296 := by
  show ((w32 _).toNat : Int) = _
  rw [w32_nat]; omega
theorem halW_1 (h l : Nat) : ((halW h l 1).toNat : Int) = (h : Int) % 4294967296 := by
  show ((w32 _).toNat : Int) = _
  rw [w32_nat]; omega
theorem halW_2 (h l : Nat) (hl : l < 18446744073709551616) : ((halW h l 2).toNat : Int) = (l : Int) / 4294967296 := by
  show ((w32 _).toNat : Int) = _
  rw [w32_nat]; omega
theorem halW_3 (h l : Nat) : ((halW h l 3).toNat : Int) = (l : Int) % 4294967296 := by
  show ((w32 _).toNat : Int) = _
  rw [w32_nat]; omega
/-- two words as a half. -/
def hlfN (s : ByteArray) (j : Nat) : Nat := (colW s j).toNat * 4294967296 + (colW s (j + 1)).toNat
theorem hlfN_lt (s : ByteArray) (j : Nat) : hlfN s j < 18446744073709551616 := by
  have h1 := w32_lt (colW s j)
  have h2 := w32_lt (colW s (j + 1))
  unfold hlfN; omega
theorem numB_hlf (s : ByteArray) : numB (byteOf s) = hlfN s 0 * 18446744073709551616 + hlfN s 2 := by
  unfold hlfN colW getW
  simp only [mkW_nat, numB, numTo, Nat.reduceMul, Nat.reduceAdd]
  omega
theorem hlf_hi (s : ByteArray) : hlfN s 0 = numB (byteOf s) / 18446744073709551616 := by have := hlfN_lt s 2; have := numB_hlf s; omega
theorem hlf_lo (s : ByteArray) : hlfN s 2 = numB (byteOf s) % 18446744073709551616 := by have := hlfN_lt s 2; have := numB_hlf s; omega
/-- what two halves are written as. -/
theorem hal_txt (h l : Nat) (hh : h < 18446744073709551616) (hl : l < 18446744073709551616) : ofW (halW h l) = txt (digB (h * 18446744073709551616 + l)) 16 := by
  refine txt_ext _ _ 16 fun i hi => ?_
  apply UInt8.toNat_inj.1
  rw [digB_toNat]
  have h16 : i = 0 ∨ i = 1 ∨ i = 2 ∨ i = 3 ∨ i = 4 ∨ i = 5 ∨ i = 6 ∨ i = 7 ∨ i = 8 ∨ i = 9 ∨ i = 10 ∨ i = 11 ∨ i = 12 ∨ i = 13 ∨ i = 14 ∨ i = 15 := by omega
  rcases h16 with rfl | rfl | rfl | rfl | rfl | rfl | rfl | rfl | rfl | rfl | rfl | rfl | rfl | rfl | rfl | rfl <;>
    simp only [Nat.reduceDiv, Nat.reduceMod, Nat.reduceSub, Nat.reducePow, halW, wb0, wb1, wb2, wb3, w32_nat] <;> omega
/-- counted up by halves. -/
theorem cnt_hal (s : ByteArray) (n : Nat) (hn : n < 18446744073709551616) :
    ofW (halW ((hlfN s 0 + (hlfN s 2 + n) / 18446744073709551616) % 18446744073709551616) ((hlfN s 2 + n) % 18446744073709551616)) = cntT s n := by
  rw [hal_txt _ _ (Nat.mod_lt _ (by omega)) (Nat.mod_lt _ (by omega))]
  unfold cntT
  refine txt_ext _ _ 16 fun i hi => ?_
  rw [← digB_mod (numB (byteOf s) + n) i hi, numB_hlf]
  have h0 := hlfN_lt s 0
  have h2 := hlfN_lt s 2
  congr 1
  rw [show (256 : Nat) ^ 16 = 340282366920938463463374607431768211456 by rfl]
  omega
/-! ### doubled -/
theorem dig_dbl (N j : Nat) (hj : 1 ≤ j) : 2 * N / 256 ^ j % 256 = (2 * (N / 256 ^ j % 256) + N / 256 ^ (j - 1) % 256 / 128) % 256 := by
  obtain ⟨k, rfl⟩ : ∃ k, j = k + 1 := ⟨j - 1, by omega⟩
  rw [Nat.add_sub_cancel, Nat.pow_succ, ← Nat.div_div_eq_div_mul, ← Nat.div_div_eq_div_mul]
  have hp : 0 < 256 ^ k := Nat.pow_pos (by omega)
  generalize 256 ^ k = P at *
  have e : 2 * N / P = 2 * (N / P) + 2 * (N % P) / P := by
    have h := Nat.div_add_mod N P
    have h2 : 2 * N = 2 * (N % P) + P * (2 * (N / P)) := by
      rw [← Nat.mul_assoc, Nat.mul_comm P 2, Nat.mul_assoc]
      omega
    rw [h2, Nat.add_mul_div_left _ _ hp]; omega
  have h1 : 2 * (N % P) / P < 2 := by
    rw [Nat.div_lt_iff_lt_mul hp]
    have := Nat.mod_lt N hp
    omega
  rw [e]
  generalize N / P = M at *
  generalize 2 * (N % P) / P = x at *
  omega
theorem xor_low (x c : Nat) (hc : c < 256) : x ^^^ c = 256 * (x / 256) + (x % 256 ^^^ c) := by
  have h1 : (x ^^^ c) / 2 ^ 8 = x / 2 ^ 8 ^^^ c / 2 ^ 8 := Nat.xor_div_two_pow
  have h2 : (x ^^^ c) % 2 ^ 8 = x % 2 ^ 8 ^^^ c % 2 ^ 8 := Nat.xor_mod_two_pow
  simp only [Nat.reducePow] at h1 h2
  rw [Nat.div_eq_of_lt hc, Nat.xor_zero] at h1
  rw [Nat.mod_eq_of_lt hc] at h2
  have := Nat.div_add_mod (x ^^^ c) 256
  omega
theorem xor_low_lt (x c : Nat) (hc : c < 256) : x % 256 ^^^ c < 256 := Nat.xor_lt_two_pow (n := 8) (by omega) (by omega)
theorem shl1_nat (x : UInt8) : (x <<< 1).toNat = 2 * x.toNat % 256 := by
  have h : ∀ n : Fin 256, (UInt8.ofNat n.val <<< 1).toNat = 2 * n.val % 256 := by decide +kernel
  have := h ⟨x.toNat, x.toNat_lt⟩
  simpa using this
theorem top8_nat (x : UInt8) : (top8 x).toNat = x.toNat / 128 := by
  have h : ∀ n : Fin 256, (top8 (UInt8.ofNat n.val)).toNat = n.val / 128 := by decide +kernel
  have := h ⟨x.toNat, x.toNat_lt⟩
  simpa using this
theorem up_nat (x y : UInt8) : ((x <<< 1) ^^^ top8 y).toNat = (2 * x.toNat + y.toNat / 128) % 256 := by
  have h : ∀ n : Fin 256, ((UInt8.ofNat n.val <<< 1) ^^^ (0 : UInt8)).toNat = (2 * n.val + 0) % 256 ∧ ((UInt8.ofNat n.val <<< 1) ^^^ (1 : UInt8)).toNat = (2 * n.val + 1) % 256 := by decide +kernel
  have h1 := h ⟨x.toNat, x.toNat_lt⟩
  simp only [UInt8.ofNat_toNat] at h1
  have hy := top8_nat y
  rcases top8_01 y with h2 | h2
  · rw [h2] at hy ⊢; rw [h1.1, ← hy]; rfl
  · rw [h2] at hy ⊢; rw [h1.2, ← hy]; rfl
theorem dbl_dig (f : Nat → UInt8) (i : Nat) (hi : i < 15) : 2 * numB f / 256 ^ (15 - i) % 256 = (dblF f i).toNat := by
  have h1 := congrArg UInt8.toNat (dig_num f i (by omega))
  have h2 := congrArg UInt8.toNat (dig_num f (i + 1) (by omega))
  rw [digB_toNat] at h1 h2
  rw [dig_dbl _ _ (by omega), show 15 - i - 1 = 15 - (i + 1) by omega, h1, h2]
  unfold dblF
  rw [if_pos hi, up_nat]
theorem dbl_dig15 (f : Nat → UInt8) : 2 * numB f % 256 = ((f 15) <<< 1).toNat := by
  have h1 := congrArg UInt8.toNat (dig_num f 15 (by omega))
  rw [digB_toNat] at h1
  simp only [Nat.sub_self, Nat.pow_zero, Nat.div_one] at h1
  rw [shl1_nat, ← h1]; omega
theorem dbl_top (f : Nat → UInt8) : (if top8 (f 0) = 1 then (135 : UInt8) else 0).toNat = numB f / 170141183460469231731687303715884105728 * 135 := by
  have h1 := congrArg UInt8.toNat (dig_num f 0 (by omega))
  rw [digB_toNat] at h1
  have h2 := numB_lt f
  simp only [Nat.sub_zero, Nat.reducePow] at h1 h2
  have h3 := top8_nat (f 0)
  rcases top8_01 (f 0) with h4 | h4
  · rw [if_neg (by rw [h4]; decide)]
    rw [h4] at h3
    have h5 : (f 0).toNat / 128 = 0 := h3.symm
    have : numB f / 170141183460469231731687303715884105728 = 0 := by omega
    rw [this]; rfl
  · rw [if_pos h4]
    rw [h4] at h3
    have h5 : (f 0).toNat / 128 = 1 := h3.symm
    have : numB f / 170141183460469231731687303715884105728 = 1 := by omega
    rw [this]; rfl
/-- doubled by halves. -/
theorem dbl_hal (s : ByteArray) :
    ofW (halW (hlfN s 0 * 2 % 18446744073709551616 + hlfN s 2 / 9223372036854775808) ((hlfN s 2 * 2 % 18446744073709551616) ^^^ (hlfN s 0 / 9223372036854775808 * 135))) = dblT s := by
  have h0 := hlfN_lt s 0
  have h2 := hlfN_lt s 2
  have hN := numB_hlf s
  have hc : hlfN s 0 / 9223372036854775808 * 135 = numB (byteOf s) / 170141183460469231731687303715884105728 * 135 := by rw [hN]; omega
  have hcl : numB (byteOf s) / 170141183460469231731687303715884105728 * 135 < 256 := by rw [hN]; omega
  have ht := dbl_top (byteOf s)
  rw [hc]
  generalize hC : numB (byteOf s) / 170141183460469231731687303715884105728 * 135 = C at *
  have hx := xor_low (hlfN s 2 * 2 % 18446744073709551616) C hcl
  have hxl := xor_low_lt (hlfN s 2 * 2 % 18446744073709551616) C hcl
  have hm8 : hlfN s 2 * 2 % 18446744073709551616 % 256 = 2 * numB (byteOf s) % 256 := by rw [hN]; omega
  rw [hm8, dbl_dig15] at hx hxl
  rw [hal_txt _ _ (by omega) (by rw [hx]; omega), hx]
  unfold dblT
  refine txt_ext _ _ 16 fun i hi => ?_
  apply UInt8.toNat_inj.1
  rw [digB_toNat]
  by_cases hi2 : i < 15
  · rw [← dbl_dig _ i hi2]
    generalize (byteOf s 15 <<< 1).toNat ^^^ C = y at *
    obtain ⟨k, hk⟩ : ∃ k, 15 - i = k + 1 := ⟨14 - i, by omega⟩
    have hk2 : k < 15 := by omega
    rw [hk, Nat.pow_succ, Nat.mul_comm (256 ^ k) 256, ← Nat.div_div_eq_div_mul, ← Nat.div_div_eq_div_mul]
    have e : ((hlfN s 0 * 2 % 18446744073709551616 + hlfN s 2 / 9223372036854775808) * 18446744073709551616 + (256 * (hlfN s 2 * 2 % 18446744073709551616 / 256) + y)) / 256 = 2 * numB (byteOf s) / 256 % 1329227995784915872903807060280344576 := by rw [hN]; omega
    rw [e]
    have e2 : (1329227995784915872903807060280344576 : Nat) = 256 ^ k * 256 ^ (15 - k) := by rw [← Nat.pow_add, show k + (15 - k) = 15 by omega]
    rw [e2, Nat.mod_mul_right_div_self]
    obtain ⟨m, hm⟩ : ∃ m, 15 - k = m + 1 := ⟨14 - k, by omega⟩
    rw [hm, Nat.pow_succ, Nat.mul_comm (256 ^ m) 256, Nat.mod_mul_right_mod]
  · obtain rfl : i = 15 := by omega
    rw [Nat.sub_self, Nat.pow_zero, Nat.div_one]
    unfold dblF
    rw [if_neg (by omega), UInt8.toNat_xor, ht]
    omega
end Go.Proofs.YtbcaldhcgoclgaaGreatDoor
