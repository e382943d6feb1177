/-
  Plain facts on four blocks one behind the other: rows and columns of 64 bytes, by runs and by blocks. No program.
-/
import Derived.Test.YtbbjcgnoialidaaDoorBitMath
import Derived.Test.YtbbjcgnoialidaaDoorPure
set_option linter.unusedVariables false
set_option linter.unusedSimpArgs false
namespace Go.Proofs.YtbbjcgnoialidaaDoor
open Go Go.RowKit

/-- block j of 64 bytes. -/
def blk (s : Nat → UInt8) (j : Nat) : ByteArray := txt (fun i => s (16 * j + i)) 16
theorem blk_size (s : Nat → UInt8) (j : Nat) : (blk s j).size = 16 := txt_size _ _
theorem blk_byte (s : Nat → UInt8) (j i : Nat) (h : i < 16) : byteOf (blk s j) i = s (16 * j + i) := txt_byte _ _ _ h
theorem blk_ext {s t : Nat → UInt8} {j : Nat} (h : ∀ i, i < 16 → s (16 * j + i) = t (16 * j + i)) : blk s j = blk t j := txt_ext _ _ 16 h
theorem txt_ex (s : Nat → UInt8) (n a b : Nat) (hab : a ≤ b) (hb : b ≤ n) : (txt s n).extract a b = txt (fun i => s (a + i)) (b - a) := by
  have hs : ((txt s n).extract a b).size = b - a := by rw [ByteArray.size_extract, txt_size]; omega
  refine b_ext _ _ (b - a) hs (txt_size _ _) fun j hj => ?_
  rw [← byteOf_at _ _ (by rw [hs]; exact hj), ByteArray.getElem_extract, byteOf_at, txt_byte _ _ _ (by omega), txt_byte _ _ _ hj]
theorem txt_blk (s : Nat → UInt8) (n j : Nat) (h : 16 * j + 16 ≤ n) : (txt s n).extract (16 * j) (16 * j + 16) = blk s j := by
  rw [txt_ex s n _ _ (by omega) h, show 16 * j + 16 - 16 * j = 16 by omega]; rfl
theorem txt_app (f g : Nat → UInt8) (n m : Nat) (h : ∀ i, i < m → g i = f (n + i)) : txt f n ++ txt g m = txt f (n + m) := by
  apply ByteArray.ext
  apply Array.ext'
  rw [ByteArray.data_append, Array.toList_append]
  show upTo f n ++ upTo g m = upTo f (n + m)
  apply List.ext_getElem?
  intro i
  by_cases h1 : i < n
  · rw [List.getElem?_append_left (by rw [upTo_length]; exact h1), upTo_at _ _ _ h1, upTo_at _ _ _ (by omega)]
  · rw [List.getElem?_append_right (by rw [upTo_length]; omega), upTo_length]
    by_cases h2 : i < n + m
    · rw [upTo_at _ _ _ (by omega), upTo_at _ _ _ h2, h _ (by omega)]; congr 2; omega
    · rw [List.getElem?_eq_none (by rw [upTo_length]; omega), List.getElem?_eq_none (by rw [upTo_length]; omega)]
theorem txt_blk_up (s : Nat → UInt8) (j : Nat) : txt s (16 * j) ++ blk s j = txt s (16 * (j + 1)) := txt_app s _ (16 * j) 16 fun _ _ => rfl

/-! ### rows -/
/-- the bytes of four blocks whose rows are shifted by so many columns each. -/
def rowsB (d : Nat) (s : Nat → UInt8) (i : Nat) : UInt8 := s (i / 16 * 16 + shAt d (i % 16))
theorem rowsB_blk (d : Nat) (s : Nat → UInt8) (j : Nat) : shS d (blk s j) = blk (rowsB d s) j := by
  refine txt_ext _ _ 16 fun i hi => ?_
  show byteOf (blk s j) (shAt d i) = rowsB d s (16 * j + i)
  rw [blk_byte _ _ _ (shAt_lt _ _)]
  unfold rowsB
  rw [show (16 * j + i) / 16 = j by omega, show (16 * j + i) % 16 = i by omega, Nat.mul_comm]
theorem rowsB_x (d : Nat) (s t : Nat → UInt8) (i : Nat) : rowsB d (fun i => s i ^^^ t i) i = rowsB d s i ^^^ rowsB d t i := rfl
theorem rowsB_ext (d : Nat) {s t : Nat → UInt8} (h : ∀ i, i < 64 → s i = t i) (i : Nat) (hi : i < 64) : rowsB d s i = rowsB d t i :=
  h _ (by have := shAt_lt d (i % 16); omega)
theorem rowsB_back (d e : Nat) (h : (d = 1 ∧ e = 3) ∨ (d = 3 ∧ e = 1)) (s : Nat → UInt8) (i : Nat) : rowsB d (rowsB e s) i = s i := by
  unfold rowsB
  have h1 := shAt_lt d (i % 16)
  have h3 := sh_13 ⟨i % 16, Nat.mod_lt _ (by omega)⟩
  simp only at h3
  have e1 : (i / 16 * 16 + shAt d (i % 16)) / 16 = i / 16 := by omega
  have e2 : (i / 16 * 16 + shAt d (i % 16)) % 16 = shAt d (i % 16) := by omega
  rw [e1, e2]
  rcases h with ⟨rfl, rfl⟩ | ⟨rfl, rfl⟩
  · rw [h3.2.1]; congr 1; omega
  · rw [h3.1]; congr 1; omega
/-- the word with a one at the first byte of each run. -/
def fstW (run : Nat) : Nat := 18446744073709551615 / (2 ^ run - 1)
/-- the places that go on unbroken. -/
def unbW (run k : Nat) : Nat := fstW run * (2 ^ (run - k) - 1) % 18446744073709551616
theorem on_16 : ∀ (k : Fin 4) (i : Fin 64), onAt 16 (4 * k.val) i.val < 64 ∧ (if (unbW 16 (4 * k.val)).testBit i.val then i.val + 4 * k.val = onAt 16 (4 * k.val) i.val else (16 - 4 * k.val ≤ i.val ∧ i.val - (16 - 4 * k.val) = onAt 16 (4 * k.val) i.val)) := by decide +kernel
theorem on_4 : ∀ (b : Fin 4) (i : Fin 64), onAt 4 (4 - b.val) i.val < 64 ∧ (if (unbW 4 (4 - b.val)).testBit i.val then i.val + (4 - b.val) = onAt 4 (4 - b.val) i.val else (4 - (4 - b.val) ≤ i.val ∧ i.val - (4 - (4 - b.val)) = onAt 4 (4 - b.val) i.val)) := by decide +kernel
theorem plW_on16 (s : Nat → UInt8) (k j : Nat) (hk : k < 4) : tuW (plW s j) 16 (4 * k) (unbW 16 (4 * k)) = plW (fun i => s (onAt 16 (4 * k) i)) j :=
  plW_on s 16 (4 * k) _ j (Nat.mod_lt _ (by omega)) fun i hi => on_16 ⟨k, hk⟩ ⟨i, hi⟩
theorem plW_on4 (s : Nat → UInt8) (b j : Nat) (hb : b < 4) : tuW (plW s j) 4 (4 - b) (unbW 4 (4 - b)) = plW (fun i => s (onAt 4 (4 - b) i)) j :=
  plW_on s 4 (4 - b) _ j (Nat.mod_lt _ (by omega)) fun i hi => on_4 ⟨b, hb⟩ ⟨i, hi⟩
/-- the word of the places of row r. -/
def rowQ (r : Nat) : Nat := fstW 4 * 2 ^ r % 18446744073709551616
theorem rowW_bit : ∀ (r : Fin 4) (i : Fin 64), (rowQ r.val).testBit i.val = decide (i.val % 4 = r.val) := by decide +kernel
/-- the sum of the first n rows, each of them turned. -/
def rowsTo (d : Nat) (s : Nat → UInt8) (i : Nat) : Nat → UInt8
  | 0 => 0
  | r + 1 => rowsTo d s i r ^^^ keepW (rowQ r) s (onAt 16 (4 * (d * r % 4)) i)
theorem on16_mod (k i : Nat) : onAt 16 (4 * k) i % 4 = i % 4 := by unfold onAt; omega
theorem on16_lt (k i : Nat) (hi : i < 64) : onAt 16 (4 * k) i < 64 := onAt_lt 16 _ i 64 (by omega) rfl hi
theorem rowsTo_at (d : Nat) (s : Nat → UInt8) (i : Nat) (hi : i < 64) (n : Nat) (hn : n ≤ 4) : rowsTo d s i n = if i % 4 < n then s (onAt 16 (4 * (d * (i % 4) % 4)) i) else 0 := by
  induction n with
  | zero => rfl
  | succ n ih =>
    rw [rowsTo, ih (by omega)]
    unfold keepW
    have hb := rowW_bit ⟨n, by omega⟩ ⟨onAt 16 (4 * (d * n % 4)) i, on16_lt _ _ hi⟩
    simp only [on16_mod] at hb
    rw [hb]
    by_cases h1 : i % 4 < n
    · have h3 : i % 4 < n + 1 := by omega
      have h4 : ¬ (decide (i % 4 = n) = true) := by simp; omega
      rw [if_pos h1, if_pos h3, if_neg h4, x_zero]
    · by_cases h2 : i % 4 = n
      · have h3 : i % 4 < n + 1 := by omega
        have h4 : decide (i % 4 = n) = true := by simpa using h2
        rw [if_neg h1, if_pos h3, if_pos h4, zero_x, h2]
      · have h3 : ¬ i % 4 < n + 1 := by omega
        have h4 : ¬ (decide (i % 4 = n) = true) := by simpa using h2
        rw [if_neg h1, if_neg h3, if_neg h4, zero_x]
theorem rows_on : ∀ (d : Fin 4) (i : Fin 64), onAt 16 (4 * (d.val * (i.val % 4) % 4)) i.val = i.val / 16 * 16 + shAt d.val (i.val % 16) := by decide +kernel
theorem rowsTo_4 (d : Nat) (hd : d < 4) (s : Nat → UInt8) (i : Nat) (hi : i < 64) : rowsTo d s i 4 = rowsB d s i := by
  rw [rowsTo_at d s i hi 4 (Nat.le_refl _), if_pos (by omega)]
  have := rows_on ⟨d, hd⟩ ⟨i, hi⟩
  simp only at this
  rw [this]; rfl

/-! ### columns -/
/-- the word of a column of 64 bytes. -/
def cw (s : Nat → UInt8) (c : Nat) : UInt32 := mkW (s (4 * c)) (s (4 * c + 1)) (s (4 * c + 2)) (s (4 * c + 3))
/-- the bytes of four blocks each of whose columns is changed. -/
def colsB (f : UInt32 → UInt32) (s : Nat → UInt8) (i : Nat) : UInt8 := wb (f (cw s (i / 4))) (i % 4)
theorem cw_blk (s : Nat → UInt8) (j c : Nat) (hc : c < 4) : colW (blk s j) c = cw s (4 * j + c) := by
  unfold colW getW cw
  rw [blk_byte _ _ _ (by omega), blk_byte _ _ _ (by omega), blk_byte _ _ _ (by omega), blk_byte _ _ _ (by omega)]
  rw [show 16 * j + 4 * c = 4 * (4 * j + c) by omega, show 16 * j + (4 * c + 1) = 4 * (4 * j + c) + 1 by omega, show 16 * j + (4 * c + 2) = 4 * (4 * j + c) + 2 by omega, show 16 * j + (4 * c + 3) = 4 * (4 * j + c) + 3 by omega]
theorem colsB_blk (f : UInt32 → UInt32) (s : Nat → UInt8) (j : Nat) : ofW (fun c => f (colW (blk s j) c)) = blk (colsB f s) j := by
  refine txt_ext _ _ 16 fun i hi => ?_
  show wb (f (colW (blk s j) (i / 4))) (i % 4) = colsB f s (16 * j + i)
  rw [cw_blk _ _ _ (by omega)]
  unfold colsB
  rw [show (16 * j + i) / 4 = 4 * j + i / 4 by omega, show (16 * j + i) % 4 = i % 4 by omega]
theorem cw_x (s t : Nat → UInt8) (c : Nat) : cw (fun i => s i ^^^ t i) c = cw s c ^^^ cw t c := by unfold cw; rw [mkW_xor]
theorem cw_ext {s t : Nat → UInt8} (h : ∀ i, i < 64 → s i = t i) (c : Nat) (hc : c < 16) : cw s c = cw t c := by
  unfold cw; rw [h _ (by omega), h _ (by omega), h _ (by omega), h _ (by omega)]
theorem colsB_ext (f : UInt32 → UInt32) {s t : Nat → UInt8} (h : ∀ i, i < 64 → s i = t i) (i : Nat) (hi : i < 64) : colsB f s i = colsB f t i := by
  unfold colsB; rw [cw_ext h _ (by omega)]
theorem cw_colsB (f : UInt32 → UInt32) (s : Nat → UInt8) (c : Nat) : cw (colsB f s) c = f (cw s c) := by
  unfold cw colsB
  rw [show 4 * c / 4 = c by omega, show 4 * c % 4 = 0 by omega, show (4 * c + 1) / 4 = c by omega, show (4 * c + 1) % 4 = 1 by omega, show (4 * c + 2) / 4 = c by omega, show (4 * c + 2) % 4 = 2 by omega, show (4 * c + 3) / 4 = c by omega, show (4 * c + 3) % 4 = 3 by omega, mkW_wb]
  rfl
theorem wb_cw (s : Nat → UInt8) (i : Nat) : wb (cw s (i / 4)) (i % 4) = s i := by
  have h4 : i % 4 = 0 ∨ i % 4 = 1 ∨ i % 4 = 2 ∨ i % 4 = 3 := by omega
  unfold cw
  rcases h4 with h | h | h | h <;> rw [h]
  · rw [wb0_mk]; congr 1; omega
  · rw [wb1_mk]; congr 1; omega
  · rw [wb2_mk]; congr 1; omega
  · rw [wb3_mk]; congr 1; omega
theorem colsB_back (f g : UInt32 → UInt32) (h : ∀ x, f (g x) = x) (s : Nat → UInt8) (i : Nat) : colsB f (colsB g s) i = s i := by
  unfold colsB
  have e := cw_colsB g s (i / 4)
  unfold colsB at e
  rw [e, h, wb_cw]
theorem colsB_x (f : UInt32 → UInt32) (h : ∀ x y, f (x ^^^ y) = f x ^^^ f y) (s t : Nat → UInt8) (i : Nat) : colsB f (fun i => s i ^^^ t i) i = colsB f s i ^^^ colsB f t i := by
  unfold colsB; rw [cw_x, h, wb_xor]
theorem un_xor (x y : UInt32) : unmixW (x ^^^ y) = unmixW x ^^^ unmixW y := by
  rw [← unmix_f, ← unmix_f, ← unmix_f]; exact mixW_xor unF x y
/-- the sum of what the bytes give by the first n factors. -/
def colsTo (F : Nat → UInt8) (s : Nat → UInt8) (i : Nat) : Nat → UInt8
  | 0 => 0
  | b + 1 => colsTo F s i b ^^^ mul (s (onAt 4 (4 - b) i)) (F b)
theorem colsTo_4 (F : Nat → UInt8) (s : Nat → UInt8) (i : Nat) : colsTo F s i 4 = colsB (mixW F) s i := by
  have h4 : i % 4 = 0 ∨ i % 4 = 1 ∨ i % 4 = 2 ∨ i % 4 = 3 := by omega
  unfold colsB
  rw [mixW_bytes]
  simp only [colsTo, cw, wb0_mk, wb1_mk, wb2_mk, wb3_mk, zero_x]
  have hc : ∃ c, i / 4 = c := ⟨_, rfl⟩
  obtain ⟨c, hc⟩ := hc
  unfold onAt
  rw [hc]
  rw [mul_comm (s (c * 4 + _)) (F 0), mul_comm (s (c * 4 + _)) (F 1), mul_comm (s (c * 4 + _)) (F 2), mul_comm (s (c * 4 + _)) (F 3)]
  rcases h4 with h | h | h | h <;> rw [h]
  · rw [wb0_mk]
    simp only [Nat.reduceAdd, Nat.reduceMod, Nat.reduceSub, Nat.mul_comm c 4, Nat.add_zero]
    simp only [x_assoc, x_comm, x_lcomm]
  · rw [wb1_mk]
    simp only [Nat.reduceAdd, Nat.reduceMod, Nat.reduceSub, Nat.mul_comm c 4, Nat.add_zero]
    simp only [x_assoc, x_comm, x_lcomm]
  · rw [wb2_mk]
    simp only [Nat.reduceAdd, Nat.reduceMod, Nat.reduceSub, Nat.mul_comm c 4, Nat.add_zero]
    simp only [x_assoc, x_comm, x_lcomm]
  · rw [wb3_mk]
    simp only [Nat.reduceAdd, Nat.reduceMod, Nat.reduceSub, Nat.mul_comm c 4, Nat.add_zero]
    simp only [x_assoc, x_comm, x_lcomm]
end Go.Proofs.YtbbjcgnoialidaaDoor
