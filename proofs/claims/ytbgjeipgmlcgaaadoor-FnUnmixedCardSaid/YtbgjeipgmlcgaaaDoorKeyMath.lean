/-
  Plain facts on keys: how the words of a key grow, rows that are filled from the front. No program.
-/
import Derived.Test.YtbgjeipgmlcgaaaDoorWordMath
import Derived.Test.YtbgjeipgmlcgaaaDoorMath
set_option linter.unusedVariables false
namespace Go.Proofs.YtbgjeipgmlcgaaaDoor
open Go Go.RowKit

/-- a row of m whose first k are told by f, the others by h. -/
def rowTo {α : Type} (f h : Nat → α) (m k : Nat) : List α := (List.range m).map fun i => if i < k then f i else h i
theorem rowTo_length {α : Type} (f h : Nat → α) (m k : Nat) : (rowTo f h m k).length = m := by simp [rowTo]
theorem rowTo_at {α : Type} (f h : Nat → α) (m k j : Nat) (hj : j < m) : (rowTo f h m k)[j]? = some (if j < k then f j else h j) := by
  unfold rowTo
  rw [List.getElem?_map, List.getElem?_range hj]; rfl
theorem rowTo_lo {α : Type} (f h : Nat → α) (m k j : Nat) (hj : j < m) (hk : j < k) : (rowTo f h m k)[j]? = some (f j) := by
  rw [rowTo_at f h m k j hj, if_pos hk]
theorem rowTo_hi {α : Type} (f h : Nat → α) (m k j : Nat) (hj : j < m) (hk : k ≤ j) : (rowTo f h m k)[j]? = some (h j) := by
  rw [rowTo_at f h m k j hj, if_neg (by omega)]
theorem rowTo_set {α : Type} (f h : Nat → α) (m k : Nat) : (rowTo f h m k).set k (f k) = rowTo f h m (k + 1) := by
  apply List.ext_getElem?
  intro j
  rw [List.getElem?_set]
  by_cases hj : j < m
  · rw [rowTo_at f h m (k + 1) j hj, rowTo_at f h m k j hj, rowTo_length]
    by_cases e : k = j
    · subst e; simp [hj]
    · rw [if_neg e]
      by_cases h1 : j < k
      · rw [if_pos h1, if_pos (by omega)]
      · rw [if_neg h1, if_neg (by omega)]
  · have h1 : (rowTo f h m (k + 1))[j]? = none := List.getElem?_eq_none (by rw [rowTo_length]; omega)
    have h2 : (rowTo f h m k)[j]? = none := List.getElem?_eq_none (by rw [rowTo_length]; omega)
    rw [h1, h2, rowTo_length]
    by_cases e : k = j
    · subst e; simp [hj]
    · simp [e]
/-- the first m, told by f. -/
def upTo {α : Type} (f : Nat → α) (m : Nat) : List α := (List.range m).map f
theorem upTo_length {α : Type} (f : Nat → α) (m : Nat) : (upTo f m).length = m := by simp [upTo]
theorem upTo_succ {α : Type} (f : Nat → α) (m : Nat) : upTo f (m + 1) = upTo f m ++ [f m] := by simp [upTo, List.range_succ]
theorem upTo_at {α : Type} (f : Nat → α) (m j : Nat) (hj : j < m) : (upTo f m)[j]? = some (f j) := by
  unfold upTo; rw [List.getElem?_map, List.getElem?_range hj]; rfl
theorem upTo_get {α : Type} (f : Nat → α) (m j : Nat) (hj : j < (upTo f m).length) : (upTo f m)[j] = f j := by
  simp [upTo]
theorem rowTo_all {α : Type} (f h : Nat → α) (m k : Nat) (hk : m ≤ k) : rowTo f h m k = upTo f m := by
  unfold rowTo upTo
  apply List.map_congr_left
  intro i hi
  rw [if_pos (by have := List.mem_range.1 hi; omega)]
theorem rowTo_zero {α : Type} (f h : Nat → α) (m : Nat) : rowTo f h m 0 = upTo h m := by
  unfold rowTo upTo
  apply List.map_congr_left
  intro i hi
  rw [if_neg (by omega)]
theorem upTo_const {α : Type} (z : α) (m : Nat) : upTo (fun _ => z) m = List.replicate m z := by
  unfold upTo
  apply List.ext_getElem
  · simp
  · intro i h1 h2; simp
theorem upTo_congr {α : Type} (f h : Nat → α) (m : Nat) (e : ∀ j, j < m → f j = h j) : upTo f m = upTo h m := by
  unfold upTo
  apply List.map_congr_left
  intro i hi
  exact e i (List.mem_range.1 hi)
theorem upTo_map {α β : Type} (f : Nat → α) (c : α → β) (m : Nat) : (upTo f m).map c = upTo (fun i => c (f i)) m := by simp [upTo]
/-- whether a text is a right key. -/
def kOk (s : ByteArray) : Prop := s.size = 16 ∨ s.size = 24 ∨ s.size = 32
instance (s : ByteArray) : Decidable (kOk s) := by unfold kOk; exact inferInstance
/-- how many words a key of n words grows to. -/
def kL (n : Nat) : Nat := 4 * (n + 7)
/-- what is added at place i to the word of n places ahead, of the word just ahead. -/
def growW (n i : Nat) (x : UInt32) : UInt32 :=
  if i % n = 0 then subW (rot x 8) ^^^ rcon (i / n) else if n = 8 ∧ i % 8 = 4 then subW x else x
theorem growW_0 (n i : Nat) (x : UInt32) (h : i % n = 0) : growW n i x = subW (rot x 8) ^^^ rcon (i / n) := if_pos h
theorem growW_4 (i : Nat) (x : UInt32) (h : i % 8 = 4) : growW 8 i x = subW x := by
  unfold growW; rw [if_neg (by omega), if_pos ⟨rfl, h⟩]
theorem growW_x (n i : Nat) (x : UInt32) (h0 : ¬ i % n = 0) (h : ¬ (n = 8 ∧ i % 8 = 4)) : growW n i x = x := by
  unfold growW; rw [if_neg h0, if_neg h]
/-- the word at place i of a key of n words that has grown. -/
def ew (s : ByteArray) (n : Nat) (i : Nat) : UInt32 :=
  if h : i < n ∨ n = 0 then getW s (4 * i) else ew s n (i - n) ^^^ growW n i (ew s n (i - 1))
termination_by i
decreasing_by all_goals omega
theorem ew_lo (s : ByteArray) (n i : Nat) (h : i < n) : ew s n i = getW s (4 * i) := by
  rw [ew, dif_pos (Or.inl h)]
theorem ew_hi (s : ByteArray) (n i : Nat) (h : n ≤ i) (h0 : 0 < n) : ew s n i = ew s n (i - n) ^^^ growW n i (ew s n (i - 1)) := by
  conv => lhs; rw [ew]
  rw [dif_neg (by omega)]
/-- a word whose column is mixed back. -/
def unmixW (x : UInt32) : UInt32 :=
  mkW (mul 14 (wb x 0) ^^^ mul 11 (wb x 1) ^^^ mul 13 (wb x 2) ^^^ mul 9 (wb x 3))
    (mul 9 (wb x 0) ^^^ mul 14 (wb x 1) ^^^ mul 11 (wb x 2) ^^^ mul 13 (wb x 3))
    (mul 13 (wb x 0) ^^^ mul 9 (wb x 1) ^^^ mul 14 (wb x 2) ^^^ mul 11 (wb x 3))
    (mul 11 (wb x 0) ^^^ mul 13 (wb x 1) ^^^ mul 9 (wb x 2) ^^^ mul 14 (wb x 3))
/-- the words for the other way. -/
def uw (s : ByteArray) (n : Nat) (i : Nat) : UInt32 := if 4 ≤ i ∧ i < kL n - 4 then unmixW (ew s n i) else ew s n i
/-- a word's cell. -/
def cell32 (x : UInt32) : Value := .int .u32 (x.toNat : Int)
def cells32 (l : List UInt32) : List Value := l.map cell32
theorem cells32_length (l : List UInt32) : (cells32 l).length = l.length := List.length_map _
theorem cells32_set (l : List UInt32) (k : Nat) (x : UInt32) : (cells32 l).set k (cell32 x) = cells32 (l.set k x) := by simp [cells32, List.map_set]
theorem xor32_lt (x y : UInt32) : (x ^^^ y).toNat < 4294967296 := w32_lt _
theorem u32_xor (x y : UInt32) : bits .xor .u32 (x.toNat : Int) (y.toNat : Int) = ((x ^^^ y).toNat : Int) := by
  have hx := w32_lt x
  have hy := w32_lt y
  rw [u32_xor_nat _ _ hx hy, UInt32.toNat_xor]
theorem i64_xor32 (x y : UInt32) : bits .xor .i64 (x.toNat : Int) (y.toNat : Int) = ((x ^^^ y).toNat : Int) := by
  have hx := w32_lt x
  have hy := w32_lt y
  rw [i64_xor_nat _ _ (by omega) (by omega), UInt32.toNat_xor]
end Go.Proofs.YtbgjeipgmlcgaaaDoor
