/-
  Plain facts on the words of a text: what lies between blanks. No program.
-/
import Derived.Test.YtdhncpkcbeggmaaDoorLinesMath
set_option linter.unusedVariables false
namespace Go.Proofs.YtdhncpkcbeggmaaDoor
open Go Go.RowKit

def gap (b : UInt8) : Bool := b == 32 || b == 9
/-- the words of a text, the first of them begun already by p. -/
def wordsG (p : List UInt8) : List UInt8 → List (List UInt8)
  | [] => if p = [] then [] else [p]
  | b :: l => if gap b then (if p = [] then wordsG [] l else p :: wordsG [] l) else wordsG (p ++ [b]) l
def wordsR (s : ByteArray) : List ByteArray := (wordsG [] s.data.toList).map str
def WordsAt (s : ByteArray) (pre : List ByteArray) (f i : Nat) : Prop := pre.map (·.data.toList) ++ wordsG (sub s f i) (s.data.toList.drop i) = wordsG [] s.data.toList
theorem WordsAt.start (s : ByteArray) : WordsAt s [] 0 0 := by
  unfold WordsAt; rw [sub_self, List.drop_zero]; rfl
theorem WordsAt.other {s : ByteArray} {pre : List ByteArray} {f i : Nat} (h : WordsAt s pre f i) (hf : f ≤ i) (hi : i < s.size) (hc : gap (s[i]'hi) = false) : WordsAt s pre f (i + 1) := by
  unfold WordsAt at *
  rw [← h, drop_at s i hi]
  conv => rhs; rw [wordsG, hc]
  rw [sub_snoc s f i hf hi]
  rfl
theorem sub_ne (s : ByteArray) (f i : Nat) (hf : f < i) (hi : i ≤ s.size) : sub s f i ≠ [] := by
  have hl : s.data.toList.length = s.size := by simp
  intro h
  have := congrArg List.length h
  unfold sub at this
  rw [List.length_take, List.length_drop, hl] at this
  simp at this
  omega
/-- a blank behind a word. -/
theorem WordsAt.word {s : ByteArray} {pre : List ByteArray} {f i : Nat} (h : WordsAt s pre f i) (hf : f < i) (hi : i < s.size) (hc : gap (s[i]'hi) = true) : WordsAt s (pre ++ [s.extract f i]) (i + 1) (i + 1) := by
  unfold WordsAt at *
  rw [← h, drop_at s i hi]
  conv => rhs; rw [wordsG, if_pos hc, if_neg (sub_ne s f i hf (by omega))]
  rw [sub_self, List.map_append, extract_sub, List.append_assoc]
  simp [str_data']
/-- a word whose end has come, the blank itself still ahead. -/
theorem WordsAt.ended {s : ByteArray} {pre : List ByteArray} {f i : Nat} (h : WordsAt s pre f i) (hf : f < i) (hi : i < s.size) (hc : gap (s[i]'hi) = true) : WordsAt s (pre ++ [s.extract f i]) i i := by
  unfold WordsAt at *
  rw [← h, drop_at s i hi]
  conv => rhs; rw [wordsG, if_pos hc, if_neg (sub_ne s f i hf (by omega))]
  conv => lhs; rw [wordsG, if_pos hc, sub_self, if_pos rfl]
  rw [List.map_append, extract_sub, List.append_assoc]
  simp [str_data']
/-- a blank behind no word. -/
theorem WordsAt.blank {s : ByteArray} {pre : List ByteArray} {i : Nat} (h : WordsAt s pre i i) (hi : i < s.size) (hc : gap (s[i]'hi) = true) : WordsAt s pre (i + 1) (i + 1) := by
  unfold WordsAt at *
  rw [← h, drop_at s i hi]
  conv => rhs; rw [wordsG, if_pos hc, sub_self, if_pos rfl]
  rw [sub_self]
theorem drop_end (s : ByteArray) (i : Nat) (hi : s.size ≤ i) : s.data.toList.drop i = [] := List.drop_of_length_le (by simpa using hi)
/-- the end of the text behind a word. -/
theorem WordsAt.last {s : ByteArray} {pre : List ByteArray} {f : Nat} (h : WordsAt s pre f s.size) (hf : f < s.size) (j : Nat) (hj : s.size ≤ j) : WordsAt s (pre ++ [s.extract f s.size]) j j := by
  unfold WordsAt at *
  rw [← h, drop_end s j hj, drop_end s _ (Nat.le_refl _)]
  conv => rhs; rw [wordsG, if_neg (sub_ne s f s.size hf (Nat.le_refl _))]
  rw [sub_self, List.map_append, extract_sub]
  simp [str_data', wordsG]
theorem WordsAt.past {s : ByteArray} {pre : List ByteArray} {i j : Nat} (h : WordsAt s pre i i) (hi : s.size ≤ i) (hj : s.size ≤ j) : WordsAt s pre j j := by
  unfold WordsAt at *
  rw [drop_end s i hi, sub_self] at h
  rw [drop_end s j hj, sub_self]
  exact h
theorem WordsAt.done {s : ByteArray} {pre : List ByteArray} {i : Nat} (h : WordsAt s pre i i) (hi : s.size ≤ i) : pre = wordsR s := by
  unfold WordsAt at h
  rw [drop_end s i hi, sub_self] at h
  unfold wordsR
  rw [← h, List.map_append, List.map_map]
  simp [wordsG]
  conv => lhs; rw [← List.map_id pre]
  apply List.map_congr_left
  intro x _
  rfl
theorem wordsG_len : ∀ (l p : List UInt8), (wordsG p l).length ≤ l.length + 1
  | [], p => by unfold wordsG; split <;> simp
  | b :: l, p => by
    have h0 := wordsG_len l []
    have h1 := wordsG_len l (p ++ [b])
    unfold wordsG
    split
    · split
      · simp; omega
      · simp; omega
    · simp; omega
theorem wordsR_le (s : ByteArray) : (wordsR s).length ≤ s.size + 1 := by
  have := wordsG_len s.data.toList []
  have hl : s.data.toList.length = s.size := by simp
  unfold wordsR
  rw [List.length_map]
  omega
end Go.Proofs.YtdhncpkcbeggmaaDoor
