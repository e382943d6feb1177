/-
  Plain facts on the parts of a text between newlines. No program.
-/
import Derived.Test.YtdhncpkcbeggmaaDoorDecMath
import Derived.Lib.Split
import Derived.Lib.SplitLaws
import Derived.Lib.Strings
set_option linter.unusedVariables false
namespace Go.Proofs.YtdhncpkcbeggmaaDoor
open Go Go.RowKit

def consHead (b : UInt8) : List (List UInt8) → List (List UInt8)
  | [] => [[b]]
  | p :: ps => (b :: p) :: ps
/-- the parts between bytes c. -/
def linesL (c : UInt8) : List UInt8 → List (List UInt8)
  | [] => [[]]
  | b :: l => if b = c then [] :: linesL c l else consHead b (linesL c l)
theorem linesL_ne (c : UInt8) (l : List UInt8) : linesL c l ≠ [] := by
  cases l with
  | nil => simp [linesL]
  | cons b l =>
    unfold linesL
    split
    · simp
    · unfold consHead
      split <;> simp
theorem index_eq (c : UInt8) (l : List UInt8) : Lib.index (c :: l) [c] = ((0 : Nat) : Int) := by rw [Lib.index]; simp [List.isPrefixOf]
theorem index_other (b c : UInt8) (l : List UInt8) (h : b ≠ c) : Lib.index (b :: l) [c] = if Lib.index l [c] == -1 then -1 else Lib.index l [c] + 1 := by
  have hp : ([c] : List UInt8).isPrefixOf (b :: l) = false := by simp [List.isPrefixOf, Ne.symm h]
  rw [Lib.index, hp]; simp
theorem splitK_other (b c : UInt8) (h : b ≠ c) : ∀ (k : Nat) (l : List UInt8), Lib.splitK [c] 0 k (b :: l) = consHead b (Lib.splitK [c] 0 k l)
  | 0, l => rfl
  | k + 1, l => by
    have hix := index_other b c l h
    have hge := Lib.index_ge l [c]
    by_cases hm : Lib.index l [c] = -1
    · rw [if_pos (beq_iff_eq.2 hm)] at hix
      unfold Lib.splitK
      rw [if_pos (beq_iff_eq.2 hix), if_pos (beq_iff_eq.2 hm)]
      rfl
    · obtain ⟨j, hj⟩ : ∃ j : Nat, Lib.index l [c] = j := ⟨(Lib.index l [c]).toNat, by omega⟩
      rw [if_neg (fun e => hm (beq_iff_eq.1 e)), hj] at hix
      have hm1 : ¬ (Lib.index (b :: l) [c] == -1) = true := fun e => by have := beq_iff_eq.1 e; omega
      have hm2 : ¬ (Lib.index l [c] == -1) = true := fun e => hm (beq_iff_eq.1 e)
      unfold Lib.splitK
      rw [if_neg hm1, if_neg hm2, hix, hj]
      have e1 : (((j : Nat) : Int) + 1).toNat = j + 1 := by omega
      rw [e1]
      simp [consHead]
theorem split_lines (c : UInt8) : ∀ l : List UInt8, Lib.splitK [c] 0 (Lib.count l [c]) l = linesL c l
  | [] => by
    rw [Lib.count_miss (by simp [Lib.index])]; rfl
  | b :: l => by
    by_cases h : b = c
    · subst h
      rw [Lib.count_cons_eq, Nat.add_comm]
      unfold Lib.splitK linesL
      rw [index_eq, if_pos rfl, ← split_lines b l]
      simp
    · rw [Lib.count_cons_ne b c l h, splitK_other b c h, split_lines c l]
      conv => rhs; unfold linesL
      rw [if_neg h]
def nl : ByteArray := ⟨#[10]⟩
def linesB (s : ByteArray) : List ByteArray := (linesL 10 s.data.toList).map str
theorem str_data' (l : List UInt8) : (str l).data.toList = l := by simp [str]
theorem split_linesB (s : ByteArray) : Lib.splitB nl 0 (Lib.countB s nl) s = linesB s := by
  have h := Lib.splitB_data nl 0 (Lib.countB s nl) s
  have h2 : Lib.splitK nl.data.toList 0 (Lib.countB s nl) s.data.toList = linesL 10 s.data.toList := split_lines 10 s.data.toList
  rw [h2] at h
  unfold linesB
  rw [← h, List.map_map]
  conv => lhs; rw [← List.map_id (Lib.splitB nl 0 (Lib.countB s nl) s)]
  apply List.map_congr_left
  intro x _
  rfl
theorem linesB_count (s : ByteArray) : Lib.countB s nl + 1 = (linesB s).length := by
  rw [← split_linesB]
  exact (Lib.splitB_all nl (by decide) 0 _ s rfl).symm
def glue (q : List UInt8) : List (List UInt8) → List (List UInt8)
  | [] => [q]
  | p :: ps => (q ++ p) :: ps
theorem glue_nil {x : List (List UInt8)} (h : x ≠ []) : glue [] x = x := by
  cases x with
  | nil => exact absurd rfl h
  | cons p ps => rfl
theorem glue_cons (q : List UInt8) (b : UInt8) {x : List (List UInt8)} (h : x ≠ []) : glue q (consHead b x) = glue (q ++ [b]) x := by
  cases x with
  | nil => exact absurd rfl h
  | cons p ps => simp [glue, consHead]
def sub (s : ByteArray) (f i : Nat) : List UInt8 := (s.data.toList.drop f).take (i - f)
theorem sub_self (s : ByteArray) (i : Nat) : sub s i i = [] := by simp [sub]
theorem sub_snoc (s : ByteArray) (f i : Nat) (hf : f ≤ i) (h : i < s.size) : sub s f (i + 1) = sub s f i ++ [s[i]] := by
  have hl : s.data.toList.length = s.size := by simp
  unfold sub
  rw [show i + 1 - f = (i - f) + 1 by omega, List.take_succ_eq_append_getElem (by rw [List.length_drop]; omega)]
  congr 2
  rw [List.getElem_drop]
  have : f + (i - f) = i := by omega
  simp only [this]
  rfl
theorem extract_sub (s : ByteArray) (f i : Nat) : s.extract f i = str (sub s f i) := by
  apply ByteArray.ext
  apply Array.toList_inj.1
  rw [str_data', Lib.extract_data]
  rfl
/-- what has been put out, what is open, what is to come. -/
def LinesAt (s : ByteArray) (pre : List ByteArray) (f i : Nat) : Prop := pre.map (·.data.toList) ++ glue (sub s f i) (linesL 10 (s.data.toList.drop i)) = linesL 10 s.data.toList
theorem LinesAt.start (s : ByteArray) : LinesAt s [] 0 0 := by
  unfold LinesAt
  rw [sub_self, List.drop_zero, glue_nil (linesL_ne _ _)]
  rfl
theorem drop_at (s : ByteArray) (i : Nat) (h : i < s.size) : s.data.toList.drop i = s[i] :: s.data.toList.drop (i + 1) := by
  have hl : s.data.toList.length = s.size := by simp
  rw [List.drop_eq_getElem_cons (by omega)]
  rfl
theorem LinesAt.other {s : ByteArray} {pre : List ByteArray} {f i : Nat} (h : LinesAt s pre f i) (hf : f ≤ i) (hi : i < s.size) (hc : ¬ (s[i]'hi) = 10) : LinesAt s pre f (i + 1) := by
  unfold LinesAt at *
  rw [← h, drop_at s i hi]
  conv => rhs; rw [linesL, if_neg hc, glue_cons _ _ (linesL_ne _ _)]
  rw [sub_snoc s f i hf hi]
theorem LinesAt.newline {s : ByteArray} {pre : List ByteArray} {f i : Nat} (h : LinesAt s pre f i) (hf : f ≤ i) (hi : i < s.size) (hc : (s[i]'hi) = 10) : LinesAt s (pre ++ [s.extract f i]) (i + 1) (i + 1) := by
  unfold LinesAt at *
  rw [← h, drop_at s i hi]
  conv => rhs; rw [linesL, if_pos hc]
  rw [sub_self, glue_nil (linesL_ne _ _), List.map_append, extract_sub]
  simp [glue, str_data']
theorem LinesAt.done {s : ByteArray} {pre : List ByteArray} {f i : Nat} (h : LinesAt s pre f i) (hi : s.size ≤ i) : pre ++ [s.extract f s.size] = linesB s := by
  have hl : s.data.toList.length = s.size := by simp
  unfold LinesAt at h
  rw [List.drop_of_length_le (by omega)] at h
  have hs : sub s f i = sub s f s.size := by
    unfold sub
    rw [List.take_of_length_le (by rw [List.length_drop]; omega), List.take_of_length_le (by rw [List.length_drop]; omega)]
  rw [hs] at h
  unfold linesB
  rw [← h, extract_sub, List.map_append, List.map_map]
  congr 1
  · conv => lhs; rw [← List.map_id pre]
    apply List.map_congr_left
    intro x _
    rfl
  · simp [glue, linesL]
end Go.Proofs.YtdhncpkcbeggmaaDoor
