/-
  Plain facts: the lines of a text, joined, are the text; the words of words with blanks behind them are the words. No program.
-/
import Derived.Test.YtdhncpkcbeggmaaDoorLinesMath
import Derived.Test.YtdhncpkcbeggmaaDoorWordsMath
import Derived.Test.YtdhncpkcbeggmaaDoorLines
set_option linter.unusedVariables false
namespace Go.Proofs.YtdhncpkcbeggmaaDoor
open Go Go.RowKit

/-- the first k texts, newlines between them. -/
def joinL : List (List UInt8) → List UInt8
  | [] => []
  | [p] => p
  | p :: q :: r => p ++ 10 :: joinL (q :: r)
theorem joinL_cons {p : List UInt8} {x : List (List UInt8)} (h : x ≠ []) : joinL (p :: x) = p ++ 10 :: joinL x := by
  cases x with
  | nil => exact absurd rfl h
  | cons q r => rfl
theorem joinL_head (b : UInt8) {x : List (List UInt8)} (h : x ≠ []) : joinL (consHead b x) = b :: joinL x := by
  cases x with
  | nil => exact absurd rfl h
  | cons q r =>
    cases r with
    | nil => rfl
    | cons q2 r => rfl
theorem joinL_lines : ∀ l : List UInt8, joinL (linesL 10 l) = l
  | [] => rfl
  | b :: l => by
    have ih := joinL_lines l
    unfold linesL
    split
    · rename_i h
      subst h
      rw [joinL_cons (linesL_ne _ _), ih]
      rfl
    · rw [joinL_head _ (linesL_ne _ _), ih]
theorem joinL_snoc {x : List (List UInt8)} (p : List UInt8) (h : x ≠ []) : joinL (x ++ [p]) = joinL x ++ 10 :: p := by
  induction x with
  | nil => exact absurd rfl h
  | cons q r ih =>
    cases r with
    | nil => rfl
    | cons q2 r =>
      have ih' := ih (by simp)
      show q ++ 10 :: joinL (q2 :: r ++ [p]) = (q ++ 10 :: joinL (q2 :: r)) ++ 10 :: p
      rw [ih']
      simp
/-- the texts of a list, joined. -/
def joinB (L : List ByteArray) : ByteArray := str (joinL (L.map (·.data.toList)))
theorem joinB_nil : joinB [] = str [] := rfl
theorem joinB_one (x : ByteArray) : joinB [x] = x := by
  unfold joinB
  apply ByteArray.ext
  apply Array.toList_inj.1
  rw [str_data']
  rfl
theorem str_of (x : ByteArray) : str x.data.toList = x := by
  apply ByteArray.ext
  apply Array.toList_inj.1
  rw [str_data']
theorem joinB_snoc (L : List ByteArray) (x : ByteArray) (h : L ≠ []) : joinB (L ++ [x]) = (joinB L ++ nl) ++ x := by
  unfold joinB
  rw [List.map_append, List.map_singleton, joinL_snoc _ (by simpa using h)]
  rw [show nl = str [10] from rfl, str_append]
  conv => rhs; rw [← str_of x]
  rw [str_append]
  simp
theorem joinB_lines (s : ByteArray) : joinB (linesR s) = s := by
  unfold linesR joinB
  split
  · rename_i h
    rw [← str_of s]
    have : s.data.toList = [] := by
      apply List.eq_nil_of_length_eq_zero
      simpa using h
    rw [this]
    rfl
  · unfold linesB
    rw [List.map_map]
    conv => lhs; arg 1; arg 1; rw [show ((fun x : ByteArray => x.data.toList) ∘ str) = id from funext fun l => str_data' l]
    rw [List.map_id, joinL_lines, str_of]

/-- words, a blank behind each. -/
def spread : List (List UInt8) → List UInt8
  | [] => []
  | p :: x => p ++ 32 :: spread x
theorem spread_snoc (x : List (List UInt8)) (p : List UInt8) : spread (x ++ [p]) = spread x ++ (p ++ [32]) := by
  induction x with
  | nil => simp [spread]
  | cons q r ih => simp [spread, ih]
/-- a word: not empty, no blank in it. -/
def Word (p : List UInt8) : Prop := p ≠ [] ∧ ∀ b ∈ p, gap b = false
theorem wordsG_word : ∀ (p q l : List UInt8), (∀ b ∈ p, gap b = false) → wordsG q (p ++ l) = wordsG (q ++ p) l
  | [], q, l, _ => by simp
  | b :: p, q, l, h => by
    rw [List.cons_append, wordsG, h b (by simp)]
    rw [if_neg (by simp), wordsG_word p (q ++ [b]) l (fun c hc => h c (by simp [hc]))]
    simp
theorem wordsG_spread : ∀ x : List (List UInt8), (∀ p ∈ x, Word p) → wordsG [] (spread x) = x
  | [], _ => rfl
  | p :: x, h => by
    have hp := h p (by simp)
    rw [spread, wordsG_word p [] _ hp.2, List.nil_append, wordsG, if_pos (by rfl), if_neg hp.1, wordsG_spread x (fun q hq => h q (by simp [hq]))]
theorem wordsG_are : ∀ (l q : List UInt8), (∀ b ∈ q, gap b = false) → ∀ p ∈ wordsG q l, Word p
  | [], q, hq, p, hp => by
    unfold wordsG at hp
    split at hp
    · cases hp
    · rename_i h
      rw [List.mem_singleton] at hp
      subst hp
      exact ⟨h, hq⟩
  | b :: l, q, hq, p, hp => by
    unfold wordsG at hp
    split at hp
    · split at hp
      · exact wordsG_are l [] (by simp) p hp
      · rename_i h
        rcases List.mem_cons.1 hp with rfl | hp
        · exact ⟨h, hq⟩
        · exact wordsG_are l [] (by simp) p hp
    · rename_i h
      refine wordsG_are l (q ++ [b]) (fun c hc => ?_) p hp
      rcases List.mem_append.1 hc with hc | hc
      · exact hq c hc
      · rw [List.mem_singleton] at hc
        subst hc
        simpa using h
def spreadB (L : List ByteArray) : ByteArray := str (spread (L.map (·.data.toList)))
def sp : ByteArray := ⟨#[32]⟩
theorem spreadB_snoc (L : List ByteArray) (x : ByteArray) : spreadB (L ++ [x]) = spreadB L ++ (x ++ sp) := by
  unfold spreadB
  rw [List.map_append, List.map_singleton, spread_snoc, ← str_append, ← str_append, str_of]
  rfl
theorem words_spread (s : ByteArray) : wordsR (spreadB (wordsR s)) = wordsR s := by
  have h : (wordsR s).map (·.data.toList) = wordsG [] s.data.toList := by
    unfold wordsR
    rw [List.map_map]
    conv => lhs; arg 1; rw [show ((fun x : ByteArray => x.data.toList) ∘ str) = id from funext fun l => str_data' l]
    rw [List.map_id]
  unfold spreadB
  rw [h]
  conv => lhs; unfold wordsR
  rw [str_data', wordsG_spread _ (wordsG_are _ [] (by simp))]
  rfl
theorem spread_len : ∀ (x : List (List UInt8)) (k : Nat), (∀ p ∈ x, p.length ≤ k) → (spread x).length ≤ x.length * (k + 1)
  | [], k, _ => by simp [spread]
  | p :: x, k, h => by
    have ih := spread_len x k (fun q hq => h q (by simp [hq]))
    have := h p (by simp)
    simp [spread]
    rw [Nat.add_mul, Nat.one_mul]
    omega
theorem wordsG_size : ∀ (l q : List UInt8) (k : Nat), q.length + l.length ≤ k → ∀ p ∈ wordsG q l, p.length ≤ k
  | [], q, k, h, p, hp => by
    unfold wordsG at hp
    split at hp
    · cases hp
    · rw [List.mem_singleton] at hp
      subst hp
      simpa using h
  | b :: l, q, k, h, p, hp => by
    simp at h
    unfold wordsG at hp
    split at hp
    · split at hp
      · exact wordsG_size l [] k (by simp; omega) p hp
      · rcases List.mem_cons.1 hp with rfl | hp
        · omega
        · exact wordsG_size l [] k (by simp; omega) p hp
    · exact wordsG_size l (q ++ [b]) k (by simp; omega) p hp
theorem wordsR_size (s x : ByteArray) (h : x ∈ wordsR s) : x.size ≤ s.size := by
  unfold wordsR at h
  obtain ⟨p, hp, rfl⟩ := List.mem_map.1 h
  have := wordsG_size s.data.toList [] s.size (by simp) p hp
  rw [str_size]
  exact this
end Go.Proofs.YtdhncpkcbeggmaaDoor
