/-
  Plain facts on what is read as a decimal numeral. No program.
-/
import Derived.Test.YtdhncpkcbeggmaaDoorDecMath
import Derived.Lib.AtoiAll
import Derived.Lib.AtoiAllCases
set_option linter.unusedVariables false
namespace Go.Proofs.YtdhncpkcbeggmaaDoor
open Go Go.RowKit

def stepD (a : Nat) (c : UInt8) : Nat := a * 10 + (c.toNat - 48)
/-- what the digits spell. -/
def valOf (l : List UInt8) : Nat := l.foldl stepD 0
def allDig (l : List UInt8) : Prop := ∀ c ∈ l, 48 ≤ c.toNat ∧ c.toNat ≤ 57
theorem dig_of (r : Nat) (h : r < 10) : (UInt8.ofNat (48 + r)).toNat = 48 + r := by rw [UInt8.toNat_ofNat']; omega
theorem decE_val : ∀ (k u : Nat), u < 10 ^ k → valOf (decE u) = u ∧ allDig (decE u)
  | 0, u, h => by
    have : u = 0 := by simpa using h
    subst this; exact ⟨rfl, fun c hc => by simp [decE_zero] at hc⟩
  | k + 1, u, h => by
    rcases Nat.eq_zero_or_pos u with h0 | h0
    · subst h0; exact ⟨rfl, fun c hc => by simp [decE_zero] at hc⟩
    · have ih := decE_val k (u / 10) (by rw [Nat.pow_succ] at h; omega)
      have hd := dig_of (u % 10) (Nat.mod_lt _ (by omega))
      rw [decE_step h0]
      refine ⟨?_, fun c hc => ?_⟩
      · unfold valOf at ih ⊢
        rw [List.foldl_append, ih.1]
        simp only [List.foldl_cons, List.foldl_nil, stepD, hd]
        omega
      · rcases List.mem_append.1 hc with h1 | h1
        · exact ih.2 c h1
        · rw [List.mem_singleton] at h1
          subst h1
          omega
theorem itoa_nat (n : Nat) (h : n ≤ 999999999) : valOf (Lib.itoa (n : Int)) = n ∧ allDig (Lib.itoa (n : Int)) ∧ (Lib.itoa (n : Int)).length ≤ 9 ∧ Lib.itoa (n : Int) ≠ [] := by
  rcases Nat.eq_zero_or_pos n with h0 | h0
  · subst h0
    rw [show ((0 : Nat) : Int) = 0 from rfl, itoa_zero]
    exact ⟨rfl, by unfold allDig; decide, by decide, by decide⟩
  · rw [itoa_pos (by omega), show (n : Int).toNat = n by omega]
    have h1 := decE_val 9 n (by omega)
    exact ⟨h1.1, h1.2, decE_len 9 n (by omega), by rw [decE_step h0]; simp⟩
/-- the number of 0 .. 999999999 whose numeral it is; -1 where there is none. -/
def rd (l : List UInt8) : Int := if valOf l ≤ 999999999 ∧ Lib.itoa (valOf l : Nat) = l then (valOf l : Nat) else -1
theorem rd_yes {l : List UInt8} {n : Nat} (h : n ≤ 999999999) (he : Lib.itoa (n : Int) = l) : rd l = n := by
  have hv : valOf l = n := by rw [← he]; exact (itoa_nat n h).1
  unfold rd
  rw [hv, if_pos ⟨h, he⟩]
theorem rd_no {l : List UInt8} (h : ∀ n : Nat, n ≤ 999999999 → Lib.itoa (n : Int) = l → False) : rd l = -1 := by
  unfold rd
  rw [if_neg (fun hh => h _ hh.1 hh.2)]
theorem fold_mono : ∀ (l : List UInt8) (a : Nat), a ≤ l.foldl stepD a
  | [], a => Nat.le_refl _
  | c :: l, a => by
    have := fold_mono l (stepD a c)
    simp only [List.foldl_cons]
    have h2 : a ≤ stepD a c := by unfold stepD; omega
    omega
theorem parse_all : ∀ (l : List UInt8) (a : Nat), allDig l → l.foldl stepD a ≤ 999999999 → Lib.parseUint10 a l = .ok (l.foldl stepD a)
  | [], a, _, _ => rfl
  | c :: l, a, hd, hb => by
    have hc := hd c (by simp)
    have hm := fold_mono l (stepD a c)
    simp only [List.foldl_cons] at hb ⊢
    have h2 : a * 10 ≤ stepD a c := by unfold stepD; omega
    unfold Lib.parseUint10
    rw [if_pos hc, if_neg (by omega), if_neg (by unfold stepD at hm hb; omega)]
    exact parse_all l _ (fun d h => hd d (by simp [h])) hb
theorem atoi_itoa (n : Nat) (h : n ≤ 999999999) : Lib.atoiAll (Lib.itoa (n : Int)) = .ok (n : Int) := by
  obtain ⟨hv, hd, _, hne⟩ := itoa_nat n h
  generalize Lib.itoa (n : Int) = l at *
  match l, hne with
  | c :: r, _ =>
    have hc := hd c (by simp)
    have hp : Lib.parseMag (c :: r) = .ok n := by
      unfold Lib.parseMag
      rw [if_neg (by simp), parse_all _ 0 hd (by unfold valOf at hv; rw [hv]; exact h)]
      unfold valOf at hv
      rw [hv]
    rw [Lib.atoiAll_plain c r (by omega) (by omega), hp]
    unfold Lib.signless
    simp
    omega
theorem valOf_snoc (s : ByteArray) (k : Nat) (h : k < s.size) : valOf (s.data.toList.take (k + 1)) = valOf (s.data.toList.take k) * 10 + (s[k].toNat - 48) := by
  rw [List.take_succ_eq_append_getElem (by simpa using h)]
  unfold valOf
  rw [List.foldl_append]
  rfl
theorem valOf_lt : ∀ (l : List UInt8) (a : Nat), allDig l → l.foldl stepD a < (a + 1) * 10 ^ l.length
  | [], a, _ => by simp
  | c :: l, a, hd => by
    have hc := hd c (by simp)
    have ih := valOf_lt l (stepD a c) (fun d h => hd d (by simp [h]))
    simp only [List.foldl_cons, List.length_cons, Nat.pow_succ]
    have h2 : stepD a c + 1 ≤ (a + 1) * 10 := by unfold stepD; omega
    calc List.foldl stepD (stepD a c) l < (stepD a c + 1) * 10 ^ l.length := ih
      _ ≤ (a + 1) * 10 * 10 ^ l.length := Nat.mul_le_mul_right _ h2
      _ = (a + 1) * (10 ^ l.length * 10) := by rw [Nat.mul_assoc, Nat.mul_comm 10]
end Go.Proofs.YtdhncpkcbeggmaaDoor
