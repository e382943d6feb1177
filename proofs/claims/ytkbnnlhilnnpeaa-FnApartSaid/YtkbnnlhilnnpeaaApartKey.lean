/-
  Plain facts on keys of which one byte is changed; round keys as texts. No program.
-/
import Derived.Test.YtkbnnlhilnnpeaaApartMath
import Derived.Test.YtkbnnlhilnnpeaaPure
import Derived.Test.YtkbnnlhilnnpeaaKey
set_option linter.unusedVariables false
namespace Go.Proofs.Ytkbnnlhilnnpeaa
open Go Go.RowKit

theorem rot8_inj {x y : UInt32} (h : rot x 8 = rot y 8) : x = y := by
  have hx := rot_back x 8 (by omega)
  have hy := rot_back y 8 (by omega)
  rw [← hx, h, hy]
theorem subW_inj {x y : UInt32} (h : subW x = subW y) : x = y := by
  unfold subW mapW at h
  have h0 := congrArg (fun u => wb u 0) h
  have h1 := congrArg (fun u => wb u 1) h
  have h2 := congrArg (fun u => wb u 2) h
  have h3 := congrArg (fun u => wb u 3) h
  simp only [wb0_mk, wb1_mk, wb2_mk, wb3_mk] at h0 h1 h2 h3
  exact w_ext (sbox_inj h0) (sbox_inj h1) (sbox_inj h2) (sbox_inj h3)
theorem w_xor_right {a b c : UInt32} (h : a ^^^ c = b ^^^ c) : a = b := by
  have := congrArg (fun u => u ^^^ c) h
  simpa [UInt32.xor_assoc] using this
theorem w_xor_left {a b c : UInt32} (h : c ^^^ a = c ^^^ b) : a = b := by
  rw [UInt32.xor_comm c a, UInt32.xor_comm c b] at h; exact w_xor_right h
theorem growW_inj {n i : Nat} {x y : UInt32} (h : growW n i x = growW n i y) : x = y := by
  unfold growW at h
  by_cases h0 : i % n = 0
  · rw [if_pos h0, if_pos h0] at h
    exact rot8_inj (subW_inj (w_xor_right h))
  · rw [if_neg h0, if_neg h0] at h
    by_cases h1 : n = 8 ∧ i % 8 = 4
    · rw [if_pos h1, if_pos h1] at h; exact subW_inj h
    · rw [if_neg h1, if_neg h1] at h; exact h
/-- whether the words at place i of two keys differ. -/
def zd (s t : ByteArray) (n i : Nat) : Bool := ew s n i != ew t n i
theorem zd_no {s t : ByteArray} {n i : Nat} (h : zd s t n i = false) : ew s n i = ew t n i := by
  unfold zd at h; simpa using h
theorem zd_of {s t : ByteArray} {n i : Nat} (h : ew s n i = ew t n i) : zd s t n i = false := by
  unfold zd; simp [h]
theorem zd_yes {s t : ByteArray} {n i : Nat} (h : zd s t n i = true) : ew s n i ≠ ew t n i := by
  unfold zd at h; simpa using h
theorem zd_tri (s t : ByteArray) (n : Nat) (h0 : 0 < n) (i : Nat) (hi : n ≤ i) : tri (zd s t n i) (zd s t n (i - n)) (zd s t n (i - 1)) = true := by
  have es := ew_hi s n i hi h0
  have et := ew_hi t n i hi h0
  cases h1 : zd s t n (i - 1)
  · have e := zd_no h1
    rw [e] at es
    cases h2 : zd s t n (i - n)
    · have e2 := zd_no h2
      have : zd s t n i = false := zd_of (by rw [es, et, e2])
      rw [this]; rfl
    · have e2 := zd_yes h2
      have : zd s t n i = true := by
        cases h3 : zd s t n i
        · have e3 := zd_no h3
          rw [es, et] at e3
          exact absurd (w_xor_right e3) e2
        · rfl
      rw [this]; rfl
  · have e := zd_yes h1
    cases h2 : zd s t n (i - n)
    · have e2 := zd_no h2
      have : zd s t n i = true := by
        cases h3 : zd s t n i
        · have e3 := zd_no h3
          rw [es, et, e2] at e3
          exact absurd (growW_inj (w_xor_left e3)) e
        · rfl
      rw [this]; rfl
    · cases zd s t n i <;> rfl
/-- a text whose byte at place q is turned by c. -/
def chg (s : ByteArray) (q : Nat) (c : UInt8) : ByteArray := ⟨(s.data.toList.set q (byteOf s q ^^^ c)).toArray⟩
theorem chg_size (s : ByteArray) (q : Nat) (c : UInt8) : (chg s q c).size = s.size := by
  show ((s.data.toList.set q (byteOf s q ^^^ c)).toArray).size = s.data.size
  simp
theorem byteOf_chg (s : ByteArray) (q : Nat) (c : UInt8) (h : q < s.size) : byteOf (chg s q c) q = byteOf s q ^^^ c := by
  have h2 : q < s.data.toList.length := by simpa using h
  unfold chg
  show ((s.data.toList.set q (byteOf s q ^^^ c)).toArray).toList.getD q 0 = byteOf s q ^^^ c
  simp [List.getD_eq_getElem?_getD, List.getElem?_set]
  rw [if_pos h]; rfl
theorem x_ne (a c : UInt8) (h : c ≠ 0) : a ^^^ c ≠ a := fun e => h (by
  have := congrArg (fun u => a ^^^ u) e
  simpa [← UInt8.xor_assoc] using this)
theorem chg_word (s : ByteArray) (q : Nat) (c : UInt8) (h : q < s.size) (hc : c ≠ 0) (i j : Nat) (hj : j < 4) (e : q = i + j) : getW s i ≠ getW (chg s q c) i := fun h2 => by
  have h3 := congrArg (fun u => wb u j) h2
  simp only [getW_at _ _ j hj] at h3
  rw [← e, byteOf_chg s q c h] at h3
  exact x_ne _ c hc h3.symm
theorem chg_of {s : ByteArray} {n : Nat} (h : kOf s n) (q : Nat) (c : UInt8) : kOf (chg s q c) n := ⟨by rw [chg_size]; exact h.1, h.2⟩
theorem chg_some {s : ByteArray} {n : Nat} (h : kOf s n) (q : Nat) (c : UInt8) (hq : q < s.size) (hc : c ≠ 0) : ∃ p, p < n ∧ zd s (chg s q c) n p = true := by
  have hs := h.1
  refine ⟨q / 4, by omega, ?_⟩
  cases hz : zd s (chg s q c) n (q / 4)
  · have := zd_no hz
    rw [ew_lo _ _ _ (by omega), ew_lo _ _ _ (by omega)] at this
    exact absurd this (chg_word s q c hq hc (4 * (q / 4)) (q % 4) (by omega) (by omega))
  · rfl
theorem chg_many {s : ByteArray} {n : Nat} (h : kOf s n) (q : Nat) (c : UInt8) (hq : q < s.size) (hc : c ≠ 0) : kL n / 4 < cnt (zd s (chg s q c) n) 0 (kL n) :=
  many _ n h.2 (fun i hi _ => zd_tri _ _ n (by have := h.le; omega) i hi) (chg_some h q c hq hc)
theorem blkW_word (f : Nat → UInt32) (k : Nat) (h : k < 4) : getW (blkW f) (4 * k) = f k := by
  have h4 : k = 0 ∨ k = 1 ∨ k = 2 ∨ k = 3 := by omega
  rcases h4 with rfl | rfl | rfl | rfl <;> exact mkW_wb _
theorem blkW_inj {f g : Nat → UInt32} (h : blkW f = blkW g) (k : Nat) (hk : k < 4) : f k = g k := by
  rw [← blkW_word f k hk, h, blkW_word g k hk]
theorem chg_last {s : ByteArray} (h : kOf s 4) (q : Nat) (c : UInt8) (hq : q < s.size) (hc : c ≠ 0) : blkW (fun j => ew s 4 (4 * 10 + j)) ≠ blkW (fun j => ew (chg s q c) 4 (4 * 10 + j)) := fun e => by
  obtain ⟨p, hp, hz⟩ := chg_some h q c hq hc
  have := back (zd s (chg s q c) 4) 4 (by omega) 40 (fun i hi _ => zd_tri _ _ 4 (by omega) i hi) (fun k hk => zd_of (blkW_inj e k hk)) p (by omega)
  rw [hz] at this; cases this
theorem blkW_first {s : ByteArray} {n : Nat} (h : kOf s n) : blkW (fun j => ew s n (4 * 0 + j)) = s.extract 0 16 := by
  have hs := h.1
  have hle := h.le
  have hsz : (s.extract 0 16).size = 16 := by simp; omega
  apply ByteArray.ext
  apply Array.ext
  · show 16 = (s.extract 0 16).size
    omega
  · intro j h1 h2
    have hj : j < 16 := h1
    have e : (s.extract 0 16).data[j] = byteOf s j := by
      have : (s.extract 0 16)[j]'(by omega) = byteOf s (0 + j) := by rw [ByteArray.getElem_extract, byteOf_at]
      rw [Nat.zero_add] at this
      exact this
    rw [e]
    have w0 := fun k (hk : k < 4) i (hi : i < 4) => (congrArg (fun u => wb u i) (ew_lo s n k (by omega))).trans (getW_at s (4 * k) i hi)
    have hj16 : j = 0 ∨ j = 1 ∨ j = 2 ∨ j = 3 ∨ j = 4 ∨ j = 5 ∨ j = 6 ∨ j = 7 ∨ j = 8 ∨ j = 9 ∨ j = 10 ∨ j = 11 ∨ j = 12 ∨ j = 13 ∨ j = 14 ∨ j = 15 := by omega
    rcases hj16 with rfl | rfl | rfl | rfl | rfl | rfl | rfl | rfl | rfl | rfl | rfl | rfl | rfl | rfl | rfl | rfl
    · exact w0 0 (by omega) 0 (by omega)
    · exact w0 0 (by omega) 1 (by omega)
    · exact w0 0 (by omega) 2 (by omega)
    · exact w0 0 (by omega) 3 (by omega)
    · exact w0 1 (by omega) 0 (by omega)
    · exact w0 1 (by omega) 1 (by omega)
    · exact w0 1 (by omega) 2 (by omega)
    · exact w0 1 (by omega) 3 (by omega)
    · exact w0 2 (by omega) 0 (by omega)
    · exact w0 2 (by omega) 1 (by omega)
    · exact w0 2 (by omega) 2 (by omega)
    · exact w0 2 (by omega) 3 (by omega)
    · exact w0 3 (by omega) 0 (by omega)
    · exact w0 3 (by omega) 1 (by omega)
    · exact w0 3 (by omega) 2 (by omega)
    · exact w0 3 (by omega) 3 (by omega)
end Go.Proofs.Ytkbnnlhilnnpeaa
