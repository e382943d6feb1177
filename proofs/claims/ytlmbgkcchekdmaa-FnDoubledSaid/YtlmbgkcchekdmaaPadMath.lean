/-
  What is padded, and what is padded back. No program.
-/
import Derived.Test.YtlmbgkcchekdmaaPure
set_option linter.unusedVariables false
set_option linter.unusedSimpArgs false
namespace Go.Proofs.Ytlmbgkcchekdmaa
open Go Go.RowKit

theorem bo_app (a b : ByteArray) (i : Nat) : byteOf (a ++ b) i = if i < a.size then byteOf a i else byteOf b (i - a.size) := by
  have hl : a.data.toList.length = a.size := by simp
  unfold byteOf
  rw [ByteArray.data_append, Array.toList_append, List.getD_eq_getElem?_getD, List.getElem?_append, hl]
  by_cases h : i < a.size
  · rw [if_pos h, if_pos h, List.getD_eq_getElem?_getD]
  · rw [if_neg h, if_neg h, List.getD_eq_getElem?_getD]
/-- as many bytes as there lack to a whole block. -/
def padN (s : ByteArray) : Nat := 16 - s.size % 16
theorem padN_in (s : ByteArray) : 1 ≤ padN s ∧ padN s ≤ 16 := by unfold padN; omega
def padT (s : ByteArray) : ByteArray := s ++ txt (fun _ => UInt8.ofNat (padN s)) (padN s)
theorem padT_size (s : ByteArray) : (padT s).size = s.size + padN s := by unfold padT; rw [ByteArray.size_append, txt_size]
theorem padT_whole (s : ByteArray) : (padT s).size % 16 = 0 := by rw [padT_size]; unfold padN; omega
theorem padT_lo (s : ByteArray) (i : Nat) (h : i < s.size) : byteOf (padT s) i = byteOf s i := by unfold padT; rw [bo_app, if_pos h]
theorem padT_hi (s : ByteArray) (i : Nat) (h1 : s.size ≤ i) (h2 : i < s.size + padN s) : byteOf (padT s) i = UInt8.ofNat (padN s) := by
  unfold padT; rw [bo_app, if_neg (by omega), txt_byte _ _ _ (by omega)]
/-- the last byte of a text as a number. -/
def lastN (t : ByteArray) : Nat := (byteOf t (t.size - 1)).toNat
theorem lastN_lt (t : ByteArray) : lastN t < 256 := UInt8.toNat_lt _
theorem lastN_pad (s : ByteArray) : lastN (padT s) = padN s := by
  have h := padN_in s
  unfold lastN
  rw [padT_size, padT_hi s _ (by omega) (by omega), UInt8.toNat_ofNat', Nat.mod_eq_of_lt (by omega)]
/-- the head of a text. -/
theorem head_size (t : ByteArray) (k : Nat) (h : k ≤ t.size) : (t.extract 0 k).size = k := by rw [ByteArray.size_extract]; omega
theorem head_byte (t : ByteArray) (k i : Nat) (h : k ≤ t.size) (hi : i < k) : byteOf (t.extract 0 k) i = byteOf t i := by
  rw [← byteOf_at _ _ (by rw [head_size t k h]; exact hi), ByteArray.getElem_extract, byteOf_at, Nat.zero_add]
theorem head_pad (s : ByteArray) : (padT s).extract 0 s.size = s := by
  refine b_ext _ _ s.size (head_size _ _ (by rw [padT_size]; omega)) rfl fun i hi => ?_
  rw [head_byte _ _ _ (by rw [padT_size]; omega) hi, padT_lo s i hi]
/-- there is a text whose padding this one is. -/
def unOk (t : ByteArray) : Prop := 0 < t.size ∧ lastN t ≤ t.size ∧ padT (t.extract 0 (t.size - lastN t)) = t
instance (t : ByteArray) : Decidable (unOk t) := by unfold unOk; exact inferInstance
def unT (t : ByteArray) : ByteArray := if unOk t then t.extract 0 (t.size - lastN t) else ⟨#[]⟩
theorem unT_yes (t : ByteArray) (h : unOk t) : unT t = t.extract 0 (t.size - lastN t) := if_pos h
theorem unT_no (t : ByteArray) (h : ¬ unOk t) : unT t = ⟨#[]⟩ := if_neg h
theorem un_pad_head (s : ByteArray) : (padT s).extract 0 ((padT s).size - lastN (padT s)) = s := by
  rw [lastN_pad, padT_size, Nat.add_sub_cancel, head_pad]
theorem un_pad_ok (s : ByteArray) : unOk (padT s) := by
  have h := padN_in s
  refine ⟨by rw [padT_size]; omega, by rw [lastN_pad, padT_size]; omega, by rw [un_pad_head]⟩
theorem un_pad (s : ByteArray) : unT (padT s) = s := by rw [unT_yes _ (un_pad_ok s), un_pad_head]
theorem pad_un (t : ByteArray) (h : unOk t) : padT (unT t) = t := by rw [unT_yes t h]; exact h.2.2
theorem padT_inj (s t : ByteArray) (h : padT s = padT t) : s = t := by rw [← un_pad s, h, un_pad t]
/-- .. told by its bytes. -/
theorem unOk_iff (t : ByteArray) : unOk t ↔ 0 < t.size ∧ t.size % 16 = 0 ∧ 1 ≤ lastN t ∧ lastN t ≤ 16 ∧ ∀ i, t.size - lastN t ≤ i → i < t.size → byteOf t i = byteOf t (t.size - 1) := by
  constructor
  · intro h
    obtain ⟨h0, h1, h2⟩ := h
    generalize hu : t.extract 0 (t.size - lastN t) = u at h2
    have hp := padN_in u
    have hl := lastN_pad u
    have hz := padT_size u
    have hw := padT_whole u
    rw [h2] at hl hz hw
    refine ⟨h0, hw, by omega, by omega, fun i h3 h4 => ?_⟩
    have e : ∀ i, u.size ≤ i → i < u.size + padN u → byteOf t i = UInt8.ofNat (padN u) := fun i h5 h6 => by
      have := padT_hi u i h5 h6
      rwa [h2] at this
    rw [e i (by omega) (by omega), e (t.size - 1) (by omega) (by omega)]
  · rintro ⟨h0, h1, h2, h3, h4⟩
    have hk : lastN t ≤ t.size := by omega
    refine ⟨h0, hk, ?_⟩
    have hs := head_size t (t.size - lastN t) (by omega)
    have hn : padN (t.extract 0 (t.size - lastN t)) = lastN t := by unfold padN; rw [hs]; omega
    refine b_ext _ _ t.size (by rw [padT_size, hs, hn]; omega) rfl fun i hi => ?_
    by_cases hlo : i < t.size - lastN t
    · rw [padT_lo _ i (by rw [hs]; exact hlo), head_byte t _ i (by omega) hlo]
    · rw [padT_hi _ i (by rw [hs]; omega) (by rw [hs, hn]; omega), hn, h4 i (by omega) hi]
      unfold lastN
      rw [UInt8.ofNat_toNat]
theorem unOk_not_whole (t : ByteArray) (h : ¬ t.size % 16 = 0) : ¬ unOk t := fun h2 => h ((unOk_iff t).1 h2).2.1
theorem unOk_not_last (t : ByteArray) (h : ¬ (1 ≤ lastN t ∧ lastN t ≤ 16)) : ¬ unOk t := fun h2 => h ⟨((unOk_iff t).1 h2).2.2.1, ((unOk_iff t).1 h2).2.2.2.1⟩
end Go.Proofs.Ytlmbgkcchekdmaa
