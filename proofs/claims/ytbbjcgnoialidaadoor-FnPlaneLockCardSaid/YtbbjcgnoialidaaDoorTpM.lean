/-
  Plain facts on planes that are filled place by place, and on bytes that are filled bit by bit. No program.
-/
import Derived.Test.YtbbjcgnoialidaaDoorArr64
import Derived.Test.YtbbjcgnoialidaaDoorBitRound
import Derived.Test.YtbbjcgnoialidaaDoorPure
set_option linter.unusedVariables false
set_option linter.unusedSimpArgs false
namespace Go.Proofs.YtbbjcgnoialidaaDoor
open Go Go.RowKit

theorem wOf_stop (f : Nat → Bool) (m n : Nat) (h : m ≤ n) (hf : ∀ j, m ≤ j → j < n → f j = false) : wOf f n = wOf f m := by
  induction n with
  | zero => rw [show m = 0 by omega]
  | succ n ih =>
    by_cases e : m = n + 1
    · rw [e]
    · rw [wOf, ih (by omega) (fun j h1 h2 => hf j h1 (by omega)), hf n (by omega) (by omega)]; simp
/-- plane k of the first n bytes of a text. -/
def ptW (s : ByteArray) (n k : Nat) : Nat := wOf (fun j => bt (byteOf s j) k) n
theorem ptW_lt (s : ByteArray) (n k : Nat) : ptW s n k < 2 ^ n := wOf_lt _ _
theorem ptW_up (s : ByteArray) (n k : Nat) : ptW s (n + 1) k = ptW s n k + (byteOf s n).toNat / 2 ^ k % 2 * 2 ^ n := by
  unfold ptW; rw [wOf, bt_div]
theorem byteOf_out (s : ByteArray) (j : Nat) (h : s.size ≤ j) : byteOf s j = 0 := by
  unfold byteOf
  rw [List.getD_eq_getElem?_getD, List.getElem?_eq_none (by simpa using h)]; rfl
theorem ptW_all (s : ByteArray) (m k : Nat) (hm : m ≤ 64) (h : m = 64 ∨ s.size ≤ m) : ptW s m k = plW (byteOf s) k := by
  unfold ptW plW
  rw [wOf_stop (fun i => bt (byteOf s i) k) m 64 hm (fun j h1 h2 => ?_)]
  rw [byteOf_out s j (by omega), bt_0]
theorem or_up (x b n : Nat) (h : x < 2 ^ n) : x ||| b * 2 ^ n = x + b * 2 ^ n := by
  rw [Nat.or_comm, nat_or_add b x n h, Nat.add_comm]
theorem up_lt (x b n N : Nat) (h : x < 2 ^ n) (hb : b < 2) (hn : n < N) : x + b * 2 ^ n < 2 ^ N ∧ b * 2 ^ n < 2 ^ N := by
  have h1 : 2 ^ (n + 1) ≤ 2 ^ N := Nat.pow_le_pow_right (by omega) (by omega)
  rw [Nat.pow_succ] at h1
  have h2 : b * 2 ^ n ≤ 1 * 2 ^ n := Nat.mul_le_mul_right _ (by omega)
  omega
theorem q_or (s : ByteArray) (n k : Nat) (hn : n < 64) (c : UInt8) (hc : byteOf s n = c) :
    bits .or .u64 (ptW s n k : Int) (IntKind.u64.wrap ((c.toNat : Int) / 2 ^ k % 2 * 2 ^ n)) = (ptW s (n + 1) k : Int) := by
  subst hc
  have hl := ptW_lt s n k
  obtain ⟨h1, h2⟩ := up_lt (ptW s n k) ((byteOf s n).toNat / 2 ^ k % 2) n 64 hl (Nat.mod_lt _ (by omega)) hn
  have h3 : ptW s n k < 2 ^ 64 := by omega
  have e : ((byteOf s n).toNat : Int) / 2 ^ k % 2 * 2 ^ n = (((byteOf s n).toNat / 2 ^ k % 2 * 2 ^ n : Nat) : Int) := by
    rw [Int.natCast_mul, Int.natCast_emod, Int.natCast_ediv, Int.natCast_pow, Int.natCast_pow]; rfl
  rw [e, ptW_up]
  generalize ptW s n k = x at *
  generalize (byteOf s n).toNat / 2 ^ k % 2 = b at *
  rw [wrapQ _ h2, u64_or_nat _ _ h3 h2, or_up _ _ _ hl]
/-- the first k bits of a byte. -/
def fbW (c : UInt8) (k : Nat) : Nat := wOf (fun j => bt c j) k
theorem fbW_lt (c : UInt8) (k : Nat) : fbW c k < 2 ^ k := wOf_lt _ _
theorem fbW_8 (c : UInt8) : fbW c 8 = c.toNat := by
  apply Nat.eq_of_testBit_eq
  intro i
  unfold fbW bt
  rw [wOf_bit]
  by_cases h : i < 8
  · simp [h]
  · have : c.toNat < 2 ^ i := Nat.lt_of_lt_of_le c.toNat_lt (Nat.pow_le_pow_right (n := 2) (by omega) (show 8 ≤ i by omega))
    rw [Nat.testBit_lt_two_pow this]; simp [h]
/-- bit k of the byte at place i, out of a plane. -/
theorem q_bit (s : Nat → UInt8) (i k : Nat) (hi : i < 64) : bits .and .u64 ((plW s k : Int) / 2 ^ i) 1 = ((bt (s i) k).toNat : Int) := by
  have hb := plW_bit s k i hi
  have hx := plW_lt' s k
  have e : (plW s k : Int) / 2 ^ i = ((plW s k / 2 ^ i : Nat) : Int) := by rw [Int.natCast_ediv, Int.natCast_pow]; rfl
  rw [e, show (1 : Int) = ((1 : Nat) : Int) by rfl, u64_and_nat _ _ (Nat.lt_of_le_of_lt (Nat.div_le_self _ _) hx) (by omega), Nat.and_one_is_mod]
  rw [← hb, Nat.testBit_eq_decide_div_mod_eq]
  have := Nat.mod_two_eq_zero_or_one (plW s k / 2 ^ i)
  rcases this with h | h <;> rw [h] <;> rfl
theorem b_or8 (c : UInt8) (k m : Nat) (hk : k < 8) (hm : (bt c k).toNat = m) : bits .or .u8 (fbW c k : Int) ((m : Int) * 2 ^ k % 256) = (fbW c (k + 1) : Int) := by
  subst hm
  have hl := fbW_lt c k
  have hb : (bt c k).toNat < 2 := by cases bt c k <;> simp
  obtain ⟨h1, h2⟩ := up_lt (fbW c k) _ k 8 hl hb hk
  have h3 : fbW c k < 2 ^ 8 := by omega
  have e : ((bt c k).toNat : Int) * 2 ^ k = (((bt c k).toNat * 2 ^ k : Nat) : Int) := by rw [Int.natCast_mul, Int.natCast_pow]; rfl
  have e2 : fbW c (k + 1) = fbW c k + (bt c k).toNat * 2 ^ k := rfl
  rw [e, e2]
  generalize fbW c k = x at *
  generalize (bt c k).toNat = b at *
  have e3 : ((b * 2 ^ k : Nat) : Int) % 256 = ((b * 2 ^ k : Nat) : Int) := by omega
  rw [e3, u8_or_nat _ _ h3 h2, or_up _ _ _ hl]
theorem b_or64 (c : UInt8) (k m : Nat) (hk : k < 8) (hm : (bt c k).toNat = m) : bits .or .i64 (fbW c k : Int) (wrap64 ((m : Int) * 2 ^ k)) = (fbW c (k + 1) : Int) := by
  subst hm
  have hl := fbW_lt c k
  have hb : (bt c k).toNat < 2 := by cases bt c k <;> simp
  obtain ⟨h1, h2⟩ := up_lt (fbW c k) _ k 8 hl hb hk
  have h3 : fbW c k < 2 ^ 8 := by omega
  have e : ((bt c k).toNat : Int) * 2 ^ k = (((bt c k).toNat * 2 ^ k : Nat) : Int) := by rw [Int.natCast_mul, Int.natCast_pow]; rfl
  have e2 : fbW c (k + 1) = fbW c k + (bt c k).toNat * 2 ^ k := rfl
  rw [e, e2]
  generalize fbW c k = x at *
  generalize (bt c k).toNat = b at *
  have e3 : wrap64 ((b * 2 ^ k : Nat) : Int) = ((b * 2 ^ k : Nat) : Int) := wrap64_id _ (by omega) (by omega)
  rw [e3, i64_or_nat _ _ (by omega) (by omega), or_up _ _ _ hl]
end Go.Proofs.YtbbjcgnoialidaaDoor
