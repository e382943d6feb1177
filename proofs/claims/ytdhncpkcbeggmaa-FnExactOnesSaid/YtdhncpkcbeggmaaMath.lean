/-
  Plain facts on lists of bytes that the walks of this seat use: how many ones a byte has, where a list is cut. No program.
-/
import Derived.Lib.BitFns
import Derived.Lib.Hide
import Derived.Laws.BitsAllLaws
import Derived.WalkKit
set_option linter.unusedVariables false
namespace Go.Proofs.Ytdhncpkcbeggmaa
open Go Go.RowKit

theorem ret_int {k : IntKind} {a b : Int} (h : a = b) : Ending.returned (.int k a) = .returned (.int k b) := by rw [h]

theorem ret_v {k : IntKind} {a b : Int} (h : a = b) : Value.int k a = .int k b := by rw [h]
theorem wrap64_id (a : Int) (h0 : -9223372036854775808 ≤ a) (h1 : a ≤ 9223372036854775807) : wrap64 a = a := by
  simp only [wrap64]; omega
theorem u8_and_one (x : Int) (h0 : 0 ≤ x) (h1 : x < 256) : bits .and .u8 x 1 = x % 2 := by
  rw [u8_and x 1 h0 h1 (by omega) (by omega)]
  show ((x.toNat &&& 1 : Nat) : Int) = _
  rw [nat_mask1]; omega
theorem bit_of (c : UInt8) (j : Nat) : bits .and .u8 ((c.toNat : Int) / 2 ^ j) 1 = ((c.toNat / 2 ^ j % 2 : Nat) : Int) := by
  have hc := c.toNat_lt
  have e : ((c.toNat : Int) / 2 ^ j) = ((c.toNat / 2 ^ j : Nat) : Int) := by push_cast; rfl
  have hl : c.toNat / 2 ^ j ≤ c.toNat := Nat.div_le_self _ _
  rw [e]
  generalize c.toNat / 2 ^ j = m at *
  rw [u8_and_one _ (by omega) (by omega)]
  omega
/-- the ones of a byte. -/
def popc (c : UInt8) : Int := (Lib.onesCount c.toNat : Int)
/-- the ones of a list of bytes. -/
def ones : List UInt8 → Int
  | [] => 0
  | c :: l => popc c + ones l
theorem popc_bd (c : UInt8) : 0 ≤ popc c ∧ popc c ≤ 8 := by
  have := Lib.onesCount_le8 ⟨c.toNat, c.toNat_lt⟩
  simp only at this
  unfold popc; omega
theorem ones_append (l m : List UInt8) : ones (l ++ m) = ones l + ones m := by
  induction l with
  | nil => simp [ones]
  | cons c l ih => simp only [List.cons_append, ones, ih]; omega
theorem ones_bd (l : List UInt8) : 0 ≤ ones l ∧ ones l ≤ 8 * l.length := by
  induction l with
  | nil => simp [ones]
  | cons c l ih => have := popc_bd c; simp only [ones, List.length_cons]; omega
theorem take_snoc (s : ByteArray) (k : Nat) (h : k < s.size) : s.data.toList.take (k + 1) = s.data.toList.take k ++ [s[k]] := by
  rw [List.take_succ_eq_append_getElem (by simpa using h)]; rfl
theorem ones_snoc (s : ByteArray) (k : Nat) (h : k < s.size) : ones (s.data.toList.take (k + 1)) = ones (s.data.toList.take k) + popc s[k] := by
  rw [take_snoc s k h, ones_append]; simp [ones]
theorem ones_take_bd (s : ByteArray) (k : Nat) : 0 ≤ ones (s.data.toList.take k) ∧ ones (s.data.toList.take k) ≤ 8 * k := by
  have := ones_bd (s.data.toList.take k)
  have hl : (s.data.toList.take k).length ≤ k := List.length_take_le _ _
  omega
/-- the ones among a byte's lowest j bits. -/
def popcTo (c : UInt8) : Nat → Int
  | 0 => 0
  | j + 1 => popcTo c j + ((c.toNat / 2 ^ j % 2 : Nat) : Int)
theorem popcTo_8 : ∀ c : Fin 256, popcTo (UInt8.ofNat c.val) 8 = popc (UInt8.ofNat c.val) := by decide +kernel
theorem popcTo_bd (c : UInt8) (j : Nat) : 0 ≤ popcTo c j ∧ popcTo c j ≤ j := by
  induction j with
  | zero => simp [popcTo]
  | succ j ih =>
    have : c.toNat / 2 ^ j % 2 < 2 := Nat.mod_lt _ (by omega)
    simp only [popcTo]; omega
theorem popcTo_all (c : UInt8) : popcTo c 8 = popc c := by
  have h := popcTo_8 ⟨c.toNat, c.toNat_lt⟩
  simpa using h
theorem ones_step (a : Int) (c : UInt8) (j : Nat) (h0 : 0 ≤ a) (h1 : a ≤ 1099511627776) (hj : j < 8) :
    wrap64 (a + popcTo c j + wrap64 (bits .and .u8 ((c.toNat : Int) / 2 ^ j) 1)) = a + popcTo c (j + 1) := by
  have hq := popcTo_bd c j
  have hb2 : c.toNat / 2 ^ j % 2 < 2 := Nat.mod_lt _ (by omega)
  rw [bit_of c j]
  simp only [popcTo]
  generalize c.toNat / 2 ^ j % 2 = m at *
  rw [wrap64_id (m : Int) (by omega) (by omega), wrap64_id _ (by omega) (by omega)]
  omega
end Go.Proofs.Ytdhncpkcbeggmaa
