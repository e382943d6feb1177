/-
  Plain facts on lists of bytes that the walks of this seat use: how many ones a byte has, where a list is cut. No program.
-/
import Derived.Lib.BitFns
import Derived.Lib.Hide
import Derived.Laws.BitsAllLaws
import Derived.WalkKit
set_option linter.unusedVariables false
namespace Go.Proofs.YtbgjeipgmlcgaaaDoor
open Go Go.RowKit

theorem ret_int {k : IntKind} {a b : Int} (h : a = b) : Ending.returned (.int k a) = .returned (.int k b) := by rw [h]

theorem ret_str {a b : List UInt8} (h : a = b) : Ending.returned (.string ⟨a.toArray⟩) = .returned (.string ⟨b.toArray⟩) := by rw [h]
theorem ret_v {k : IntKind} {a b : Int} (h : a = b) : Value.int k a = .int k b := by rw [h]
theorem wrap64_id (a : Int) (h0 : -9223372036854775808 ≤ a) (h1 : a ≤ 9223372036854775807) : wrap64 a = a := by
  simp only [wrap64]; omega
theorem u8_and_one (x : Int) (h0 : 0 ≤ x) (h1 : x < 256) : bits .and .u8 x 1 = x % 2 := by
  rw [u8_and x 1 h0 h1 (by omega) (by omega)]
  show ((x.toNat &&& 1 : Nat) : Int) = _
  rw [nat_mask1]; omega
theorem bit_of (c : UInt8) (j : Nat) : bits .and .u8 ((c.toNat : Int) / 2 ^ j) 1 = ((c.toNat / 2 ^ j % 2 : Nat) : Int) := by
  have hc := c.toNat_lt
  have e : ((c.toNat : Int) / 2 ^ j) = ((c.toNat / 2 ^ j : Nat) : Int) := by push_cast; rfl
  have hl : c.toNat / 2 ^ j ≤ c.toNat := Nat.div_le_self _ _
  rw [e]
  generalize c.toNat / 2 ^ j = m at *
  rw [u8_and_one _ (by omega) (by omega)]
  omega
/-- the ones of a byte. -/
def popc (c : UInt8) : Int := (Lib.onesCount c.toNat : Int)
/-- the ones of a list of bytes. -/
def ones : List UInt8 → Int
  | [] => 0
  | c :: l => popc c + ones l
theorem popc_bd (c : UInt8) : 0 ≤ popc c ∧ popc c ≤ 8 := by
  have := Lib.onesCount_le8 ⟨c.toNat, c.toNat_lt⟩
  simp only at this
  unfold popc; omega
theorem ones_append (l m : List UInt8) : ones (l ++ m) = ones l + ones m := by
  induction l with
  | nil => simp [ones]
  | cons c l ih => simp only [List.cons_append, ones, ih]; omega
theorem ones_bd (l : List UInt8) : 0 ≤ ones l ∧ ones l ≤ 8 * l.length := by
  induction l with
  | nil => simp [ones]
  | cons c l ih => have := popc_bd c; simp only [ones, List.length_cons]; omega
theorem take_snoc (s : ByteArray) (k : Nat) (h : k < s.size) : s.data.toList.take (k + 1) = s.data.toList.take k ++ [s[k]] := by
  rw [List.take_succ_eq_append_getElem (by simpa using h)]; rfl
theorem ones_snoc (s : ByteArray) (k : Nat) (h : k < s.size) : ones (s.data.toList.take (k + 1)) = ones (s.data.toList.take k) + popc s[k] := by
  rw [take_snoc s k h, ones_append]; simp [ones]
theorem ones_take_bd (s : ByteArray) (k : Nat) : 0 ≤ ones (s.data.toList.take k) ∧ ones (s.data.toList.take k) ≤ 8 * k := by
  have := ones_bd (s.data.toList.take k)
  have hl : (s.data.toList.take k).length ≤ k := List.length_take_le _ _
  omega
/-- the ones among a byte's lowest j bits. -/
def popcTo (c : UInt8) : Nat → Int
  | 0 => 0
  | j + 1 => popcTo c j + ((c.toNat / 2 ^ j % 2 : Nat) : Int)
theorem popcTo_8 : ∀ c : Fin 256, popcTo (UInt8.ofNat c.val) 8 = popc (UInt8.ofNat c.val) := by decide +kernel
theorem popcTo_bd (c : UInt8) (j : Nat) : 0 ≤ popcTo c j ∧ popcTo c j ≤ j := by
  induction j with
  | zero => simp [popcTo]
  | succ j ih =>
    have : c.toNat / 2 ^ j % 2 < 2 := Nat.mod_lt _ (by omega)
    simp only [popcTo]; omega
theorem popcTo_all (c : UInt8) : popcTo c 8 = popc c := by
  have h := popcTo_8 ⟨c.toNat, c.toNat_lt⟩
  simpa using h
theorem ones_step (a : Int) (c : UInt8) (j : Nat) (h0 : 0 ≤ a) (h1 : a ≤ 1099511627776) (hj : j < 8) :
    wrap64 (a + popcTo c j + wrap64 (bits .and .u8 ((c.toNat : Int) / 2 ^ j) 1)) = a + popcTo c (j + 1) := by
  have hq := popcTo_bd c j
  have hb2 : c.toNat / 2 ^ j % 2 < 2 := Nat.mod_lt _ (by omega)
  rw [bit_of c j]
  simp only [popcTo]
  generalize c.toNat / 2 ^ j % 2 = m at *
  rw [wrap64_id (m : Int) (by omega) (by omega), wrap64_id _ (by omega) (by omega)]
  omega
/-- a digit 0 .. f of a number below 16. -/
def hexDig (n : Nat) : UInt8 := if n < 10 then UInt8.ofNat (48 + n) else UInt8.ofNat (87 + n)
/-- two digits a byte. -/
def hexOf : List UInt8 → List UInt8
  | [] => []
  | c :: l => hexDig (c.toNat / 16) :: hexDig (c.toNat % 16) :: hexOf l
theorem hexOf_append (l m : List UInt8) : hexOf (l ++ m) = hexOf l ++ hexOf m := by
  induction l with
  | nil => rfl
  | cons c l ih => simp only [List.cons_append, hexOf, ih]
theorem hexOf_length (l : List UInt8) : (hexOf l).length = 2 * l.length := by
  induction l with
  | nil => rfl
  | cons c l ih => simp only [hexOf, List.length_cons, ih]; omega
theorem hexOf_snoc (s : ByteArray) (k : Nat) (h : k < s.size) : hexOf (s.data.toList.take (k + 1)) = hexOf (s.data.toList.take k) ++ [hexDig (s[k].toNat / 16), hexDig (s[k].toNat % 16)] := by
  rw [take_snoc s k h, hexOf_append]; rfl
/-- a byte's cell. -/
def cell8 (c : UInt8) : Value := .int .u8 (c.toNat : Int)
def cells8 (l : List UInt8) : List Value := l.map cell8
theorem cells8_append (l m : List UInt8) : cells8 (l ++ m) = cells8 l ++ cells8 m := List.map_append
theorem cells8_length (l : List UInt8) : (cells8 l).length = l.length := List.length_map _
/-- the exclusive or of the first k bytes. -/
def xorTo (a b : ByteArray) (k : Nat) : List UInt8 := List.zipWith (fun x y => x ^^^ y) (a.data.toList.take k) (b.data.toList.take k)
def xorOf (a b : ByteArray) : List UInt8 := List.zipWith (fun x y => x ^^^ y) a.data.toList b.data.toList
theorem xorTo_snoc (a b : ByteArray) (k : Nat) (ha : k < a.size) (hb : k < b.size) : xorTo a b (k + 1) = xorTo a b k ++ [a[k] ^^^ b[k]] := by
  have h1 : a.data.toList.length = a.size := by simp
  have h2 : b.data.toList.length = b.size := by simp
  unfold xorTo
  rw [take_snoc a k ha, take_snoc b k hb, List.zipWith_append (by simp [List.length_take, h1, h2]; omega)]
  rfl
theorem xorTo_all (a b : ByteArray) (k : Nat) (ha : k ≤ a.size) (hb : k ≤ b.size) (h : a.size ≤ k ∨ b.size ≤ k) : xorTo a b k = xorOf a b := by
  have h1 : a.data.toList.length = a.size := by simp
  have h2 : b.data.toList.length = b.size := by simp
  unfold xorTo xorOf
  rw [← List.take_zipWith, List.take_of_length_le (by simp [List.length_zipWith]; omega)]
theorem xorTo_length (a b : ByteArray) (k : Nat) (ha : k ≤ a.size) (hb : k ≤ b.size) : (xorTo a b k).length = k := by
  have h1 : a.data.toList.length = a.size := by simp
  have h2 : b.data.toList.length = b.size := by simp
  simp [xorTo, List.length_zipWith, List.length_take]; omega
theorem u8_xor_bytes (c d : UInt8) : bits .xor .u8 (c.toNat : Int) (d.toNat : Int) = ((c ^^^ d).toNat : Int) := by
  have := c.toNat_lt; have := d.toNat_lt
  rw [u8_xor_nat _ _ (by omega) (by omega)]
  rw [UInt8.toNat_xor]
/-- a row of n bytes whose first k are the exclusive or. -/
def xorRow (a b : ByteArray) (k n : Nat) : List UInt8 := xorTo a b k ++ List.replicate (n - k) 0
theorem xorRow_all (a b : ByteArray) (k n : Nat) (hna : n ≤ a.size) (hnb : n ≤ b.size) (hk : k ≤ n) (h : n ≤ k) (hn : a.size ≤ n ∨ b.size ≤ n) : xorRow a b k n = xorOf a b := by
  have : n - k = 0 := by omega
  rw [xorRow, this, xorTo_all a b k (by omega) (by omega) (by omega)]
  simp
theorem xorRow_length (a b : ByteArray) (k n : Nat) (hna : n ≤ a.size) (hnb : n ≤ b.size) (hk : k ≤ n) : (xorRow a b k n).length = n := by
  rw [xorRow, List.length_append, xorTo_length a b k (by omega) (by omega)]; simp; omega
theorem xorRow_set (a b : ByteArray) (k n : Nat) (hna : n ≤ a.size) (hnb : n ≤ b.size) (hk : k < n) :
    (xorRow a b k n).set k (a[k]'(by omega) ^^^ b[k]'(by omega)) = xorRow a b (k + 1) n := by
  have h := xorTo_length a b k (by omega) (by omega)
  unfold xorRow
  rw [xorTo_snoc a b k (by omega) (by omega), List.set_append_right _ _ (by omega), h, Nat.sub_self, show n - k = (n - (k + 1)) + 1 by omega, List.replicate_succ]
  simp
theorem xorRow_zero (a b : ByteArray) (n : Nat) : xorRow a b 0 n = List.replicate n 0 := by
  simp [xorRow, xorTo]
end Go.Proofs.YtbgjeipgmlcgaaaDoor
