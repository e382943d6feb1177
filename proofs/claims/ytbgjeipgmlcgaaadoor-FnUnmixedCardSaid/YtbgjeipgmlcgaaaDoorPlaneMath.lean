/-
  Plain facts on parities and planes of bytes, and on integers of which the lowest eight bits count. No program.
-/
import Derived.Test.YtbgjeipgmlcgaaaDoorFieldMath
set_option linter.unusedVariables false
namespace Go.Proofs.YtbgjeipgmlcgaaaDoor
open Go Go.RowKit

/-- whether an odd number of the lowest k bits are ones. -/
def parTo (n : Nat) : Nat → Nat
  | 0 => 0
  | k + 1 => parTo n k ^^^ (n / 2 ^ k % 2)
def par (b : UInt8) : Nat := parTo b.toNat 8
theorem parTo_lt (n k : Nat) : parTo n k < 2 := by
  induction k with
  | zero => simp [parTo]
  | succ k ih => exact Nat.xor_lt_two_pow (n := 1) ih (Nat.mod_lt _ (by omega))
theorem par_lt (b : UInt8) : par b < 2 := parTo_lt _ _
theorem parTo_x (m n k : Nat) : parTo (m ^^^ n) k = parTo m k ^^^ parTo n k := by
  induction k with
  | zero => simp [parTo]
  | succ k ih =>
    have h1 : (m ^^^ n) / 2 ^ k = m / 2 ^ k ^^^ n / 2 ^ k := nat_xor_div m n k
    have h2 : (m / 2 ^ k ^^^ n / 2 ^ k) % 2 = m / 2 ^ k % 2 ^^^ n / 2 ^ k % 2 := Nat.xor_mod_two_pow (n := 1)
    simp only [parTo]
    rw [ih, h1, h2]
    generalize parTo m k = p
    generalize parTo n k = q
    generalize m / 2 ^ k % 2 = r
    generalize n / 2 ^ k % 2 = s
    rw [Nat.xor_assoc, Nat.xor_assoc, ← Nat.xor_assoc q r s, Nat.xor_comm q r, Nat.xor_assoc r q s]
theorem par_x (a b : UInt8) : par (a ^^^ b) = par a ^^^ par b := by
  unfold par; rw [UInt8.toNat_xor, parTo_x]
theorem par_ones_all : ∀ n : Fin 256, Lib.onesCount (UInt8.ofNat n.val).toNat % 2 = par (UInt8.ofNat n.val) := by decide +kernel
theorem par_ones (c : UInt8) : Lib.onesCount c.toNat % 2 = par c := by
  have := par_ones_all ⟨c.toNat, c.toNat_lt⟩
  simpa using this

/-- the bits of a plane, the lowest k. -/
def plTo (b : UInt8) (row : Nat → UInt8) : Nat → Nat
  | 0 => 0
  | k + 1 => plTo b row k ^^^ par (b &&& row k) * 2 ^ k
theorem plTo_lt (b : UInt8) (row : Nat → UInt8) (k : Nat) : plTo b row k < 2 ^ k := by
  induction k with
  | zero => simp [plTo]
  | succ k ih =>
    have := par_lt (b &&& row k)
    refine Nat.xor_lt_two_pow (Nat.lt_of_lt_of_le ih (Nat.pow_le_pow_right (by omega) (by omega))) ?_
    rw [Nat.pow_succ]
    have hp := Nat.two_pow_pos k
    rcases (by omega : par (b &&& row k) = 0 ∨ par (b &&& row k) = 1) with h | h <;> rw [h] <;> omega
theorem plTo_8 (b : UInt8) (row : Nat → UInt8) : plTo b row 8 < 256 := plTo_lt b row 8
theorem bit_dist : ∀ (p q : Fin 2) (k : Nat), (p.val ^^^ q.val) * 2 ^ k = p.val * 2 ^ k ^^^ q.val * 2 ^ k := by
  intro p q k
  match p, q with
  | 0, 0 => simp
  | 0, 1 => simp
  | 1, 0 => simp
  | 1, 1 => simp
theorem and_dist (a b c : UInt8) : (a ^^^ b) &&& c = (a &&& c) ^^^ (b &&& c) := by
  apply UInt8.toNat_inj.1
  simp only [UInt8.toNat_and, UInt8.toNat_xor]
  exact Nat.and_xor_distrib_right
theorem plTo_x (b c : UInt8) (row : Nat → UInt8) (k : Nat) : plTo (b ^^^ c) row k = plTo b row k ^^^ plTo c row k := by
  induction k with
  | zero => simp [plTo]
  | succ k ih =>
    simp only [plTo]
    have hd := bit_dist ⟨_, par_lt (b &&& row k)⟩ ⟨_, par_lt (c &&& row k)⟩ k
    simp only at hd
    rw [ih, and_dist, par_x, hd]
    generalize plTo b row k = p
    generalize plTo c row k = q
    generalize par (b &&& row k) * 2 ^ k = r
    generalize par (c &&& row k) * 2 ^ k = s
    rw [Nat.xor_assoc, Nat.xor_assoc, ← Nat.xor_assoc q r s, Nat.xor_comm q r, Nat.xor_assoc r q s]
theorem or_xor_all : ∀ (k : Fin 8) (x : Fin 256) (q : Fin 2), x.val < 2 ^ k.val → x.val ||| q.val * 2 ^ k.val = x.val ^^^ q.val * 2 ^ k.val := by decide +kernel
theorem or_plane (b : UInt8) (row : Nat → UInt8) (k : Nat) (hk : k < 8) : plTo b row k ||| par (b &&& row k) * 2 ^ k = plTo b row (k + 1) := by
  have h1 := plTo_lt b row k
  have h2 : 2 ^ k < 2 ^ 8 := Nat.pow_lt_pow_right (by omega) hk
  have := or_xor_all ⟨k, hk⟩ ⟨plTo b row k, by omega⟩ ⟨_, par_lt (b &&& row k)⟩ h1
  simpa [plTo] using this
theorem bit_le (p k : Nat) (hp : p < 2) (hk : k < 8) : p * 2 ^ k ≤ 128 := by
  have h2 : 2 ^ k ≤ 2 ^ 7 := Nat.pow_le_pow_right (by omega) (by omega)
  rcases (by omega : p = 0 ∨ p = 1) with h | h <;> rw [h] <;> omega
theorem plane_one : ∀ n : Fin 256, plTo (UInt8.ofNat n.val) (fun k => UInt8.ofNat (2 ^ k)) 8 = n.val := by decide +kernel
theorem plTo_congr (b : UInt8) (r s : Nat → UInt8) (k : Nat) (h : ∀ j, j < k → r j = s j) : plTo b r k = plTo b s k := by
  induction k with
  | zero => rfl
  | succ k ih => simp only [plTo]; rw [ih (fun j hj => h j (by omega)), h k (by omega)]
/-- Plane as the document tells it. -/
def plane (b : UInt8) (len : Nat) (row : Nat → Int) : Nat := if len < 8 then 0 else plTo b (fun k => b8 (row k)) 8
theorem plane_few (b : UInt8) (len : Nat) (row : Nat → Int) (h : len < 8) : plane b len row = 0 := if_pos h
theorem plane_all (b : UInt8) (len : Nat) (row : Nat → Int) (h : ¬ len < 8) : plane b len row = plTo b (fun k => b8 (row k)) 8 := if_neg h
theorem plane_lt (b : UInt8) (len : Nat) (row : Nat → Int) : plane b len row < 256 := by
  unfold plane; split
  · omega
  · exact plTo_8 _ _
theorem plane_x (b c : UInt8) (len : Nat) (row : Nat → Int) : plane (b ^^^ c) len row = plane b len row ^^^ plane c len row := by
  unfold plane; split
  · rfl
  · exact plTo_x _ _ _ _

/-! ### integers of 64 bits, of which the lowest eight count -/
theorem wrap64_mod (n : Int) : IntKind.i64.wrap n % 256 = n % 256 := by rw [IntKind.wrap_i64]; omega
theorem ofInt_mod (x : Int) : (BitVec.ofInt 64 x).toNat % 256 = (b8 x).toNat := by
  have h1 := b8_val x
  rw [BitVec.toNat_ofInt]
  omega
theorem b8_and (x y : Int) : b8 (bits .and .i64 x y) = b8 x &&& b8 y := by
  apply b8_eq
  show IntKind.i64.wrap (((BitVec.ofInt 64 x &&& BitVec.ofInt 64 y).toNat : Nat) : Int) % 256 = _
  have h : (BitVec.ofInt 64 x &&& BitVec.ofInt 64 y).toNat % 256 = (b8 x &&& b8 y).toNat := by
    rw [BitVec.toNat_and, UInt8.toNat_and, ← ofInt_mod, ← ofInt_mod]
    exact Nat.and_mod_two_pow (n := 8)
  rw [wrap64_mod, ← h]
  rfl
theorem b8_xor (x y : Int) : b8 (bits .xor .i64 x y) = b8 x ^^^ b8 y := by
  apply b8_eq
  show IntKind.i64.wrap (((BitVec.ofInt 64 x ^^^ BitVec.ofInt 64 y).toNat : Nat) : Int) % 256 = _
  have h : (BitVec.ofInt 64 x ^^^ BitVec.ofInt 64 y).toNat % 256 = (b8 x ^^^ b8 y).toNat := by
    rw [BitVec.toNat_xor, UInt8.toNat_xor, ← ofInt_mod, ← ofInt_mod]
    exact Nat.xor_mod_two_pow (n := 8)
  rw [wrap64_mod, ← h]
  rfl
theorem ofInt_nat (a : Nat) (h : a < 9223372036854775808) : (BitVec.ofInt 64 (a : Int)).toNat = a := by
  rw [BitVec.ofInt_natCast, BitVec.toNat_ofNat]; exact Nat.mod_eq_of_lt (by omega)
theorem i64_xor_nat (a b : Nat) (ha : a < 4611686018427387904) (hb : b < 4611686018427387904) : bits .xor .i64 (a : Int) (b : Int) = ((a ^^^ b : Nat) : Int) := by
  have h : a ^^^ b < 2 ^ 62 := Nat.xor_lt_two_pow (by omega) (by omega)
  show IntKind.i64.wrap (((BitVec.ofInt 64 a ^^^ BitVec.ofInt 64 b).toNat : Nat) : Int) = _
  rw [BitVec.toNat_xor, ofInt_nat a (by omega), ofInt_nat b (by omega), IntKind.wrap_i64]
  omega
theorem i64_or_nat (a b : Nat) (ha : a < 4611686018427387904) (hb : b < 4611686018427387904) : bits .or .i64 (a : Int) (b : Int) = ((a ||| b : Nat) : Int) := by
  have h : a ||| b < 2 ^ 62 := Nat.or_lt_two_pow (by omega) (by omega)
  show IntKind.i64.wrap (((BitVec.ofInt 64 a ||| BitVec.ofInt 64 b).toNat : Nat) : Int) = _
  rw [BitVec.toNat_or, ofInt_nat a (by omega), ofInt_nat b (by omega), IntKind.wrap_i64]
  omega
theorem i64_x (c d : UInt8) : bits .xor .i64 (c.toNat : Int) (d.toNat : Int) = ((c ^^^ d).toNat : Int) := by
  have := c.toNat_lt; have := d.toNat_lt
  rw [i64_xor_nat _ _ (by omega) (by omega), UInt8.toNat_xor]
/-- bit k of an integer's lowest eight. -/
theorem bit_b8 (b : Int) (k : Nat) (hk : k < 8) : b / 2 ^ k % 2 = (((b8 b).toNat / 2 ^ k % 2 : Nat) : Int) := by
  have h := b8_val b
  have hlt := (b8 b).toNat_lt
  rcases (by omega : k = 0 ∨ k = 1 ∨ k = 2 ∨ k = 3 ∨ k = 4 ∨ k = 5 ∨ k = 6 ∨ k = 7) with h0 | h0 | h0 | h0 | h0 | h0 | h0 | h0 <;> subst h0 <;> omega
end Go.Proofs.YtbgjeipgmlcgaaaDoor
