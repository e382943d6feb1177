/-
  Contracts and facts that the laws of this seat use: FieldMath, PlaneMath.
-/
import Derived.Lib.BitFns
import Derived.Lib.Hide
import Derived.Laws.BitsAllLaws
import Derived.WalkKit
set_option linter.unusedVariables false
namespace Go.Proofs.Ytpgfepaedjlmpaa
open Go Go.RowKit

/-- a byte of any number: its lowest eight bits. -/
def b8 (x : Int) : UInt8 := UInt8.ofNat (x % 256).toNat
theorem b8_val (x : Int) : ((b8 x).toNat : Int) = x % 256 := by
  unfold b8
  rw [UInt8.toNat_ofNat']
  omega
theorem b8_of (c : UInt8) : b8 (c.toNat : Int) = c := by
  have h := c.toNat_lt
  apply UInt8.toNat_inj.1
  have := b8_val (c.toNat : Int)
  omega
theorem b8_eq {x : Int} {c : UInt8} (h : x % 256 = (c.toNat : Int)) : b8 x = c := by
  apply UInt8.toNat_inj.1
  have := b8_val x
  omega

/-- a byte moved one place up in the field. -/
def tw (b : UInt8) : UInt8 := if 128 ≤ b.toNat then (b <<< 1) ^^^ 27 else b <<< 1
/-- the loop of a product: n bits of b are left. -/
def tm : Nat → UInt8 → UInt8 → Nat → UInt8
  | 0, p, _, _ => p
  | n + 1, p, a, b => tm n (if b % 2 = 1 then p ^^^ a else p) (tw a) (b / 2)
/-- the product. -/
def mul (a b : UInt8) : UInt8 := tm 8 0 a b.toNat

theorem tm_zero (n : Nat) (p a : UInt8) : tm n p a 0 = p := by
  induction n generalizing a with
  | zero => rfl
  | succ n ih => simp [tm, ih]

theorem x_self (a : UInt8) : a ^^^ a = 0 := UInt8.xor_self
theorem x_zero (a : UInt8) : a ^^^ 0 = a := UInt8.xor_zero
theorem zero_x (a : UInt8) : 0 ^^^ a = a := UInt8.zero_xor
theorem x_comm (a b : UInt8) : a ^^^ b = b ^^^ a := UInt8.xor_comm a b
theorem x_assoc (a b c : UInt8) : a ^^^ b ^^^ c = a ^^^ (b ^^^ c) := UInt8.xor_assoc a b c
theorem x_lcomm (a b c : UInt8) : a ^^^ (b ^^^ c) = b ^^^ (a ^^^ c) := by rw [← x_assoc, x_comm a b, x_assoc]
theorem x_mid (a b c d : UInt8) : (a ^^^ b) ^^^ (c ^^^ d) = (a ^^^ c) ^^^ (b ^^^ d) := by
  simp only [x_assoc, x_lcomm b c]

def pick (n k : Nat) (v : UInt8) : UInt8 := if n / 2 ^ k % 2 = 1 then v else 0
theorem byte_split : ∀ n : Fin 256, UInt8.ofNat n.val = pick n.val 0 1 ^^^ (pick n.val 1 2 ^^^ (pick n.val 2 4 ^^^ (pick n.val 3 8 ^^^ (pick n.val 4 16 ^^^ (pick n.val 5 32 ^^^ (pick n.val 6 64 ^^^ pick n.val 7 128)))))) := by decide +kernel
/-- what holds of the eight bits, and of sums, holds of every byte. -/
theorem byte_ind {P : UInt8 → Prop} (h0 : P 0) (hx : ∀ a b, P a → P b → P (a ^^^ b)) (hb : ∀ k : Fin 8, P (UInt8.ofNat (2 ^ k.val))) (a : UInt8) : P a := by
  have h := byte_split ⟨a.toNat, a.toNat_lt⟩
  simp only [UInt8.ofNat_toNat] at h
  have hp : ∀ n k v, P v → P (pick n k v) := fun n k v hv => by unfold pick; split <;> assumption
  rw [h]
  exact hx _ _ (hp _ _ _ (hb 0)) (hx _ _ (hp _ _ _ (hb 1)) (hx _ _ (hp _ _ _ (hb 2)) (hx _ _ (hp _ _ _ (hb 3)) (hx _ _ (hp _ _ _ (hb 4)) (hx _ _ (hp _ _ _ (hb 5)) (hx _ _ (hp _ _ _ (hb 6)) (hp _ _ _ (hb 7))))))))

theorem hi_bit : ∀ n : Fin 256, (128 ≤ n.val) = (n.val / 128 % 2 = 1) := by
  intro n; have := n.isLt; apply propext; omega
/-- tw by bits. -/
theorem tw_bits : ∀ n : Fin 256, (tw (UInt8.ofNat n.val)).toNat = n.val * 2 % 256 ^^^ n.val / 128 * 27 := by decide +kernel
theorem tw_nat (a : UInt8) : (tw a).toNat = a.toNat * 2 % 256 ^^^ a.toNat / 128 * 27 := by
  have := tw_bits ⟨a.toNat, a.toNat_lt⟩
  simpa using this
theorem nat_xor_dbl (x y : Nat) : (x ^^^ y) * 2 = x * 2 ^^^ y * 2 := by
  have h1 := Nat.shiftLeft_xor_distrib (a := x) (b := y) (i := 1)
  simpa [Nat.shiftLeft_eq] using h1
theorem nat_xor_mod (x y : Nat) : (x ^^^ y) % 256 = x % 256 ^^^ y % 256 := Nat.xor_mod_two_pow (n := 8)
theorem nat_xor_div (x y n : Nat) : (x ^^^ y) / 2 ^ n = x / 2 ^ n ^^^ y / 2 ^ n := Nat.xor_div_two_pow
theorem small_27 : ∀ p q : Fin 2, (p.val ^^^ q.val) * 27 = p.val * 27 ^^^ q.val * 27 := by decide
theorem tw_x (a b : UInt8) : tw (a ^^^ b) = tw a ^^^ tw b := by
  apply UInt8.toNat_inj.1
  have ha := a.toNat_lt
  have hb := b.toNat_lt
  rw [UInt8.toNat_xor, tw_nat, tw_nat, tw_nat, UInt8.toNat_xor, nat_xor_dbl, nat_xor_mod, show (128 : Nat) = 2 ^ 7 by rfl, nat_xor_div]
  have := small_27 ⟨a.toNat / 2 ^ 7, by omega⟩ ⟨b.toNat / 2 ^ 7, by omega⟩
  simp only at this
  rw [this]
  generalize a.toNat * 2 % 256 = p
  generalize b.toNat * 2 % 256 = q
  generalize a.toNat / 2 ^ 7 * 27 = r
  generalize b.toNat / 2 ^ 7 * 27 = s
  rw [Nat.xor_assoc, Nat.xor_assoc, ← Nat.xor_assoc q r s, Nat.xor_comm q r, Nat.xor_assoc r q s]

theorem tm_p (n : Nat) (p a : UInt8) (b : Nat) : tm n p a b = p ^^^ tm n 0 a b := by
  induction n generalizing p a b with
  | zero => simp [tm]
  | succ n ih =>
    simp only [tm]
    rw [ih (if b % 2 = 1 then p ^^^ a else p), ih (if b % 2 = 1 then 0 ^^^ a else 0)]
    split <;> simp [x_assoc]
theorem tm_a (n : Nat) (a a' : UInt8) (b : Nat) : tm n 0 (a ^^^ a') b = tm n 0 a b ^^^ tm n 0 a' b := by
  induction n generalizing a a' b with
  | zero => simp [tm]
  | succ n ih =>
    simp only [tm]
    rw [tm_p n (if b % 2 = 1 then 0 ^^^ (a ^^^ a') else 0), tm_p n (if b % 2 = 1 then 0 ^^^ a else 0), tm_p n (if b % 2 = 1 then 0 ^^^ a' else 0), tw_x, ih]
    split
    · rw [zero_x, zero_x, zero_x, x_mid]
    · rw [zero_x, zero_x, zero_x]
theorem small_x : ∀ p q : Fin 2, (p.val ^^^ q.val = 1) = ¬ (p.val = q.val) := by
  intro p q; apply propext; revert p q; decide
theorem tm_b (n : Nat) (a : UInt8) (b b' : Nat) : tm n 0 a (b ^^^ b') = tm n 0 a b ^^^ tm n 0 a b' := by
  induction n generalizing a b b' with
  | zero => simp [tm]
  | succ n ih =>
    simp only [tm]
    have h1 : (b ^^^ b') / 2 = b / 2 ^^^ b' / 2 := nat_xor_div b b' 1
    have h2 : (b ^^^ b') % 2 = b % 2 ^^^ b' % 2 := Nat.xor_mod_two_pow (n := 1)
    have h3 := small_x ⟨b % 2, by omega⟩ ⟨b' % 2, by omega⟩
    simp only at h3
    rw [tm_p n (if (b ^^^ b') % 2 = 1 then 0 ^^^ a else 0), tm_p n (if b % 2 = 1 then 0 ^^^ a else 0), tm_p n (if b' % 2 = 1 then 0 ^^^ a else 0), h1, ih, h2]
    simp only [h3, zero_x]
    by_cases hb : b % 2 = 1 <;> by_cases hb' : b' % 2 = 1
    · rw [if_neg (by omega), if_pos hb, if_pos hb', x_mid, x_self]
    · rw [if_pos (by omega), if_pos hb, if_neg hb', zero_x, x_assoc]
    · rw [if_pos (by omega), if_neg hb, if_pos hb', zero_x, x_lcomm]
    · rw [if_neg (by omega), if_neg hb, if_neg hb', zero_x, zero_x, zero_x]
theorem mul_xl (a a' b : UInt8) : mul (a ^^^ a') b = mul a b ^^^ mul a' b := tm_a 8 a a' b.toNat
theorem mul_xr (a b b' : UInt8) : mul a (b ^^^ b') = mul a b ^^^ mul a b' := by
  unfold mul; rw [UInt8.toNat_xor, tm_b]
theorem mul_0r (a : UInt8) : mul a 0 = 0 := tm_zero 8 0 a
theorem tm_0l (n : Nat) (b : Nat) : tm n 0 0 b = 0 := by
  induction n generalizing b with
  | zero => rfl
  | succ n ih =>
    have : tw 0 = 0 := by decide
    simp only [tm, this, x_zero, ite_self, ih]
theorem mul_0l (b : UInt8) : mul 0 b = 0 := tm_0l 8 _
theorem comm_bits : ∀ j k : Fin 8, mul (UInt8.ofNat (2 ^ j.val)) (UInt8.ofNat (2 ^ k.val)) = mul (UInt8.ofNat (2 ^ k.val)) (UInt8.ofNat (2 ^ j.val)) := by decide +kernel
theorem mul_comm (a b : UInt8) : mul a b = mul b a := by
  refine byte_ind (P := fun a => mul a b = mul b a) ?_ ?_ ?_ a
  · rw [mul_0l, mul_0r]
  · intro x y hx hy; rw [mul_xl, mul_xr, hx, hy]
  · intro j
    refine byte_ind (P := fun b => mul (UInt8.ofNat (2 ^ j.val)) b = mul b (UInt8.ofNat (2 ^ j.val))) ?_ ?_ ?_ b
    · rw [mul_0l, mul_0r]
    · intro x y hx hy; rw [mul_xl, mul_xr, hx, hy]
    · intro k; exact comm_bits j k
theorem assoc_bits : ∀ i j k : Fin 8, mul (mul (UInt8.ofNat (2 ^ i.val)) (UInt8.ofNat (2 ^ j.val))) (UInt8.ofNat (2 ^ k.val)) = mul (UInt8.ofNat (2 ^ i.val)) (mul (UInt8.ofNat (2 ^ j.val)) (UInt8.ofNat (2 ^ k.val))) := by decide +kernel
theorem mul_assoc (a b c : UInt8) : mul (mul a b) c = mul a (mul b c) := by
  refine byte_ind (P := fun a => mul (mul a b) c = mul a (mul b c)) ?_ ?_ ?_ a
  · rw [mul_0l, mul_0l, mul_0l]
  · intro x y hx hy; rw [mul_xl, mul_xl, mul_xl, hx, hy]
  · intro i
    refine byte_ind (P := fun b => mul (mul (UInt8.ofNat (2 ^ i.val)) b) c = mul (UInt8.ofNat (2 ^ i.val)) (mul b c)) ?_ ?_ ?_ b
    · rw [mul_0r, mul_0l, mul_0r]
    · intro x y hx hy; rw [mul_xr, mul_xl, mul_xl, mul_xr, hx, hy]
    · intro j
      refine byte_ind (P := fun c => mul (mul (UInt8.ofNat (2 ^ i.val)) (UInt8.ofNat (2 ^ j.val))) c = mul (UInt8.ofNat (2 ^ i.val)) (mul (UInt8.ofNat (2 ^ j.val)) c)) ?_ ?_ ?_ c
      · rw [mul_0r, mul_0r, mul_0r]
      · intro x y hx hy; rw [mul_xr, mul_xr, mul_xr, hx, hy]
      · intro k; exact assoc_bits i j k
theorem mul_1_all : ∀ n : Fin 256, mul (UInt8.ofNat n.val) 1 = UInt8.ofNat n.val ∧ mul (UInt8.ofNat n.val) 2 = tw (UInt8.ofNat n.val) := by decide +kernel
theorem mul_1r (a : UInt8) : mul a 1 = a := by
  have := (mul_1_all ⟨a.toNat, a.toNat_lt⟩).1
  simpa using this
theorem mul_1l (a : UInt8) : mul 1 a = a := by rw [mul_comm, mul_1r]
theorem mul_2r (a : UInt8) : mul a 2 = tw a := by
  have := (mul_1_all ⟨a.toNat, a.toNat_lt⟩).2
  simpa using this

/-- the loop of a power: f bits of n are left. -/
def pw : Nat → UInt8 → UInt8 → Nat → UInt8
  | 0, p, _, _ => p
  | f + 1, p, a, n => pw f (if n % 2 = 1 then mul p a else p) (mul a a) (n / 2)
def power (a : UInt8) (n : Nat) : UInt8 := pw 64 1 a n
def inv (a : UInt8) : UInt8 := power a 254
theorem pw_zero (f : Nat) (p a : UInt8) : pw f p a 0 = p := by
  induction f generalizing a with
  | zero => rfl
  | succ n ih => simp [pw, ih]
def gpow (a : UInt8) : Nat → UInt8
  | 0 => 1
  | n + 1 => mul (gpow a n) a
theorem gpow_add (a : UInt8) (m n : Nat) : gpow a (m + n) = mul (gpow a m) (gpow a n) := by
  induction n with
  | zero => simp [gpow, mul_1r]
  | succ n ih => rw [← Nat.add_assoc, gpow, ih, gpow, mul_assoc]
theorem gpow_sq (a : UInt8) (n : Nat) : gpow (mul a a) n = gpow a (2 * n) := by
  induction n with
  | zero => rfl
  | succ n ih => rw [gpow, ih, show 2 * (n + 1) = 2 * n + 1 + 1 by omega, gpow, gpow, mul_assoc]
theorem pw_gpow (f : Nat) (p a : UInt8) (n : Nat) (h : n < 2 ^ f) : pw f p a n = mul p (gpow a n) := by
  induction f generalizing p a n with
  | zero =>
    have : n = 0 := by simpa using h
    subst this
    simp [pw, gpow, mul_1r]
  | succ f ih =>
    rw [pw, ih _ _ _ (by rw [Nat.pow_succ] at h; omega), gpow_sq]
    split
    · rw [mul_assoc]
      congr 1
      have : n = 1 + 2 * (n / 2) := by omega
      generalize n / 2 = m at *
      subst this
      rw [gpow_add, gpow, gpow, mul_1l]
    · congr 2
      omega
theorem power_gpow (a : UInt8) (n : Nat) (h : n < 2 ^ 64) : power a n = gpow a n := by
  rw [power, pw_gpow 64 1 a n h, mul_1l]
theorem power_add (a : UInt8) (m n : Nat) (h : m + n < 2 ^ 64) : power a (m + n) = mul (power a m) (power a n) := by
  rw [power_gpow _ _ h, power_gpow _ _ (by omega), power_gpow _ _ (by omega), gpow_add]
theorem field_all : ∀ n : Fin 256, n.val = 0 ∨ (power (UInt8.ofNat n.val) 255 = 1 ∧ inv (inv (UInt8.ofNat n.val)) = UInt8.ofNat n.val ∧ inv (mul (UInt8.ofNat n.val) 7) = mul (inv (UInt8.ofNat n.val)) (inv 7)) := by decide +kernel
theorem field_of (a : UInt8) (h : ¬ a = 0) : power a 255 = 1 ∧ inv (inv a) = a ∧ inv (mul a 7) = mul (inv a) (inv 7) := by
  have := field_all ⟨a.toNat, a.toNat_lt⟩
  simp only [UInt8.ofNat_toNat] at this
  rcases this with h0 | h0
  · exact absurd (UInt8.toNat_inj.1 h0) h
  · exact h0
theorem inv_0 : inv 0 = 0 := by decide +kernel
theorem mul_inv (a : UInt8) (h : ¬ a = 0) : mul a (inv a) = 1 := by
  have h1 := power_add a 1 254 (by omega)
  have h2 := (field_of a h).1
  rw [h2] at h1
  rw [h1, power_gpow a 1 (by omega), gpow, gpow, mul_1l]
  rfl
theorem power_255 (a : UInt8) (h : ¬ a = 0) (m : Nat) (hm : m + 255 < 2 ^ 64) : power a (m + 255) = power a m := by
  rw [power_add a m 255 hm, (field_of a h).1, mul_1r]
end Go.Proofs.Ytpgfepaedjlmpaa
set_option linter.unusedVariables false
namespace Go.Proofs.Ytpgfepaedjlmpaa
open Go Go.RowKit

/-- whether an odd number of the lowest k bits are ones. -/
def parTo (n : Nat) : Nat → Nat
  | 0 => 0
  | k + 1 => parTo n k ^^^ (n / 2 ^ k % 2)
def par (b : UInt8) : Nat := parTo b.toNat 8
theorem parTo_lt (n k : Nat) : parTo n k < 2 := by
  induction k with
  | zero => simp [parTo]
  | succ k ih => exact Nat.xor_lt_two_pow (n := 1) ih (Nat.mod_lt _ (by omega))
theorem par_lt (b : UInt8) : par b < 2 := parTo_lt _ _
theorem parTo_x (m n k : Nat) : parTo (m ^^^ n) k = parTo m k ^^^ parTo n k := by
  induction k with
  | zero => simp [parTo]
  | succ k ih =>
    have h1 : (m ^^^ n) / 2 ^ k = m / 2 ^ k ^^^ n / 2 ^ k := nat_xor_div m n k
    have h2 : (m / 2 ^ k ^^^ n / 2 ^ k) % 2 = m / 2 ^ k % 2 ^^^ n / 2 ^ k % 2 := Nat.xor_mod_two_pow (n := 1)
    simp only [parTo]
    rw [ih, h1, h2]
    generalize parTo m k = p
    generalize parTo n k = q
    generalize m / 2 ^ k % 2 = r
    generalize n / 2 ^ k % 2 = s
    rw [Nat.xor_assoc, Nat.xor_assoc, ← Nat.xor_assoc q r s, Nat.xor_comm q r, Nat.xor_assoc r q s]
theorem par_x (a b : UInt8) : par (a ^^^ b) = par a ^^^ par b := by
  unfold par; rw [UInt8.toNat_xor, parTo_x]
theorem par_ones_all : ∀ n : Fin 256, Lib.onesCount (UInt8.ofNat n.val).toNat % 2 = par (UInt8.ofNat n.val) := by decide +kernel
theorem par_ones (c : UInt8) : Lib.onesCount c.toNat % 2 = par c := by
  have := par_ones_all ⟨c.toNat, c.toNat_lt⟩
  simpa using this

/-- the bits of a plane, the lowest k. -/
def plTo (b : UInt8) (row : Nat → UInt8) : Nat → Nat
  | 0 => 0
  | k + 1 => plTo b row k ^^^ par (b &&& row k) * 2 ^ k
theorem plTo_lt (b : UInt8) (row : Nat → UInt8) (k : Nat) : plTo b row k < 2 ^ k := by
  induction k with
  | zero => simp [plTo]
  | succ k ih =>
    have := par_lt (b &&& row k)
    refine Nat.xor_lt_two_pow (Nat.lt_of_lt_of_le ih (Nat.pow_le_pow_right (by omega) (by omega))) ?_
    rw [Nat.pow_succ]
    have hp := Nat.two_pow_pos k
    rcases (by omega : par (b &&& row k) = 0 ∨ par (b &&& row k) = 1) with h | h <;> rw [h] <;> omega
theorem plTo_8 (b : UInt8) (row : Nat → UInt8) : plTo b row 8 < 256 := plTo_lt b row 8
theorem bit_dist : ∀ (p q : Fin 2) (k : Nat), (p.val ^^^ q.val) * 2 ^ k = p.val * 2 ^ k ^^^ q.val * 2 ^ k := by
  intro p q k
  match p, q with
  | 0, 0 => simp
  | 0, 1 => simp
  | 1, 0 => simp
  | 1, 1 => simp
theorem and_dist (a b c : UInt8) : (a ^^^ b) &&& c = (a &&& c) ^^^ (b &&& c) := by
  apply UInt8.toNat_inj.1
  simp only [UInt8.toNat_and, UInt8.toNat_xor]
  exact Nat.and_xor_distrib_right
theorem plTo_x (b c : UInt8) (row : Nat → UInt8) (k : Nat) : plTo (b ^^^ c) row k = plTo b row k ^^^ plTo c row k := by
  induction k with
  | zero => simp [plTo]
  | succ k ih =>
    simp only [plTo]
    have hd := bit_dist ⟨_, par_lt (b &&& row k)⟩ ⟨_, par_lt (c &&& row k)⟩ k
    simp only at hd
    rw [ih, and_dist, par_x, hd]
    generalize plTo b row k = p
    generalize plTo c row k = q
    generalize par (b &&& row k) * 2 ^ k = r
    generalize par (c &&& row k) * 2 ^ k = s
    rw [Nat.xor_assoc, Nat.xor_assoc, ← Nat.xor_assoc q r s, Nat.xor_comm q r, Nat.xor_assoc r q s]
theorem or_xor_all : ∀ (k : Fin 8) (x : Fin 256) (q : Fin 2), x.val < 2 ^ k.val → x.val ||| q.val * 2 ^ k.val = x.val ^^^ q.val * 2 ^ k.val := by decide +kernel
theorem or_plane (b : UInt8) (row : Nat → UInt8) (k : Nat) (hk : k < 8) : plTo b row k ||| par (b &&& row k) * 2 ^ k = plTo b row (k + 1) := by
  have h1 := plTo_lt b row k
  have h2 : 2 ^ k < 2 ^ 8 := Nat.pow_lt_pow_right (by omega) hk
  have := or_xor_all ⟨k, hk⟩ ⟨plTo b row k, by omega⟩ ⟨_, par_lt (b &&& row k)⟩ h1
  simpa [plTo] using this
theorem bit_le (p k : Nat) (hp : p < 2) (hk : k < 8) : p * 2 ^ k ≤ 128 := by
  have h2 : 2 ^ k ≤ 2 ^ 7 := Nat.pow_le_pow_right (by omega) (by omega)
  rcases (by omega : p = 0 ∨ p = 1) with h | h <;> rw [h] <;> omega
theorem plane_one : ∀ n : Fin 256, plTo (UInt8.ofNat n.val) (fun k => UInt8.ofNat (2 ^ k)) 8 = n.val := by decide +kernel
theorem plTo_congr (b : UInt8) (r s : Nat → UInt8) (k : Nat) (h : ∀ j, j < k → r j = s j) : plTo b r k = plTo b s k := by
  induction k with
  | zero => rfl
  | succ k ih => simp only [plTo]; rw [ih (fun j hj => h j (by omega)), h k (by omega)]
/-- Plane as the document tells it. -/
def plane (b : UInt8) (len : Nat) (row : Nat → Int) : Nat := if len < 8 then 0 else plTo b (fun k => b8 (row k)) 8
theorem plane_few (b : UInt8) (len : Nat) (row : Nat → Int) (h : len < 8) : plane b len row = 0 := if_pos h
theorem plane_all (b : UInt8) (len : Nat) (row : Nat → Int) (h : ¬ len < 8) : plane b len row = plTo b (fun k => b8 (row k)) 8 := if_neg h
theorem plane_lt (b : UInt8) (len : Nat) (row : Nat → Int) : plane b len row < 256 := by
  unfold plane; split
  · omega
  · exact plTo_8 _ _
theorem plane_x (b c : UInt8) (len : Nat) (row : Nat → Int) : plane (b ^^^ c) len row = plane b len row ^^^ plane c len row := by
  unfold plane; split
  · rfl
  · exact plTo_x _ _ _ _

/-! ### integers of 64 bits, of which the lowest eight count -/
theorem wrap64_mod (n : Int) : IntKind.i64.wrap n % 256 = n % 256 := by rw [IntKind.wrap_i64]; omega
theorem ofInt_mod (x : Int) : (BitVec.ofInt 64 x).toNat % 256 = (b8 x).toNat := by
  have h1 := b8_val x
  rw [BitVec.toNat_ofInt]
  omega
theorem b8_and (x y : Int) : b8 (bits .and .i64 x y) = b8 x &&& b8 y := by
  apply b8_eq
  show IntKind.i64.wrap (((BitVec.ofInt 64 x &&& BitVec.ofInt 64 y).toNat : Nat) : Int) % 256 = _
  have h : (BitVec.ofInt 64 x &&& BitVec.ofInt 64 y).toNat % 256 = (b8 x &&& b8 y).toNat := by
    rw [BitVec.toNat_and, UInt8.toNat_and, ← ofInt_mod, ← ofInt_mod]
    exact Nat.and_mod_two_pow (n := 8)
  rw [wrap64_mod, ← h]
  rfl
theorem b8_xor (x y : Int) : b8 (bits .xor .i64 x y) = b8 x ^^^ b8 y := by
  apply b8_eq
  show IntKind.i64.wrap (((BitVec.ofInt 64 x ^^^ BitVec.ofInt 64 y).toNat : Nat) : Int) % 256 = _
  have h : (BitVec.ofInt 64 x ^^^ BitVec.ofInt 64 y).toNat % 256 = (b8 x ^^^ b8 y).toNat := by
    rw [BitVec.toNat_xor, UInt8.toNat_xor, ← ofInt_mod, ← ofInt_mod]
    exact Nat.xor_mod_two_pow (n := 8)
  rw [wrap64_mod, ← h]
  rfl
theorem ofInt_nat (a : Nat) (h : a < 9223372036854775808) : (BitVec.ofInt 64 (a : Int)).toNat = a := by
  rw [BitVec.ofInt_natCast, BitVec.toNat_ofNat]; exact Nat.mod_eq_of_lt (by omega)
theorem i64_xor_nat (a b : Nat) (ha : a < 4611686018427387904) (hb : b < 4611686018427387904) : bits .xor .i64 (a : Int) (b : Int) = ((a ^^^ b : Nat) : Int) := by
  have h : a ^^^ b < 2 ^ 62 := Nat.xor_lt_two_pow (by omega) (by omega)
  show IntKind.i64.wrap (((BitVec.ofInt 64 a ^^^ BitVec.ofInt 64 b).toNat : Nat) : Int) = _
  rw [BitVec.toNat_xor, ofInt_nat a (by omega), ofInt_nat b (by omega), IntKind.wrap_i64]
  omega
theorem i64_or_nat (a b : Nat) (ha : a < 4611686018427387904) (hb : b < 4611686018427387904) : bits .or .i64 (a : Int) (b : Int) = ((a ||| b : Nat) : Int) := by
  have h : a ||| b < 2 ^ 62 := Nat.or_lt_two_pow (by omega) (by omega)
  show IntKind.i64.wrap (((BitVec.ofInt 64 a ||| BitVec.ofInt 64 b).toNat : Nat) : Int) = _
  rw [BitVec.toNat_or, ofInt_nat a (by omega), ofInt_nat b (by omega), IntKind.wrap_i64]
  omega
theorem i64_x (c d : UInt8) : bits .xor .i64 (c.toNat : Int) (d.toNat : Int) = ((c ^^^ d).toNat : Int) := by
  have := c.toNat_lt; have := d.toNat_lt
  rw [i64_xor_nat _ _ (by omega) (by omega), UInt8.toNat_xor]
/-- bit k of an integer's lowest eight. -/
theorem bit_b8 (b : Int) (k : Nat) (hk : k < 8) : b / 2 ^ k % 2 = (((b8 b).toNat / 2 ^ k % 2 : Nat) : Int) := by
  have h := b8_val b
  have hlt := (b8 b).toNat_lt
  rcases (by omega : k = 0 ∨ k = 1 ∨ k = 2 ∨ k = 3 ∨ k = 4 ∨ k = 5 ∨ k = 6 ∨ k = 7) with h0 | h0 | h0 | h0 | h0 | h0 | h0 | h0 <;> subst h0 <;> omega
end Go.Proofs.Ytpgfepaedjlmpaa
