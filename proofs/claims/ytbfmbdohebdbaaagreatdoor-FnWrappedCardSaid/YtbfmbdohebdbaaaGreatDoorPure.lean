/-
  Contracts and facts that the laws of this seat use: FieldMath, PlaneMath, BoxMath, BoxMore, WordMath, KeyMath, Math, UnmixMath, RoundMath.
-/
import Derived.Lib.BitFns
import Derived.Lib.Hide
import Derived.Laws.BitsAllLaws
import Derived.WalkKit
set_option linter.unusedVariables false
namespace Go.Proofs.YtbfmbdohebdbaaaGreatDoor
open Go Go.RowKit

/-- a byte of any number: its lowest eight bits. -/
def b8 (x : Int) : UInt8 := UInt8.ofNat (x % 256).toNat
theorem b8_val (x : Int) : ((b8 x).toNat : Int) = x % 256 := by
  unfold b8
  rw [UInt8.toNat_ofNat']
  omega
theorem b8_of (c : UInt8) : b8 (c.toNat : Int) = c := by
  have h := c.toNat_lt
  apply UInt8.toNat_inj.1
  have := b8_val (c.toNat : Int)
  omega
theorem b8_eq {x : Int} {c : UInt8} (h : x % 256 = (c.toNat : Int)) : b8 x = c := by
  apply UInt8.toNat_inj.1
  have := b8_val x
  omega

/-- a byte moved one place up in the field. -/
def tw (b : UInt8) : UInt8 := if 128 ≤ b.toNat then (b <<< 1) ^^^ 27 else b <<< 1
/-- the loop of a product: n bits of b are left. -/
def tm : Nat → UInt8 → UInt8 → Nat → UInt8
  | 0, p, _, _ => p
  | n + 1, p, a, b => tm n (if b % 2 = 1 then p ^^^ a else p) (tw a) (b / 2)
/-- the product. -/
def mul (a b : UInt8) : UInt8 := tm 8 0 a b.toNat

theorem tm_zero (n : Nat) (p a : UInt8) : tm n p a 0 = p := by
  induction n generalizing a with
  | zero => rfl
  | succ n ih => simp [tm, ih]

theorem x_self (a : UInt8) : a ^^^ a = 0 := UInt8.xor_self
theorem x_zero (a : UInt8) : a ^^^ 0 = a := UInt8.xor_zero
theorem zero_x (a : UInt8) : 0 ^^^ a = a := UInt8.zero_xor
theorem x_comm (a b : UInt8) : a ^^^ b = b ^^^ a := UInt8.xor_comm a b
theorem x_assoc (a b c : UInt8) : a ^^^ b ^^^ c = a ^^^ (b ^^^ c) := UInt8.xor_assoc a b c
theorem x_lcomm (a b c : UInt8) : a ^^^ (b ^^^ c) = b ^^^ (a ^^^ c) := by rw [← x_assoc, x_comm a b, x_assoc]
theorem x_mid (a b c d : UInt8) : (a ^^^ b) ^^^ (c ^^^ d) = (a ^^^ c) ^^^ (b ^^^ d) := by
  simp only [x_assoc, x_lcomm b c]

def pick (n k : Nat) (v : UInt8) : UInt8 := if n / 2 ^ k % 2 = 1 then v else 0
theorem byte_split : ∀ n : Fin 256, UInt8.ofNat n.val = pick n.val 0 1 ^^^ (pick n.val 1 2 ^^^ (pick n.val 2 4 ^^^ (pick n.val 3 8 ^^^ (pick n.val 4 16 ^^^ (pick n.val 5 32 ^^^ (pick n.val 6 64 ^^^ pick n.val 7 128)))))) := by decide +kernel
/-- what holds of the eight bits, and of sums, holds of every byte. -/
theorem byte_ind {P : UInt8 → Prop} (h0 : P 0) (hx : ∀ a b, P a → P b → P (a ^^^ b)) (hb : ∀ k : Fin 8, P (UInt8.ofNat (2 ^ k.val))) (a : UInt8) : P a := by
  have h := byte_split ⟨a.toNat, a.toNat_lt⟩
  simp only [UInt8.ofNat_toNat] at h
  have hp : ∀ n k v, P v → P (pick n k v) := fun n k v hv => by unfold pick; split <;> assumption
  rw [h]
  exact hx _ _ (hp _ _ _ (hb 0)) (hx _ _ (hp _ _ _ (hb 1)) (hx _ _ (hp _ _ _ (hb 2)) (hx _ _ (hp _ _ _ (hb 3)) (hx _ _ (hp _ _ _ (hb 4)) (hx _ _ (hp _ _ _ (hb 5)) (hx _ _ (hp _ _ _ (hb 6)) (hp _ _ _ (hb 7))))))))

theorem hi_bit : ∀ n : Fin 256, (128 ≤ n.val) = (n.val / 128 % 2 = 1) := by
  intro n; have := n.isLt; apply propext; omega
/-- tw by bits. -/
theorem tw_bits : ∀ n : Fin 256, (tw (UInt8.ofNat n.val)).toNat = n.val * 2 % 256 ^^^ n.val / 128 * 27 := by decide +kernel
theorem tw_nat (a : UInt8) : (tw a).toNat = a.toNat * 2 % 256 ^^^ a.toNat / 128 * 27 := by
  have := tw_bits ⟨a.toNat, a.toNat_lt⟩
  simpa using this
theorem nat_xor_dbl (x y : Nat) : (x ^^^ y) * 2 = x * 2 ^^^ y * 2 := by
  have h1 := Nat.shiftLeft_xor_distrib (a := x) (b := y) (i := 1)
  simpa [Nat.shiftLeft_eq] using h1
theorem nat_xor_mod (x y : Nat) : (x ^^^ y) % 256 = x % 256 ^^^ y % 256 := Nat.xor_mod_two_pow (n := 8)
theorem nat_xor_div (x y n : Nat) : (x ^^^ y) / 2 ^ n = x / 2 ^ n ^^^ y / 2 ^ n := Nat.xor_div_two_pow
theorem small_27 : ∀ p q : Fin 2, (p.val ^^^ q.val) * 27 = p.val * 27 ^^^ q.val * 27 := by decide
theorem tw_x (a b : UInt8) : tw (a ^^^ b) = tw a ^^^ tw b := by
  apply UInt8.toNat_inj.1
  have ha := a.toNat_lt
  have hb := b.toNat_lt
  rw [UInt8.toNat_xor, tw_nat, tw_nat, tw_nat, UInt8.toNat_xor, nat_xor_dbl, nat_xor_mod, show (128 : Nat) = 2 ^ 7 by rfl, nat_xor_div]
  have := small_27 ⟨a.toNat / 2 ^ 7, by omega⟩ ⟨b.toNat / 2 ^ 7, by omega⟩
  simp only at this
  rw [this]
  generalize a.toNat * 2 % 256 = p
  generalize b.toNat * 2 % 256 = q
  generalize a.toNat / 2 ^ 7 * 27 = r
  generalize b.toNat / 2 ^ 7 * 27 = s
  rw [Nat.xor_assoc, Nat.xor_assoc, ← Nat.xor_assoc q r s, Nat.xor_comm q r, Nat.xor_assoc r q s]

theorem tm_p (n : Nat) (p a : UInt8) (b : Nat) : tm n p a b = p ^^^ tm n 0 a b := by
  induction n generalizing p a b with
  | zero => simp [tm]
  | succ n ih =>
    simp only [tm]
    rw [ih (if b % 2 = 1 then p ^^^ a else p), ih (if b % 2 = 1 then 0 ^^^ a else 0)]
    split <;> simp [x_assoc]
theorem tm_a (n : Nat) (a a' : UInt8) (b : Nat) : tm n 0 (a ^^^ a') b = tm n 0 a b ^^^ tm n 0 a' b := by
  induction n generalizing a a' b with
  | zero => simp [tm]
  | succ n ih =>
    simp only [tm]
    rw [tm_p n (if b % 2 = 1 then 0 ^^^ (a ^^^ a') else 0), tm_p n (if b % 2 = 1 then 0 ^^^ a else 0), tm_p n (if b % 2 = 1 then 0 ^^^ a' else 0), tw_x, ih]
    split
    · rw [zero_x, zero_x, zero_x, x_mid]
    · rw [zero_x, zero_x, zero_x]
theorem small_x : ∀ p q : Fin 2, (p.val ^^^ q.val = 1) = ¬ (p.val = q.val) := by
  intro p q; apply propext; revert p q; decide
theorem tm_b (n : Nat) (a : UInt8) (b b' : Nat) : tm n 0 a (b ^^^ b') = tm n 0 a b ^^^ tm n 0 a b' := by
  induction n generalizing a b b' with
  | zero => simp [tm]
  | succ n ih =>
    simp only [tm]
    have h1 : (b ^^^ b') / 2 = b / 2 ^^^ b' / 2 := nat_xor_div b b' 1
    have h2 : (b ^^^ b') % 2 = b % 2 ^^^ b' % 2 := Nat.xor_mod_two_pow (n := 1)
    have h3 := small_x ⟨b % 2, by omega⟩ ⟨b' % 2, by omega⟩
    simp only at h3
    rw [tm_p n (if (b ^^^ b') % 2 = 1 then 0 ^^^ a else 0), tm_p n (if b % 2 = 1 then 0 ^^^ a else 0), tm_p n (if b' % 2 = 1 then 0 ^^^ a else 0), h1, ih, h2]
    simp only [h3, zero_x]
    by_cases hb : b % 2 = 1 <;> by_cases hb' : b' % 2 = 1
    · rw [if_neg (by omega), if_pos hb, if_pos hb', x_mid, x_self]
    · rw [if_pos (by omega), if_pos hb, if_neg hb', zero_x, x_assoc]
    · rw [if_pos (by omega), if_neg hb, if_pos hb', zero_x, x_lcomm]
    · rw [if_neg (by omega), if_neg hb, if_neg hb', zero_x, zero_x, zero_x]
theorem mul_xl (a a' b : UInt8) : mul (a ^^^ a') b = mul a b ^^^ mul a' b := tm_a 8 a a' b.toNat
theorem mul_xr (a b b' : UInt8) : mul a (b ^^^ b') = mul a b ^^^ mul a b' := by
  unfold mul; rw [UInt8.toNat_xor, tm_b]
theorem mul_0r (a : UInt8) : mul a 0 = 0 := tm_zero 8 0 a
theorem tm_0l (n : Nat) (b : Nat) : tm n 0 0 b = 0 := by
  induction n generalizing b with
  | zero => rfl
  | succ n ih =>
    have : tw 0 = 0 := by decide
    simp only [tm, this, x_zero, ite_self, ih]
theorem mul_0l (b : UInt8) : mul 0 b = 0 := tm_0l 8 _
theorem comm_bits : ∀ j k : Fin 8, mul (UInt8.ofNat (2 ^ j.val)) (UInt8.ofNat (2 ^ k.val)) = mul (UInt8.ofNat (2 ^ k.val)) (UInt8.ofNat (2 ^ j.val)) := by decide +kernel
theorem mul_comm (a b : UInt8) : mul a b = mul b a := by
  refine byte_ind (P := fun a => mul a b = mul b a) ?_ ?_ ?_ a
  · rw [mul_0l, mul_0r]
  · intro x y hx hy; rw [mul_xl, mul_xr, hx, hy]
  · intro j
    refine byte_ind (P := fun b => mul (UInt8.ofNat (2 ^ j.val)) b = mul b (UInt8.ofNat (2 ^ j.val))) ?_ ?_ ?_ b
    · rw [mul_0l, mul_0r]
    · intro x y hx hy; rw [mul_xl, mul_xr, hx, hy]
    · intro k; exact comm_bits j k
theorem assoc_bits : ∀ i j k : Fin 8, mul (mul (UInt8.ofNat (2 ^ i.val)) (UInt8.ofNat (2 ^ j.val))) (UInt8.ofNat (2 ^ k.val)) = mul (UInt8.ofNat (2 ^ i.val)) (mul (UInt8.ofNat (2 ^ j.val)) (UInt8.ofNat (2 ^ k.val))) := by decide +kernel
theorem mul_assoc (a b c : UInt8) : mul (mul a b) c = mul a (mul b c) := by
  refine byte_ind (P := fun a => mul (mul a b) c = mul a (mul b c)) ?_ ?_ ?_ a
  · rw [mul_0l, mul_0l, mul_0l]
  · intro x y hx hy; rw [mul_xl, mul_xl, mul_xl, hx, hy]
  · intro i
    refine byte_ind (P := fun b => mul (mul (UInt8.ofNat (2 ^ i.val)) b) c = mul (UInt8.ofNat (2 ^ i.val)) (mul b c)) ?_ ?_ ?_ b
    · rw [mul_0r, mul_0l, mul_0r]
    · intro x y hx hy; rw [mul_xr, mul_xl, mul_xl, mul_xr, hx, hy]
    · intro j
      refine byte_ind (P := fun c => mul (mul (UInt8.ofNat (2 ^ i.val)) (UInt8.ofNat (2 ^ j.val))) c = mul (UInt8.ofNat (2 ^ i.val)) (mul (UInt8.ofNat (2 ^ j.val)) c)) ?_ ?_ ?_ c
      · rw [mul_0r, mul_0r, mul_0r]
      · intro x y hx hy; rw [mul_xr, mul_xr, mul_xr, hx, hy]
      · intro k; exact assoc_bits i j k
theorem mul_1_all : ∀ n : Fin 256, mul (UInt8.ofNat n.val) 1 = UInt8.ofNat n.val ∧ mul (UInt8.ofNat n.val) 2 = tw (UInt8.ofNat n.val) := by decide +kernel
theorem mul_1r (a : UInt8) : mul a 1 = a := by
  have := (mul_1_all ⟨a.toNat, a.toNat_lt⟩).1
  simpa using this
theorem mul_1l (a : UInt8) : mul 1 a = a := by rw [mul_comm, mul_1r]
theorem mul_2r (a : UInt8) : mul a 2 = tw a := by
  have := (mul_1_all ⟨a.toNat, a.toNat_lt⟩).2
  simpa using this

/-- the loop of a power: f bits of n are left. -/
def pw : Nat → UInt8 → UInt8 → Nat → UInt8
  | 0, p, _, _ => p
  | f + 1, p, a, n => pw f (if n % 2 = 1 then mul p a else p) (mul a a) (n / 2)
def power (a : UInt8) (n : Nat) : UInt8 := pw 64 1 a n
def inv (a : UInt8) : UInt8 := power a 254
theorem pw_zero (f : Nat) (p a : UInt8) : pw f p a 0 = p := by
  induction f generalizing a with
  | zero => rfl
  | succ n ih => simp [pw, ih]
def gpow (a : UInt8) : Nat → UInt8
  | 0 => 1
  | n + 1 => mul (gpow a n) a
theorem gpow_add (a : UInt8) (m n : Nat) : gpow a (m + n) = mul (gpow a m) (gpow a n) := by
  induction n with
  | zero => simp [gpow, mul_1r]
  | succ n ih => rw [← Nat.add_assoc, gpow, ih, gpow, mul_assoc]
theorem gpow_sq (a : UInt8) (n : Nat) : gpow (mul a a) n = gpow a (2 * n) := by
  induction n with
  | zero => rfl
  | succ n ih => rw [gpow, ih, show 2 * (n + 1) = 2 * n + 1 + 1 by omega, gpow, gpow, mul_assoc]
theorem pw_gpow (f : Nat) (p a : UInt8) (n : Nat) (h : n < 2 ^ f) : pw f p a n = mul p (gpow a n) := by
  induction f generalizing p a n with
  | zero =>
    have : n = 0 := by simpa using h
    subst this
    simp [pw, gpow, mul_1r]
  | succ f ih =>
    rw [pw, ih _ _ _ (by rw [Nat.pow_succ] at h; omega), gpow_sq]
    split
    · rw [mul_assoc]
      congr 1
      have : n = 1 + 2 * (n / 2) := by omega
      generalize n / 2 = m at *
      subst this
      rw [gpow_add, gpow, gpow, mul_1l]
    · congr 2
      omega
theorem power_gpow (a : UInt8) (n : Nat) (h : n < 2 ^ 64) : power a n = gpow a n := by
  rw [power, pw_gpow 64 1 a n h, mul_1l]
theorem power_add (a : UInt8) (m n : Nat) (h : m + n < 2 ^ 64) : power a (m + n) = mul (power a m) (power a n) := by
  rw [power_gpow _ _ h, power_gpow _ _ (by omega), power_gpow _ _ (by omega), gpow_add]
theorem field_all : ∀ n : Fin 256, n.val = 0 ∨ (power (UInt8.ofNat n.val) 255 = 1 ∧ inv (inv (UInt8.ofNat n.val)) = UInt8.ofNat n.val ∧ inv (mul (UInt8.ofNat n.val) 7) = mul (inv (UInt8.ofNat n.val)) (inv 7)) := by decide +kernel
theorem field_of (a : UInt8) (h : ¬ a = 0) : power a 255 = 1 ∧ inv (inv a) = a ∧ inv (mul a 7) = mul (inv a) (inv 7) := by
  have := field_all ⟨a.toNat, a.toNat_lt⟩
  simp only [UInt8.ofNat_toNat] at this
  rcases this with h0 | h0
  · exact absurd (UInt8.toNat_inj.1 h0) h
  · exact h0
theorem inv_0 : inv 0 = 0 := by decide +kernel
theorem mul_inv (a : UInt8) (h : ¬ a = 0) : mul a (inv a) = 1 := by
  have h1 := power_add a 1 254 (by omega)
  have h2 := (field_of a h).1
  rw [h2] at h1
  rw [h1, power_gpow a 1 (by omega), gpow, gpow, mul_1l]
  rfl
theorem power_255 (a : UInt8) (h : ¬ a = 0) (m : Nat) (hm : m + 255 < 2 ^ 64) : power a (m + 255) = power a m := by
  rw [power_add a m 255 hm, (field_of a h).1, mul_1r]
end Go.Proofs.YtbfmbdohebdbaaaGreatDoor
set_option linter.unusedVariables false
namespace Go.Proofs.YtbfmbdohebdbaaaGreatDoor
open Go Go.RowKit

/-- whether an odd number of the lowest k bits are ones. -/
def parTo (n : Nat) : Nat → Nat
  | 0 => 0
  | k + 1 => parTo n k ^^^ (n / 2 ^ k % 2)
def par (b : UInt8) : Nat := parTo b.toNat 8
theorem parTo_lt (n k : Nat) : parTo n k < 2 := by
  induction k with
  | zero => simp [parTo]
  | succ k ih => exact Nat.xor_lt_two_pow (n := 1) ih (Nat.mod_lt _ (by omega))
theorem par_lt (b : UInt8) : par b < 2 := parTo_lt _ _
theorem parTo_x (m n k : Nat) : parTo (m ^^^ n) k = parTo m k ^^^ parTo n k := by
  induction k with
  | zero => simp [parTo]
  | succ k ih =>
    have h1 : (m ^^^ n) / 2 ^ k = m / 2 ^ k ^^^ n / 2 ^ k := nat_xor_div m n k
    have h2 : (m / 2 ^ k ^^^ n / 2 ^ k) % 2 = m / 2 ^ k % 2 ^^^ n / 2 ^ k % 2 := Nat.xor_mod_two_pow (n := 1)
    simp only [parTo]
    rw [ih, h1, h2]
    generalize parTo m k = p
    generalize parTo n k = q
    generalize m / 2 ^ k % 2 = r
    generalize n / 2 ^ k % 2 = s
    rw [Nat.xor_assoc, Nat.xor_assoc, ← Nat.xor_assoc q r s, Nat.xor_comm q r, Nat.xor_assoc r q s]
theorem par_x (a b : UInt8) : par (a ^^^ b) = par a ^^^ par b := by
  unfold par; rw [UInt8.toNat_xor, parTo_x]
theorem par_ones_all : ∀ n : Fin 256, Lib.onesCount (UInt8.ofNat n.val).toNat % 2 = par (UInt8.ofNat n.val) := by decide +kernel
theorem par_ones (c : UInt8) : Lib.onesCount c.toNat % 2 = par c := by
  have := par_ones_all ⟨c.toNat, c.toNat_lt⟩
  simpa using this

/-- the bits of a plane, the lowest k. -/
def plTo (b : UInt8) (row : Nat → UInt8) : Nat → Nat
  | 0 => 0
  | k + 1 => plTo b row k ^^^ par (b &&& row k) * 2 ^ k
theorem plTo_lt (b : UInt8) (row : Nat → UInt8) (k : Nat) : plTo b row k < 2 ^ k := by
  induction k with
  | zero => simp [plTo]
  | succ k ih =>
    have := par_lt (b &&& row k)
    refine Nat.xor_lt_two_pow (Nat.lt_of_lt_of_le ih (Nat.pow_le_pow_right (by omega) (by omega))) ?_
    rw [Nat.pow_succ]
    have hp := Nat.two_pow_pos k
    rcases (by omega : par (b &&& row k) = 0 ∨ par (b &&& row k) = 1) with h | h <;> rw [h] <;> omega
theorem plTo_8 (b : UInt8) (row : Nat → UInt8) : plTo b row 8 < 256 := plTo_lt b row 8
theorem bit_dist : ∀ (p q : Fin 2) (k : Nat), (p.val ^^^ q.val) * 2 ^ k = p.val * 2 ^ k ^^^ q.val * 2 ^ k := by
  intro p q k
  match p, q with
  | 0, 0 => simp
  | 0, 1 => simp
  | 1, 0 => simp
  | 1, 1 => simp
theorem and_dist (a b c : UInt8) : (a ^^^ b) &&& c = (a &&& c) ^^^ (b &&& c) := by
  apply UInt8.toNat_inj.1
  simp only [UInt8.toNat_and, UInt8.toNat_xor]
  exact Nat.and_xor_distrib_right
theorem plTo_x (b c : UInt8) (row : Nat → UInt8) (k : Nat) : plTo (b ^^^ c) row k = plTo b row k ^^^ plTo c row k := by
  induction k with
  | zero => simp [plTo]
  | succ k ih =>
    simp only [plTo]
    have hd := bit_dist ⟨_, par_lt (b &&& row k)⟩ ⟨_, par_lt (c &&& row k)⟩ k
    simp only at hd
    rw [ih, and_dist, par_x, hd]
    generalize plTo b row k = p
    generalize plTo c row k = q
    generalize par (b &&& row k) * 2 ^ k = r
    generalize par (c &&& row k) * 2 ^ k = s
    rw [Nat.xor_assoc, Nat.xor_assoc, ← Nat.xor_assoc q r s, Nat.xor_comm q r, Nat.xor_assoc r q s]
theorem or_xor_all : ∀ (k : Fin 8) (x : Fin 256) (q : Fin 2), x.val < 2 ^ k.val → x.val ||| q.val * 2 ^ k.val = x.val ^^^ q.val * 2 ^ k.val := by decide +kernel
theorem or_plane (b : UInt8) (row : Nat → UInt8) (k : Nat) (hk : k < 8) : plTo b row k ||| par (b &&& row k) * 2 ^ k = plTo b row (k + 1) := by
  have h1 := plTo_lt b row k
  have h2 : 2 ^ k < 2 ^ 8 := Nat.pow_lt_pow_right (by omega) hk
  have := or_xor_all ⟨k, hk⟩ ⟨plTo b row k, by omega⟩ ⟨_, par_lt (b &&& row k)⟩ h1
  simpa [plTo] using this
theorem bit_le (p k : Nat) (hp : p < 2) (hk : k < 8) : p * 2 ^ k ≤ 128 := by
  have h2 : 2 ^ k ≤ 2 ^ 7 := Nat.pow_le_pow_right (by omega) (by omega)
  rcases (by omega : p = 0 ∨ p = 1) with h | h <;> rw [h] <;> omega
theorem plane_one : ∀ n : Fin 256, plTo (UInt8.ofNat n.val) (fun k => UInt8.ofNat (2 ^ k)) 8 = n.val := by decide +kernel
theorem plTo_congr (b : UInt8) (r s : Nat → UInt8) (k : Nat) (h : ∀ j, j < k → r j = s j) : plTo b r k = plTo b s k := by
  induction k with
  | zero => rfl
  | succ k ih => simp only [plTo]; rw [ih (fun j hj => h j (by omega)), h k (by omega)]
/-- Plane as the document tells it. -/
def plane (b : UInt8) (len : Nat) (row : Nat → Int) : Nat := if len < 8 then 0 else plTo b (fun k => b8 (row k)) 8
theorem plane_few (b : UInt8) (len : Nat) (row : Nat → Int) (h : len < 8) : plane b len row = 0 := if_pos h
theorem plane_all (b : UInt8) (len : Nat) (row : Nat → Int) (h : ¬ len < 8) : plane b len row = plTo b (fun k => b8 (row k)) 8 := if_neg h
theorem plane_lt (b : UInt8) (len : Nat) (row : Nat → Int) : plane b len row < 256 := by
  unfold plane; split
  · omega
  · exact plTo_8 _ _
theorem plane_x (b c : UInt8) (len : Nat) (row : Nat → Int) : plane (b ^^^ c) len row = plane b len row ^^^ plane c len row := by
  unfold plane; split
  · rfl
  · exact plTo_x _ _ _ _

/-! ### integers of 64 bits, of which the lowest eight count -/
theorem wrap64_mod (n : Int) : IntKind.i64.wrap n % 256 = n % 256 := by rw [IntKind.wrap_i64]; omega
theorem ofInt_mod (x : Int) : (BitVec.ofInt 64 x).toNat % 256 = (b8 x).toNat := by
  have h1 := b8_val x
  rw [BitVec.toNat_ofInt]
  omega
theorem b8_and (x y : Int) : b8 (bits .and .i64 x y) = b8 x &&& b8 y := by
  apply b8_eq
  show IntKind.i64.wrap (((BitVec.ofInt 64 x &&& BitVec.ofInt 64 y).toNat : Nat) : Int) % 256 = _
  have h : (BitVec.ofInt 64 x &&& BitVec.ofInt 64 y).toNat % 256 = (b8 x &&& b8 y).toNat := by
    rw [BitVec.toNat_and, UInt8.toNat_and, ← ofInt_mod, ← ofInt_mod]
    exact Nat.and_mod_two_pow (n := 8)
  rw [wrap64_mod, ← h]
  rfl
theorem b8_xor (x y : Int) : b8 (bits .xor .i64 x y) = b8 x ^^^ b8 y := by
  apply b8_eq
  show IntKind.i64.wrap (((BitVec.ofInt 64 x ^^^ BitVec.ofInt 64 y).toNat : Nat) : Int) % 256 = _
  have h : (BitVec.ofInt 64 x ^^^ BitVec.ofInt 64 y).toNat % 256 = (b8 x ^^^ b8 y).toNat := by
    rw [BitVec.toNat_xor, UInt8.toNat_xor, ← ofInt_mod, ← ofInt_mod]
    exact Nat.xor_mod_two_pow (n := 8)
  rw [wrap64_mod, ← h]
  rfl
theorem ofInt_nat (a : Nat) (h : a < 9223372036854775808) : (BitVec.ofInt 64 (a : Int)).toNat = a := by
  rw [BitVec.ofInt_natCast, BitVec.toNat_ofNat]; exact Nat.mod_eq_of_lt (by omega)
theorem i64_xor_nat (a b : Nat) (ha : a < 4611686018427387904) (hb : b < 4611686018427387904) : bits .xor .i64 (a : Int) (b : Int) = ((a ^^^ b : Nat) : Int) := by
  have h : a ^^^ b < 2 ^ 62 := Nat.xor_lt_two_pow (by omega) (by omega)
  show IntKind.i64.wrap (((BitVec.ofInt 64 a ^^^ BitVec.ofInt 64 b).toNat : Nat) : Int) = _
  rw [BitVec.toNat_xor, ofInt_nat a (by omega), ofInt_nat b (by omega), IntKind.wrap_i64]
  omega
theorem i64_or_nat (a b : Nat) (ha : a < 4611686018427387904) (hb : b < 4611686018427387904) : bits .or .i64 (a : Int) (b : Int) = ((a ||| b : Nat) : Int) := by
  have h : a ||| b < 2 ^ 62 := Nat.or_lt_two_pow (by omega) (by omega)
  show IntKind.i64.wrap (((BitVec.ofInt 64 a ||| BitVec.ofInt 64 b).toNat : Nat) : Int) = _
  rw [BitVec.toNat_or, ofInt_nat a (by omega), ofInt_nat b (by omega), IntKind.wrap_i64]
  omega
theorem i64_x (c d : UInt8) : bits .xor .i64 (c.toNat : Int) (d.toNat : Int) = ((c ^^^ d).toNat : Int) := by
  have := c.toNat_lt; have := d.toNat_lt
  rw [i64_xor_nat _ _ (by omega) (by omega), UInt8.toNat_xor]
/-- bit k of an integer's lowest eight. -/
theorem bit_b8 (b : Int) (k : Nat) (hk : k < 8) : b / 2 ^ k % 2 = (((b8 b).toNat / 2 ^ k % 2 : Nat) : Int) := by
  have h := b8_val b
  have hlt := (b8 b).toNat_lt
  rcases (by omega : k = 0 ∨ k = 1 ∨ k = 2 ∨ k = 3 ∨ k = 4 ∨ k = 5 ∨ k = 6 ∨ k = 7) with h0 | h0 | h0 | h0 | h0 | h0 | h0 | h0 <;> subst h0 <;> omega
end Go.Proofs.YtbfmbdohebdbaaaGreatDoor
set_option linter.unusedVariables false
namespace Go.Proofs.YtbfmbdohebdbaaaGreatDoor
open Go Go.RowKit

/-- a byte turned up by s places, s at most 8. -/
def rotl (c : UInt8) (s : Nat) : UInt8 := UInt8.ofNat (c.toNat * 2 ^ s % 256 ||| c.toNat / 2 ^ (8 - s))
theorem rotl_nat_all : ∀ (n : Fin 256) (s : Fin 9), (n.val * 2 ^ s.val % 256 ||| n.val / 2 ^ (8 - s.val)) < 256 := by decide +kernel
theorem rotl_nat (c : UInt8) (s : Nat) (h : s ≤ 8) : (rotl c s).toNat = (c.toNat * 2 ^ s % 256 ||| c.toNat / 2 ^ (8 - s)) := by
  have := rotl_nat_all ⟨c.toNat, c.toNat_lt⟩ ⟨s, by omega⟩
  simp only at this
  unfold rotl
  rw [UInt8.toNat_ofNat']
  omega
/-- a byte turned down by p places. -/
def rotr (c : UInt8) (p : Int) : UInt8 := rotl c ((8 - p) % 8).toNat
/-- the sum of the turns by the first k places of a list. -/
def turns (c : UInt8) (l : List Int) : Nat → UInt8
  | 0 => 0
  | k + 1 => turns c l k ^^^ rotr c (l.getD k 0)
def aff (c : UInt8) : UInt8 := rotr c 0 ^^^ rotr c 4 ^^^ rotr c 5 ^^^ rotr c 6 ^^^ rotr c 7 ^^^ 99
def unaff (c : UInt8) : UInt8 := rotr (c ^^^ 99) 2 ^^^ rotr (c ^^^ 99) 5 ^^^ rotr (c ^^^ 99) 7
theorem turns_aff (c : UInt8) : turns c [0, 4, 5, 6, 7] 5 ^^^ 99 = aff c := by
  simp [turns, aff]
theorem turns_unaff (c : UInt8) : turns (c ^^^ 99) [2, 5, 7] 3 = unaff c := by
  simp [turns, unaff]
def sbox (c : UInt8) : UInt8 := aff (inv c)
def ubox (c : UInt8) : UInt8 := inv (unaff c)
theorem of_all {P : UInt8 → Prop} (h : ∀ n : Fin 256, P (UInt8.ofNat n.val)) (c : UInt8) : P c := by
  have := h ⟨c.toNat, c.toNat_lt⟩
  simpa using this
theorem aff_sp0 : ∀ n : Fin 256, aff (UInt8.ofNat n.val) = UInt8.ofNat n.val ^^^ rotl (UInt8.ofNat n.val) 1 ^^^ rotl (UInt8.ofNat n.val) 2 ^^^ rotl (UInt8.ofNat n.val) 3 ^^^ rotl (UInt8.ofNat n.val) 4 ^^^ 99 := by decide +kernel
theorem aff_sp (c : UInt8) : aff c = c ^^^ rotl c 1 ^^^ rotl c 2 ^^^ rotl c 3 ^^^ rotl c 4 ^^^ 99 := of_all (P := fun c => aff c = c ^^^ rotl c 1 ^^^ rotl c 2 ^^^ rotl c 3 ^^^ rotl c 4 ^^^ 99) aff_sp0 c
theorem unaff_sp0 : ∀ n : Fin 256, unaff (UInt8.ofNat n.val) = rotl (UInt8.ofNat n.val) 1 ^^^ rotl (UInt8.ofNat n.val) 3 ^^^ rotl (UInt8.ofNat n.val) 6 ^^^ 5 := by decide +kernel
theorem unaff_sp (c : UInt8) : unaff c = rotl c 1 ^^^ rotl c 3 ^^^ rotl c 6 ^^^ 5 := of_all (P := fun c => unaff c = rotl c 1 ^^^ rotl c 3 ^^^ rotl c 6 ^^^ 5) unaff_sp0 c
theorem unaff_aff0 : ∀ n : Fin 256, unaff (aff (UInt8.ofNat n.val)) = UInt8.ofNat n.val := by decide +kernel
theorem unaff_aff (c : UInt8) : unaff (aff c) = c := of_all (P := fun c => unaff (aff c) = c) unaff_aff0 c
theorem aff_unaff0 : ∀ n : Fin 256, aff (unaff (UInt8.ofNat n.val)) = UInt8.ofNat n.val := by decide +kernel
theorem aff_unaff (c : UInt8) : aff (unaff c) = c := of_all (P := fun c => aff (unaff c) = c) aff_unaff0 c
end Go.Proofs.YtbfmbdohebdbaaaGreatDoor
set_option linter.unusedVariables false
namespace Go.Proofs.YtbfmbdohebdbaaaGreatDoor
open Go Go.RowKit

theorem inv_inv (c : UInt8) : inv (inv c) = c := by
  by_cases h : c = 0
  · rw [h, inv_0, inv_0]
  · exact (field_of c h).2.1
theorem ubox_sbox (c : UInt8) : ubox (sbox c) = c := by unfold ubox sbox; rw [unaff_aff, inv_inv]
theorem sbox_ubox (c : UInt8) : sbox (ubox c) = c := by unfold ubox sbox; rw [inv_inv, aff_unaff]
theorem sbox_ne0 : ∀ n : Fin 256, sbox (UInt8.ofNat n.val) ≠ UInt8.ofNat n.val ∧ (sbox (UInt8.ofNat n.val)).toNat ≠ 255 - n.val := by decide +kernel
theorem sbox_ne (c : UInt8) : sbox c ≠ c ∧ (sbox c).toNat ≠ 255 - c.toNat := by
  have := sbox_ne0 ⟨c.toNat, c.toNat_lt⟩
  simpa using this
theorem sbox_inj {c d : UInt8} (h : sbox c = sbox d) : c = d := by rw [← ubox_sbox c, h, ubox_sbox]
end Go.Proofs.YtbfmbdohebdbaaaGreatDoor
set_option linter.unusedVariables false
namespace Go.Proofs.YtbfmbdohebdbaaaGreatDoor
open Go Go.RowKit

/-- a word of any number: its lowest 32 bits. -/
def w32 (x : Int) : UInt32 := UInt32.ofNat (x % 4294967296).toNat
theorem w32_lt (x : UInt32) : x.toNat < 4294967296 := x.toNat_lt
theorem w32_val (x : Int) : ((w32 x).toNat : Int) = x % 4294967296 := by
  unfold w32
  rw [UInt32.toNat_ofNat']
  omega
theorem w32_of (c : UInt32) : w32 (c.toNat : Int) = c := by
  have h := w32_lt c
  apply UInt32.toNat_inj.1
  have := w32_val (c.toNat : Int)
  omega
theorem w32_eq {x : Int} {c : UInt32} (h : x % 4294967296 = (c.toNat : Int)) : w32 x = c := by
  apply UInt32.toNat_inj.1
  have := w32_val x
  omega
/-- the i-th byte of a word, the highest one first. -/
def wb (x : UInt32) (i : Nat) : UInt8 := UInt8.ofNat (x.toNat / 2 ^ (24 - 8 * i))
theorem wb0 (x : UInt32) : (wb x 0).toNat = x.toNat / 16777216 := by
  have := w32_lt x; unfold wb; rw [UInt8.toNat_ofNat']; show x.toNat / 16777216 % 256 = _; omega
theorem wb1 (x : UInt32) : (wb x 1).toNat = x.toNat / 65536 % 256 := by
  unfold wb; rw [UInt8.toNat_ofNat']
theorem wb2 (x : UInt32) : (wb x 2).toNat = x.toNat / 256 % 256 := by
  unfold wb; rw [UInt8.toNat_ofNat']
theorem wb3 (x : UInt32) : (wb x 3).toNat = x.toNat % 256 := by
  unfold wb; rw [UInt8.toNat_ofNat']; show x.toNat / 1 % 256 = _; omega
/-- a word of four bytes. -/
def mkW (a b c d : UInt8) : UInt32 := UInt32.ofNat (a.toNat * 16777216 + b.toNat * 65536 + c.toNat * 256 + d.toNat)
theorem mkW_nat (a b c d : UInt8) : (mkW a b c d).toNat = a.toNat * 16777216 + b.toNat * 65536 + c.toNat * 256 + d.toNat := by
  have := a.toNat_lt; have := b.toNat_lt; have := c.toNat_lt; have := d.toNat_lt
  unfold mkW; rw [UInt32.toNat_ofNat']; omega
theorem mkW_wb (x : UInt32) : mkW (wb x 0) (wb x 1) (wb x 2) (wb x 3) = x := by
  have := w32_lt x
  apply UInt32.toNat_inj.1
  rw [mkW_nat, wb0, wb1, wb2, wb3]; omega
theorem wb0_mk (a b c d : UInt8) : wb (mkW a b c d) 0 = a := by
  have := a.toNat_lt; have := b.toNat_lt; have := c.toNat_lt; have := d.toNat_lt
  apply UInt8.toNat_inj.1; rw [wb0, mkW_nat]; omega
theorem wb1_mk (a b c d : UInt8) : wb (mkW a b c d) 1 = b := by
  have := a.toNat_lt; have := b.toNat_lt; have := c.toNat_lt; have := d.toNat_lt
  apply UInt8.toNat_inj.1; rw [wb1, mkW_nat]; omega
theorem wb2_mk (a b c d : UInt8) : wb (mkW a b c d) 2 = c := by
  have := a.toNat_lt; have := b.toNat_lt; have := c.toNat_lt; have := d.toNat_lt
  apply UInt8.toNat_inj.1; rw [wb2, mkW_nat]; omega
theorem wb3_mk (a b c d : UInt8) : wb (mkW a b c d) 3 = d := by
  have := a.toNat_lt; have := b.toNat_lt; have := c.toNat_lt; have := d.toNat_lt
  apply UInt8.toNat_inj.1; rw [wb3, mkW_nat]; omega
theorem w_ext {x y : UInt32} (h0 : wb x 0 = wb y 0) (h1 : wb x 1 = wb y 1) (h2 : wb x 2 = wb y 2) (h3 : wb x 3 = wb y 3) : x = y := by
  rw [← mkW_wb x, h0, h1, h2, h3, mkW_wb]
/-- the text of a word. -/
def putW (x : UInt32) : ByteArray := ⟨#[wb x 0, wb x 1, wb x 2, wb x 3]⟩
theorem putW_size (x : UInt32) : (putW x).size = 4 := rfl
theorem putW_inj {x y : UInt32} (h : putW x = putW y) : x = y := by
  unfold putW at h
  have h2 : ([wb x 0, wb x 1, wb x 2, wb x 3] : List UInt8) = [wb y 0, wb y 1, wb y 2, wb y 3] := by
    have := congrArg (fun b => b.data.toList) h
    simpa using this
  injection h2 with a b
  injection b with b c
  injection c with c d
  injection d with d e
  exact w_ext a b c d
def byteOf (s : ByteArray) (i : Nat) : UInt8 := s.data.toList.getD i 0
theorem byteOf_at (s : ByteArray) (i : Nat) (h : i < s.size) : s[i] = byteOf s i := by
  have h2 : i < s.data.toList.length := by simpa using h
  unfold byteOf
  rw [List.getD_eq_getElem?_getD, List.getElem?_eq_getElem h2]
  rfl
/-- the word that stands in s from place i on. -/
def getW (s : ByteArray) (i : Nat) : UInt32 := mkW (byteOf s i) (byteOf s (i + 1)) (byteOf s (i + 2)) (byteOf s (i + 3))
theorem getW_putW (x : UInt32) : getW (putW x) 0 = x := mkW_wb x
/-- a word whose bytes are each changed. -/
def mapW (f : UInt8 → UInt8) (x : UInt32) : UInt32 := mkW (f (wb x 0)) (f (wb x 1)) (f (wb x 2)) (f (wb x 3))
/-- a word turned up by k places, k at most 32. -/
def rot (x : UInt32) (k : Nat) : UInt32 := UInt32.ofNat (x.toNat * 2 ^ k % 4294967296 + x.toNat / 2 ^ (32 - k))
theorem nat_or_add (a b k : Nat) (h : b < 2 ^ k) : a * 2 ^ k ||| b = a * 2 ^ k + b := by
  have := Nat.shiftLeft_add_eq_or_of_lt h a
  rw [Nat.shiftLeft_eq] at this
  exact this.symm
theorem rot_lo (x k : Nat) (hk : k ≤ 32) : x * 2 ^ k % 4294967296 = x % 2 ^ (32 - k) * 2 ^ k := by
  have h : 4294967296 = 2 ^ (32 - k) * 2 ^ k := by rw [← Nat.pow_add, show 32 - k + k = 32 by omega]
  rw [h, Nat.mul_mod_mul_right]
theorem rot_hi (x k : Nat) (hk : k ≤ 32) (h : x < 4294967296) : x / 2 ^ (32 - k) < 2 ^ k := by
  apply Nat.div_lt_of_lt_mul
  rw [← Nat.pow_add, show 32 - k + k = 32 by omega]; exact h
theorem rot_or (x k : Nat) (hk : k ≤ 32) (h : x < 4294967296) : (x * 2 ^ k % 4294967296 ||| x / 2 ^ (32 - k)) = x * 2 ^ k % 4294967296 + x / 2 ^ (32 - k) := by
  rw [rot_lo x k hk, nat_or_add _ _ _ (rot_hi x k hk h)]
theorem rot_sum (x k : Nat) (hk : k ≤ 32) (h : x < 4294967296) : x * 2 ^ k % 4294967296 + x / 2 ^ (32 - k) < 4294967296 := by
  have h2 := rot_hi x k hk h
  have h3 : x % 2 ^ (32 - k) < 2 ^ (32 - k) := Nat.mod_lt _ (Nat.two_pow_pos _)
  have h4 : 4294967296 = 2 ^ (32 - k) * 2 ^ k := by rw [← Nat.pow_add, show 32 - k + k = 32 by omega]
  rw [rot_lo x k hk]
  have h5 : (x % 2 ^ (32 - k) + 1) * 2 ^ k ≤ 2 ^ (32 - k) * 2 ^ k := Nat.mul_le_mul_right _ h3
  rw [Nat.add_mul, Nat.one_mul] at h5
  omega
theorem rot_nat (x : UInt32) (k : Nat) (hk : k ≤ 32) : (rot x k).toNat = x.toNat * 2 ^ k % 4294967296 + x.toNat / 2 ^ (32 - k) := by
  have := rot_sum x.toNat k hk (w32_lt x)
  unfold rot; rw [UInt32.toNat_ofNat']; exact Nat.mod_eq_of_lt this
def rotN (x k : Nat) : Nat := x * 2 ^ k % 4294967296 + x / 2 ^ (32 - k)
theorem rotN_lt (x k : Nat) (hk : k ≤ 32) (h : x < 4294967296) : rotN x k < 4294967296 := rot_sum x k hk h
theorem bit_off (x i : Nat) (h : x < 4294967296) (hi : 32 ≤ i) : x.testBit i = false :=
  Nat.testBit_lt_two_pow (Nat.lt_of_lt_of_le h (Nat.pow_le_pow_right (n := 2) (by omega) hi))
theorem rotN_bit (x k i : Nat) (hk : k < 32) (h : x < 4294967296) (hi : i < 32) : (rotN x k).testBit i = x.testBit ((i + (32 - k)) % 32) := by
  unfold rotN
  rw [← rot_or x k (by omega) h, Nat.testBit_or, show 4294967296 = 2 ^ 32 by rfl, Nat.testBit_mod_two_pow, Nat.testBit_mul_two_pow, Nat.testBit_div_two_pow]
  by_cases hik : k ≤ i
  · rw [show (i + (32 - k)) % 32 = i - k by omega, bit_off x (i + (32 - k)) h (by omega)]
    simp [hi, hik]
  · rw [show (i + (32 - k)) % 32 = i + (32 - k) by omega]
    simp [hi, hik]
theorem nat_bits {x y : Nat} (hx : x < 4294967296) (hy : y < 4294967296) (h : ∀ i, i < 32 → x.testBit i = y.testBit i) : x = y := by
  apply Nat.eq_of_testBit_eq
  intro i
  by_cases hi : i < 32
  · exact h i hi
  · rw [bit_off x i hx (by omega), bit_off y i hy (by omega)]
theorem rotN_rotN (x : Nat) (h : x < 4294967296) (j k : Nat) (hj : j < 32) (hk : k < 32) : rotN (rotN x j) k = rotN x ((j + k) % 32) := by
  have hr := rotN_lt x j (by omega) h
  refine nat_bits (rotN_lt _ k (by omega) hr) (rotN_lt _ _ (by omega) h) fun i hi => ?_
  rw [rotN_bit _ k i hk hr hi, rotN_bit x j _ hj h (by omega), rotN_bit x _ i (by omega) h hi]
  congr 1; omega
theorem rotN_0 (x : Nat) (h : x < 4294967296) : rotN x 0 = x := by unfold rotN; simp only [Nat.reducePow, Nat.reduceSub]; omega
theorem rot_rotN (x : UInt32) (k : Nat) (hk : k ≤ 32) : (rot x k).toNat = rotN x.toNat k := rot_nat x k hk
theorem rot_rot (x : UInt32) (j k : Nat) (hj : j < 32) (hk : k < 32) : rot (rot x j) k = rot x ((j + k) % 32) := by
  apply UInt32.toNat_inj.1
  rw [rot_rotN _ k (by omega), rot_rotN _ j (by omega), rot_rotN _ _ (by omega), rotN_rotN _ (w32_lt x) j k hj hk]
theorem rot_0 (x : UInt32) : rot x 0 = x := by
  apply UInt32.toNat_inj.1
  rw [rot_rotN _ _ (by omega), rotN_0 _ (w32_lt x)]
theorem rot_back (x : UInt32) (k : Nat) (hk : k < 32) : rot (rot x k) ((32 - k) % 32) = x := by
  rw [rot_rot x k _ hk (by omega), show (k + (32 - k) % 32) % 32 = 0 by omega, rot_0]
theorem rot_b0 (x : UInt32) : rot x 0 = mkW (wb x 0) (wb x 1) (wb x 2) (wb x 3) := by
  have := w32_lt x
  rw [mkW_wb]; apply UInt32.toNat_inj.1; rw [rot_nat _ _ (by omega)]; simp only [Nat.reducePow, Nat.reduceSub]; omega
theorem rot_b8 (x : UInt32) : rot x 8 = mkW (wb x 1) (wb x 2) (wb x 3) (wb x 0) := by
  have := w32_lt x
  apply UInt32.toNat_inj.1; rw [rot_nat _ _ (by omega), mkW_nat, wb0, wb1, wb2, wb3]; simp only [Nat.reducePow, Nat.reduceSub]; omega
theorem rot_b16 (x : UInt32) : rot x 16 = mkW (wb x 2) (wb x 3) (wb x 0) (wb x 1) := by
  have := w32_lt x
  apply UInt32.toNat_inj.1; rw [rot_nat _ _ (by omega), mkW_nat, wb0, wb1, wb2, wb3]; simp only [Nat.reducePow, Nat.reduceSub]; omega
theorem rot_b24 (x : UInt32) : rot x 24 = mkW (wb x 3) (wb x 0) (wb x 1) (wb x 2) := by
  have := w32_lt x
  apply UInt32.toNat_inj.1; rw [rot_nat _ _ (by omega), mkW_nat, wb0, wb1, wb2, wb3]; simp only [Nat.reducePow, Nat.reduceSub]; omega
theorem mapW_rot (f : UInt8 → UInt8) (x : UInt32) (j : Nat) (hj : j < 4) : mapW f (rot x (8 * j)) = rot (mapW f x) (8 * j) := by
  have h : j = 0 ∨ j = 1 ∨ j = 2 ∨ j = 3 := by omega
  rcases h with rfl | rfl | rfl | rfl
  · rw [rot_b0, rot_b0]; simp [mapW, wb0_mk, wb1_mk, wb2_mk, wb3_mk]
  · rw [rot_b8, rot_b8]; simp [mapW, wb0_mk, wb1_mk, wb2_mk, wb3_mk]
  · rw [rot_b16, rot_b16]; simp [mapW, wb0_mk, wb1_mk, wb2_mk, wb3_mk]
  · rw [rot_b24, rot_b24]; simp [mapW, wb0_mk, wb1_mk, wb2_mk, wb3_mk]
def subW (x : UInt32) : UInt32 := mapW sbox x
/-- what is added to a key. -/
def rcon (i : Nat) : UInt32 := mkW (power 2 (i - 1)) 0 0 0
theorem mul_2_all : ∀ n : Fin 256, mul (UInt8.ofNat n.val) 2 = tw (UInt8.ofNat n.val) := by decide +kernel
theorem mul_2 (c : UInt8) : mul c 2 = tw c := of_all (P := fun c => mul c 2 = tw c) mul_2_all c
theorem power_2 (n : Nat) (h : n + 1 < 2 ^ 64) : power 2 (n + 1) = tw (power 2 n) := by
  rw [power_add 2 n 1 h, ← mul_2]; congr 1
end Go.Proofs.YtbfmbdohebdbaaaGreatDoor
set_option linter.unusedVariables false
namespace Go.Proofs.YtbfmbdohebdbaaaGreatDoor
open Go Go.RowKit

/-- a row of m whose first k are told by f, the others by h. -/
def rowTo {α : Type} (f h : Nat → α) (m k : Nat) : List α := (List.range m).map fun i => if i < k then f i else h i
theorem rowTo_length {α : Type} (f h : Nat → α) (m k : Nat) : (rowTo f h m k).length = m := by simp [rowTo]
theorem rowTo_at {α : Type} (f h : Nat → α) (m k j : Nat) (hj : j < m) : (rowTo f h m k)[j]? = some (if j < k then f j else h j) := by
  unfold rowTo
  rw [List.getElem?_map, List.getElem?_range hj]; rfl
theorem rowTo_lo {α : Type} (f h : Nat → α) (m k j : Nat) (hj : j < m) (hk : j < k) : (rowTo f h m k)[j]? = some (f j) := by
  rw [rowTo_at f h m k j hj, if_pos hk]
theorem rowTo_hi {α : Type} (f h : Nat → α) (m k j : Nat) (hj : j < m) (hk : k ≤ j) : (rowTo f h m k)[j]? = some (h j) := by
  rw [rowTo_at f h m k j hj, if_neg (by omega)]
theorem rowTo_set {α : Type} (f h : Nat → α) (m k : Nat) : (rowTo f h m k).set k (f k) = rowTo f h m (k + 1) := by
  apply List.ext_getElem?
  intro j
  rw [List.getElem?_set]
  by_cases hj : j < m
  · rw [rowTo_at f h m (k + 1) j hj, rowTo_at f h m k j hj, rowTo_length]
    by_cases e : k = j
    · subst e; simp [hj]
    · rw [if_neg e]
      by_cases h1 : j < k
      · rw [if_pos h1, if_pos (by omega)]
      · rw [if_neg h1, if_neg (by omega)]
  · have h1 : (rowTo f h m (k + 1))[j]? = none := List.getElem?_eq_none (by rw [rowTo_length]; omega)
    have h2 : (rowTo f h m k)[j]? = none := List.getElem?_eq_none (by rw [rowTo_length]; omega)
    rw [h1, h2, rowTo_length]
    by_cases e : k = j
    · subst e; simp [hj]
    · simp [e]
/-- the first m, told by f. -/
def upTo {α : Type} (f : Nat → α) (m : Nat) : List α := (List.range m).map f
theorem upTo_length {α : Type} (f : Nat → α) (m : Nat) : (upTo f m).length = m := by simp [upTo]
theorem upTo_succ {α : Type} (f : Nat → α) (m : Nat) : upTo f (m + 1) = upTo f m ++ [f m] := by simp [upTo, List.range_succ]
theorem upTo_at {α : Type} (f : Nat → α) (m j : Nat) (hj : j < m) : (upTo f m)[j]? = some (f j) := by
  unfold upTo; rw [List.getElem?_map, List.getElem?_range hj]; rfl
theorem upTo_get {α : Type} (f : Nat → α) (m j : Nat) (hj : j < (upTo f m).length) : (upTo f m)[j] = f j := by
  simp [upTo]
theorem rowTo_all {α : Type} (f h : Nat → α) (m k : Nat) (hk : m ≤ k) : rowTo f h m k = upTo f m := by
  unfold rowTo upTo
  apply List.map_congr_left
  intro i hi
  rw [if_pos (by have := List.mem_range.1 hi; omega)]
theorem rowTo_zero {α : Type} (f h : Nat → α) (m : Nat) : rowTo f h m 0 = upTo h m := by
  unfold rowTo upTo
  apply List.map_congr_left
  intro i hi
  rw [if_neg (by omega)]
theorem upTo_const {α : Type} (z : α) (m : Nat) : upTo (fun _ => z) m = List.replicate m z := by
  unfold upTo
  apply List.ext_getElem
  · simp
  · intro i h1 h2; simp
theorem upTo_congr {α : Type} (f h : Nat → α) (m : Nat) (e : ∀ j, j < m → f j = h j) : upTo f m = upTo h m := by
  unfold upTo
  apply List.map_congr_left
  intro i hi
  exact e i (List.mem_range.1 hi)
theorem upTo_map {α β : Type} (f : Nat → α) (c : α → β) (m : Nat) : (upTo f m).map c = upTo (fun i => c (f i)) m := by simp [upTo]
/-- whether a text is a right key. -/
def kOk (s : ByteArray) : Prop := s.size = 16 ∨ s.size = 24 ∨ s.size = 32
instance (s : ByteArray) : Decidable (kOk s) := by unfold kOk; exact inferInstance
/-- how many words a key of n words grows to. -/
def kL (n : Nat) : Nat := 4 * (n + 7)
/-- what is added at place i to the word of n places ahead, of the word just ahead. -/
def growW (n i : Nat) (x : UInt32) : UInt32 :=
  if i % n = 0 then subW (rot x 8) ^^^ rcon (i / n) else if n = 8 ∧ i % 8 = 4 then subW x else x
theorem growW_0 (n i : Nat) (x : UInt32) (h : i % n = 0) : growW n i x = subW (rot x 8) ^^^ rcon (i / n) := if_pos h
theorem growW_4 (i : Nat) (x : UInt32) (h : i % 8 = 4) : growW 8 i x = subW x := by
  unfold growW; rw [if_neg (by omega), if_pos ⟨rfl, h⟩]
theorem growW_x (n i : Nat) (x : UInt32) (h0 : ¬ i % n = 0) (h : ¬ (n = 8 ∧ i % 8 = 4)) : growW n i x = x := by
  unfold growW; rw [if_neg h0, if_neg h]
/-- the word at place i of a key of n words that has grown. -/
def ew (s : ByteArray) (n : Nat) (i : Nat) : UInt32 :=
  if h : i < n ∨ n = 0 then getW s (4 * i) else ew s n (i - n) ^^^ growW n i (ew s n (i - 1))
termination_by i
decreasing_by all_goals omega
theorem ew_lo (s : ByteArray) (n i : Nat) (h : i < n) : ew s n i = getW s (4 * i) := by
  rw [ew, dif_pos (Or.inl h)]
theorem ew_hi (s : ByteArray) (n i : Nat) (h : n ≤ i) (h0 : 0 < n) : ew s n i = ew s n (i - n) ^^^ growW n i (ew s n (i - 1)) := by
  conv => lhs; rw [ew]
  rw [dif_neg (by omega)]
/-- a word whose column is mixed back. -/
def unmixW (x : UInt32) : UInt32 :=
  mkW (mul 14 (wb x 0) ^^^ mul 11 (wb x 1) ^^^ mul 13 (wb x 2) ^^^ mul 9 (wb x 3))
    (mul 9 (wb x 0) ^^^ mul 14 (wb x 1) ^^^ mul 11 (wb x 2) ^^^ mul 13 (wb x 3))
    (mul 13 (wb x 0) ^^^ mul 9 (wb x 1) ^^^ mul 14 (wb x 2) ^^^ mul 11 (wb x 3))
    (mul 11 (wb x 0) ^^^ mul 13 (wb x 1) ^^^ mul 9 (wb x 2) ^^^ mul 14 (wb x 3))
/-- the words for the other way. -/
def uw (s : ByteArray) (n : Nat) (i : Nat) : UInt32 := if 4 ≤ i ∧ i < kL n - 4 then unmixW (ew s n i) else ew s n i
/-- a word's cell. -/
def cell32 (x : UInt32) : Value := .int .u32 (x.toNat : Int)
def cells32 (l : List UInt32) : List Value := l.map cell32
theorem cells32_length (l : List UInt32) : (cells32 l).length = l.length := List.length_map _
theorem cells32_set (l : List UInt32) (k : Nat) (x : UInt32) : (cells32 l).set k (cell32 x) = cells32 (l.set k x) := by simp [cells32, List.map_set]
theorem xor32_lt (x y : UInt32) : (x ^^^ y).toNat < 4294967296 := w32_lt _
theorem u32_xor (x y : UInt32) : bits .xor .u32 (x.toNat : Int) (y.toNat : Int) = ((x ^^^ y).toNat : Int) := by
  have hx := w32_lt x
  have hy := w32_lt y
  rw [u32_xor_nat _ _ hx hy, UInt32.toNat_xor]
theorem i64_xor32 (x y : UInt32) : bits .xor .i64 (x.toNat : Int) (y.toNat : Int) = ((x ^^^ y).toNat : Int) := by
  have hx := w32_lt x
  have hy := w32_lt y
  rw [i64_xor_nat _ _ (by omega) (by omega), UInt32.toNat_xor]
end Go.Proofs.YtbfmbdohebdbaaaGreatDoor
set_option linter.unusedVariables false
namespace Go.Proofs.YtbfmbdohebdbaaaGreatDoor
open Go Go.RowKit

/-- what is laid out behind a step of a region that is walked by hand. -/
theorem lay : (∀ (l : List Oper) (i : Nat) (h : i < l.toArray.size), l.toArray[i]'h = l[i]'(by simpa using h)) ∧
    (∀ (o : Oper) (l : List Oper) (i : Nat) (h : i + 1 < (o :: l).length), (o :: l)[i + 1]'h = l[i]'(by simpa using h)) ∧
    (∀ (o : Oper) (l : List Oper) (h : 0 < (o :: l).length), (o :: l)[0]'h = o) ∧
    (∀ (t : Array Value) (e : List Deferred) (d : Tmp) (v : Value), ({ tmps := t, defers := e } : Act).put (some d) v = { tmps := t.setIfInBounds d v, defers := e }) ∧
    (∀ (a : Act) (v : Value), a.put none v = a) ∧
    (∀ (l : List Value) (i : Nat) (v : Value), l.toArray.setIfInBounds i v = (l.set i v).toArray) ∧
    (∀ (x : Value) (l : List Value) (v : Value), (x :: l).set 0 v = v :: l) ∧
    (∀ (x : Value) (l : List Value) (i : Nat) (v : Value), (x :: l).set (i + 1) v = x :: l.set i v) :=
  ⟨fun _ _ _ => rfl, fun _ _ _ _ => rfl, fun _ _ _ => rfl, fun _ _ _ _ => rfl, fun _ _ => rfl, fun _ _ _ => List.setIfInBounds_toArray .., fun _ _ _ => rfl, fun _ _ _ _ => rfl⟩
theorem ret_int {k : IntKind} {a b : Int} (h : a = b) : Ending.returned (.int k a) = .returned (.int k b) := by rw [h]

theorem ret_str {a b : List UInt8} (h : a = b) : Ending.returned (.string ⟨a.toArray⟩) = .returned (.string ⟨b.toArray⟩) := by rw [h]
theorem ret_v {k : IntKind} {a b : Int} (h : a = b) : Value.int k a = .int k b := by rw [h]
theorem wrap64_id (a : Int) (h0 : -9223372036854775808 ≤ a) (h1 : a ≤ 9223372036854775807) : wrap64 a = a := by
  simp only [wrap64]; omega
theorem u8_and_one (x : Int) (h0 : 0 ≤ x) (h1 : x < 256) : bits .and .u8 x 1 = x % 2 := by
  rw [u8_and x 1 h0 h1 (by omega) (by omega)]
  show ((x.toNat &&& 1 : Nat) : Int) = _
  rw [nat_mask1]; omega
theorem bit_of (c : UInt8) (j : Nat) : bits .and .u8 ((c.toNat : Int) / 2 ^ j) 1 = ((c.toNat / 2 ^ j % 2 : Nat) : Int) := by
  have hc := c.toNat_lt
  have e : ((c.toNat : Int) / 2 ^ j) = ((c.toNat / 2 ^ j : Nat) : Int) := by push_cast; rfl
  have hl : c.toNat / 2 ^ j ≤ c.toNat := Nat.div_le_self _ _
  rw [e]
  generalize c.toNat / 2 ^ j = m at *
  rw [u8_and_one _ (by omega) (by omega)]
  omega
/-- the ones of a byte. -/
def popc (c : UInt8) : Int := (Lib.onesCount c.toNat : Int)
/-- the ones of a list of bytes. -/
def ones : List UInt8 → Int
  | [] => 0
  | c :: l => popc c + ones l
theorem popc_bd (c : UInt8) : 0 ≤ popc c ∧ popc c ≤ 8 := by
  have := Lib.onesCount_le8 ⟨c.toNat, c.toNat_lt⟩
  simp only at this
  unfold popc; omega
theorem ones_append (l m : List UInt8) : ones (l ++ m) = ones l + ones m := by
  induction l with
  | nil => simp [ones]
  | cons c l ih => simp only [List.cons_append, ones, ih]; omega
theorem ones_bd (l : List UInt8) : 0 ≤ ones l ∧ ones l ≤ 8 * l.length := by
  induction l with
  | nil => simp [ones]
  | cons c l ih => have := popc_bd c; simp only [ones, List.length_cons]; omega
theorem take_snoc (s : ByteArray) (k : Nat) (h : k < s.size) : s.data.toList.take (k + 1) = s.data.toList.take k ++ [s[k]] := by
  rw [List.take_succ_eq_append_getElem (by simpa using h)]; rfl
theorem ones_snoc (s : ByteArray) (k : Nat) (h : k < s.size) : ones (s.data.toList.take (k + 1)) = ones (s.data.toList.take k) + popc s[k] := by
  rw [take_snoc s k h, ones_append]; simp [ones]
theorem ones_take_bd (s : ByteArray) (k : Nat) : 0 ≤ ones (s.data.toList.take k) ∧ ones (s.data.toList.take k) ≤ 8 * k := by
  have := ones_bd (s.data.toList.take k)
  have hl : (s.data.toList.take k).length ≤ k := List.length_take_le _ _
  omega
/-- the ones among a byte's lowest j bits. -/
def popcTo (c : UInt8) : Nat → Int
  | 0 => 0
  | j + 1 => popcTo c j + ((c.toNat / 2 ^ j % 2 : Nat) : Int)
theorem popcTo_8 : ∀ c : Fin 256, popcTo (UInt8.ofNat c.val) 8 = popc (UInt8.ofNat c.val) := by decide +kernel
theorem popcTo_bd (c : UInt8) (j : Nat) : 0 ≤ popcTo c j ∧ popcTo c j ≤ j := by
  induction j with
  | zero => simp [popcTo]
  | succ j ih =>
    have : c.toNat / 2 ^ j % 2 < 2 := Nat.mod_lt _ (by omega)
    simp only [popcTo]; omega
theorem popcTo_all (c : UInt8) : popcTo c 8 = popc c := by
  have h := popcTo_8 ⟨c.toNat, c.toNat_lt⟩
  simpa using h
theorem ones_step (a : Int) (c : UInt8) (j : Nat) (h0 : 0 ≤ a) (h1 : a ≤ 1099511627776) (hj : j < 8) :
    wrap64 (a + popcTo c j + wrap64 (bits .and .u8 ((c.toNat : Int) / 2 ^ j) 1)) = a + popcTo c (j + 1) := by
  have hq := popcTo_bd c j
  have hb2 : c.toNat / 2 ^ j % 2 < 2 := Nat.mod_lt _ (by omega)
  rw [bit_of c j]
  simp only [popcTo]
  generalize c.toNat / 2 ^ j % 2 = m at *
  rw [wrap64_id (m : Int) (by omega) (by omega), wrap64_id _ (by omega) (by omega)]
  omega
/-- a digit 0 .. f of a number below 16. -/
def hexDig (n : Nat) : UInt8 := if n < 10 then UInt8.ofNat (48 + n) else UInt8.ofNat (87 + n)
/-- two digits a byte. -/
def hexOf : List UInt8 → List UInt8
  | [] => []
  | c :: l => hexDig (c.toNat / 16) :: hexDig (c.toNat % 16) :: hexOf l
theorem hexOf_append (l m : List UInt8) : hexOf (l ++ m) = hexOf l ++ hexOf m := by
  induction l with
  | nil => rfl
  | cons c l ih => simp only [List.cons_append, hexOf, ih]
theorem hexOf_length (l : List UInt8) : (hexOf l).length = 2 * l.length := by
  induction l with
  | nil => rfl
  | cons c l ih => simp only [hexOf, List.length_cons, ih]; omega
theorem hexOf_snoc (s : ByteArray) (k : Nat) (h : k < s.size) : hexOf (s.data.toList.take (k + 1)) = hexOf (s.data.toList.take k) ++ [hexDig (s[k].toNat / 16), hexDig (s[k].toNat % 16)] := by
  rw [take_snoc s k h, hexOf_append]; rfl
/-- a byte's cell. -/
def cell8 (c : UInt8) : Value := .int .u8 (c.toNat : Int)
def cells8 (l : List UInt8) : List Value := l.map cell8
theorem cells8_append (l m : List UInt8) : cells8 (l ++ m) = cells8 l ++ cells8 m := List.map_append
theorem cells8_length (l : List UInt8) : (cells8 l).length = l.length := List.length_map _
/-- the exclusive or of the first k bytes. -/
def xorTo (a b : ByteArray) (k : Nat) : List UInt8 := List.zipWith (fun x y => x ^^^ y) (a.data.toList.take k) (b.data.toList.take k)
def xorOf (a b : ByteArray) : List UInt8 := List.zipWith (fun x y => x ^^^ y) a.data.toList b.data.toList
theorem xorTo_snoc (a b : ByteArray) (k : Nat) (ha : k < a.size) (hb : k < b.size) : xorTo a b (k + 1) = xorTo a b k ++ [a[k] ^^^ b[k]] := by
  have h1 : a.data.toList.length = a.size := by simp
  have h2 : b.data.toList.length = b.size := by simp
  unfold xorTo
  rw [take_snoc a k ha, take_snoc b k hb, List.zipWith_append (by simp [List.length_take, h1, h2]; omega)]
  rfl
theorem xorTo_all (a b : ByteArray) (k : Nat) (ha : k ≤ a.size) (hb : k ≤ b.size) (h : a.size ≤ k ∨ b.size ≤ k) : xorTo a b k = xorOf a b := by
  have h1 : a.data.toList.length = a.size := by simp
  have h2 : b.data.toList.length = b.size := by simp
  unfold xorTo xorOf
  rw [← List.take_zipWith, List.take_of_length_le (by simp [List.length_zipWith]; omega)]
theorem xorTo_length (a b : ByteArray) (k : Nat) (ha : k ≤ a.size) (hb : k ≤ b.size) : (xorTo a b k).length = k := by
  have h1 : a.data.toList.length = a.size := by simp
  have h2 : b.data.toList.length = b.size := by simp
  simp [xorTo, List.length_zipWith, List.length_take]; omega
theorem u8_xor_bytes (c d : UInt8) : bits .xor .u8 (c.toNat : Int) (d.toNat : Int) = ((c ^^^ d).toNat : Int) := by
  have := c.toNat_lt; have := d.toNat_lt
  rw [u8_xor_nat _ _ (by omega) (by omega)]
  rw [UInt8.toNat_xor]
/-- a row of n bytes whose first k are the exclusive or. -/
def xorRow (a b : ByteArray) (k n : Nat) : List UInt8 := xorTo a b k ++ List.replicate (n - k) 0
theorem xorRow_all (a b : ByteArray) (k n : Nat) (hna : n ≤ a.size) (hnb : n ≤ b.size) (hk : k ≤ n) (h : n ≤ k) (hn : a.size ≤ n ∨ b.size ≤ n) : xorRow a b k n = xorOf a b := by
  have : n - k = 0 := by omega
  rw [xorRow, this, xorTo_all a b k (by omega) (by omega) (by omega)]
  simp
theorem xorRow_length (a b : ByteArray) (k n : Nat) (hna : n ≤ a.size) (hnb : n ≤ b.size) (hk : k ≤ n) : (xorRow a b k n).length = n := by
  rw [xorRow, List.length_append, xorTo_length a b k (by omega) (by omega)]; simp; omega
theorem xorRow_set (a b : ByteArray) (k n : Nat) (hna : n ≤ a.size) (hnb : n ≤ b.size) (hk : k < n) :
    (xorRow a b k n).set k (a[k]'(by omega) ^^^ b[k]'(by omega)) = xorRow a b (k + 1) n := by
  have h := xorTo_length a b k (by omega) (by omega)
  unfold xorRow
  rw [xorTo_snoc a b k (by omega) (by omega), List.set_append_right _ _ (by omega), h, Nat.sub_self, show n - k = (n - (k + 1)) + 1 by omega, List.replicate_succ]
  simp
theorem xorRow_zero (a b : ByteArray) (n : Nat) : xorRow a b 0 n = List.replicate n 0 := by
  simp [xorRow, xorTo]
end Go.Proofs.YtbfmbdohebdbaaaGreatDoor
set_option linter.unusedVariables false
namespace Go.Proofs.YtbfmbdohebdbaaaGreatDoor
open Go Go.RowKit

theorem wb_xor (x y : UInt32) (i : Nat) : wb (x ^^^ y) i = wb x i ^^^ wb y i := by
  apply UInt8.toNat_inj.1
  unfold wb
  rw [UInt8.toNat_xor, UInt8.toNat_ofNat', UInt8.toNat_ofNat', UInt8.toNat_ofNat', UInt32.toNat_xor, nat_xor_div]
  exact nat_xor_mod _ _
theorem mkW_xor (a b c d a' b' c' d' : UInt8) : mkW a b c d ^^^ mkW a' b' c' d' = mkW (a ^^^ a') (b ^^^ b') (c ^^^ c') (d ^^^ d') := by
  apply w_ext <;> simp only [wb_xor, wb0_mk, wb1_mk, wb2_mk, wb3_mk]
/-- the products of a byte with four factors, put together to a word. -/
def spr (f : Nat → UInt8) (b : UInt8) : UInt32 := mkW (mul (f 0) b) (mul (f 1) b) (mul (f 2) b) (mul (f 3) b)
/-- the products of a byte with the first k of four factors. -/
def sprTo (f : Nat → UInt8) (b : UInt8) : Nat → Nat
  | 0 => 0
  | k + 1 => sprTo f b k * 256 % 4294967296 + (mul (f k) b).toNat
theorem sprTo_4 (f : Nat → UInt8) (b : UInt8) : sprTo f b 4 = (spr f b).toNat := by
  have h0 := (mul (f 0) b).toNat_lt
  have h1 := (mul (f 1) b).toNat_lt
  have h2 := (mul (f 2) b).toNat_lt
  have h3 := (mul (f 3) b).toNat_lt
  unfold spr
  rw [mkW_nat]
  simp only [sprTo]
  omega
theorem sprTo_up (f : Nat → UInt8) (b : UInt8) (k : Nat) (y : UInt8) (hy : mul (f k) b = y) : bits .or .u32 ((sprTo f b k : Int) * 256 % 4294967296) (y.toNat : Int) = ((sprTo f b (k + 1) : Nat) : Int) := by
  have hyl := y.toNat_lt
  have e : (sprTo f b k : Int) * 256 % 4294967296 = ((sprTo f b k * 256 % 4294967296 : Nat) : Int) := by omega
  have h1 : sprTo f b k * 256 % 4294967296 = (sprTo f b k % 16777216) * 2 ^ 8 := by omega
  have h2 := nat_or_add (sprTo f b k % 16777216) y.toNat 8 (by omega)
  rw [e, u32_or_nat _ _ (by omega) (by omega), sprTo, hy, h1, h2]
theorem sprTo_lt (f : Nat → UInt8) (b : UInt8) (k : Nat) : sprTo f b k < 4294967296 := by
  cases k with
  | zero => simp [sprTo]
  | succ k => have := (mul (f k) b).toNat_lt; rw [sprTo]; omega
/-- how far the word of the byte at a place is turned up. -/
def upBy (k : Nat) : Nat := (32 - 8 * k) % 32
/-- a word's column mixed by factors, its first k bytes. -/
def mixTo (f : Nat → UInt8) (x : UInt32) : Nat → UInt32
  | 0 => 0
  | k + 1 => mixTo f x k ^^^ rot (spr f (wb x k)) (upBy k)
def mixW (f : Nat → UInt8) (x : UInt32) : UInt32 := mixTo f x 4
theorem mixW_bytes (f : Nat → UInt8) (x : UInt32) : mixW f x =
    mkW (mul (f 0) (wb x 0) ^^^ mul (f 3) (wb x 1) ^^^ mul (f 2) (wb x 2) ^^^ mul (f 1) (wb x 3))
      (mul (f 1) (wb x 0) ^^^ mul (f 0) (wb x 1) ^^^ mul (f 3) (wb x 2) ^^^ mul (f 2) (wb x 3))
      (mul (f 2) (wb x 0) ^^^ mul (f 1) (wb x 1) ^^^ mul (f 0) (wb x 2) ^^^ mul (f 3) (wb x 3))
      (mul (f 3) (wb x 0) ^^^ mul (f 2) (wb x 1) ^^^ mul (f 1) (wb x 2) ^^^ mul (f 0) (wb x 3)) := by
  have e0 : upBy 0 = 0 := rfl
  have e1 : upBy 1 = 24 := rfl
  have e2 : upBy 2 = 16 := rfl
  have e3 : upBy 3 = 8 := rfl
  unfold mixW
  simp only [mixTo, e0, e1, e2, e3]
  rw [UInt32.zero_xor, rot_b0, rot_b24, rot_b16, rot_b8]
  simp only [spr, wb0_mk, wb1_mk, wb2_mk, wb3_mk, mkW_xor]
/-- one byte of a column, multiplied by a row that is turned on, its first k products. -/
def colTo (r : Nat → UInt8) (x : UInt32) (i : Nat) : Nat → UInt8
  | 0 => 0
  | k + 1 => colTo r x i k ^^^ mul (r ((k + 4 - i) % 4)) (wb x k)
theorem col_mix (r f : Nat → UInt8) (x : UInt32) (h0 : f 0 = r 0) (h1 : f 1 = r 3) (h2 : f 2 = r 2) (h3 : f 3 = r 1) :
    mkW (colTo r x 0 4) (colTo r x 1 4) (colTo r x 2 4) (colTo r x 3 4) = mixW f x := by
  rw [mixW_bytes, h0, h1, h2, h3]
  simp only [colTo, Nat.zero_add, Nat.reduceAdd, Nat.reduceSub, Nat.reduceMod, zero_x]
/-- the factors of the words for the other way, and the row of them. -/
def unF : Nat → UInt8
  | 0 => 14
  | 1 => 9
  | 2 => 13
  | _ => 11
def unR : Nat → UInt8
  | 0 => 14
  | 1 => 11
  | 2 => 13
  | _ => 9
theorem unmix_f (x : UInt32) : mixW unF x = unmixW x := by
  rw [mixW_bytes]; rfl
theorem unmix_r (x : UInt32) : mkW (colTo unR x 0 4) (colTo unR x 1 4) (colTo unR x 2 4) (colTo unR x 3 4) = unmixW x := by
  rw [col_mix unR unF x rfl rfl rfl rfl, unmix_f]
theorem uw_out (s : ByteArray) (n i : Nat) (h : ¬ (4 ≤ i ∧ i < kL n - 4)) : uw s n i = ew s n i := if_neg h
theorem uw_in (s : ByteArray) (n i : Nat) (h : 4 ≤ i ∧ i < kL n - 4) : uw s n i = unmixW (ew s n i) := if_pos h
theorem rowTo_start {α : Type} (f h : Nat → α) (m k : Nat) (e : ∀ j, j < k → f j = h j) : rowTo f h m k = upTo h m := by
  unfold rowTo upTo
  apply List.map_congr_left
  intro i hi
  by_cases hk : i < k
  · rw [if_pos hk, e i hk]
  · rw [if_neg hk]
theorem rowTo_end {α : Type} (f h : Nat → α) (m k : Nat) (e : ∀ j, k ≤ j → j < m → f j = h j) : rowTo f h m k = upTo f m := by
  unfold rowTo upTo
  apply List.map_congr_left
  intro i hi
  by_cases hk : i < k
  · rw [if_pos hk]
  · rw [if_neg hk, e i (by omega) (List.mem_range.1 hi)]
end Go.Proofs.YtbfmbdohebdbaaaGreatDoor
set_option linter.unusedVariables false
set_option linter.unusedSimpArgs false
namespace Go.Proofs.YtbfmbdohebdbaaaGreatDoor
open Go Go.RowKit

/-- a text of the n bytes that f tells. -/
def txt (f : Nat → UInt8) (n : Nat) : ByteArray := ⟨(upTo f n).toArray⟩
theorem txt_size (f : Nat → UInt8) (n : Nat) : (txt f n).size = n := by
  show (upTo f n).toArray.size = n
  simp [upTo]
theorem txt_byte (f : Nat → UInt8) (n i : Nat) (h : i < n) : byteOf (txt f n) i = f i := by
  unfold byteOf txt
  rw [List.getD_eq_getElem?_getD, upTo_at f n i h]
  rfl
theorem txt_ext (f g : Nat → UInt8) (n : Nat) (h : ∀ i, i < n → f i = g i) : txt f n = txt g n := by
  unfold txt; rw [upTo_congr f g n h]
theorem txt_own (s : ByteArray) (n : Nat) (h : s.size = n) : txt (byteOf s) n = s := by
  apply ByteArray.ext
  apply Array.ext'
  show upTo (byteOf s) n = s.data.toList
  have hl : s.data.toList.length = n := by simpa using h
  apply List.ext_getElem?
  intro i
  by_cases hi : i < n
  · rw [upTo_at _ _ _ hi]
    unfold byteOf
    rw [List.getD_eq_getElem?_getD, List.getElem?_eq_getElem (by omega)]
    rfl
  · rw [List.getElem?_eq_none (by rw [upTo_length]; omega), List.getElem?_eq_none (by omega)]
theorem b_ext (a b : ByteArray) (n : Nat) (ha : a.size = n) (hb : b.size = n) (h : ∀ i, i < n → byteOf a i = byteOf b i) : a = b := by
  rw [← txt_own a n ha, ← txt_own b n hb]; exact txt_ext _ _ n h
/-- where a byte of a block comes from, when its rows are shifted by so many columns each. -/
def shAt (d i : Nat) : Nat := (i + 4 * d * (i % 4)) % 16
theorem shAt_lt (d i : Nat) : shAt d i < 16 := Nat.mod_lt _ (by omega)
/-- a block whose rows are shifted. -/
def shS (d : Nat) (s : ByteArray) : ByteArray := txt (fun i => byteOf s (shAt d i)) 16
theorem shS_size (d : Nat) (s : ByteArray) : (shS d s).size = 16 := txt_size _ _
theorem shS_byte (d : Nat) (s : ByteArray) (i : Nat) (h : i < 16) : byteOf (shS d s) i = byteOf s (shAt d i) := txt_byte _ _ _ h
theorem sh_13 : ∀ i : Fin 16, shAt 1 (shAt 3 i.val) = i.val ∧ shAt 3 (shAt 1 i.val) = i.val ∧ shAt 1 (shAt 1 (shAt 1 (shAt 1 i.val))) = i.val := by decide +kernel
theorem sh_back (s : ByteArray) (h : s.size = 16) : shS 3 (shS 1 s) = s := by
  refine Eq.trans (txt_ext _ (byteOf s) 16 fun i hi => ?_) (txt_own s 16 h)
  rw [shS_byte 1 s _ (shAt_lt _ _), (sh_13 ⟨i, hi⟩).1]
theorem sh_forth (s : ByteArray) (h : s.size = 16) : shS 1 (shS 3 s) = s := by
  refine Eq.trans (txt_ext _ (byteOf s) 16 fun i hi => ?_) (txt_own s 16 h)
  rw [shS_byte 3 s _ (shAt_lt _ _), (sh_13 ⟨i, hi⟩).2.1]
theorem sh_four (s : ByteArray) (h : s.size = 16) : shS 1 (shS 1 (shS 1 (shS 1 s))) = s := by
  refine Eq.trans (txt_ext _ (byteOf s) 16 fun i hi => ?_) (txt_own s 16 h)
  rw [shS_byte 1 _ _ (shAt_lt _ _), shS_byte 1 _ _ (shAt_lt _ _), shS_byte 1 _ _ (shAt_lt _ _), (sh_13 ⟨i, hi⟩).2.2]
/-- the words of a block, and a block of words. -/
def colW (s : ByteArray) (j : Nat) : UInt32 := getW s (4 * j)
def ofW (f : Nat → UInt32) : ByteArray := txt (fun i => wb (f (i / 4)) (i % 4)) 16
theorem ofW_size (f : Nat → UInt32) : (ofW f).size = 16 := txt_size _ _
theorem ofW_byte (f : Nat → UInt32) (i : Nat) (h : i < 16) : byteOf (ofW f) i = wb (f (i / 4)) (i % 4) := txt_byte _ _ _ h
theorem colW_ofW (f : Nat → UInt32) (j : Nat) (hj : j < 4) : colW (ofW f) j = f j := by
  unfold colW getW
  rw [ofW_byte f _ (by omega), ofW_byte f _ (by omega), ofW_byte f _ (by omega), ofW_byte f _ (by omega)]
  rw [show 4 * j / 4 = j by omega, show 4 * j % 4 = 0 by omega, show (4 * j + 1) / 4 = j by omega, show (4 * j + 1) % 4 = 1 by omega, show (4 * j + 2) / 4 = j by omega, show (4 * j + 2) % 4 = 2 by omega, show (4 * j + 3) / 4 = j by omega, show (4 * j + 3) % 4 = 3 by omega, mkW_wb]
theorem ofW_ext (f g : Nat → UInt32) (h : ∀ j, j < 4 → f j = g j) : ofW f = ofW g :=
  txt_ext _ _ 16 fun i hi => by show wb (f (i / 4)) _ = wb (g (i / 4)) _; rw [h (i / 4) (by omega)]
theorem wb_getW (s : ByteArray) (i j : Nat) (hj : j < 4) : wb (getW s i) j = byteOf s (i + j) := by
  have h4 : j = 0 ∨ j = 1 ∨ j = 2 ∨ j = 3 := by omega
  unfold getW
  rcases h4 with rfl | rfl | rfl | rfl
  · exact wb0_mk _ _ _ _
  · exact wb1_mk _ _ _ _
  · exact wb2_mk _ _ _ _
  · exact wb3_mk _ _ _ _
theorem ofW_colW (s : ByteArray) (h : s.size = 16) : ofW (colW s) = s := by
  refine Eq.trans (txt_ext _ (byteOf s) 16 fun i hi => ?_) (txt_own s 16 h)
  show wb (getW s (4 * (i / 4))) (i % 4) = byteOf s i
  rw [wb_getW _ _ _ (by omega)]; congr 1; omega
theorem putW_b (x : UInt32) (k : Nat) (hk : k < 4) : byteOf (putW x) k = wb x k := by
  have h4 : k = 0 ∨ k = 1 ∨ k = 2 ∨ k = 3 := by omega
  rcases h4 with rfl | rfl | rfl | rfl <;> rfl
theorem ext4 (s : ByteArray) (i : Nat) (h : i + 4 ≤ s.size) : s.extract i (i + 4) = putW (getW s i) := by
  have hs : (s.extract i (i + 4)).size = 4 := by rw [ByteArray.size_extract]; omega
  refine b_ext _ _ 4 hs rfl fun j hj => ?_
  rw [← byteOf_at _ _ (by rw [hs]; exact hj), ByteArray.getElem_extract, byteOf_at, putW_b _ _ hj, wb_getW _ _ _ hj]
theorem mkW_put (a b c d : UInt8) : (⟨#[a, b, c, d]⟩ : ByteArray) = putW (mkW a b c d) := by
  unfold putW; rw [wb0_mk, wb1_mk, wb2_mk, wb3_mk]
/-- the text of the first k of a block's words. -/
def outW (f : Nat → UInt32) (k : Nat) : ByteArray := txt (fun i => wb (f (i / 4)) (i % 4)) (4 * k)
theorem outW_size (f : Nat → UInt32) (k : Nat) : (outW f k).size = 4 * k := txt_size _ _
theorem outW_0 (f : Nat → UInt32) : outW f 0 = ⟨#[]⟩ := rfl
theorem outW_4 (f : Nat → UInt32) : outW f 4 = ofW f := rfl
theorem outW_up (f : Nat → UInt32) (k : Nat) : outW f k ++ putW (f k) = outW f (k + 1) := by
  apply ByteArray.ext
  apply Array.ext'
  rw [ByteArray.data_append, Array.toList_append]
  show upTo (fun i => wb (f (i / 4)) (i % 4)) (4 * k) ++ [wb (f k) 0, wb (f k) 1, wb (f k) 2, wb (f k) 3] = upTo (fun i => wb (f (i / 4)) (i % 4)) (4 * (k + 1))
  rw [show 4 * (k + 1) = 4 * k + 1 + 1 + 1 + 1 by omega, upTo_succ, upTo_succ, upTo_succ, upTo_succ]
  rw [show 4 * k / 4 = k by omega, show 4 * k % 4 = 0 by omega, show (4 * k + 1) / 4 = k by omega, show (4 * k + 1) % 4 = 1 by omega, show (4 * k + 1 + 1) / 4 = k by omega, show (4 * k + 1 + 1) % 4 = 2 by omega, show (4 * k + 1 + 1 + 1) / 4 = k by omega, show (4 * k + 1 + 1 + 1) % 4 = 3 by omega]
  simp only [List.append_assoc, List.cons_append, List.nil_append]
/-- factors one behind the other. -/
def conv (f g : Nat → UInt8) : Nat → UInt8
  | 0 => mul (f 0) (g 0) ^^^ mul (f 1) (g 3) ^^^ mul (f 2) (g 2) ^^^ mul (f 3) (g 1)
  | 1 => mul (f 0) (g 1) ^^^ mul (f 1) (g 0) ^^^ mul (f 2) (g 3) ^^^ mul (f 3) (g 2)
  | 2 => mul (f 0) (g 2) ^^^ mul (f 1) (g 1) ^^^ mul (f 2) (g 0) ^^^ mul (f 3) (g 3)
  | _ => mul (f 0) (g 3) ^^^ mul (f 1) (g 2) ^^^ mul (f 2) (g 1) ^^^ mul (f 3) (g 0)
theorem mixW_congr (f g : Nat → UInt8) (x : UInt32) (h0 : f 0 = g 0) (h1 : f 1 = g 1) (h2 : f 2 = g 2) (h3 : f 3 = g 3) : mixW f x = mixW g x := by
  rw [mixW_bytes, mixW_bytes, h0, h1, h2, h3]
theorem regroup (a b c d e f g h i j k l m n o p : UInt8) :
    (a ^^^ b ^^^ c ^^^ d) ^^^ (e ^^^ f ^^^ g ^^^ h) ^^^ (i ^^^ j ^^^ k ^^^ l) ^^^ (m ^^^ n ^^^ o ^^^ p) = (a ^^^ e ^^^ i ^^^ m) ^^^ (b ^^^ f ^^^ j ^^^ n) ^^^ (c ^^^ g ^^^ k ^^^ o) ^^^ (d ^^^ h ^^^ l ^^^ p) := by
  simp only [x_assoc, x_comm, x_lcomm]
/-- one byte of what is mixed twice. -/
theorem conv_byte (f0 f1 f2 f3 a0 a1 a2 a3 b0 b1 b2 b3 c0 c1 c2 c3 d0 d1 d2 d3 x0 x1 x2 x3 : UInt8) :
    mul f0 (mul a0 x0 ^^^ mul a1 x1 ^^^ mul a2 x2 ^^^ mul a3 x3) ^^^ mul f1 (mul b0 x0 ^^^ mul b1 x1 ^^^ mul b2 x2 ^^^ mul b3 x3) ^^^ mul f2 (mul c0 x0 ^^^ mul c1 x1 ^^^ mul c2 x2 ^^^ mul c3 x3) ^^^ mul f3 (mul d0 x0 ^^^ mul d1 x1 ^^^ mul d2 x2 ^^^ mul d3 x3)
    = mul (mul f0 a0 ^^^ mul f1 b0 ^^^ mul f2 c0 ^^^ mul f3 d0) x0 ^^^ mul (mul f0 a1 ^^^ mul f1 b1 ^^^ mul f2 c1 ^^^ mul f3 d1) x1 ^^^ mul (mul f0 a2 ^^^ mul f1 b2 ^^^ mul f2 c2 ^^^ mul f3 d2) x2 ^^^ mul (mul f0 a3 ^^^ mul f1 b3 ^^^ mul f2 c3 ^^^ mul f3 d3) x3 := by
  simp only [mul_xl, mul_xr, mul_assoc]
  exact regroup _ _ _ _ _ _ _ _ _ _ _ _ _ _ _ _
theorem mix_mix (f g : Nat → UInt8) (x : UInt32) : mixW f (mixW g x) = mixW (conv f g) x := by
  rw [mixW_bytes f, mixW_bytes g, mixW_bytes (conv f g)]
  simp only [wb0_mk, wb1_mk, wb2_mk, wb3_mk, conv_byte, conv]
  generalize mul (f 0) (g 0) = m00
  generalize mul (f 0) (g 1) = m01
  generalize mul (f 0) (g 2) = m02
  generalize mul (f 0) (g 3) = m03
  generalize mul (f 1) (g 0) = m10
  generalize mul (f 1) (g 1) = m11
  generalize mul (f 1) (g 2) = m12
  generalize mul (f 1) (g 3) = m13
  generalize mul (f 2) (g 0) = m20
  generalize mul (f 2) (g 1) = m21
  generalize mul (f 2) (g 2) = m22
  generalize mul (f 2) (g 3) = m23
  generalize mul (f 3) (g 0) = m30
  generalize mul (f 3) (g 1) = m31
  generalize mul (f 3) (g 2) = m32
  generalize mul (f 3) (g 3) = m33
  generalize wb x 0 = x0
  generalize wb x 1 = x1
  generalize wb x 2 = x2
  generalize wb x 3 = x3
  simp only [x_assoc, x_comm, x_lcomm]
theorem mixW_xor (f : Nat → UInt8) (x y : UInt32) : mixW f (x ^^^ y) = mixW f x ^^^ mixW f y := by
  rw [mixW_bytes f (x ^^^ y), mixW_bytes f x, mixW_bytes f y, mkW_xor]
  simp only [wb_xor, mul_xr]
  congr 1 <;> simp only [x_assoc, x_comm, x_lcomm]
/-- the factors of a column that is mixed. -/
def mxF : Nat → UInt8
  | 0 => 2
  | 1 => 1
  | 2 => 1
  | _ => 3
def mxR : Nat → UInt8
  | 0 => 2
  | 1 => 3
  | 2 => 1
  | _ => 1
def idF : Nat → UInt8
  | 0 => 1
  | _ => 0
theorem mixW_id (x : UInt32) : mixW idF x = x := by
  rw [mixW_bytes]
  simp only [idF, mul_1l, mul_0l, x_zero, zero_x]
  exact mkW_wb x
theorem mx_conv : (conv unF mxF 0 = 1 ∧ conv unF mxF 1 = 0 ∧ conv unF mxF 2 = 0 ∧ conv unF mxF 3 = 0) ∧ (conv mxF unF 0 = 1 ∧ conv mxF unF 1 = 0 ∧ conv mxF unF 2 = 0 ∧ conv mxF unF 3 = 0) ∧ (conv (conv mxF mxF) (conv mxF mxF) 0 = 1 ∧ conv (conv mxF mxF) (conv mxF mxF) 1 = 0 ∧ conv (conv mxF mxF) (conv mxF mxF) 2 = 0 ∧ conv (conv mxF mxF) (conv mxF mxF) 3 = 0) := by decide +kernel
/-- a column that is mixed. -/
def mxW (x : UInt32) : UInt32 := mixW mxF x
theorem mxW_f (x : UInt32) : mixW mxF x = mxW x := rfl
theorem un_mx (x : UInt32) : unmixW (mxW x) = x := by
  rw [← unmix_f]; unfold mxW
  rw [mix_mix, mixW_congr _ idF x mx_conv.1.1 mx_conv.1.2.1 mx_conv.1.2.2.1 mx_conv.1.2.2.2, mixW_id]
theorem mx_un (x : UInt32) : mxW (unmixW x) = x := by
  rw [← unmix_f]; unfold mxW
  rw [mix_mix, mixW_congr _ idF x mx_conv.2.1.1 mx_conv.2.1.2.1 mx_conv.2.1.2.2.1 mx_conv.2.1.2.2.2, mixW_id]
theorem mx_four (x : UInt32) : mxW (mxW (mxW (mxW x))) = x := by
  unfold mxW
  rw [mix_mix mxF mxF (mixW mxF (mixW mxF x)), mix_mix mxF mxF x, mix_mix, mixW_congr _ idF x mx_conv.2.2.1 mx_conv.2.2.2.1 mx_conv.2.2.2.2.1 mx_conv.2.2.2.2.2, mixW_id]
theorem mx_xor (x y : UInt32) : mxW (x ^^^ y) = mxW x ^^^ mxW y := mixW_xor mxF x y
theorem alike_all : ∀ n : Fin 256, mul 2 (UInt8.ofNat n.val) ^^^ mul 3 (UInt8.ofNat n.val) ^^^ mul 1 (UInt8.ofNat n.val) ^^^ mul 1 (UInt8.ofNat n.val) = UInt8.ofNat n.val := by decide +kernel
theorem alike (c : UInt8) : mul 2 c ^^^ mul 3 c ^^^ mul 1 c ^^^ mul 1 c = c := by
  have h := alike_all ⟨c.toNat, c.toNat_lt⟩
  simpa using h
theorem mx_alike (c : UInt8) : mxW (mkW c c c c) = mkW c c c c := by
  have h := alike c
  unfold mxW
  rw [mixW_bytes]
  simp only [mxF, wb0_mk, wb1_mk, wb2_mk, wb3_mk]
  congr 1 <;> refine Eq.trans ?_ h <;> simp only [x_assoc, x_comm, x_lcomm]
theorem mx_r (x : UInt32) : mkW (colTo mxR x 0 4) (colTo mxR x 1 4) (colTo mxR x 2 4) (colTo mxR x 3 4) = mxW x :=
  col_mix mxR mxF x rfl rfl rfl rfl
/-- a block whose columns are mixed; one whose columns are mixed back. -/
def mxS (s : ByteArray) : ByteArray := ofW fun j => mxW (colW s j)
def unS (s : ByteArray) : ByteArray := ofW fun j => unmixW (colW s j)
theorem mxS_size (s : ByteArray) : (mxS s).size = 16 := ofW_size _
theorem unS_size (s : ByteArray) : (unS s).size = 16 := ofW_size _
theorem un_mxS (s : ByteArray) (h : s.size = 16) : unS (mxS s) = s := by
  refine Eq.trans (ofW_ext _ (colW s) fun j hj => ?_) (ofW_colW s h)
  show unmixW (colW (ofW _) j) = _
  rw [colW_ofW _ j hj, un_mx]
theorem mx_unS (s : ByteArray) (h : s.size = 16) : mxS (unS s) = s := by
  refine Eq.trans (ofW_ext _ (colW s) fun j hj => ?_) (ofW_colW s h)
  show mxW (colW (ofW _) j) = _
  rw [colW_ofW _ j hj, mx_un]
theorem mx_fourS (s : ByteArray) (h : s.size = 16) : mxS (mxS (mxS (mxS s))) = s := by
  refine Eq.trans (ofW_ext _ (colW s) fun j hj => ?_) (ofW_colW s h)
  show mxW (colW (ofW _) j) = _
  rw [colW_ofW _ j hj]
  show mxW (mxW (colW (ofW _) j)) = _
  rw [colW_ofW _ j hj]
  show mxW (mxW (mxW (colW (ofW _) j))) = _
  rw [colW_ofW _ j hj, mx_four]
/-- the sum of two texts that are as long as one another. -/
def xorS (a b : ByteArray) : ByteArray := txt (fun i => byteOf a i ^^^ byteOf b i) 16
theorem xorS_size (a b : ByteArray) : (xorS a b).size = 16 := txt_size _ _
theorem xorS_byte (a b : ByteArray) (i : Nat) (h : i < 16) : byteOf (xorS a b) i = byteOf a i ^^^ byteOf b i := txt_byte _ _ _ h
theorem xorOf_S (a b : ByteArray) (ha : a.size = 16) (hb : b.size = 16) : (⟨(xorOf a b).toArray⟩ : ByteArray) = xorS a b := by
  have hla : a.data.toList.length = 16 := by simpa using ha
  have hlb : b.data.toList.length = 16 := by simpa using hb
  unfold xorS txt xorOf
  congr 2
  apply List.ext_getElem?
  intro i
  by_cases hi : i < 16
  · rw [upTo_at _ _ _ hi, List.getElem?_zipWith]
    unfold byteOf
    rw [List.getD_eq_getElem?_getD, List.getD_eq_getElem?_getD, List.getElem?_eq_getElem (by omega), List.getElem?_eq_getElem (by omega)]
    rfl
  · rw [List.getElem?_eq_none (by simp; omega), List.getElem?_eq_none (by rw [upTo_length]; omega)]
theorem shS_xor (a b : ByteArray) (d : Nat) : shS d (xorS a b) = xorS (shS d a) (shS d b) := by
  refine txt_ext _ _ 16 fun i hi => ?_
  show byteOf (xorS a b) (shAt d i) = byteOf (shS d a) i ^^^ byteOf (shS d b) i
  rw [xorS_byte _ _ _ (shAt_lt _ _), shS_byte _ _ _ hi, shS_byte _ _ _ hi]
theorem colW_xor (a b : ByteArray) (j : Nat) (hj : j < 4) : colW (xorS a b) j = colW a j ^^^ colW b j := by
  unfold colW
  apply w_ext <;> rw [wb_xor, wb_getW _ _ _ (by omega), wb_getW _ _ _ (by omega), wb_getW _ _ _ (by omega), xorS_byte _ _ _ (by omega)]
theorem mxS_xor (a b : ByteArray) : mxS (xorS a b) = xorS (mxS a) (mxS b) := by
  refine txt_ext _ _ 16 fun i hi => ?_
  show wb (mxW (colW (xorS a b) (i / 4))) (i % 4) = byteOf (mxS a) i ^^^ byteOf (mxS b) i
  rw [colW_xor _ _ _ (by omega), mx_xor, wb_xor]
  unfold mxS
  rw [ofW_byte _ _ hi, ofW_byte _ _ hi]
end Go.Proofs.YtbfmbdohebdbaaaGreatDoor
