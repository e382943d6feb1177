/-
  Contracts and facts that the laws of this seat use: BitMath, BitRound.
-/
import Derived.Test.YtbfmbdohebdbaaaGreatDoorPure
set_option linter.unusedVariables false
set_option linter.unusedSimpArgs false
namespace Go.Proofs.YtbfmbdohebdbaaaGreatDoor
open Go Go.RowKit

/-- the number whose bits below n are these. -/
def wOf (f : Nat → Bool) : Nat → Nat
  | 0 => 0
  | n + 1 => wOf f n + (f n).toNat * 2 ^ n
theorem wOf_lt (f : Nat → Bool) (n : Nat) : wOf f n < 2 ^ n := by
  induction n with
  | zero => simp [wOf]
  | succ n ih =>
    rw [wOf, Nat.pow_succ]
    cases f n <;> simp <;> omega
theorem wOf_bit (f : Nat → Bool) (n i : Nat) : (wOf f n).testBit i = (decide (i < n) && f i) := by
  induction n with
  | zero => simp [wOf]
  | succ n ih =>
    have hl := wOf_lt f n
    rw [wOf, Nat.add_comm, Nat.mul_comm]
    rcases Nat.lt_trichotomy i n with h | h | h
    · rw [Nat.testBit_two_pow_mul_add _ hl, if_pos h, ih]
      simp [h, Nat.lt_succ_of_lt h]
    · subst h
      rw [Nat.testBit_two_pow_mul_add _ hl, if_neg (Nat.lt_irrefl _), Nat.sub_self]
      cases f i <;> simp
    · rw [Nat.testBit_two_pow_mul_add _ hl, if_neg (by omega)]
      have e : i - n = (i - n - 1) + 1 := by omega
      rw [e, Nat.testBit_succ]
      have : decide (i < n + 1) = false := by simp; omega
      rw [this]
      cases f n <;> simp
theorem bit_high {x i : Nat} (h : x < 2 ^ 64) (hi : 64 ≤ i) : x.testBit i = false :=
  Nat.testBit_lt_two_pow (Nat.lt_of_lt_of_le h (Nat.pow_le_pow_right (by omega) hi))
theorem w_bits {x y : Nat} (hx : x < 2 ^ 64) (hy : y < 2 ^ 64) (h : ∀ i, i < 64 → x.testBit i = y.testBit i) : x = y := by
  apply Nat.eq_of_testBit_eq
  intro i
  by_cases hi : i < 64
  · exact h i hi
  · rw [bit_high hx (by omega), bit_high hy (by omega)]
/-- bit k of a byte. -/
def bt (c : UInt8) (k : Nat) : Bool := c.toNat.testBit k
theorem bt_x (c d : UInt8) (k : Nat) : bt (c ^^^ d) k = (bt c k ^^ bt d k) := by
  unfold bt; rw [UInt8.toNat_xor, Nat.testBit_xor]
theorem bt_0 (k : Nat) : bt 0 k = false := by unfold bt; simp
theorem bt_ext {c d : UInt8} (h : ∀ k, k < 8 → bt c k = bt d k) : c = d := by
  apply UInt8.toNat_inj.1
  apply Nat.eq_of_testBit_eq
  intro k
  by_cases hk : k < 8
  · exact h k hk
  · have hc : c.toNat < 2 ^ k := Nat.lt_of_lt_of_le c.toNat_lt (Nat.pow_le_pow_right (n := 2) (by omega) (show 8 ≤ k by omega))
    have hd : d.toNat < 2 ^ k := Nat.lt_of_lt_of_le d.toNat_lt (Nat.pow_le_pow_right (n := 2) (by omega) (show 8 ≤ k by omega))
    rw [Nat.testBit_lt_two_pow hc, Nat.testBit_lt_two_pow hd]
theorem bt_div (c : UInt8) (k : Nat) : (bt c k).toNat = c.toNat / 2 ^ k % 2 := by
  unfold bt
  rw [Nat.testBit_eq_decide_div_mod_eq]
  have := Nat.mod_two_eq_zero_or_one (c.toNat / 2 ^ k)
  rcases this with h | h <;> rw [h] <;> rfl
/-- plane k of 64 bytes. -/
def plW (s : Nat → UInt8) (k : Nat) : Nat := wOf (fun i => bt (s i) k) 64
theorem plW_lt (s : Nat → UInt8) (k : Nat) : plW s k < 2 ^ 64 := wOf_lt _ _
theorem plW_lt' (s : Nat → UInt8) (k : Nat) : plW s k < 18446744073709551616 := plW_lt s k
theorem plW_bit (s : Nat → UInt8) (k i : Nat) (hi : i < 64) : (plW s k).testBit i = bt (s i) k := by
  unfold plW; rw [wOf_bit]; simp [hi]
theorem plW_of {x : Nat} {s : Nat → UInt8} {k : Nat} (hx : x < 2 ^ 64) (h : ∀ i, i < 64 → x.testBit i = bt (s i) k) : x = plW s k :=
  w_bits hx (plW_lt s k) fun i hi => by rw [h i hi, plW_bit s k i hi]
theorem plW_congr {s t : Nat → UInt8} {k : Nat} (h : ∀ i, i < 64 → bt (s i) k = bt (t i) k) : plW s k = plW t k :=
  plW_of (plW_lt s k) fun i hi => by rw [plW_bit s k i hi, h i hi]
theorem plW_ext {s t : Nat → UInt8} (h : ∀ i, i < 64 → s i = t i) (k : Nat) : plW s k = plW t k := plW_congr fun i hi => by rw [h i hi]
theorem plW_inj {s t : Nat → UInt8} (h : ∀ k, k < 8 → plW s k = plW t k) (i : Nat) (hi : i < 64) : s i = t i :=
  bt_ext fun k hk => by rw [← plW_bit s k i hi, ← plW_bit t k i hi, h k hk]
/-- the byte at place i of eight words. -/
def byP (p : Nat → Nat) (i : Nat) : UInt8 := UInt8.ofNat (wOf (fun k => (p k).testBit i) 8)
theorem byP_bt (p : Nat → Nat) (i k : Nat) (hk : k < 8) : bt (byP p i) k = (p k).testBit i := by
  have h := wOf_lt (fun k => (p k).testBit i) 8
  have e : (UInt8.ofNat (wOf (fun k => (p k).testBit i) 8)).toNat = wOf (fun k => (p k).testBit i) 8 := by
    rw [UInt8.toNat_ofNat']; exact Nat.mod_eq_of_lt h
  unfold bt byP
  rw [e, wOf_bit]; simp [hk]
theorem plW_byP (p : Nat → Nat) (k : Nat) (hk : k < 8) (h : p k < 2 ^ 64) : plW (byP p) k = p k :=
  (plW_of h fun i _ => (byP_bt p i k hk).symm).symm
theorem byP_plW (s : Nat → UInt8) (i : Nat) (hi : i < 64) : byP (plW s) i = s i :=
  bt_ext fun k hk => by rw [byP_bt _ _ _ hk, plW_bit s k i hi]
theorem byP_ext {p q : Nat → Nat} (h : ∀ k, k < 8 → p k = q k) (i : Nat) : byP p i = byP q i :=
  bt_ext fun k hk => by rw [byP_bt _ _ _ hk, byP_bt _ _ _ hk, h k hk]

/-! ### sums -/
theorem xor_lt64 {x y : Nat} (hx : x < 2 ^ 64) (hy : y < 2 ^ 64) : x ^^^ y < 2 ^ 64 := Nat.xor_lt_two_pow hx hy
theorem plW_x (s t : Nat → UInt8) (k : Nat) : plW s k ^^^ plW t k = plW (fun i => s i ^^^ t i) k :=
  plW_of (xor_lt64 (plW_lt s k) (plW_lt t k)) fun i hi => by rw [Nat.testBit_xor, plW_bit s k i hi, plW_bit t k i hi, bt_x]
/-- bytes that stay where a word has ones; the others are 0. -/
def keepW (m : Nat) (s : Nat → UInt8) (i : Nat) : UInt8 := if m.testBit i then s i else 0
theorem plW_and (s : Nat → UInt8) (m k : Nat) : plW s k &&& m = plW (keepW m s) k :=
  plW_of (Nat.lt_of_le_of_lt Nat.and_le_left (plW_lt s k)) fun i hi => by
    rw [Nat.testBit_and, plW_bit s k i hi]
    unfold keepW
    by_cases hm : m.testBit i = true
    · rw [if_pos hm, hm, Bool.and_true]
    · rw [if_neg hm, bt_0]; simp [hm]
theorem plW_const (b : UInt8) (k : Nat) : plW (fun _ => b) k = if bt b k then 18446744073709551615 else 0 := by
  symm
  refine plW_of ?_ ?_
  · split <;> omega
  · intro i hi
    cases h : bt b k
    · simp
    · rw [if_pos rfl, show (18446744073709551615 : Nat) = 2 ^ 64 - 1 by rfl, Nat.testBit_two_pow_sub_one]; simp [hi]
/-- one below nought, at the places of a byte's ones. -/
theorem plW_neg (b : UInt8) (k : Nat) : plW (fun _ => b) k = (18446744073709551616 - b.toNat / 2 ^ k % 2) % 18446744073709551616 := by
  rw [plW_const, ← bt_div]
  cases bt b k <;> rfl

/-! ### twice, squares, moves -/
theorem tw_bt0 : ∀ n : Fin 256, ∀ k : Fin 8, bt (tw (UInt8.ofNat n.val)) k.val = (match k.val with
    | 0 => bt (UInt8.ofNat n.val) 7 | 1 => (bt (UInt8.ofNat n.val) 0 ^^ bt (UInt8.ofNat n.val) 7) | 2 => bt (UInt8.ofNat n.val) 1 | 3 => (bt (UInt8.ofNat n.val) 2 ^^ bt (UInt8.ofNat n.val) 7)
    | 4 => (bt (UInt8.ofNat n.val) 3 ^^ bt (UInt8.ofNat n.val) 7) | 5 => bt (UInt8.ofNat n.val) 4 | 6 => bt (UInt8.ofNat n.val) 5 | _ => bt (UInt8.ofNat n.val) 6) := by decide +kernel
theorem tw_bt (c : UInt8) (k : Fin 8) : bt (tw c) k.val = (match k.val with
    | 0 => bt c 7 | 1 => (bt c 0 ^^ bt c 7) | 2 => bt c 1 | 3 => (bt c 2 ^^ bt c 7) | 4 => (bt c 3 ^^ bt c 7) | 5 => bt c 4 | 6 => bt c 5 | _ => bt c 6) := by
  have := tw_bt0 ⟨c.toNat, c.toNat_lt⟩ k
  simpa using this
theorem plW_move {s t : Nat → UInt8} {j k : Nat} (h : ∀ c, ∀ i, i < 64 → c = s i → bt (t i) k = bt c j) : plW s j = plW t k :=
  plW_of (plW_lt s j) fun i hi => by rw [plW_bit s j i hi, h _ i hi rfl]
/-- the eight words of bytes that are doubled. -/
def twP (p : Nat → Nat) (k : Nat) : Nat := match k with
  | 0 => p 7 | 1 => p 0 ^^^ p 7 | 2 => p 1 | 3 => p 2 ^^^ p 7 | 4 => p 3 ^^^ p 7 | 5 => p 4 | 6 => p 5 | _ => p 6
theorem plW_tw (s : Nat → UInt8) (k : Nat) (hk : k < 8) : twP (plW s) k = plW (fun i => tw (s i)) k := by
  refine plW_of ?_ fun i hi => ?_
  · unfold twP; split <;> first | exact plW_lt _ _ | exact xor_lt64 (plW_lt _ _) (plW_lt _ _)
  · have h := tw_bt (s i) ⟨k, hk⟩
    simp only at h
    rw [h]
    unfold twP; split <;> simp only [Nat.testBit_xor, plW_bit _ _ _ hi]
def sqP (p : Nat → Nat) (k : Nat) : Nat := match k with
  | 0 => p 0 ^^^ p 4 ^^^ p 6 | 1 => p 4 ^^^ p 6 ^^^ p 7 | 2 => p 1 ^^^ p 5 | 3 => p 4 ^^^ p 5 ^^^ p 6 ^^^ p 7 | 4 => p 2 ^^^ p 4 ^^^ p 7 | 5 => p 5 ^^^ p 6 | 6 => p 3 ^^^ p 5 | _ => p 6 ^^^ p 7
theorem sq_bt0 : ∀ n : Fin 256, ∀ k : Fin 8, bt (mul (UInt8.ofNat n.val) (UInt8.ofNat n.val)) k.val = (sqP (fun j => (bt (UInt8.ofNat n.val) j).toNat) k.val).testBit 0 := by decide +kernel
theorem sq_bt (c : UInt8) (k : Nat) (hk : k < 8) : bt (mul c c) k = (sqP (fun j => (bt c j).toNat) k).testBit 0 := by
  have := sq_bt0 ⟨c.toNat, c.toNat_lt⟩ ⟨k, hk⟩
  simpa using this
theorem toNat_bit (b : Bool) : b.toNat.testBit 0 = b := by cases b <;> rfl
theorem plW_sq (s : Nat → UInt8) (k : Nat) (hk : k < 8) : sqP (plW s) k = plW (fun i => mul (s i) (s i)) k := by
  refine plW_of ?_ fun i hi => ?_
  · have hl := fun j => plW_lt s j
    unfold sqP; split <;> first
      | exact xor_lt64 (hl _) (hl _)
      | exact xor_lt64 (xor_lt64 (hl _) (hl _)) (hl _)
      | exact xor_lt64 (xor_lt64 (xor_lt64 (hl _) (hl _)) (hl _)) (hl _)
  · rw [sq_bt (s i) k hk]
    unfold sqP; split <;> simp only [Nat.testBit_xor, plW_bit _ _ _ hi, toNat_bit]
/-- bit k of a byte that is turned down. -/
theorem rotr_bt0 : ∀ n : Fin 256, ∀ p : Fin 8, ∀ k : Fin 8, bt (rotr (UInt8.ofNat n.val) (p.val : Int)) k.val = bt (UInt8.ofNat n.val) ((k.val + p.val) % 8) := by decide +kernel
theorem rotr_bt (c : UInt8) (p k : Nat) (hp : p < 8) (hk : k < 8) : bt (rotr c (p : Int)) k = bt c ((k + p) % 8) := by
  have := rotr_bt0 ⟨c.toNat, c.toNat_lt⟩ ⟨p, hp⟩ ⟨k, hk⟩
  simpa using this
/-- the sum of the words that stand so many places behind k. -/
def tuP (p : Nat → Nat) (l : List Nat) (k : Nat) : Nat → Nat
  | 0 => 0
  | j + 1 => tuP p l k j ^^^ p ((k + l.getD j 0) % 8)
theorem tuP_lt (p : Nat → Nat) (hp : ∀ k, p k < 2 ^ 64) (l : List Nat) (k j : Nat) : tuP p l k j < 2 ^ 64 := by
  induction j with
  | zero => exact Nat.two_pow_pos 64
  | succ j ih => exact xor_lt64 ih (hp _)
theorem plW_turns (s : Nat → UInt8) (l : List Nat) (hl : ∀ x ∈ l, x < 8) (k j : Nat) (hk : k < 8) : tuP (plW s) l k j = plW (fun i => turns (s i) (l.map (fun (x : Nat) => (x : Int))) j) k := by
  induction j with
  | zero =>
    refine plW_of (Nat.two_pow_pos 64) fun i hi => ?_
    show (0 : Nat).testBit i = bt 0 k
    rw [bt_0, Nat.zero_testBit]
  | succ j ih =>
    rw [tuP, ih]
    have hd : l.getD j 0 < 8 := by
      rw [List.getD_eq_getElem?_getD]
      cases h : l[j]? with
      | none => simp
      | some x => exact hl x (List.mem_of_getElem? h)
    have he : (l.map (fun (x : Nat) => (x : Int))).getD j 0 = ((l.getD j 0 : Nat) : Int) := by
      rw [List.getD_eq_getElem?_getD, List.getD_eq_getElem?_getD, List.getElem?_map]
      cases l[j]? <;> rfl
    have h2 : plW s ((k + l.getD j 0) % 8) = plW (fun i => rotr (s i) ((l.getD j 0 : Nat) : Int)) k :=
      plW_of (plW_lt _ _) fun i hi => by rw [plW_bit _ _ _ hi, rotr_bt _ _ _ hd hk]
    rw [h2, plW_x]
    refine plW_congr fun i _ => ?_
    show _ = bt (turns (s i) _ (j + 1)) k
    rw [turns, he]

/-! ### products -/
/-- the sum of what j bits of b give, by a that is doubled on and on. -/
def mulTo (a b : UInt8) : Nat → UInt8
  | 0 => 0
  | j + 1 => mulTo a b j ^^^ (if bt b j then (Nat.repeat tw j a) else 0)
theorem mulTo_tm (n : Nat) (a b : UInt8) (j : Nat) (p : UInt8) (h : n + j = 8) (hp : p = mulTo a b j) : tm n p (Nat.repeat tw j a) (b.toNat / 2 ^ j) = mulTo a b 8 := by
  induction n generalizing j p with
  | zero => subst hp; rw [show j = 8 by omega]; rfl
  | succ n ih =>
    rw [tm]
    have e : b.toNat / 2 ^ j / 2 = b.toNat / 2 ^ (j + 1) := by rw [Nat.pow_succ, Nat.div_div_eq_div_mul]
    rw [e]
    refine ih (j + 1) _ (by omega) ?_
    subst hp
    rw [mulTo]
    have hb := bt_div b j
    by_cases hc : b.toNat / 2 ^ j % 2 = 1
    · rw [if_pos hc]
      rw [hc] at hb
      have : bt b j = true := by cases h : bt b j <;> simp [h] at hb ⊢
      rw [this]; rfl
    · rw [if_neg hc]
      have : bt b j = false := by cases h : bt b j <;> simp [h] at hb ⊢; omega
      rw [this]; simp
theorem mulTo_8 (a b : UInt8) : mulTo a b 8 = mul a b := by
  have := mulTo_tm 8 a b 0 0 rfl rfl
  rw [Nat.pow_zero, Nat.div_one] at this
  exact this.symm
theorem plW_mul1 (s t u : Nat → UInt8) (k j : Nat) : plW u k ^^^ (plW s k &&& plW t j) = plW (fun i => u i ^^^ (if bt (t i) j then s i else 0)) k := by
  rw [plW_and, plW_x]
  refine plW_congr fun i hi => ?_
  unfold keepW
  rw [plW_bit t j i hi]

/-! ### inverses by few products -/
def chain (c : UInt8) : UInt8 :=
  let s2 := mul c c
  let s3 := mul s2 c
  let s12 := mul (mul s3 s3) (mul s3 s3)
  let s15 := mul s12 s3
  let s30 := mul s15 s15
  let s60 := mul s30 s30
  let s120 := mul s60 s60
  let s240 := mul s120 s120
  mul (mul s240 s12) s2
theorem chain_inv0 : ∀ n : Fin 256, chain (UInt8.ofNat n.val) = inv (UInt8.ofNat n.val) := by decide +kernel
theorem chain_inv (c : UInt8) : chain c = inv c := of_all (P := fun c => chain c = inv c) chain_inv0 c

/-! ### places in runs -/
/-- the place k on in a run of so many places. -/
def onAt (run k i : Nat) : Nat := i / run * run + (i % run + k) % run
theorem onAt_lt (run k i n : Nat) (hr : 0 < run) (hn : n % run = 0) (hi : i < n) : onAt run k i < n := by
  unfold onAt
  have h1 := Nat.mod_lt (i % run + k) hr
  have h2 : i / run < n / run := by
    rw [Nat.div_lt_iff_lt_mul hr]
    have := Nat.div_add_mod n run
    rw [hn, Nat.mul_comm] at this; omega
  have h3 : (i / run + 1) * run ≤ n / run * run := Nat.mul_le_mul_right _ (by omega)
  have h4 : n / run * run ≤ n := Nat.div_mul_le_self _ _
  rw [Nat.add_mul] at h3
  omega
/-- a word whose places are turned in their runs: what goes on unbroken, and what begins anew. -/
def tuW (x run k m : Nat) : Nat := (x / 2 ^ k &&& m) ^^^ ((x * 2 ^ (run - k) % 18446744073709551616) &&& (18446744073709551615 - m))
theorem all64_bit (i : Nat) (hi : i < 64) : (18446744073709551615 : Nat).testBit i = true := by
  rw [show (18446744073709551615 : Nat) = 2 ^ 64 - 1 by rfl, Nat.testBit_two_pow_sub_one]; simp [hi]
theorem tuW_lt (x run k m : Nat) (hx : x < 2 ^ 64) : tuW x run k m < 2 ^ 64 :=
  xor_lt64 (Nat.lt_of_le_of_lt Nat.and_le_left (Nat.lt_of_le_of_lt (Nat.div_le_self _ _) hx)) (Nat.lt_of_le_of_lt Nat.and_le_left (Nat.mod_lt _ (by omega)))
theorem sub_bit (m i : Nat) (hm : m < 2 ^ 64) (hi : i < 64) : (18446744073709551615 - m).testBit i = !m.testBit i := by
  rw [show 18446744073709551615 - m = 2 ^ 64 - (m + 1) by omega, Nat.testBit_two_pow_sub_succ hm]; simp [hi]
theorem tuW_bit (x run k m i : Nat) (hm : m < 2 ^ 64) (hi : i < 64) : (tuW x run k m).testBit i = if m.testBit i then x.testBit (i + k) else (decide (run - k ≤ i) && x.testBit (i - (run - k))) := by
  unfold tuW
  rw [Nat.testBit_xor, Nat.testBit_and, Nat.testBit_and, sub_bit m i hm hi, show (18446744073709551616 : Nat) = 2 ^ 64 by rfl, Nat.testBit_mod_two_pow, Nat.testBit_mul_two_pow, Nat.testBit_div_two_pow]
  cases m.testBit i <;> simp [hi]
theorem plW_on (s : Nat → UInt8) (run k m : Nat) (j : Nat) (hm : m < 2 ^ 64) (h : ∀ i, i < 64 → onAt run k i < 64 ∧ (if m.testBit i then i + k = onAt run k i else (run - k ≤ i ∧ i - (run - k) = onAt run k i))) :
    tuW (plW s j) run k m = plW (fun i => s (onAt run k i)) j := by
  refine plW_of (tuW_lt _ _ _ _ (plW_lt _ _)) fun i hi => ?_
  rw [tuW_bit _ _ _ _ _ hm hi]
  obtain ⟨h1, h2⟩ := h i hi
  by_cases hb : m.testBit i = true
  · rw [if_pos hb] at h2 ⊢
    rw [h2, plW_bit _ _ _ h1]
  · rw [if_neg hb] at h2 ⊢
    rw [h2.2, plW_bit _ _ _ h1]; simp [h2.1]
end Go.Proofs.YtbfmbdohebdbaaaGreatDoor
set_option linter.unusedVariables false
set_option linter.unusedSimpArgs false
namespace Go.Proofs.YtbfmbdohebdbaaaGreatDoor
open Go Go.RowKit

/-- block j of 64 bytes. -/
def blk (s : Nat → UInt8) (j : Nat) : ByteArray := txt (fun i => s (16 * j + i)) 16
theorem blk_size (s : Nat → UInt8) (j : Nat) : (blk s j).size = 16 := txt_size _ _
theorem blk_byte (s : Nat → UInt8) (j i : Nat) (h : i < 16) : byteOf (blk s j) i = s (16 * j + i) := txt_byte _ _ _ h
theorem blk_ext {s t : Nat → UInt8} {j : Nat} (h : ∀ i, i < 16 → s (16 * j + i) = t (16 * j + i)) : blk s j = blk t j := txt_ext _ _ 16 h
theorem txt_ex (s : Nat → UInt8) (n a b : Nat) (hab : a ≤ b) (hb : b ≤ n) : (txt s n).extract a b = txt (fun i => s (a + i)) (b - a) := by
  have hs : ((txt s n).extract a b).size = b - a := by rw [ByteArray.size_extract, txt_size]; omega
  refine b_ext _ _ (b - a) hs (txt_size _ _) fun j hj => ?_
  rw [← byteOf_at _ _ (by rw [hs]; exact hj), ByteArray.getElem_extract, byteOf_at, txt_byte _ _ _ (by omega), txt_byte _ _ _ hj]
theorem txt_blk (s : Nat → UInt8) (n j : Nat) (h : 16 * j + 16 ≤ n) : (txt s n).extract (16 * j) (16 * j + 16) = blk s j := by
  rw [txt_ex s n _ _ (by omega) h, show 16 * j + 16 - 16 * j = 16 by omega]; rfl
theorem txt_app (f g : Nat → UInt8) (n m : Nat) (h : ∀ i, i < m → g i = f (n + i)) : txt f n ++ txt g m = txt f (n + m) := by
  apply ByteArray.ext
  apply Array.ext'
  rw [ByteArray.data_append, Array.toList_append]
  show upTo f n ++ upTo g m = upTo f (n + m)
  apply List.ext_getElem?
  intro i
  by_cases h1 : i < n
  · rw [List.getElem?_append_left (by rw [upTo_length]; exact h1), upTo_at _ _ _ h1, upTo_at _ _ _ (by omega)]
  · rw [List.getElem?_append_right (by rw [upTo_length]; omega), upTo_length]
    by_cases h2 : i < n + m
    · rw [upTo_at _ _ _ (by omega), upTo_at _ _ _ h2, h _ (by omega)]; congr 2; omega
    · rw [List.getElem?_eq_none (by rw [upTo_length]; omega), List.getElem?_eq_none (by rw [upTo_length]; omega)]
theorem txt_blk_up (s : Nat → UInt8) (j : Nat) : txt s (16 * j) ++ blk s j = txt s (16 * (j + 1)) := txt_app s _ (16 * j) 16 fun _ _ => rfl

/-! ### rows -/
/-- the bytes of four blocks whose rows are shifted by so many columns each. -/
def rowsB (d : Nat) (s : Nat → UInt8) (i : Nat) : UInt8 := s (i / 16 * 16 + shAt d (i % 16))
theorem rowsB_blk (d : Nat) (s : Nat → UInt8) (j : Nat) : shS d (blk s j) = blk (rowsB d s) j := by
  refine txt_ext _ _ 16 fun i hi => ?_
  show byteOf (blk s j) (shAt d i) = rowsB d s (16 * j + i)
  rw [blk_byte _ _ _ (shAt_lt _ _)]
  unfold rowsB
  rw [show (16 * j + i) / 16 = j by omega, show (16 * j + i) % 16 = i by omega, Nat.mul_comm]
theorem rowsB_x (d : Nat) (s t : Nat → UInt8) (i : Nat) : rowsB d (fun i => s i ^^^ t i) i = rowsB d s i ^^^ rowsB d t i := rfl
theorem rowsB_ext (d : Nat) {s t : Nat → UInt8} (h : ∀ i, i < 64 → s i = t i) (i : Nat) (hi : i < 64) : rowsB d s i = rowsB d t i :=
  h _ (by have := shAt_lt d (i % 16); omega)
theorem rowsB_back (d e : Nat) (h : (d = 1 ∧ e = 3) ∨ (d = 3 ∧ e = 1)) (s : Nat → UInt8) (i : Nat) : rowsB d (rowsB e s) i = s i := by
  unfold rowsB
  have h1 := shAt_lt d (i % 16)
  have h3 := sh_13 ⟨i % 16, Nat.mod_lt _ (by omega)⟩
  simp only at h3
  have e1 : (i / 16 * 16 + shAt d (i % 16)) / 16 = i / 16 := by omega
  have e2 : (i / 16 * 16 + shAt d (i % 16)) % 16 = shAt d (i % 16) := by omega
  rw [e1, e2]
  rcases h with ⟨rfl, rfl⟩ | ⟨rfl, rfl⟩
  · rw [h3.2.1]; congr 1; omega
  · rw [h3.1]; congr 1; omega
/-- the word with a one at the first byte of each run. -/
def fstW (run : Nat) : Nat := 18446744073709551615 / (2 ^ run - 1)
/-- the places that go on unbroken. -/
def unbW (run k : Nat) : Nat := fstW run * (2 ^ (run - k) - 1) % 18446744073709551616
theorem on_16 : ∀ (k : Fin 4) (i : Fin 64), onAt 16 (4 * k.val) i.val < 64 ∧ (if (unbW 16 (4 * k.val)).testBit i.val then i.val + 4 * k.val = onAt 16 (4 * k.val) i.val else (16 - 4 * k.val ≤ i.val ∧ i.val - (16 - 4 * k.val) = onAt 16 (4 * k.val) i.val)) := by decide +kernel
theorem on_4 : ∀ (b : Fin 4) (i : Fin 64), onAt 4 (4 - b.val) i.val < 64 ∧ (if (unbW 4 (4 - b.val)).testBit i.val then i.val + (4 - b.val) = onAt 4 (4 - b.val) i.val else (4 - (4 - b.val) ≤ i.val ∧ i.val - (4 - (4 - b.val)) = onAt 4 (4 - b.val) i.val)) := by decide +kernel
theorem plW_on16 (s : Nat → UInt8) (k j : Nat) (hk : k < 4) : tuW (plW s j) 16 (4 * k) (unbW 16 (4 * k)) = plW (fun i => s (onAt 16 (4 * k) i)) j :=
  plW_on s 16 (4 * k) _ j (Nat.mod_lt _ (by omega)) fun i hi => on_16 ⟨k, hk⟩ ⟨i, hi⟩
theorem plW_on4 (s : Nat → UInt8) (b j : Nat) (hb : b < 4) : tuW (plW s j) 4 (4 - b) (unbW 4 (4 - b)) = plW (fun i => s (onAt 4 (4 - b) i)) j :=
  plW_on s 4 (4 - b) _ j (Nat.mod_lt _ (by omega)) fun i hi => on_4 ⟨b, hb⟩ ⟨i, hi⟩
/-- the word of the places of row r. -/
def rowQ (r : Nat) : Nat := fstW 4 * 2 ^ r % 18446744073709551616
theorem rowW_bit : ∀ (r : Fin 4) (i : Fin 64), (rowQ r.val).testBit i.val = decide (i.val % 4 = r.val) := by decide +kernel
/-- the sum of the first n rows, each of them turned. -/
def rowsTo (d : Nat) (s : Nat → UInt8) (i : Nat) : Nat → UInt8
  | 0 => 0
  | r + 1 => rowsTo d s i r ^^^ keepW (rowQ r) s (onAt 16 (4 * (d * r % 4)) i)
theorem on16_mod (k i : Nat) : onAt 16 (4 * k) i % 4 = i % 4 := by unfold onAt; omega
theorem on16_lt (k i : Nat) (hi : i < 64) : onAt 16 (4 * k) i < 64 := onAt_lt 16 _ i 64 (by omega) rfl hi
theorem rowsTo_at (d : Nat) (s : Nat → UInt8) (i : Nat) (hi : i < 64) (n : Nat) (hn : n ≤ 4) : rowsTo d s i n = if i % 4 < n then s (onAt 16 (4 * (d * (i % 4) % 4)) i) else 0 := by
  induction n with
  | zero => rfl
  | succ n ih =>
    rw [rowsTo, ih (by omega)]
    unfold keepW
    have hb := rowW_bit ⟨n, by omega⟩ ⟨onAt 16 (4 * (d * n % 4)) i, on16_lt _ _ hi⟩
    simp only [on16_mod] at hb
    rw [hb]
    by_cases h1 : i % 4 < n
    · have h3 : i % 4 < n + 1 := by omega
      have h4 : ¬ (decide (i % 4 = n) = true) := by simp; omega
      rw [if_pos h1, if_pos h3, if_neg h4, x_zero]
    · by_cases h2 : i % 4 = n
      · have h3 : i % 4 < n + 1 := by omega
        have h4 : decide (i % 4 = n) = true := by simpa using h2
        rw [if_neg h1, if_pos h3, if_pos h4, zero_x, h2]
      · have h3 : ¬ i % 4 < n + 1 := by omega
        have h4 : ¬ (decide (i % 4 = n) = true) := by simpa using h2
        rw [if_neg h1, if_neg h3, if_neg h4, zero_x]
theorem rows_on : ∀ (d : Fin 4) (i : Fin 64), onAt 16 (4 * (d.val * (i.val % 4) % 4)) i.val = i.val / 16 * 16 + shAt d.val (i.val % 16) := by decide +kernel
theorem rowsTo_4 (d : Nat) (hd : d < 4) (s : Nat → UInt8) (i : Nat) (hi : i < 64) : rowsTo d s i 4 = rowsB d s i := by
  rw [rowsTo_at d s i hi 4 (Nat.le_refl _), if_pos (by omega)]
  have := rows_on ⟨d, hd⟩ ⟨i, hi⟩
  simp only at this
  rw [this]; rfl

/-! ### columns -/
/-- the word of a column of 64 bytes. -/
def cw (s : Nat → UInt8) (c : Nat) : UInt32 := mkW (s (4 * c)) (s (4 * c + 1)) (s (4 * c + 2)) (s (4 * c + 3))
/-- the bytes of four blocks each of whose columns is changed. -/
def colsB (f : UInt32 → UInt32) (s : Nat → UInt8) (i : Nat) : UInt8 := wb (f (cw s (i / 4))) (i % 4)
theorem cw_blk (s : Nat → UInt8) (j c : Nat) (hc : c < 4) : colW (blk s j) c = cw s (4 * j + c) := by
  unfold colW getW cw
  rw [blk_byte _ _ _ (by omega), blk_byte _ _ _ (by omega), blk_byte _ _ _ (by omega), blk_byte _ _ _ (by omega)]
  rw [show 16 * j + 4 * c = 4 * (4 * j + c) by omega, show 16 * j + (4 * c + 1) = 4 * (4 * j + c) + 1 by omega, show 16 * j + (4 * c + 2) = 4 * (4 * j + c) + 2 by omega, show 16 * j + (4 * c + 3) = 4 * (4 * j + c) + 3 by omega]
theorem colsB_blk (f : UInt32 → UInt32) (s : Nat → UInt8) (j : Nat) : ofW (fun c => f (colW (blk s j) c)) = blk (colsB f s) j := by
  refine txt_ext _ _ 16 fun i hi => ?_
  show wb (f (colW (blk s j) (i / 4))) (i % 4) = colsB f s (16 * j + i)
  rw [cw_blk _ _ _ (by omega)]
  unfold colsB
  rw [show (16 * j + i) / 4 = 4 * j + i / 4 by omega, show (16 * j + i) % 4 = i % 4 by omega]
theorem cw_x (s t : Nat → UInt8) (c : Nat) : cw (fun i => s i ^^^ t i) c = cw s c ^^^ cw t c := by unfold cw; rw [mkW_xor]
theorem cw_ext {s t : Nat → UInt8} (h : ∀ i, i < 64 → s i = t i) (c : Nat) (hc : c < 16) : cw s c = cw t c := by
  unfold cw; rw [h _ (by omega), h _ (by omega), h _ (by omega), h _ (by omega)]
theorem colsB_ext (f : UInt32 → UInt32) {s t : Nat → UInt8} (h : ∀ i, i < 64 → s i = t i) (i : Nat) (hi : i < 64) : colsB f s i = colsB f t i := by
  unfold colsB; rw [cw_ext h _ (by omega)]
theorem cw_colsB (f : UInt32 → UInt32) (s : Nat → UInt8) (c : Nat) : cw (colsB f s) c = f (cw s c) := by
  unfold cw colsB
  rw [show 4 * c / 4 = c by omega, show 4 * c % 4 = 0 by omega, show (4 * c + 1) / 4 = c by omega, show (4 * c + 1) % 4 = 1 by omega, show (4 * c + 2) / 4 = c by omega, show (4 * c + 2) % 4 = 2 by omega, show (4 * c + 3) / 4 = c by omega, show (4 * c + 3) % 4 = 3 by omega, mkW_wb]
  rfl
theorem wb_cw (s : Nat → UInt8) (i : Nat) : wb (cw s (i / 4)) (i % 4) = s i := by
  have h4 : i % 4 = 0 ∨ i % 4 = 1 ∨ i % 4 = 2 ∨ i % 4 = 3 := by omega
  unfold cw
  rcases h4 with h | h | h | h <;> rw [h]
  · rw [wb0_mk]; congr 1; omega
  · rw [wb1_mk]; congr 1; omega
  · rw [wb2_mk]; congr 1; omega
  · rw [wb3_mk]; congr 1; omega
theorem colsB_back (f g : UInt32 → UInt32) (h : ∀ x, f (g x) = x) (s : Nat → UInt8) (i : Nat) : colsB f (colsB g s) i = s i := by
  unfold colsB
  have e := cw_colsB g s (i / 4)
  unfold colsB at e
  rw [e, h, wb_cw]
theorem colsB_x (f : UInt32 → UInt32) (h : ∀ x y, f (x ^^^ y) = f x ^^^ f y) (s t : Nat → UInt8) (i : Nat) : colsB f (fun i => s i ^^^ t i) i = colsB f s i ^^^ colsB f t i := by
  unfold colsB; rw [cw_x, h, wb_xor]
theorem un_xor (x y : UInt32) : unmixW (x ^^^ y) = unmixW x ^^^ unmixW y := by
  rw [← unmix_f, ← unmix_f, ← unmix_f]; exact mixW_xor unF x y
/-- the sum of what the bytes give by the first n factors. -/
def colsTo (F : Nat → UInt8) (s : Nat → UInt8) (i : Nat) : Nat → UInt8
  | 0 => 0
  | b + 1 => colsTo F s i b ^^^ mul (s (onAt 4 (4 - b) i)) (F b)
theorem colsTo_4 (F : Nat → UInt8) (s : Nat → UInt8) (i : Nat) : colsTo F s i 4 = colsB (mixW F) s i := by
  have h4 : i % 4 = 0 ∨ i % 4 = 1 ∨ i % 4 = 2 ∨ i % 4 = 3 := by omega
  unfold colsB
  rw [mixW_bytes]
  simp only [colsTo, cw, wb0_mk, wb1_mk, wb2_mk, wb3_mk, zero_x]
  have hc : ∃ c, i / 4 = c := ⟨_, rfl⟩
  obtain ⟨c, hc⟩ := hc
  unfold onAt
  rw [hc]
  rw [mul_comm (s (c * 4 + _)) (F 0), mul_comm (s (c * 4 + _)) (F 1), mul_comm (s (c * 4 + _)) (F 2), mul_comm (s (c * 4 + _)) (F 3)]
  rcases h4 with h | h | h | h <;> rw [h]
  · rw [wb0_mk]
    simp only [Nat.reduceAdd, Nat.reduceMod, Nat.reduceSub, Nat.mul_comm c 4, Nat.add_zero]
    simp only [x_assoc, x_comm, x_lcomm]
  · rw [wb1_mk]
    simp only [Nat.reduceAdd, Nat.reduceMod, Nat.reduceSub, Nat.mul_comm c 4, Nat.add_zero]
    simp only [x_assoc, x_comm, x_lcomm]
  · rw [wb2_mk]
    simp only [Nat.reduceAdd, Nat.reduceMod, Nat.reduceSub, Nat.mul_comm c 4, Nat.add_zero]
    simp only [x_assoc, x_comm, x_lcomm]
  · rw [wb3_mk]
    simp only [Nat.reduceAdd, Nat.reduceMod, Nat.reduceSub, Nat.mul_comm c 4, Nat.add_zero]
    simp only [x_assoc, x_comm, x_lcomm]
end Go.Proofs.YtbfmbdohebdbaaaGreatDoor
