/-
  Contracts and facts that the laws of this seat use: ModeMath, GfMath, SealMath.
-/
import Derived.Test.YtbcaldhcgoclgaaGreatDoorNums
import Derived.Test.YtbcaldhcgoclgaaGreatDoorBits
set_option linter.unusedVariables false
set_option linter.unusedSimpArgs false
namespace Go.Proofs.YtbcaldhcgoclgaaGreatDoor
open Go Go.RowKit

/-- blocks one behind the other, as bytes. -/
def catB (c : Nat → ByteArray) (i : Nat) : UInt8 := byteOf (c (i / 16)) (i % 16)
theorem catB_blk (c : Nat → ByteArray) (j : Nat) (h : (c j).size = 16) : blk (catB c) j = c j := by
  refine Eq.trans (txt_ext _ (byteOf (c j)) 16 fun i hi => ?_) (txt_own _ 16 h)
  unfold catB
  rw [show (16 * j + i) / 16 = j by omega, show (16 * j + i) % 16 = i by omega]
theorem catB_ext {c d : Nat → ByteArray} (n : Nat) (h : ∀ j, 16 * j < n → c j = d j) : txt (catB c) n = txt (catB d) n :=
  txt_ext _ _ n fun i hi => by unfold catB; rw [h (i / 16) (by omega)]
theorem catB_own (s : Nat → UInt8) : catB (blk s) = s := by
  funext i
  unfold catB
  rw [blk_byte _ _ _ (Nat.mod_lt _ (by omega))]
  congr 1; omega
theorem blk_txt (f : Nat → UInt8) (n j : Nat) (h : 16 * j + 16 ≤ n) : blk (byteOf (txt f n)) j = blk f j :=
  blk_ext fun i hi => txt_byte _ _ _ (by omega)
/-- what comes ahead of block j in a chain: the iv, then what was locked. -/
def chB (L : ByteArray → ByteArray) (iv : ByteArray) (p : Nat → ByteArray) : Nat → ByteArray
  | 0 => iv
  | j + 1 => L (xorS (p j) (chB L iv p j))
theorem chB_size {L : ByteArray → ByteArray} (hL : ∀ b, b.size = 16 → (L b).size = 16) (iv : ByteArray) (hv : iv.size = 16) (p : Nat → ByteArray) : ∀ j, (chB L iv p j).size = 16
  | 0 => hv
  | j + 1 => hL _ (xorS_size _ _)
theorem chB_ext (L : ByteArray → ByteArray) (iv : ByteArray) {p q : Nat → ByteArray} : ∀ j, (∀ i, i < j → p i = q i) → chB L iv p j = chB L iv q j
  | 0, _ => rfl
  | j + 1, h => by rw [chB, chB, chB_ext L iv j fun i hi => h i (by omega), h j (by omega)]
/-- the locks of a text's blocks, by the mode: 0: each for itself; 1: chained. -/
def lkM (L : ByteArray → ByteArray) (ch : Bool) (iv : ByteArray) (p : Nat → ByteArray) (j : Nat) : ByteArray := if ch then chB L iv p (j + 1) else L (p j)
/-- the way back: what each block of a locked text comes to. -/
def ulM (U : ByteArray → ByteArray) (ch : Bool) (iv : ByteArray) (c : Nat → ByteArray) (j : Nat) : ByteArray := if ch then xorS (U (c j)) (if j = 0 then iv else c (j - 1)) else U (c j)
theorem lkM_size {L : ByteArray → ByteArray} (hL : ∀ b, b.size = 16 → (L b).size = 16) (ch : Bool) (iv : ByteArray) (hv : ch = true → iv.size = 16) (p : Nat → ByteArray) (hp : ∀ j, (p j).size = 16) (j : Nat) : (lkM L ch iv p j).size = 16 := by
  unfold lkM
  cases ch
  · exact hL _ (hp j)
  · exact chB_size hL iv (hv rfl) p (j + 1)
theorem x_back (a b : ByteArray) (ha : a.size = 16) : xorS (xorS a b) b = a := by
  refine Eq.trans (txt_ext _ (byteOf a) 16 fun i hi => ?_) (txt_own a 16 ha)
  rw [xorS_byte _ _ _ hi, UInt8.xor_assoc, UInt8.xor_self, UInt8.xor_zero]
theorem ul_lk {L U : ByteArray → ByteArray} (hU : ∀ b, b.size = 16 → U (L b) = b) (ch : Bool) (iv : ByteArray) (p : Nat → ByteArray) (hp : ∀ j, (p j).size = 16) (j : Nat) : ulM U ch iv (lkM L ch iv p) j = p j := by
  unfold ulM lkM
  cases ch
  · exact hU _ (hp j)
  · simp only [if_true]
    have e : (if j = 0 then iv else chB L iv p (j - 1 + 1)) = chB L iv p j := by
      cases j with
      | zero => rfl
      | succ k => rfl
    rw [e]
    show xorS (U (L (xorS (p j) (chB L iv p j)))) (chB L iv p j) = p j
    rw [hU _ (xorS_size _ _), x_back _ _ (hp j)]
/-- a text locked by whole blocks of what is padded. -/
def enT (L : ByteArray → ByteArray) (ch : Bool) (iv s : ByteArray) : ByteArray := txt (catB (lkM L ch iv (blk (byteOf (padT s))))) (padT s).size
theorem enT_size (L : ByteArray → ByteArray) (ch : Bool) (iv s : ByteArray) : (enT L ch iv s).size = s.size + padN s := by unfold enT; rw [txt_size, padT_size]
/-- the blocks of a locked text, put back. -/
def deT (U : ByteArray → ByteArray) (ch : Bool) (iv s : ByteArray) : ByteArray := txt (catB (ulM U ch iv (blk (byteOf s)))) s.size
theorem deT_size (U : ByteArray → ByteArray) (ch : Bool) (iv s : ByteArray) : (deT U ch iv s).size = s.size := txt_size _ _
theorem ulM_ext (U : ByteArray → ByteArray) (ch : Bool) (iv : ByteArray) {c d : Nat → ByteArray} (j : Nat) (h : ∀ i, i ≤ j → c i = d i) : ulM U ch iv c j = ulM U ch iv d j := by
  unfold ulM
  rw [h j (Nat.le_refl _), h (j - 1) (by omega)]
theorem de_en {L U : ByteArray → ByteArray} (hL : ∀ b, b.size = 16 → (L b).size = 16) (hU : ∀ b, b.size = 16 → U (L b) = b) (ch : Bool) (iv : ByteArray) (hv : ch = true → iv.size = 16) (s : ByteArray) : deT U ch iv (enT L ch iv s) = padT s := by
  have hp : ∀ j, (blk (byteOf (padT s)) j).size = 16 := fun j => blk_size _ _
  have hw := padT_whole s
  unfold deT
  have hz : (enT L ch iv s).size = (padT s).size := by unfold enT; rw [txt_size]
  rw [hz]
  refine Eq.trans (catB_ext _ (d := blk (byteOf (padT s))) fun j hj => ?_) ?_
  · rw [ulM_ext U ch iv (d := lkM L ch iv (blk (byteOf (padT s)))) j fun i hi => ?_, ul_lk hU ch iv _ hp]
    unfold enT
    rw [blk_txt _ _ _ (by omega), catB_blk _ _ (lkM_size hL ch iv hv _ hp i)]
  · rw [catB_own]; exact txt_own _ _ rfl
theorem un_de_en {L U : ByteArray → ByteArray} (hL : ∀ b, b.size = 16 → (L b).size = 16) (hU : ∀ b, b.size = 16 → U (L b) = b) (ch : Bool) (iv : ByteArray) (hv : ch = true → iv.size = 16) (s : ByteArray) : unOk (deT U ch iv (enT L ch iv s)) ∧ unpT (deT U ch iv (enT L ch iv s)) = s := by
  rw [de_en hL hU ch iv hv s]
  exact ⟨un_pad_ok s, un_pad s⟩
/-- of texts that begin alike the locks begin alike, as far as whole blocks go. -/
theorem en_begin (L : ByteArray → ByteArray) (ch : Bool) (iv s t : ByteArray) (n : Nat) (hs : 16 * n ≤ s.size) (ht : 16 * n ≤ t.size) (h : ∀ i, i < 16 * n → byteOf s i = byteOf t i) (i : Nat) (hi : i < 16 * n) : byteOf (enT L ch iv s) i = byteOf (enT L ch iv t) i := by
  have hps := padT_size s
  have hpt := padT_size t
  have hb : ∀ j, j < n → blk (byteOf (padT s)) j = blk (byteOf (padT t)) j := fun j hj => blk_ext fun k hk => by
    rw [padT_lo s _ (by omega), padT_lo t _ (by omega), h _ (by omega)]
  unfold enT
  rw [txt_byte _ _ _ (by omega), txt_byte _ _ _ (by omega)]
  unfold catB lkM
  cases ch
  · simp only [Bool.false_eq_true, if_false]; rw [hb (i / 16) (by omega)]
  · simp only [if_true]; rw [chB_ext L iv (i / 16 + 1) fun k hk => hb k (by omega)]
/-! ### counted -/
/-- a text locked by counted blocks: the same both ways. -/
def ctT (L : ByteArray → ByteArray) (iv s : ByteArray) : ByteArray := txt (fun i => byteOf s i ^^^ byteOf (L (cntT iv (i / 16))) (i % 16)) s.size
theorem ctT_size (L : ByteArray → ByteArray) (iv s : ByteArray) : (ctT L iv s).size = s.size := txt_size _ _
theorem ctT_byte (L : ByteArray → ByteArray) (iv s : ByteArray) (i : Nat) (h : i < s.size) : byteOf (ctT L iv s) i = byteOf s i ^^^ byteOf (L (cntT iv (i / 16))) (i % 16) := txt_byte _ _ _ h
theorem ct_ct (L : ByteArray → ByteArray) (iv s : ByteArray) : ctT L iv (ctT L iv s) = s := by
  refine b_ext _ _ s.size (by rw [ctT_size, ctT_size]) rfl fun i hi => ?_
  rw [ctT_byte _ _ _ _ (by rw [ctT_size]; exact hi), ctT_byte _ _ _ _ hi, UInt8.xor_assoc, UInt8.xor_self, UInt8.xor_zero]
/-- what is counted hangs on its place alone: a later part is locked from a later number on. -/
theorem ct_later (L : ByteArray → ByteArray) (iv s : ByteArray) (m : Nat) (h : 16 * m ≤ s.size) : ctT L (cntT iv m) (s.extract (16 * m) s.size) = (ctT L iv s).extract (16 * m) s.size := by
  have hz : (s.extract (16 * m) s.size).size = s.size - 16 * m := by rw [ByteArray.size_extract]; omega
  have hz2 : ((ctT L iv s).extract (16 * m) s.size).size = s.size - 16 * m := by rw [ByteArray.size_extract, ctT_size]; omega
  refine b_ext _ _ (s.size - 16 * m) (by rw [ctT_size, hz]) hz2 fun i hi => ?_
  rw [ctT_byte _ _ _ _ (by rw [hz]; exact hi), cntT_cnt]
  rw [← byteOf_at _ _ (by rw [hz]; exact hi), ← byteOf_at ((ctT L iv s).extract _ _) _ (by rw [hz2]; exact hi), ByteArray.getElem_extract, ByteArray.getElem_extract, byteOf_at, byteOf_at]
  rw [ctT_byte _ _ _ _ (by omega), show (16 * m + i) / 16 = m + i / 16 by omega, show (16 * m + i) % 16 = i % 16 by omega]
theorem ct_x (L : ByteArray → ByteArray) (iv s t : ByteArray) (i : Nat) (hs : i < s.size) (ht : i < t.size) : byteOf (ctT L iv s) i ^^^ byteOf (ctT L iv t) i = byteOf s i ^^^ byteOf t i := by
  rw [ctT_byte _ _ _ _ hs, ctT_byte _ _ _ _ ht]
  generalize byteOf (L (cntT iv (i / 16))) (i % 16) = k
  rw [UInt8.xor_comm (byteOf t i) k, UInt8.xor_assoc, ← UInt8.xor_assoc k k, UInt8.xor_self, UInt8.zero_xor]
theorem ct_begin (L : ByteArray → ByteArray) (iv s t : ByteArray) (i : Nat) (hs : i < s.size) (ht : i < t.size) (h : byteOf s i = byteOf t i) : byteOf (ctT L iv s) i = byteOf (ctT L iv t) i := by
  rw [ctT_byte _ _ _ _ hs, ctT_byte _ _ _ _ ht, h]
/-! ### a chain hangs on all ahead -/
theorem x_inj_l (a b c : ByteArray) (ha : a.size = 16) (hb : b.size = 16) (h : xorS a c = xorS b c) : a = b := by rw [← x_back a c ha, h, x_back b c hb]
theorem x_inj_r (a b c : ByteArray) (ha : a.size = 16) (hb : b.size = 16) (h : xorS c a = xorS c b) : a = b := by
  refine b_ext _ _ 16 ha hb fun i hi => ?_
  have h1 := congrArg (fun x => byteOf x i) h
  simp only [xorS_byte _ _ _ hi] at h1
  have h2 := congrArg (fun x => byteOf c i ^^^ x) h1
  simp only [← UInt8.xor_assoc, UInt8.xor_self, UInt8.zero_xor] at h2
  exact h2
/-- texts that differ in block m alone have chains that are alike ahead of it, and differ from it on. -/
theorem ch_differ {L : ByteArray → ByteArray} (hL : ∀ b, b.size = 16 → (L b).size = 16) (hi : ∀ a b, a.size = 16 → b.size = 16 → L a = L b → a = b) (iv : ByteArray) (hv : iv.size = 16) (p q : Nat → ByteArray) (hp : ∀ j, (p j).size = 16) (hq : ∀ j, (q j).size = 16) (m : Nat)
    (h : ∀ j, j ≠ m → p j = q j) (hm : p m ≠ q m) : ∀ j, (chB L iv p (j + 1) = chB L iv q (j + 1)) ↔ j < m
  | j => by
    by_cases hj : j < m
    · exact ⟨fun _ => hj, fun _ => chB_ext L iv (j + 1) fun i hi => h i (by omega)⟩
    · refine ⟨fun e => absurd ?_ hm, fun h2 => absurd h2 hj⟩
      have key : ∀ k, chB L iv p (m + k + 1) = chB L iv q (m + k + 1) → p m = q m := by
        intro k
        induction k with
        | zero =>
          intro e
          have e2 := hi _ _ (xorS_size _ _) (xorS_size _ _) e
          rw [chB_ext L iv m (q := q) fun i hi => h i (by omega)] at e2
          exact x_inj_l _ _ _ (hp m) (hq m) e2
        | succ k ih =>
          intro e
          have e2 := hi _ _ (xorS_size _ _) (xorS_size _ _) e
          rw [show m + (k + 1) = m + k + 1 from rfl, h (m + k + 1) (by omega)] at e2
          exact ih (x_inj_r _ _ _ (chB_size hL iv hv p _) (chB_size hL iv hv q _) e2)
      exact key (j - m) (by rw [show m + (j - m) + 1 = j + 1 by omega]; exact e)
end Go.Proofs.YtbcaldhcgoclgaaGreatDoor
set_option linter.unusedVariables false
set_option linter.unusedSimpArgs false
namespace Go.Proofs.YtbcaldhcgoclgaaGreatDoor
open Go Go.RowKit

def gfR : Nat := 299076299051606071403356588563077529600
def gfD (a : Nat) : Nat := a / 2 ^^^ (a % 2 * gfR)
def gfP : Nat → Nat → Nat
  | 0, a => a
  | k + 1, a => gfD (gfP k a)
/-- the first k places of a product. -/
def gfK : Nat → Nat → Nat → Nat
  | 0, _, _ => 0
  | k + 1, a, b => gfK k a b ^^^ (if b.testBit (127 - k) then gfP k a else 0)
theorem gfK_nil (a b : Nat) : gfK 0 a b = 0 := rfl
theorem gfK_succ (k a b : Nat) : gfK (k + 1) a b = gfK k a b ^^^ (if b.testBit (127 - k) then gfP k a else 0) := rfl
def gfM (a b : Nat) : Nat := gfK 128 a b
theorem gfR_lt : gfR < 2 ^ 128 := by decide
theorem gfD_zero : gfD 0 = 0 := rfl
theorem gfD_xor (a b : Nat) : gfD (a ^^^ b) = gfD a ^^^ gfD b := by
  unfold gfD
  have h1 : (a ^^^ b) / 2 = a / 2 ^^^ b / 2 := by have := @Nat.xor_div_two_pow a b 1; simpa using this
  have h2 : (a ^^^ b) % 2 = a % 2 ^^^ b % 2 := by have := @Nat.xor_mod_two_pow a b 1; simpa using this
  have h3 : (a % 2 ^^^ b % 2) * gfR = a % 2 * gfR ^^^ b % 2 * gfR := by
    rcases Nat.mod_two_eq_zero_or_one a with h | h <;> rcases Nat.mod_two_eq_zero_or_one b with h' | h' <;> rw [h, h'] <;> simp
  rw [h1, h2, h3]
  generalize a / 2 = x
  generalize b / 2 = y
  generalize a % 2 * gfR = z
  generalize b % 2 * gfR = u
  rw [Nat.xor_assoc, Nat.xor_assoc]
  congr 1
  rw [← Nat.xor_assoc, ← Nat.xor_assoc, Nat.xor_comm y z]
theorem gfP_zero (k : Nat) : gfP k 0 = 0 := by induction k with
  | zero => rfl
  | succ k ih => unfold gfP; rw [ih]; rfl
theorem gfP_xor (k a b : Nat) : gfP k (a ^^^ b) = gfP k a ^^^ gfP k b := by induction k with
  | zero => rfl
  | succ k ih => unfold gfP; rw [ih, gfD_xor]
theorem gfD_lt (a : Nat) (h : a < 2 ^ 128) : gfD a < 2 ^ 128 := by
  unfold gfD
  refine Nat.xor_lt_two_pow (by omega) ?_
  rcases Nat.mod_two_eq_zero_or_one a with h | h <;> rw [h] <;> decide
theorem gfP_lt (k a : Nat) (h : a < 2 ^ 128) : gfP k a < 2 ^ 128 := by induction k with
  | zero => exact h
  | succ k ih => exact gfD_lt _ ih
theorem gfK_lt (k a b : Nat) (h : a < 2 ^ 128) : gfK k a b < 2 ^ 128 := by induction k with
  | zero => show 0 < 2 ^ 128; decide
  | succ k ih =>
    unfold gfK
    refine Nat.xor_lt_two_pow ih ?_
    split
    · exact gfP_lt k a h
    · decide
theorem gfM_lt (a b : Nat) (h : a < 2 ^ 128) : gfM a b < 2 ^ 128 := gfK_lt 128 a b h
theorem gfX4 (a b c d : Nat) : (a ^^^ b) ^^^ (c ^^^ d) = (a ^^^ c) ^^^ (b ^^^ d) := by
  rw [Nat.xor_assoc, Nat.xor_assoc]
  congr 1
  rw [← Nat.xor_assoc, ← Nat.xor_assoc, Nat.xor_comm b c]
/-- a product goes over sums, on the left .. -/
theorem gfK_xor_left (k a c b : Nat) : gfK k (a ^^^ c) b = gfK k a b ^^^ gfK k c b := by induction k with
  | zero => simp [gfK]
  | succ k ih =>
    unfold gfK
    rw [ih, gfX4]
    congr 1
    split
    · exact gfP_xor k a c
    · rfl
/-- .. and on the right. -/
theorem gfK_xor_right (k a b c : Nat) : gfK k a (b ^^^ c) = gfK k a b ^^^ gfK k a c := by induction k with
  | zero => simp [gfK]
  | succ k ih =>
    unfold gfK
    rw [ih, gfX4]
    congr 1
    rw [Nat.testBit_xor]
    cases b.testBit (127 - k) <;> cases c.testBit (127 - k) <;> simp
theorem gfK_zero_left (k b : Nat) : gfK k 0 b = 0 := by induction k with
  | zero => rfl
  | succ k ih => unfold gfK; rw [ih, gfP_zero]; split <;> rfl
theorem gfK_zero_right (k a : Nat) : gfK k a 0 = 0 := by induction k with
  | zero => rfl
  | succ k ih => unfold gfK; rw [ih]; simp
theorem gfM_xor_left (a c b : Nat) : gfM (a ^^^ c) b = gfM a b ^^^ gfM c b := gfK_xor_left 128 a c b
theorem gfM_xor_right (a b c : Nat) : gfM a (b ^^^ c) = gfM a b ^^^ gfM a c := gfK_xor_right 128 a b c
theorem gfD_pow (m : Nat) : gfD (2 ^ (m + 1)) = 2 ^ m := by
  unfold gfD
  have h1 : (2 : Nat) ^ (m + 1) / 2 = 2 ^ m := by rw [Nat.pow_succ]; omega
  have h2 : (2 : Nat) ^ (m + 1) % 2 = 0 := by rw [Nat.pow_succ]; omega
  rw [h1, h2]; simp
/-- one. -/
def gfE : Nat := 2 ^ 127
theorem gfP_one (k : Nat) (hk : k ≤ 127) : gfP k gfE = 2 ^ (127 - k) := by induction k with
  | zero => rfl
  | succ k ih =>
    unfold gfP
    rw [ih (by omega), show 127 - k = (127 - (k + 1)) + 1 by omega, gfD_pow]
theorem gfK_one_bit (k : Nat) (hk : k ≤ 128) (b j : Nat) : (gfK k gfE b).testBit j = (decide (128 - k ≤ j ∧ j ≤ 127) && b.testBit j) := by induction k with
  | zero =>
    show (0 : Nat).testBit j = _
    rw [Nat.zero_testBit, decide_eq_false (by omega), Bool.false_and]
  | succ k ih =>
    unfold gfK
    rw [Nat.testBit_xor, ih (by omega), gfP_one k (by omega)]
    by_cases hj : 127 - k = j
    · subst hj
      rw [decide_eq_false (by omega), decide_eq_true (by omega), Bool.false_and, Bool.true_and, Bool.false_xor]
      cases h : b.testBit (127 - k)
      · simp
      · simp [Nat.testBit_two_pow_self]
    · have h0 : (if b.testBit (127 - k) = true then 2 ^ (127 - k) else 0).testBit j = false := by
        split
        · exact Nat.testBit_two_pow_of_ne hj
        · exact Nat.zero_testBit j
      rw [h0, Bool.xor_false]
      congr 1
      exact decide_eq_decide.2 (by omega)
theorem gfM_one_left (b : Nat) (hb : b < 2 ^ 128) : gfM gfE b = b := by
  refine Nat.eq_of_testBit_eq fun j => ?_
  unfold gfM
  rw [gfK_one_bit 128 (Nat.le_refl _) b j]
  by_cases hj : j ≤ 127
  · rw [decide_eq_true (by omega), Bool.true_and]
  · rw [decide_eq_false (by omega), Bool.false_and, Nat.testBit_lt_two_pow (Nat.lt_of_lt_of_le hb (Nat.pow_le_pow_right (by omega) (by omega)))]
/-- a product by what has one place alone. -/
theorem gfK_pow (k a m : Nat) (hm : m ≤ 127) (hk : k ≤ 128) : gfK k a (2 ^ (127 - m)) = if m < k then gfP m a else 0 := by induction k with
  | zero => rfl
  | succ k ih =>
    unfold gfK
    rw [ih (by omega)]
    by_cases h : m = k
    · subst h
      rw [Nat.testBit_two_pow_self, if_neg (by omega), if_pos rfl, if_pos (by omega), Nat.zero_xor]
    · rw [Nat.testBit_two_pow_of_ne (by omega)]
      by_cases h2 : m < k
      · rw [if_pos h2, if_neg (by simp), if_pos (by omega), Nat.xor_zero]
      · rw [if_neg h2, if_neg (by simp), if_neg (by omega), Nat.xor_zero]
theorem gfM_place (a m : Nat) (hm : m ≤ 127) : gfM a (gfP m gfE) = gfP m a := by
  rw [gfP_one m hm]
  unfold gfM
  rw [gfK_pow 128 a m hm (Nat.le_refl _), if_pos (by omega)]
theorem gfM_one_right (a : Nat) : gfM a gfE = a := gfM_place a 0 (by omega)
theorem gfP_dn (k a : Nat) : gfP k (gfD a) = gfD (gfP k a) := by induction k with
  | zero => rfl
  | succ k ih => unfold gfP; rw [ih]
theorem gfK_dn (k a b : Nat) : gfK k (gfD a) b = gfD (gfK k a b) := by
  induction k with
  | zero => rw [gfK_nil, gfK_nil, gfD_zero]
  | succ k ih =>
    rw [gfK_succ, gfK_succ, ih, gfD_xor]
    congr 1
    cases b.testBit (127 - k)
    · rw [if_neg (by decide), if_neg (by decide), gfD_zero]
    · rw [if_pos rfl, if_pos rfl, gfP_dn]
theorem gfM_pw (m a b : Nat) : gfM (gfP m a) b = gfP m (gfM a b) := by induction m with
  | zero => rfl
  | succ m ih => unfold gfP; rw [← ih]; exact gfK_dn 128 _ b
/-- what goes over sums is told by its places. -/
theorem by_places (f g : Nat → Nat) (hf : ∀ x y, f (x ^^^ y) = f x ^^^ f y) (hg : ∀ x y, g (x ^^^ y) = g x ^^^ g y) (f0 : f 0 = 0) (g0 : g 0 = 0)
    (h : ∀ m, m ≤ 127 → f (gfP m gfE) = g (gfP m gfE)) (b : Nat) (hb : b < 2 ^ 128) : f b = g b := by
  have H : ∀ k, k ≤ 128 → f (gfK k gfE b) = g (gfK k gfE b) := by
    intro k
    induction k with
    | zero => intro _; show f 0 = g 0; rw [f0, g0]
    | succ k ih =>
      intro hk
      unfold gfK
      rw [hf, hg, ih (by omega)]
      congr 1
      split
      · exact h k (by omega)
      · rw [f0, g0]
  have := H 128 (Nat.le_refl _)
  have e : gfK 128 gfE b = b := gfM_one_left b hb
  rwa [e] at this
theorem gfM_comm (a b : Nat) (ha : a < 2 ^ 128) (hb : b < 2 ^ 128) : gfM a b = gfM b a := by
  refine by_places (fun x => gfM x b) (fun x => gfM b x) (fun x y => gfM_xor_left x y b) (fun x y => gfM_xor_right b x y) (gfK_zero_left 128 b) (gfK_zero_right 128 b) (fun m hm => ?_) a ha
  show gfM (gfP m gfE) b = gfM b (gfP m gfE)
  rw [gfM_pw, gfM_one_left b hb, gfM_place b m hm]
theorem gfM_assoc (a b c : Nat) (ha : a < 2 ^ 128) (hb : b < 2 ^ 128) (hc : c < 2 ^ 128) : gfM (gfM a b) c = gfM a (gfM b c) := by
  refine by_places (fun x => gfM (gfM a b) x) (fun x => gfM a (gfM b x)) (fun x y => gfM_xor_right _ x y) (fun x y => by show gfM a (gfM b (x ^^^ y)) = _; rw [gfM_xor_right, gfM_xor_right]) (gfK_zero_right 128 _) (by show gfM a (gfK 128 b 0) = 0; rw [gfK_zero_right]; exact gfK_zero_right 128 a) (fun m hm => ?_) c hc
  show gfM (gfM a b) (gfP m gfE) = gfM a (gfM b (gfP m gfE))
  rw [gfM_place _ m hm, gfM_place _ m hm, gfM_comm a (gfP m b) ha (gfP_lt m b hb), gfM_pw, gfM_comm b a hb ha]

/-! ### numbers as halves -/
theorem gf_cut (x y : Nat) (hy : y < 18446744073709551616) : (x * 18446744073709551616 + y) / 18446744073709551616 = x ∧ (x * 18446744073709551616 + y) % 18446744073709551616 = y := by omega
theorem gf_halves (x y z u : Nat) (hy : y < 18446744073709551616) (hu : u < 18446744073709551616) :
    (x * 18446744073709551616 + y) ^^^ (z * 18446744073709551616 + u) = (x ^^^ z) * 18446744073709551616 + (y ^^^ u) := by
  have h1 := @Nat.xor_div_two_pow (x * 18446744073709551616 + y) (z * 18446744073709551616 + u) 64
  have h2 := @Nat.xor_mod_two_pow (x * 18446744073709551616 + y) (z * 18446744073709551616 + u) 64
  simp only [Nat.reducePow] at h1 h2
  rw [(gf_cut x y hy).1, (gf_cut z u hu).1] at h1
  rw [(gf_cut x y hy).2, (gf_cut z u hu).2] at h2
  rw [← h1, ← h2]
  omega
/-- the half that leaves a block at its bottom. -/
def gfH : Nat := 16212958658533785600
theorem gfR_H : gfR = gfH * 18446744073709551616 + 0 := by decide
/-- moved one place down, by halves. -/
theorem gfD_half (h l : Nat) (hh : h < 18446744073709551616) (hl : l < 18446744073709551616) :
    gfD (h * 18446744073709551616 + l) = (h / 2 ^^^ (l % 2 * gfH)) * 18446744073709551616 + (h % 2 * 9223372036854775808 + l / 2) := by
  unfold gfD
  have e1 : (h * 18446744073709551616 + l) / 2 = (h / 2) * 18446744073709551616 + (h % 2 * 9223372036854775808 + l / 2) := by omega
  have e2 : (h * 18446744073709551616 + l) % 2 = l % 2 := by omega
  have e3 : l % 2 * gfR = (l % 2 * gfH) * 18446744073709551616 + 0 := by rw [gfR_H, Nat.add_zero, Nat.add_zero, Nat.mul_assoc]
  rw [e1, e2, e3, gf_halves _ _ _ _ (by omega) (by omega), Nat.xor_zero]
/-- the bits of a half. -/
theorem gf_bit_hi (h l i : Nat) (hl : l < 18446744073709551616) (hi : i < 64) : (h * 18446744073709551616 + l).testBit (127 - i) = decide (h / 2 ^ (63 - i) % 2 = 1) := by
  rw [Nat.testBit_eq_decide_div_mod_eq]
  congr 2
  rw [show 127 - i = 64 + (63 - i) by omega, Nat.pow_add, ← Nat.div_div_eq_div_mul, show (2 : Nat) ^ 64 = 18446744073709551616 by rfl, (gf_cut h l hl).1]
theorem gf_bit_lo (h l i : Nat) (hi : i < 64) : (h * 18446744073709551616 + l).testBit (127 - (64 + i)) = decide (l / 2 ^ (63 - i) % 2 = 1) := by
  rw [Nat.testBit_eq_decide_div_mod_eq]
  congr 2
  rw [show 127 - (64 + i) = 63 - i by omega]
  have e : (h * 18446744073709551616 + l) / 2 ^ (63 - i) = h * (2 * 2 ^ i) + l / 2 ^ (63 - i) := by
    have e1 : (18446744073709551616 : Nat) = 2 ^ (63 - i) * (2 * 2 ^ i) := by
      rw [show 2 * 2 ^ i = 2 ^ (i + 1) by rw [Nat.pow_succ]; omega, ← Nat.pow_add, show 63 - i + (i + 1) = 64 by omega]
    rw [e1, Nat.mul_comm (2 ^ (63 - i)) _, ← Nat.mul_assoc, Nat.add_comm, Nat.add_mul_div_right _ _ (Nat.pow_pos (by omega)), Nat.add_comm]
  rw [e, ← Nat.mul_assoc, Nat.mul_comm h 2, Nat.mul_assoc]
  omega
/-! ### numbers as texts -/
theorem gf_dig (x y j : Nat) : (x ^^^ y) / 256 ^ j % 256 = (x / 256 ^ j % 256) ^^^ (y / 256 ^ j % 256) := by
  have h1 := @Nat.xor_div_two_pow x y (8 * j)
  have h2 := @Nat.xor_mod_two_pow (x / 2 ^ (8 * j)) (y / 2 ^ (8 * j)) 8
  have e : (256 : Nat) ^ j = 2 ^ (8 * j) := by rw [show (256 : Nat) = 2 ^ 8 by rfl, ← Nat.pow_mul]
  rw [e, h1]
  simp only [show (2 : Nat) ^ 8 = 256 by rfl] at h2
  exact h2
/-- the text of a number. -/
def gfT (N : Nat) : ByteArray := txt (digB N) 16
def gfN (s : ByteArray) : Nat := numB (byteOf s)
theorem gfT_size (N : Nat) : (gfT N).size = 16 := txt_size _ _
theorem gfT_byte (N i : Nat) (h : i < 16) : byteOf (gfT N) i = digB N i := txt_byte _ _ _ h
theorem gfN_lt (s : ByteArray) : gfN s < 2 ^ 128 := by have := numB_lt (byteOf s); simpa [gfN] using this
theorem gfN_T (N : Nat) (h : N < 2 ^ 128) : gfN (gfT N) = N := by
  unfold gfN
  have e : numB (byteOf (gfT N)) = numB (digB N) := numTo_ext 16 fun i hi => gfT_byte N i hi
  rw [e, num_dig, Nat.mod_eq_of_lt (by simpa using h)]
theorem gfT_N (s : ByteArray) (h : s.size = 16) : gfT (gfN s) = s := by
  refine b_ext _ _ 16 (gfT_size _) h fun i hi => ?_
  rw [gfT_byte _ _ hi]
  exact dig_num (byteOf s) i hi
theorem digB_xor (x y i : Nat) : digB (x ^^^ y) i = digB x i ^^^ digB y i := by
  apply UInt8.toNat_inj.1
  rw [UInt8.toNat_xor, digB_toNat, digB_toNat, digB_toNat, gf_dig]
theorem gfT_xor (x y : Nat) : xorS (gfT x) (gfT y) = gfT (x ^^^ y) := by
  refine b_ext _ _ 16 (xorS_size _ _) (gfT_size _) fun i hi => ?_
  rw [xorS_byte _ _ _ hi, gfT_byte _ _ hi, gfT_byte _ _ hi, gfT_byte _ _ hi, digB_xor]
theorem gfN_xor (a b : ByteArray) (ha : a.size = 16) (hb : b.size = 16) : gfN (xorS a b) = gfN a ^^^ gfN b := by
  have h1 := gfT_xor (gfN a) (gfN b)
  rw [gfT_N a ha, gfT_N b hb] at h1
  rw [h1, gfN_T _ (Nat.xor_lt_two_pow (gfN_lt a) (gfN_lt b))]
/-- a product of two blocks. -/
def tmB (a b : ByteArray) : ByteArray := gfT (gfM (gfN a) (gfN b))
def tmI (a b : ByteArray) : ByteArray := if a.size = 16 ∧ b.size = 16 then tmB a b else ⟨#[]⟩
theorem tmB_size (a b : ByteArray) : (tmB a b).size = 16 := gfT_size _
theorem tmI_yes (a b : ByteArray) (ha : a.size = 16) (hb : b.size = 16) : tmI a b = tmB a b := if_pos ⟨ha, hb⟩
theorem tmI_no (a b : ByteArray) (h : ¬ (a.size = 16 ∧ b.size = 16)) : tmI a b = ⟨#[]⟩ := if_neg h
theorem tmB_N (a b : ByteArray) : gfN (tmB a b) = gfM (gfN a) (gfN b) := gfN_T _ (gfM_lt _ _ (gfN_lt a))
theorem tmB_comm (a b : ByteArray) : tmB a b = tmB b a := by unfold tmB; rw [gfM_comm _ _ (gfN_lt a) (gfN_lt b)]
theorem tmB_assoc (a b c : ByteArray) : tmB (tmB a b) c = tmB a (tmB b c) := by
  show gfT (gfM (gfN (tmB a b)) (gfN c)) = gfT (gfM (gfN a) (gfN (tmB b c)))
  rw [tmB_N, tmB_N, gfM_assoc _ _ _ (gfN_lt a) (gfN_lt b) (gfN_lt c)]
theorem tmB_sum (a b c : ByteArray) (hb : b.size = 16) (hc : c.size = 16) : tmB a (xorS b c) = xorS (tmB a b) (tmB a c) := by
  unfold tmB
  rw [gfN_xor b c hb hc, gfM_xor_right, gfT_xor]
/-- one as a text. -/
theorem tmB_one (a e : ByteArray) (ha : a.size = 16) (he : gfN e = gfE) : tmB a e = a := by
  unfold tmB
  rw [he, gfM_one_right, gfT_N a ha]
/-! ### moved down, byte by byte -/
def dnF (f : Nat → UInt8) (i : Nat) : Nat := ((f i).toNat + 256 * (if i = 0 then 0 else (f (i - 1)).toNat % 2)) / 2
theorem gf_half_dig (N j : Nat) : N / 2 / 256 ^ j % 256 = (N / 256 ^ j % 256 + 256 * (N / 256 ^ (j + 1) % 2)) / 2 := by
  rw [Nat.div_div_eq_div_mul, Nat.mul_comm 2, ← Nat.div_div_eq_div_mul, Nat.pow_succ, ← Nat.div_div_eq_div_mul]
  generalize N / 256 ^ j = x
  omega
theorem dnF_dig (f : Nat → UInt8) (i : Nat) (hi : i < 16) : digB (numB f / 2) i = UInt8.ofNat (dnF f i) := by
  have h0 := congrArg UInt8.toNat (dig_num f i hi)
  rw [digB_toNat] at h0
  unfold digB dnF
  rw [gf_half_dig, h0]
  congr 1
  by_cases h : i = 0
  · subst h
    have hz : numB f / 256 ^ (15 - 0 + 1) = 0 := Nat.div_eq_of_lt (numB_lt f)
    rw [if_pos rfl, hz]
  · have h1 := congrArg UInt8.toNat (dig_num f (i - 1) (by omega))
    rw [digB_toNat] at h1
    rw [if_neg h, ← h1, show 15 - i + 1 = 15 - (i - 1) by omega]
    omega
theorem gf_last (f : Nat → UInt8) : numB f % 2 = (f 15).toNat % 2 := by
  have h0 := congrArg UInt8.toNat (dig_num f 15 (by omega))
  rw [digB_toNat] at h0
  simp only [Nat.sub_self, Nat.pow_zero, Nat.div_one] at h0
  omega
theorem gfR_dig (i : Nat) (hi : i < 16) : digB gfR i = if i = 0 then 225 else 0 := by
  have h : ∀ i : Fin 16, digB gfR i.val = if i.val = 0 then 225 else 0 := by decide +kernel
  exact h ⟨i, hi⟩
/-- moved down as a text. -/
def dnT (s : ByteArray) : ByteArray := gfT (gfD (gfN s))
theorem dnT_0 (s : ByteArray) (h : (byteOf s 15).toNat % 2 = 0) : dnT s = txt (fun i => UInt8.ofNat (dnF (byteOf s) i)) 16 := by
  unfold dnT gfT gfD gfN
  refine txt_ext _ _ 16 fun i hi => ?_
  rw [gf_last, h, Nat.zero_mul, Nat.xor_zero, dnF_dig _ _ hi]
theorem dnT_1 (s : ByteArray) (h : (byteOf s 15).toNat % 2 = 1) : dnT s = txt (fun i => UInt8.ofNat (dnF (byteOf s) i) ^^^ (if i = 0 then 225 else 0)) 16 := by
  unfold dnT gfT gfD gfN
  refine txt_ext _ _ 16 fun i hi => ?_
  rw [gf_last, h, Nat.one_mul, digB_xor, dnF_dig _ _ hi, gfR_dig _ hi]
theorem dnT_N (s : ByteArray) : gfN (dnT s) = gfD (gfN s) := gfN_T _ (gfD_lt _ (gfN_lt s))
/-- the bits of a text. -/
theorem gf_bit_txt (s : ByteArray) (i : Nat) (hi : i < 128) : (gfN s).testBit (127 - i) = decide ((byteOf s (i / 8)).toNat / 2 ^ (7 - i % 8) % 2 = 1) := by
  rw [Nat.testBit_eq_decide_div_mod_eq]
  congr 2
  have h0 := congrArg UInt8.toNat (dig_num (byteOf s) (i / 8) (by omega))
  rw [digB_toNat] at h0
  rw [← h0]
  have e : 127 - i = 8 * (15 - i / 8) + (7 - i % 8) := by omega
  rw [e, Nat.pow_add, ← Nat.div_div_eq_div_mul, Nat.pow_mul, show (2 : Nat) ^ 8 = 256 by rfl]
  show gfN s / 256 ^ (15 - i / 8) / 2 ^ (7 - i % 8) % 2 = gfN s / 256 ^ (15 - i / 8) % 256 / 2 ^ (7 - i % 8) % 2
  generalize gfN s / 256 ^ (15 - i / 8) = x
  have hk : i % 8 < 8 := Nat.mod_lt _ (by omega)
  have h8 : i % 8 = 0 ∨ i % 8 = 1 ∨ i % 8 = 2 ∨ i % 8 = 3 ∨ i % 8 = 4 ∨ i % 8 = 5 ∨ i % 8 = 6 ∨ i % 8 = 7 := by omega
  rcases h8 with h | h | h | h | h | h | h | h <;> rw [h] <;> simp only [Nat.reduceSub, Nat.reducePow] <;> omega
/-- what a product is after so many bits, in texts. -/
def tmZ (k : Nat) (a b : ByteArray) : ByteArray := gfT (gfK k (gfN a) (gfN b))
def tmA (k : Nat) (a : ByteArray) : ByteArray := gfT (gfP k (gfN a))
theorem tmZ_size (k : Nat) (a b : ByteArray) : (tmZ k a b).size = 16 := gfT_size _
theorem tmA_size (k : Nat) (a : ByteArray) : (tmA k a).size = 16 := gfT_size _
theorem tmA_0 (a : ByteArray) (ha : a.size = 16) : tmA 0 a = a := gfT_N a ha
theorem tmA_up (k : Nat) (a : ByteArray) : tmA (k + 1) a = dnT (tmA k a) := by
  unfold dnT tmA
  rw [gfN_T _ (gfP_lt k _ (gfN_lt a))]; rfl
theorem tmZ_yes (k : Nat) (a b : ByteArray) (h : (gfN b).testBit (127 - k) = true) : tmZ (k + 1) a b = xorS (tmZ k a b) (tmA k a) := by
  unfold tmZ tmA
  rw [gfT_xor, gfK_succ, if_pos h]
theorem tmZ_no (k : Nat) (a b : ByteArray) (h : (gfN b).testBit (127 - k) = false) : tmZ (k + 1) a b = tmZ k a b := by
  unfold tmZ
  rw [gfK_succ, if_neg (by rw [h]; decide), Nat.xor_zero]
theorem tmZ_128 (a b : ByteArray) : tmZ 128 a b = tmB a b := rfl
/-- sixteen bytes 0. -/
def zer16 : ByteArray := gfT 0
theorem tmZ_0 (a b : ByteArray) : tmZ 0 a b = zer16 := rfl
theorem zer16_size : zer16.size = 16 := gfT_size _
theorem zer16_byte (i : Nat) (h : i < 16) : byteOf zer16 i = 0 := by
  unfold zer16
  rw [gfT_byte _ _ h]
  unfold digB
  rw [Nat.zero_div]; rfl
theorem gfN_zer : gfN zer16 = 0 := gfN_T 0 (by decide)
end Go.Proofs.YtbcaldhcgoclgaaGreatDoor
set_option linter.unusedVariables false
set_option linter.unusedSimpArgs false
namespace Go.Proofs.YtbcaldhcgoclgaaGreatDoor
open Go Go.RowKit

/-! ### filled to whole blocks -/
def zpN (s : ByteArray) : Nat := 16 * ((s.size + 15) / 16) - s.size
def zpT (s : ByteArray) : ByteArray := s ++ txt (fun _ => 0) (zpN s)
theorem zpT_size (s : ByteArray) : (zpT s).size = 16 * ((s.size + 15) / 16) := by
  unfold zpT zpN
  rw [ByteArray.size_append, txt_size]; omega
theorem zpN_lt (s : ByteArray) : zpN s < 16 := by unfold zpN; omega
theorem zpN_mod (s : ByteArray) : zpN s = (16 - s.size % 16) % 16 := by unfold zpN; omega
theorem txt_nil (f : Nat → UInt8) : txt f 0 = ⟨#[]⟩ := rfl
theorem app_nil (s : ByteArray) : s ++ (⟨#[]⟩ : ByteArray) = s := ByteArray.append_empty
theorem zpT_whole (s : ByteArray) (h : s.size % 16 = 0) : zpT s = s := by
  unfold zpT
  rw [show zpN s = 0 by unfold zpN; omega, txt_nil, app_nil]
theorem zpT_zpT (s : ByteArray) : zpT (zpT s) = zpT s := zpT_whole _ (by rw [zpT_size]; omega)
/-! ### hashes -/
def hsK (h : ByteArray) (p : Nat → ByteArray) : Nat → ByteArray
  | 0 => zer16
  | k + 1 => tmB (xorS (hsK h p k) (p k)) h
theorem hsK_size (h : ByteArray) (p : Nat → ByteArray) : ∀ k, (hsK h p k).size = 16
  | 0 => zer16_size
  | k + 1 => tmB_size _ _
theorem hsK_ext (h : ByteArray) {p q : Nat → ByteArray} : ∀ k, (∀ i, i < k → p i = q i) → hsK h p k = hsK h q k
  | 0, _ => rfl
  | k + 1, e => by rw [hsK, hsK, hsK_ext h k fun i hi => e i (by omega), e k (by omega)]
def hsT (h s : ByteArray) : ByteArray := hsK h (blk (byteOf (zpT s))) ((s.size + 15) / 16)
def hsI (h s : ByteArray) : ByteArray := if h.size = 16 then hsT h s else ⟨#[]⟩
theorem hsT_size (h s : ByteArray) : (hsT h s).size = 16 := hsK_size _ _ _
theorem hsI_yes (h s : ByteArray) (e : h.size = 16) : hsI h s = hsT h s := if_pos e
theorem hsI_no (h s : ByteArray) (e : ¬ h.size = 16) : hsI h s = ⟨#[]⟩ := if_neg e
theorem hsT_zp (h s : ByteArray) : hsT h (zpT s) = hsT h s := by
  unfold hsT
  rw [zpT_zpT, zpT_size, show (16 * ((s.size + 15) / 16) + 15) / 16 = (s.size + 15) / 16 by omega]
theorem hsT_nil (h : ByteArray) : hsT h ⟨#[]⟩ = zer16 := rfl
theorem byte_app_l (a b : ByteArray) (i : Nat) (h : i < a.size) : byteOf (a ++ b) i = byteOf a i := by
  rw [bo_app, if_pos h]
theorem byte_app_r (a b : ByteArray) (i : Nat) (h : a.size ≤ i) : byteOf (a ++ b) i = byteOf b (i - a.size) := by
  rw [bo_app, if_neg (by omega)]
theorem byte_cut (t : ByteArray) (a b i : Nat) (hb : b ≤ t.size) (hi : a + i < b) : byteOf (t.extract a b) i = byteOf t (a + i) := by
  rw [← byteOf_at _ _ (by rw [ByteArray.size_extract]; omega), ByteArray.getElem_extract, byteOf_at]
theorem hsT_more (h s b : ByteArray) (hb : b.size = 16) : hsT h (zpT s ++ b) = tmB (xorS (hsT h s) b) h := by
  have hz : (zpT s ++ b).size = 16 * ((s.size + 15) / 16) + 16 := by rw [ByteArray.size_append, zpT_size, hb]
  unfold hsT
  rw [hz, zpT_whole (zpT s ++ b) (by rw [hz]; omega), show (16 * ((s.size + 15) / 16) + 16 + 15) / 16 = (s.size + 15) / 16 + 1 by omega, hsK]
  have e1 : hsK h (blk (byteOf (zpT s ++ b))) ((s.size + 15) / 16) = hsK h (blk (byteOf (zpT s))) ((s.size + 15) / 16) :=
    hsK_ext h _ fun i hi => blk_ext fun k hk => byte_app_l _ _ _ (by rw [zpT_size]; omega)
  have e2 : blk (byteOf (zpT s ++ b)) ((s.size + 15) / 16) = b := by
    refine Eq.trans (txt_ext _ (byteOf b) 16 fun i hi => ?_) (txt_own b 16 hb)
    show byteOf (zpT s ++ b) (16 * ((s.size + 15) / 16) + i) = byteOf b i
    rw [byte_app_r _ _ _ (by rw [zpT_size]; omega), zpT_size]
    congr 1; omega
  rw [e1, e2]
/-! ### seals -/
def macN (s : ByteArray) : Nat := (s.size + 15) / 16 - 1
def macTail (s : ByteArray) : ByteArray := s.extract (16 * macN s) s.size
theorem macN_le (s : ByteArray) : 16 * macN s ≤ s.size := by unfold macN; omega
theorem macTail_size (s : ByteArray) : (macTail s).size = s.size - 16 * macN s := by
  unfold macTail
  rw [ByteArray.size_extract]; omega
theorem macTail_le (s : ByteArray) : (macTail s).size ≤ 16 := by rw [macTail_size]; unfold macN; omega
def macPad (t : ByteArray) : ByteArray := zpT (t ++ ⟨#[128]⟩)
theorem macPad_size (t : ByteArray) (h : t.size ≤ 15) : (macPad t).size = 16 := by
  unfold macPad
  rw [zpT_size, ByteArray.size_append]
  show 16 * ((t.size + 1 + 15) / 16) = 16
  omega
/-- the keys under which the last block is turned. -/
def sub1 (L : ByteArray → ByteArray) : ByteArray := dblT (L zer16)
def sub2 (L : ByteArray → ByteArray) : ByteArray := dblT (sub1 L)
theorem sub1_size (L : ByteArray → ByteArray) : (sub1 L).size = 16 := dblT_size _
theorem sub2_size (L : ByteArray → ByteArray) : (sub2 L).size = 16 := dblT_size _
def macLast (L : ByteArray → ByteArray) (t : ByteArray) : ByteArray := if t.size = 16 then xorS t (sub1 L) else xorS (macPad t) (sub2 L)
theorem macLast_size (L : ByteArray → ByteArray) (t : ByteArray) : (macLast L t).size = 16 := by unfold macLast; split <;> exact xorS_size _ _
def macP (L : ByteArray → ByteArray) (s : ByteArray) (j : Nat) : ByteArray := if j = macN s then macLast L (macTail s) else blk (byteOf s) j
theorem macP_size (L : ByteArray → ByteArray) (s : ByteArray) (j : Nat) : (macP L s j).size = 16 := by
  unfold macP
  split
  · exact macLast_size L _
  · exact blk_size _ _
def macB (L : ByteArray → ByteArray) (s : ByteArray) : ByteArray := chB L zer16 (macP L s) (macN s + 1)
theorem macB_eq (L : ByteArray → ByteArray) (s : ByteArray) : macB L s = L (xorS (macLast L (macTail s)) (chB L zer16 (blk (byteOf s)) (macN s))) := by
  unfold macB
  rw [chB, chB_ext L zer16 (q := blk (byteOf s)) (macN s) fun i hi => by unfold macP; rw [if_neg (by omega)]]
  congr 2
  unfold macP
  rw [if_pos rfl]
theorem macB_size {L : ByteArray → ByteArray} (hL : ∀ b, b.size = 16 → (L b).size = 16) (s : ByteArray) : (macB L s).size = 16 := chB_size hL _ zer16_size _ _
/-- the text that is chained: whole blocks, and what the last one comes to. -/
theorem mac_text (L : ByteArray → ByteArray) (s : ByteArray) (j : Nat) (hj : j ≤ macN s) : blk (byteOf (s.extract 0 (16 * macN s) ++ macLast L (macTail s))) j = macP L s j := by
  have hm := macN_le s
  have hx : (s.extract 0 (16 * macN s)).size = 16 * macN s := by rw [ByteArray.size_extract]; omega
  by_cases h : j = macN s
  · subst h
    unfold macP
    rw [if_pos rfl]
    refine Eq.trans (txt_ext _ (byteOf (macLast L (macTail s))) 16 fun i hi => ?_) (txt_own _ 16 (macLast_size L _))
    show byteOf (s.extract 0 (16 * macN s) ++ macLast L (macTail s)) (16 * macN s + i) = byteOf (macLast L (macTail s)) i
    rw [byte_app_r _ _ _ (by omega), hx]
    congr 1; omega
  · unfold macP
    rw [if_neg h]
    refine blk_ext fun i hi => ?_
    rw [byte_app_l _ _ _ (by omega), byte_cut _ _ _ _ hm (by omega), Nat.zero_add]
/-- a byte more in a last block that isn't whole either way tells. -/
theorem mac_more {L : ByteArray → ByteArray} (hi : ∀ a b, a.size = 16 → b.size = 16 → L a = L b → a = b) (s : ByteArray) (h : s.size = 0 ∨ (0 < s.size % 16 ∧ s.size % 16 < 15)) : macB L (s ++ ⟨#[120]⟩) ≠ macB L s := by
  intro e
  rw [macB_eq, macB_eq] at e
  have hz : (s ++ (⟨#[120]⟩ : ByteArray)).size = s.size + 1 := ByteArray.size_append
  have hn : macN (s ++ ⟨#[120]⟩) = macN s := by unfold macN; rw [hz]; omega
  have hm := macN_le s
  have ht : (macTail s).size = s.size - 16 * macN s := macTail_size s
  have ht2 : (macTail (s ++ ⟨#[120]⟩)).size = s.size + 1 - 16 * macN s := by rw [macTail_size, hz, hn]
  have hb : s.size - 16 * macN s < 15 := by unfold macN; omega
  have ec : chB L zer16 (blk (byteOf (s ++ ⟨#[120]⟩))) (macN s) = chB L zer16 (blk (byteOf s)) (macN s) :=
    chB_ext L zer16 _ fun i hi => blk_ext fun k hk => byte_app_l _ _ _ (by omega)
  have e2 := hi _ _ (xorS_size _ _) (xorS_size _ _) e
  rw [hn, ec] at e2
  have e3 := x_inj_l _ _ _ (macLast_size L _) (macLast_size L _) e2
  unfold macLast at e3
  rw [if_neg (by omega), if_neg (by omega)] at e3
  have e4 := x_inj_l _ _ _ (macPad_size _ (by omega)) (macPad_size _ (by omega)) e3
  have e5 := congrArg (fun x => byteOf x (s.size - 16 * macN s)) e4
  have p1 : ∀ t : ByteArray, byteOf (macPad t) t.size = 128 := fun t => by
    unfold macPad zpT
    rw [byte_app_l _ _ _ (by rw [ByteArray.size_append]; show t.size < t.size + 1; omega)]
    rw [byte_app_r _ _ _ (Nat.le_refl _), Nat.sub_self]
    rfl
  have p2 : byteOf (macPad (macTail (s ++ ⟨#[120]⟩))) (s.size - 16 * macN s) = 120 := by
    unfold macPad zpT
    rw [byte_app_l _ _ _ (by rw [ByteArray.size_append]; omega), byte_app_l _ _ _ (by omega)]
    unfold macTail
    rw [hn, hz, byte_cut _ _ _ _ (by rw [hz]; omega) (by omega), byte_app_r _ _ _ (by omega), show 16 * macN s + (s.size - 16 * macN s) - s.size = 0 by omega]
    rfl
  have p3 := p1 (macTail s)
  rw [ht] at p3
  simp only [p2, p3] at e5
  exact absurd e5 (by decide)
end Go.Proofs.YtbcaldhcgoclgaaGreatDoor
