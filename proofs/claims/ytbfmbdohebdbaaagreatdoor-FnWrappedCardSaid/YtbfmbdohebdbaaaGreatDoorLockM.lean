/-
  Contracts and facts that the laws of this seat use: LockMath, LockMore.
-/
import Derived.Test.YtbfmbdohebdbaaaGreatDoorPure
import Derived.Test.YtbfmbdohebdbaaaGreatDoorBase
import Derived.Test.YtbfmbdohebdbaaaGreatDoorKey
set_option linter.unusedVariables false
namespace Go.Proofs.YtbfmbdohebdbaaaGreatDoor
open Go Go.RowKit

theorem mapT_inv {f g : UInt8 → UInt8} (h : ∀ c, g (f c) = c) (s : ByteArray) : mapT g (mapT f s) = s := by
  unfold mapT
  simp [List.map_map, Function.comp_def, h]
/-- a block put in the box whose rows are shifted; what undoes it. -/
def rdS (s : ByteArray) : ByteArray := shS 1 (mapT sbox s)
def udS (s : ByteArray) : ByteArray := mapT ubox (shS 3 s)
theorem rdS_size (s : ByteArray) : (rdS s).size = 16 := shS_size _ _
theorem udS_size (s : ByteArray) : (udS s).size = 16 := by unfold udS; rw [mapT_size, shS_size]
theorem ud_rd (s : ByteArray) (h : s.size = 16) : udS (rdS s) = s := by
  unfold udS rdS
  rw [sh_back _ (by rw [mapT_size]; exact h), mapT_inv ubox_sbox]
theorem rd_ud (s : ByteArray) (h : s.size = 16) : rdS (udS s) = s := by
  unfold udS rdS
  rw [mapT_inv sbox_ubox, sh_forth s h]
theorem xorS_inv (a k : ByteArray) (h : a.size = 16) : xorS (xorS a k) k = a := by
  refine Eq.trans (txt_ext _ (byteOf a) 16 fun i hi => ?_) (txt_own a 16 h)
  show byteOf (xorS a k) i ^^^ byteOf k i = byteOf a i
  rw [xorS_byte a k i hi, x_assoc, x_self, x_zero]
/-- a round without the key: the last one doesn't mix. -/
def midS (r i : Nat) (s : ByteArray) : ByteArray := if i < r then mxS s else s
def dimS (r i : Nat) (s : ByteArray) : ByteArray := if i < r then unS s else s
theorem midS_size (r i : Nat) (s : ByteArray) (h : s.size = 16) : (midS r i s).size = 16 := by unfold midS; split; exact mxS_size _; exact h
theorem dimS_size (r i : Nat) (s : ByteArray) (h : s.size = 16) : (dimS r i s).size = 16 := by unfold dimS; split; exact unS_size _; exact h
theorem dim_mid (r i : Nat) (s : ByteArray) (h : s.size = 16) : dimS r i (midS r i s) = s := by
  unfold dimS midS
  by_cases hi : i < r
  · rw [if_pos hi, if_pos hi]; exact un_mxS s h
  · rw [if_neg hi, if_neg hi]
theorem mid_dim (r i : Nat) (s : ByteArray) (h : s.size = 16) : midS r i (dimS r i s) = s := by
  unfold dimS midS
  by_cases hi : i < r
  · rw [if_pos hi, if_pos hi]; exact mx_unS s h
  · rw [if_neg hi, if_neg hi]
/-- the steps of a block under the round keys K, of which the last is the r-th. -/
def stepS (K : Nat → ByteArray) (r : Nat) (s : ByteArray) : Nat → ByteArray
  | 0 => xorS s (K 0)
  | i + 1 => xorS (midS r (i + 1) (rdS (stepS K r s i))) (K (i + 1))
theorem stepS_size (K : Nat → ByteArray) (r : Nat) (s : ByteArray) (i : Nat) : (stepS K r s i).size = 16 := by
  cases i <;> exact xorS_size _ _
def lockS (K : Nat → ByteArray) (r : Nat) (s : ByteArray) : ByteArray := stepS K r s r
theorem lockS_size (K : Nat → ByteArray) (r : Nat) (s : ByteArray) : (lockS K r s).size = 16 := stepS_size K r s r
/-- a block that is unlocked, j rounds of it. -/
def backS (K : Nat → ByteArray) (r : Nat) (t : ByteArray) : Nat → ByteArray
  | 0 => t
  | j + 1 => udS (dimS r (r - j) (xorS (backS K r t j) (K (r - j))))
theorem backS_size (K : Nat → ByteArray) (r : Nat) (t : ByteArray) (h : t.size = 16) (j : Nat) : (backS K r t j).size = 16 := by
  cases j with
  | zero => exact h
  | succ j => exact udS_size _
def unlockS (K : Nat → ByteArray) (r : Nat) (t : ByteArray) : ByteArray := xorS (backS K r t r) (K 0)
theorem unlockS_size (K : Nat → ByteArray) (r : Nat) (t : ByteArray) : (unlockS K r t).size = 16 := xorS_size _ _
theorem back_lock (K : Nat → ByteArray) (r : Nat) (s : ByteArray) : ∀ j, j ≤ r → backS K r (lockS K r s) j = stepS K r s (r - j)
  | 0, _ => rfl
  | j + 1, h => by
    have ih := back_lock K r s j (by omega)
    obtain ⟨i, hi⟩ : ∃ i, r - (j + 1) = i := ⟨_, rfl⟩
    have hi2 : r - j = i + 1 := by omega
    rw [hi, backS, ih, hi2, stepS]
    rw [xorS_inv _ _ (midS_size _ _ _ (rdS_size _)), dim_mid _ _ _ (rdS_size _), ud_rd _ (stepS_size _ _ _ _)]
theorem unlock_lock (K : Nat → ByteArray) (r : Nat) (s : ByteArray) (h : s.size = 16) : unlockS K r (lockS K r s) = s := by
  unfold unlockS
  rw [back_lock K r s r (Nat.le_refl _), Nat.sub_self, stepS, xorS_inv _ _ h]
theorem lock_back (K : Nat → ByteArray) (r : Nat) (t : ByteArray) (h : t.size = 16) : ∀ i, i ≤ r → stepS K r (unlockS K r t) i = backS K r t (r - i)
  | 0, _ => by
    rw [stepS, unlockS, Nat.sub_zero, xorS_inv _ _ (backS_size K r t h r)]
  | i + 1, hi => by
    have ih := lock_back K r t h i (by omega)
    obtain ⟨j, hj⟩ : ∃ j, r - (i + 1) = j := ⟨_, rfl⟩
    have hj2 : r - i = j + 1 := by omega
    have hj3 : r - j = i + 1 := by omega
    rw [hj, stepS, ih, hj2, backS, hj3]
    rw [rd_ud _ (dimS_size _ _ _ (xorS_size _ _)), mid_dim _ _ _ (xorS_size _ _), xorS_inv _ _ (backS_size K r t h j)]
theorem lock_unlock (K : Nat → ByteArray) (r : Nat) (t : ByteArray) (h : t.size = 16) : lockS K r (unlockS K r t) = t := by
  unfold lockS
  rw [lock_back K r t h r (Nat.le_refl _), Nat.sub_self, backS]
theorem lock_inj (K : Nat → ByteArray) (r : Nat) (s t : ByteArray) (hs : s.size = 16) (ht : t.size = 16) (h : lockS K r s = lockS K r t) : s = t := by
  rw [← unlock_lock K r s hs, ← unlock_lock K r t ht, h]
/-- the round keys of a key of n words. -/
def rkS (s : ByteArray) (n i : Nat) : ByteArray := ofW fun j => ew s n (4 * i + j)
theorem rkS_size (s : ByteArray) (n i : Nat) : (rkS s n i).size = 16 := ofW_size _
/-- Steps, Lock and Unlock as the document tells them. -/
def stepsT (k s : ByteArray) : List ByteArray := if kOk k ∧ s.size = 16 then upTo (stepS (rkS k (k.size / 4)) (k.size / 4 + 6) s) (k.size / 4 + 7) else []
def lockT (k s : ByteArray) : ByteArray := if kOk k ∧ s.size = 16 then lockS (rkS k (k.size / 4)) (k.size / 4 + 6) s else ⟨#[]⟩
def unlockT (k s : ByteArray) : ByteArray := if kOk k ∧ s.size = 16 then unlockS (rkS k (k.size / 4)) (k.size / 4 + 6) s else ⟨#[]⟩
theorem stepsT_no (k s : ByteArray) (h : ¬ (kOk k ∧ s.size = 16)) : stepsT k s = [] := if_neg h
theorem lockT_no (k s : ByteArray) (h : ¬ (kOk k ∧ s.size = 16)) : lockT k s = ⟨#[]⟩ := if_neg h
theorem unlockT_no (k s : ByteArray) (h : ¬ (kOk k ∧ s.size = 16)) : unlockT k s = ⟨#[]⟩ := if_neg h
theorem lockT_yes (k s : ByteArray) (hk : kOk k) (h : s.size = 16) : lockT k s = lockS (rkS k (k.size / 4)) (k.size / 4 + 6) s := if_pos ⟨hk, h⟩
theorem unlockT_yes (k s : ByteArray) (hk : kOk k) (h : s.size = 16) : unlockT k s = unlockS (rkS k (k.size / 4)) (k.size / 4 + 6) s := if_pos ⟨hk, h⟩
theorem stepsT_yes (k s : ByteArray) (hk : kOk k) (h : s.size = 16) : stepsT k s = upTo (stepS (rkS k (k.size / 4)) (k.size / 4 + 6) s) (k.size / 4 + 7) := if_pos ⟨hk, h⟩
end Go.Proofs.YtbfmbdohebdbaaaGreatDoor
set_option linter.unusedVariables false
namespace Go.Proofs.YtbfmbdohebdbaaaGreatDoor
open Go Go.RowKit

theorem blk_ofW (f : Nat → UInt32) : blkW f = ofW f := rfl
theorem popc_0_all : ∀ n : Fin 256, popc (UInt8.ofNat n.val) = 0 → UInt8.ofNat n.val = 0 := by decide +kernel
theorem popc_0 (c : UInt8) (h : popc c = 0) : c = 0 := by
  have := popc_0_all ⟨c.toNat, c.toNat_lt⟩
  simp only [UInt8.ofNat_toNat] at this
  exact this h
theorem ones_0 : ∀ l : List UInt8, ones l = 0 → ∀ c ∈ l, c = 0
  | [], _, c, hc => by cases hc
  | d :: l, h, c, hc => by
    have h1 := popc_bd d
    have h2 := ones_bd l
    rw [ones] at h
    rcases List.mem_cons.1 hc with rfl | hc
    · exact popc_0 _ (by omega)
    · exact ones_0 l (by omega) c hc
theorem xorOf_list (a b : ByteArray) (ha : a.size = 16) (hb : b.size = 16) : xorOf a b = upTo (fun i => byteOf a i ^^^ byteOf b i) 16 := by
  have h := congrArg (fun x : ByteArray => x.data.toList) (xorOf_S a b ha hb)
  simpa [xorS, txt] using h
theorem ones_pos (a b : ByteArray) (ha : a.size = 16) (hb : b.size = 16) (h : a ≠ b) : 0 < ones (xorOf a b) := by
  have hbd := ones_bd (xorOf a b)
  rcases Int.lt_or_eq_of_le hbd.1 with hp | h0
  · exact hp
  · exfalso
    apply h
    refine b_ext a b 16 ha hb fun i hi => ?_
    have hz := ones_0 _ h0.symm (byteOf a i ^^^ byteOf b i) (by rw [xorOf_list a b ha hb]; exact List.mem_map.2 ⟨i, List.mem_range.2 hi, rfl⟩)
    have h2 : byteOf a i ^^^ byteOf b i ^^^ byteOf b i = 0 ^^^ byteOf b i := by rw [hz]
    rwa [x_assoc, x_self, x_zero, zero_x] at h2
/-- a block of which a byte is set. -/
def setB (s : ByteArray) (j : Nat) (c : UInt8) : ByteArray := txt (fun i => if i = j then c else byteOf s i) 16
theorem setB_size (s : ByteArray) (j : Nat) (c : UInt8) : (setB s j c).size = 16 := txt_size _ _
theorem setB_ne (s : ByteArray) (j : Nat) (m : UInt8) (hj : j < 16) (hm : ¬ m = 0) : setB s j (byteOf s j ^^^ m) ≠ s := by
  intro h
  have h2 : byteOf (setB s j (byteOf s j ^^^ m)) j = byteOf s j := by rw [h]
  unfold setB at h2
  rw [txt_byte _ 16 j hj, if_pos rfl] at h2
  apply hm
  have h3 : byteOf s j ^^^ (byteOf s j ^^^ m) = byteOf s j ^^^ byteOf s j := by rw [h2]
  rwa [← x_assoc, x_self, zero_x] at h3
theorem bit_ne_all : ∀ k : Fin 8, ¬ UInt8.ofNat (2 ^ k.val) = 0 := by decide
/-- the steps back as they are gone from outside: a block ahead of the round i's key is put off. -/
def outS (K : Nat → ByteArray) (r : Nat) (t : ByteArray) : Nat → ByteArray
  | 0 => xorS t (K r)
  | j + 1 => dimS r (r - 1 - j) (xorS (udS (outS K r t j)) (K (r - 1 - j)))
theorem dimS_0 (r : Nat) (s : ByteArray) (h : s.size = 16) : dimS r r s = s := if_neg (Nat.lt_irrefl _)
theorem out_back (K : Nat → ByteArray) (r : Nat) (t : ByteArray) : ∀ j, j < r → outS K r t j = dimS r (r - j) (xorS (backS K r t j) (K (r - j)))
  | 0, _ => by rw [outS, backS, Nat.sub_zero, dimS_0 _ _ (xorS_size _ _)]
  | j + 1, h => by
    have ih := out_back K r t j (by omega)
    rw [outS, ih, show r - 1 - j = r - (j + 1) by omega, backS]
/-- .. the last time no column is mixed. -/
theorem out_last (K : Nat → ByteArray) (r : Nat) (t : ByteArray) (h : 0 < r) : xorS (udS (outS K r t (r - 1))) (K 0) = unlockS K r t := by
  unfold unlockS
  obtain ⟨q, rfl⟩ : ∃ q, r = q + 1 := ⟨r - 1, by omega⟩
  rw [Nat.add_sub_cancel, out_back K (q + 1) t q (by omega), backS]
end Go.Proofs.YtbfmbdohebdbaaaGreatDoor
