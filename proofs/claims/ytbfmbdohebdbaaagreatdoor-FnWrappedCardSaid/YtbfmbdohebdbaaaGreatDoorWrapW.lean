/-
  Contracts and facts that the laws of this seat use: WrapMath, WrapI, WrapL, WrapS, WrapV.
-/
import Derived.Test.YtbfmbdohebdbaaaGreatDoorPure
import Derived.Test.YtbfmbdohebdbaaaGreatDoorLockM
import Derived.Test.YtbfmbdohebdbaaaGreatDoorSums
import Derived.Test.YtbfmbdohebdbaaaGreatDoorWord
import Derived.Test.YtbfmbdohebdbaaaGreatDoorLists
import Derived.Test.YtbfmbdohebdbaaaGreatDoorLockSp
import Derived.Test.YtbfmbdohebdbaaaGreatDoorKey
import Derived.Test.YtbfmbdohebdbaaaGreatDoorLks
import Derived.ScopeJumps
import Derived.WalkMore
import Derived.Test.YtbfmbdohebdbaaaGreatDoorShelf
import Derived.Lib.Join
set_option linter.unusedVariables false
set_option linter.unusedSimpArgs false
namespace Go.Proofs.YtbfmbdohebdbaaaGreatDoor
open Go Go.RowKit

def hd8 (b : ByteArray) : ByteArray := b.extract 0 8
def tl8 (b : ByteArray) : ByteArray := b.extract 8 b.size
theorem hd8_size (b : ByteArray) (h : b.size = 16) : (hd8 b).size = 8 := by unfold hd8; rw [ByteArray.size_extract]; omega
theorem tl8_size (b : ByteArray) (h : b.size = 16) : (tl8 b).size = 8 := by unfold tl8; rw [ByteArray.size_extract]; omega
theorem ex_byte (b : ByteArray) (i j k : Nat) (hj : j ≤ b.size) (hk : i + k < j) : byteOf (b.extract i j) k = byteOf b (i + k) := by
  rw [← byteOf_at _ _ (by rw [ByteArray.size_extract]; omega), ByteArray.getElem_extract, byteOf_at]
theorem ap_byte (a b : ByteArray) (k : Nat) : byteOf (a ++ b) k = if k < a.size then byteOf a k else byteOf b (k - a.size) := by
  unfold byteOf
  rw [List.getD_eq_getElem?_getD, List.getD_eq_getElem?_getD, List.getD_eq_getElem?_getD]
  have e : (a ++ b).data.toList = a.data.toList ++ b.data.toList := by rw [ByteArray.data_append, Array.toList_append]
  have l : a.data.toList.length = a.size := rfl
  rw [e, List.getElem?_append, l]
  split <;> rfl
theorem ap_any (a b : ByteArray) (n m : Nat) (ha : a.size = n) (hb : b.size = m) : (a ++ b).extract 0 n = a ∧ (a ++ b).extract n (n + m) = b := by
  have hs : (a ++ b).size = n + m := by rw [ByteArray.size_append, ha, hb]
  refine ⟨b_ext _ _ n (by rw [ByteArray.size_extract]; omega) ha fun i hi => ?_, b_ext _ _ m (by rw [ByteArray.size_extract]; omega) hb fun i hi => ?_⟩
  · rw [ex_byte _ _ _ _ (by omega) (by omega), ap_byte, if_pos (by omega), Nat.zero_add]
  · rw [ex_byte _ _ _ _ (by omega) (by omega), ap_byte, if_neg (by omega), ha, Nat.add_sub_cancel_left]
theorem hd8_ap (a b : ByteArray) (ha : a.size = 8) (hb : b.size = 8) : hd8 (a ++ b) = a := (ap_any a b 8 8 ha hb).1
theorem tl8_ap (a b : ByteArray) (ha : a.size = 8) (hb : b.size = 8) : tl8 (a ++ b) = b := by
  unfold tl8
  rw [ByteArray.size_append, ha, hb]
  exact (ap_any a b 8 8 ha hb).2
theorem ap_hd_tl (b : ByteArray) (h : b.size = 16) : hd8 b ++ tl8 b = b := by
  refine b_ext _ _ 16 (by rw [ByteArray.size_append, hd8_size b h, tl8_size b h]) h fun i hi => ?_
  rw [ap_byte, hd8_size b h]
  unfold hd8 tl8
  split
  · rw [ex_byte _ _ _ _ (by omega) (by omega), Nat.zero_add]
  · rw [ex_byte _ _ _ _ (by omega) (by omega)]; congr 1; omega
/-- eight bytes turned by a number. -/
def tuN (k : Nat) : ByteArray := putW (w32 0) ++ putW (w32 (k : Int))
theorem tuN_size (k : Nat) : (tuN k).size = 8 := by unfold tuN; rw [ByteArray.size_append]; rfl
def tuB (x : ByteArray) (k : Nat) : ByteArray := ⟨(xorOf x (tuN k)).toArray⟩
theorem xorOf_size (x y : ByteArray) (n : Nat) (hx : x.size = n) (hy : y.size = n) : (⟨(xorOf x y).toArray⟩ : ByteArray).size = n := by
  show (xorOf x y).toArray.size = n
  have h1 : x.data.toList.length = n := hx
  have h2 : y.data.toList.length = n := hy
  simp [xorOf, List.length_zipWith]
  omega
theorem xorOf_byte (x y : ByteArray) (n : Nat) (hx : x.size = n) (hy : y.size = n) (i : Nat) (hi : i < n) : byteOf (⟨(xorOf x y).toArray⟩ : ByteArray) i = byteOf x i ^^^ byteOf y i := by
  unfold byteOf
  have h1 : x.data.toList.length = n := hx
  have h2 : y.data.toList.length = n := hy
  show (xorOf x y).getD i 0 = _
  rw [List.getD_eq_getElem?_getD, List.getD_eq_getElem?_getD, List.getD_eq_getElem?_getD, List.getElem?_eq_getElem (by simp [xorOf]; omega), List.getElem?_eq_getElem (by omega), List.getElem?_eq_getElem (by omega)]
  simp [xorOf]
theorem tuB_size (x : ByteArray) (k : Nat) (h : x.size = 8) : (tuB x k).size = 8 := xorOf_size x _ 8 h (tuN_size k)
theorem tuB_inv (x : ByteArray) (k : Nat) (h : x.size = 8) : tuB (tuB x k) k = x := by
  refine b_ext _ _ 8 (tuB_size _ k (tuB_size x k h)) h fun i hi => ?_
  show byteOf (⟨(xorOf (tuB x k) (tuN k)).toArray⟩ : ByteArray) i = _
  rw [xorOf_byte _ _ 8 (tuB_size x k h) (tuN_size k) i hi]
  show byteOf (⟨(xorOf x (tuN k)).toArray⟩ : ByteArray) i ^^^ _ = _
  rw [xorOf_byte _ _ 8 h (tuN_size k) i hi, UInt8.xor_assoc, UInt8.xor_self, UInt8.xor_zero]
/-- a part is set. -/
def setP (r : Nat → ByteArray) (i : Nat) (x : ByteArray) : Nat → ByteArray := fun j => if j = i then x else r j
theorem setP_at (r : Nat → ByteArray) (i : Nat) (x : ByteArray) : setP r i x i = x := if_pos rfl
theorem setP_twice (r : Nat → ByteArray) (i : Nat) (x y : ByteArray) (h : r i = y) : setP (setP r i x) i y = r := by
  funext j
  unfold setP
  by_cases e : j = i
  · subst e; rw [if_pos rfl, h]
  · rw [if_neg e, if_neg e]
/-- the front and the parts behind so many steps. -/
def wrF (L : ByteArray → ByteArray) (n : Nat) (a : ByteArray) (r : Nat → ByteArray) : Nat → ByteArray × (Nat → ByteArray)
  | 0 => (a, r)
  | k + 1 => (tuB (hd8 (L ((wrF L n a r k).1 ++ (wrF L n a r k).2 (k % n)))) (k + 1), setP (wrF L n a r k).2 (k % n) (tl8 (L ((wrF L n a r k).1 ++ (wrF L n a r k).2 (k % n)))))
/-- the steps back, from step m on. -/
def uwF (U : ByteArray → ByteArray) (n m : Nat) (a : ByteArray) (r : Nat → ByteArray) : Nat → ByteArray × (Nat → ByteArray)
  | 0 => (a, r)
  | j + 1 => (hd8 (U (tuB (uwF U n m a r j).1 (m - j) ++ (uwF U n m a r j).2 ((m - 1 - j) % n))), setP (uwF U n m a r j).2 ((m - 1 - j) % n) (tl8 (U (tuB (uwF U n m a r j).1 (m - j) ++ (uwF U n m a r j).2 ((m - 1 - j) % n)))))
def Parts8 (a : ByteArray) (r : Nat → ByteArray) : Prop := a.size = 8 ∧ ∀ j, (r j).size = 8
theorem setP_8 {r : Nat → ByteArray} {i : Nat} {x : ByteArray} (h : ∀ j, (r j).size = 8) (hx : x.size = 8) (j : Nat) : (setP r i x j).size = 8 := by unfold setP; split; exact hx; exact h j
theorem wrF_8 {L : ByteArray → ByteArray} (hL : ∀ b : ByteArray, b.size = 16 → (L b).size = 16) (n : Nat) (a : ByteArray) (r : Nat → ByteArray) (h : Parts8 a r) : ∀ k, Parts8 (wrF L n a r k).1 (wrF L n a r k).2
  | 0 => h
  | k + 1 => by
    obtain ⟨h1, h2⟩ := wrF_8 hL n a r h k
    have hb := hL ((wrF L n a r k).1 ++ (wrF L n a r k).2 (k % n)) (by rw [ByteArray.size_append, h1, h2])
    exact ⟨tuB_size _ _ (hd8_size _ hb), setP_8 h2 (tl8_size _ hb)⟩
theorem uwF_8 {U : ByteArray → ByteArray} (hU : ∀ b : ByteArray, b.size = 16 → (U b).size = 16) (n m : Nat) (a : ByteArray) (r : Nat → ByteArray) (h : Parts8 a r) : ∀ k, Parts8 (uwF U n m a r k).1 (uwF U n m a r k).2
  | 0 => h
  | k + 1 => by
    obtain ⟨h1, h2⟩ := uwF_8 hU n m a r h k
    have hb := hU (tuB (uwF U n m a r k).1 (m - k) ++ (uwF U n m a r k).2 ((m - 1 - k) % n)) (by rw [ByteArray.size_append, tuB_size _ _ h1, h2])
    exact ⟨hd8_size _ hb, setP_8 h2 (tl8_size _ hb)⟩
theorem uw_wr {L U : ByteArray → ByteArray} (hL : ∀ b : ByteArray, b.size = 16 → (L b).size = 16) (hUL : ∀ b : ByteArray, b.size = 16 → U (L b) = b) (n m : Nat) (a : ByteArray) (r : Nat → ByteArray) (h : Parts8 a r) :
    ∀ j, j ≤ m → uwF U n m (wrF L n a r m).1 (wrF L n a r m).2 j = wrF L n a r (m - j)
  | 0, _ => rfl
  | j + 1, hj => by
    have ih := uw_wr hL hUL n m a r h j (by omega)
    obtain ⟨k, hk⟩ : ∃ k, m - j = k + 1 := ⟨m - j - 1, by omega⟩
    have hk1 : m - 1 - j = k := by omega
    have hk2 : m - (j + 1) = k := by omega
    obtain ⟨h1, h2⟩ := wrF_8 hL n a r h k
    have hx : ((wrF L n a r k).1 ++ (wrF L n a r k).2 (k % n)).size = 16 := by rw [ByteArray.size_append, h1, h2]
    have hb := hL _ hx
    show (hd8 (U (tuB (uwF U n m _ _ j).1 (m - j) ++ (uwF U n m _ _ j).2 ((m - 1 - j) % n))), setP (uwF U n m _ _ j).2 ((m - 1 - j) % n) (tl8 (U (tuB (uwF U n m _ _ j).1 (m - j) ++ (uwF U n m _ _ j).2 ((m - 1 - j) % n))))) = _
    rw [ih, hk, hk1, hk2]
    have e : U (tuB (wrF L n a r (k + 1)).1 (k + 1) ++ (wrF L n a r (k + 1)).2 (k % n)) = (wrF L n a r k).1 ++ (wrF L n a r k).2 (k % n) := by
      show U (tuB (tuB (hd8 (L ((wrF L n a r k).1 ++ (wrF L n a r k).2 (k % n)))) (k + 1)) (k + 1) ++ setP (wrF L n a r k).2 (k % n) (tl8 (L ((wrF L n a r k).1 ++ (wrF L n a r k).2 (k % n)))) (k % n)) = _
      rw [tuB_inv _ _ (hd8_size _ hb), setP_at, ap_hd_tl _ hb, hUL _ hx]
    rw [e, hd8_ap _ _ h1 (h2 _), tl8_ap _ _ h1 (h2 _)]
    show (_, setP (setP (wrF L n a r k).2 (k % n) _) (k % n) _) = wrF L n a r k
    rw [setP_twice _ _ _ _ rfl]
/-- the parts of a text, and parts put together. -/
def ptB (s : ByteArray) (j : Nat) : ByteArray := s.extract (8 * j) (8 * j + 8)
def jnB (r : Nat → ByteArray) : Nat → ByteArray
  | 0 => ⟨#[]⟩
  | n + 1 => jnB r n ++ r n
theorem jnB_size (r : Nat → ByteArray) (h : ∀ j, (r j).size = 8) : ∀ n, (jnB r n).size = 8 * n
  | 0 => rfl
  | n + 1 => by show (jnB r n ++ r n).size = _; rw [ByteArray.size_append, jnB_size r h n, h n]; omega
theorem jnB_byte (r : Nat → ByteArray) (h : ∀ j, (r j).size = 8) : ∀ n i, i < 8 * n → byteOf (jnB r n) i = byteOf (r (i / 8)) (i % 8)
  | 0, i, hi => by omega
  | n + 1, i, hi => by
    show byteOf (jnB r n ++ r n) i = _
    rw [ap_byte, jnB_size r h n]
    by_cases e : i < 8 * n
    · rw [if_pos e, jnB_byte r h n i e]
    · rw [if_neg e, show i / 8 = n by omega, show i - 8 * n = i % 8 by omega]
theorem jnB_ext {q r : Nat → ByteArray} : ∀ {n}, (∀ j, j < n → q j = r j) → jnB q n = jnB r n
  | 0, _ => rfl
  | n + 1, h => by
    show jnB q n ++ q n = jnB r n ++ r n
    rw [jnB_ext fun j hj => h j (by omega), h n (by omega)]
theorem jnB_part (r : Nat → ByteArray) (h : ∀ j, (r j).size = 8) (n j : Nat) (hj : j < n) : ptB (jnB r n) j = r j := by
  have hs := jnB_size r h n
  refine b_ext _ _ 8 (by unfold ptB; rw [ByteArray.size_extract]; omega) (h j) fun i hi => ?_
  unfold ptB
  rw [ex_byte _ _ _ _ (by omega) (by omega), jnB_byte r h n _ (by omega), show (8 * j + i) / 8 = j by omega, show (8 * j + i) % 8 = i by omega]
theorem ptB_size (s : ByteArray) (n j : Nat) (h : s.size = 8 * n) (hj : j < n) : (ptB s j).size = 8 := by unfold ptB; rw [ByteArray.size_extract]; omega
/-- the parts of a text, eight bytes each whatever the place. -/
def ptZ (s : ByteArray) (n j : Nat) : ByteArray := if j < n then ptB s j else ⟨#[0, 0, 0, 0, 0, 0, 0, 0]⟩
theorem ptZ_at (s : ByteArray) (n j : Nat) (h : j < n) : ptZ s n j = ptB s j := if_pos h
theorem ptZ_size (s : ByteArray) (n : Nat) (h : s.size = 8 * n) (j : Nat) : (ptZ s n j).size = 8 := by
  unfold ptZ; split
  · exact ptB_size s n j h (by assumption)
  · rfl
theorem jnB_own (s : ByteArray) (n : Nat) (h : s.size = 8 * n) : jnB (ptZ s n) n = s := by
  refine b_ext _ _ (8 * n) (jnB_size _ (ptZ_size s n h) n) h fun i hi => ?_
  rw [jnB_byte _ (ptZ_size s n h) n i hi, ptZ_at _ _ _ (by omega)]
  unfold ptB
  rw [ex_byte _ _ _ _ (by omega) (by omega)]
  congr 1; omega
def wrMk : ByteArray := ⟨#[166, 166, 166, 166, 166, 166, 166, 166]⟩
def wrOk (k s : ByteArray) : Prop := kOk k ∧ 16 ≤ s.size ∧ s.size ≤ 64 ∧ s.size % 8 = 0
def uwOk (k s : ByteArray) : Prop := kOk k ∧ 24 ≤ s.size ∧ s.size ≤ 72 ∧ s.size % 8 = 0
instance (k s : ByteArray) : Decidable (wrOk k s) := inferInstanceAs (Decidable (_ ∧ _))
instance (k s : ByteArray) : Decidable (uwOk k s) := inferInstanceAs (Decidable (_ ∧ _))
/-- the wrap of a text of n parts, and what an unwrap's front and text are. -/
def wrG (L : ByteArray → ByteArray) (n : Nat) (s : ByteArray) : ByteArray := (wrF L n wrMk (ptZ s n) (6 * n)).1 ++ jnB (wrF L n wrMk (ptZ s n) (6 * n)).2 n
def upZ (s : ByteArray) (n j : Nat) : ByteArray := ptZ s (n + 1) (j + 1)
def uwP (U : ByteArray → ByteArray) (n : Nat) (s : ByteArray) : ByteArray × (Nat → ByteArray) := uwF U n (6 * n) (ptB s 0) (upZ s n) (6 * n)
theorem wr_parts (s : ByteArray) (n : Nat) (h : s.size = 8 * n) : Parts8 wrMk (ptZ s n) := ⟨rfl, ptZ_size s n h⟩
theorem uw_parts (s : ByteArray) (n : Nat) (h : s.size = 8 * (n + 1)) : Parts8 (ptB s 0) (upZ s n) := ⟨ptB_size s (n + 1) 0 h (by omega), fun j => ptZ_size s (n + 1) h _⟩
theorem wrG_size {L : ByteArray → ByteArray} (hL : ∀ b : ByteArray, b.size = 16 → (L b).size = 16) (n : Nat) (s : ByteArray) (h : s.size = 8 * n) : (wrG L n s).size = 8 * (n + 1) := by
  obtain ⟨h1, h2⟩ := wrF_8 hL n wrMk (ptZ s n) (wr_parts s n h) (6 * n)
  unfold wrG
  rw [ByteArray.size_append, h1, jnB_size _ h2]; omega
def consB (a : ByteArray) (r : Nat → ByteArray) : Nat → ByteArray
  | 0 => a
  | j + 1 => r j
theorem jn_cons (a : ByteArray) (r : Nat → ByteArray) : ∀ n, jnB (consB a r) (n + 1) = a ++ jnB r n
  | 0 => by
    show (⟨#[]⟩ : ByteArray) ++ a = a ++ ⟨#[]⟩
    exact (ByteArray.empty_append).trans (ByteArray.append_empty).symm
  | n + 1 => by
    show jnB (consB a r) (n + 1) ++ r n = a ++ (jnB r n ++ r n)
    rw [jn_cons a r n, ByteArray.append_assoc]
theorem uwF_ext {U : ByteArray → ByteArray} (n m : Nat) (a : ByteArray) {q r : Nat → ByteArray} (hn : 0 < n) (h : ∀ j, j < n → q j = r j) : ∀ k, (uwF U n m a q k).1 = (uwF U n m a r k).1 ∧ ∀ j, j < n → (uwF U n m a q k).2 j = (uwF U n m a r k).2 j
  | 0 => ⟨rfl, h⟩
  | k + 1 => by
    obtain ⟨h1, h2⟩ := uwF_ext n m a hn h k
    have h3 := h2 ((m - 1 - k) % n) (Nat.mod_lt _ hn)
    refine ⟨?_, fun j hj => ?_⟩
    · show hd8 (U (tuB (uwF U n m a q k).1 (m - k) ++ (uwF U n m a q k).2 ((m - 1 - k) % n))) = hd8 (U (tuB (uwF U n m a r k).1 (m - k) ++ (uwF U n m a r k).2 ((m - 1 - k) % n)))
      rw [h1, h3]
    · show setP (uwF U n m a q k).2 ((m - 1 - k) % n) (tl8 (U (tuB (uwF U n m a q k).1 (m - k) ++ (uwF U n m a q k).2 ((m - 1 - k) % n)))) j = setP (uwF U n m a r k).2 ((m - 1 - k) % n) (tl8 (U (tuB (uwF U n m a r k).1 (m - k) ++ (uwF U n m a r k).2 ((m - 1 - k) % n)))) j
      rw [h1, h3]
      unfold setP
      rw [h2 j hj]
/-- what is wrapped comes back. -/
theorem uw_wrG {L U : ByteArray → ByteArray} (hL : ∀ b : ByteArray, b.size = 16 → (L b).size = 16) (hUL : ∀ b : ByteArray, b.size = 16 → U (L b) = b) (n : Nat) (hn : 0 < n) (s : ByteArray) (h : s.size = 8 * n) :
    (uwP U n (wrG L n s)).1 = wrMk ∧ jnB (uwP U n (wrG L n s)).2 n = s := by
  obtain ⟨h1, h2⟩ := wrF_8 hL n wrMk (ptZ s n) (wr_parts s n h) (6 * n)
  have hc : ∀ j, (consB (wrF L n wrMk (ptZ s n) (6 * n)).1 (wrF L n wrMk (ptZ s n) (6 * n)).2 j).size = 8 := fun j => by cases j; exact h1; exact h2 _
  have hg : wrG L n s = jnB (consB (wrF L n wrMk (ptZ s n) (6 * n)).1 (wrF L n wrMk (ptZ s n) (6 * n)).2) (n + 1) := (jn_cons _ _ n).symm
  have e0 : ptB (wrG L n s) 0 = (wrF L n wrMk (ptZ s n) (6 * n)).1 := by rw [hg, jnB_part _ hc _ _ (by omega)]; rfl
  have e1 : ∀ j, j < n → upZ (wrG L n s) n j = (wrF L n wrMk (ptZ s n) (6 * n)).2 j := fun j hj => by
    unfold upZ
    rw [ptZ_at _ _ _ (by omega), hg, jnB_part _ hc _ _ (by omega)]; rfl
  have hu := uw_wr hL hUL n (6 * n) wrMk (ptZ s n) (wr_parts s n h) (6 * n) (Nat.le_refl _)
  rw [Nat.sub_self] at hu
  obtain ⟨q1, q2⟩ := uwF_ext (U := U) n (6 * n) (wrF L n wrMk (ptZ s n) (6 * n)).1 hn e1 (6 * n)
  unfold uwP
  rw [e0]
  rw [hu] at q1 q2
  refine ⟨q1, ?_⟩
  rw [jnB_ext q2]
  exact jnB_own s n h
theorem uw_step (U : ByteArray → ByteArray) (n : Nat) (a : ByteArray) (r : Nat → ByteArray) (m : Nat) (hm : m + 1 ≤ 6 * n) :
    uwF U n (6 * n) a r (6 * n - m) = (hd8 (U (tuB (uwF U n (6 * n) a r (6 * n - (m + 1))).1 (m + 1) ++ (uwF U n (6 * n) a r (6 * n - (m + 1))).2 (m % n))), setP (uwF U n (6 * n) a r (6 * n - (m + 1))).2 (m % n) (tl8 (U (tuB (uwF U n (6 * n) a r (6 * n - (m + 1))).1 (m + 1) ++ (uwF U n (6 * n) a r (6 * n - (m + 1))).2 (m % n))))) := by
  obtain ⟨j, hj⟩ : ∃ j, 6 * n - m = j + 1 := ⟨6 * n - m - 1, by omega⟩
  have e1 : 6 * n - (m + 1) = j := by omega
  have e2 : 6 * n - j = m + 1 := by omega
  have e3 : 6 * n - 1 - j = m := by omega
  rw [hj, e1]
  show (hd8 (U (tuB (uwF U n (6 * n) a r j).1 (6 * n - j) ++ (uwF U n (6 * n) a r j).2 ((6 * n - 1 - j) % n))), setP (uwF U n (6 * n) a r j).2 ((6 * n - 1 - j) % n) (tl8 (U (tuB (uwF U n (6 * n) a r j).1 (6 * n - j) ++ (uwF U n (6 * n) a r j).2 ((6 * n - 1 - j) % n))))) = _
  rw [e2, e3]
theorem fr_ne {x : ByteArray} (h : ¬ x = wrMk) : (x.toList == [166, 166, 166, 166, 166, 166, 166, 166]) = false := by
  rw [beq_eq_false_iff_ne]
  intro e
  apply h
  rw [ByteArray.toList_eq] at e
  exact ByteArray.ext (Array.ext' e)
/-- Wrap and Unwrap. -/
def wrT (k s : ByteArray) : ByteArray := if wrOk k s then wrG (lockT k) (s.size / 8) s else ⟨#[]⟩
def wrC (k s : ByteArray) : Int := if kOk k then (if wrOk k s then 0 else 5) else 3
def uwFit (k s : ByteArray) : Prop := uwOk k s ∧ (uwP (unlockT k) (s.size / 8 - 1) s).1 = wrMk
instance (k s : ByteArray) : Decidable (uwFit k s) := inferInstanceAs (Decidable (_ ∧ _))
def uwT (k s : ByteArray) : ByteArray := if uwFit k s then jnB (uwP (unlockT k) (s.size / 8 - 1) s).2 (s.size / 8 - 1) else ⟨#[]⟩
def uwC (k s : ByteArray) : Int := if kOk k then (if uwOk k s then (if uwFit k s then 0 else 7) else 5) else 3
theorem lock_16 (k b : ByteArray) (hk : kOk k) (hb : b.size = 16) : (lockT k b).size = 16 := by unfold lockT; rw [if_pos ⟨hk, hb⟩]; exact lockS_size _ _ _
theorem unlock_16 (k b : ByteArray) (hk : kOk k) (hb : b.size = 16) : (unlockT k b).size = 16 := by unfold unlockT; rw [if_pos ⟨hk, hb⟩]; exact unlockS_size _ _ _
theorem unlock_of_lock (k b : ByteArray) (hk : kOk k) (hb : b.size = 16) : unlockT k (lockT k b) = b := by
  have e : lockT k b = lockS (rkS k (k.size / 4)) (k.size / 4 + 6) b := if_pos ⟨hk, hb⟩
  rw [e]
  unfold unlockT
  rw [if_pos ⟨hk, lockS_size _ _ _⟩, unlock_lock _ _ _ hb]
theorem wrT_size (k s : ByteArray) (h : wrOk k s) : (wrT k s).size = s.size + 8 := by
  obtain ⟨hk, h1, h2, h3⟩ := h
  unfold wrT
  rw [if_pos ⟨hk, h1, h2, h3⟩, wrG_size (fun b hb => lock_16 k b hk hb) (s.size / 8) s (by omega)]; omega
theorem uw_wrT (k s : ByteArray) (h : wrOk k s) : uwFit k (wrT k s) ∧ uwT k (wrT k s) = s := by
  have hz := wrT_size k s h
  obtain ⟨hk, h1, h2, h3⟩ := h
  have hn : (wrT k s).size / 8 - 1 = s.size / 8 := by omega
  have hu := uw_wrG (fun b hb => lock_16 k b hk hb) (fun b hb => unlock_of_lock k b hk hb) (s.size / 8) (by omega) s (by omega)
  have hw : wrT k s = wrG (lockT k) (s.size / 8) s := by unfold wrT; rw [if_pos ⟨hk, h1, h2, h3⟩]
  have hf : uwFit k (wrT k s) := ⟨⟨hk, by omega, by omega, by omega⟩, by rw [hn, hw]; exact hu.1⟩
  refine ⟨hf, ?_⟩
  unfold uwT
  rw [if_pos hf, hn, hw]
  exact hu.2
theorem wrT_no (k s : ByteArray) (h : ¬ wrOk k s) : wrT k s = ⟨#[]⟩ := if_neg h
theorem uwT_no (k s : ByteArray) (h : ¬ uwFit k s) : uwT k s = ⟨#[]⟩ := if_neg h
theorem wrC_ok (k s : ByteArray) (h : wrOk k s) : wrC k s = 0 := by unfold wrC; rw [if_pos h.1, if_pos h]
theorem wrC_key (k s : ByteArray) (h : ¬ kOk k) : wrC k s = 3 := by unfold wrC; rw [if_neg h]
theorem wrC_len (k s : ByteArray) (hk : kOk k) (h : ¬ wrOk k s) : wrC k s = 5 := by unfold wrC; rw [if_pos hk, if_neg h]
theorem uwC_key (k s : ByteArray) (h : ¬ kOk k) : uwC k s = 3 := by unfold uwC; rw [if_neg h]
theorem uwC_len (k s : ByteArray) (hk : kOk k) (h : ¬ uwOk k s) : uwC k s = 5 := by unfold uwC; rw [if_pos hk, if_neg h]
theorem uwC_fit (k s : ByteArray) (h : uwFit k s) : uwC k s = 0 := by unfold uwC; rw [if_pos h.1.1, if_pos h.1, if_pos h]
theorem uwC_seal (k s : ByteArray) (h : uwOk k s) (hf : ¬ uwFit k s) : uwC k s = 7 := by unfold uwC; rw [if_pos h.1, if_pos h, if_neg hf]
theorem wrT_inj (k s t : ByteArray) (hs : wrOk k s) (ht : wrOk k t) (h : wrT k s = wrT k t) : s = t := by
  rw [← (uw_wrT k s hs).2, h, (uw_wrT k t ht).2]
end Go.Proofs.YtbfmbdohebdbaaaGreatDoor
set_option linter.unusedVariables false
set_option linter.unusedSimpArgs false
namespace Go.Proofs.YtbfmbdohebdbaaaGreatDoor
open Go Go.RowKit
attribute [local go_sem ↓] Go.wp_at_zero Go.wp_at_succ

theorem turned_impl (x : ByteArray) (k : Nat) (hx : x.size = 8) (hk : k ≤ 1000) (w : World) :
    Calls Tryz.prog 41 #[.string x, .int .i64 (k : Int)] w fun e w' => e = .returned (.string (tuB x (k + 1))) ∧ Below w.heap.size w w' := by
  have H1 := fun W => Lib.hid (PutWord_impl 0 W)
  have H2 := fun W => Lib.hid (PutWord_impl ((k : Int) + 1) W)
  have HX := fun W => Lib.hid (xor_impl x (tuN (k + 1)) W (by omega) (by rw [tuN_size]; omega))
  have e1 : tuN (k + 1) = putW (w32 0) ++ putW (w32 ((k : Int) + 1)) := by unfold tuN; rw [show ((k + 1 : Nat) : Int) = (k : Int) + 1 by omega]
  rw [show (⟨(xorOf x (tuN (k + 1))).toArray⟩ : ByteArray) = tuB x (k + 1) from rfl, e1] at HX
  have hcat : ¬ 9223372036854775807 < (putW (w32 0)).size + (putW (w32 ((k : Int) + 1))).size := by rw [putW_size, putW_size]; omega
  have q1 : IntKind.i64.wrap ((k : Int) + 1) = (k : Int) + 1 := IntWalk.i64_in _ (by omega)
  generalize tuB x (k + 1) = r at *
  clear e1
  generalize putW (w32 0) = a at *
  generalize putW (w32 ((k : Int) + 1)) = b at *
  clear hx hk
  go_enter Tryz.func41, Tryz.ntmps41
  go_wp2_with fail
  refine (H1 _).out.mono ?_; rintro e w1 ⟨rfl, hb1⟩
  go_wp2_with fail
  refine (H2 _).out.mono ?_; rintro e w2 ⟨rfl, hb2⟩
  have hb := hb1.trans (hb2.mono hb1.size)
  clear hb1 hb2
  go_wp2_with fail
  refine (HX _).out.mono ?_; rintro e w3 ⟨rfl, hb3⟩
  have hb4 := hb.trans (hb3.mono hb.size)
  clear hb hb3
  go_wp2
  go_ret
  exact ⟨rfl, hb4⟩

/-! ### wrapParts -/
theorem wk_yes (s : ByteArray) (h : kOk s) (w : World) : Calls Tryz.prog 55 #[.string s] w fun e w' => e = .returned (.bool true) ∧ w = w' := by
  have := KeyOk_impl s w; rwa [decide_eq_true h] at this
theorem wk_no (s : ByteArray) (h : ¬ kOk s) (w : World) : Calls Tryz.prog 55 #[.string s] w fun e w' => e = .returned (.bool false) ∧ w = w' := by
  have := KeyOk_impl s w; rwa [decide_eq_false h] at this
theorem slice_8 (s : ByteArray) (j : Nat) (h : 8 * j + 8 ≤ s.size) (hs : s.size ≤ 1048576) (W : World) : (Instr.slice 9 (.string s) (some (.int .i64 (8 * (j : Int)))) (some (.int .i64 (8 * (j : Int) + 8))) none).run Tryz.prog W = .ok (.string (ptB s j)) W := by
  have h1 := run_slice_string (P := Tryz.prog) W 9 s .i64 .i64 (8 * (j : Int)) (8 * (j : Int) + 8) Tryz.underlying9 (by omega) (by omega) (by omega)
  rw [h1]
  have e1 : (8 * (j : Int)).toNat = 8 * j := by omega
  have e2 : (8 * (j : Int) + 8).toNat = 8 * j + 8 := by omega
  rw [e1, e2]
  rfl
def PartsOut (w : World) (r : Nat → ByteArray) (n : Nat) (e : Ending) (w' : World) : Prop := ∃ g c, e = .returned (.tuple #[.slice (some ⟨g, 0, none⟩) n c, .nilIface]) ∧ n ≤ c ∧ c ≤ 9223372036854775807 ∧ w.heap.size ≤ g ∧ w'.ownsRow w.heap.size 9 1 (.slice (some ⟨g, 0, none⟩) n c) n ((upTo r n).map .string) ∧ Below w.heap.size w w'
def codeV (c : Int) : Value := .iface 73 (.int .i64 c)
set_option maxRecDepth 100000 in
set_option maxHeartbeats 1600000 in
theorem parts_key (key s : ByteArray) (hk : ¬ kOk key) (lo hi : Int) (w : World) :
    Calls Tryz.prog 38 #[.string key, .string s, .int .i64 lo, .int .i64 hi] w fun e w' => e = .returned (.tuple #[.slice none 0 0, codeV 3]) ∧ Below w.heap.size w w' := by
  have H1 := fun W => Lib.hid (wk_no key hk W)
  clear hk
  go_enter Tryz.func38, Tryz.ntmps38
  go_wp2
  go_step3
  go_wp2_with fail
  refine (H1 _).out.mono ?_; rintro e w1 ⟨rfl, rfl⟩
  go_wp2
  simp only [Exit.noGoto_ret]
  go_ret2
  exact ⟨rfl, Below.refl _ _⟩
set_option maxRecDepth 100000 in
set_option maxHeartbeats 3200000 in
theorem parts_ok (key s : ByteArray) (hk : kOk key) (n : Nat) (hn : 0 < n) (hs : s.size = 8 * n) (lo hi : Nat) (h1 : lo ≤ s.size) (h2 : s.size ≤ hi) (h3 : hi ≤ 1000) (w : World) :
    Calls Tryz.prog 38 #[.string key, .string s, .int .i64 (lo : Int), .int .i64 (hi : Int)] w fun e w' => PartsOut w (ptB s) n e w' := by
  obtain ⟨i0, hi0, hz0, hz1, hz2⟩ := info_parts Lk.infoS
  have H1 := fun W => Lib.hid (wk_yes key hk W)
  have c1 : ¬ (s.size : Int) < (lo : Int) := by omega
  have c2 : ¬ (hi : Int) < (s.size : Int) := by omega
  have HSL := fun j h W => Lib.hid (slice_8 s j h (by omega) W)
  have HS : Hid (s.size = 8 * n ∧ n ≤ 125) := Lib.hid ⟨hs, by omega⟩
  have hls : (s.size : Int) = 8 * (n : Int) := by omega
  have hn0 := hn
  clear hk h1 h2 h3 hs hn
  go_enter Tryz.func38, Tryz.ntmps38
  go_wp2
  go_step3
  go_wp2_with fail
  refine (H1 _).out.mono ?_; rintro e w1 ⟨rfl, rfl⟩
  go_wp2
  go_loopw [10, 11] (fun v a wr => ∃ j : Nat, j ≤ n ∧ a = .int .i64 (8 * (j : Int)) ∧ wr.ownsRow w.heap.size 9 1 v j ((upTo (ptB s) j).map .string) ∧ Below w.heap.size w wr) (fun _ a _ => 8 * n - (intOf a).toNat)
  case atStart => exact ⟨0, by omega, rfl, World.ownsRow_nil _ _ _ _, Below.refl _ _⟩
  case round =>
    obtain ⟨j, hj, rfl, hown, hbel⟩ := hrel
    by_cases hlt : j < n
    · have hj1 : 8 * (j : Int) < 8 * (n : Int) := by omega
      have hj0 : (0 : Int) ≤ (j : Int) := by omega
      have q1 : IntKind.i64.wrap (8 * (j : Int) + 8) = 8 * (j : Int) + 8 := IntWalk.i64_in _ (by have := HS.out; omega)
      have q2 : IntKind.i64.wrap (8 * (n : Int) - 8 * (j : Int)) = 8 * (n : Int) - 8 * (j : Int) := IntWalk.i64_in _ (by have := HS.out; omega)
      have q3 : ¬ 8 * (n : Int) - 8 * (j : Int) < 8 := by omega
      have hsl := fun W => (HSL j (by have := HS.out; omega) W).out
      have hjn : j ≤ 125 := by have := HS.out; omega
      obtain ⟨x, hx⟩ : ∃ x, ptB s j = x := ⟨_, rfl⟩
      have HXX := Lib.hid hx
      rw [hx] at hsl
      have hle := hown.1
      clear HSL hx
      go_wp2_with (at_builtin; refine stp ?_)
      refine unstp ?_
      refine wpList_append_lies _ rfl (.tmp 37) (.tmp 43) 46 rfl w.heap.size 9 i0 (.string ByteArray.empty) 1 16 Tryz.underlying46 hi0 hz0 hz1 hz2 rfl (by decide) u10 j ((upTo (ptB s) j).map .string) rfl (hown.alloc _) ⟨wr.heap.size, 0, none⟩ 1 1 [.string x] rfl rfl (World.news_of_block (cs := #[.string x]) (heap_alloc_new wr _)) (by simp [Value.oneCell']) (by omega) (by unfold maxLen; omega) (by omega) (by have := hbel.size; simp; omega) (wr.heap.size + 1) (by simp) ?_
      intro g cap w1 hown3 hgrow hat hlt3
      have hb1 := Lk.below_append hown hbel hgrow
      have hown4 : w1.ownsRow w.heap.size 9 1 (.slice (some ⟨g, 0, none⟩) (j + 1) cap) (j + 1) ((upTo (ptB s) (j + 1)).map .string) := by
        rw [upTo_succ, List.map_append, HXX.out]; exact hown3
      have HO := Lib.hid hown4
      have HB := Lib.hid hb1
      clear hown hbel hown3 hgrow hat hlt3 hown4 hb1 hle
      go_wp2
      go_roundw
      case rel => exact ⟨j + 1, by omega, by go_num, HO.out, HB.out⟩
      case measure => simp [intOf]; omega
    · obtain rfl : j = n := by omega
      obtain ⟨g, c, rfl, hgB, hg⟩ := hown.form hn0
      obtain ⟨cur, -, hcap1, hcap2, -⟩ := own_cap hown
      have HO := Lib.hid hown
      have HB := Lib.hid hbel
      clear hown hbel HSL hg
      go_wp2
      simp only [Exit.noGoto_ret]
      go_ret2
      exact ⟨g, c, rfl, hcap1, hcap2, hgB, HO.out, HB.out⟩
set_option maxRecDepth 100000 in
set_option maxHeartbeats 3200000 in
theorem parts_len (key s : ByteArray) (hk : kOk key) (lo hi : Nat) (h : ¬ (lo ≤ s.size ∧ s.size ≤ hi ∧ s.size % 8 = 0)) (h3 : hi ≤ 1000) (h4 : s.size ≤ 1048576) (w : World) :
    Calls Tryz.prog 38 #[.string key, .string s, .int .i64 (lo : Int), .int .i64 (hi : Int)] w fun e w' => e = .returned (.tuple #[.slice none 0 0, codeV 5]) ∧ Below w.heap.size w w' := by
  obtain ⟨i0, hi0, hz0, hz1, hz2⟩ := info_parts Lk.infoS
  have H1 := fun W => Lib.hid (wk_yes key hk W)
  have HSL := fun j h W => Lib.hid (slice_8 s j h (by omega) W)
  have HH := Lib.hid h
  have H4 := Lib.hid h4
  have H3 := Lib.hid h3
  clear hk h h3 h4
  go_enter Tryz.func38, Tryz.ntmps38
  go_wp2
  refine wp_scope_jumps 0 (fun a' w' => Below w.heap.size w w' ∧ ∃ (u0 u1 u2 u3 u4 u5 u6 u7 u8 u9 u10 u11 u12 u13 u14 u15 u16 u17 u18 u19 u20 u21 u22 u23 u24 u25 u26 u27 u28 u29 u30 u31 u32 u33 u34 u35 u36 u37 u38 u39 u40 u41 u42 u43 u44 u45 u46 : Value), a' = { tmps := #[u0, u1, u2, u3, u4, u5, u6, u7, u8, u9, u10, u11, u12, u13, u14, u15, u16, u17, u18, u19, u20, u21, u22, u23, u24, u25, u26, u27, u28, u29, u30, u31, u32, u33, u34, u35, u36, u37, u38, u39, u40, u41, u42, u43, u44, u45, u46], defers := [] }) (fun _ _ => 0) rfl ?_ ?_
  · go_wp2_with fail
    refine (H1 _).out.mono ?_; rintro e w1 ⟨rfl, rfl⟩
    by_cases c1 : s.size < lo
    · have d1 : (s.size : Int) < (lo : Int) := by omega
      go_wp2
      go_step3
      exact ⟨rfl, Below.refl _ _, _, _, _, _, _, _, _, _, _, _, _, _, _, _, _, _, _, _, _, _, _, _, _, _, _, _, _, _, _, _, _, _, _, _, _, _, _, _, _, _, _, _, _, _, _, _, _, rfl⟩
    · have d1 : ¬ (s.size : Int) < (lo : Int) := by omega
      by_cases c2 : hi < s.size
      · have d2 : (hi : Int) < (s.size : Int) := by omega
        go_wp2
        go_step3
        exact ⟨rfl, Below.refl _ _, _, _, _, _, _, _, _, _, _, _, _, _, _, _, _, _, _, _, _, _, _, _, _, _, _, _, _, _, _, _, _, _, _, _, _, _, _, _, _, _, _, _, _, _, _, _, _, rfl⟩
      · have d2 : ¬ (hi : Int) < (s.size : Int) := by omega
        obtain ⟨n, hn⟩ : ∃ n, s.size / 8 = n := ⟨_, rfl⟩
        have HN : Hid (8 * n < s.size ∧ s.size < 8 * n + 8 ∧ n ≤ 125) := Lib.hid (by have := HH.out; have := H3.out; omega)
        have b1 : decide (s.size < lo) = false := decide_eq_false c1
        have b2 : decide (hi < s.size) = false := decide_eq_false c2
        clear HH hn
        go_wp2
        go_loopw [10, 11] (fun v a wr => ∃ j : Nat, j ≤ n ∧ a = .int .i64 (8 * (j : Int)) ∧ wr.ownsRow w.heap.size 9 1 v j ((upTo (ptB s) j).map .string) ∧ Below w.heap.size w wr) (fun _ a _ => 8 * n + 8 - (intOf a).toNat)
        case atStart => exact ⟨0, by omega, rfl, World.ownsRow_nil _ _ _ _, Below.refl _ _⟩
        case round =>
          obtain ⟨j, hj, rfl, hown, hbel⟩ := hrel
          have hj1 : 8 * (j : Int) < (s.size : Int) := by have := HN.out; omega
          have hj0 : (0 : Int) ≤ (j : Int) := by omega
          have q2 : IntKind.i64.wrap ((s.size : Int) - 8 * (j : Int)) = (s.size : Int) - 8 * (j : Int) := IntWalk.i64_in _ (by have := HN.out; omega)
          by_cases hlt : j < n
          · have q1 : IntKind.i64.wrap (8 * (j : Int) + 8) = 8 * (j : Int) + 8 := IntWalk.i64_in _ (by have := HN.out; omega)
            have q3 : ¬ (s.size : Int) - 8 * (j : Int) < 8 := by have := HN.out; omega
            have hsl := fun W => (HSL j (by have := HN.out; omega) W).out
            have hjn : j ≤ 125 := by have := HN.out; omega
            obtain ⟨x, hx⟩ : ∃ x, ptB s j = x := ⟨_, rfl⟩
            have HXX := Lib.hid hx
            rw [hx] at hsl
            have hle := hown.1
            clear HSL hx
            go_wp2_with (at_builtin; refine stp ?_)
            refine unstp ?_
            refine wpList_append_lies _ rfl (.tmp 37) (.tmp 43) 46 rfl w.heap.size 9 i0 (.string ByteArray.empty) 1 16 Tryz.underlying46 hi0 hz0 hz1 hz2 rfl (by decide) u10 j ((upTo (ptB s) j).map .string) rfl (hown.alloc _) ⟨wr.heap.size, 0, none⟩ 1 1 [.string x] rfl rfl (World.news_of_block (cs := #[.string x]) (heap_alloc_new wr _)) (by simp [Value.oneCell']) (by omega) (by unfold maxLen; omega) (by omega) (by have := hbel.size; simp; omega) (wr.heap.size + 1) (by simp) ?_
            intro g cap w1 hown3 hgrow hat hlt3
            have hb1 := Lk.below_append hown hbel hgrow
            have hown4 : w1.ownsRow w.heap.size 9 1 (.slice (some ⟨g, 0, none⟩) (j + 1) cap) (j + 1) ((upTo (ptB s) (j + 1)).map .string) := by
              rw [upTo_succ, List.map_append, HXX.out]; exact hown3
            have HO := Lib.hid hown4
            have HB := Lib.hid hb1
            clear hown hbel hown3 hgrow hat hlt3 hown4 hb1 hle
            go_wp2
            go_roundw
            case rel => exact ⟨j + 1, by omega, by go_num, HO.out, HB.out⟩
            case measure => simp [intOf]; omega
          · have q3 : (s.size : Int) - 8 * (j : Int) < 8 := by have := HN.out; omega
            clear HSL hown
            go_wp2
            go_step3
            exact ⟨rfl, hbel, _, _, _, _, _, _, _, _, _, _, _, _, _, _, _, _, _, _, _, _, _, _, _, _, _, _, _, _, _, _, _, _, _, _, _, _, _, _, _, _, _, _, _, _, _, _, _, rfl⟩
  · rintro a' w' ⟨hb, u0, u1, u2, u3, u4, u5, u6, u7, u8, u9, u10, u11, u12, u13, u14, u15, u16, u17, u18, u19, u20, u21, u22, u23, u24, u25, u26, u27, u28, u29, u30, u31, u32, u33, u34, u35, u36, u37, u38, u39, u40, u41, u42, u43, u44, u45, u46, rfl⟩
    go_wp2
    simp only [Exit.jump]
    go_ret2
    exact ⟨rfl, hb⟩
end Go.Proofs.YtbfmbdohebdbaaaGreatDoor
set_option linter.unusedVariables false
set_option linter.unusedSimpArgs false
namespace Go.Proofs.YtbfmbdohebdbaaaGreatDoor
open Go Go.RowKit
attribute [local go_sem ↓] Go.wp_at_zero Go.wp_at_succ

theorem up_set (r : Nat → ByteArray) (n i : Nat) (x : ByteArray) : ((upTo r n).map Value.string).set i (.string x) = (upTo (setP r i x) n).map Value.string := by
  apply List.ext_getElem?
  intro j
  by_cases hj : j < n
  · rw [List.getElem?_map, upTo_at _ _ _ hj, List.getElem?_set]
    by_cases e : i = j
    · subst e
      rw [if_pos rfl, if_pos (by rw [List.length_map, upTo_length]; exact hj)]
      exact congrArg (fun z => some (Value.string z)) (setP_at r i x).symm
    · rw [if_neg e, List.getElem?_map, upTo_at _ _ _ hj]
      exact congrArg (fun z => some (Value.string z)) (if_neg (fun h => e h.symm)).symm
  · rw [List.getElem?_eq_none (by rw [List.length_set, List.length_map, upTo_length]; omega), List.getElem?_eq_none (by rw [List.length_map, upTo_length]; omega)]
theorem join_flat : ∀ l : List (List UInt8), Lib.join l [] = l.flatten
  | [] => rfl
  | x :: r => by rw [Lib.join_cons]; unfold Lib.joinTail; simp
theorem jn_flat (r : Nat → ByteArray) : ∀ n, ((upTo r n).map (·.data.toList)).flatten = (jnB r n).data.toList
  | 0 => rfl
  | n + 1 => by
    rw [upTo_succ, List.map_append, List.flatten_append, jn_flat r n]
    show _ = (jnB r n ++ r n).data.toList
    rw [ByteArray.data_append, Array.toList_append]
    simp
theorem jn_join (r : Nat → ByteArray) (n : Nat) : (⟨(Lib.join ((upTo r n).map (·.data.toList)) (ByteArray.data ⟨#[]⟩).toList).toArray⟩ : ByteArray) = jnB r n := by
  rw [show (ByteArray.data ⟨#[]⟩).toList = [] from rfl, join_flat, jn_flat]
theorem upTo_cons (a : ByteArray) (r : Nat → ByteArray) (n : Nat) : upTo (consB a r) (n + 1) = a :: upTo r n := by
  induction n with
  | zero => rfl
  | succ n ih => rw [upTo_succ, ih, upTo_succ r n]; rfl
theorem join_impl (B g o n c : Nat) (r : Nat → ByteArray) (hr : ∀ j, (r j).size = 8) (hn : n ≤ 1000) (w : World) (hg : g < w.heap.size) (hc : n ≤ c) (hcell : ∀ j, j < n → w.cell? ⟨g, o + j, none⟩ = some (.string (r j))) :
    Calls Tryz.prog 42 #[.slice (some ⟨g, o, none⟩) n c, .string ⟨#[]⟩] w fun e w' => e = .returned (.string (jnB r n)) ∧ Below w.heap.size w w' := by
  have h := Tryz.strings_Join g o c (upTo r n) ⟨#[]⟩ w (fun j x hx => by
      rcases Nat.lt_or_ge j n with hj | hj
      · rw [upTo_at _ _ _ hj] at hx
        cases hx
        exact hcell j hj
      · rw [List.getElem?_eq_none (by rw [upTo_length]; omega)] at hx; cases hx) hg (by rw [upTo_length]; omega) (by rw [upTo_length]; omega) (by
      rw [show (ByteArray.data ⟨#[]⟩).toList = [] from rfl, join_flat, jn_flat]
      have := jnB_size r hr n
      have e : (jnB r n).data.toList.length = (jnB r n).size := rfl
      omega)
  rw [jn_join, upTo_length] at h
  exact h
theorem to_8 (s : ByteArray) (h : s.size = 16) (W : World) :
    (Instr.slice 9 (.string s) none (some (.int .i64 8)) none).run Tryz.prog W = .ok (.string (hd8 s)) W := by
  rw [run_slice_string_h (P := Tryz.prog) W 9 s Tryz.underlying9 .i64 _ (by omega) (by omega)]
  rfl
theorem from_8 (s : ByteArray) (h : s.size = 16) (W : World) :
    (Instr.slice 9 (.string s) (some (.int .i64 8)) none none).run Tryz.prog W = .ok (.string (tl8 s)) W := by
  rw [run_slice_string_l (P := Tryz.prog) W 9 s Tryz.underlying9 .i64 _ (by omega) (by omega)]
  rfl
theorem own_setS {w : World} {B g n c i : Nat} {r : Nat → ByteArray} {x : ByteArray} (h : w.ownsRow B 9 1 (.slice (some ⟨g, 0, none⟩) n c) n ((upTo r n).map .string)) :
    (w.setCell ⟨g, i, none⟩ (.string x)).ownsRow B 9 1 (.slice (some ⟨g, 0, none⟩) n c) n ((upTo (setP r i x) n).map .string) := by
  have := (h.stored i (.string x)).1
  rw [up_set] at this
  exact this
theorem mod_fact (k n p : Nat) (h : k % n = p) : ((k : Int)).tmod (n : Int) = (p : Int) := by
  rw [Int.tmod_eq_emod_of_nonneg (by omega)]; omega

end Go.Proofs.YtbfmbdohebdbaaaGreatDoor
set_option linter.unusedVariables false
set_option linter.unusedSimpArgs false
namespace Go.Proofs.YtbfmbdohebdbaaaGreatDoor
open Go Go.RowKit
attribute [local go_sem ↓] Go.wp_at_zero Go.wp_at_succ

theorem turned_spec (x : ByteArray) (k : Nat) (hx : x.size = 8) (w : World) :
    Calls Tryz.prog 29 #[.string x, .int .i64 (k : Int)] w fun e w' => e = .returned (.string (tuB x k)) ∧ Below w.heap.size w w' := by
  have H2 := fun W => Lib.hid (PutWord_spec (k : Int) W)
  have HX := fun W => Lib.hid (xor_spec x (tuN k) W (by omega) (by rw [tuN_size]; omega))
  have e1 : tuN k = (⟨#[0, 0, 0, 0]⟩ : ByteArray) ++ putW (w32 (k : Int)) := rfl
  rw [show (⟨(xorOf x (tuN k)).toArray⟩ : ByteArray) = tuB x k from rfl, e1] at HX
  have hcat : ¬ 9223372036854775807 < (⟨#[0, 0, 0, 0]⟩ : ByteArray).size + (putW (w32 (k : Int))).size := by rw [putW_size]; show ¬ _ < 4 + 4; omega
  generalize tuB x k = r at *
  clear e1
  generalize putW (w32 (k : Int)) = b at *
  clear hx
  go_enter Tryz.func29, Tryz.ntmps29
  go_wp2_with fail
  refine (H2 _).out.mono ?_; rintro e w1 ⟨rfl, hb1⟩
  go_wp2_with fail
  refine (HX _).out.mono ?_; rintro e w2 ⟨rfl, hb2⟩
  have hb := hb1.trans (hb2.mono hb1.size)
  clear hb1 hb2
  go_wp2
  go_ret
  exact ⟨rfl, hb⟩
theorem specKey_yes (s : ByteArray) (h : kOk s) (w : World) : Calls Tryz.prog 26 #[.string s] w fun e w' => e = .returned (.bool true) ∧ w = w' := by
  have := KeyOk_spec s w; rwa [decide_eq_true h] at this
theorem specKey_no (s : ByteArray) (h : ¬ kOk s) (w : World) : Calls Tryz.prog 26 #[.string s] w fun e w' => e = .returned (.bool false) ∧ w = w' := by
  have := KeyOk_spec s w; rwa [decide_eq_false h] at this
theorem rem8 (s : ByteArray) : ((s.size : Int)).tmod 8 = ((s.size % 8 : Nat) : Int) := by rw [Int.tmod_eq_emod_of_nonneg (by omega)]; omega
theorem quo8 (s : ByteArray) : ((s.size : Int)).tdiv 8 = ((s.size / 8 : Nat) : Int) := by rw [Int.tdiv_eq_ediv_of_nonneg (by omega)]; omega
theorem empty_texts (w : World) : (w.alloc (.cells #[] 9)).ownsRow w.heap.size 9 1 (.slice (some ⟨w.heap.size, 0, none⟩) 0 0) 0 [] :=
  World.ownsRow_lit w #[] 0 (Nat.le_refl _) (by simp [maxLen]) rfl
set_option maxRecDepth 100000 in
theorem sWrap_key (key s : ByteArray) (hk : ¬ kOk key) (w : World) :
    Calls Tryz.prog 11 #[.string key, .string s] w fun e w' => e = .returned (.tuple #[.string ⟨#[]⟩, .int .i64 3]) ∧ Below w.heap.size w w' := by
  have H1 := fun W => Lib.hid (specKey_no key hk W)
  clear hk
  go_enter Tryz.func11, Tryz.ntmps11
  go_wp2_with fail
  refine (H1 _).out.mono ?_; rintro e w1 ⟨rfl, rfl⟩
  go_wp2
  go_ret2
  exact ⟨rfl, Below.refl _ _⟩
set_option maxRecDepth 100000 in
theorem sWrap_len (key s : ByteArray) (hk : kOk key) (h : ¬ wrOk key s) (w : World) :
    Calls Tryz.prog 11 #[.string key, .string s] w fun e w' => e = .returned (.tuple #[.string ⟨#[]⟩, .int .i64 5]) ∧ Below w.heap.size w w' := by
  have H1 := fun W => Lib.hid (specKey_yes key hk W)
  by_cases h2 : 16 ≤ (s.size : Int) ∧ (s.size : Int) ≤ 64
  · have H2 := fun W => Lib.hid (in_yes (s.size : Int) 16 64 h2 W)
    have h8 : ¬ s.size % 8 = 0 := fun x => h ⟨hk, by omega, by omega, x⟩
    have hr := rem8 s
    obtain ⟨q, hq⟩ : ∃ q, s.size % 8 = q := ⟨_, rfl⟩
    rw [hq] at hr h8
    have h9 : ¬ (q : Int) = 0 := by omega
    clear hk h h2 h8 hq
    go_enter Tryz.func11, Tryz.ntmps11
    go_wp2_with fail
    refine (H1 _).out.mono ?_; rintro e w1 ⟨rfl, rfl⟩
    go_wp2_with fail
    refine (H2 _).out.mono ?_; rintro e w1 ⟨rfl, rfl⟩
    go_wp2
    go_ret2
    exact ⟨rfl, Below.refl _ _⟩
  · have H2 := fun W => Lib.hid (in_no (s.size : Int) 16 64 h2 W)
    clear hk h h2
    go_enter Tryz.func11, Tryz.ntmps11
    go_wp2_with fail
    refine (H1 _).out.mono ?_; rintro e w1 ⟨rfl, rfl⟩
    go_wp2_with fail
    refine (H2 _).out.mono ?_; rintro e w1 ⟨rfl, rfl⟩
    go_wp2
    go_ret2
    exact ⟨rfl, Below.refl _ _⟩
set_option maxRecDepth 100000 in
set_option maxHeartbeats 4000000 in
theorem sWrap_ok (key s : ByteArray) (n : Nat) (h : wrOk key s) (hn : s.size = 8 * n) (w : World) :
    Calls Tryz.prog 11 #[.string key, .string s] w fun e w' => e = .returned (.tuple #[.string (wrG (lockT key) n s), .int .i64 0]) ∧ Below w.heap.size w w' := by
  obtain ⟨i0, hi0, hz0, hz1, hz2⟩ := info_parts Lk.infoS
  obtain ⟨hk, h1, h2, h3⟩ := h
  have H1 := fun W => Lib.hid (specKey_yes key hk W)
  have H2 := fun W => Lib.hid (in_yes (s.size : Int) 16 64 ⟨by omega, by omega⟩ W)
  have hr := rem8 s
  rw [h3] at hr
  have hqn := quo8 s
  rw [show s.size / 8 = n by omega] at hqn
  have hL : ∀ b : ByteArray, b.size = 16 → (lockT key b).size = 16 := fun b hb => lock_16 key b hk hb
  have HT : Hid (∀ b W, Calls Tryz.prog 28 #[.string key, .string b] W fun e w' => e = .returned (.string (lockT key b)) ∧ Below W.heap.size W w') := Lib.hid fun b W => Lock_spec key b W
  obtain ⟨F, hF⟩ : ∃ F, wrF (lockT key) n wrMk (ptZ s n) = F := ⟨_, rfl⟩
  have hF0 : F 0 = (wrMk, ptZ s n) := by rw [← hF]; rfl
  have hFs : ∀ k, F (k + 1) = (tuB (hd8 (lockT key ((F k).1 ++ (F k).2 (k % n)))) (k + 1), setP (F k).2 (k % n) (tl8 (lockT key ((F k).1 ++ (F k).2 (k % n))))) := fun k => by rw [← hF]; rfl
  have hF8 : ∀ k, Parts8 (F k).1 (F k).2 := fun k => by rw [← hF]; exact wrF_8 hL n _ _ (wr_parts s n hn) k
  have hG : wrG (lockT key) n s = (F (6 * n)).1 ++ jnB (F (6 * n)).2 n := by rw [← hF]; rfl
  rw [hG]
  obtain ⟨q, hq⟩ : ∃ q, ptZ s n = q := ⟨_, rfl⟩
  have HSL : ∀ j, j < n → ∀ W, Hid ((Instr.slice 9 (.string s) (some (.int .i64 (8 * (j : Int)))) (some (.int .i64 (8 * (j : Int) + 8))) none).run Tryz.prog W = .ok (.string (q j)) W) := fun j hj W => Lib.hid (by rw [← hq, ptZ_at s n j hj]; exact slice_8 s j (by omega) (by omega) W)
  have H0 : Hid ((F 0).2 = q) := Lib.hid (by rw [hF0]; exact hq)
  have HF0 : Hid ((F 0).1 = wrMk) := Lib.hid (by rw [hF0])
  have HFS := Lib.hid hFs
  have HF8 := Lib.hid hF8
  have HL16 := Lib.hid hL
  have HN : Hid (2 ≤ n ∧ n ≤ 8) := Lib.hid ⟨by omega, by omega⟩
  have qn : IntKind.i64.wrap (n : Int) = (n : Int) := IntWalk.i64_in _ (by omega)
  generalize lockT key = L at *
  clear hF hF0 hFs hF8 hL hG hk h1 h2 h3 hn hq
  go_enter Tryz.func11, Tryz.ntmps11
  go_wp2_with fail
  refine (H1 _).out.mono ?_; rintro e w1 ⟨rfl, rfl⟩
  go_wp2_with fail
  refine (H2 _).out.mono ?_; rintro e w1 ⟨rfl, rfl⟩
  go_wp2
  go_loopw [8, 9] (fun v i wr => ∃ j : Nat, j ≤ n ∧ i = .int .i64 (j : Int) ∧ wr.ownsRow w.heap.size 9 1 v j ((upTo q j).map .string) ∧ Below w.heap.size w wr) (fun _ i _ => n - (intOf i).toNat)
  case atStart => exact ⟨0, by omega, rfl, empty_texts w, (Below.refl _ _).alloc (Nat.le_refl _) _⟩
  case round =>
    obtain ⟨j, hj, rfl, hown, hbel⟩ := hrel
    by_cases hlt : j < n
    · have hj1 : (j : Int) < (n : Int) := by omega
      have hjb : j ≤ 8 := by have := HN.out; omega
      have q0 : IntKind.i64.wrap (8 * (j : Int)) = 8 * (j : Int) := IntWalk.i64_in _ (by omega)
      have q1 : IntKind.i64.wrap (8 * (j : Int) + 8) = 8 * (j : Int) + 8 := IntWalk.i64_in _ (by omega)
      have hsl := fun W => (HSL j hlt W).out
      obtain ⟨x, hx⟩ : ∃ x, q j = x := ⟨_, rfl⟩
      have HXX := Lib.hid hx
      simp only [hx] at hsl
      clear hx HSL
      go_wp2_with (at_builtin; refine stp ?_)
      refine unstp ?_
      refine wpList_append_lies _ rfl (.tmp 35) (.tmp 43) 46 rfl w.heap.size 9 i0 (.string ByteArray.empty) 1 16 Tryz.underlying46 hi0 hz0 hz1 hz2 rfl (by decide) u8 j ((upTo q j).map .string) rfl (hown.alloc _) ⟨wr.heap.size, 0, none⟩ 1 1 [.string x] rfl rfl (World.news_of_block (cs := #[.string x]) (heap_alloc_new wr _)) (by simp [Value.oneCell']) (by omega) (by unfold maxLen; omega) (by omega) (by have := hbel.size; simp; omega) (wr.heap.size + 1) (by simp) ?_
      intro g cap w1 hown3 hgrow hat hlt3
      have hb1 := Lk.below_append hown hbel hgrow
      have hown4 : w1.ownsRow w.heap.size 9 1 (.slice (some ⟨g, 0, none⟩) (j + 1) cap) (j + 1) ((upTo q (j + 1)).map .string) := by
        rw [upTo_succ, List.map_append, HXX.out]; exact hown3
      have HO := Lib.hid hown4
      have HB := Lib.hid hb1
      clear hown hbel hown3 hgrow hat hlt3 hown4 hb1
      go_wp2
      go_roundw
      case rel => exact ⟨j + 1, by omega, by go_num, HO.out, HB.out⟩
      case measure => simp [intOf]; omega
    · obtain rfl : j = n := by omega
      have hj1 : ¬ (j : Int) < (j : Int) := by omega
      obtain ⟨g, c, rfl, hgB, hg⟩ := hown.form (by have := HN.out; omega)
      have q6 : IntKind.i64.wrap (6 * (j : Int)) = 6 * (j : Int) := IntWalk.i64_in _ (by have := HN.out; omega)
      rw [← H0.out] at hown
      have HO1 := Lib.hid hown
      have HB1 := Lib.hid hbel
      clear hown hbel HSL hg H1 H2
      go_wp2
      go_loopw [7, 10, 11] (fun f i _ wr => ∃ k : Nat, k ≤ 6 * j ∧ i = .int .i64 (k : Int) ∧ f = .string (F k).1 ∧ wr.ownsRow w.heap.size 9 1 (.slice (some ⟨g, 0, none⟩) j c) j ((upTo (F k).2 j).map .string) ∧ Below w.heap.size w wr) (fun _ i _ _ => 6 * j - (intOf i).toNat)
      case atStart => exact ⟨0, by omega, rfl, by rw [HF0.out]; rfl, HO1.out, HB1.out⟩
      case round =>
        obtain ⟨k, hk, rfl, rfl, hown, hbel⟩ := hrel
        by_cases hlt2 : k < 6 * j
        · have hk1 : (k : Int) < 6 * (j : Int) := by omega
          have hkb : k ≤ 48 := by have := HN.out; omega
          obtain ⟨p, hp⟩ : ∃ p, k % j = p := ⟨_, rfl⟩
          have hpn : p < j := by rw [← hp]; exact Nat.mod_lt _ (by have := HN.out; omega)
          have hrem := mod_fact k j p hp
          have hn0 : ¬ (j : Int) = 0 := by have := HN.out; omega
          have hnz : ¬ j = 0 := by have := HN.out; omega
          have hp0 : (0 : Int) ≤ (p : Int) := by omega
          have hp1 : (p : Int) < (j : Int) := by omega
          have hcell := cell_texts hown p hpn
          obtain ⟨s1, s2⟩ := HF8.out k
          have hstep := HFS.out k
          rw [hp] at hstep
          obtain ⟨y, hy⟩ : ∃ y, (F k).2 p = y := ⟨_, rfl⟩
          have y8 : y.size = 8 := by rw [← hy]; exact s2 p
          rw [hy] at hcell hstep
          obtain ⟨r, hr⟩ : ∃ r, (F k).2 = r := ⟨_, rfl⟩
          rw [hr] at hown hstep
          obtain ⟨a, ha⟩ : ∃ a, (F k).1 = a := ⟨_, rfl⟩
          rw [ha] at s1 hstep
          rw [ha]
          have hcat : ¬ 9223372036854775807 < a.size + y.size := by omega
          have hx16 : (a ++ y).size = 16 := by rw [ByteArray.size_append, s1, y8]
          obtain ⟨x, hx⟩ : ∃ x, a ++ y = x := ⟨_, rfl⟩
          rw [hx] at hx16 hstep
          have HX := Lib.hid hx
          have hz16 := HL16.out x hx16
          have HTK := fun W => Lib.hid (HT.out x W)
          obtain ⟨z, hz⟩ : ∃ z, L x = z := ⟨_, rfl⟩
          simp only [hz] at HTK
          rw [hz] at hz16 hstep
          have HTU := fun W => Lib.hid (turned_spec (hd8 z) (k + 1) (hd8_size z hz16) W)
          rw [show ((k + 1 : Nat) : Int) = (k : Int) + 1 by omega] at HTU
          have sl1 := to_8 z hz16
          have sl2 := from_8 z hz16
          have q7 : IntKind.i64.wrap ((k : Int) + 1) = (k : Int) + 1 := IntWalk.i64_in _ (by omega)
          have HST := Lib.hid hstep
          have HOW := Lib.hid hown
          have HBE := Lib.hid hbel
          generalize hd8 z = zh at *
          generalize tl8 z = zt at *
          generalize tuB zh (k + 1) = tu at *
          clear hown hbel hstep hx hz hy hr ha HT HFS HF8 HL16 hp y8 s1 s2 hz16 hx16 HO1 HB1
          go_wp2_with fail
          rw [HX.out]
          refine (HTK _).out.mono ?_; rintro e w3 ⟨rfl, hb3⟩
          have ho3 := own_texts_below HOW.out hb3
          have hB3 := HBE.out.trans (hb3.mono HBE.out.size)
          clear hb3 HTK hcell
          go_wp2_with fail
          refine (HTU _).out.mono ?_; rintro e w4 ⟨rfl, hb4⟩
          have ho4 := own_texts_below ho3 hb4
          have hB4 := hB3.trans (hb4.mono hB3.size)
          have hc4 := cell_texts ho4 p hpn
          have hf4 := ho4.frozenAt p
          clear hb4 ho3 hB3
          go_wp2
          refine wp_region_held_drew (S := fun _ => True) (by kernel_rfl) trivial (fun hS => ?_)
          refine tk 0 (v := ?_) ?_ trivial ?_
          rotate_left
          · intro w hSw
            go_simp
            first | done | with_reducible rfl
          try simp only [lay]
          refine tk 1 (v := ?_) ?_ trivial ?_
          rotate_left
          · intro w hSw
            go_simp
            first | done | with_reducible rfl
          try simp only [lay]
          refine tk 2 (v := ?_) ?_ trivial ?_
          rotate_left
          · intro w hSw
            go_simp
            first | done | with_reducible rfl
          try simp only [lay]
          refine tk 3 (v := ?_) ?_ trivial ?_
          rotate_left
          · intro w hSw
            go_simp
            first | done | with_reducible rfl
          try simp only [lay]
          refine tk 4 (v := ?_) ?_ trivial ?_
          rotate_left
          · intro w hSw
            go_simp
            first | done | with_reducible rfl
          try simp only [lay]
          refine tk 5 (v := ?_) ?_ trivial ?_
          rotate_left
          · intro w hSw
            go_simp
            first | done | with_reducible rfl
          try simp only [lay]
          refine tk 6 (v := ?_) ?_ trivial ?_
          rotate_left
          · intro w hSw
            go_simp
            first | done | with_reducible rfl
          try simp only [lay]
          refine wpAnyH_ready (rs := [7]) (by kernel_rfl) (by simp) ?_
          refine AllReadyH.cons rfl (fun K hK => ?_) AllReadyH.nil
          go_simp
          refine hK.out _ _ trivial (fun _ => ?_)
          clear hK K
          try simp only [lay]
          refine wpAnyH_done (by kernel_rfl) ?_ _
          have ho5 := own_setS (w := w4.drew) (i := p) (x := zt) ho4
          have hB5 : Below w.heap.size w (w4.drew.setCell ⟨g, p, none⟩ (.string zt)) := hB4.drew.setCell hgB _
          have HO5 := Lib.hid ho5
          have HB5 := Lib.hid hB5
          clear ho5 hB5 ho4 hB4 hc4 hf4 sl1 sl2 HTU
          go_wp2
          go_roundw
          case rel => exact ⟨k + 1, by omega, by go_num, by rw [HST.out], by rw [HST.out]; exact HO5.out, HB5.out⟩
          case measure => simp [intOf]; omega
        · obtain rfl : k = 6 * j := by omega
          have s12 := HF8.out (6 * j)
          have hk1 : ¬ ((6 * j : Nat) : Int) < 6 * (j : Int) := by omega
          obtain ⟨r, hr⟩ : ∃ r, (F (6 * j)).2 = r := ⟨_, rfl⟩
          obtain ⟨a, ha⟩ : ∃ a, (F (6 * j)).1 = a := ⟨_, rfl⟩
          rw [hr, ha] at s12
          rw [hr] at hown
          have HFIN : Hid (a ++ jnB r j = (F (6 * j)).1 ++ jnB (F (6 * j)).2 j) := Lib.hid (by rw [hr, ha])
          rw [ha]
          have HOW := Lib.hid hown
          have HBE := Lib.hid hbel
          have S12 := Lib.hid s12
          clear hown hbel s12 hr ha HT HFS HF8 HL16 HO1 HB1 H0 HF0
          go_wp2
          go_loopw [7, 12] (fun f i wr2 => ∃ m : Nat, m ≤ j ∧ i = .int .i64 (m : Int) ∧ f = .string (a ++ jnB r m) ∧ wr2 = wr) (fun _ i _ => j - (intOf i).toNat)
          case atStart => exact ⟨0, by omega, rfl, by rw [show jnB r 0 = ByteArray.empty from rfl, ByteArray.append_empty], rfl⟩
          case round =>
            obtain ⟨m, hm, rfl, rfl, rfl⟩ := hrel
            by_cases hlt3 : m < j
            · have hm1 : (m : Int) < (j : Int) := by omega
              have hm0 : (0 : Int) ≤ (m : Int) := by omega
              have q8 : IntKind.i64.wrap ((m : Int) + 1) = (m : Int) + 1 := IntWalk.i64_in _ (by have := HN.out; omega)
              have hcell := cell_texts HOW.out m hlt3
              have hjs := jnB_size r S12.out.2 m
              have hrs := S12.out.2 m
              have has := S12.out.1
              have hcat : ¬ 9223372036854775807 < (a ++ jnB r m).size + (r m).size := by rw [ByteArray.size_append]; have := HN.out; omega
              have HJ : Hid ((a ++ jnB r m) ++ r m = a ++ jnB r (m + 1)) := Lib.hid (by rw [ByteArray.append_assoc]; rfl)
              generalize a ++ jnB r m = y at *
              generalize r m = x at *
              clear hjs hrs has
              go_wp2
              go_roundw
              case rel => exact ⟨m + 1, by omega, by go_num, by rw [HJ.out], by first | rfl | trivial⟩
              case measure => simp [intOf]; omega
            · obtain rfl : m = j := by omega
              have hm1 : ¬ (m : Int) < (m : Int) := by omega
              clear HOW
              go_wp2
              go_ret2
              exact ⟨congrArg (fun z => Ending.returned (.tuple #[.string z, .int .i64 0])) HFIN.out, HBE.out⟩
theorem Wrap_spec (key s : ByteArray) (w : World) :
    Calls Tryz.prog 11 #[.string key, .string s] w fun e w' => e = .returned (.tuple #[.string (wrT key s), .int .i64 (wrC key s)]) ∧ Below w.heap.size w w' := by
  by_cases hk : kOk key
  · by_cases h : wrOk key s
    · rw [wrC_ok key s h, show wrT key s = wrG (lockT key) (s.size / 8) s from if_pos h]
      exact sWrap_ok key s (s.size / 8) h (by have := h.2.2.2; omega) w
    · rw [wrC_len key s hk h, wrT_no key s h]
      exact sWrap_len key s hk h w
  · rw [wrC_key key s hk, wrT_no key s (fun h => hk h.1)]
    exact sWrap_key key s hk w
end Go.Proofs.YtbfmbdohebdbaaaGreatDoor
set_option linter.unusedVariables false
set_option linter.unusedSimpArgs false
namespace Go.Proofs.YtbfmbdohebdbaaaGreatDoor
open Go Go.RowKit
attribute [local go_sem ↓] Go.wp_at_zero Go.wp_at_succ

set_option maxRecDepth 100000 in
theorem sUnwrap_key (key s : ByteArray) (hk : ¬ kOk key) (w : World) :
    Calls Tryz.prog 14 #[.string key, .string s] w fun e w' => e = .returned (.tuple #[.string ⟨#[]⟩, .int .i64 3]) ∧ Below w.heap.size w w' := by
  have H1 := fun W => Lib.hid (specKey_no key hk W)
  clear hk
  go_enter Tryz.func14, Tryz.ntmps14
  go_wp2_with fail
  refine (H1 _).out.mono ?_; rintro e w1 ⟨rfl, rfl⟩
  go_wp2
  go_ret2
  exact ⟨rfl, Below.refl _ _⟩
set_option maxRecDepth 100000 in
theorem sUnwrap_len (key s : ByteArray) (hk : kOk key) (h : ¬ uwOk key s) (w : World) :
    Calls Tryz.prog 14 #[.string key, .string s] w fun e w' => e = .returned (.tuple #[.string ⟨#[]⟩, .int .i64 5]) ∧ Below w.heap.size w w' := by
  have H1 := fun W => Lib.hid (specKey_yes key hk W)
  by_cases h2 : 24 ≤ (s.size : Int) ∧ (s.size : Int) ≤ 72
  · have H2 := fun W => Lib.hid (in_yes (s.size : Int) 24 72 h2 W)
    have h8 : ¬ s.size % 8 = 0 := fun x => h ⟨hk, by omega, by omega, x⟩
    have hr := rem8 s
    obtain ⟨q, hq⟩ : ∃ q, s.size % 8 = q := ⟨_, rfl⟩
    rw [hq] at hr h8
    have h9 : ¬ (q : Int) = 0 := by omega
    clear hk h h2 h8 hq
    go_enter Tryz.func14, Tryz.ntmps14
    go_wp2_with fail
    refine (H1 _).out.mono ?_; rintro e w1 ⟨rfl, rfl⟩
    go_wp2_with fail
    refine (H2 _).out.mono ?_; rintro e w1 ⟨rfl, rfl⟩
    go_wp2
    go_ret2
    exact ⟨rfl, Below.refl _ _⟩
  · have H2 := fun W => Lib.hid (in_no (s.size : Int) 24 72 h2 W)
    clear hk h h2
    go_enter Tryz.func14, Tryz.ntmps14
    go_wp2_with fail
    refine (H1 _).out.mono ?_; rintro e w1 ⟨rfl, rfl⟩
    go_wp2_with fail
    refine (H2 _).out.mono ?_; rintro e w1 ⟨rfl, rfl⟩
    go_wp2
    go_ret2
    exact ⟨rfl, Below.refl _ _⟩
theorem slice_16b (s : ByteArray) (n j : Nat) (hn : s.size = 8 * (n + 1)) (hj : j < n) (hs : s.size ≤ 1048576) (W : World) : (Instr.slice 9 (.string s) (some (.int .i64 (8 * (j : Int) + 8))) (some (.int .i64 (8 * (j : Int) + 16))) none).run Tryz.prog W = .ok (.string (upZ s n j)) W := by
  have h := slice_8 s (j + 1) (by omega) hs W
  rw [show 8 * ((j + 1 : Nat) : Int) = 8 * (j : Int) + 8 by omega, show 8 * (j : Int) + 8 + 8 = 8 * (j : Int) + 16 by omega] at h
  rw [h]
  unfold upZ
  rw [ptZ_at s (n + 1) (j + 1) (by omega)]
theorem to_8L (s : ByteArray) (h : 8 ≤ s.size) (hs : s.size ≤ 1048576) (W : World) :
    (Instr.slice 9 (.string s) none (some (.int .i64 8)) none).run Tryz.prog W = .ok (.string (ptB s 0)) W := by
  rw [run_slice_string_h (P := Tryz.prog) W 9 s Tryz.underlying9 .i64 _ (by omega) (by omega)]
  rfl
def uwRes (U : ByteArray → ByteArray) (n : Nat) (s : ByteArray) : Value :=
  if (uwP U n s).1 = wrMk then .tuple #[.string (jnB (uwP U n s).2 n), .int .i64 0] else .tuple #[.string ⟨#[]⟩, .int .i64 7]
set_option maxRecDepth 100000 in
set_option maxHeartbeats 4000000 in
theorem sUnwrap_ok (key s : ByteArray) (n : Nat) (h : uwOk key s) (hn : s.size = 8 * (n + 1)) (w : World) :
    Calls Tryz.prog 14 #[.string key, .string s] w fun e w' => e = .returned (uwRes (unlockT key) n s) ∧ Below w.heap.size w w' := by
  obtain ⟨i0, hi0, hz0, hz1, hz2⟩ := info_parts Lk.infoS
  obtain ⟨hk, h1, h2, h3⟩ := h
  have H1 := fun W => Lib.hid (specKey_yes key hk W)
  have H2 := fun W => Lib.hid (in_yes (s.size : Int) 24 72 ⟨by omega, by omega⟩ W)
  have hr := rem8 s
  rw [h3] at hr
  have hqn := quo8 s
  rw [show s.size / 8 = n + 1 by omega, show ((n + 1 : Nat) : Int) = (n : Int) + 1 by omega] at hqn
  have hL : ∀ b : ByteArray, b.size = 16 → (unlockT key b).size = 16 := fun b hb => unlock_16 key b hk hb
  have HT : Hid (∀ b W, Calls Tryz.prog 33 #[.string key, .string b] W fun e w' => e = .returned (.string (unlockT key b)) ∧ Below W.heap.size W w') := Lib.hid fun b W => Unlock_spec key b W
  obtain ⟨H, hH⟩ : ∃ H : Nat → ByteArray × (Nat → ByteArray), (fun k => uwF (unlockT key) n (6 * n) (ptB s 0) (upZ s n) (6 * n - k)) = H := ⟨_, rfl⟩
  have hH0 : H (6 * n) = (ptB s 0, upZ s n) := by rw [← hH]; show uwF _ _ _ _ _ (6 * n - 6 * n) = _; rw [Nat.sub_self]; rfl
  have hHs : ∀ m, m + 1 ≤ 6 * n → H m = (hd8 (unlockT key (tuB (H (m + 1)).1 (m + 1) ++ (H (m + 1)).2 (m % n))), setP (H (m + 1)).2 (m % n) (tl8 (unlockT key (tuB (H (m + 1)).1 (m + 1) ++ (H (m + 1)).2 (m % n))))) := fun m hm => by rw [← hH]; exact uw_step _ _ _ _ m hm
  have hH8 : ∀ k, Parts8 (H k).1 (H k).2 := fun k => by rw [← hH]; exact uwF_8 hL n _ _ _ (uw_parts s n hn) _
  have hG : uwRes (unlockT key) n s = if (H 0).1 = wrMk then .tuple #[.string (jnB (H 0).2 n), .int .i64 0] else .tuple #[.string ⟨#[]⟩, .int .i64 7] := by rw [← hH]; rfl
  obtain ⟨out, hout⟩ : ∃ out, uwRes (unlockT key) n s = out := ⟨_, rfl⟩
  rw [hout]
  have HOUT := Lib.hid (hout.symm.trans hG)
  clear hout
  obtain ⟨x0, hx0⟩ : ∃ x0, ptB s 0 = x0 := ⟨_, rfl⟩
  have hs0 := to_8L s (by omega) (by omega)
  rw [hx0] at hs0
  obtain ⟨q, hq⟩ : ∃ q, upZ s n = q := ⟨_, rfl⟩
  have HSL : ∀ j, j < n → ∀ W, Hid ((Instr.slice 9 (.string s) (some (.int .i64 (8 * (j : Int) + 8))) (some (.int .i64 (8 * (j : Int) + 16))) none).run Tryz.prog W = .ok (.string (q j)) W) := fun j hj W => Lib.hid (by rw [← hq]; exact slice_16b s n j hn hj (by omega) W)
  have H0 : Hid ((H (6 * n)).2 = q) := Lib.hid (by rw [hH0]; exact hq)
  have HF0 : Hid ((H (6 * n)).1 = x0) := Lib.hid (by rw [hH0]; exact hx0)
  have HFS := Lib.hid hHs
  have HF8 := Lib.hid hH8
  have HL16 := Lib.hid hL
  have HN : Hid (2 ≤ n ∧ n ≤ 8) := Lib.hid ⟨by omega, by omega⟩
  have q9 : IntKind.i64.wrap ((n : Int) + 1 - 1) = (n : Int) := by rw [show (n : Int) + 1 - 1 = n by omega]; exact IntWalk.i64_in _ (by omega)
  have qn : IntKind.i64.wrap ((n : Int) + 1) = (n : Int) + 1 := IntWalk.i64_in _ (by omega)
  have qn0 : IntKind.i64.wrap (n : Int) = (n : Int) := IntWalk.i64_in _ (by omega)
  generalize unlockT key = U at *
  clear hH hH0 hHs hH8 hL hG hk h1 h2 h3 hn hx0 hq
  go_enter Tryz.func14, Tryz.ntmps14
  go_wp2_with fail
  refine (H1 _).out.mono ?_; rintro e w1 ⟨rfl, rfl⟩
  go_wp2_with fail
  refine (H2 _).out.mono ?_; rintro e w1 ⟨rfl, rfl⟩
  go_wp2
  go_loopw [8, 9] (fun v i wr => ∃ j : Nat, j ≤ n ∧ i = .int .i64 (j : Int) ∧ wr.ownsRow w.heap.size 9 1 v j ((upTo q j).map .string) ∧ Below w.heap.size w wr) (fun _ i _ => n - (intOf i).toNat)
  case atStart => exact ⟨0, by omega, rfl, empty_texts w, (Below.refl _ _).alloc (Nat.le_refl _) _⟩
  case round =>
    obtain ⟨j, hj, rfl, hown, hbel⟩ := hrel
    by_cases hlt : j < n
    · have hj1 : (j : Int) < (n : Int) := by omega
      have hjb : j ≤ 8 := by have := HN.out; omega
      have q0 : IntKind.i64.wrap (8 * (j : Int)) = 8 * (j : Int) := IntWalk.i64_in _ (by omega)
      have q1 : IntKind.i64.wrap (8 * (j : Int) + 8) = 8 * (j : Int) + 8 := IntWalk.i64_in _ (by omega)
      have q2 : IntKind.i64.wrap (8 * (j : Int) + 16) = 8 * (j : Int) + 16 := IntWalk.i64_in _ (by omega)
      have hsl := fun W => (HSL j hlt W).out
      obtain ⟨x, hx⟩ : ∃ x, q j = x := ⟨_, rfl⟩
      have HXX := Lib.hid hx
      simp only [hx] at hsl
      clear hx HSL
      go_wp2_with (at_builtin; refine stp ?_)
      refine unstp ?_
      refine wpList_append_lies _ rfl (.tmp 39) (.tmp 48) 46 rfl w.heap.size 9 i0 (.string ByteArray.empty) 1 16 Tryz.underlying46 hi0 hz0 hz1 hz2 rfl (by decide) u8 j ((upTo q j).map .string) rfl (hown.alloc _) ⟨wr.heap.size, 0, none⟩ 1 1 [.string x] rfl rfl (World.news_of_block (cs := #[.string x]) (heap_alloc_new wr _)) (by simp [Value.oneCell']) (by omega) (by unfold maxLen; omega) (by omega) (by have := hbel.size; simp; omega) (wr.heap.size + 1) (by simp) ?_
      intro g cap w1 hown3 hgrow hat hlt3
      have hb1 := Lk.below_append hown hbel hgrow
      have hown4 : w1.ownsRow w.heap.size 9 1 (.slice (some ⟨g, 0, none⟩) (j + 1) cap) (j + 1) ((upTo q (j + 1)).map .string) := by
        rw [upTo_succ, List.map_append, HXX.out]; exact hown3
      have HO := Lib.hid hown4
      have HB := Lib.hid hb1
      clear hown hbel hown3 hgrow hat hlt3 hown4 hb1
      go_wp2
      go_roundw
      case rel => exact ⟨j + 1, by omega, by go_num, HO.out, HB.out⟩
      case measure => simp [intOf]; omega
    · obtain rfl : j = n := by omega
      have hj1 : ¬ (j : Int) < (j : Int) := by omega
      obtain ⟨g, c, rfl, hgB, hg⟩ := hown.form (by have := HN.out; omega)
      have q6 : IntKind.i64.wrap (6 * (j : Int)) = 6 * (j : Int) := IntWalk.i64_in _ (by have := HN.out; omega)
      have q7 : IntKind.i64.wrap (6 * (j : Int) - 1) = 6 * (j : Int) - 1 := IntWalk.i64_in _ (by have := HN.out; omega)
      rw [← H0.out] at hown
      have HO1 := Lib.hid hown
      have HB1 := Lib.hid hbel
      clear hown hbel HSL hg H1 H2 hs0 q9 hqn hr
      go_wp2
      go_loopw [7, 10, 11] (fun f i _ wr => ∃ k : Nat, k ≤ 6 * j ∧ i = .int .i64 ((k : Int) - 1) ∧ f = .string (H k).1 ∧ wr.ownsRow w.heap.size 9 1 (.slice (some ⟨g, 0, none⟩) j c) j ((upTo (H k).2 j).map .string) ∧ Below w.heap.size w wr) (fun _ i _ _ => (intOf i + 1).toNat)
      case atStart => exact ⟨6 * j, by omega, by go_num, by rw [HF0.out], HO1.out, HB1.out⟩
      case round =>
        obtain ⟨k, hk, rfl, rfl, hown, hbel⟩ := hrel
        by_cases hlt2 : 0 < k
        · obtain ⟨m, rfl⟩ : ∃ m, k = m + 1 := ⟨k - 1, by omega⟩
          have e1 : ((m + 1 : Nat) : Int) - 1 = (m : Int) := by omega
          rw [e1]
          have hk0 : (0 : Int) ≤ (m : Int) := by omega
          have hkb : m ≤ 48 := by have := HN.out; omega
          obtain ⟨p, hp⟩ : ∃ p, m % j = p := ⟨_, rfl⟩
          have hpn : p < j := by rw [← hp]; exact Nat.mod_lt _ (by have := HN.out; omega)
          have hrem := mod_fact m j p hp
          have hn0 : ¬ (j : Int) = 0 := by have := HN.out; omega
          have hnz : ¬ j = 0 := by have := HN.out; omega
          have hp0 : (0 : Int) ≤ (p : Int) := by omega
          have hp1 : (p : Int) < (j : Int) := by omega
          have hcell := cell_texts hown p hpn
          obtain ⟨s1, s2⟩ := HF8.out (m + 1)
          have hstep := HFS.out m (by omega)
          rw [hp] at hstep
          obtain ⟨r, hr⟩ : ∃ r, (H (m + 1)).2 = r := ⟨_, rfl⟩
          rw [hr] at hown hstep s2 hcell
          obtain ⟨y, hy⟩ : ∃ y, r p = y := ⟨_, rfl⟩
          have y8 : y.size = 8 := by rw [← hy]; exact s2 p
          have HYY := Lib.hid hy
          rw [hy] at hcell hstep
          obtain ⟨a, ha⟩ : ∃ a, (H (m + 1)).1 = a := ⟨_, rfl⟩
          rw [ha] at s1 hstep
          rw [ha]
          have t8 := tuB_size a (m + 1) s1
          have HTU := fun W => Lib.hid (turned_spec a (m + 1) s1 W)
          rw [show ((m + 1 : Nat) : Int) = (m : Int) + 1 by omega] at HTU
          have q8 : IntKind.i64.wrap ((m : Int) + 1) = (m : Int) + 1 := IntWalk.i64_in _ (by omega)
          obtain ⟨ta, hta⟩ : ∃ ta, tuB a (m + 1) = ta := ⟨_, rfl⟩
          rw [hta] at t8 hstep
          simp only [hta] at HTU
          have hcat : ¬ 9223372036854775807 < ta.size + y.size := by omega
          have hx16 : (ta ++ y).size = 16 := by rw [ByteArray.size_append, t8, y8]
          obtain ⟨x, hx⟩ : ∃ x, ta ++ y = x := ⟨_, rfl⟩
          rw [hx] at hx16 hstep
          have HX := Lib.hid hx
          have hz16 := HL16.out x hx16
          have HTK := fun W => Lib.hid (HT.out x W)
          obtain ⟨z, hz⟩ : ∃ z, U x = z := ⟨_, rfl⟩
          simp only [hz] at HTK
          rw [hz] at hz16 hstep
          have sl1 := to_8 z hz16
          have sl2 := from_8 z hz16
          have HST := Lib.hid hstep
          have HOW := Lib.hid hown
          have HBE := Lib.hid hbel
          generalize hd8 z = zh at *
          generalize tl8 z = zt at *
          clear hown hbel hstep hx hz hy hr ha hta HT HFS HF8 HL16 hp y8 t8 s1 s2 hz16 hx16 HO1 HB1
          go_wp2
          refine wp_region_held_drew (S := fun W => W.cell? ⟨g, p, none⟩ = some (.string y)) (by kernel_rfl) hcell (fun hS => ?_)
          refine tk 0 (v := ?_) ?_ hS ?_
          rotate_left
          · intro w hSw
            go_simp
            first | done | with_reducible rfl
          try simp only [lay]
          refine tk 1 (v := ?_) ?_ hS ?_
          rotate_left
          · intro w hSw
            go_simp
            first | done | with_reducible rfl
          try simp only [lay]
          refine tk 2 (v := ?_) ?_ hS ?_
          rotate_left
          · intro w hSw
            go_simp
            first | done | with_reducible rfl
          try simp only [lay]
          refine tk 3 (v := ?_) ?_ hS ?_
          rotate_left
          · intro w hSw
            go_simp
            first | done | with_reducible rfl
          try simp only [lay]
          refine tk 5 (v := ?_) ?_ hS ?_
          rotate_left
          · intro w hSw
            go_simp
            first | done | with_reducible rfl
          try simp only [lay]
          refine tk 6 (v := ?_) ?_ hS ?_
          rotate_left
          · intro w hSw
            go_simp
            first | done | with_reducible rfl
          try simp only [lay]
          refine tk 7 (v := ?_) ?_ hS ?_
          rotate_left
          · intro w hSw
            go_simp
            first | done | with_reducible rfl
          try simp only [lay]
          refine tk 8 (v := ?_) ?_ hS ?_
          rotate_left
          · intro w hSw
            go_simp
            first | done | with_reducible rfl
          try simp only [lay]
          refine tk 9 (v := ?_) ?_ hS ?_
          rotate_left
          · intro w hSw
            go_simp
            first | done | with_reducible rfl
          try simp only [lay]
          refine tk 10 (v := ?_) ?_ hS ?_
          rotate_left
          · intro w hSw
            go_simp
            first | done | with_reducible rfl
          try simp only [lay]
          refine wpAnyH_ready (rs := [4]) (by kernel_rfl) (by simp) ?_
          refine AllReadyH.cons rfl (fun K hK => ?_) AllReadyH.nil
          go_simp
          refine (HTU _).out.mono ?_; rintro e w3 ⟨rfl, hb3⟩
          have ho3 := own_texts_below (w := wr.drew) HOW.out hb3
          have hB3 := HBE.out.drew.trans (hb3.mono HBE.out.size)
          have d3 := cell_texts ho3 p hpn
          rw [HYY.out] at d3
          refine hK.out _ _ d3 (fun hS3 => ?_)
          clear hK K
          try simp only [lay]
          refine tk 11 (v := ?_) ?_ hS3 ?_
          rotate_left
          · intro w hSw
            go_simp
            first | done | with_reducible rfl
          try simp only [lay]
          refine wpAnyH_ready (rs := [12]) (by kernel_rfl) (by simp) ?_
          refine AllReadyH.cons rfl (fun K hK => ?_) AllReadyH.nil
          go_simp
          rw [HX.out]
          refine (HTK _).out.mono ?_; rintro e w4 ⟨rfl, hb4⟩
          have ho4 := own_texts_below ho3 hb4
          have hB4 := hB3.trans (hb4.mono hB3.size)
          have d4 := cell_texts ho4 p hpn
          rw [HYY.out] at d4
          refine hK.out _ _ d4 (fun hS4 => ?_)
          clear hK K
          try simp only [lay]
          refine tk 13 (v := ?_) ?_ hS4 ?_
          rotate_left
          · intro w hSw
            go_simp
            first | done | with_reducible rfl
          try simp only [lay]
          refine wpAnyH_done (by kernel_rfl) ?_ _
          have HO4 := Lib.hid ho4
          have HB4 := Lib.hid hB4
          have hc4 := d4
          have hf4 := ho4.frozenAt p
          clear ho3 hB3 d3 hb3 ho4 hB4 hb4 HTK HTU hcell hS hS3 hS4 d4
          go_wp2
          refine wp_region_held_drew (S := fun _ => True) (by kernel_rfl) trivial (fun hS => ?_)
          refine tk 0 (v := ?_) ?_ trivial ?_
          rotate_left
          · intro w hSw
            go_simp
            first | done | with_reducible rfl
          try simp only [lay]
          refine tk 1 (v := ?_) ?_ trivial ?_
          rotate_left
          · intro w hSw
            go_simp
            first | done | with_reducible rfl
          try simp only [lay]
          refine tk 2 (v := ?_) ?_ trivial ?_
          rotate_left
          · intro w hSw
            go_simp
            first | done | with_reducible rfl
          try simp only [lay]
          refine tk 3 (v := ?_) ?_ trivial ?_
          rotate_left
          · intro w hSw
            go_simp
            first | done | with_reducible rfl
          try simp only [lay]
          refine tk 4 (v := ?_) ?_ trivial ?_
          rotate_left
          · intro w hSw
            go_simp
            first | done | with_reducible rfl
          try simp only [lay]
          refine tk 5 (v := ?_) ?_ trivial ?_
          rotate_left
          · intro w hSw
            go_simp
            first | done | with_reducible rfl
          try simp only [lay]
          refine tk 6 (v := ?_) ?_ trivial ?_
          rotate_left
          · intro w hSw
            go_simp
            first | done | with_reducible rfl
          try simp only [lay]
          refine wpAnyH_ready (rs := [7]) (by kernel_rfl) (by simp) ?_
          refine AllReadyH.cons rfl (fun K hK => ?_) AllReadyH.nil
          go_simp
          refine hK.out _ _ trivial (fun _ => ?_)
          clear hK K
          try simp only [lay]
          refine wpAnyH_done (by kernel_rfl) ?_ _
          have ho5 := own_setS (w := w4.drew) (i := p) (x := zt) HO4.out
          have hB5 : Below w.heap.size w (w4.drew.setCell ⟨g, p, none⟩ (.string zt)) := HB4.out.drew.setCell hgB _
          have HO5 := Lib.hid ho5
          have HB5 := Lib.hid hB5
          have hm2 : m ≤ 6 * j := by omega
          clear ho5 hB5 HO4 HB4 hc4 hf4 sl1 sl2
          go_wp2
          go_roundw
          case rel => exact ⟨m, hm2, by go_num, by rw [HST.out], by rw [HST.out]; exact HO5.out, HB5.out⟩
          case measure => simp [intOf]
        · obtain rfl : k = 0 := by omega
          have s12 := HF8.out 0
          obtain ⟨r, hr⟩ : ∃ r, (H 0).2 = r := ⟨_, rfl⟩
          obtain ⟨a, ha⟩ : ∃ a, (H 0).1 = a := ⟨_, rfl⟩
          rw [hr, ha] at s12
          rw [hr] at hown
          have HFIN : Hid (out = if a = wrMk then Value.tuple #[.string (jnB r j), .int .i64 0] else .tuple #[.string ⟨#[]⟩, .int .i64 7]) := Lib.hid (by rw [HOUT.out, hr, ha])
          rw [ha]
          have HOW := Lib.hid hown
          have HBE := Lib.hid hbel
          have S12 := Lib.hid s12
          clear hown hbel s12 hr ha HT HFS HF8 HL16 HO1 HB1 H0 HF0
          go_wp2
          go_loopw [12, 13] (fun f i wr2 => ∃ m : Nat, m ≤ j ∧ i = .int .i64 (m : Int) ∧ f = .string (jnB r m) ∧ wr2 = wr) (fun _ i _ => j - (intOf i).toNat)
          case atStart => exact ⟨0, by omega, rfl, rfl, rfl⟩
          case round =>
            obtain ⟨m, hm, rfl, rfl, rfl⟩ := hrel
            by_cases hlt3 : m < j
            · have hm1 : (m : Int) < (j : Int) := by omega
              have hm0 : (0 : Int) ≤ (m : Int) := by omega
              have q8 : IntKind.i64.wrap ((m : Int) + 1) = (m : Int) + 1 := IntWalk.i64_in _ (by have := HN.out; omega)
              have hcell := cell_texts HOW.out m hlt3
              have hjs := jnB_size r S12.out.2 m
              have hrs := S12.out.2 m
              have hcat : ¬ 9223372036854775807 < (jnB r m).size + (r m).size := by have := HN.out; omega
              have HJ : Hid (jnB r m ++ r m = jnB r (m + 1)) := Lib.hid rfl
              generalize jnB r m = y at *
              generalize r m = x at *
              clear hjs hrs
              go_wp2
              go_roundw
              case rel => exact ⟨m + 1, by omega, by go_num, by rw [HJ.out], by first | rfl | trivial⟩
              case measure => simp [intOf]; omega
            · obtain rfl : m = j := by omega
              have hm1 : ¬ (m : Int) < (m : Int) := by omega
              clear HOW
              by_cases hfit : a = wrMk
              · have HFI : Hid (a = wrMk) := Lib.hid hfit
                subst hfit
                unfold wrMk
                go_wp2
                go_ret2
                exact ⟨congrArg Ending.returned (HFIN.out.trans (if_pos HFI.out)).symm, HBE.out⟩
              · have HFI : Hid (¬ a = wrMk) := Lib.hid hfit
                have hne := fr_ne hfit
                clear hfit
                go_wp2
                go_ret2
                exact ⟨congrArg Ending.returned (HFIN.out.trans (if_neg HFI.out)).symm, HBE.out⟩
theorem Unwrap_spec (key s : ByteArray) (w : World) :
    Calls Tryz.prog 14 #[.string key, .string s] w fun e w' => e = .returned (.tuple #[.string (uwT key s), .int .i64 (uwC key s)]) ∧ Below w.heap.size w w' := by
  by_cases hk : kOk key
  · by_cases h : uwOk key s
    · have H := sUnwrap_ok key s (s.size / 8 - 1) h (by have := h.2; omega) w
      unfold uwRes at H
      by_cases hfit : uwFit key s
      · rw [uwC_fit key s hfit, show uwT key s = jnB (uwP (unlockT key) (s.size / 8 - 1) s).2 (s.size / 8 - 1) from if_pos hfit]
        rw [if_pos hfit.2] at H
        exact H
      · rw [uwC_seal key s h hfit, uwT_no key s hfit]
        rw [if_neg (fun x => hfit ⟨h, x⟩)] at H
        exact H
    · rw [uwC_len key s hk h, uwT_no key s (fun x => h x.1)]
      exact sUnwrap_len key s hk h w
  · rw [uwC_key key s hk, uwT_no key s (fun x => hk x.1.1)]
    exact sUnwrap_key key s hk w
end Go.Proofs.YtbfmbdohebdbaaaGreatDoor
