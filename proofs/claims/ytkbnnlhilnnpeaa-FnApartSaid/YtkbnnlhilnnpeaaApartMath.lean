/-
  Plain facts on keys that differ: in how many places their words differ. No program.
-/
import Derived.Test.YtkbnnlhilnnpeaaPure
set_option linter.unusedVariables false
namespace Go.Proofs.Ytkbnnlhilnnpeaa
open Go Go.RowKit

/-- not just one of three. -/
def tri (a b c : Bool) : Bool := a.toNat + b.toNat + c.toNat != 1
/-- n places from j on, as a number. -/
def win (z : Nat → Bool) : Nat → Nat → Nat
  | _, 0 => 0
  | j, n + 1 => (z j).toNat + 2 * win z (j + 1) n
/-- how many of the k places from j on. -/
def cnt (z : Nat → Bool) : Nat → Nat → Nat
  | _, 0 => 0
  | j, k + 1 => (z j).toNat + cnt z (j + 1) k
theorem bool_le (a : Bool) : a.toNat ≤ 1 := by cases a <;> simp
theorem win_snoc (z : Nat → Bool) : ∀ n j, win z j (n + 1) = win z j n + (z (j + n)).toNat * 2 ^ n := by
  intro n
  induction n with
  | zero => intro j; simp [win]
  | succ n ih =>
    intro j
    rw [win, ih (j + 1), win, show j + 1 + n = j + (n + 1) by omega, Nat.pow_succ]
    rw [Nat.mul_add, Nat.mul_comm 2 ((z (j + (n + 1))).toNat * 2 ^ n), Nat.mul_assoc]
    omega
theorem win_lt (z : Nat → Bool) : ∀ n j, win z j n < 2 ^ n := by
  intro n
  induction n with
  | zero => intro j; simp [win]
  | succ n ih =>
    intro j
    have := ih (j + 1); have := bool_le (z j)
    rw [win, Nat.pow_succ]; omega
theorem win_half (z : Nat → Bool) (j m : Nat) : win z j (m + 1) / 2 = win z (j + 1) m := by
  have := bool_le (z j); rw [win]; omega
theorem win_odd (z : Nat → Bool) (j m : Nat) : win z j (m + 1) % 2 = (z j).toNat := by
  have := bool_le (z j); rw [win]; omega
theorem win_top (z : Nat → Bool) (j m : Nat) : win z j (m + 1) / 2 ^ m = (z (j + m)).toNat := by
  rw [win_snoc, Nat.add_mul_div_right _ _ (Nat.two_pow_pos m), Nat.div_eq_of_lt (win_lt z m j), Nat.zero_add]
theorem win_next (z : Nat → Bool) (j m : Nat) : win z (j + 1) (m + 1) = win z j (m + 1) / 2 + (z (j + (m + 1))).toNat * 2 ^ m := by
  rw [win_half, win_snoc, show j + 1 + m = j + (m + 1) by omega]
theorem win_zero (z : Nat → Bool) : ∀ n j, win z j n = 0 → ∀ k, k < n → z (j + k) = false := by
  intro n
  induction n with
  | zero => intro j _ k hk; omega
  | succ n ih =>
    intro j h k hk
    rw [win] at h
    rcases Nat.eq_zero_or_pos k with rfl | hp
    · rw [Nat.add_zero]
      have : (z j).toNat = 0 := by omega
      cases hz : z j
      · rfl
      · rw [hz] at this; simp at this
    · have := ih (j + 1) (by omega) (k - 1) (by omega)
      rwa [show j + 1 + (k - 1) = j + k by omega] at this
theorem cnt_add (z : Nat → Bool) : ∀ a j b, cnt z j (a + b) = cnt z j a + cnt z (j + a) b := by
  intro a
  induction a with
  | zero => intro j b; simp [cnt]
  | succ a ih =>
    intro j b
    rw [show a + 1 + b = (a + b) + 1 by omega, cnt, ih (j + 1) b, cnt, show j + 1 + a = j + (a + 1) by omega]
    omega
theorem cnt_snoc (z : Nat → Bool) (k : Nat) : cnt z 0 (k + 1) = cnt z 0 k + (z k).toNat := by
  rw [cnt_add z k 0 1]; simp [cnt]
theorem cnt_pos (z : Nat → Bool) : ∀ n j, win z j n ≠ 0 → 1 ≤ cnt z j n := by
  intro n
  induction n with
  | zero => intro j h; simp [win] at h
  | succ n ih =>
    intro j h
    rw [cnt]
    cases hz : z j
    · have : win z (j + 1) n ≠ 0 := by rw [win, hz] at h; simp only [Bool.toNat_false] at h; omega
      have := ih (j + 1) this
      omega
    · simp
theorem cnt_le (z : Nat → Bool) : ∀ k j, cnt z j k ≤ k := by
  intro k
  induction k with
  | zero => intro j; simp [cnt]
  | succ k ih => intro j; have := ih (j + 1); have := bool_le (z j); rw [cnt]; omega
/-- the entry of a table (64 to the place) at a place. -/
def look (t s : Nat) : Nat := t / 64 ^ s % 64
/-- at the least so many in the places to come, of the next one's table. -/
def best (m t s : Nat) : Nat :=
  Nat.min (if s % 2 + s / 2 ^ m != 1 then look t (s / 2) else 60) (if s % 2 + s / 2 ^ m != 0 then 1 + look t (s / 2 + 2 ^ m) else 60)
def fillT (m t : Nat) : Nat → Nat
  | 0 => 0
  | s + 1 => fillT m t s + best m t s % 64 * 64 ^ s
def tabT (m : Nat) : Nat → Nat
  | 0 => 0
  | k + 1 => fillT m (tabT m k) (2 ^ (m + 1))
theorem fill_lt (m t : Nat) : ∀ s, fillT m t s < 64 ^ s := by
  intro s
  induction s with
  | zero => simp [fillT]
  | succ s ih =>
    have h : best m t s % 64 < 64 := Nat.mod_lt _ (by omega)
    rw [fillT, Nat.pow_succ]
    have : best m t s % 64 * 64 ^ s ≤ 63 * 64 ^ s := Nat.mul_le_mul_right _ (by omega)
    omega
theorem look_fill (m t : Nat) : ∀ b s, s < b → look (fillT m t b) s = best m t s % 64 := by
  intro b
  induction b with
  | zero => intro s h; omega
  | succ b ih =>
    intro s h
    rcases Nat.lt_or_ge s b with hlt | hge
    · rw [← ih s hlt]
      unfold look
      have e : (64 : Nat) ^ b = 64 ^ s * (64 * 64 ^ (b - s - 1)) := by
        rw [← Nat.mul_assoc, ← Nat.pow_succ, ← Nat.pow_add]; congr 1; omega
      rw [fillT, e]
      have e2 : best m t b % 64 * (64 ^ s * (64 * 64 ^ (b - s - 1))) = 64 ^ s * (64 * (best m t b % 64 * 64 ^ (b - s - 1))) := by
        simp only [Nat.mul_assoc, Nat.mul_comm, Nat.mul_left_comm]
      rw [e2, Nat.add_mul_div_left _ _ (Nat.pow_pos (by omega)), Nat.add_mul_mod_self_left]
    · obtain rfl : s = b := by omega
      unfold look
      rw [fillT, Nat.add_mul_div_right _ _ (Nat.pow_pos (by omega)), Nat.div_eq_of_lt (fill_lt m t s), Nat.zero_add, Nat.mod_mod]
theorem low (z : Nat → Bool) (m : Nat) : ∀ k j, (∀ i, j + (m + 1) ≤ i → i < j + (m + 1) + k → tri (z i) (z (i - (m + 1))) (z (i - 1)) = true) → look (tabT m k) (win z j (m + 1)) ≤ cnt z (j + (m + 1)) k := by
  intro k
  induction k with
  | zero => intro j _; simp [tabT, look]
  | succ k ih =>
    intro j h
    have h0 := h (j + (m + 1)) (Nat.le_refl _) (by omega)
    rw [show j + (m + 1) - (m + 1) = j by omega, show j + (m + 1) - 1 = j + m by omega] at h0
    have h1 := ih (j + 1) (fun i hi hi2 => h i (by omega) (by omega))
    rw [win_next, show j + 1 + (m + 1) = j + (m + 1) + 1 by omega] at h1
    rw [tabT, look_fill m _ _ _ (win_lt z (m + 1) j), cnt]
    refine Nat.le_trans (Nat.mod_le _ _) ?_
    unfold best
    rw [win_odd, win_top]
    unfold tri at h0
    cases hz : z (j + (m + 1))
    · rw [hz] at h0 h1
      simp only [Bool.toNat_false, Nat.zero_mul, Nat.add_zero, Nat.zero_add] at h0 h1 ⊢
      rw [if_pos h0]
      exact Nat.le_trans (Nat.min_le_left _ _) h1
    · rw [hz] at h0 h1
      simp only [Bool.toNat_true, Nat.one_mul] at h0 h1 ⊢
      have h2 : ((z j).toNat + (z (j + m)).toNat != 0) = true := by
        simp only [bne_iff_ne, ne_eq] at h0 ⊢; omega
      rw [if_pos h2]
      exact Nat.le_trans (Nat.min_le_right _ _) (by omega)
theorem least4 : ∀ s : Fin 16, s.val = 0 ∨ 11 ≤ look (tabT 3 40) s.val := by decide +kernel
theorem least6 : ∀ s : Fin 64, s.val = 0 ∨ 13 ≤ look (tabT 5 46) s.val := by decide +kernel
theorem least8 : ∀ s : Fin 256, s.val = 0 ∨ 15 ≤ look (tabT 7 52) s.val := by decide +kernel
/-- of the places of a key that has grown more than a fourth differ. -/
theorem many (z : Nat → Bool) (n : Nat) (hn : n = 4 ∨ n = 6 ∨ n = 8) (h : ∀ i, n ≤ i → i < kL n → tri (z i) (z (i - n)) (z (i - 1)) = true) (h0 : ∃ p, p < n ∧ z p = true) : kL n / 4 < cnt z 0 (kL n) := by
  obtain ⟨p, hp, hz⟩ := h0
  have hw : win z 0 n ≠ 0 := fun e => by
    have := win_zero z n 0 e p hp
    rw [Nat.zero_add, hz] at this; cases this
  have hc := cnt_pos z n 0 hw
  rcases hn with rfl | rfl | rfl
  · have h1 : look (tabT 3 40) (win z 0 4) ≤ cnt z 4 40 := low z 3 40 0 (fun i hi hi2 => h i (by omega) (by unfold kL; omega))
    have h2 := least4 ⟨win z 0 4, win_lt z 4 0⟩
    simp only at h2
    have h3 : cnt z 0 (4 + 40) = cnt z 0 4 + cnt z 4 40 := by have := cnt_add z 4 0 40; rwa [Nat.zero_add] at this
    unfold kL
    show 44 / 4 < cnt z 0 (4 + 40)
    omega
  · have h1 : look (tabT 5 46) (win z 0 6) ≤ cnt z 6 46 := low z 5 46 0 (fun i hi hi2 => h i (by omega) (by unfold kL; omega))
    have h2 := least6 ⟨win z 0 6, win_lt z 6 0⟩
    simp only at h2
    have h3 : cnt z 0 (6 + 46) = cnt z 0 6 + cnt z 6 46 := by have := cnt_add z 6 0 46; rwa [Nat.zero_add] at this
    unfold kL
    show 52 / 4 < cnt z 0 (6 + 46)
    omega
  · have h1 : look (tabT 7 52) (win z 0 8) ≤ cnt z 8 52 := low z 7 52 0 (fun i hi hi2 => h i (by omega) (by unfold kL; omega))
    have h2 := least8 ⟨win z 0 8, win_lt z 8 0⟩
    simp only at h2
    have h3 : cnt z 0 (8 + 52) = cnt z 0 8 + cnt z 8 52 := by have := cnt_add z 8 0 52; rwa [Nat.zero_add] at this
    unfold kL
    show 60 / 4 < cnt z 0 (8 + 52)
    omega
/-- where n places one behind the other don't differ, none ahead does. -/
theorem back (z : Nat → Bool) (n : Nat) (hn : 2 ≤ n) : ∀ j, (∀ i, n ≤ i → i < j + n → tri (z i) (z (i - n)) (z (i - 1)) = true) → (∀ k, k < n → z (j + k) = false) → ∀ i, i < j + n → z i = false := by
  intro j
  induction j with
  | zero => intro _ h i hi; have := h i (by omega); rwa [Nat.zero_add] at this
  | succ j ih =>
    intro h h2
    refine fun i hi => ?_
    have hj : z j = false := by
      have := h (j + n) (by omega) (by omega)
      have e1 := h2 (n - 1) (by omega)
      have e2 := h2 (n - 2) (by omega)
      rw [show j + 1 + (n - 1) = j + n by omega] at e1
      rw [show j + 1 + (n - 2) = j + n - 1 by omega] at e2
      rw [show j + n - n = j by omega, e1, e2] at this
      cases hz : z j
      · rfl
      · rw [hz] at this; simp [tri] at this
    by_cases hi2 : i = j + n
    · have := h2 (n - 1) (by omega)
      rwa [show j + 1 + (n - 1) = i by omega] at this
    · refine ih (fun i hi1 hi3 => h i hi1 (by omega)) (fun k hk => ?_) i (by omega)
      by_cases hk0 : k = 0
      · subst hk0; exact hj
      · have := h2 (k - 1) (by omega)
        rwa [show j + 1 + (k - 1) = j + k by omega] at this
end Go.Proofs.Ytkbnnlhilnnpeaa
