/-
  Plain facts on a block's passage as a list of small steps, there and back. No program.
-/
import Derived.Test.YtipcgdhjlpjcaaaGreatDoorLockM
set_option linter.unusedVariables false
namespace Go.Proofs.YtipcgdhjlpjcaaaGreatDoor
open Go Go.RowKit

/-- a small step of a passage. -/
inductive PStp where
  | addF | addL | box | unbox | shift | unshift | mix | unmix
/-- what a passage holds: the keys from lo on, n of them; the block; the blocks behind each key. -/
structure Pas where
  lo : Nat
  n : Nat
  S : ByteArray
  bs : List ByteArray
def PStp.run (K : Nat → ByteArray) : PStp → Pas → Pas
  | .addF, p => ⟨p.lo + 1, p.n - 1, xorS p.S (K p.lo), p.bs ++ [xorS p.S (K p.lo)]⟩
  | .addL, p => ⟨p.lo, p.n - 1, xorS p.S (K (p.lo + (p.n - 1))), p.bs ++ [xorS p.S (K (p.lo + (p.n - 1)))]⟩
  | .box, p => ⟨p.lo, p.n, mapT sbox p.S, p.bs⟩
  | .unbox, p => ⟨p.lo, p.n, mapT ubox p.S, p.bs⟩
  | .shift, p => ⟨p.lo, p.n, shS 1 p.S, p.bs⟩
  | .unshift, p => ⟨p.lo, p.n, shS 3 p.S, p.bs⟩
  | .mix, p => ⟨p.lo, p.n, mxS p.S, p.bs⟩
  | .unmix, p => ⟨p.lo, p.n, unS p.S, p.bs⟩
/-- what a passage holds stays in its bounds: so many keys in all, as many blocks as keys are gone. -/
def Pas.fits (T : Nat) (p : Pas) : Prop := p.S.size = 16 ∧ p.lo + p.n ≤ T ∧ p.bs.length + p.n = T
def PStp.adds : PStp → Bool
  | .addF | .addL => true
  | _ => false
def PStp.ok (s : PStp) (p : Pas) : Prop := s.adds = true → 1 ≤ p.n
theorem PStp.run_fits (K : Nat → ByteArray) (T : Nat) (s : PStp) (p : Pas) (h : p.fits T) (ho : s.ok p) : (s.run K p).fits T := by
  obtain ⟨h1, h2, h3⟩ := h
  cases s with
  | addF => have := ho rfl; exact ⟨xorS_size _ _, by show p.lo + 1 + (p.n - 1) ≤ T; omega, by show (p.bs ++ [_]).length + (p.n - 1) = T; rw [List.length_append, List.length_singleton]; omega⟩
  | addL => have := ho rfl; exact ⟨xorS_size _ _, by show p.lo + (p.n - 1) ≤ T; omega, by show (p.bs ++ [_]).length + (p.n - 1) = T; rw [List.length_append, List.length_singleton]; omega⟩
  | box => exact ⟨(mapT_size _ _).trans h1, h2, h3⟩
  | unbox => exact ⟨(mapT_size _ _).trans h1, h2, h3⟩
  | shift => exact ⟨shS_size _ _, h2, h3⟩
  | unshift => exact ⟨shS_size _ _, h2, h3⟩
  | mix => exact ⟨mxS_size _, h2, h3⟩
  | unmix => exact ⟨unS_size _, h2, h3⟩
/-- all steps of a list, and that each may be done. -/
def runAll (K : Nat → ByteArray) (l : List PStp) (p : Pas) : Pas := l.foldl (fun p s => s.run K p) p
def okAll (K : Nat → ByteArray) : List PStp → Pas → Prop
  | [], _ => True
  | s :: l, p => s.ok p ∧ okAll K l (s.run K p)
theorem runAll_append (K : Nat → ByteArray) (l m : List PStp) (p : Pas) : runAll K (l ++ m) p = runAll K m (runAll K l p) := by simp [runAll]
theorem okAll_append (K : Nat → ByteArray) (l m : List PStp) (p : Pas) (h : okAll K l p) (h2 : okAll K m (runAll K l p)) : okAll K (l ++ m) p := by
  induction l generalizing p with
  | nil => exact h2
  | cons s l ih => exact ⟨h.1, ih _ h.2 h2⟩
theorem okAll_at (K : Nat → ByteArray) (l : List PStp) (p : Pas) (h : okAll K l p) (k : Nat) (s : PStp) (hs : l[k]? = some s) : s.ok (runAll K (l.take k) p) ∧ runAll K (l.take (k + 1)) p = s.run K (runAll K (l.take k) p) := by
  induction l generalizing p k with
  | nil => cases hs
  | cons x l ih =>
    cases k with
    | zero => cases hs; exact ⟨h.1, rfl⟩
    | succ k =>
      have := ih _ h.2 k (by simpa using hs)
      exact this
theorem fits_at (K : Nat → ByteArray) (T : Nat) (l : List PStp) (p : Pas) (hp : p.fits T) (h : okAll K l p) (k : Nat) : (runAll K (l.take k) p).fits T := by
  induction l generalizing p k with
  | nil => rw [List.take_nil]; exact hp
  | cons x l ih =>
    cases k with
    | zero => exact hp
    | succ k => exact ih _ (PStp.run_fits K T x p hp h.1) h.2 k
/-- the steps there. -/
def lockTo : Nat → List PStp
  | 0 => [.addF]
  | k + 1 => lockTo k ++ [.box, .shift, .mix, .addF]
def lockAll (m : Nat) : List PStp := lockTo m ++ [.box, .shift, .addF]
/-- the steps back. -/
def unlockTo : Nat → List PStp
  | 0 => [.addL, .unshift, .unbox]
  | k + 1 => unlockTo k ++ [.addL, .unmix, .unshift, .unbox]
def unlockAll (m : Nat) : List PStp := unlockTo m ++ [.addL]
theorem lockTo_length : ∀ m, (lockTo m).length = 4 * m + 1
  | 0 => rfl
  | m + 1 => by rw [lockTo, List.length_append, lockTo_length m]; simp; omega
theorem unlockTo_length : ∀ m, (unlockTo m).length = 4 * m + 3
  | 0 => rfl
  | m + 1 => by rw [unlockTo, List.length_append, unlockTo_length m]; simp; omega
theorem lockAll_length (m : Nat) : (lockAll m).length = 4 * m + 4 := by rw [lockAll, List.length_append, lockTo_length]; rfl
theorem unlockAll_length (m : Nat) : (unlockAll m).length = 4 * m + 4 := by rw [unlockAll, List.length_append, unlockTo_length]; rfl
theorem lockTo_is (K : Nat → ByteArray) (r : Nat) (s : ByteArray) : ∀ k, k < r → okAll K (lockTo k) ⟨0, r + 1, s, []⟩ ∧ runAll K (lockTo k) ⟨0, r + 1, s, []⟩ = ⟨k + 1, r - k, stepS K r s k, upTo (stepS K r s) (k + 1)⟩
  | 0, h => ⟨⟨fun _ => by show 1 ≤ r + 1; omega, trivial⟩, rfl⟩
  | k + 1, h => by
    obtain ⟨h1, h2⟩ := lockTo_is K r s k (by omega)
    refine ⟨okAll_append K _ _ _ h1 ?_, ?_⟩
    · rw [h2]
      exact ⟨fun h => (by cases h), fun h => (by cases h), fun h => (by cases h), fun _ => by show 1 ≤ r - k; omega, trivial⟩
    · rw [lockTo, runAll_append, h2]
      have e : stepS K r s (k + 1) = xorS (mxS (shS 1 (mapT sbox (stepS K r s k)))) (K (k + 1)) := by
        rw [stepS, midS, if_pos h]; rfl
      show (⟨k + 1 + 1, r - k - 1, xorS (mxS (shS 1 (mapT sbox (stepS K r s k)))) (K (k + 1)), upTo (stepS K r s) (k + 1) ++ [xorS (mxS (shS 1 (mapT sbox (stepS K r s k)))) (K (k + 1))]⟩ : Pas) = _
      rw [← e, ← upTo_succ]; rfl
theorem lockAll_is (K : Nat → ByteArray) (m : Nat) (s : ByteArray) : okAll K (lockAll m) ⟨0, m + 2, s, []⟩ ∧ runAll K (lockAll m) ⟨0, m + 2, s, []⟩ = ⟨m + 2, 0, lockS K (m + 1) s, upTo (stepS K (m + 1) s) (m + 2)⟩ := by
  obtain ⟨h1, h2⟩ := lockTo_is K (m + 1) s m (by omega)
  refine ⟨okAll_append K _ _ _ h1 ?_, ?_⟩
  · rw [h2]
    exact ⟨fun h => (by cases h), fun h => (by cases h), fun _ => by show 1 ≤ m + 1 - m; omega, trivial⟩
  · rw [lockAll, runAll_append, h2]
    have e : stepS K (m + 1) s (m + 1) = xorS (shS 1 (mapT sbox (stepS K (m + 1) s m))) (K (m + 1)) := by
      rw [stepS, midS, if_neg (Nat.lt_irrefl _)]; rfl
    show (⟨m + 1 + 1, m + 1 - m - 1, xorS (shS 1 (mapT sbox (stepS K (m + 1) s m))) (K (m + 1)), upTo (stepS K (m + 1) s) (m + 1) ++ [xorS (shS 1 (mapT sbox (stepS K (m + 1) s m))) (K (m + 1))]⟩ : Pas) = _
    rw [← e, ← upTo_succ, lockS, show m + 1 - m - 1 = 0 by omega]
theorem unlockTo_is (K : Nat → ByteArray) (r : Nat) (t : ByteArray) : ∀ k, k < r → okAll K (unlockTo k) ⟨0, r + 1, t, []⟩ ∧ ∃ bs : List ByteArray, bs.length = k + 1 ∧ runAll K (unlockTo k) ⟨0, r + 1, t, []⟩ = ⟨0, r - k, backS K r t (k + 1), bs⟩
  | 0, h => ⟨⟨fun _ => by show 1 ≤ r + 1; omega, fun h => (by cases h), fun h => (by cases h), trivial⟩, [xorS t (K r)], rfl, by
      have e : backS K r t 1 = mapT ubox (shS 3 (xorS t (K r))) := by
        show udS (dimS r (r - 0) (xorS t (K (r - 0)))) = _
        rw [Nat.sub_zero, dimS, if_neg (Nat.lt_irrefl _)]; rfl
      rw [e]
      show (⟨0, r + 1 - 1, mapT ubox (shS 3 (xorS t (K (0 + (r + 1 - 1))))), [] ++ [xorS t (K (0 + (r + 1 - 1)))]⟩ : Pas) = _
      rw [show 0 + (r + 1 - 1) = r by omega, show r + 1 - 1 = r - 0 by omega]; rfl⟩
  | k + 1, h => by
    obtain ⟨h1, bs, hl, h2⟩ := unlockTo_is K r t k (by omega)
    refine ⟨okAll_append K _ _ _ h1 ?_, bs ++ [xorS (backS K r t (k + 1)) (K (r - (k + 1)))], by rw [List.length_append, hl]; rfl, ?_⟩
    · rw [h2]
      exact ⟨fun _ => by show 1 ≤ r - k; omega, fun h => (by cases h), fun h => (by cases h), fun h => (by cases h), trivial⟩
    · rw [unlockTo, runAll_append, h2]
      have e : backS K r t (k + 2) = mapT ubox (shS 3 (unS (xorS (backS K r t (k + 1)) (K (r - (k + 1)))))) := by
        rw [backS, dimS, if_pos (by omega)]; rfl
      rw [e]
      show (⟨0, r - k - 1, mapT ubox (shS 3 (unS (xorS (backS K r t (k + 1)) (K (0 + (r - k - 1)))))), bs ++ [xorS (backS K r t (k + 1)) (K (0 + (r - k - 1)))]⟩ : Pas) = _
      rw [show 0 + (r - k - 1) = r - (k + 1) by omega, show r - k - 1 = r - (k + 1) by omega]
theorem unlockAll_is (K : Nat → ByteArray) (m : Nat) (t : ByteArray) : okAll K (unlockAll m) ⟨0, m + 2, t, []⟩ ∧ ∃ bs : List ByteArray, bs.length = m + 1 ∧ runAll K (unlockAll m) ⟨0, m + 2, t, []⟩ = ⟨0, 0, unlockS K (m + 1) t, bs ++ [unlockS K (m + 1) t]⟩ := by
  obtain ⟨h1, bs, hl, h2⟩ := unlockTo_is K (m + 1) t m (by omega)
  refine ⟨okAll_append K _ _ _ h1 ?_, bs, hl, ?_⟩
  · rw [h2]
    exact ⟨fun _ => by show 1 ≤ m + 1 - m; omega, trivial⟩
  · rw [unlockAll, runAll_append, h2]
    show (⟨0, m + 1 - m - 1, xorS (backS K (m + 1) t (m + 1)) (K (0 + (m + 1 - m - 1))), bs ++ [xorS (backS K (m + 1) t (m + 1)) (K (0 + (m + 1 - m - 1)))]⟩ : Pas) = _
    rw [show 0 + (m + 1 - m - 1) = 0 by omega, show m + 1 - m - 1 = 0 by omega]; rfl
end Go.Proofs.YtipcgdhjlpjcaaaGreatDoor
