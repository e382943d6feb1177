/-
  What impl.LockTable and UnlockTable answer.
-/
import Derived.Test.YtbfmbdohebdbaaaGreatDoorLks
import Derived.Test.YtbfmbdohebdbaaaGreatDoorThru
import Derived.Test.YtbfmbdohebdbaaaGreatDoorTableMath
import Derived.Test.YtbfmbdohebdbaaaGreatDoorLockM
set_option linter.unusedVariables false
set_option linter.unusedSimpArgs false
namespace Go.Proofs.YtbfmbdohebdbaaaGreatDoor
open Go Go.RowKit
attribute [local go_sem ↓] Go.wp_at_zero Go.wp_at_succ

theorem rndTo_cong (T : Nat → UInt8 → UInt32) (d : Nat) (s s' : Nat → UInt32) (h : ∀ j, j < 4 → s j = s' j) (i : Nat) (c : UInt32) : ∀ k, rndTo T d s i c k = rndTo T d s' i c k
  | 0 => rfl
  | k + 1 => by rw [rndTo, rndTo, rndTo_cong T d s s' h i c k, h _ (Nat.mod_lt _ (by omega))]
theorem rndW_cong (T : Nat → UInt8 → UInt32) (d : Nat) (s s' c c' : Nat → UInt32) (h : ∀ j, j < 4 → s j = s' j) (hc : ∀ j, j < 4 → c j = c' j) (i : Nat) (hi : i < 4) : rndW T d s c i = rndW T d s' c' i := by
  unfold rndW; rw [hc i hi]; exact rndTo_cong T d s s' h i _ 4
theorem wlkW_cong (T : Nat → UInt8 → UInt32) (d : Nat) (K K' : Nat → Nat → UInt32) (t : ByteArray) (h : ∀ j i, i < 4 → K j i = K' j i) : ∀ j i, i < 4 → wlkW T d K t j i = wlkW T d K' t j i
  | 0, i, hi => by show colW t i ^^^ K 0 i = colW t i ^^^ K' 0 i; rw [h 0 i hi]
  | j + 1, i, hi => by
    show rndW T d (wlkW T d K t j) (K (j + 1)) i = rndW T d (wlkW T d K' t j) (K' (j + 1)) i
    exact rndW_cong T d _ _ _ _ (fun i hi => wlkW_cong T d K K' t h j i hi) (fun i hi => h (j + 1) i hi) i hi
theorem rev_key (f : Nat → UInt32) (n j i : Nat) (hi : i < 4) : revF f (n + 7) (4 * j + i) = f (4 * (n + 6 - j) + i) := by
  unfold revF
  rw [show (4 * j + i) / 4 = j by omega, show (4 * j + i) % 4 = i by omega, show n + 7 - 1 - j = n + 6 - j by omega]
/-- what is unlocked with the keys turned round. -/
theorem unlock_rev (s : ByteArray) (n : Nat) (t : ByteArray) (ht : t.size = 16) :
    ofW (rndW (boxT ubox) 3 (wlkW utab 3 (fun j i => revF (uw s n) (n + 7) (4 * j + i)) t (n + 5)) (fun i => revF (uw s n) (n + 7) (4 * (n + 5 + 1) + i))) = unlockS (rkS s n) (n + 6) t := by
  rw [← unlock_words s n t ht]
  refine ofW_ext _ _ (fun i hi => rndW_cong _ _ _ _ _ _ (fun i hi => wlkW_cong _ _ _ _ _ (fun j i hi => rev_key _ n j i hi) _ i hi) (fun i hi => rev_key _ n (n + 6) i hi) i hi)
theorem bool_not_t : (!true) = false := rfl
theorem lock_way (key s : ByteArray) (n : Nat) (hn : kOf key n) (hs : s.size = 16) (w : World) (hf : Fac4 w 1 mxF) :
    Calls Tryz.prog 57 #[.string key] w fun e w' => ∃ p, e = .returned (.pointer (some ⟨p, 0, none⟩)) ∧ Hid (∀ w'', w'' = w' → Calls Tryz.prog 222 #[.pointer (some ⟨p, 0, none⟩), .string s] w'' fun e w3 => e = .returned (.string (lockS (rkS key n) (n + 6) s)) ∧ Below w''.heap.size w'' w3) ∧ Hid (Below w.heap.size w w') := by
  have hle := hn.le
  refine (lockTables_impl key n hn w hf).mono ?_
  rintro e w' ⟨p, X, kv, rfl, h1, h2, h3, h4⟩
  refine ⟨p, rfl, Lib.hid fun w'' hw => ?_, Lib.hid h4⟩
  subst hw
  have H := through_impl p s hs X sbox kv 1 (by omega) tab h2 (n + 5) (by omega) (ew key n) w'' h1 h3
  have e := lock_words key n s hs
  rw [← e]; exact H
theorem unlock_way (key s : ByteArray) (n : Nat) (hn : kOf key n) (hs : s.size = 16) (w : World) (hf : Fac4 w 2 unF) :
    Calls Tryz.prog 75 #[.string key] w fun e w' => ∃ p, e = .returned (.pointer (some ⟨p, 0, none⟩)) ∧ Hid (∀ w'', w'' = w' → Calls Tryz.prog 222 #[.pointer (some ⟨p, 0, none⟩), .string s] w'' fun e w3 => e = .returned (.string (unlockS (rkS key n) (n + 6) s)) ∧ Below w''.heap.size w'' w3) ∧ Hid (Below w.heap.size w w') := by
  have hle := hn.le
  refine (unlockTables_impl key n hn w hf).mono ?_
  rintro e w' ⟨p, X, kv, rfl, h1, h2, h3, h4⟩
  refine ⟨p, rfl, Lib.hid fun w'' hw => ?_, Lib.hid h4⟩
  subst hw
  have H := through_impl p s hs X ubox kv 3 (by omega) utab h2 (n + 5) (by omega) (revF (uw key n) (n + 7)) w'' h1 h3
  rw [← unlock_rev key n s hs]; exact H
end Go.Proofs.YtbfmbdohebdbaaaGreatDoor
