/-
  Plain facts on decimal numerals. No program.
-/
import Derived.Lib.ItoaNum
import Derived.Lib.ItoaLen
import Derived.Lib.Hide
import Derived.Laws.Concat
import Derived.WalkKit
set_option linter.unusedVariables false
namespace Go.Proofs.YtdhncpkcbeggmaaDoor
open Go Go.RowKit

theorem ret_int {k : IntKind} {a b : Int} (h : a = b) : Ending.returned (.int k a) = .returned (.int k b) := by rw [h]
theorem ret_str {a b : List UInt8} (h : a = b) : Ending.returned (.string ⟨a.toArray⟩) = .returned (.string ⟨b.toArray⟩) := by rw [h]
theorem ret_bytes {a b : ByteArray} (h : a = b) : Ending.returned (.string a) = .returned (.string b) := by rw [h]
/-- the digits of u; none of 0. -/
def decE (u : Nat) : List UInt8 := if u = 0 then [] else Lib.decDigits u
theorem decE_zero : decE 0 = [] := rfl
theorem decE_pos {u : Nat} (h : 0 < u) : decE u = Lib.decDigits u := by unfold decE; rw [if_neg (by omega)]
theorem decE_step {u : Nat} (h : 0 < u) : decE u = decE (u / 10) ++ [UInt8.ofNat (48 + u % 10)] := by
  rw [decE_pos h, Lib.decDigits]
  split
  · rename_i h10
    rw [show u / 10 = 0 by omega, decE_zero, show u % 10 = u by omega]
    rfl
  · rw [decE_pos (u := u / 10) (by omega)]
theorem itoa_pos {n : Int} (h : 0 < n) : Lib.itoa n = decE n.toNat := by
  unfold Lib.itoa; rw [if_neg (by omega), decE_pos (by omega)]
theorem itoa_neg {n : Int} (h : n < 0) : Lib.itoa n = 45 :: decE n.natAbs := by
  unfold Lib.itoa; rw [if_pos h, decE_pos (by omega)]
theorem itoa_zero : Lib.itoa 0 = [48] := by
  unfold Lib.itoa; rw [if_neg (by omega), show (0 : Int).toNat = 0 from rfl, Lib.decDigits_one (by omega)]; rfl
def digs : ByteArray := ⟨#[48, 49, 50, 51, 52, 53, 54, 55, 56, 57]⟩
theorem digs_fin : ∀ d : Fin 10, (digs.extract d.val (d.val + 1)).data.toList = [UInt8.ofNat (48 + d.val)] := by decide +kernel
theorem digs_at (d : Nat) (h : d < 10) : digs.extract d (d + 1) = ⟨[UInt8.ofNat (48 + d)].toArray⟩ := by
  apply ByteArray.ext
  apply Array.toList_inj.1
  rw [digs_fin ⟨d, h⟩]
/-- a text as a list of bytes. -/
def str (l : List UInt8) : ByteArray := ⟨l.toArray⟩
theorem str_size (l : List UInt8) : (str l).size = l.length := by simp [str, ByteArray.size]
theorem str_append (a b : List UInt8) : str a ++ str b = str (a ++ b) := by
  unfold str
  apply ByteArray.ext
  simp
theorem digs_step (u : Nat) (l : List UInt8) : digs.extract (u % 10) (u % 10 + 1) ++ str l = str (UInt8.ofNat (48 + u % 10) :: l) := by
  rw [digs_at _ (Nat.mod_lt _ (by omega))]
  exact str_append [UInt8.ofNat (48 + u % 10)] l
theorem decE_len : ∀ (k u : Nat), u < 10 ^ k → (decE u).length ≤ k
  | 0, u, h => by
    have : u = 0 := by simpa using h
    subst this; simp [decE_zero]
  | k + 1, u, h => by
    rcases Nat.eq_zero_or_pos u with h0 | h0
    · subst h0; simp [decE_zero]
    · have ih := decE_len k (u / 10) (by rw [Nat.pow_succ] at h; omega)
      rw [decE_step h0, List.length_append]; simp; omega
theorem dec_inv {N u : Nat} {l : List UInt8} (hu : 0 < u) (h : decE u ++ l = decE N) : decE (u / 10) ++ (UInt8.ofNat (48 + u % 10) :: l) = decE N := by
  rw [← h, decE_step hu]
  simp
theorem dec_len {N u k : Nat} {l : List UInt8} (h : decE u ++ l = decE N) (hl : (decE N).length ≤ k) : l.length ≤ k := by
  rw [← h, List.length_append] at hl
  omega
end Go.Proofs.YtdhncpkcbeggmaaDoor
