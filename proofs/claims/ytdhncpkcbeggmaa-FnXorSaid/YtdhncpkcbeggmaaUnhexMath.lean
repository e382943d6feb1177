/-
  Plain facts on texts of hexadecimal digits. No program.
-/
import Derived.Test.YtdhncpkcbeggmaaMath
import Derived.Lib.Bytealg
set_option linter.unusedVariables false
namespace Go.Proofs.Ytdhncpkcbeggmaa
open Go Go.RowKit

/-- the number of a digit; -1 where it is none. -/
def hexVal (c : UInt8) : Int := if 48 ≤ c.toNat ∧ c.toNat ≤ 57 then (c.toNat : Int) - 48 else if 97 ≤ c.toNat ∧ c.toNat ≤ 102 then (c.toNat : Int) - 87 else -1
theorem hexVal_bd (c : UInt8) : -1 ≤ hexVal c ∧ hexVal c ≤ 15 := by unfold hexVal; split <;> (try split) <;> omega
theorem hexVal_digit (c : UInt8) (h0 : 48 ≤ c.toNat) (h1 : c.toNat ≤ 57) : hexVal c = (c.toNat : Int) - 48 := by unfold hexVal; rw [if_pos ⟨h0, h1⟩]
theorem hexVal_letter (c : UInt8) (h0 : 97 ≤ c.toNat) (h1 : c.toNat ≤ 102) : hexVal c = (c.toNat : Int) - 87 := by unfold hexVal; rw [if_neg (by omega), if_pos ⟨h0, h1⟩]
theorem hexVal_none (c : UInt8) (h : ¬ (48 ≤ c.toNat ∧ c.toNat ≤ 57)) (h1 : ¬ (97 ≤ c.toNat ∧ c.toNat ≤ 102)) : hexVal c = -1 := by unfold hexVal; rw [if_neg h, if_neg h1]
/-- the byte of two digits. -/
def unByte (a b : UInt8) : UInt8 := UInt8.ofNat (16 * hexVal a + hexVal b).toNat
theorem unByte_val (a b : UInt8) (ha : 0 ≤ hexVal a) (hb : 0 ≤ hexVal b) : ((unByte a b).toNat : Int) = 16 * hexVal a + hexVal b := by
  have := hexVal_bd a; have := hexVal_bd b
  unfold unByte
  rw [UInt8.toNat_ofNat']
  omega
/-- the bytes of a text of digits, where it is one. -/
def unhex : List UInt8 → Option (List UInt8)
  | [] => some []
  | [_] => none
  | a :: b :: l => if 0 ≤ hexVal a ∧ 0 ≤ hexVal b then (unhex l).map (unByte a b :: ·) else none
def unhexT (l : List UInt8) : List UInt8 := (unhex l).getD []
def unhexB (l : List UInt8) : Bool := (unhex l).isSome
/-- what is left to do: the bytes pre have come of the first m digits. -/
def UnAt (s : ByteArray) (m : Nat) (pre : List UInt8) : Prop := unhex s.data.toList = (unhex (s.data.toList.drop m)).map (pre ++ ·)
theorem UnAt.start (s : ByteArray) : UnAt s 0 [] := by unfold UnAt; simp
theorem drop_two (s : ByteArray) (m : Nat) (h : m + 1 < s.size) : s.data.toList.drop m = s[m] :: s[m + 1] :: s.data.toList.drop (m + 2) := by
  have hl : s.data.toList.length = s.size := by simp
  rw [List.drop_eq_getElem_cons (by omega), List.drop_eq_getElem_cons (by omega)]
  rfl
theorem UnAt.step {s : ByteArray} {m : Nat} {pre : List UInt8} (hu : UnAt s m pre) (h : m + 1 < s.size) (ha : 0 ≤ hexVal s[m]) (hb : 0 ≤ hexVal s[m + 1]) : UnAt s (m + 2) (pre ++ [unByte s[m] s[m + 1]]) := by
  unfold UnAt at *
  rw [hu, drop_two s m h, unhex, if_pos ⟨ha, hb⟩, Option.map_map]
  congr 1
  funext x
  simp
theorem UnAt.bad {s : ByteArray} {m : Nat} {pre : List UInt8} (hu : UnAt s m pre) (h : m + 1 < s.size) (hn : ¬ (0 ≤ hexVal s[m] ∧ 0 ≤ hexVal s[m + 1])) : unhex s.data.toList = none := by
  unfold UnAt at *
  rw [hu, drop_two s m h, unhex, if_neg hn]
  rfl
theorem UnAt.done {s : ByteArray} {m : Nat} {pre : List UInt8} (hu : UnAt s m pre) (h : s.size ≤ m) : unhex s.data.toList = some pre := by
  have hl : s.data.toList.length = s.size := by simp
  unfold UnAt at *
  rw [hu, List.drop_of_length_le (by omega)]
  simp [unhex]
theorem UnAt.odd {s : ByteArray} {m : Nat} {pre : List UInt8} (hu : UnAt s m pre) (h : s.size = m + 1) : unhex s.data.toList = none := by
  have hl : s.data.toList.length = s.size := by simp
  unfold UnAt at *
  rw [hu, List.drop_eq_getElem_cons (by omega), List.drop_of_length_le (by omega)]
  simp [unhex]
theorem unhex_odd : ∀ (n : Nat) (l : List UInt8), l.length = 2 * n + 1 → unhex l = none
  | 0, l, h => by match l, h with | [x], _ => rfl
  | n + 1, l, h => by
    match l, h with
    | a :: b :: l, h =>
      have := unhex_odd n l (by simp at h; omega)
      unfold unhex; rw [this]; split <;> rfl
theorem unhex_of_none {l : List UInt8} (h : unhex l = none) : unhexT l = [] ∧ unhexB l = false := by simp [unhexT, unhexB, h]
theorem unhex_of_some {l r : List UInt8} (h : unhex l = some r) : unhexT l = r ∧ unhexB l = true := by simp [unhexT, unhexB, h]
theorem index_hex : ∀ n : Fin 256, Lib.indexByte [48, 49, 50, 51, 52, 53, 54, 55, 56, 57, 97, 98, 99, 100, 101, 102] (UInt8.ofNat n.val) = hexVal (UInt8.ofNat n.val) := by decide +kernel
theorem index_hex_byte (c : UInt8) : Lib.indexByte [48, 49, 50, 51, 52, 53, 54, 55, 56, 57, 97, 98, 99, 100, 101, 102] c = hexVal c := by
  have h := index_hex ⟨c.toNat, c.toNat_lt⟩
  simpa using h
end Go.Proofs.Ytdhncpkcbeggmaa
