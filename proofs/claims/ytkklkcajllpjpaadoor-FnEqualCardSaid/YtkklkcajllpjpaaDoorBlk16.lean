/-
  What the functions on blocks of sixteen bytes answer, with the answer's name.
-/
import Derived.Test.YtkklkcajllpjpaaDoorLockM
import Derived.Test.YtkklkcajllpjpaaDoorCols
import Derived.Test.YtkklkcajllpjpaaDoorShift
import Derived.Test.YtkklkcajllpjpaaDoorBase
import Derived.Test.YtkklkcajllpjpaaDoorSums
import Derived.Test.YtkklkcajllpjpaaDoorKey
set_option linter.unusedVariables false
set_option linter.unusedSimpArgs false
namespace Go.Proofs.YtkklkcajllpjpaaDoor
open Go Go.RowKit

theorem xor16_impl (a b x : ByteArray) (ha : a.size = 16) (hb : b.size = 16) (hx : xorS a b = x) (w : World) :
    Calls Tryd.prog 14 #[.string a, .string b] w fun e w' => e = .returned (.string x) ∧ Below w.heap.size w w' := by
  rw [← hx, ← xorOf_S a b ha hb]; exact xor_impl a b w (by omega) (by omega)
theorem sub16_impl (a x : ByteArray) (ha : a.size = 16) (hx : mapT sbox a = x) (w : World) :
    Calls Tryd.prog 104 #[.string a] w fun e w' => e = .returned (.string x) ∧ Below w.heap.size w w' := by
  rw [← hx]; exact SubText_impl a w (by omega)
theorem unsub16_impl (a x : ByteArray) (ha : a.size = 16) (hx : mapT ubox a = x) (w : World) :
    Calls Tryd.prog 15 #[.string a] w fun e w' => e = .returned (.string x) ∧ Below w.heap.size w w' := by
  rw [← hx]; exact UnsubText_impl a w (by omega)
theorem unshift16_impl (a x : ByteArray) (ha : a.size = 16) (hx : shS 3 a = x) (w : World) :
    Calls Tryd.prog 16 #[.string a] w fun e w' => e = .returned (.string x) ∧ Below w.heap.size w w' := by
  rw [← hx, ← shT_yes 3 a ha]; exact UnshiftRows_impl a w
theorem rk16_impl (s : ByteArray) (n : Nat) (h : kOf s n) (i : Nat) (hi : i ≤ n + 6) (x : ByteArray) (hx : rkS s n i = x) (w : World) :
    Calls Tryd.prog 17 #[.string s, .int .i64 i] w fun e w' => e = .returned (.string x) ∧ Below w.heap.size w w' := by
  rw [← hx]; exact RoundKey_at s n h i hi w
end Go.Proofs.YtkklkcajllpjpaaDoor
