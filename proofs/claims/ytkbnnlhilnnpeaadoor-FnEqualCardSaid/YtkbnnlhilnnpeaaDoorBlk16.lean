/-
  What the functions on blocks of sixteen bytes answer, with the answer's name.
-/
import Derived.Test.YtkbnnlhilnnpeaaDoorLockM
import Derived.Test.YtkbnnlhilnnpeaaDoorCols
import Derived.Test.YtkbnnlhilnnpeaaDoorShift
import Derived.Test.YtkbnnlhilnnpeaaDoorBase
import Derived.Test.YtkbnnlhilnnpeaaDoorSums
import Derived.Test.YtkbnnlhilnnpeaaDoorKey
set_option linter.unusedVariables false
set_option linter.unusedSimpArgs false
namespace Go.Proofs.YtkbnnlhilnnpeaaDoor
open Go Go.RowKit

theorem xor16_impl (a b x : ByteArray) (ha : a.size = 16) (hb : b.size = 16) (hx : xorS a b = x) (w : World) :
    Calls Tryd.prog 33 #[.string a, .string b] w fun e w' => e = .returned (.string x) ∧ Below w.heap.size w w' := by
  rw [← hx, ← xorOf_S a b ha hb]; exact xor_impl a b w (by omega) (by omega)
theorem sub16_impl (a x : ByteArray) (ha : a.size = 16) (hx : mapT sbox a = x) (w : World) :
    Calls Tryd.prog 35 #[.string a] w fun e w' => e = .returned (.string x) ∧ Below w.heap.size w w' := by
  rw [← hx]; exact SubText_impl a w (by omega)
theorem unsub16_impl (a x : ByteArray) (ha : a.size = 16) (hx : mapT ubox a = x) (w : World) :
    Calls Tryd.prog 40 #[.string a] w fun e w' => e = .returned (.string x) ∧ Below w.heap.size w w' := by
  rw [← hx]; exact UnsubText_impl a w (by omega)
theorem shift16_impl (a x : ByteArray) (ha : a.size = 16) (hx : shS 1 a = x) (w : World) :
    Calls Tryd.prog 34 #[.string a] w fun e w' => e = .returned (.string x) ∧ Below w.heap.size w w' := by
  rw [← hx, ← shT_yes 1 a ha]; exact ShiftRows_impl a w
theorem unshift16_impl (a x : ByteArray) (ha : a.size = 16) (hx : shS 3 a = x) (w : World) :
    Calls Tryd.prog 41 #[.string a] w fun e w' => e = .returned (.string x) ∧ Below w.heap.size w w' := by
  rw [← hx, ← shT_yes 3 a ha]; exact UnshiftRows_impl a w
theorem mix16_impl (a x : ByteArray) (ha : a.size = 16) (hx : mxS a = x) (w : World) (hf : MxF w) :
    Calls Tryd.prog 18 #[.string a] w fun e w' => e = .returned (.string x) ∧ Below w.heap.size w w' := by
  rw [← hx, ← mxT_yes a ha]; exact MixColumns_impl a w hf
theorem unmix16_impl (a x : ByteArray) (ha : a.size = 16) (hx : unS a = x) (w : World) (hf : MxF w) :
    Calls Tryd.prog 42 #[.string a] w fun e w' => e = .returned (.string x) ∧ Below w.heap.size w w' := by
  rw [← hx, ← unT_yes a ha]; exact UnmixColumns_impl a w hf
theorem rk16_impl (s : ByteArray) (n : Nat) (h : kOf s n) (i : Nat) (hi : i ≤ n + 6) (x : ByteArray) (hx : rkS s n i = x) (w : World) :
    Calls Tryd.prog 39 #[.string s, .int .i64 i] w fun e w' => e = .returned (.string x) ∧ Below w.heap.size w w' := by
  rw [← hx]; exact RoundKey_at s n h i hi w
end Go.Proofs.YtkbnnlhilnnpeaaDoor
