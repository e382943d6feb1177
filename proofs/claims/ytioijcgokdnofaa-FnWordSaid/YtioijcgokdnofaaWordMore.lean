/-
  More plain facts on words. No program.
-/
import Derived.Test.YtioijcgokdnofaaWordMath
set_option linter.unusedVariables false
namespace Go.Proofs.Ytioijcgokdnofaa
open Go Go.RowKit

theorem putW_getW (t : ByteArray) (i : Nat) (h : i + 4 ≤ t.size) : putW (getW t i) = t.extract i (i + 4) := by
  have hsz : (t.extract i (i + 4)).size = 4 := by simp; omega
  unfold putW getW
  rw [wb0_mk, wb1_mk, wb2_mk, wb3_mk]
  apply ByteArray.ext
  apply Array.ext
  · show 4 = (t.extract i (i + 4)).size
    omega
  · intro j h1 h2
    have hj : j < 4 := h1
    have e : (t.extract i (i + 4)).data[j] = byteOf t (i + j) := by
      have : (t.extract i (i + 4))[j]'(by omega) = byteOf t (i + j) := by rw [ByteArray.getElem_extract, byteOf_at]
      exact this
    rw [e]
    have h4 : j = 0 ∨ j = 1 ∨ j = 2 ∨ j = 3 := by omega
    rcases h4 with rfl | rfl | rfl | rfl <;> rfl
theorem getW_behind (c : UInt8) (x : UInt32) : getW ((⟨#[c]⟩ : ByteArray) ++ putW x) 1 = x := by
  have e : ((⟨#[c]⟩ : ByteArray) ++ putW x) = ⟨#[c, wb x 0, wb x 1, wb x 2, wb x 3]⟩ := by
    apply ByteArray.ext; simp [putW]
  rw [e]; exact mkW_wb x
theorem turned_8 (x : UInt32) : (putW x).extract 1 4 ++ (putW x).extract 0 1 = putW (rot x 8) := by
  rw [rot_b8]
  unfold putW
  rw [wb0_mk, wb1_mk, wb2_mk, wb3_mk]
  apply ByteArray.ext; simp
end Go.Proofs.Ytioijcgokdnofaa
