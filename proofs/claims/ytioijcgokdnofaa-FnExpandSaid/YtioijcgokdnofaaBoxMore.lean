/-
  More plain facts on boxed bytes. No program.
-/
import Derived.Test.YtioijcgokdnofaaBoxMath
set_option linter.unusedVariables false
namespace Go.Proofs.Ytioijcgokdnofaa
open Go Go.RowKit

theorem inv_inv (c : UInt8) : inv (inv c) = c := by
  by_cases h : c = 0
  · rw [h, inv_0, inv_0]
  · exact (field_of c h).2.1
theorem ubox_sbox (c : UInt8) : ubox (sbox c) = c := by unfold ubox sbox; rw [unaff_aff, inv_inv]
theorem sbox_ubox (c : UInt8) : sbox (ubox c) = c := by unfold ubox sbox; rw [inv_inv, aff_unaff]
theorem sbox_ne0 : ∀ n : Fin 256, sbox (UInt8.ofNat n.val) ≠ UInt8.ofNat n.val ∧ (sbox (UInt8.ofNat n.val)).toNat ≠ 255 - n.val := by decide +kernel
theorem sbox_ne (c : UInt8) : sbox c ≠ c ∧ (sbox c).toNat ≠ 255 - c.toNat := by
  have := sbox_ne0 ⟨c.toNat, c.toNat_lt⟩
  simpa using this
theorem sbox_inj {c d : UInt8} (h : sbox c = sbox d) : c = d := by rw [← ubox_sbox c, h, ubox_sbox]
end Go.Proofs.Ytioijcgokdnofaa
