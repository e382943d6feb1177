/-
  Plain facts on bytes that are turned, moved (aff) and boxed (sbox). No program.
-/
import Derived.Test.YtbgjeipgmlcgaaaDoorFieldMath
set_option linter.unusedVariables false
namespace Go.Proofs.YtbgjeipgmlcgaaaDoor
open Go Go.RowKit

/-- a byte turned up by s places, s at most 8. -/
def rotl (c : UInt8) (s : Nat) : UInt8 := UInt8.ofNat (c.toNat * 2 ^ s % 256 ||| c.toNat / 2 ^ (8 - s))
theorem rotl_nat_all : ∀ (n : Fin 256) (s : Fin 9), (n.val * 2 ^ s.val % 256 ||| n.val / 2 ^ (8 - s.val)) < 256 := by decide +kernel
theorem rotl_nat (c : UInt8) (s : Nat) (h : s ≤ 8) : (rotl c s).toNat = (c.toNat * 2 ^ s % 256 ||| c.toNat / 2 ^ (8 - s)) := by
  have := rotl_nat_all ⟨c.toNat, c.toNat_lt⟩ ⟨s, by omega⟩
  simp only at this
  unfold rotl
  rw [UInt8.toNat_ofNat']
  omega
/-- a byte turned down by p places. -/
def rotr (c : UInt8) (p : Int) : UInt8 := rotl c ((8 - p) % 8).toNat
/-- the sum of the turns by the first k places of a list. -/
def turns (c : UInt8) (l : List Int) : Nat → UInt8
  | 0 => 0
  | k + 1 => turns c l k ^^^ rotr c (l.getD k 0)
def aff (c : UInt8) : UInt8 := rotr c 0 ^^^ rotr c 4 ^^^ rotr c 5 ^^^ rotr c 6 ^^^ rotr c 7 ^^^ 99
def unaff (c : UInt8) : UInt8 := rotr (c ^^^ 99) 2 ^^^ rotr (c ^^^ 99) 5 ^^^ rotr (c ^^^ 99) 7
theorem turns_aff (c : UInt8) : turns c [0, 4, 5, 6, 7] 5 ^^^ 99 = aff c := by
  simp [turns, aff]
theorem turns_unaff (c : UInt8) : turns (c ^^^ 99) [2, 5, 7] 3 = unaff c := by
  simp [turns, unaff]
def sbox (c : UInt8) : UInt8 := aff (inv c)
def ubox (c : UInt8) : UInt8 := inv (unaff c)
theorem of_all {P : UInt8 → Prop} (h : ∀ n : Fin 256, P (UInt8.ofNat n.val)) (c : UInt8) : P c := by
  have := h ⟨c.toNat, c.toNat_lt⟩
  simpa using this
theorem aff_sp0 : ∀ n : Fin 256, aff (UInt8.ofNat n.val) = UInt8.ofNat n.val ^^^ rotl (UInt8.ofNat n.val) 1 ^^^ rotl (UInt8.ofNat n.val) 2 ^^^ rotl (UInt8.ofNat n.val) 3 ^^^ rotl (UInt8.ofNat n.val) 4 ^^^ 99 := by decide +kernel
theorem aff_sp (c : UInt8) : aff c = c ^^^ rotl c 1 ^^^ rotl c 2 ^^^ rotl c 3 ^^^ rotl c 4 ^^^ 99 := of_all (P := fun c => aff c = c ^^^ rotl c 1 ^^^ rotl c 2 ^^^ rotl c 3 ^^^ rotl c 4 ^^^ 99) aff_sp0 c
theorem unaff_sp0 : ∀ n : Fin 256, unaff (UInt8.ofNat n.val) = rotl (UInt8.ofNat n.val) 1 ^^^ rotl (UInt8.ofNat n.val) 3 ^^^ rotl (UInt8.ofNat n.val) 6 ^^^ 5 := by decide +kernel
theorem unaff_sp (c : UInt8) : unaff c = rotl c 1 ^^^ rotl c 3 ^^^ rotl c 6 ^^^ 5 := of_all (P := fun c => unaff c = rotl c 1 ^^^ rotl c 3 ^^^ rotl c 6 ^^^ 5) unaff_sp0 c
theorem unaff_aff0 : ∀ n : Fin 256, unaff (aff (UInt8.ofNat n.val)) = UInt8.ofNat n.val := by decide +kernel
theorem unaff_aff (c : UInt8) : unaff (aff c) = c := of_all (P := fun c => unaff (aff c) = c) unaff_aff0 c
theorem aff_unaff0 : ∀ n : Fin 256, aff (unaff (UInt8.ofNat n.val)) = UInt8.ofNat n.val := by decide +kernel
theorem aff_unaff (c : UInt8) : aff (unaff c) = c := of_all (P := fun c => aff (unaff c) = c) aff_unaff0 c
end Go.Proofs.YtbgjeipgmlcgaaaDoor
