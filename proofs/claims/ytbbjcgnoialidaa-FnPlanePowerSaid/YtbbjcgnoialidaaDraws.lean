/-
  Contracts and facts that the laws of this seat use: BlockDraw, AtTold.
-/
import Derived.Test.YtbbjcgnoialidaaBase
import Derived.WalkKit
import Derived.LoopTactic
import Derived.OwnWalk
import Derived.WalkLawsBesides
import Derived.WalkSpells
import Derived.Outline
import Derived.Below
set_option linter.unusedVariables false
namespace Go.Proofs.Ytbbjcgnoialidaa
open Go.RowKit
attribute [local go_sem ↓] Go.wp_at_zero Go.wp_at_succ

end Go.Proofs.Ytbbjcgnoialidaa
set_option linter.unusedVariables false
namespace Go.Proofs.Ytbbjcgnoialidaa
open Go.RowKit

/-- a byte of the code, or a number told by its place and the code's length: the same in every world to come. -/
theorem at_told (i : Nat) (hi : i ≤ 1000) (w : World) (A : Option Addr) (len cap : Nat) (h : CodeAt w w.heap.size A len) (hl : len ≤ 1048576) :
    ∃ v : UInt8, ∀ W, Below w.heap.size w W → Hid (Calls Try.prog 62 #[.slice A len cap, .int .i64 i] W fun e w' => e = .returned (.int .i64 v.toNat) ∧ w' = W) := by
  by_cases hlt : i < len
  · obtain ⟨b, o, x, rfl, hb, hx, hcell⟩ := h i hlt
    have hv : (UInt8.ofNat x).toNat = x := by rw [UInt8.toNat_ofNat']; omega
    refine ⟨UInt8.ofNat x, fun W hW => Lib.hid ?_⟩
    rw [hv]
    have hcell2 := (hW.cell (p := ⟨b, o + i, none⟩) hb).trans hcell
    have h0 : (0 : Int) ≤ (i : Int) := by omega
    have h1 : (i : Int) < (len : Int) := by omega
    clear hW hcell h hv
    go_enter Try.func62, Try.ntmps62
    go_wp2
    go_ret
    exact ⟨rfl, rfl⟩
  · have hv : (UInt8.ofNat ((i * 7 + len) % 256)).toNat = (i * 7 + len) % 256 := by rw [UInt8.toNat_ofNat']; omega
    refine ⟨UInt8.ofNat ((i * 7 + len) % 256), fun W hW => Lib.hid ?_⟩
    rw [hv]
    have h1 : ¬ (i : Int) < (len : Int) := by omega
    clear hW h hv
    go_enter Try.func62, Try.ntmps62
    go_wp2
    go_ret
    exact ⟨(congrArg (fun v => Ending.returned (.int .i64 v)) (show (((i * 7 + len) % 256 : Nat) : Int) = ((i : Int) * 7 + (len : Int)) % 256 by omega)).symm, rfl⟩
end Go.Proofs.Ytbbjcgnoialidaa
