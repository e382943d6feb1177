/-
  Contracts and facts that the laws of this seat use: WordDraw, WordMore, KeyDraw, BlockDraw, AtTold.
-/
import Derived.Test.YtbcaldhcgoclgaaDoorBase
import Derived.Test.YtbcaldhcgoclgaaDoorWord
import Derived.Deep.RegionHeld3
import Derived.Deep.DrawnRows
import Derived.Deep.AppendLies
import Derived.WalkKit
import Derived.LoopTactic
import Derived.OwnWalk
import Derived.WalkLawsBesides
import Derived.WalkSpells
import Derived.Outline
import Derived.Laws.Pointers
import Derived.Deep.QuietTactic
import Derived.BigQuiet
import Derived.IntWalk
import Derived.Test.YtbcaldhcgoclgaaDoorPure
import Derived.Test.YtbcaldhcgoclgaaDoorKey
import Derived.Below
set_option linter.unusedVariables false
namespace Go.Proofs.YtbcaldhcgoclgaaDoor
open Go.RowKit

theorem w32_in64 (x : UInt32) : In64 (x.toNat : Int) := by have := w32_lt x; unfold In64; omega
end Go.Proofs.YtbcaldhcgoclgaaDoor
set_option linter.unusedVariables false
namespace Go.Proofs.YtbcaldhcgoclgaaDoor
open Go Go.RowKit

theorem putW_getW (t : ByteArray) (i : Nat) (h : i + 4 ≤ t.size) : putW (getW t i) = t.extract i (i + 4) := by
  have hsz : (t.extract i (i + 4)).size = 4 := by simp; omega
  unfold putW getW
  rw [wb0_mk, wb1_mk, wb2_mk, wb3_mk]
  apply ByteArray.ext
  apply Array.ext
  · show 4 = (t.extract i (i + 4)).size
    omega
  · intro j h1 h2
    have hj : j < 4 := h1
    have e : (t.extract i (i + 4)).data[j] = byteOf t (i + j) := by
      have : (t.extract i (i + 4))[j]'(by omega) = byteOf t (i + j) := by rw [ByteArray.getElem_extract, byteOf_at]
      exact this
    rw [e]
    have h4 : j = 0 ∨ j = 1 ∨ j = 2 ∨ j = 3 := by omega
    rcases h4 with rfl | rfl | rfl | rfl <;> rfl
theorem getW_behind (c : UInt8) (x : UInt32) : getW ((⟨#[c]⟩ : ByteArray) ++ putW x) 1 = x := by
  have e : ((⟨#[c]⟩ : ByteArray) ++ putW x) = ⟨#[c, wb x 0, wb x 1, wb x 2, wb x 3]⟩ := by
    apply ByteArray.ext; simp [putW]
  rw [e]; exact mkW_wb x
theorem turned_8 (x : UInt32) : (putW x).extract 1 4 ++ (putW x).extract 0 1 = putW (rot x 8) := by
  rw [rot_b8]
  unfold putW
  rw [wb0_mk, wb1_mk, wb2_mk, wb3_mk]
  apply ByteArray.ext; simp
end Go.Proofs.YtbcaldhcgoclgaaDoor
set_option linter.unusedVariables false
namespace Go.Proofs.YtbcaldhcgoclgaaDoor
open Go.RowKit
attribute [local go_sem ↓] Go.wp_at_zero Go.wp_at_succ

theorem bytes_own {w w2 w1 : World} {k : Nat} {e : TypeId} {u v : Value} {o : Obj} {l : List UInt8} {x : Int} (h0 : 0 ≤ x) (h1 : x ≤ 255)
    (hown2 : w2.ownsRow w.heap.size e 1 u k (cells8 l)) (hbel2 : Below w.heap.size w w2)
    (hown3 : w1.ownsRow w.heap.size e 1 v (k + 1) (cells8 l ++ [.int .u8 x]))
    (hgrow : (w2.alloc o).grownBy w1 u.ownBlock) :
    w1.ownsRow w.heap.size e 1 v (k + 1) (cells8 (l ++ [UInt8.ofNat x.toNat])) ∧ Below w.heap.size w w1 := by
  refine ⟨?_, ?_⟩
  · rw [cells8_append, show cells8 [UInt8.ofNat x.toNat] = [.int .u8 x] by rw [cell_byte x h0 h1]; rfl]
    exact hown3
  · have h1 : Below w.heap.size w (w2.alloc o) := hbel2.alloc hbel2.size _
    exact h1.grown hgrow h1.size (fun b hb => (hown2.lt b hb).1)
end Go.Proofs.YtbcaldhcgoclgaaDoor
set_option linter.unusedVariables false
namespace Go.Proofs.YtbcaldhcgoclgaaDoor
open Go.RowKit
attribute [local go_sem ↓] Go.wp_at_zero Go.wp_at_succ

end Go.Proofs.YtbcaldhcgoclgaaDoor
set_option linter.unusedVariables false
namespace Go.Proofs.YtbcaldhcgoclgaaDoor
open Go.RowKit

end Go.Proofs.YtbcaldhcgoclgaaDoor
