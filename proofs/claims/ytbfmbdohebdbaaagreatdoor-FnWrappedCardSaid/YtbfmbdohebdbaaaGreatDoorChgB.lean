/-
  A byte of a text is changed; thirty-one bytes 0.
-/
import Derived.Test.YtbfmbdohebdbaaaGreatDoorDr15
import Derived.Test.YtbfmbdohebdbaaaGreatDoorWideW
import Derived.Test.YtbfmbdohebdbaaaGreatDoorBase
import Derived.StillTailTactics
set_option linter.unusedVariables false
set_option linter.unusedSimpArgs false
namespace Go.Proofs.YtbfmbdohebdbaaaGreatDoor
open Go Go.RowKit
attribute [local go_sem ↓] Go.wp_at_zero Go.wp_at_succ

def chgB (s : ByteArray) (q : Nat) (c : UInt8) : ByteArray := ⟨(s.data.toList.set q (byteOf s q ^^^ c)).toArray⟩
theorem chgB_size (s : ByteArray) (q : Nat) (c : UInt8) : (chgB s q c).size = s.size := by
  show (s.data.toList.set q (byteOf s q ^^^ c)).toArray.size = s.data.size
  simp
theorem chgB_ne (s : ByteArray) (q : Nat) (c : UInt8) (hq : q < s.size) (hc : c ≠ 0) : chgB s q c ≠ s := by
  intro e
  have hl : s.data.toList.length = s.size := rfl
  have h1 : (chgB s q c).data.toList[q]? = s.data.toList[q]? := by rw [e]
  rw [show (chgB s q c).data.toList = s.data.toList.set q (byteOf s q ^^^ c) from rfl, List.getElem?_set_self (by omega), List.getElem?_eq_getElem (by omega)] at h1
  have h2 : byteOf s q = s.data.toList[q] := by unfold byteOf; rw [List.getD_eq_getElem?_getD, List.getElem?_eq_getElem (by omega)]; rfl
  rw [← h2] at h1
  have h3 := Option.some.inj h1
  have h4 : (byteOf s q ^^^ c) ^^^ byteOf s q = 0 := by rw [h3, UInt8.xor_self]
  rw [UInt8.xor_comm (byteOf s q) c, UInt8.xor_assoc, UInt8.xor_self, UInt8.xor_zero] at h4
  exact hc h4
/-- thirty-one bytes 0. -/
def z31 : ByteArray := ⟨(List.replicate 31 0).toArray⟩
theorem z31_made (w : World) : ∃ v, (Instr.makeSlice 22 (.int .i64 31) (.int .i64 31)).run Tryz.prog w = .ok v (w.alloc (.cells (mk8 31) 5)) ∧ (convert 22 9 v).run Tryz.prog (w.alloc (.cells (mk8 31) 5)) = .ok (.string z31) (w.alloc (.cells (mk8 31) 5)) := by
  obtain ⟨i0, hi, hz0, hz1, hz2⟩ := info_parts Tryz.info5
  refine ⟨_, run_make8 Tryz.underlying22 hi hz0 hz1 hz2 31 31 (by omega) (by omega) w, ?_⟩
  have h0 := World.ownsRow_lit w (e := 5) (size := 1) (mk8 31) 31 (Nat.le_refl w.heap.size) (by unfold maxLen; omega) (by rw [mk8_size])
  rw [mk8_list] at h0
  exact run_string_own Tryz.underlying22 Tryz.underlying5 Tryz.underlying9 h0
end Go.Proofs.YtbfmbdohebdbaaaGreatDoor
