/-
  What spec's LockSliced, UnlockSliced, LockBlocks and UnlockBlocks answer.
-/
import Derived.Test.YtbcaldhcgoclgaaGreatDoorEng
import Derived.Test.YtbcaldhcgoclgaaGreatDoorLockSp
import Derived.Test.YtbcaldhcgoclgaaGreatDoorKey
import Derived.Lib.AppendStr
set_option linter.unusedVariables false
set_option linter.unusedSimpArgs false
namespace Go.Proofs.YtbcaldhcgoclgaaGreatDoor
open Go Go.RowKit
attribute [local go_sem ↓] Go.wp_at_zero Go.wp_at_succ

theorem cut_blk (s : ByteArray) (j : Nat) (h : 16 * j + 16 ≤ s.size) : s.extract (16 * j) (16 * j + 16) = blk (byteOf s) j := by
  have e := txt_blk (byteOf s) s.size j h
  rwa [txt_own s s.size rfl] at e
theorem slice_16 (s : ByteArray) (j : Nat) (h : 16 * j + 16 ≤ s.size) (hs : s.size ≤ 4611686018427387903) (W : World) : (Instr.slice 9 (.string s) (some (.int .i64 (16 * (j : Int)))) (some (.int .i64 (16 * (j : Int) + 16))) none).run Tryz.prog W = .ok (.string (blk (byteOf s) j)) W := by
  have h1 := run_slice_string (P := Tryz.prog) W 9 s .i64 .i64 (16 * (j : Int)) (16 * (j : Int) + 16) Tryz.underlying9 (by omega) (by omega) (by omega)
  rw [h1]
  have e1 : (16 * (j : Int)).toNat = 16 * j := by omega
  have e2 : (16 * (j : Int) + 16).toNat = 16 * j + 16 := by omega
  rw [e1, e2, cut_blk s j h]
theorem each_up (r : Nat → UInt8) (j : Nat) : cells8 (upTo r (16 * j)) ++ Lib.strCells (blk r j) = cells8 (upTo r (16 * (j + 1))) := by
  have h := congrArg (fun x : ByteArray => x.data.toList) (txt_blk_up r j)
  have h2 : upTo r (16 * j) ++ upTo (fun i => r (16 * j + i)) 16 = upTo r (16 * (j + 1)) := by simpa [txt, blk] using h
  rw [← h2, cells8_append]
  rfl
set_option maxRecDepth 100000 in
theorem in_spec (n a b : Int) (w : World) :
    Calls Tryz.prog 55 #[.int .i64 n, .int .i64 a, .int .i64 b] w fun e w' => e = .returned (.bool (decide (a ≤ n ∧ n ≤ b))) ∧ w = w' := by
  by_cases h0 : a ≤ n
  · by_cases h2 : n ≤ b
    · rw [decide_eq_true (And.intro h0 h2)]
      go_enter Tryz.func55, Tryz.ntmps55
      go_wp2
      go_ret
      exact ⟨rfl, rfl⟩
    · rw [decide_eq_false (fun h => h2 h.2)]
      go_enter Tryz.func55, Tryz.ntmps55
      go_wp2
      go_ret
      exact ⟨rfl, rfl⟩
  · rw [decide_eq_false (fun h => h0 h.1)]
    go_enter Tryz.func55, Tryz.ntmps55
    go_wp2
    go_ret
    exact ⟨rfl, rfl⟩
end Go.Proofs.YtbcaldhcgoclgaaGreatDoor
