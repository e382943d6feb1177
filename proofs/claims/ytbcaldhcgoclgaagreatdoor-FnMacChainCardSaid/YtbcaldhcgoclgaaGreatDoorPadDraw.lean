/-
  Draws of texts that are padded, and of blocks that are counted.
-/
import Derived.Test.YtbcaldhcgoclgaaGreatDoorBent
import Derived.Test.YtbcaldhcgoclgaaGreatDoorDraws
import Derived.Test.YtbcaldhcgoclgaaGreatDoorPadW
set_option linter.unusedVariables false
namespace Go.Proofs.YtbcaldhcgoclgaaGreatDoor
open Go.RowKit
attribute [local go_sem ↓] Go.wp_at_zero Go.wp_at_succ

set_option maxRecDepth 100000 in
set_option maxHeartbeats 1600000 in
theorem text11_any (w : World) (B g : Nat) (A : Option Addr) (len cap : Nat) (hc : CurIn w B g A len cap) :
    Calls Tryz.prog 38 #[.pointer (some ⟨g, 0, none⟩)] w fun e w' => ∃ s : ByteArray, e = .returned (.string s) ∧ s.size ≤ 100 ∧ CurIn w' B g A len cap ∧ w.grownBy w' (some g) := by
  go_enter Tryz.func38, Tryz.ntmps38
  go_wp2_with fail
  refine (below_any _ (by omega) (by omega) _ _ _ _ _ _ hc).mono ?_; rintro e w1 ⟨x, rfl, hx0, hx1, hc1, hg1⟩
  go_wp2_with fail
  refine (pickint_any (fun u => 0 ≤ u ∧ u ≤ 100) 9 w1.heap.size 3 _ (by omega) (by omega) _ _ _ _ _ _ (hc1.alloc _) (heap_alloc_new w1 _) hc1.lt (lits [0, 1, 15, 16, 17, 31, 32, 40, x] (by simp; omega))).mono ?_
  rintro e w2 ⟨u, rfl, ⟨hu0, hu1⟩, hc2, hg2⟩
  obtain ⟨n, rfl⟩ := Int.eq_ofNat_of_zero_le hu0
  go_wp2_with fail
  refine (bytes_any n (by omega) _ _ _ _ _ _ hc2).mono ?_; rintro e w3 ⟨s, rfl, hs, hc3, hg3⟩
  have HK : Hid (s.size ≤ 100) := Lib.hid (by omega)
  clear hs
  go_wp2
  go_ret
  exact ⟨_, rfl, HK.out, hc3, only_trans (only_trans (only_alloc hg1 _) hg2) hg3⟩
/-- a literal of sixteen bytes, as a text. -/
theorem lit16 (x : Int) (h0 : 0 ≤ x) (h1 : x ≤ 255) (w : World) :
    ∃ s : ByteArray, s.size = 16 ∧ (convert 22 9 (.slice (some ⟨w.heap.size, 0, none⟩) 16 16)).run Tryz.prog (w.alloc (.cells #[.int .u8 255, .int .u8 255, .int .u8 255, .int .u8 255, .int .u8 255, .int .u8 255, .int .u8 255, .int .u8 255, .int .u8 255, .int .u8 255, .int .u8 255, .int .u8 255, .int .u8 255, .int .u8 255, .int .u8 255, .int .u8 x] 5)) = .ok (.string s) (w.alloc (.cells #[.int .u8 255, .int .u8 255, .int .u8 255, .int .u8 255, .int .u8 255, .int .u8 255, .int .u8 255, .int .u8 255, .int .u8 255, .int .u8 255, .int .u8 255, .int .u8 255, .int .u8 255, .int .u8 255, .int .u8 255, .int .u8 x] 5)) := by
  rw [cell_byte x h0 h1]
  have h : (w.alloc (.cells #[cell8 255, cell8 255, cell8 255, cell8 255, cell8 255, cell8 255, cell8 255, cell8 255, cell8 255, cell8 255, cell8 255, cell8 255, cell8 255, cell8 255, cell8 255, cell8 (UInt8.ofNat x.toNat)] 5)).ownsRow w.heap.size 5 1 (.slice (some ⟨w.heap.size, 0, none⟩) 16 16) 16 (cells8 [255, 255, 255, 255, 255, 255, 255, 255, 255, 255, 255, 255, 255, 255, 255, UInt8.ofNat x.toNat]) :=
    World.ownsRow_lit w (e := 5) (size := 1) #[cell8 255, cell8 255, cell8 255, cell8 255, cell8 255, cell8 255, cell8 255, cell8 255, cell8 255, cell8 255, cell8 255, cell8 255, cell8 255, cell8 255, cell8 255, cell8 (UInt8.ofNat x.toNat)] 16 (Nat.le_refl w.heap.size) (by unfold maxLen; omega) rfl
  exact ⟨_, rfl, run_string_own Tryz.underlying22 Tryz.underlying5 Tryz.underlying9 h⟩
end Go.Proofs.YtbcaldhcgoclgaaGreatDoor
