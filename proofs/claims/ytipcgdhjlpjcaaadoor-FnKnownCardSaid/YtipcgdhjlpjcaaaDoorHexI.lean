/-
  What impl.Hex answers: two digits for each byte.
-/
import Derived.Test.YtipcgdhjlpjcaaaDoorProg
import Derived.Test.YtipcgdhjlpjcaaaDoorPure
import Derived.Test.YtipcgdhjlpjcaaaDoorShelf
import Derived.Test.YtipcgdhjlpjcaaaDoorBase
import Derived.Test.YtipcgdhjlpjcaaaDoorHex
import Derived.WalkKit
import Derived.LoopTactic
import Derived.OwnWalk
import Derived.WalkLawsBesides
import Derived.WalkSpells
import Derived.Outline
import Derived.Below
import Derived.Laws.AppendOwn
import Derived.Laws.OwnMore
import Derived.Deep.OwnRows
import Derived.Deep.RegionHeld3
import Derived.Deep.DrawnRows
import Derived.Deep.AppendLies
import Derived.Deep.DeepFit
import Derived.Handy
set_option linter.unusedVariables false
namespace Go.Proofs.YtipcgdhjlpjcaaaDoor
open Go.RowKit

attribute [local go_sem high] fold_hexTab run_index_hexTab
attribute [local go_sem] u8_and_15
attribute [local go_sem ↓] Go.wp_at_zero Go.wp_at_succ

set_option maxRecDepth 100000 in
set_option maxHeartbeats 800000 in
theorem hex_impl (s : ByteArray) (w : World) (hs : s.size ≤ 1073741824) :
    Calls Tryd.prog 18 #[.string s] w fun e w' => e = .returned (.string ⟨(hexOf s.data.toList).toArray⟩) ∧ Below w.heap.size w w' := by
  obtain ⟨i0, hi, hz0, hz1, hz2⟩ := info_parts Tryd.info5
  have hmk := run_make8_0 Tryd.underlying22 hi hz0 hz1 hz2 (2 * s.size) (by omega) w
  rw [show ((2 * s.size : Nat) : Int) = 2 * (s.size : Int) by omega] at hmk
  go_enter Tryd.func18, Tryd.ntmps18
  go_wp2
  go_outline
  go_loopw [3, 4, 11] (fun v _ i wr => ∃ k : Nat, k ≤ s.size ∧ i = .int .i64 k ∧ wr.ownsRow w.heap.size 5 1 v (2 * k) (cells8 (hexOf (s.data.toList.take k))) ∧ Below w.heap.size w wr) (fun _ _ i _ => s.size - (intOf i).toNat)
  case atStart => exact ⟨0, Nat.zero_le _, rfl, World.ownsRow_made w _ _ (Nat.le_refl _) (by unfold maxLen; omega) (by rw [mk8_size]; omega), (Below.refl _ _).alloc (Nat.le_refl _) _⟩
  case round =>
    obtain ⟨k, hk, rfl, hown, hbel⟩ := hrel
    by_cases hlt : k < s.size
    · have hc := s[k].toNat_lt
      have hc' : (s[k].toNat : Int) < 256 := by omega
      have hd0 : (0 : Int) ≤ (s[k].toNat : Int) / 16 := by omega
      have hd1 : (s[k].toNat : Int) / 16 < 16 := by omega
      have hd2 : (0 : Int) ≤ (s[k].toNat : Int) % 16 := by omega
      have hd3 : (s[k].toNat : Int) % 16 < 16 := by omega
      have hk0 : (0 : Int) ≤ (k : Int) := by omega
      have hk1 : (k : Int) < (s.size : Int) := by omega
      clear hc
      go_wp2
      go_region_held3 (fun _ => True) (trivial)
        ((refine step_append_lies _ (by rfl) _ _ _ (by rfl) w.heap.size 5 i0 _ 1 1 Tryd.underlying22 hi hz0 hz1 hz2 rfl (by omega) u3 (2 * k) (cells8 (hexOf (s.data.toList.take k))) (by rfl) ((hown.alloc _).drew) ⟨wr.heap.size, 0, none⟩ 2 2 (cells8 [hexDig (s[k].toNat / 16), hexDig (s[k].toNat % 16)]) (by rfl) (by rfl) (cells8_two _ _ _ _) (cells8_oneCell _) (by omega) (by unfold maxLen; omega) (by omega) (by have := hbel.size; simp; omega) (wr.heap.size + 1) (by simp) ?_; intro g cap w1 hown3 hgrow hat hlt3))
      all_goals
        have hrel := hex_rel hlt hown hbel hown3 hgrow
        clear hown hbel hown3 hgrow hat hlt3
        go_wp2
        go_roundw
        case rel => exact ⟨k + 1, by omega, by go_num, hrel.1, hrel.2⟩
        case measure => simp [intOf]; omega
    · have hconv := run_string_own Tryd.underlying22 Tryd.underlying5 Tryd.underlying9 hown
      go_wp2
      go_ret
      exact ⟨ret_str (by rw [List.take_of_length_le (by simp; omega)]), hbel⟩
end Go.Proofs.YtipcgdhjlpjcaaaDoor
