/-
  What impl.Hex and spec.Hex answer: two digits for each byte.
-/
import Derived.Test.YtdhncpkcbeggmaaProg
import Derived.Test.YtdhncpkcbeggmaaMath
import Derived.Test.YtdhncpkcbeggmaaShelf
import Derived.Test.YtdhncpkcbeggmaaKit
import Derived.WalkKit
import Derived.LoopTactic
import Derived.OwnWalk
import Derived.WalkLawsBesides
import Derived.WalkSpells
import Derived.Outline
import Derived.Below
import Derived.Laws.AppendOwn
import Derived.Laws.OwnMore
import Derived.Deep.OwnRows
import Derived.Deep.RegionHeld3
import Derived.Deep.DrawnRows
import Derived.Deep.AppendLies
import Derived.Deep.DeepFit
import Derived.Handy
set_option linter.unusedVariables false
namespace Go.Proofs.Ytdhncpkcbeggmaa
open Go.RowKit

attribute [local go_sem high] fold_hexTab run_index_hexTab
attribute [local go_sem] u8_and_15
attribute [local go_sem ↓] Go.wp_at_zero Go.wp_at_succ

theorem Try.info5 : (Try.prog.info? 5).map (fun i => (i.zero, i.size, i.bytes)) = some (some (.int .u8 0), 1, 1) := by kernel_rfl

theorem hex_rel {s : ByteArray} {w w2 w1 : World} {k : Nat} {e : TypeId} {u v : Value} {o : Obj} (hlt : k < s.size)
    (hown2 : w2.ownsRow w.heap.size e 1 u (2 * k) (cells8 (hexOf (s.data.toList.take k)))) (hbel2 : Below w.heap.size w w2)
    (hown3 : w1.ownsRow w.heap.size e 1 v (2 * k + 2) (cells8 (hexOf (s.data.toList.take k)) ++ cells8 [hexDig (s[k].toNat / 16), hexDig (s[k].toNat % 16)]))
    (hgrow : (w2.alloc o).drew.grownBy w1 u.ownBlock) :
    w1.ownsRow w.heap.size e 1 v (2 * (k + 1)) (cells8 (hexOf (s.data.toList.take (k + 1)))) ∧ Below w.heap.size w w1 := by
  refine ⟨?_, ?_⟩
  · rw [hexOf_snoc s k hlt, cells8_append]
    exact hown3
  · have h1 : Below w.heap.size w (w2.alloc o).drew := (hbel2.alloc hbel2.size _).drew
    exact h1.grown hgrow h1.size (fun b hb => (hown2.lt b hb).1)

set_option maxRecDepth 100000 in
set_option maxHeartbeats 800000 in
theorem hex_spec (s : ByteArray) (w : World) (hs : s.size ≤ 1073741824) :
    Calls Try.prog 16 #[.string s] w fun e w' => e = .returned (.string ⟨(hexOf s.data.toList).toArray⟩) ∧ Below w.heap.size w w' := by
  obtain ⟨i0, hi, hz0, hz1, hz2⟩ := info_parts Try.info5
  go_enter Try.func16, Try.ntmps16
  go_wp2
  go_loopw [3, 4] (fun v i wr => ∃ k : Nat, k ≤ s.size ∧ i = .int .i64 k ∧ wr.ownsRow w.heap.size 5 1 v (2 * k) (cells8 (hexOf (s.data.toList.take k))) ∧ Below w.heap.size w wr) (fun _ i _ => s.size - (intOf i).toNat)
  case atStart => exact ⟨0, Nat.zero_le _, rfl, World.ownsRow_lit w #[] 0 (Nat.le_refl _) (by simp [maxLen]) rfl, (Below.refl _ _).alloc (Nat.le_refl _) _⟩
  case round =>
    obtain ⟨k, hk, rfl, hown, hbel⟩ := hrel
    by_cases hlt : k < s.size
    · have hc := s[k].toNat_lt
      have hc' : (s[k].toNat : Int) < 256 := by omega
      have hd0 : (0 : Int) ≤ (s[k].toNat : Int) / 16 := by omega
      have hd1 : (s[k].toNat : Int) / 16 < 16 := by omega
      have hd2 : (0 : Int) ≤ (s[k].toNat : Int) % 16 := by omega
      have hd3 : (s[k].toNat : Int) % 16 < 16 := by omega
      have hk0 : (0 : Int) ≤ (k : Int) := by omega
      have hk1 : (k : Int) < (s.size : Int) := by omega
      clear hc
      go_wp2
      go_region_held3 (fun _ => True) (trivial)
        ((refine step_append_lies _ (by rfl) _ _ _ (by rfl) w.heap.size 5 i0 _ 1 1 Try.underlying22 hi hz0 hz1 hz2 rfl (by omega) u3 (2 * k) (cells8 (hexOf (s.data.toList.take k))) (by rfl) ((hown.alloc _).drew) ⟨wr.heap.size, 0, none⟩ 2 2 (cells8 [hexDig (s[k].toNat / 16), hexDig (s[k].toNat % 16)]) (by rfl) (by rfl) (cells8_two _ _ _ _) (cells8_oneCell _) (by omega) (by unfold maxLen; omega) (by omega) (by have := hbel.size; simp; omega) (wr.heap.size + 1) (by simp) ?_; intro g cap w1 hown3 hgrow hat hlt3))
      all_goals
        have hrel := hex_rel hlt hown hbel hown3 hgrow
        clear hown hbel hown3 hgrow hat hlt3
        go_wp2
        go_roundw
        case rel => exact ⟨k + 1, by omega, by go_num, hrel.1, hrel.2⟩
        case measure => simp [intOf]; omega
    · have hconv := run_string_own Try.underlying22 Try.underlying5 Try.underlying9 hown
      go_wp2
      go_ret
      exact ⟨ret_str (by rw [List.take_of_length_le (by simp; omega)]), hbel⟩
end Go.Proofs.Ytdhncpkcbeggmaa
