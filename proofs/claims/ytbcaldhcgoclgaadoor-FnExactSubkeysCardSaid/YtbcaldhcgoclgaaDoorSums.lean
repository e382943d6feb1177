/-
  Contracts and facts that the laws of this seat use: Xor, XorI.
-/
import Derived.Test.YtbcaldhcgoclgaaDoorProg
import Derived.Test.YtbcaldhcgoclgaaDoorPure
import Derived.Test.YtbcaldhcgoclgaaDoorBase
import Derived.WalkKit
import Derived.LoopTactic
import Derived.OwnWalk
import Derived.WalkLawsBesides
import Derived.WalkSpells
import Derived.Outline
import Derived.Below
import Derived.Laws.AppendOwn
import Derived.Laws.OwnMore
import Derived.Deep.OwnRows
import Derived.Deep.RegionHeld3
import Derived.Deep.DrawnRows
import Derived.Deep.AppendLies
import Derived.Deep.DeepFit
import Derived.Handy
import Derived.StillTailTactics
set_option linter.unusedVariables false
namespace Go.Proofs.YtbcaldhcgoclgaaDoor
open Go.RowKit

attribute [local go_sem] u8_xor_bytes
attribute [local go_sem ↓] Go.wp_at_zero Go.wp_at_succ

theorem xor_rel {a b : ByteArray} {w w2 w1 : World} {k : Nat} {e : TypeId} {u v : Value} {o : Obj} (ha : k < a.size) (hb : k < b.size)
    (hown2 : w2.ownsRow w.heap.size e 1 u k (cells8 (xorTo a b k))) (hbel2 : Below w.heap.size w w2)
    (hown3 : w1.ownsRow w.heap.size e 1 v (k + 1) (cells8 (xorTo a b k) ++ cells8 [a[k] ^^^ b[k]]))
    (hgrow : (w2.alloc o).drew.grownBy w1 u.ownBlock) :
    w1.ownsRow w.heap.size e 1 v (k + 1) (cells8 (xorTo a b (k + 1))) ∧ Below w.heap.size w w1 := by
  refine ⟨?_, ?_⟩
  · rw [xorTo_snoc a b k ha hb, cells8_append]
    exact hown3
  · have h1 : Below w.heap.size w (w2.alloc o).drew := (hbel2.alloc hbel2.size _).drew
    exact h1.grown hgrow h1.size (fun b hb => (hown2.lt b hb).1)

set_option maxRecDepth 100000 in
set_option maxHeartbeats 800000 in
theorem xor_spec (a b : ByteArray) (w : World) (ha : a.size ≤ 1073741824) (hb : b.size ≤ 1073741824) :
    Calls Tryd.prog 18 #[.string a, .string b] w fun e w' => e = .returned (.string ⟨(xorOf a b).toArray⟩) ∧ Below w.heap.size w w' := by
  obtain ⟨i0, hi, hz0, hz1, hz2⟩ := info_parts Tryd.info5
  go_enter Tryd.func18, Tryd.ntmps18
  go_wp2
  go_loopw [5, 6] (fun v i wr => ∃ k : Nat, k ≤ a.size ∧ k ≤ b.size ∧ i = .int .i64 k ∧ wr.ownsRow w.heap.size 5 1 v k (cells8 (xorTo a b k)) ∧ Below w.heap.size w wr) (fun _ i _ => a.size - (intOf i).toNat)
  case atStart => exact ⟨0, Nat.zero_le _, Nat.zero_le _, rfl, World.ownsRow_lit w #[] 0 (Nat.le_refl _) (by simp [maxLen]) rfl, (Below.refl _ _).alloc (Nat.le_refl _) _⟩
  case round =>
    obtain ⟨k, hk, hkb, rfl, hown, hbel⟩ := hrel
    by_cases hlt : k < a.size
    · by_cases hlt2 : k < b.size
      · have hc := a[k].toNat_lt
        have hd := b[k].toNat_lt
        have hc' : (a[k].toNat : Int) < 256 := by omega
        have hd' : (b[k].toNat : Int) < 256 := by omega
        have hk0 : (0 : Int) ≤ (k : Int) := by omega
        have hk1 : (k : Int) < (a.size : Int) := by omega
        have hk2 : (k : Int) < (b.size : Int) := by omega
        clear hc hd
        go_wp2
        go_region_held3 (fun _ => True) (trivial)
          ((refine step_append_lies _ (by rfl) _ _ _ (by rfl) w.heap.size 5 i0 _ 1 1 Tryd.underlying28 hi hz0 hz1 hz2 rfl (by omega) u5 k (cells8 (xorTo a b k)) (by rfl) ((hown.alloc _).drew) ⟨wr.heap.size, 0, none⟩ 1 1 (cells8 [a[k] ^^^ b[k]]) (by rfl) (by rfl) (cells8_one _ _ _) (cells8_oneCell _) (by omega) (by unfold maxLen; omega) (by omega) (by have := hbel.size; simp; omega) (wr.heap.size + 1) (by simp) ?_; intro g cap w1 hown3 hgrow hat hlt3))
        all_goals
          have hrel := xor_rel hlt hlt2 hown hbel hown3 hgrow
          clear hown hbel hown3 hgrow hat hlt3
          go_wp2
          go_roundw
          case rel => exact ⟨k + 1, by omega, by omega, by go_num, hrel.1, hrel.2⟩
          case measure => simp [intOf]; omega
      · have hconv := run_string_own Tryd.underlying28 Tryd.underlying5 Tryd.underlying9 hown
        go_wp2
        go_ret
        exact ⟨ret_str (xorTo_all a b k hk hkb (by omega)), hbel⟩
    · have hconv := run_string_own Tryd.underlying28 Tryd.underlying5 Tryd.underlying9 hown
      go_wp2
      go_ret
      exact ⟨ret_str (xorTo_all a b k hk hkb (by omega)), hbel⟩
end Go.Proofs.YtbcaldhcgoclgaaDoor
set_option linter.unusedVariables false
namespace Go.Proofs.YtbcaldhcgoclgaaDoor
open Go.RowKit

attribute [local go_sem] u8_xor_bytes
attribute [local go_sem ↓] Go.wp_at_zero Go.wp_at_succ

end Go.Proofs.YtbcaldhcgoclgaaDoor
