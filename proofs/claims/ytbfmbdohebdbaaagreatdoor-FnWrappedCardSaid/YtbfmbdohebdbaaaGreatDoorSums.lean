/-
  Contracts and facts that the laws of this seat use: Xor, XorI.
-/
import Derived.Test.YtbfmbdohebdbaaaGreatDoorProg
import Derived.Test.YtbfmbdohebdbaaaGreatDoorPure
import Derived.Test.YtbfmbdohebdbaaaGreatDoorBase
import Derived.WalkKit
import Derived.LoopTactic
import Derived.OwnWalk
import Derived.WalkLawsBesides
import Derived.WalkSpells
import Derived.Outline
import Derived.Below
import Derived.Laws.AppendOwn
import Derived.Laws.OwnMore
import Derived.Deep.OwnRows
import Derived.Deep.RegionHeld3
import Derived.Deep.DrawnRows
import Derived.Deep.AppendLies
import Derived.Deep.DeepFit
import Derived.Handy
import Derived.StillTailTactics
set_option linter.unusedVariables false
namespace Go.Proofs.YtbfmbdohebdbaaaGreatDoor
open Go.RowKit

attribute [local go_sem] u8_xor_bytes
attribute [local go_sem ↓] Go.wp_at_zero Go.wp_at_succ

theorem xor_rel {a b : ByteArray} {w w2 w1 : World} {k : Nat} {e : TypeId} {u v : Value} {o : Obj} (ha : k < a.size) (hb : k < b.size)
    (hown2 : w2.ownsRow w.heap.size e 1 u k (cells8 (xorTo a b k))) (hbel2 : Below w.heap.size w w2)
    (hown3 : w1.ownsRow w.heap.size e 1 v (k + 1) (cells8 (xorTo a b k) ++ cells8 [a[k] ^^^ b[k]]))
    (hgrow : (w2.alloc o).drew.grownBy w1 u.ownBlock) :
    w1.ownsRow w.heap.size e 1 v (k + 1) (cells8 (xorTo a b (k + 1))) ∧ Below w.heap.size w w1 := by
  refine ⟨?_, ?_⟩
  · rw [xorTo_snoc a b k ha hb, cells8_append]
    exact hown3
  · have h1 : Below w.heap.size w (w2.alloc o).drew := (hbel2.alloc hbel2.size _).drew
    exact h1.grown hgrow h1.size (fun b hb => (hown2.lt b hb).1)

set_option maxRecDepth 100000 in
set_option maxHeartbeats 800000 in
theorem xor_spec (a b : ByteArray) (w : World) (ha : a.size ≤ 1073741824) (hb : b.size ≤ 1073741824) :
    Calls Tryz.prog 18 #[.string a, .string b] w fun e w' => e = .returned (.string ⟨(xorOf a b).toArray⟩) ∧ Below w.heap.size w w' := by
  obtain ⟨i0, hi, hz0, hz1, hz2⟩ := info_parts Tryz.info5
  go_enter Tryz.func18, Tryz.ntmps18
  go_wp2
  go_loopw [5, 6] (fun v i wr => ∃ k : Nat, k ≤ a.size ∧ k ≤ b.size ∧ i = .int .i64 k ∧ wr.ownsRow w.heap.size 5 1 v k (cells8 (xorTo a b k)) ∧ Below w.heap.size w wr) (fun _ i _ => a.size - (intOf i).toNat)
  case atStart => exact ⟨0, Nat.zero_le _, Nat.zero_le _, rfl, World.ownsRow_lit w #[] 0 (Nat.le_refl _) (by simp [maxLen]) rfl, (Below.refl _ _).alloc (Nat.le_refl _) _⟩
  case round =>
    obtain ⟨k, hk, hkb, rfl, hown, hbel⟩ := hrel
    by_cases hlt : k < a.size
    · by_cases hlt2 : k < b.size
      · have hc := a[k].toNat_lt
        have hd := b[k].toNat_lt
        have hc' : (a[k].toNat : Int) < 256 := by omega
        have hd' : (b[k].toNat : Int) < 256 := by omega
        have hk0 : (0 : Int) ≤ (k : Int) := by omega
        have hk1 : (k : Int) < (a.size : Int) := by omega
        have hk2 : (k : Int) < (b.size : Int) := by omega
        clear hc hd
        go_wp2
        go_region_held3 (fun _ => True) (trivial)
          ((refine step_append_lies _ (by rfl) _ _ _ (by rfl) w.heap.size 5 i0 _ 1 1 Tryz.underlying22 hi hz0 hz1 hz2 rfl (by omega) u5 k (cells8 (xorTo a b k)) (by rfl) ((hown.alloc _).drew) ⟨wr.heap.size, 0, none⟩ 1 1 (cells8 [a[k] ^^^ b[k]]) (by rfl) (by rfl) (cells8_one _ _ _) (cells8_oneCell _) (by omega) (by unfold maxLen; omega) (by omega) (by have := hbel.size; simp; omega) (wr.heap.size + 1) (by simp) ?_; intro g cap w1 hown3 hgrow hat hlt3))
        all_goals
          have hrel := xor_rel hlt hlt2 hown hbel hown3 hgrow
          clear hown hbel hown3 hgrow hat hlt3
          go_wp2
          go_roundw
          case rel => exact ⟨k + 1, by omega, by omega, by go_num, hrel.1, hrel.2⟩
          case measure => simp [intOf]; omega
      · have hconv := run_string_own Tryz.underlying22 Tryz.underlying5 Tryz.underlying9 hown
        go_wp2
        go_ret
        exact ⟨ret_str (xorTo_all a b k hk hkb (by omega)), hbel⟩
    · have hconv := run_string_own Tryz.underlying22 Tryz.underlying5 Tryz.underlying9 hown
      go_wp2
      go_ret
      exact ⟨ret_str (xorTo_all a b k hk hkb (by omega)), hbel⟩
end Go.Proofs.YtbfmbdohebdbaaaGreatDoor
set_option linter.unusedVariables false
namespace Go.Proofs.YtbfmbdohebdbaaaGreatDoor
open Go.RowKit

attribute [local go_sem] u8_xor_bytes
attribute [local go_sem ↓] Go.wp_at_zero Go.wp_at_succ

set_option maxRecDepth 100000 in
set_option maxHeartbeats 800000 in
theorem xor_impl (a b : ByteArray) (w : World) (ha : a.size ≤ 1073741824) (hb : b.size ≤ 1073741824) :
    Calls Tryz.prog 66 #[.string a, .string b] w fun e w' => e = .returned (.string ⟨(xorOf a b).toArray⟩) ∧ Below w.heap.size w w' := by
  obtain ⟨i0, hi, hz0, hz1, hz2⟩ := info_parts Tryz.info5
  obtain ⟨n, hn⟩ : ∃ n, n = min a.size b.size := ⟨_, rfl⟩
  have hna : n ≤ a.size := by omega
  have hnb : n ≤ b.size := by omega
  have hnn : Hid (a.size ≤ n ∨ b.size ≤ n) := Lib.hid (by omega)
  have hmk := run_make8 Tryz.underlying22 hi hz0 hz1 hz2 n n (by omega) (by omega) w
  rw [show (n : Int) = min (a.size : Int) (b.size : Int) by omega] at hmk
  clear hn
  go_enter Tryz.func66, Tryz.ntmps66
  go_wp2
  go_loopw [6, 15] (fun _ i wr => ∃ k : Nat, k ≤ n ∧ i = .int .i64 k ∧ wr.ownsRow w.heap.size 5 1 (.slice (some ⟨w.heap.size, 0, none⟩) n n) n (cells8 (xorRow a b k n)) ∧ Below w.heap.size w wr) (fun _ i _ => n - (intOf i).toNat)
  case atStart =>
    refine ⟨0, Nat.zero_le _, rfl, ?_, (Below.refl _ _).alloc (Nat.le_refl _) _⟩
    have h0 := World.ownsRow_lit w (e := 5) (size := 1) (mk8 n) n (Nat.le_refl w.heap.size) (by unfold maxLen; omega) (by rw [mk8_size]; omega)
    rw [mk8_list] at h0
    rw [xorRow_zero]
    exact h0
  case round =>
    obtain ⟨k, hk, rfl, hown, hbel⟩ := hrel
    by_cases hlt : k < n
    · have hka : k < a.size := by omega
      have hkb : k < b.size := by omega
      have hc := a[k].toNat_lt
      have hd := b[k].toNat_lt
      have hc' : (a[k].toNat : Int) < 256 := by omega
      have hd' : (b[k].toNat : Int) < 256 := by omega
      have hk0 : (0 : Int) ≤ (k : Int) := by omega
      have hk1 : (k : Int) < (a.size : Int) := by omega
      have hk2 : (k : Int) < (b.size : Int) := by omega
      have hk3 : (k : Int) < (n : Int) := by omega
      clear hc hd
      obtain ⟨u, hcell⟩ : ∃ u, wr.cell? ⟨w.heap.size, k, none⟩ = some u := by
        have hl : (cells8 (xorRow a b k n)).length = n := by rw [cells8_length, xorRow_length a b k n hna hnb hk]
        exact ⟨_, (hown.cellAt k (by omega)).trans (List.getElem?_eq_getElem (by omega))⟩
      have hfr := hown.frozenAt k
      have hown2 := hown.stored k (cell8 (a[k] ^^^ b[k]))
      have hbel2 : Below w.heap.size w (wr.setCell ⟨w.heap.size, k, none⟩ (cell8 (a[k] ^^^ b[k]))) := hbel.setCell (Nat.le_refl _) _
      have hcs : (cells8 (xorRow a b k n)).set k (cell8 (a[k] ^^^ b[k])) = cells8 (xorRow a b (k + 1) n) := by rw [← xorRow_set a b k n hna hnb hlt]; simp [cells8, List.map_set]
      rw [hcs] at hown2
      rw [cell8_xor] at hown2 hbel2
      have HO := Lib.hid hown2
      have HB := Lib.hid hbel2
      clear hown2 hbel2 hcs
      go_wp2
      go_still_tail 10, (by kernel_rfl)
      change wpList _ _ _ _ _ wr.drew
      go_wp2
      go_roundw
      case rel => exact ⟨k + 1, by omega, by go_num, HO.out.1, HB.out.drew⟩
      case measure => simp [intOf]; omega
    · have hconv := run_string_own Tryz.underlying22 Tryz.underlying5 Tryz.underlying9 hown
      go_wp2
      go_ret
      exact ⟨ret_str (xorRow_all a b k n hna hnb (by omega) (by omega) hnn.out), hbel⟩
end Go.Proofs.YtbfmbdohebdbaaaGreatDoor
