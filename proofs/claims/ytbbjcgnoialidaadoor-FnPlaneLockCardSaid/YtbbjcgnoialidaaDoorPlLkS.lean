/-
  What spec.LockSliced answers at four blocks.
-/
import Derived.Test.YtbbjcgnoialidaaDoorPlLk
import Derived.Test.YtbbjcgnoialidaaDoorPlU
import Derived.Test.YtbbjcgnoialidaaDoorKey
import Derived.Lib.AppendStr
set_option linter.unusedVariables false
set_option linter.unusedSimpArgs false
namespace Go.Proofs.YtbbjcgnoialidaaDoor
open Go Go.RowKit

theorem cells_up (r : Nat → UInt8) (j : Nat) : cells8 (upTo r (16 * j)) ++ Lib.strCells (blk r j) = cells8 (upTo r (16 * (j + 1))) := by
  have h := congrArg (fun x : ByteArray => x.data.toList) (txt_blk_up r j)
  have h2 : upTo r (16 * j) ++ upTo (fun i => r (16 * j + i)) 16 = upTo r (16 * (j + 1)) := by simpa [txt, blk] using h
  rw [← h2, cells8_append]
  rfl
set_option maxRecDepth 100000 in
set_option maxHeartbeats 3200000 in
theorem each_lock (key : ByteArray) (hk : kOk key) (s r : Nat → UInt8) (hr : ∀ j, j < 4 → lockT key (blk s j) = blk r j) (w : World) :
    Calls Tryd.prog 48 #[.string key, .string (txt s 64), .bool false] w fun e w' => e = .returned (.string (txt r 64)) ∧ Below w.heap.size w w' := by
  obtain ⟨i0, hi, hz0, hz1, hz2⟩ := info_parts Tryd.info5
  have C0 : ∀ W, Hid (Calls Tryd.prog 42 #[.string key] W fun e w' => e = .returned (.bool true) ∧ W = w') := fun W => Lib.hid (by
    have h := KeyOk_spec key W
    rwa [decide_eq_true hk] at h)
  have CL : Hid (∀ j, j < 4 → ∀ W, Calls Tryd.prog 72 #[.string key, .string (blk s j)] W fun e w' => e = .returned (.string (blk r j)) ∧ Below W.heap.size W w') := Lib.hid (fun j hj W => by
    have h := Lock_spec key (blk s j) W
    rwa [hr j hj] at h)
  have HSL := fun j hj i k hi hk W => Lib.hid (slice_blk s j hj i k hi hk W)
  have hls : ((txt s 64).size : Int) = 64 := by rw [txt_size]; rfl
  have HBZ := fun j => Lib.hid (blk_size r j)
  have HU := fun j => Lib.hid (cells_up r j)
  clear hr hk
  generalize txt s 64 = T1 at *
  go_enter Tryd.func48, Tryd.ntmps48
  go_wp2_with fail
  refine (C0 _).out.mono ?_; rintro e w' ⟨rfl, rfl⟩
  clear C0
  go_wp2
  go_loopw [7, 8] (fun v i wr => ∃ j : Nat, j ≤ 4 ∧ i = .int .i64 (16 * (j : Int)) ∧ wr.ownsRow w.heap.size 5 1 v (16 * j) (cells8 (upTo r (16 * j))) ∧ Below w.heap.size w wr) (fun _ i _ => 64 - (intOf i).toNat)
  case atStart => exact ⟨0, by omega, rfl, World.ownsRow_lit w #[] 0 (Nat.le_refl _) (by simp [maxLen]) rfl, (Below.refl _ _).alloc (Nat.le_refl _) _⟩
  case round =>
    obtain ⟨j, hj, rfl, hown, hbel⟩ := hrel
    by_cases hlt : j < 4
    · have hj1 : 16 * (j : Int) < 64 := by omega
      have hj0 : (0 : Int) ≤ (j : Int) := by omega
      have q1 : IntKind.i64.wrap (16 * (j : Int) + 16) = 16 * (j : Int) + 16 := IntWalk.i64_in _ (by omega)
      have hsl := fun W => (HSL j hlt (16 * (j : Int)) (16 * (j : Int) + 16) rfl rfl W).out
      have z2 := HBZ j
      have HS := HU j
      have CJ := fun W => Lib.hid (CL.out j hlt W)
      have HO := Lib.hid hown
      have HB := Lib.hid hbel
      clear HSL HU HBZ CL hown hbel
      generalize blk s j = D1 at *
      generalize blk r j = D at *
      go_wp2_with fail
      refine (CJ _).out.mono ?_; rintro e w2 ⟨rfl, hb2⟩
      have HO2 := Lib.hid (HO.out.kept (row := none) ⟨hb2.os, hb2.tape, hb2.output, hb2.size, fun k hk _ => hb2.block k hk⟩ (Classical.em _))
      have HB2 := Lib.hid (HB.out.trans (hb2.mono HB.out.size))
      clear hb2 HO HB CJ
      go_wp2_with (at_builtin; refine stp ?_)
      refine unstp ?_
      refine Lib.wpList_append_own_string _ rfl (.tmp 35) (.tmp 42) 22 9 rfl w.heap.size 5 i0 Tryd.underlying22 Tryd.underlying9 hi hz0 hz1 hz2 u7 (16 * j) (cells8 (upTo r (16 * j))) rfl HO2.out D rfl (by rw [z2.out]; unfold maxLen; omega) (by rw [z2.out]; omega) HB2.out.size ?_
      intro v5 w5 hown5 hgrow hnil
      rw [HS.out, z2.out, show 16 * j + 16 = 16 * (j + 1) by omega] at hown5
      have HB5 := Lib.hid (HB2.out.grown hgrow HB2.out.size (fun b hb => (HO2.out.lt b hb).1))
      have HO5 := Lib.hid hown5
      clear hown5 hgrow hnil HO2 HB2 HS
      go_wp2
      go_roundw
      case rel => exact ⟨j + 1, by omega, by go_num, HO5.out, HB5.out⟩
      case measure => simp [intOf]; omega
    · obtain rfl : j = 4 := by omega
      have hconv := run_string_own Tryd.underlying22 Tryd.underlying5 Tryd.underlying9 hown
      have HB := Lib.hid hbel
      clear hown hbel HSL HU HBZ CL
      go_wp2
      go_ret
      exact ⟨rfl, HB.out⟩
theorem LockSliced_spec (key : ByteArray) (hk : kOk key) (s r : Nat → UInt8) (hr : ∀ j, j < 4 → lockT key (blk s j) = blk r j) (w : World) :
    Calls Tryd.prog 24 #[.string key, .string (txt s 64)] w fun e w' => e = .returned (.string (txt r 64)) ∧ Below w.heap.size w w' := by
  have C := Lib.hid (each_lock key hk s r hr w)
  generalize txt s 64 = T1 at *
  generalize txt r 64 = T2 at *
  go_enter Tryd.func24, Tryd.ntmps24
  go_wp2_with fail
  refine C.out.mono ?_; rintro e w2 ⟨rfl, hb⟩
  have HB := Lib.hid hb
  clear hb
  go_wp2
  go_ret
  exact ⟨rfl, HB.out⟩
end Go.Proofs.YtbbjcgnoialidaaDoor
