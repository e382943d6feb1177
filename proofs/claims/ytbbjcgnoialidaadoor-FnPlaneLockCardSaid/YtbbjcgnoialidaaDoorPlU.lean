/-
  What spec's PlaneRows and PlaneTimes answer.
-/
import Derived.Test.YtbbjcgnoialidaaDoorPlT
import Derived.Deep.AppendLies
set_option linter.unusedVariables false
set_option linter.unusedSimpArgs false
namespace Go.Proofs.YtbbjcgnoialidaaDoor
open Go Go.RowKit

theorem slice_blk (s : Nat → UInt8) (j : Nat) (hj : j < 4) (i k : Int) (hi : i = 16 * (j : Int)) (hk : k = 16 * (j : Int) + 16) (W : World) : (Instr.slice 9 (.string (txt s 64)) (some (.int .i64 i)) (some (.int .i64 k)) none).run Tryd.prog W = .ok (.string (blk s j)) W := by
  have hz := txt_size s 64
  have h := run_slice_string (P := Tryd.prog) W 9 (txt s 64) .i64 .i64 i k Tryd.underlying9 (by omega) (by omega) (by rw [hz]; omega)
  rw [h]
  have e1 : i.toNat = 16 * j := by omega
  have e2 : k.toNat = 16 * j + 16 := by omega
  rw [e1, e2, txt_blk s 64 j (by omega)]
set_option maxRecDepth 100000 in
set_option maxHeartbeats 3200000 in
theorem PlaneRows_there_spec (s : Nat → UInt8) (w : World) :
    Calls Tryd.prog 11 #[.agg (pc s), .bool false] w fun e w' => e = .returned (.agg (pc (rowsB 1 s))) ∧ Below w.heap.size w w' := by
  have C1 := fun W => Lib.hid (FromPlanes_spec s W)
  have C2 : ∀ j W, Hid (Calls Tryd.prog 34 #[.string (blk s j)] W fun e w' => e = .returned (.string (blk (rowsB 1 s) j)) ∧ Below W.heap.size W w') := fun j W => Lib.hid (by
    have h := ShiftRows_spec (blk s j) W
    rwa [shT_yes 1 _ (blk_size s j), rowsB_blk] at h)
  have C3 := fun W => Lib.hid (ToPlanes_txt (rowsB 1 s) W)
  have HSL := fun j hj i k hi hk W => Lib.hid (slice_blk s j hj i k hi hk W)
  have HZ := fun n => Lib.hid (txt_size (rowsB 1 s) n)
  have HBZ := fun j => Lib.hid (blk_size (rowsB 1 s) j)
  have HU := fun j => Lib.hid (txt_blk_up (rowsB 1 s) j)
  have i1 := planes_info s
  have hsi := planes_info (rowsB 1 s)
  have hone := pc_one (rowsB 1 s)
  have hz : zeroQ.size = (pc (rowsB 1 s)).size := by rw [pc_size]; rfl
  obtain ⟨r, hr⟩ : ∃ r : Nat → UInt8, rowsB 1 s = r := ⟨_, rfl⟩
  rw [hr] at C3 hsi hone hz ⊢
  simp only [hr] at C2 HZ HBZ HU
  clear hr
  generalize pc r = R at *
  generalize pc s = P1 at *
  generalize txt s 64 = T1 at *
  obtain ⟨W0, hW⟩ : ∃ W0, (w.alloc (.cells P1 26)).alloc (.cells zeroQ 26) = W0 := ⟨_, rfl⟩
  obtain ⟨a1, az, hb0⟩ := newQ2 w _ _ _ _ hW
  have HW := Lib.hid hW
  have A1 := Lib.hid a1
  have AZ := Lib.hid az
  have B0 := Lib.hid hb0
  clear hW a1 az hb0
  unfold zeroQ at HW
  go_enter Tryd.func11, Tryd.ntmps11
  go_wp2_with (refine wpList_load_row rfl 26 _ rfl w.heap.size rfl 26 P1 (0, 0) _ (by rw [HW.out]; exact A1.out) Tryd.underlying26 rfl i1 ?_)
  rw [HW.out]
  refine (C1 _).out.mono ?_; rintro e w1 ⟨rfl, hb1⟩
  have AZ1 := Lib.hid (AZ.out.up hb1)
  have B1 := Lib.hid (B0.out.trans (hb1.mono B0.out.size))
  clear hb1 AZ B0 A1 HW C1
  go_wp2
  go_loopw [6, 7] (fun o i wr => ∃ j : Nat, j ≤ 4 ∧ i = .int .i64 (16 * (j : Int)) ∧ o = .string (txt r (16 * j)) ∧ RQ wr (w.heap.size + 1) 26 zeroQ ∧ Below w.heap.size w wr) (fun _ i _ => 64 - (intOf i).toNat)
  case atStart => exact ⟨0, by omega, rfl, rfl, AZ1.out, B1.out⟩
  case round =>
    obtain ⟨j, hj, rfl, rfl, g1, hbel⟩ := hrel
    have G1 := Lib.hid g1
    have BE := Lib.hid hbel
    clear g1 hbel
    by_cases hlt : j < 4
    · have hj1 : 16 * (j : Int) < 64 := by omega
      have hj0 : (0 : Int) ≤ (j : Int) := by omega
      have q1 : IntKind.i64.wrap (16 * (j : Int) + 16) = 16 * (j : Int) + 16 := IntWalk.i64_in _ (by omega)
      have hsl := fun W => (HSL j hlt (16 * (j : Int)) (16 * (j : Int) + 16) rfl rfl W).out
      have z1 := (HZ (16 * j)).out
      have z2 := (HBZ j).out
      have hcat := fun W => run_string_add_sum (P := Tryd.prog) (w := W) (txt r (16 * j)) (blk r j) (by rw [z1, z2]; omega)
      have hcap : ((txt r (16 * j)).size : Int) + ((blk r j).size : Int) ≤ 140737488355328 := by rw [z1, z2]; omega
      have HS := HU j
      have CJ := fun W => C2 j W
      clear HSL HU HBZ HZ z1 z2 C2
      generalize blk s j = D1 at *
      generalize blk r j = D at *
      generalize txt r (16 * j) = O at *
      go_wp2_with fail
      refine (CJ _).out.mono ?_; rintro e w2 ⟨rfl, hb2⟩
      have G2 := Lib.hid (G1.out.up hb2)
      have B2 := Lib.hid (BE.out.trans (hb2.mono BE.out.size))
      clear hb2 G1 BE CJ
      go_wp2
      go_roundw
      case rel => exact ⟨j + 1, by omega, by go_num, by rw [HS.out], G2.out, B2.out⟩
      case measure => simp [intOf]; omega
    · obtain rfl : j = 4 := by omega
      clear HSL HU HBZ HZ C2
      go_wp2_with fail
      refine (C3 _).out.mono ?_; rintro e w3 ⟨rfl, hb3⟩
      have AZ3 := Lib.hid (G1.out.up hb3)
      have B3 := Lib.hid (BE.out.trans (hb3.mono BE.out.size))
      have HSR := Lib.hid (AZ3.out.row R)
      have HB := Lib.hid (below_setRow B3.out (show w.heap.size ≤ w.heap.size + 1 by omega) R)
      clear hb3 G1 BE C3
      go_wp2_with (refine wpList_store_row rfl 26 _ _ rfl (w.heap.size + 1) R rfl rfl 26 _ (by have h := AZ3.out; exact h) hsi hz hone ?_)
      refine bodyPost_ret (v := .agg R) ?_ rfl ⟨rfl, HB.out⟩
      exact results_cell_row rfl _ _ (w.heap.size + 1) 26 R (0, 0) _ rfl (by have h := HSR.out; exact h) Tryd.underlying26 rfl hsi
set_option maxRecDepth 100000 in
set_option maxHeartbeats 3200000 in
theorem PlaneRows_back_spec (s : Nat → UInt8) (w : World) :
    Calls Tryd.prog 11 #[.agg (pc s), .bool true] w fun e w' => e = .returned (.agg (pc (rowsB 3 s))) ∧ Below w.heap.size w w' := by
  have C1 := fun W => Lib.hid (FromPlanes_spec s W)
  have C2 : ∀ j W, Hid (Calls Tryd.prog 33 #[.string (blk s j)] W fun e w' => e = .returned (.string (blk (rowsB 3 s) j)) ∧ Below W.heap.size W w') := fun j W => Lib.hid (by
    have h := UnshiftRows_spec (blk s j) W
    rwa [shT_yes 3 _ (blk_size s j), rowsB_blk] at h)
  have C3 := fun W => Lib.hid (ToPlanes_txt (rowsB 3 s) W)
  have HSL := fun j hj i k hi hk W => Lib.hid (slice_blk s j hj i k hi hk W)
  have HZ := fun n => Lib.hid (txt_size (rowsB 3 s) n)
  have HBZ := fun j => Lib.hid (blk_size (rowsB 3 s) j)
  have HU := fun j => Lib.hid (txt_blk_up (rowsB 3 s) j)
  have i1 := planes_info s
  have hsi := planes_info (rowsB 3 s)
  have hone := pc_one (rowsB 3 s)
  have hz : zeroQ.size = (pc (rowsB 3 s)).size := by rw [pc_size]; rfl
  obtain ⟨r, hr⟩ : ∃ r : Nat → UInt8, rowsB 3 s = r := ⟨_, rfl⟩
  rw [hr] at C3 hsi hone hz ⊢
  simp only [hr] at C2 HZ HBZ HU
  clear hr
  generalize pc r = R at *
  generalize pc s = P1 at *
  generalize txt s 64 = T1 at *
  obtain ⟨W0, hW⟩ : ∃ W0, (w.alloc (.cells P1 26)).alloc (.cells zeroQ 26) = W0 := ⟨_, rfl⟩
  obtain ⟨a1, az, hb0⟩ := newQ2 w _ _ _ _ hW
  have HW := Lib.hid hW
  have A1 := Lib.hid a1
  have AZ := Lib.hid az
  have B0 := Lib.hid hb0
  clear hW a1 az hb0
  unfold zeroQ at HW
  go_enter Tryd.func11, Tryd.ntmps11
  go_wp2_with (refine wpList_load_row rfl 26 _ rfl w.heap.size rfl 26 P1 (0, 0) _ (by rw [HW.out]; exact A1.out) Tryd.underlying26 rfl i1 ?_)
  rw [HW.out]
  refine (C1 _).out.mono ?_; rintro e w1 ⟨rfl, hb1⟩
  have AZ1 := Lib.hid (AZ.out.up hb1)
  have B1 := Lib.hid (B0.out.trans (hb1.mono B0.out.size))
  clear hb1 AZ B0 A1 HW C1
  go_wp2
  go_loopw [6, 7] (fun o i wr => ∃ j : Nat, j ≤ 4 ∧ i = .int .i64 (16 * (j : Int)) ∧ o = .string (txt r (16 * j)) ∧ RQ wr (w.heap.size + 1) 26 zeroQ ∧ Below w.heap.size w wr) (fun _ i _ => 64 - (intOf i).toNat)
  case atStart => exact ⟨0, by omega, rfl, rfl, AZ1.out, B1.out⟩
  case round =>
    obtain ⟨j, hj, rfl, rfl, g1, hbel⟩ := hrel
    have G1 := Lib.hid g1
    have BE := Lib.hid hbel
    clear g1 hbel
    by_cases hlt : j < 4
    · have hj1 : 16 * (j : Int) < 64 := by omega
      have hj0 : (0 : Int) ≤ (j : Int) := by omega
      have q1 : IntKind.i64.wrap (16 * (j : Int) + 16) = 16 * (j : Int) + 16 := IntWalk.i64_in _ (by omega)
      have hsl := fun W => (HSL j hlt (16 * (j : Int)) (16 * (j : Int) + 16) rfl rfl W).out
      have z1 := (HZ (16 * j)).out
      have z2 := (HBZ j).out
      have hcat := fun W => run_string_add_sum (P := Tryd.prog) (w := W) (txt r (16 * j)) (blk r j) (by rw [z1, z2]; omega)
      have hcap : ((txt r (16 * j)).size : Int) + ((blk r j).size : Int) ≤ 140737488355328 := by rw [z1, z2]; omega
      have HS := HU j
      have CJ := fun W => C2 j W
      clear HSL HU HBZ HZ z1 z2 C2
      generalize blk s j = D1 at *
      generalize blk r j = D at *
      generalize txt r (16 * j) = O at *
      go_wp2_with fail
      refine (CJ _).out.mono ?_; rintro e w2 ⟨rfl, hb2⟩
      have G2 := Lib.hid (G1.out.up hb2)
      have B2 := Lib.hid (BE.out.trans (hb2.mono BE.out.size))
      clear hb2 G1 BE CJ
      go_wp2
      go_roundw
      case rel => exact ⟨j + 1, by omega, by go_num, by rw [HS.out], G2.out, B2.out⟩
      case measure => simp [intOf]; omega
    · obtain rfl : j = 4 := by omega
      clear HSL HU HBZ HZ C2
      go_wp2_with fail
      refine (C3 _).out.mono ?_; rintro e w3 ⟨rfl, hb3⟩
      have AZ3 := Lib.hid (G1.out.up hb3)
      have B3 := Lib.hid (BE.out.trans (hb3.mono BE.out.size))
      have HSR := Lib.hid (AZ3.out.row R)
      have HB := Lib.hid (below_setRow B3.out (show w.heap.size ≤ w.heap.size + 1 by omega) R)
      clear hb3 G1 BE C3
      go_wp2_with (refine wpList_store_row rfl 26 _ _ rfl (w.heap.size + 1) R rfl rfl 26 _ (by have h := AZ3.out; exact h) hsi hz hone ?_)
      refine bodyPost_ret (v := .agg R) ?_ rfl ⟨rfl, HB.out⟩
      exact results_cell_row rfl _ _ (w.heap.size + 1) 26 R (0, 0) _ rfl (by have h := HSR.out; exact h) Tryd.underlying26 rfl hsi
theorem PlaneRows_spec (s : Nat → UInt8) (back : Bool) (w : World) :
    Calls Tryd.prog 11 #[.agg (pc s), .bool back] w fun e w' => e = .returned (.agg (pc (rowsB (stepOf back) s))) ∧ Below w.heap.size w w' := by
  cases back
  · exact PlaneRows_there_spec s w
  · exact PlaneRows_back_spec s w
end Go.Proofs.YtbbjcgnoialidaaDoor
