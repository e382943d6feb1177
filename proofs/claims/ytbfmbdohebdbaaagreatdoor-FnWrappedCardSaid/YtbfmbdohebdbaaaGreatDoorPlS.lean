/-
  What impl's PlaneRows and PlaneKey answer; spec's PlaneXor, PlaneSub, PlaneUnsub, PlaneRows, PlaneKey; laws.eqPlanes, laws.toPlanes.
-/
import Derived.Test.YtbfmbdohebdbaaaGreatDoorPlR
import Derived.Test.YtbfmbdohebdbaaaGreatDoorTpFp
import Derived.Test.YtbfmbdohebdbaaaGreatDoorShelf
set_option linter.unusedVariables false
set_option linter.unusedSimpArgs false
namespace Go.Proofs.YtbfmbdohebdbaaaGreatDoor
open Go Go.RowKit

theorem pc_txt (s : Nat → UInt8) : pc (byteOf (txt s 64)) = pc s := pc_ext fun i hi => txt_byte s 64 i hi
theorem map_txt (f : UInt8 → UInt8) (s : Nat → UInt8) (n : Nat) : mapT f (txt s n) = txt (fun i => f (s i)) n := by
  unfold mapT txt
  congr 2
  show List.map f (upTo s n) = _
  exact upTo_map s f n
set_option maxRecDepth 100000 in
set_option maxHeartbeats 1600000 in
theorem PlaneRows_back (s : Nat → UInt8) (w : World) :
    Calls Tryz.prog 235 #[.agg (pc s), .bool true] w fun e w' => e = .returned (.agg (pc (rowsB 3 s))) ∧ Below w.heap.size w w' := by
  have C : ∀ W, Hid (Calls Tryz.prog 237 #[.agg (pc s), .int .i64 3] W fun e w' => e = .returned (.agg (pc (rowsB 3 s))) ∧ Below W.heap.size W w') := fun W => Lib.hid (rows_is s 3 (by omega) W)
  have i1 := planes_info s
  have hsi := planes_info (rowsB 3 s)
  have hone := pc_one (rowsB 3 s)
  have hz : zeroQ.size = (pc (rowsB 3 s)).size := by rw [pc_size]; rfl
  have hbk : Tryz.prog.built 255 [(0, .agg (pc s))] = some (pc s) := built_blocks _
  generalize pc (rowsB 3 s) = R at *
  generalize pc s = P1 at *
  obtain ⟨W0, hW⟩ : ∃ W0, (w.alloc (.cells P1 135)).alloc (.cells zeroQ 135) = W0 := ⟨_, rfl⟩
  obtain ⟨a1, az, hb0⟩ := newQ2 w _ _ _ _ hW
  have HW := Lib.hid hW
  have A1 := Lib.hid a1
  have AZ := Lib.hid az
  have B0 := Lib.hid hb0
  clear hW a1 az hb0
  unfold zeroQ at HW
  go_enter Tryz.func235, Tryz.ntmps235
  go_wp2_with (first
    | (refine wpList_load_row rfl 135 _ rfl w.heap.size rfl 135 P1 (0, 0) _ (by rw [HW.out]; exact A1.out) Tryz.underlying135 rfl i1 ?_)
    | (refine wpList_buildTo rfl 255 _ rfl (some 7) rfl P1 (Eq.trans (congrArg (Tryz.prog.built 255) (by kernel_rfl : _ = [(0, Value.agg P1)])) hbk) ?_))
  rw [HW.out]
  refine (C _).out.mono ?_; rintro e w1 ⟨rfl, hb1⟩
  have AZ1 := Lib.hid (AZ.out.up hb1)
  have B1 := Lib.hid (B0.out.trans (hb1.mono B0.out.size))
  have HSR := Lib.hid (AZ1.out.row R)
  have HB := Lib.hid (below_setRow B1.out (show w.heap.size ≤ w.heap.size + 1 by omega) R)
  clear hb1 AZ B0 A1 HW C
  go_wp2_with (refine wpList_store_row rfl 135 _ _ rfl (w.heap.size + 1) R rfl rfl 135 _ (by have h := AZ1.out; exact h) hsi hz hone ?_)
  refine bodyPost_ret (v := .agg R) ?_ rfl ⟨rfl, HB.out⟩
  exact results_cell_row rfl _ _ (w.heap.size + 1) 135 R (0, 0) _ rfl (by have h := HSR.out; exact h) Tryz.underlying135 rfl hsi
set_option maxRecDepth 100000 in
set_option maxHeartbeats 1600000 in
theorem PlaneRows_there (s : Nat → UInt8) (w : World) :
    Calls Tryz.prog 235 #[.agg (pc s), .bool false] w fun e w' => e = .returned (.agg (pc (rowsB 1 s))) ∧ Below w.heap.size w w' := by
  have C : ∀ W, Hid (Calls Tryz.prog 237 #[.agg (pc s), .int .i64 1] W fun e w' => e = .returned (.agg (pc (rowsB 1 s))) ∧ Below W.heap.size W w') := fun W => Lib.hid (rows_is s 1 (by omega) W)
  have i1 := planes_info s
  have hsi := planes_info (rowsB 1 s)
  have hone := pc_one (rowsB 1 s)
  have hz : zeroQ.size = (pc (rowsB 1 s)).size := by rw [pc_size]; rfl
  have hbk : Tryz.prog.built 255 [(0, .agg (pc s))] = some (pc s) := built_blocks _
  generalize pc (rowsB 1 s) = R at *
  generalize pc s = P1 at *
  obtain ⟨W0, hW⟩ : ∃ W0, (w.alloc (.cells P1 135)).alloc (.cells zeroQ 135) = W0 := ⟨_, rfl⟩
  obtain ⟨a1, az, hb0⟩ := newQ2 w _ _ _ _ hW
  have HW := Lib.hid hW
  have A1 := Lib.hid a1
  have AZ := Lib.hid az
  have B0 := Lib.hid hb0
  clear hW a1 az hb0
  unfold zeroQ at HW
  go_enter Tryz.func235, Tryz.ntmps235
  go_wp2_with (first
    | (refine wpList_load_row rfl 135 _ rfl w.heap.size rfl 135 P1 (0, 0) _ (by rw [HW.out]; exact A1.out) Tryz.underlying135 rfl i1 ?_)
    | (refine wpList_buildTo rfl 255 _ rfl (some 10) rfl P1 (Eq.trans (congrArg (Tryz.prog.built 255) (by kernel_rfl : _ = [(0, Value.agg P1)])) hbk) ?_))
  rw [HW.out]
  refine (C _).out.mono ?_; rintro e w1 ⟨rfl, hb1⟩
  have AZ1 := Lib.hid (AZ.out.up hb1)
  have B1 := Lib.hid (B0.out.trans (hb1.mono B0.out.size))
  have HSR := Lib.hid (AZ1.out.row R)
  have HB := Lib.hid (below_setRow B1.out (show w.heap.size ≤ w.heap.size + 1 by omega) R)
  clear hb1 AZ B0 A1 HW C
  go_wp2_with (refine wpList_store_row rfl 135 _ _ rfl (w.heap.size + 1) R rfl rfl 135 _ (by have h := AZ1.out; exact h) hsi hz hone ?_)
  refine bodyPost_ret (v := .agg R) ?_ rfl ⟨rfl, HB.out⟩
  exact results_cell_row rfl _ _ (w.heap.size + 1) 135 R (0, 0) _ rfl (by have h := HSR.out; exact h) Tryz.underlying135 rfl hsi
/-- by how many columns rows are turned on, there and back. -/
def stepOf (back : Bool) : Nat := if back then 3 else 1
theorem PlaneRows_impl (s : Nat → UInt8) (back : Bool) (w : World) :
    Calls Tryz.prog 235 #[.agg (pc s), .bool back] w fun e w' => e = .returned (.agg (pc (rowsB (stepOf back) s))) ∧ Below w.heap.size w w' := by
  cases back
  · exact PlaneRows_there s w
  · exact PlaneRows_back s w
end Go.Proofs.YtbfmbdohebdbaaaGreatDoor
