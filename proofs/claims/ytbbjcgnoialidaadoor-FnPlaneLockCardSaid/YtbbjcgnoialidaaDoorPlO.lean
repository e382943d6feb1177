/-
  What impl's PlaneXor, PlaneTimes, PlaneSub and PlaneUnsub answer; the rows of planes.
-/
import Derived.Test.YtbbjcgnoialidaaDoorPlN
set_option linter.unusedVariables false
set_option linter.unusedSimpArgs false
namespace Go.Proofs.YtbbjcgnoialidaaDoor
open Go Go.RowKit

set_option maxRecDepth 100000 in
set_option maxHeartbeats 1600000 in
theorem PlaneXor_impl (s t : Nat → UInt8) (w : World) :
    Calls Tryd.prog 13 #[.agg (pc s), .agg (pc t)] w fun e w' => e = .returned (.agg (pc (fun i => s i ^^^ t i))) ∧ Below w.heap.size w w' := by
  have C := fun W => Lib.hid (xorP s t W)
  have i1 := planes_info s
  have i2 := planes_info t
  have hsi := planes_info (fun i => s i ^^^ t i)
  have hone := pc_one (fun i => s i ^^^ t i)
  have hz : zeroQ.size = (pc (fun i => s i ^^^ t i)).size := by rw [pc_size]; rfl
  generalize pc (fun i => s i ^^^ t i) = R at *
  generalize pc s = P1 at *
  generalize pc t = P2 at *
  obtain ⟨W0, hW⟩ : ∃ W0, ((w.alloc (.cells P1 26)).alloc (.cells P2 26)).alloc (.cells zeroQ 26) = W0 := ⟨_, rfl⟩
  obtain ⟨a1, a2, az, hb0⟩ := newQ3 w _ _ _ _ _ _ hW
  have HW := Lib.hid hW
  have A1 := Lib.hid a1
  have A2 := Lib.hid a2
  have AZ := Lib.hid az
  have B0 := Lib.hid hb0
  clear hW a1 a2 az hb0
  unfold zeroQ at HW
  go_enter Tryd.func13, Tryd.ntmps13
  go_wp2_with (first
    | (refine wpList_load_row rfl 26 _ rfl w.heap.size rfl 26 P1 (0, 0) _ (by rw [HW.out]; exact A1.out) Tryd.underlying26 rfl i1 ?_)
    | (refine wpList_load_row rfl 26 _ rfl (w.heap.size + 1) rfl 26 P2 (0, 0) _ (by rw [HW.out]; exact A2.out) Tryd.underlying26 rfl i2 ?_))
  rw [HW.out]
  refine (C _).out.mono ?_; rintro e w1 ⟨rfl, hb1⟩
  have AZ1 := Lib.hid (AZ.out.up hb1)
  have B1 := Lib.hid (B0.out.trans (hb1.mono B0.out.size))
  have HSR := Lib.hid (AZ1.out.row R)
  have HB := Lib.hid (below_setRow B1.out (show w.heap.size ≤ w.heap.size + 1 + 1 by omega) R)
  clear hb1 AZ B0 A1 A2 HW C
  go_wp2_with (refine wpList_store_row rfl 26 _ _ rfl (w.heap.size + 1 + 1) R rfl rfl 26 _ (by have h := AZ1.out; exact h) hsi hz hone ?_)
  refine bodyPost_ret (v := .agg R) ?_ rfl ⟨rfl, HB.out⟩
  exact results_cell_row rfl _ _ (w.heap.size + 1 + 1) 26 R (0, 0) _ rfl (by have h := HSR.out; exact h) Tryd.underlying26 rfl hsi
set_option maxRecDepth 100000 in
set_option maxHeartbeats 1600000 in
theorem PlaneSub_impl (s : Nat → UInt8) (w : World) :
    Calls Tryd.prog 22 #[.agg (pc s)] w fun e w' => e = .returned (.agg (pc (fun i => sbox (s i)))) ∧ Below w.heap.size w w' := by
  have C1 := fun W => Lib.hid (inverseP s W)
  have C2 := fun W => Lib.hid (affineP (fun i => inv (s i)) W)
  have he : ∀ x : Nat, True := fun _ => trivial
  have i1 := planes_info s
  have hsi := planes_info (fun i => sbox (s i))
  have hone := pc_one (fun i => sbox (s i))
  have hz : zeroQ.size = (pc (fun i => sbox (s i))).size := by rw [pc_size]; rfl
  have e1 : (fun i => aff (inv (s i))) = fun i => sbox (s i) := rfl
  rw [e1] at C2
  obtain ⟨R, hR⟩ : ∃ R, pc (fun i => sbox (s i)) = R := ⟨_, rfl⟩
  rw [hR] at C2 hsi hone hz ⊢
  clear hR he
  generalize pc (fun i => inv (s i)) = P2 at *
  generalize pc s = P1 at *
  obtain ⟨W0, hW⟩ : ∃ W0, (w.alloc (.cells P1 26)).alloc (.cells zeroQ 26) = W0 := ⟨_, rfl⟩
  obtain ⟨a1, az, hb0⟩ := newQ2 w _ _ _ _ hW
  have HW := Lib.hid hW
  have A1 := Lib.hid a1
  have AZ := Lib.hid az
  have B0 := Lib.hid hb0
  clear hW a1 az hb0
  unfold zeroQ at HW
  go_enter Tryd.func22, Tryd.ntmps22
  go_wp2_with (refine wpList_load_row rfl 26 _ rfl w.heap.size rfl 26 P1 (0, 0) _ (by rw [HW.out]; exact A1.out) Tryd.underlying26 rfl i1 ?_)
  rw [HW.out]
  refine (C1 _).out.mono ?_; rintro e w1 ⟨rfl, hb1⟩
  have AZ1 := Lib.hid (AZ.out.up hb1)
  have B1 := Lib.hid (B0.out.trans (hb1.mono B0.out.size))
  clear hb1 AZ B0 A1 HW C1
  go_wp2_with fail
  refine (C2 _).out.mono ?_; rintro e w2 ⟨rfl, hb2⟩
  have AZ2 := Lib.hid (AZ1.out.up hb2)
  have B2 := Lib.hid (B1.out.trans (hb2.mono B1.out.size))
  have HSR := Lib.hid (AZ2.out.row R)
  have HB := Lib.hid (below_setRow B2.out (show w.heap.size ≤ w.heap.size + 1 by omega) R)
  clear hb2 AZ1 B1 C2
  go_wp2_with (refine wpList_store_row rfl 26 _ _ rfl (w.heap.size + 1) R rfl rfl 26 _ (by have h := AZ2.out; exact h) hsi hz hone ?_)
  refine bodyPost_ret (v := .agg R) ?_ rfl ⟨rfl, HB.out⟩
  exact results_cell_row rfl _ _ (w.heap.size + 1) 26 R (0, 0) _ rfl (by have h := HSR.out; exact h) Tryd.underlying26 rfl hsi
end Go.Proofs.YtbbjcgnoialidaaDoor
