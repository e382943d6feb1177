/-
  What impl's PlaneRows and PlaneKey answer; spec's PlaneXor, PlaneSub, PlaneUnsub, PlaneRows, PlaneKey; laws.eqPlanes, laws.toPlanes.
-/
import Derived.Test.YtbbjcgnoialidaaPlR
import Derived.Test.YtbbjcgnoialidaaFpI
import Derived.Test.YtbbjcgnoialidaaShelf
set_option linter.unusedVariables false
set_option linter.unusedSimpArgs false
namespace Go.Proofs.Ytbbjcgnoialidaa
open Go Go.RowKit

theorem pc_txt (s : Nat → UInt8) : pc (byteOf (txt s 64)) = pc s := pc_ext fun i hi => txt_byte s 64 i hi
theorem map_txt (f : UInt8 → UInt8) (s : Nat → UInt8) (n : Nat) : mapT f (txt s n) = txt (fun i => f (s i)) n := by
  unfold mapT txt
  congr 2
  show List.map f (upTo s n) = _
  exact upTo_map s f n
set_option maxRecDepth 100000 in
set_option maxHeartbeats 1600000 in
theorem ToPlanes_txt (s : Nat → UInt8) (w : World) :
    Calls Try.prog 20 #[.string (txt s 64)] w fun e w' => e = .returned (.agg (pc s)) ∧ Below w.heap.size w w' := by
  have h := ToPlanes_spec (txt s 64) w (by rw [txt_size]; omega)
  rwa [pc_txt] at h
set_option maxRecDepth 100000 in
set_option maxHeartbeats 1600000 in
theorem PlaneRows_back (s : Nat → UInt8) (w : World) :
    Calls Try.prog 43 #[.agg (pc s), .bool true] w fun e w' => e = .returned (.agg (pc (rowsB 3 s))) ∧ Below w.heap.size w w' := by
  have C : ∀ W, Hid (Calls Try.prog 66 #[.agg (pc s), .int .i64 3] W fun e w' => e = .returned (.agg (pc (rowsB 3 s))) ∧ Below W.heap.size W w') := fun W => Lib.hid (rows_is s 3 (by omega) W)
  have i1 := planes_info s
  have hsi := planes_info (rowsB 3 s)
  have hone := pc_one (rowsB 3 s)
  have hz : zeroQ.size = (pc (rowsB 3 s)).size := by rw [pc_size]; rfl
  have hbk : Try.prog.built 65 [(0, .agg (pc s))] = some (pc s) := built_blocks _
  generalize pc (rowsB 3 s) = R at *
  generalize pc s = P1 at *
  obtain ⟨W0, hW⟩ : ∃ W0, (w.alloc (.cells P1 27)).alloc (.cells zeroQ 27) = W0 := ⟨_, rfl⟩
  obtain ⟨a1, az, hb0⟩ := newQ2 w _ _ _ _ hW
  have HW := Lib.hid hW
  have A1 := Lib.hid a1
  have AZ := Lib.hid az
  have B0 := Lib.hid hb0
  clear hW a1 az hb0
  unfold zeroQ at HW
  go_enter Try.func43, Try.ntmps43
  go_wp2_with (first
    | (refine wpList_load_row rfl 27 _ rfl w.heap.size rfl 27 P1 (0, 0) _ (by rw [HW.out]; exact A1.out) Try.underlying27 rfl i1 ?_)
    | (refine wpList_buildTo rfl 65 _ rfl (some 7) rfl P1 (Eq.trans (congrArg (Try.prog.built 65) (by kernel_rfl : _ = [(0, Value.agg P1)])) hbk) ?_))
  rw [HW.out]
  refine (C _).out.mono ?_; rintro e w1 ⟨rfl, hb1⟩
  have AZ1 := Lib.hid (AZ.out.up hb1)
  have B1 := Lib.hid (B0.out.trans (hb1.mono B0.out.size))
  have HSR := Lib.hid (AZ1.out.row R)
  have HB := Lib.hid (below_setRow B1.out (show w.heap.size ≤ w.heap.size + 1 by omega) R)
  clear hb1 AZ B0 A1 HW C
  go_wp2_with (refine wpList_store_row rfl 27 _ _ rfl (w.heap.size + 1) R rfl rfl 27 _ (by have h := AZ1.out; exact h) hsi hz hone ?_)
  refine bodyPost_ret (v := .agg R) ?_ rfl ⟨rfl, HB.out⟩
  exact results_cell_row rfl _ _ (w.heap.size + 1) 27 R (0, 0) _ rfl (by have h := HSR.out; exact h) Try.underlying27 rfl hsi
set_option maxRecDepth 100000 in
set_option maxHeartbeats 1600000 in
theorem PlaneRows_there (s : Nat → UInt8) (w : World) :
    Calls Try.prog 43 #[.agg (pc s), .bool false] w fun e w' => e = .returned (.agg (pc (rowsB 1 s))) ∧ Below w.heap.size w w' := by
  have C : ∀ W, Hid (Calls Try.prog 66 #[.agg (pc s), .int .i64 1] W fun e w' => e = .returned (.agg (pc (rowsB 1 s))) ∧ Below W.heap.size W w') := fun W => Lib.hid (rows_is s 1 (by omega) W)
  have i1 := planes_info s
  have hsi := planes_info (rowsB 1 s)
  have hone := pc_one (rowsB 1 s)
  have hz : zeroQ.size = (pc (rowsB 1 s)).size := by rw [pc_size]; rfl
  have hbk : Try.prog.built 65 [(0, .agg (pc s))] = some (pc s) := built_blocks _
  generalize pc (rowsB 1 s) = R at *
  generalize pc s = P1 at *
  obtain ⟨W0, hW⟩ : ∃ W0, (w.alloc (.cells P1 27)).alloc (.cells zeroQ 27) = W0 := ⟨_, rfl⟩
  obtain ⟨a1, az, hb0⟩ := newQ2 w _ _ _ _ hW
  have HW := Lib.hid hW
  have A1 := Lib.hid a1
  have AZ := Lib.hid az
  have B0 := Lib.hid hb0
  clear hW a1 az hb0
  unfold zeroQ at HW
  go_enter Try.func43, Try.ntmps43
  go_wp2_with (first
    | (refine wpList_load_row rfl 27 _ rfl w.heap.size rfl 27 P1 (0, 0) _ (by rw [HW.out]; exact A1.out) Try.underlying27 rfl i1 ?_)
    | (refine wpList_buildTo rfl 65 _ rfl (some 10) rfl P1 (Eq.trans (congrArg (Try.prog.built 65) (by kernel_rfl : _ = [(0, Value.agg P1)])) hbk) ?_))
  rw [HW.out]
  refine (C _).out.mono ?_; rintro e w1 ⟨rfl, hb1⟩
  have AZ1 := Lib.hid (AZ.out.up hb1)
  have B1 := Lib.hid (B0.out.trans (hb1.mono B0.out.size))
  have HSR := Lib.hid (AZ1.out.row R)
  have HB := Lib.hid (below_setRow B1.out (show w.heap.size ≤ w.heap.size + 1 by omega) R)
  clear hb1 AZ B0 A1 HW C
  go_wp2_with (refine wpList_store_row rfl 27 _ _ rfl (w.heap.size + 1) R rfl rfl 27 _ (by have h := AZ1.out; exact h) hsi hz hone ?_)
  refine bodyPost_ret (v := .agg R) ?_ rfl ⟨rfl, HB.out⟩
  exact results_cell_row rfl _ _ (w.heap.size + 1) 27 R (0, 0) _ rfl (by have h := HSR.out; exact h) Try.underlying27 rfl hsi
/-- by how many columns rows are turned on, there and back. -/
def stepOf (back : Bool) : Nat := if back then 3 else 1
theorem PlaneRows_impl (s : Nat → UInt8) (back : Bool) (w : World) :
    Calls Try.prog 43 #[.agg (pc s), .bool back] w fun e w' => e = .returned (.agg (pc (rowsB (stepOf back) s))) ∧ Below w.heap.size w w' := by
  cases back
  · exact PlaneRows_there s w
  · exact PlaneRows_back s w
set_option maxRecDepth 100000 in
set_option maxHeartbeats 1600000 in
theorem PlaneXor_spec (s t : Nat → UInt8) (w : World) :
    Calls Try.prog 27 #[.agg (pc s), .agg (pc t)] w fun e w' => e = .returned (.agg (pc (fun i => s i ^^^ t i))) ∧ Below w.heap.size w w' := by
  obtain ⟨r, hr⟩ : ∃ r : Nat → UInt8, (fun i => s i ^^^ t i) = r := ⟨_, rfl⟩
  have HX : Hid (∀ k, bits .xor .u64 (plW s k : Int) (plW t k : Int) = (plW r k : Int)) := Lib.hid (fun k => by rw [q_xor, hr])
  rw [hr]
  clear hr
  obtain ⟨W, hW⟩ : ∃ W, ((w.alloc (.cells (pc s) 27)).alloc (.cells (pc t) 27)).alloc (.cells zeroQ 27) = W := ⟨_, rfl⟩
  obtain ⟨h1, h2, h3, hb⟩ := newQ3 w _ _ _ _ _ _ hW
  rw [← pcTo_0 r s] at h1
  have HW := Lib.hid hW
  clear hW
  unfold zeroQ at HW
  go_enter Try.func27, Try.ntmps27
  go_wp2
  rw [HW.out]
  go_loopw [5] (fun v wr => ∃ k : Nat, k ≤ 8 ∧ v = .int .i64 k ∧ RQ wr w.heap.size 27 (pcTo r s k) ∧ RQ wr (w.heap.size + 1) 27 (pc t) ∧ RQ wr (w.heap.size + 1 + 1) 27 zeroQ ∧ Below w.heap.size w wr) (fun v _ => 8 - (intOf v).toNat)
  case atStart => exact ⟨0, by omega, rfl, h1, h2, h3, hb⟩
  case round =>
    obtain ⟨k, hk, rfl, g1, g2, g3, hbel⟩ := hrel
    by_cases hlt : k < 8
    · have hk1 : (k : Int) < 8 := by omega
      have hk0 : (0 : Int) ≤ (k : Int) := by omega
      have hc1 := g1.cell (pcTo_hi r s k k hlt (Nat.le_refl _))
      have hc2 := g2.cell (pc_at t k hlt)
      have hfz := g1.fz k
      have hx := HX.out k
      have d1 : RQ wr.drew w.heap.size 27 (pcTo r s k) := g1
      have d2 : RQ wr.drew (w.heap.size + 1) 27 (pc t) := g2
      have d3 : RQ wr.drew (w.heap.size + 1 + 1) 27 zeroQ := g3
      have N1 := fun v hv => Lib.hid (d1.setP (v := v) hv)
      have N2 := fun v => Lib.hid (d2.far (b := w.heap.size) k v (by omega))
      have N3 := fun v => Lib.hid (d3.far (b := w.heap.size) k v (by omega))
      have NB := fun v => Lib.hid (hbel.drew.setCell (p := ⟨w.heap.size, k, none⟩) (Nat.le_refl _) v)
      clear g1 g2 g3 hbel h1 h2 h3 hb d1 d2 d3
      go_wp2
      go_still_tail 9, (by kernel_rfl)
      change wpList _ _ _ _ _ wr.drew
      go_wp2
      go_roundw
      case rel => exact ⟨k + 1, by omega, by go_num, (N1 _ (by first | rfl | rw [HX.out])).out, (N2 _).out, (N3 _).out, (NB _).out⟩
      case measure => simp [intOf]; omega
    · obtain rfl : k = 8 := by omega
      rw [pcTo_8] at g1
      have hone := pc_one r
      have hsi := planes_info r
      have hz : zeroQ.size = (pc r).size := by rw [pc_size]; rfl
      have hsr := g3.row (pc r)
      have hbs : Hid (Below w.heap.size w (wr.setRow (w.heap.size + 1 + 1) (pc r))) := Lib.hid (below_setRow hbel (by omega) _)
      generalize hR : pc r = R at *
      generalize zeroQ = Z at *
      have HR := Lib.hid hR
      clear hR hb hbel h1 h2 h3 HX
      have G1 := Lib.hid g1
      have G3 := Lib.hid g3
      have HSR := Lib.hid hsr
      clear g1 g2 g3 hsr
      unfold RQ at G1 G3 HSR
      go_wp2_with (first
        | (refine wpList_load_row rfl 27 _ rfl w.heap.size rfl 27 R (0, 0) _ G1.out Try.underlying27 rfl hsi ?_)
        | (refine wpList_store_row rfl 27 _ _ rfl (w.heap.size + 1 + 1) R rfl rfl 27 Z G3.out hsi hz hone ?_))
      refine bodyPost_ret (v := .agg R) ?_ rfl ⟨by rw [HR.out], hbs.out⟩
      exact results_cell_row rfl _ _ (w.heap.size + 1 + 1) 27 R (0, 0) _ rfl HSR.out Try.underlying27 rfl hsi
set_option maxRecDepth 100000 in
set_option maxHeartbeats 1600000 in
theorem PlaneSub_spec (s : Nat → UInt8) (w : World) :
    Calls Try.prog 35 #[.agg (pc s)] w fun e w' => e = .returned (.agg (pc (fun i => sbox (s i)))) ∧ Below w.heap.size w w' := by
  have C1 := fun W => Lib.hid (FromPlanes_spec s W)
  have C2 : ∀ W, Hid (Calls Try.prog 29 #[.string (txt s 64)] W fun e w' => e = .returned (.string (txt (fun i => sbox (s i)) 64)) ∧ Below W.heap.size W w') := fun W => Lib.hid (by
    have h := SubText_spec (txt s 64) W (by rw [txt_size]; omega)
    rwa [map_txt] at h)
  have C3 := fun W => Lib.hid (ToPlanes_txt (fun i => sbox (s i)) W)
  have i1 := planes_info s
  have hsi := planes_info (fun i => sbox (s i))
  have hone := pc_one (fun i => sbox (s i))
  have hz : zeroQ.size = (pc (fun i => sbox (s i))).size := by rw [pc_size]; rfl
  generalize pc (fun i => sbox (s i)) = R at *
  generalize pc s = P1 at *
  generalize txt (fun i => sbox (s i)) 64 = T2 at *
  generalize txt s 64 = T1 at *
  obtain ⟨W0, hW⟩ : ∃ W0, (w.alloc (.cells P1 27)).alloc (.cells zeroQ 27) = W0 := ⟨_, rfl⟩
  obtain ⟨a1, az, hb0⟩ := newQ2 w _ _ _ _ hW
  have HW := Lib.hid hW
  have A1 := Lib.hid a1
  have AZ := Lib.hid az
  have B0 := Lib.hid hb0
  clear hW a1 az hb0
  unfold zeroQ at HW
  go_enter Try.func35, Try.ntmps35
  go_wp2_with (refine wpList_load_row rfl 27 _ rfl w.heap.size rfl 27 P1 (0, 0) _ (by rw [HW.out]; exact A1.out) Try.underlying27 rfl i1 ?_)
  rw [HW.out]
  refine (C1 _).out.mono ?_; rintro e w1 ⟨rfl, hb1⟩
  have AZ1 := Lib.hid (AZ.out.up hb1)
  have B1 := Lib.hid (B0.out.trans (hb1.mono B0.out.size))
  clear hb1 AZ B0 A1 HW C1
  go_wp2_with fail
  refine (C2 _).out.mono ?_; rintro e w2 ⟨rfl, hb2⟩
  have AZ2 := Lib.hid (AZ1.out.up hb2)
  have B2 := Lib.hid (B1.out.trans (hb2.mono B1.out.size))
  clear hb2 AZ1 B1 C2
  go_wp2_with fail
  refine (C3 _).out.mono ?_; rintro e w3 ⟨rfl, hb3⟩
  have AZ3 := Lib.hid (AZ2.out.up hb3)
  have B3 := Lib.hid (B2.out.trans (hb3.mono B2.out.size))
  have HSR := Lib.hid (AZ3.out.row R)
  have HB := Lib.hid (below_setRow B3.out (show w.heap.size ≤ w.heap.size + 1 by omega) R)
  clear hb3 AZ2 B2 C3
  go_wp2_with (refine wpList_store_row rfl 27 _ _ rfl (w.heap.size + 1) R rfl rfl 27 _ (by have h := AZ3.out; exact h) hsi hz hone ?_)
  refine bodyPost_ret (v := .agg R) ?_ rfl ⟨rfl, HB.out⟩
  exact results_cell_row rfl _ _ (w.heap.size + 1) 27 R (0, 0) _ rfl (by have h := HSR.out; exact h) Try.underlying27 rfl hsi
set_option maxRecDepth 100000 in
set_option maxHeartbeats 1600000 in
theorem PlaneUnsub_spec (s : Nat → UInt8) (w : World) :
    Calls Try.prog 36 #[.agg (pc s)] w fun e w' => e = .returned (.agg (pc (fun i => ubox (s i)))) ∧ Below w.heap.size w w' := by
  have C1 := fun W => Lib.hid (FromPlanes_spec s W)
  have C2 : ∀ W, Hid (Calls Try.prog 58 #[.string (txt s 64)] W fun e w' => e = .returned (.string (txt (fun i => ubox (s i)) 64)) ∧ Below W.heap.size W w') := fun W => Lib.hid (by
    have h := UnsubText_spec (txt s 64) W (by rw [txt_size]; omega)
    rwa [map_txt] at h)
  have C3 := fun W => Lib.hid (ToPlanes_txt (fun i => ubox (s i)) W)
  have i1 := planes_info s
  have hsi := planes_info (fun i => ubox (s i))
  have hone := pc_one (fun i => ubox (s i))
  have hz : zeroQ.size = (pc (fun i => ubox (s i))).size := by rw [pc_size]; rfl
  generalize pc (fun i => ubox (s i)) = R at *
  generalize pc s = P1 at *
  generalize txt (fun i => ubox (s i)) 64 = T2 at *
  generalize txt s 64 = T1 at *
  obtain ⟨W0, hW⟩ : ∃ W0, (w.alloc (.cells P1 27)).alloc (.cells zeroQ 27) = W0 := ⟨_, rfl⟩
  obtain ⟨a1, az, hb0⟩ := newQ2 w _ _ _ _ hW
  have HW := Lib.hid hW
  have A1 := Lib.hid a1
  have AZ := Lib.hid az
  have B0 := Lib.hid hb0
  clear hW a1 az hb0
  unfold zeroQ at HW
  go_enter Try.func36, Try.ntmps36
  go_wp2_with (refine wpList_load_row rfl 27 _ rfl w.heap.size rfl 27 P1 (0, 0) _ (by rw [HW.out]; exact A1.out) Try.underlying27 rfl i1 ?_)
  rw [HW.out]
  refine (C1 _).out.mono ?_; rintro e w1 ⟨rfl, hb1⟩
  have AZ1 := Lib.hid (AZ.out.up hb1)
  have B1 := Lib.hid (B0.out.trans (hb1.mono B0.out.size))
  clear hb1 AZ B0 A1 HW C1
  go_wp2_with fail
  refine (C2 _).out.mono ?_; rintro e w2 ⟨rfl, hb2⟩
  have AZ2 := Lib.hid (AZ1.out.up hb2)
  have B2 := Lib.hid (B1.out.trans (hb2.mono B1.out.size))
  clear hb2 AZ1 B1 C2
  go_wp2_with fail
  refine (C3 _).out.mono ?_; rintro e w3 ⟨rfl, hb3⟩
  have AZ3 := Lib.hid (AZ2.out.up hb3)
  have B3 := Lib.hid (B2.out.trans (hb3.mono B2.out.size))
  have HSR := Lib.hid (AZ3.out.row R)
  have HB := Lib.hid (below_setRow B3.out (show w.heap.size ≤ w.heap.size + 1 by omega) R)
  clear hb3 AZ2 B2 C3
  go_wp2_with (refine wpList_store_row rfl 27 _ _ rfl (w.heap.size + 1) R rfl rfl 27 _ (by have h := AZ3.out; exact h) hsi hz hone ?_)
  refine bodyPost_ret (v := .agg R) ?_ rfl ⟨rfl, HB.out⟩
  exact results_cell_row rfl _ _ (w.heap.size + 1) 27 R (0, 0) _ rfl (by have h := HSR.out; exact h) Try.underlying27 rfl hsi
end Go.Proofs.Ytbbjcgnoialidaa
