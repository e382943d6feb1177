/-
  Walks of the exact laws of planes.
-/
import Derived.Test.YtbbjcgnoialidaaPlV
set_option linter.unusedVariables false
set_option linter.unusedSimpArgs false
namespace Go.Proofs.Ytbbjcgnoialidaa
open Go Go.RowKit

theorem arr8_info (s : Nat → UInt8) : (Try.prog.info? 26).map (·.size) = some (pc s).size := by rw [pc_size]; kernel_rfl
set_option maxRecDepth 100000 in
set_option maxHeartbeats 3200000 in
theorem walk_FnExactToPlanes (a0 : ByteArray) (w : World) :
    Calls Try.prog 7 #[.string a0] w fun e w' => e = .returned (.bool true) ∧ Below w.heap.size w w' := by
  by_cases hs : 1048576 < a0.size
  · have hs' : (1048576 : Int) < (a0.size : Int) := by omega
    go_enter Try.func7, Try.ntmps7
    go_wp2
    go_ret
    exact ⟨rfl, Below.refl _ _⟩
  have hs' : ¬ (1048576 : Int) < (a0.size : Int) := by omega
  have C1 : ∀ W, Hid (Calls Try.prog 20 #[.string a0] W fun e w' => e = .returned (.agg (pc (byteOf a0))) ∧ Below W.heap.size W w') := fun W => Lib.hid (ToPlanes_spec a0 W (by omega))
  have C2 : ∀ W, Hid (Calls Try.prog 17 #[.string a0] W fun e w' => e = .returned (.agg (pc (byteOf a0))) ∧ Below W.heap.size W w') := fun W => Lib.hid (ToPlanes_impl a0 W (by omega))
  have EQ := fun W => Lib.hid (eqp_any (byteOf a0) W)
  have hsi := planes_info (byteOf a0)
  have hone := pc_one (byteOf a0)
  have hz : zeroQ.size = (pc (byteOf a0)).size := by rw [pc_size]; rfl
  unfold zeroQ at hz
  generalize pc (byteOf a0) = R at *
  have B0 : Hid (Below w.heap.size w w) := Lib.hid (Below.refl _ _)
  clear hs
  go_enter Try.func7, Try.ntmps7
  go_wp2_with fail
  refine (C1 _).out.mono ?_; rintro e v1 ⟨rfl, hb⟩
  obtain ⟨W1, hW⟩ : ∃ W1, (v1.alloc (.cells #[.int .u64 0, .int .u64 0, .int .u64 0, .int .u64 0, .int .u64 0, .int .u64 0, .int .u64 0, .int .u64 0] 27)).setRow v1.heap.size R = W1 := ⟨_, rfl⟩
  obtain ⟨nn, nb, nu, nl, ne⟩ := made_at w w v1 _ _ _ B0.out hb hW
  have HW1 := Lib.hid hW
  have B1 := Lib.hid nb
  have N1 := Lib.hid nn
  clear hW nn nb nu nl ne hb B0
  clear C1
  go_wp2_with (refine wpList_store_row rfl 27 _ _ rfl v1.heap.size R rfl rfl 27 _ (heap_alloc_new v1 _) hsi hz hone ?_)
  rw [HW1.out]
  refine (C2 _).out.mono ?_; rintro e v2 ⟨rfl, hb⟩
  obtain ⟨W2, hW⟩ : ∃ W2, (v2.alloc (.cells #[.int .u64 0, .int .u64 0, .int .u64 0, .int .u64 0, .int .u64 0, .int .u64 0, .int .u64 0, .int .u64 0] 27)).setRow v2.heap.size R = W2 := ⟨_, rfl⟩
  obtain ⟨nn, nb, nu, nl, ne⟩ := made_at w W1 v2 _ _ _ B1.out hb hW
  have HW2 := Lib.hid hW
  have B2 := Lib.hid nb
  have N2 := Lib.hid nn
  have N1 := Lib.hid (nu _ _ _ N1.out)
  clear hW nn nb nu nl ne hb B1
  clear C2 HW1
  go_wp2_with (first
    | (refine wpList_store_row rfl 27 _ _ rfl v2.heap.size R rfl rfl 27 _ (heap_alloc_new v2 _) hsi hz hone ?_)
    | (refine wpList_load_row rfl 27 _ rfl v2.heap.size rfl 27 R (0, 0) _ (by rw [HW2.out]; exact N2.out) Try.underlying27 rfl hsi ?_)
    | (refine wpList_load_row rfl 27 _ rfl v1.heap.size rfl 27 R (0, 0) _ (by rw [HW2.out]; exact N1.out) Try.underlying27 rfl hsi ?_))
  rw [HW2.out]
  refine (EQ _).out.mono ?_; rintro e w9 ⟨rfl, hb9⟩
  have BF := Lib.hid (B2.out.trans (hb9.mono B2.out.size))
  clear hb9
  go_wp2
  go_ret
  exact ⟨rfl, BF.out⟩
set_option maxRecDepth 100000 in
set_option maxHeartbeats 3200000 in
theorem walk_FnExactPlaneKey (a0 : ByteArray) (w : World) :
    Calls Try.prog 14 #[.string a0] w fun e w' => e = .returned (.bool true) ∧ Below w.heap.size w w' := by
  by_cases hs : 1048576 < a0.size
  · have hs' : (1048576 : Int) < (a0.size : Int) := by omega
    go_enter Try.func14, Try.ntmps14
    go_wp2
    go_ret
    exact ⟨rfl, Below.refl _ _⟩
  have hs' : ¬ (1048576 : Int) < (a0.size : Int) := by omega
  have C1 : ∀ W, Hid (Calls Try.prog 44 #[.string a0] W fun e w' => e = .returned (.agg (pc (keyB a0))) ∧ Below W.heap.size W w') := fun W => Lib.hid (PlaneKey_spec a0 W)
  have C2 : ∀ W, Hid (Calls Try.prog 45 #[.string a0] W fun e w' => e = .returned (.agg (pc (keyB a0))) ∧ Below W.heap.size W w') := fun W => Lib.hid (PlaneKey_impl a0 W)
  have EQ := fun W => Lib.hid (eqp_any (keyB a0) W)
  have hsi := planes_info (keyB a0)
  have hone := pc_one (keyB a0)
  have hz : zeroQ.size = (pc (keyB a0)).size := by rw [pc_size]; rfl
  unfold zeroQ at hz
  generalize pc (keyB a0) = R at *
  have B0 : Hid (Below w.heap.size w w) := Lib.hid (Below.refl _ _)
  clear hs
  go_enter Try.func14, Try.ntmps14
  go_wp2_with fail
  refine (C1 _).out.mono ?_; rintro e v1 ⟨rfl, hb⟩
  obtain ⟨W1, hW⟩ : ∃ W1, (v1.alloc (.cells #[.int .u64 0, .int .u64 0, .int .u64 0, .int .u64 0, .int .u64 0, .int .u64 0, .int .u64 0, .int .u64 0] 27)).setRow v1.heap.size R = W1 := ⟨_, rfl⟩
  obtain ⟨nn, nb, nu, nl, ne⟩ := made_at w w v1 _ _ _ B0.out hb hW
  have HW1 := Lib.hid hW
  have B1 := Lib.hid nb
  have N1 := Lib.hid nn
  clear hW nn nb nu nl ne hb B0
  clear C1
  go_wp2_with (refine wpList_store_row rfl 27 _ _ rfl v1.heap.size R rfl rfl 27 _ (heap_alloc_new v1 _) hsi hz hone ?_)
  rw [HW1.out]
  refine (C2 _).out.mono ?_; rintro e v2 ⟨rfl, hb⟩
  obtain ⟨W2, hW⟩ : ∃ W2, (v2.alloc (.cells #[.int .u64 0, .int .u64 0, .int .u64 0, .int .u64 0, .int .u64 0, .int .u64 0, .int .u64 0, .int .u64 0] 27)).setRow v2.heap.size R = W2 := ⟨_, rfl⟩
  obtain ⟨nn, nb, nu, nl, ne⟩ := made_at w W1 v2 _ _ _ B1.out hb hW
  have HW2 := Lib.hid hW
  have B2 := Lib.hid nb
  have N2 := Lib.hid nn
  have N1 := Lib.hid (nu _ _ _ N1.out)
  clear hW nn nb nu nl ne hb B1
  clear C2 HW1
  go_wp2_with (first
    | (refine wpList_store_row rfl 27 _ _ rfl v2.heap.size R rfl rfl 27 _ (heap_alloc_new v2 _) hsi hz hone ?_)
    | (refine wpList_load_row rfl 27 _ rfl v2.heap.size rfl 27 R (0, 0) _ (by rw [HW2.out]; exact N2.out) Try.underlying27 rfl hsi ?_)
    | (refine wpList_load_row rfl 27 _ rfl v1.heap.size rfl 27 R (0, 0) _ (by rw [HW2.out]; exact N1.out) Try.underlying27 rfl hsi ?_))
  rw [HW2.out]
  refine (EQ _).out.mono ?_; rintro e w9 ⟨rfl, hb9⟩
  have BF := Lib.hid (B2.out.trans (hb9.mono B2.out.size))
  clear hb9
  go_wp2
  go_ret
  exact ⟨rfl, BF.out⟩
set_option maxRecDepth 100000 in
set_option maxHeartbeats 3200000 in
theorem walk_FnExactPlaneSub (s : Nat → UInt8) (w : World) :
    Calls Try.prog 11 #[.agg (pc s)] w fun e w' => e = .returned (.bool true) ∧ Below w.heap.size w w' := by
  have C0 := fun W => Lib.hid (topl_any s W)
  have C1 : ∀ W, Hid (Calls Try.prog 35 #[.agg (pc s)] W fun e w' => e = .returned (.agg (pc (fun i => sbox (s i)))) ∧ Below W.heap.size W w') := fun W => Lib.hid (PlaneSub_spec s W)
  have C2 : ∀ W, Hid (Calls Try.prog 33 #[.agg (pc s)] W fun e w' => e = .returned (.agg (pc (fun i => sbox (s i)))) ∧ Below W.heap.size W w') := fun W => Lib.hid (PlaneSub_impl s W)
  have i1 := arr8_info s
  have EQ := fun W => Lib.hid (eqp_any (fun i => sbox (s i)) W)
  have hsi := planes_info (fun i => sbox (s i))
  have hone := pc_one (fun i => sbox (s i))
  have hz : zeroQ.size = (pc (fun i => sbox (s i))).size := by rw [pc_size]; rfl
  unfold zeroQ at hz
  generalize pc (fun i => sbox (s i)) = R at *
  generalize pc s = P1 at *
  obtain ⟨W0, hW⟩ : ∃ W0, w.alloc (.cells P1 26) = W0 := ⟨_, rfl⟩
  have A1 : Hid (RQ W0 w.heap.size 26 P1) := Lib.hid (hW ▸ RQ.new w _ _)
  have B0 : Hid (Below w.heap.size w W0) := Lib.hid (hW ▸ alQ_up w _)
  have HW := Lib.hid hW
  clear hW
  go_enter Try.func11, Try.ntmps11
  go_wp2_with (refine wpList_load_row rfl 26 _ rfl w.heap.size rfl 26 P1 (0, 0) _ (by rw [HW.out]; exact A1.out) Try.underlying26 rfl i1 ?_)
  rw [HW.out]
  refine (C0 _).out.mono ?_; rintro e u1 ⟨rfl, hb0⟩
  have X1 := Lib.hid hb0
  clear hb0
  go_wp2_with fail
  refine (C1 _).out.mono ?_; rintro e v1 ⟨rfl, hb⟩
  have hb := X1.out.trans (hb.mono X1.out.size)
  obtain ⟨W1, hW⟩ : ∃ W1, (v1.alloc (.cells #[.int .u64 0, .int .u64 0, .int .u64 0, .int .u64 0, .int .u64 0, .int .u64 0, .int .u64 0, .int .u64 0] 27)).setRow v1.heap.size R = W1 := ⟨_, rfl⟩
  obtain ⟨nn, nb, nu, nl, ne⟩ := made_at w W0 v1 _ _ _ B0.out hb hW
  have HW1 := Lib.hid hW
  have B1 := Lib.hid nb
  have N1 := Lib.hid nn
  have A1 := Lib.hid (nu _ _ _ A1.out)
  clear hW nn nb nu nl ne hb B0
  clear C1 X1 HW
  go_wp2_with (first
    | (refine wpList_store_row rfl 27 _ _ rfl v1.heap.size R rfl rfl 27 _ (heap_alloc_new v1 _) hsi hz hone ?_)
    | (refine wpList_load_row rfl 26 _ rfl w.heap.size rfl 26 P1 (0, 0) _ (by rw [HW1.out]; exact A1.out) Try.underlying26 rfl i1 ?_))
  rw [HW1.out]
  refine (C0 _).out.mono ?_; rintro e u2 ⟨rfl, hb0⟩
  have X1 := Lib.hid hb0
  clear hb0
  go_wp2_with fail
  refine (C2 _).out.mono ?_; rintro e v2 ⟨rfl, hb⟩
  have hb := X1.out.trans (hb.mono X1.out.size)
  obtain ⟨W2, hW⟩ : ∃ W2, (v2.alloc (.cells #[.int .u64 0, .int .u64 0, .int .u64 0, .int .u64 0, .int .u64 0, .int .u64 0, .int .u64 0, .int .u64 0] 27)).setRow v2.heap.size R = W2 := ⟨_, rfl⟩
  obtain ⟨nn, nb, nu, nl, ne⟩ := made_at w W1 v2 _ _ _ B1.out hb hW
  have HW2 := Lib.hid hW
  have B2 := Lib.hid nb
  have N2 := Lib.hid nn
  have N1 := Lib.hid (nu _ _ _ N1.out)
  clear hW nn nb nu nl ne hb B1
  clear C2 X1 HW1
  go_wp2_with (first
    | (refine wpList_store_row rfl 27 _ _ rfl v2.heap.size R rfl rfl 27 _ (heap_alloc_new v2 _) hsi hz hone ?_)
    | (refine wpList_load_row rfl 27 _ rfl v2.heap.size rfl 27 R (0, 0) _ (by rw [HW2.out]; exact N2.out) Try.underlying27 rfl hsi ?_)
    | (refine wpList_load_row rfl 27 _ rfl v1.heap.size rfl 27 R (0, 0) _ (by rw [HW2.out]; exact N1.out) Try.underlying27 rfl hsi ?_))
  rw [HW2.out]
  refine (EQ _).out.mono ?_; rintro e w9 ⟨rfl, hb9⟩
  have BF := Lib.hid (B2.out.trans (hb9.mono B2.out.size))
  clear hb9
  go_wp2
  go_ret
  exact ⟨rfl, BF.out⟩
set_option maxRecDepth 100000 in
set_option maxHeartbeats 3200000 in
theorem walk_FnExactPlaneUnsub (s : Nat → UInt8) (w : World) :
    Calls Try.prog 12 #[.agg (pc s)] w fun e w' => e = .returned (.bool true) ∧ Below w.heap.size w w' := by
  have C0 := fun W => Lib.hid (topl_any s W)
  have C1 : ∀ W, Hid (Calls Try.prog 36 #[.agg (pc s)] W fun e w' => e = .returned (.agg (pc (fun i => ubox (s i)))) ∧ Below W.heap.size W w') := fun W => Lib.hid (PlaneUnsub_spec s W)
  have C2 : ∀ W, Hid (Calls Try.prog 34 #[.agg (pc s)] W fun e w' => e = .returned (.agg (pc (fun i => ubox (s i)))) ∧ Below W.heap.size W w') := fun W => Lib.hid (PlaneUnsub_impl s W)
  have i1 := arr8_info s
  have EQ := fun W => Lib.hid (eqp_any (fun i => ubox (s i)) W)
  have hsi := planes_info (fun i => ubox (s i))
  have hone := pc_one (fun i => ubox (s i))
  have hz : zeroQ.size = (pc (fun i => ubox (s i))).size := by rw [pc_size]; rfl
  unfold zeroQ at hz
  generalize pc (fun i => ubox (s i)) = R at *
  generalize pc s = P1 at *
  obtain ⟨W0, hW⟩ : ∃ W0, w.alloc (.cells P1 26) = W0 := ⟨_, rfl⟩
  have A1 : Hid (RQ W0 w.heap.size 26 P1) := Lib.hid (hW ▸ RQ.new w _ _)
  have B0 : Hid (Below w.heap.size w W0) := Lib.hid (hW ▸ alQ_up w _)
  have HW := Lib.hid hW
  clear hW
  go_enter Try.func12, Try.ntmps12
  go_wp2_with (refine wpList_load_row rfl 26 _ rfl w.heap.size rfl 26 P1 (0, 0) _ (by rw [HW.out]; exact A1.out) Try.underlying26 rfl i1 ?_)
  rw [HW.out]
  refine (C0 _).out.mono ?_; rintro e u1 ⟨rfl, hb0⟩
  have X1 := Lib.hid hb0
  clear hb0
  go_wp2_with fail
  refine (C1 _).out.mono ?_; rintro e v1 ⟨rfl, hb⟩
  have hb := X1.out.trans (hb.mono X1.out.size)
  obtain ⟨W1, hW⟩ : ∃ W1, (v1.alloc (.cells #[.int .u64 0, .int .u64 0, .int .u64 0, .int .u64 0, .int .u64 0, .int .u64 0, .int .u64 0, .int .u64 0] 27)).setRow v1.heap.size R = W1 := ⟨_, rfl⟩
  obtain ⟨nn, nb, nu, nl, ne⟩ := made_at w W0 v1 _ _ _ B0.out hb hW
  have HW1 := Lib.hid hW
  have B1 := Lib.hid nb
  have N1 := Lib.hid nn
  have A1 := Lib.hid (nu _ _ _ A1.out)
  clear hW nn nb nu nl ne hb B0
  clear C1 X1 HW
  go_wp2_with (first
    | (refine wpList_store_row rfl 27 _ _ rfl v1.heap.size R rfl rfl 27 _ (heap_alloc_new v1 _) hsi hz hone ?_)
    | (refine wpList_load_row rfl 26 _ rfl w.heap.size rfl 26 P1 (0, 0) _ (by rw [HW1.out]; exact A1.out) Try.underlying26 rfl i1 ?_))
  rw [HW1.out]
  refine (C0 _).out.mono ?_; rintro e u2 ⟨rfl, hb0⟩
  have X1 := Lib.hid hb0
  clear hb0
  go_wp2_with fail
  refine (C2 _).out.mono ?_; rintro e v2 ⟨rfl, hb⟩
  have hb := X1.out.trans (hb.mono X1.out.size)
  obtain ⟨W2, hW⟩ : ∃ W2, (v2.alloc (.cells #[.int .u64 0, .int .u64 0, .int .u64 0, .int .u64 0, .int .u64 0, .int .u64 0, .int .u64 0, .int .u64 0] 27)).setRow v2.heap.size R = W2 := ⟨_, rfl⟩
  obtain ⟨nn, nb, nu, nl, ne⟩ := made_at w W1 v2 _ _ _ B1.out hb hW
  have HW2 := Lib.hid hW
  have B2 := Lib.hid nb
  have N2 := Lib.hid nn
  have N1 := Lib.hid (nu _ _ _ N1.out)
  clear hW nn nb nu nl ne hb B1
  clear C2 X1 HW1
  go_wp2_with (first
    | (refine wpList_store_row rfl 27 _ _ rfl v2.heap.size R rfl rfl 27 _ (heap_alloc_new v2 _) hsi hz hone ?_)
    | (refine wpList_load_row rfl 27 _ rfl v2.heap.size rfl 27 R (0, 0) _ (by rw [HW2.out]; exact N2.out) Try.underlying27 rfl hsi ?_)
    | (refine wpList_load_row rfl 27 _ rfl v1.heap.size rfl 27 R (0, 0) _ (by rw [HW2.out]; exact N1.out) Try.underlying27 rfl hsi ?_))
  rw [HW2.out]
  refine (EQ _).out.mono ?_; rintro e w9 ⟨rfl, hb9⟩
  have BF := Lib.hid (B2.out.trans (hb9.mono B2.out.size))
  clear hb9
  go_wp2
  go_ret
  exact ⟨rfl, BF.out⟩
set_option maxRecDepth 100000 in
set_option maxHeartbeats 3200000 in
theorem walk_FnExactPlaneRows (s : Nat → UInt8) (a1 : Bool) (w : World) :
    Calls Try.prog 13 #[.agg (pc s), .bool a1] w fun e w' => e = .returned (.bool true) ∧ Below w.heap.size w w' := by
  have C0 := fun W => Lib.hid (topl_any s W)
  have C1 : ∀ W, Hid (Calls Try.prog 42 #[.agg (pc s), .bool a1] W fun e w' => e = .returned (.agg (pc (rowsB (stepOf a1) s))) ∧ Below W.heap.size W w') := fun W => Lib.hid (PlaneRows_spec s a1 W)
  have C2 : ∀ W, Hid (Calls Try.prog 43 #[.agg (pc s), .bool a1] W fun e w' => e = .returned (.agg (pc (rowsB (stepOf a1) s))) ∧ Below W.heap.size W w') := fun W => Lib.hid (PlaneRows_impl s a1 W)
  have i1 := arr8_info s
  have EQ := fun W => Lib.hid (eqp_any (rowsB (stepOf a1) s) W)
  have hsi := planes_info (rowsB (stepOf a1) s)
  have hone := pc_one (rowsB (stepOf a1) s)
  have hz : zeroQ.size = (pc (rowsB (stepOf a1) s)).size := by rw [pc_size]; rfl
  unfold zeroQ at hz
  generalize pc (rowsB (stepOf a1) s) = R at *
  generalize pc s = P1 at *
  obtain ⟨W0, hW⟩ : ∃ W0, w.alloc (.cells P1 26) = W0 := ⟨_, rfl⟩
  have A1 : Hid (RQ W0 w.heap.size 26 P1) := Lib.hid (hW ▸ RQ.new w _ _)
  have B0 : Hid (Below w.heap.size w W0) := Lib.hid (hW ▸ alQ_up w _)
  have HW := Lib.hid hW
  clear hW
  go_enter Try.func13, Try.ntmps13
  go_wp2_with (refine wpList_load_row rfl 26 _ rfl w.heap.size rfl 26 P1 (0, 0) _ (by rw [HW.out]; exact A1.out) Try.underlying26 rfl i1 ?_)
  rw [HW.out]
  refine (C0 _).out.mono ?_; rintro e u1 ⟨rfl, hb0⟩
  have X1 := Lib.hid hb0
  clear hb0
  go_wp2_with fail
  refine (C1 _).out.mono ?_; rintro e v1 ⟨rfl, hb⟩
  have hb := X1.out.trans (hb.mono X1.out.size)
  obtain ⟨W1, hW⟩ : ∃ W1, (v1.alloc (.cells #[.int .u64 0, .int .u64 0, .int .u64 0, .int .u64 0, .int .u64 0, .int .u64 0, .int .u64 0, .int .u64 0] 27)).setRow v1.heap.size R = W1 := ⟨_, rfl⟩
  obtain ⟨nn, nb, nu, nl, ne⟩ := made_at w W0 v1 _ _ _ B0.out hb hW
  have HW1 := Lib.hid hW
  have B1 := Lib.hid nb
  have N1 := Lib.hid nn
  have A1 := Lib.hid (nu _ _ _ A1.out)
  clear hW nn nb nu nl ne hb B0
  clear C1 X1 HW
  go_wp2_with (first
    | (refine wpList_store_row rfl 27 _ _ rfl v1.heap.size R rfl rfl 27 _ (heap_alloc_new v1 _) hsi hz hone ?_)
    | (refine wpList_load_row rfl 26 _ rfl w.heap.size rfl 26 P1 (0, 0) _ (by rw [HW1.out]; exact A1.out) Try.underlying26 rfl i1 ?_))
  rw [HW1.out]
  refine (C0 _).out.mono ?_; rintro e u2 ⟨rfl, hb0⟩
  have X1 := Lib.hid hb0
  clear hb0
  go_wp2_with fail
  refine (C2 _).out.mono ?_; rintro e v2 ⟨rfl, hb⟩
  have hb := X1.out.trans (hb.mono X1.out.size)
  obtain ⟨W2, hW⟩ : ∃ W2, (v2.alloc (.cells #[.int .u64 0, .int .u64 0, .int .u64 0, .int .u64 0, .int .u64 0, .int .u64 0, .int .u64 0, .int .u64 0] 27)).setRow v2.heap.size R = W2 := ⟨_, rfl⟩
  obtain ⟨nn, nb, nu, nl, ne⟩ := made_at w W1 v2 _ _ _ B1.out hb hW
  have HW2 := Lib.hid hW
  have B2 := Lib.hid nb
  have N2 := Lib.hid nn
  have N1 := Lib.hid (nu _ _ _ N1.out)
  clear hW nn nb nu nl ne hb B1
  clear C2 X1 HW1
  go_wp2_with (first
    | (refine wpList_store_row rfl 27 _ _ rfl v2.heap.size R rfl rfl 27 _ (heap_alloc_new v2 _) hsi hz hone ?_)
    | (refine wpList_load_row rfl 27 _ rfl v2.heap.size rfl 27 R (0, 0) _ (by rw [HW2.out]; exact N2.out) Try.underlying27 rfl hsi ?_)
    | (refine wpList_load_row rfl 27 _ rfl v1.heap.size rfl 27 R (0, 0) _ (by rw [HW2.out]; exact N1.out) Try.underlying27 rfl hsi ?_))
  rw [HW2.out]
  refine (EQ _).out.mono ?_; rintro e w9 ⟨rfl, hb9⟩
  have BF := Lib.hid (B2.out.trans (hb9.mono B2.out.size))
  clear hb9
  go_wp2
  go_ret
  exact ⟨rfl, BF.out⟩
set_option maxRecDepth 100000 in
set_option maxHeartbeats 3200000 in
theorem walk_FnExactFromPlanes (s : Nat → UInt8) (w : World) :
    Calls Try.prog 8 #[.agg (pc s)] w fun e w' => e = .returned (.bool true) ∧ Below w.heap.size w w' := by
  have C0 := fun W => Lib.hid (topl_any s W)
  have C1 := fun W => Lib.hid (FromPlanes_spec s W)
  have C2 := fun W => Lib.hid (FromPlanes_impl s W)
  have i1 := arr8_info s
  generalize pc s = P1 at *
  generalize txt s 64 = T1 at *
  obtain ⟨W0, hW⟩ : ∃ W0, w.alloc (.cells P1 26) = W0 := ⟨_, rfl⟩
  have A1 : Hid (RQ W0 w.heap.size 26 P1) := Lib.hid (hW ▸ RQ.new w _ _)
  have B0 : Hid (Below w.heap.size w W0) := Lib.hid (hW ▸ alQ_up w _)
  have HW := Lib.hid hW
  clear hW
  go_enter Try.func8, Try.ntmps8
  go_wp2_with (refine wpList_load_row rfl 26 _ rfl w.heap.size rfl 26 P1 (0, 0) _ (by rw [HW.out]; exact A1.out) Try.underlying26 rfl i1 ?_)
  rw [HW.out]
  refine (C0 _).out.mono ?_; rintro e w1 ⟨rfl, hb⟩
  have B1 := Lib.hid (B0.out.trans (hb.mono B0.out.size))
  have A2 := Lib.hid (A1.out.up hb)
  clear hb B0 A1 HW
  go_wp2_with fail
  refine (C1 _).out.mono ?_; rintro e w2 ⟨rfl, hb⟩
  have B2 := Lib.hid (B1.out.trans (hb.mono B1.out.size))
  have A3 := Lib.hid (A2.out.up hb)
  clear hb B1 A2
  go_wp2_with (refine wpList_load_row rfl 26 _ rfl w.heap.size rfl 26 P1 (0, 0) _ (by have h := A3.out; exact h) Try.underlying26 rfl i1 ?_)
  refine (C0 _).out.mono ?_; rintro e w3 ⟨rfl, hb⟩
  have B3 := Lib.hid (B2.out.trans (hb.mono B2.out.size))
  clear hb B2 A3
  go_wp2_with fail
  refine (C2 _).out.mono ?_; rintro e w4 ⟨rfl, hb⟩
  have B4 := Lib.hid (B3.out.trans (hb.mono B3.out.size))
  clear hb B3
  go_wp2
  go_ret
  exact ⟨rfl, B4.out⟩
end Go.Proofs.Ytbbjcgnoialidaa
