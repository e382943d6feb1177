/-
  What spec.PlaneColumns answers; the exact law of planes' columns.
-/
import Derived.Test.YtbbjcgnoialidaaDoorPlU
import Derived.Test.YtbbjcgnoialidaaDoorPlCol
import Derived.Test.YtbbjcgnoialidaaDoorCols
import Derived.Test.YtbbjcgnoialidaaDoorTabLaid
import Derived.Deep.AppendLies
set_option linter.unusedVariables false
set_option linter.unusedSimpArgs false
namespace Go.Proofs.YtbbjcgnoialidaaDoor
open Go Go.RowKit

set_option maxRecDepth 100000 in
set_option maxHeartbeats 3200000 in
theorem PlaneColumns_there_spec (s : Nat → UInt8) (w : World) :
    Calls Tryd.prog 12 #[.agg (pc s), .bool false] w fun e w' => e = .returned (.agg (pc (colsB mxW s))) ∧ Below w.heap.size w w' := by
  have C1 := fun W => Lib.hid (FromPlanes_spec s W)
  have C2 : ∀ j W, Hid (Calls Tryd.prog 37 #[.string (blk s j)] W fun e w' => e = .returned (.string (blk (colsB mxW s) j)) ∧ Below W.heap.size W w') := fun j W => Lib.hid (by
    have h := MixColumns_spec (blk s j) W
    rwa [eachT_yes mxW _ (blk_size s j), colsB_blk] at h)
  have C3 := fun W => Lib.hid (ToPlanes_txt (colsB mxW s) W)
  have HSL := fun j hj i k hi hk W => Lib.hid (slice_blk s j hj i k hi hk W)
  have HZ := fun n => Lib.hid (txt_size (colsB mxW s) n)
  have HBZ := fun j => Lib.hid (blk_size (colsB mxW s) j)
  have HU := fun j => Lib.hid (txt_blk_up (colsB mxW s) j)
  have i1 := planes_info s
  have hsi := planes_info (colsB mxW s)
  have hone := pc_one (colsB mxW s)
  have hz : zeroQ.size = (pc (colsB mxW s)).size := by rw [pc_size]; rfl
  obtain ⟨r, hr⟩ : ∃ r : Nat → UInt8, colsB mxW s = r := ⟨_, rfl⟩
  rw [hr] at C3 hsi hone hz ⊢
  simp only [hr] at C2 HZ HBZ HU
  clear hr
  generalize pc r = R at *
  generalize pc s = P1 at *
  generalize txt s 64 = T1 at *
  obtain ⟨W0, hW⟩ : ∃ W0, (w.alloc (.cells P1 26)).alloc (.cells zeroQ 26) = W0 := ⟨_, rfl⟩
  obtain ⟨a1, az, hb0⟩ := newQ2 w _ _ _ _ hW
  have HW := Lib.hid hW
  have A1 := Lib.hid a1
  have AZ := Lib.hid az
  have B0 := Lib.hid hb0
  clear hW a1 az hb0
  unfold zeroQ at HW
  go_enter Tryd.func12, Tryd.ntmps12
  go_wp2_with (refine wpList_load_row rfl 26 _ rfl w.heap.size rfl 26 P1 (0, 0) _ (by rw [HW.out]; exact A1.out) Tryd.underlying26 rfl i1 ?_)
  rw [HW.out]
  refine (C1 _).out.mono ?_; rintro e w1 ⟨rfl, hb1⟩
  have AZ1 := Lib.hid (AZ.out.up hb1)
  have B1 := Lib.hid (B0.out.trans (hb1.mono B0.out.size))
  clear hb1 AZ B0 A1 HW C1
  go_wp2
  go_loopw [6, 7] (fun o i wr => ∃ j : Nat, j ≤ 4 ∧ i = .int .i64 (16 * (j : Int)) ∧ o = .string (txt r (16 * j)) ∧ RQ wr (w.heap.size + 1) 26 zeroQ ∧ Below w.heap.size w wr) (fun _ i _ => 64 - (intOf i).toNat)
  case atStart => exact ⟨0, by omega, rfl, rfl, AZ1.out, B1.out⟩
  case round =>
    obtain ⟨j, hj, rfl, rfl, g1, hbel⟩ := hrel
    have G1 := Lib.hid g1
    have BE := Lib.hid hbel
    clear g1 hbel
    by_cases hlt : j < 4
    · have hj1 : 16 * (j : Int) < 64 := by omega
      have hj0 : (0 : Int) ≤ (j : Int) := by omega
      have q1 : IntKind.i64.wrap (16 * (j : Int) + 16) = 16 * (j : Int) + 16 := IntWalk.i64_in _ (by omega)
      have hsl := fun W => (HSL j hlt (16 * (j : Int)) (16 * (j : Int) + 16) rfl rfl W).out
      have z1 := (HZ (16 * j)).out
      have z2 := (HBZ j).out
      have hcat := fun W => run_string_add_sum (P := Tryd.prog) (w := W) (txt r (16 * j)) (blk r j) (by rw [z1, z2]; omega)
      have hcap : ((txt r (16 * j)).size : Int) + ((blk r j).size : Int) ≤ 140737488355328 := by rw [z1, z2]; omega
      have HS := HU j
      have CJ := fun W => C2 j W
      clear HSL HU HBZ HZ z1 z2 C2
      generalize blk s j = D1 at *
      generalize blk r j = D at *
      generalize txt r (16 * j) = O at *
      go_wp2_with fail
      refine (CJ _).out.mono ?_; rintro e w2 ⟨rfl, hb2⟩
      have G2 := Lib.hid (G1.out.up hb2)
      have B2 := Lib.hid (BE.out.trans (hb2.mono BE.out.size))
      clear hb2 G1 BE CJ
      go_wp2
      go_roundw
      case rel => exact ⟨j + 1, by omega, by go_num, by rw [HS.out], G2.out, B2.out⟩
      case measure => simp [intOf]; omega
    · obtain rfl : j = 4 := by omega
      clear HSL HU HBZ HZ C2
      go_wp2_with fail
      refine (C3 _).out.mono ?_; rintro e w3 ⟨rfl, hb3⟩
      have AZ3 := Lib.hid (G1.out.up hb3)
      have B3 := Lib.hid (BE.out.trans (hb3.mono BE.out.size))
      have HSR := Lib.hid (AZ3.out.row R)
      have HB := Lib.hid (below_setRow B3.out (show w.heap.size ≤ w.heap.size + 1 by omega) R)
      clear hb3 G1 BE C3
      go_wp2_with (refine wpList_store_row rfl 26 _ _ rfl (w.heap.size + 1) R rfl rfl 26 _ (by have h := AZ3.out; exact h) hsi hz hone ?_)
      refine bodyPost_ret (v := .agg R) ?_ rfl ⟨rfl, HB.out⟩
      exact results_cell_row rfl _ _ (w.heap.size + 1) 26 R (0, 0) _ rfl (by have h := HSR.out; exact h) Tryd.underlying26 rfl hsi
set_option maxRecDepth 100000 in
set_option maxHeartbeats 3200000 in
theorem PlaneColumns_back_spec (s : Nat → UInt8) (w : World) :
    Calls Tryd.prog 12 #[.agg (pc s), .bool true] w fun e w' => e = .returned (.agg (pc (colsB unmixW s))) ∧ Below w.heap.size w w' := by
  have C1 := fun W => Lib.hid (FromPlanes_spec s W)
  have C2 : ∀ j W, Hid (Calls Tryd.prog 36 #[.string (blk s j)] W fun e w' => e = .returned (.string (blk (colsB unmixW s) j)) ∧ Below W.heap.size W w') := fun j W => Lib.hid (by
    have h := UnmixColumns_spec (blk s j) W
    rwa [eachT_yes unmixW _ (blk_size s j), colsB_blk] at h)
  have C3 := fun W => Lib.hid (ToPlanes_txt (colsB unmixW s) W)
  have HSL := fun j hj i k hi hk W => Lib.hid (slice_blk s j hj i k hi hk W)
  have HZ := fun n => Lib.hid (txt_size (colsB unmixW s) n)
  have HBZ := fun j => Lib.hid (blk_size (colsB unmixW s) j)
  have HU := fun j => Lib.hid (txt_blk_up (colsB unmixW s) j)
  have i1 := planes_info s
  have hsi := planes_info (colsB unmixW s)
  have hone := pc_one (colsB unmixW s)
  have hz : zeroQ.size = (pc (colsB unmixW s)).size := by rw [pc_size]; rfl
  obtain ⟨r, hr⟩ : ∃ r : Nat → UInt8, colsB unmixW s = r := ⟨_, rfl⟩
  rw [hr] at C3 hsi hone hz ⊢
  simp only [hr] at C2 HZ HBZ HU
  clear hr
  generalize pc r = R at *
  generalize pc s = P1 at *
  generalize txt s 64 = T1 at *
  obtain ⟨W0, hW⟩ : ∃ W0, (w.alloc (.cells P1 26)).alloc (.cells zeroQ 26) = W0 := ⟨_, rfl⟩
  obtain ⟨a1, az, hb0⟩ := newQ2 w _ _ _ _ hW
  have HW := Lib.hid hW
  have A1 := Lib.hid a1
  have AZ := Lib.hid az
  have B0 := Lib.hid hb0
  clear hW a1 az hb0
  unfold zeroQ at HW
  go_enter Tryd.func12, Tryd.ntmps12
  go_wp2_with (refine wpList_load_row rfl 26 _ rfl w.heap.size rfl 26 P1 (0, 0) _ (by rw [HW.out]; exact A1.out) Tryd.underlying26 rfl i1 ?_)
  rw [HW.out]
  refine (C1 _).out.mono ?_; rintro e w1 ⟨rfl, hb1⟩
  have AZ1 := Lib.hid (AZ.out.up hb1)
  have B1 := Lib.hid (B0.out.trans (hb1.mono B0.out.size))
  clear hb1 AZ B0 A1 HW C1
  go_wp2
  go_loopw [6, 7] (fun o i wr => ∃ j : Nat, j ≤ 4 ∧ i = .int .i64 (16 * (j : Int)) ∧ o = .string (txt r (16 * j)) ∧ RQ wr (w.heap.size + 1) 26 zeroQ ∧ Below w.heap.size w wr) (fun _ i _ => 64 - (intOf i).toNat)
  case atStart => exact ⟨0, by omega, rfl, rfl, AZ1.out, B1.out⟩
  case round =>
    obtain ⟨j, hj, rfl, rfl, g1, hbel⟩ := hrel
    have G1 := Lib.hid g1
    have BE := Lib.hid hbel
    clear g1 hbel
    by_cases hlt : j < 4
    · have hj1 : 16 * (j : Int) < 64 := by omega
      have hj0 : (0 : Int) ≤ (j : Int) := by omega
      have q1 : IntKind.i64.wrap (16 * (j : Int) + 16) = 16 * (j : Int) + 16 := IntWalk.i64_in _ (by omega)
      have hsl := fun W => (HSL j hlt (16 * (j : Int)) (16 * (j : Int) + 16) rfl rfl W).out
      have z1 := (HZ (16 * j)).out
      have z2 := (HBZ j).out
      have hcat := fun W => run_string_add_sum (P := Tryd.prog) (w := W) (txt r (16 * j)) (blk r j) (by rw [z1, z2]; omega)
      have hcap : ((txt r (16 * j)).size : Int) + ((blk r j).size : Int) ≤ 140737488355328 := by rw [z1, z2]; omega
      have HS := HU j
      have CJ := fun W => C2 j W
      clear HSL HU HBZ HZ z1 z2 C2
      generalize blk s j = D1 at *
      generalize blk r j = D at *
      generalize txt r (16 * j) = O at *
      go_wp2_with fail
      refine (CJ _).out.mono ?_; rintro e w2 ⟨rfl, hb2⟩
      have G2 := Lib.hid (G1.out.up hb2)
      have B2 := Lib.hid (BE.out.trans (hb2.mono BE.out.size))
      clear hb2 G1 BE CJ
      go_wp2
      go_roundw
      case rel => exact ⟨j + 1, by omega, by go_num, by rw [HS.out], G2.out, B2.out⟩
      case measure => simp [intOf]; omega
    · obtain rfl : j = 4 := by omega
      clear HSL HU HBZ HZ C2
      go_wp2_with fail
      refine (C3 _).out.mono ?_; rintro e w3 ⟨rfl, hb3⟩
      have AZ3 := Lib.hid (G1.out.up hb3)
      have B3 := Lib.hid (BE.out.trans (hb3.mono BE.out.size))
      have HSR := Lib.hid (AZ3.out.row R)
      have HB := Lib.hid (below_setRow B3.out (show w.heap.size ≤ w.heap.size + 1 by omega) R)
      clear hb3 G1 BE C3
      go_wp2_with (refine wpList_store_row rfl 26 _ _ rfl (w.heap.size + 1) R rfl rfl 26 _ (by have h := AZ3.out; exact h) hsi hz hone ?_)
      refine bodyPost_ret (v := .agg R) ?_ rfl ⟨rfl, HB.out⟩
      exact results_cell_row rfl _ _ (w.heap.size + 1) 26 R (0, 0) _ rfl (by have h := HSR.out; exact h) Tryd.underlying26 rfl hsi
theorem PlaneColumns_spec (s : Nat → UInt8) (back : Bool) (w : World) :
    Calls Tryd.prog 12 #[.agg (pc s), .bool back] w fun e w' => e = .returned (.agg (pc (colsB (mixOf back) s))) ∧ Below w.heap.size w w' := by
  cases back
  · exact PlaneColumns_there_spec s w
  · exact PlaneColumns_back_spec s w
theorem arr8_info' (s : Nat → UInt8) : (Tryd.prog.info? 25).map (·.size) = some (pc s).size := by rw [pc_size]; kernel_rfl
/-- both tables of factors. -/
def Facs (W : World) : Prop := Fac4 W 0 unF ∧ Fac4 W 1 mxF
theorem Facs.up {w w' : World} (h : Facs w) (hb : Below w.heap.size w w') : Facs w' := ⟨Fac4.below h.1 hb h.1.1, Fac4.below h.2 hb h.2.1⟩
theorem facs_laid {W : World} (h' : laidMet Tryd.prog [("loop.example/g00835/impl.unmixFactors", Lib.tabData .u8 [14, 9, 13, 11]), ("loop.example/g00835/impl.mixFactors", Lib.tabData .u8 [2, 1, 1, 3])] W) : Facs W := ⟨Un8_laid h', Mx8_laid (laid_tail8 h')⟩
theorem facts_FnExactPlaneColumns {W : World} (h : laidMetH Tryd.prog Rows.fnExactPlaneColumnsRow.laid W) : Facs W := by
  have h' : laidMet Tryd.prog [("loop.example/g00835/impl.unmixFactors", Lib.tabData .u8 [14, 9, 13, 11]), ("loop.example/g00835/impl.mixFactors", Lib.tabData .u8 [2, 1, 1, 3])] W := h
  exact facs_laid h'
set_option maxRecDepth 100000 in
set_option maxHeartbeats 3200000 in
theorem walk_FnExactPlaneColumns (s : Nat → UInt8) (a1 : Bool) (w : World) (hfx : Facs w) :
    Calls Tryd.prog 5 #[.agg (pc s), .bool a1] w fun e w' => e = .returned (.bool true) ∧ Below w.heap.size w w' := by
  have C0 := fun W => Lib.hid (topl_any s W)
  have C1 : ∀ W, Hid (Calls Tryd.prog 12 #[.agg (pc s), .bool a1] W fun e w' => e = .returned (.agg (pc (colsB (mixOf a1) s))) ∧ Below W.heap.size W w') := fun W => Lib.hid (PlaneColumns_spec s a1 W)
  have C2 : ∀ W, Below w.heap.size w W → Hid (Calls Tryd.prog 10 #[.agg (pc s), .bool a1] W fun e w' => e = .returned (.agg (pc (colsB (mixOf a1) s))) ∧ Below W.heap.size W w') := fun W hW => Lib.hid (PlaneColumns_impl s a1 W (hfx.up hW).1 (hfx.up hW).2)
  have i1 := arr8_info' s
  have EQ := fun W => Lib.hid (eqp_any (colsB (mixOf a1) s) W)
  have hsi := planes_info (colsB (mixOf a1) s)
  have hone := pc_one (colsB (mixOf a1) s)
  have hz : zeroQ.size = (pc (colsB (mixOf a1) s)).size := by rw [pc_size]; rfl
  unfold zeroQ at hz
  generalize pc (colsB (mixOf a1) s) = R at *
  generalize pc s = P1 at *
  obtain ⟨W0, hW⟩ : ∃ W0, w.alloc (.cells P1 25) = W0 := ⟨_, rfl⟩
  have A1 : Hid (RQ W0 w.heap.size 25 P1) := Lib.hid (hW ▸ RQ.new w _ _)
  have B0 : Hid (Below w.heap.size w W0) := Lib.hid (hW ▸ alQ_up w _)
  have HW := Lib.hid hW
  clear hW
  go_enter Tryd.func5, Tryd.ntmps5
  go_wp2_with (refine wpList_load_row rfl 25 _ rfl w.heap.size rfl 25 P1 (0, 0) _ (by rw [HW.out]; exact A1.out) Tryd.underlying25 rfl i1 ?_)
  rw [HW.out]
  refine (C0 _).out.mono ?_; rintro e u1 ⟨rfl, hb0⟩
  have X1 := Lib.hid hb0
  clear hb0
  go_wp2_with fail
  refine (C1 _).out.mono ?_; rintro e v1 ⟨rfl, hb⟩
  have hb := X1.out.trans (hb.mono X1.out.size)
  obtain ⟨W1, hW⟩ : ∃ W1, (v1.alloc (.cells #[.int .u64 0, .int .u64 0, .int .u64 0, .int .u64 0, .int .u64 0, .int .u64 0, .int .u64 0, .int .u64 0] 26)).setRow v1.heap.size R = W1 := ⟨_, rfl⟩
  obtain ⟨nn, nb, nu, nl, ne⟩ := made_at w W0 v1 _ _ _ B0.out hb hW
  have HW1 := Lib.hid hW
  have B1 := Lib.hid nb
  have N1 := Lib.hid nn
  have A1 := Lib.hid (nu _ _ _ A1.out)
  clear hW nn nb nu nl ne hb B0
  clear C1 X1 HW
  go_wp2_with (first
    | (refine wpList_store_row rfl 26 _ _ rfl v1.heap.size R rfl rfl 26 _ (heap_alloc_new v1 _) hsi hz hone ?_)
    | (refine wpList_load_row rfl 25 _ rfl w.heap.size rfl 25 P1 (0, 0) _ (by rw [HW1.out]; exact A1.out) Tryd.underlying25 rfl i1 ?_))
  rw [HW1.out]
  refine (C0 _).out.mono ?_; rintro e u2 ⟨rfl, hb0⟩
  have X1 := Lib.hid hb0
  clear hb0
  go_wp2_with fail
  refine (C2 _ (B1.out.trans (X1.out.mono B1.out.size))).out.mono ?_; rintro e v2 ⟨rfl, hb⟩
  have hb := X1.out.trans (hb.mono X1.out.size)
  obtain ⟨W2, hW⟩ : ∃ W2, (v2.alloc (.cells #[.int .u64 0, .int .u64 0, .int .u64 0, .int .u64 0, .int .u64 0, .int .u64 0, .int .u64 0, .int .u64 0] 26)).setRow v2.heap.size R = W2 := ⟨_, rfl⟩
  obtain ⟨nn, nb, nu, nl, ne⟩ := made_at w W1 v2 _ _ _ B1.out hb hW
  have HW2 := Lib.hid hW
  have B2 := Lib.hid nb
  have N2 := Lib.hid nn
  have N1 := Lib.hid (nu _ _ _ N1.out)
  clear hW nn nb nu nl ne hb B1
  clear C2 X1 HW1
  go_wp2_with (first
    | (refine wpList_store_row rfl 26 _ _ rfl v2.heap.size R rfl rfl 26 _ (heap_alloc_new v2 _) hsi hz hone ?_)
    | (refine wpList_load_row rfl 26 _ rfl v2.heap.size rfl 26 R (0, 0) _ (by rw [HW2.out]; exact N2.out) Tryd.underlying26 rfl hsi ?_)
    | (refine wpList_load_row rfl 26 _ rfl v1.heap.size rfl 26 R (0, 0) _ (by rw [HW2.out]; exact N1.out) Tryd.underlying26 rfl hsi ?_))
  rw [HW2.out]
  refine (EQ _).out.mono ?_; rintro e w9 ⟨rfl, hb9⟩
  have BF := Lib.hid (B2.out.trans (hb9.mono B2.out.size))
  clear hb9
  go_wp2
  go_ret
  exact ⟨rfl, BF.out⟩
end Go.Proofs.YtbbjcgnoialidaaDoor
