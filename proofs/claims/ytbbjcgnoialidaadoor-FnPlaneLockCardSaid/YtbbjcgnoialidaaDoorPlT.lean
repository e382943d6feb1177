/-
  What impl's and spec's PlaneKey answer; spec's PlaneRows; laws.eqPlanes, laws.toPlanes.
-/
import Derived.Test.YtbbjcgnoialidaaDoorPlS
set_option linter.unusedVariables false
set_option linter.unusedSimpArgs false
namespace Go.Proofs.YtbbjcgnoialidaaDoor
open Go Go.RowKit

/-- the bytes of a block four times; none where it is none. -/
def keyB (b : ByteArray) (i : Nat) : UInt8 := if b.size = 16 then byteOf b (i % 16) else 0
theorem keyB_no (b : ByteArray) (h : ¬ b.size = 16) : keyB b = fun _ => 0 := by funext i; exact if_neg h
theorem keyB_txt (b : ByteArray) (h : b.size = 16) (m : Nat) : txt (keyB b) (16 * m) ++ b = txt (keyB b) (16 * (m + 1)) := by
  rw [← txt_own b 16 h]
  rw [txt_own b 16 h]
  have e : b = txt (byteOf b) 16 := (txt_own b 16 h).symm
  rw [show txt (keyB b) (16 * m) ++ b = txt (keyB b) (16 * m) ++ txt (byteOf b) 16 by rw [← e], show 16 * (m + 1) = 16 * m + 16 by omega]
  refine txt_app _ _ _ _ fun i hi => ?_
  unfold keyB
  rw [if_pos h]
  congr 1; omega
theorem keyB_1 (b : ByteArray) (h : b.size = 16) : txt (keyB b) 16 = b := by
  refine Eq.trans (txt_ext _ (byteOf b) 16 fun i hi => ?_) (txt_own b 16 h)
  unfold keyB
  rw [if_pos h, Nat.mod_eq_of_lt hi]
theorem keyB_4 (b : ByteArray) (h : b.size = 16) : b ++ b ++ b ++ b = txt (keyB b) 64 := by
  have h1 := keyB_1 b h
  have h2 := keyB_txt b h 1
  have h3 := keyB_txt b h 2
  have h4 := keyB_txt b h 3
  simp only [Nat.mul_one] at h2
  rw [h1] at h2
  rw [← h2] at h3
  rw [← h3] at h4
  exact h4
theorem keyB_rep (b : ByteArray) (h : b.size = 16) : (⟨(Lib.repeatL b.data.toList 4).toArray⟩ : ByteArray) = txt (keyB b) 64 := by
  rw [← keyB_4 b h]
  apply ByteArray.ext
  apply Array.ext'
  simp [Lib.repeatL, ByteArray.data_append]
theorem built_zero : Tryd.prog.built 26 [] = some zeroQ := by kernel_rfl
set_option maxRecDepth 100000 in
set_option maxHeartbeats 1600000 in
theorem PlaneKey_no_impl (b : ByteArray) (h : ¬ b.size = 16) (w : World) :
    Calls Tryd.prog 17 #[.string b] w fun e w' => e = .returned (.agg (pc (keyB b))) ∧ Below w.heap.size w w' := by
  have hb2 : ¬ (b.size : Int) = 16 := by omega
  rw [keyB_no b h, ← zeroQ_pc]
  have hsi : (Tryd.prog.info? 26).map (·.size) = some zeroQ.size := by kernel_rfl
  have hone : zeroQ.all (·.oneCell') = true := by rw [zeroQ_pc]; exact pc_one _
  have R0 := Lib.hid (RQ.new w 26 zeroQ)
  have HSR := Lib.hid (R0.out.row zeroQ)
  have HB := Lib.hid (below_setRow (alQ_up w (.cells zeroQ 26)) (Nat.le_refl w.heap.size) zeroQ)
  have hz0 : zeroQ = #[.int .u64 0, .int .u64 0, .int .u64 0, .int .u64 0, .int .u64 0, .int .u64 0, .int .u64 0, .int .u64 0] := rfl
  have HZ := Lib.hid hz0
  clear hz0
  go_enter Tryd.func17, Tryd.ntmps17
  go_wp2_with (first
    | (refine wpList_buildTo rfl 26 _ rfl (some 6) rfl zeroQ (Eq.trans (congrArg (Tryd.prog.built 26) (by kernel_rfl : _ = [])) built_zero) ?_)
    | (refine wpList_store_row rfl 26 _ _ rfl w.heap.size zeroQ rfl rfl 26 _ R0.out hsi rfl hone ?_))
  refine bodyPost_ret (v := .agg zeroQ) ?_ rfl ⟨rfl, HB.out⟩
  exact results_cell_row rfl _ _ w.heap.size 26 zeroQ (0, 0) _ rfl HSR.out Tryd.underlying26 rfl hsi
set_option maxRecDepth 100000 in
set_option maxHeartbeats 1600000 in
theorem PlaneKey_no_spec (b : ByteArray) (h : ¬ b.size = 16) (w : World) :
    Calls Tryd.prog 18 #[.string b] w fun e w' => e = .returned (.agg (pc (keyB b))) ∧ Below w.heap.size w w' := by
  have hb2 : ¬ (b.size : Int) = 16 := by omega
  rw [keyB_no b h, ← zeroQ_pc]
  have hsi : (Tryd.prog.info? 26).map (·.size) = some zeroQ.size := by kernel_rfl
  have hone : zeroQ.all (·.oneCell') = true := by rw [zeroQ_pc]; exact pc_one _
  have R0 := Lib.hid (RQ.new w 26 zeroQ)
  have HSR := Lib.hid (R0.out.row zeroQ)
  have HB := Lib.hid (below_setRow (alQ_up w (.cells zeroQ 26)) (Nat.le_refl w.heap.size) zeroQ)
  have hz0 : zeroQ = #[.int .u64 0, .int .u64 0, .int .u64 0, .int .u64 0, .int .u64 0, .int .u64 0, .int .u64 0, .int .u64 0] := rfl
  have HZ := Lib.hid hz0
  clear hz0
  go_enter Tryd.func18, Tryd.ntmps18
  go_wp2_with (first
    | (refine wpList_buildTo rfl 26 _ rfl (some 6) rfl zeroQ (Eq.trans (congrArg (Tryd.prog.built 26) (by kernel_rfl : _ = [])) built_zero) ?_)
    | (refine wpList_store_row rfl 26 _ _ rfl w.heap.size zeroQ rfl rfl 26 _ R0.out hsi rfl hone ?_))
  refine bodyPost_ret (v := .agg zeroQ) ?_ rfl ⟨rfl, HB.out⟩
  exact results_cell_row rfl _ _ w.heap.size 26 zeroQ (0, 0) _ rfl HSR.out Tryd.underlying26 rfl hsi
set_option maxRecDepth 100000 in
set_option maxHeartbeats 1600000 in
theorem PlaneKey_yes_impl (b : ByteArray) (h : b.size = 16) (w : World) :
    Calls Tryd.prog 17 #[.string b] w fun e w' => e = .returned (.agg (pc (keyB b))) ∧ Below w.heap.size w w' := by
  have hb2 : (b.size : Int) = 16 := by omega
  have C1 : ∀ W, Hid (Calls Tryd.prog 41 #[.string b, .int .i64 4] W fun e w' => e = .returned (.string (txt (keyB b) 64)) ∧ Below W.heap.size W w') := fun W => Lib.hid (by
    have h2 := Tryd.strings_Repeat b 4 W (by omega) (by omega)
    rw [keyB_rep b h] at h2
    exact h2)
  have C2 : ∀ W, Hid (Calls Tryd.prog 20 #[.string (txt (keyB b) 64)] W fun e w' => e = .returned (.agg (pc (keyB b))) ∧ Below W.heap.size W w') := fun W => Lib.hid (by
    have h := ToPlanes_impl (txt (keyB b) 64) W (by rw [txt_size]; omega)
    rwa [pc_txt] at h)
  have hsi := planes_info (keyB b)
  have hone := pc_one (keyB b)
  have hz : zeroQ.size = (pc (keyB b)).size := by rw [pc_size]; rfl
  have AZ := Lib.hid (RQ.new w 26 zeroQ)
  have B0 := Lib.hid (alQ_up w (.cells zeroQ 26))
  obtain ⟨W0, hW⟩ : ∃ W0, w.alloc (.cells zeroQ 26) = W0 := ⟨_, rfl⟩
  rw [hW] at AZ B0
  have HW := Lib.hid hW
  clear hW h
  generalize pc (keyB b) = R at *
  generalize txt (keyB b) 64 = T1 at *
  unfold zeroQ at HW
  go_enter Tryd.func17, Tryd.ntmps17
  go_wp2_with fail
  rw [HW.out]
  refine (C1 _).out.mono ?_; rintro e w1 ⟨rfl, hb1⟩
  have AZ1 := Lib.hid (AZ.out.up hb1)
  have B1 := Lib.hid (B0.out.trans (hb1.mono B0.out.size))
  clear hb1 AZ B0 HW C1
  go_wp2_with fail
  refine (C2 _).out.mono ?_; rintro e w2 ⟨rfl, hb2⟩
  have AZ2 := Lib.hid (AZ1.out.up hb2)
  have B2 := Lib.hid (B1.out.trans (hb2.mono B1.out.size))
  have HSR := Lib.hid (AZ2.out.row R)
  have HB := Lib.hid (below_setRow B2.out (Nat.le_refl w.heap.size) R)
  clear hb2 AZ1 B1 C2
  go_wp2_with (refine wpList_store_row rfl 26 _ _ rfl w.heap.size R rfl rfl 26 _ (by have h := AZ2.out; exact h) hsi hz hone ?_)
  refine bodyPost_ret (v := .agg R) ?_ rfl ⟨rfl, HB.out⟩
  exact results_cell_row rfl _ _ w.heap.size 26 R (0, 0) _ rfl (by have h := HSR.out; exact h) Tryd.underlying26 rfl hsi
set_option maxRecDepth 100000 in
set_option maxHeartbeats 1600000 in
theorem PlaneKey_yes_spec (b : ByteArray) (h : b.size = 16) (w : World) :
    Calls Tryd.prog 18 #[.string b] w fun e w' => e = .returned (.agg (pc (keyB b))) ∧ Below w.heap.size w w' := by
  have hb2 : (b.size : Int) = 16 := by omega
  have C2 := fun W => Lib.hid (ToPlanes_txt (keyB b) W)
  have s1 : (b ++ b).size = 32 := by rw [ByteArray.size_append]; omega
  have s2 : (b ++ b ++ b).size = 48 := by rw [ByteArray.size_append]; omega
  have c1 := fun W => run_string_add_sum (P := Tryd.prog) (w := W) b b (by omega)
  have c2 := fun W => run_string_add_sum (P := Tryd.prog) (w := W) (b ++ b) b (by omega)
  have c3 := fun W => run_string_add_sum (P := Tryd.prog) (w := W) (b ++ b ++ b) b (by omega)
  rw [keyB_4 b h] at c3
  have d1 : ((b ++ b).size : Int) = 32 := by omega
  have d2 : ((b ++ b ++ b).size : Int) = 48 := by omega
  have hsi := planes_info (keyB b)
  have hone := pc_one (keyB b)
  have hz : zeroQ.size = (pc (keyB b)).size := by rw [pc_size]; rfl
  have AZ := Lib.hid (RQ.new w 26 zeroQ)
  have B0 := Lib.hid (alQ_up w (.cells zeroQ 26))
  obtain ⟨W0, hW⟩ : ∃ W0, w.alloc (.cells zeroQ 26) = W0 := ⟨_, rfl⟩
  rw [hW] at AZ B0
  have HW := Lib.hid hW
  clear hW h s1 s2
  generalize pc (keyB b) = R at *
  generalize txt (keyB b) 64 = T1 at *
  generalize b ++ b ++ b = T2 at *
  generalize b ++ b = T3 at *
  unfold zeroQ at HW
  go_enter Tryd.func18, Tryd.ntmps18
  go_wp2_with fail
  rw [HW.out]
  refine (C2 _).out.mono ?_; rintro e w2 ⟨rfl, hb2⟩
  have AZ2 := Lib.hid (AZ.out.up hb2)
  have B2 := Lib.hid (B0.out.trans (hb2.mono B0.out.size))
  have HSR := Lib.hid (AZ2.out.row R)
  have HB := Lib.hid (below_setRow B2.out (Nat.le_refl w.heap.size) R)
  clear hb2 AZ B0 C2 HW
  go_wp2_with (refine wpList_store_row rfl 26 _ _ rfl w.heap.size R rfl rfl 26 _ (by have h := AZ2.out; exact h) hsi hz hone ?_)
  refine bodyPost_ret (v := .agg R) ?_ rfl ⟨rfl, HB.out⟩
  exact results_cell_row rfl _ _ w.heap.size 26 R (0, 0) _ rfl (by have h := HSR.out; exact h) Tryd.underlying26 rfl hsi
theorem PlaneKey_impl (b : ByteArray) (w : World) :
    Calls Tryd.prog 17 #[.string b] w fun e w' => e = .returned (.agg (pc (keyB b))) ∧ Below w.heap.size w w' := by
  by_cases h : b.size = 16
  · exact PlaneKey_yes_impl b h w
  · exact PlaneKey_no_impl b h w
theorem PlaneKey_spec (b : ByteArray) (w : World) :
    Calls Tryd.prog 18 #[.string b] w fun e w' => e = .returned (.agg (pc (keyB b))) ∧ Below w.heap.size w w' := by
  by_cases h : b.size = 16
  · exact PlaneKey_yes_spec b h w
  · exact PlaneKey_no_spec b h w
set_option maxRecDepth 100000 in
set_option maxHeartbeats 1600000 in
/-- planes are held against one another. -/
theorem eqp_any (s : Nat → UInt8) (w : World) :
    Calls Tryd.prog 26 #[.agg (pc s), .agg (pc s)] w fun e w' => e = .returned (.bool true) ∧ Below w.heap.size w w' := by
  obtain ⟨W, hW⟩ : ∃ W, (w.alloc (.cells (pc s) 26)).alloc (.cells (pc s) 26) = W := ⟨_, rfl⟩
  obtain ⟨h1, h2, hb⟩ := newQ2 w _ _ _ _ hW
  have HW := Lib.hid hW
  have H1 := Lib.hid h1
  have H2 := Lib.hid h2
  have HB := Lib.hid hb
  clear hW h1 h2 hb
  go_enter Tryd.func26, Tryd.ntmps26
  go_wp2
  rw [HW.out]
  go_loopw [5] (fun v wr => ∃ k : Nat, k ≤ 8 ∧ v = .int .i64 k ∧ RQ wr w.heap.size 26 (pc s) ∧ RQ wr (w.heap.size + 1) 26 (pc s) ∧ Below w.heap.size w wr) (fun v _ => 8 - (intOf v).toNat)
  case atStart => exact ⟨0, by omega, rfl, H1.out, H2.out, HB.out⟩
  case round =>
    obtain ⟨k, hk, rfl, g1, g2, hbel⟩ := hrel
    by_cases hlt : k < 8
    · have hk1 : (k : Int) < 8 := by omega
      have hk0 : (0 : Int) ≤ (k : Int) := by omega
      have hc1 := g1.cell (pc_at s k hlt)
      have hc2 := g2.cell (pc_at s k hlt)
      have G1 := Lib.hid g1
      have G2 := Lib.hid g2
      have BE := Lib.hid hbel
      generalize plW s k = x at *
      clear g1 g2 hbel
      go_wp2
      go_quiet (fail)
      go_wp2
      go_roundw
      case rel => exact ⟨k + 1, by omega, by go_num, G1.out, G2.out, ⟨BE.out.os, BE.out.tape, BE.out.output, BE.out.size, BE.out.block⟩⟩
      case measure => simp [intOf]; omega
    · obtain rfl : k = 8 := by omega
      go_wp2
      go_ret
      exact ⟨rfl, hbel⟩
set_option maxRecDepth 100000 in
set_option maxHeartbeats 1600000 in
theorem topl_any (s : Nat → UInt8) (w : World) :
    Calls Tryd.prog 25 #[.agg (pc s)] w fun e w' => e = .returned (.agg (pc s)) ∧ Below w.heap.size w w' := by
  obtain ⟨W, hW⟩ : ∃ W, ((w.alloc (.cells (pc s) 25)).alloc (.cells zeroQ 26)).alloc (.cells zeroQ 26) = W := ⟨_, rfl⟩
  obtain ⟨h1, h2, h3, hb⟩ := newQ3 w _ _ _ _ _ _ hW
  have h3 : RQ W (w.heap.size + 1 + 1) 26 (pcTo s (fun _ => 0) 0) := by rw [pcTo_0, ← zeroQ_pc]; exact h3
  have HW := Lib.hid hW
  clear hW
  unfold zeroQ at HW
  go_enter Tryd.func25, Tryd.ntmps25
  go_wp2
  rw [HW.out]
  go_loopw [4] (fun v wr => ∃ k : Nat, k ≤ 8 ∧ v = .int .i64 k ∧ RQ wr w.heap.size 25 (pc s) ∧ RQ wr (w.heap.size + 1) 26 zeroQ ∧ RQ wr (w.heap.size + 1 + 1) 26 (pcTo s (fun _ => 0) k) ∧ Below w.heap.size w wr) (fun v _ => 8 - (intOf v).toNat)
  case atStart => exact ⟨0, by omega, rfl, h1, h2, h3, hb⟩
  case round =>
    obtain ⟨k, hk, rfl, g1, g2, g3, hbel⟩ := hrel
    by_cases hlt : k < 8
    · have hk1 : (k : Int) < 8 := by omega
      have hk0 : (0 : Int) ≤ (k : Int) := by omega
      have hc1 := g1.cell (pc_at s k hlt)
      have hc3 := g3.cell (pcTo_hi s _ k k hlt (Nat.le_refl _))
      have hfz := g3.fz k
      have N1 := fun v => Lib.hid (g1.far (b := w.heap.size + 1 + 1) k v (by omega))
      have N2 := fun v => Lib.hid (g2.far (b := w.heap.size + 1 + 1) k v (by omega))
      have N3 := fun v hv => Lib.hid (g3.setP (v := v) hv)
      have NB := fun v => Lib.hid (hbel.setCell (p := ⟨w.heap.size + 1 + 1, k, none⟩) (by simp; omega) v)
      clear g1 g2 g3 hbel h1 h2 h3 hb
      go_wp2
      go_roundw
      case rel => exact ⟨k + 1, by omega, by go_num, (N1 _).out, (N2 _).out, (N3 _ rfl).out, (NB _).out⟩
      case measure => simp [intOf]; omega
    · obtain rfl : k = 8 := by omega
      rw [pcTo_8] at g3
      have hone := pc_one s
      have hsi := planes_info s
      have hz : zeroQ.size = (pc s).size := by rw [pc_size]; rfl
      have hsr := g2.row (pc s)
      have hbs : Hid (Below w.heap.size w (wr.setRow (w.heap.size + 1) (pc s))) := Lib.hid (below_setRow hbel (by omega) _)
      generalize hR : pc s = R at *
      generalize zeroQ = Z at *
      have HR := Lib.hid hR
      clear hR
      have G1 := Lib.hid g3
      have G3 := Lib.hid g2
      have HSR := Lib.hid hsr
      clear g1 g2 g3 hsr hbel h1 h2 h3 hb
      unfold RQ at G1 G3 HSR
      go_wp2_with (first
        | (refine wpList_load_row rfl 26 _ rfl (w.heap.size + 1 + 1) rfl 26 R (0, 0) _ G1.out Tryd.underlying26 rfl hsi ?_)
        | (refine wpList_store_row rfl 26 _ _ rfl (w.heap.size + 1) R rfl rfl 26 Z G3.out hsi hz hone ?_))
      refine bodyPost_ret (v := .agg R) ?_ rfl ⟨by rw [HR.out], hbs.out⟩
      exact results_cell_row rfl _ _ (w.heap.size + 1) 26 R (0, 0) _ rfl HSR.out Tryd.underlying26 rfl hsi
end Go.Proofs.YtbbjcgnoialidaaDoor
