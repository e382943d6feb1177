/-
  What impl's and spec's PlaneKey answer; spec's PlaneRows; laws.eqPlanes, laws.toPlanes.
-/
import Derived.Test.YtbfmbdohebdbaaaGreatDoorPlS
set_option linter.unusedVariables false
set_option linter.unusedSimpArgs false
namespace Go.Proofs.YtbfmbdohebdbaaaGreatDoor
open Go Go.RowKit

/-- the bytes of a block four times; none where it is none. -/
def keyB (b : ByteArray) (i : Nat) : UInt8 := if b.size = 16 then byteOf b (i % 16) else 0
theorem keyB_no (b : ByteArray) (h : ¬ b.size = 16) : keyB b = fun _ => 0 := by funext i; exact if_neg h
theorem keyB_txt (b : ByteArray) (h : b.size = 16) (m : Nat) : txt (keyB b) (16 * m) ++ b = txt (keyB b) (16 * (m + 1)) := by
  rw [← txt_own b 16 h]
  rw [txt_own b 16 h]
  have e : b = txt (byteOf b) 16 := (txt_own b 16 h).symm
  rw [show txt (keyB b) (16 * m) ++ b = txt (keyB b) (16 * m) ++ txt (byteOf b) 16 by rw [← e], show 16 * (m + 1) = 16 * m + 16 by omega]
  refine txt_app _ _ _ _ fun i hi => ?_
  unfold keyB
  rw [if_pos h]
  congr 1; omega
theorem keyB_1 (b : ByteArray) (h : b.size = 16) : txt (keyB b) 16 = b := by
  refine Eq.trans (txt_ext _ (byteOf b) 16 fun i hi => ?_) (txt_own b 16 h)
  unfold keyB
  rw [if_pos h, Nat.mod_eq_of_lt hi]
theorem keyB_4 (b : ByteArray) (h : b.size = 16) : b ++ b ++ b ++ b = txt (keyB b) 64 := by
  have h1 := keyB_1 b h
  have h2 := keyB_txt b h 1
  have h3 := keyB_txt b h 2
  have h4 := keyB_txt b h 3
  simp only [Nat.mul_one] at h2
  rw [h1] at h2
  rw [← h2] at h3
  rw [← h3] at h4
  exact h4
theorem keyB_rep (b : ByteArray) (h : b.size = 16) : (⟨(Lib.repeatL b.data.toList 4).toArray⟩ : ByteArray) = txt (keyB b) 64 := by
  rw [← keyB_4 b h]
  apply ByteArray.ext
  apply Array.ext'
  simp [Lib.repeatL, ByteArray.data_append]
theorem built_zero : Tryz.prog.built 135 [] = some zeroQ := by kernel_rfl
set_option maxRecDepth 100000 in
set_option maxHeartbeats 1600000 in
theorem PlaneKey_no_impl (b : ByteArray) (h : ¬ b.size = 16) (w : World) :
    Calls Tryz.prog 88 #[.string b] w fun e w' => e = .returned (.agg (pc (keyB b))) ∧ Below w.heap.size w w' := by
  have hb2 : ¬ (b.size : Int) = 16 := by omega
  rw [keyB_no b h, ← zeroQ_pc]
  have hsi : (Tryz.prog.info? 135).map (·.size) = some zeroQ.size := by kernel_rfl
  have hone : zeroQ.all (·.oneCell') = true := by rw [zeroQ_pc]; exact pc_one _
  have R0 := Lib.hid (RQ.new w 135 zeroQ)
  have HSR := Lib.hid (R0.out.row zeroQ)
  have HB := Lib.hid (below_setRow (alQ_up w (.cells zeroQ 135)) (Nat.le_refl w.heap.size) zeroQ)
  have hz0 : zeroQ = #[.int .u64 0, .int .u64 0, .int .u64 0, .int .u64 0, .int .u64 0, .int .u64 0, .int .u64 0, .int .u64 0] := rfl
  have HZ := Lib.hid hz0
  clear hz0
  go_enter Tryz.func88, Tryz.ntmps88
  go_wp2_with (first
    | (refine wpList_buildTo rfl 135 _ rfl (some 6) rfl zeroQ (Eq.trans (congrArg (Tryz.prog.built 135) (by kernel_rfl : _ = [])) built_zero) ?_)
    | (refine wpList_store_row rfl 135 _ _ rfl w.heap.size zeroQ rfl rfl 135 _ R0.out hsi rfl hone ?_))
  refine bodyPost_ret (v := .agg zeroQ) ?_ rfl ⟨rfl, HB.out⟩
  exact results_cell_row rfl _ _ w.heap.size 135 zeroQ (0, 0) _ rfl HSR.out Tryz.underlying135 rfl hsi
set_option maxRecDepth 100000 in
set_option maxHeartbeats 1600000 in
theorem PlaneKey_yes_impl (b : ByteArray) (h : b.size = 16) (w : World) :
    Calls Tryz.prog 88 #[.string b] w fun e w' => e = .returned (.agg (pc (keyB b))) ∧ Below w.heap.size w w' := by
  have hb2 : (b.size : Int) = 16 := by omega
  have C1 : ∀ W, Hid (Calls Tryz.prog 126 #[.string b, .int .i64 4] W fun e w' => e = .returned (.string (txt (keyB b) 64)) ∧ Below W.heap.size W w') := fun W => Lib.hid (by
    have h2 := Tryz.strings_Repeat b 4 W (by omega) (by omega)
    rw [keyB_rep b h] at h2
    exact h2)
  have C2 : ∀ W, Hid (Calls Tryz.prog 125 #[.string (txt (keyB b) 64)] W fun e w' => e = .returned (.agg (pc (keyB b))) ∧ Below W.heap.size W w') := fun W => Lib.hid (by
    have h := ToPlanes_impl (txt (keyB b) 64) W (by rw [txt_size]; omega)
    rwa [pc_txt] at h)
  have hsi := planes_info (keyB b)
  have hone := pc_one (keyB b)
  have hz : zeroQ.size = (pc (keyB b)).size := by rw [pc_size]; rfl
  have AZ := Lib.hid (RQ.new w 135 zeroQ)
  have B0 := Lib.hid (alQ_up w (.cells zeroQ 135))
  obtain ⟨W0, hW⟩ : ∃ W0, w.alloc (.cells zeroQ 135) = W0 := ⟨_, rfl⟩
  rw [hW] at AZ B0
  have HW := Lib.hid hW
  clear hW h
  generalize pc (keyB b) = R at *
  generalize txt (keyB b) 64 = T1 at *
  unfold zeroQ at HW
  go_enter Tryz.func88, Tryz.ntmps88
  go_wp2_with fail
  rw [HW.out]
  refine (C1 _).out.mono ?_; rintro e w1 ⟨rfl, hb1⟩
  have AZ1 := Lib.hid (AZ.out.up hb1)
  have B1 := Lib.hid (B0.out.trans (hb1.mono B0.out.size))
  clear hb1 AZ B0 HW C1
  go_wp2_with fail
  refine (C2 _).out.mono ?_; rintro e w2 ⟨rfl, hb2⟩
  have AZ2 := Lib.hid (AZ1.out.up hb2)
  have B2 := Lib.hid (B1.out.trans (hb2.mono B1.out.size))
  have HSR := Lib.hid (AZ2.out.row R)
  have HB := Lib.hid (below_setRow B2.out (Nat.le_refl w.heap.size) R)
  clear hb2 AZ1 B1 C2
  go_wp2_with (refine wpList_store_row rfl 135 _ _ rfl w.heap.size R rfl rfl 135 _ (by have h := AZ2.out; exact h) hsi hz hone ?_)
  refine bodyPost_ret (v := .agg R) ?_ rfl ⟨rfl, HB.out⟩
  exact results_cell_row rfl _ _ w.heap.size 135 R (0, 0) _ rfl (by have h := HSR.out; exact h) Tryz.underlying135 rfl hsi
theorem PlaneKey_impl (b : ByteArray) (w : World) :
    Calls Tryz.prog 88 #[.string b] w fun e w' => e = .returned (.agg (pc (keyB b))) ∧ Below w.heap.size w w' := by
  by_cases h : b.size = 16
  · exact PlaneKey_yes_impl b h w
  · exact PlaneKey_no_impl b h w
end Go.Proofs.YtbfmbdohebdbaaaGreatDoor
