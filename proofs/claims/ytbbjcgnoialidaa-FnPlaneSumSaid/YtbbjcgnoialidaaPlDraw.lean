/-
  What the draws of planes answer.
-/
import Derived.Test.YtbbjcgnoialidaaPlV
import Derived.Test.YtbbjcgnoialidaaBase
set_option linter.unusedVariables false
set_option linter.unusedSimpArgs false
namespace Go.Proofs.Ytbbjcgnoialidaa
open Go Go.RowKit

theorem below_grow {w w' : World} (h : Below w.heap.size w w') : w.grownBy w' none := ⟨h.os, h.tape, h.output, h.size, fun k hk _ => h.block k hk⟩
theorem setRow_grow (w : World) (g : Nat) (cs : Array Value) : w.grownBy (w.setRow g cs) (some g) :=
  ⟨by simp [World.setRow], by simp [World.setRow], by simp [World.setRow], by simp [World.setRow], fun k hk hne => setRow_other w g k cs (fun e => hne (by rw [e]))⟩
theorem RQ.grown {w w' : World} {g r : Nat} {t : TypeId} {cs : Array Value} (h : RQ w r t cs) (hg : w.grownBy w' (some g)) (hne : r ≠ g) : RQ w' r t cs := (hg.block r h.lt (fun e => hne (by cases e; rfl))).trans h
set_option maxRecDepth 100000 in
set_option maxHeartbeats 1600000 in
theorem planes_any (w : World) (B g : Nat) (A : Option Addr) (len cap : Nat) (hc : CurIn w B g A len cap) :
    Calls Try.prog 49 #[.pointer (some ⟨g, 0, none⟩)] w fun e w' => ∃ s : Nat → UInt8, e = .returned (.agg (pc s)) ∧ CurIn w' B g A len cap ∧ w.grownBy w' (some g) := by
  have hgw := hc.lt
  have hz : zeroQ = #[.int .u64 0, .int .u64 0, .int .u64 0, .int .u64 0, .int .u64 0, .int .u64 0, .int .u64 0, .int .u64 0] := rfl
  have R0 : Hid (RQ ((w.alloc (.cells zeroQ 27)).alloc (.cells #[.int .i64 64, .int .i64 64, .int .i64 16, .int .i64 30] 3)) w.heap.size 27 zeroQ) := Lib.hid ((RQ.new w _ _).alloc _)
  rw [hz] at R0
  clear hz
  go_enter Try.func49, Try.ntmps49
  go_wp2_with fail
  refine (pickint_any (fun u => 0 ≤ u ∧ u ≤ 64) 4 (w.heap.size + 1) 3 _ (by omega) (by omega) _ _ _ _ _ _ ((hc.alloc _).alloc _) (by simpa using heap_alloc_new (w.alloc _) _) (by omega) (lits [64, 64, 16, 30] (by simp))).mono ?_
  rintro e w2 ⟨u, rfl, ⟨hu0, hu1⟩, hc2, hg2⟩
  obtain ⟨n, rfl⟩ := Int.eq_ofNat_of_zero_le hu0
  have R2 := Lib.hid (R0.out.grown hg2 (by omega))
  have G2 := Lib.hid (only_trans (only_alloc (only_alloc (only_refl w (some g)) _) _) hg2)
  have HN : Hid (n ≤ 64) := Lib.hid (by omega)
  have C2 := Lib.hid hc2
  clear hu0 hu1 hg2 R0 hc2 hc
  go_wp2_with fail
  refine (bytes_any n (by have := HN.out; omega) _ _ _ _ _ _ C2.out).mono ?_; rintro e w3 ⟨s, rfl, hs, hc3, hg3⟩
  have R3 := Lib.hid (R2.out.grown hg3 (by omega))
  have G3 := Lib.hid (only_trans G2.out hg3)
  have C3 := Lib.hid hc3
  have HS : Hid (s.size ≤ 1073741824) := Lib.hid (by have := HN.out; omega)
  clear hg3 hc3 R2 G2 C2 HN hs
  have CT := Lib.hid (ToPlanes_spec s w3 HS.out)
  have hsi := planes_info (byteOf s)
  have hone := pc_one (byteOf s)
  have hz : zeroQ.size = (pc (byteOf s)).size := by rw [pc_size]; rfl
  unfold zeroQ at hz
  obtain ⟨R, hR⟩ : ∃ R, pc (byteOf s) = R := ⟨_, rfl⟩
  rw [hR] at CT hsi hone hz
  have HR := Lib.hid hR
  clear hR HS
  go_wp2_with fail
  refine CT.out.mono ?_; rintro e w4 ⟨rfl, hb4⟩
  have R4 := Lib.hid (R3.out.up hb4)
  have G4 := Lib.hid (only_below G3.out hb4 G3.out.size)
  have C4 := Lib.hid (C3.out.grown (below_grow hb4) (fun k e => by cases e))
  have MS := Lib.hid (R4.out.row R)
  have GS := Lib.hid (only_grown G4.out (setRow_grow w4 w.heap.size R) (fun r e => by cases e; exact Or.inr (Nat.le_refl _)))
  have CS := Lib.hid (C4.out.grown (setRow_grow w4 w.heap.size R) (fun k e => by cases e; exact hgw))
  clear hb4 R3 G3 C3 CT G4 C4
  go_wp2_with (refine wpList_store_row rfl 27 _ _ rfl w.heap.size R rfl rfl 27 _ (by have h := R4.out; exact h) hsi hz hone ?_)
  refine bodyPost_ret (v := .agg R) ?_ rfl ⟨_, by rw [HR.out], CS.out, GS.out⟩
  exact results_cell_row rfl _ _ w.heap.size 27 R (0, 0) _ rfl (by have h := MS.out; exact h) Try.underlying27 rfl hsi
set_option maxRecDepth 100000 in
set_option maxHeartbeats 1600000 in
theorem draw_FromPlanes (w : World) (A : Option Addr) (len cap : Nat) (hcode : CodeAt w w.heap.size A len) (hl : len ≤ 1048576) :
    Calls Try.prog 18 #[.slice A len cap] w fun e w' => ∃ s : Nat → UInt8, e = .returned (.agg (pc s)) ∧ Below w.heap.size w w' := by
  have hz : zeroQ = #[.int .u64 0, .int .u64 0, .int .u64 0, .int .u64 0, .int .u64 0, .int .u64 0, .int .u64 0, .int .u64 0] := rfl
  obtain ⟨W0, hW⟩ : ∃ W0, w.alloc (.cells zeroQ 27) = W0 := ⟨_, rfl⟩
  have A0 : Hid (RQ W0 w.heap.size 27 zeroQ) := Lib.hid (hW ▸ RQ.new w _ _)
  have B0 : Hid (Below w.heap.size w W0) := Lib.hid (hW ▸ alQ_up w _)
  have hsz : W0.heap.size = w.heap.size + 1 := by rw [← hW, alQ_sz]
  have HC : Hid (CodeAt W0 W0.heap.size A len) := Lib.hid (fun j hj => by
    obtain ⟨b, o, x, h1, h2, h3, h4⟩ := (hcode.below B0.out (Nat.le_refl _)) j hj
    exact ⟨b, o, x, h1, by omega, h3, h4⟩)
  rw [hz] at A0 hW
  have HW := Lib.hid hW
  clear hz hW hcode
  go_enter Try.func18, Try.ntmps18
  go_wp2_with fail
  rw [HW.out]
  refine (new_any _ _ _ _ HC.out hl).mono ?_; rintro e w1 ⟨g, rfl, hc1, hb1⟩
  have A1 := Lib.hid (A0.out.up hb1)
  have B1 := Lib.hid (B0.out.trans (hb1.mono B0.out.size))
  have C1 := Lib.hid hc1
  have hg : w.heap.size < g := by have := hc1.1; omega
  clear hb1 hc1 A0 B0 HW HC
  go_wp2_with fail
  refine (planes_any _ _ _ _ _ _ C1.out).mono ?_; rintro e w2 ⟨s, rfl, hc2, hg2⟩
  have A2 := Lib.hid (A1.out.grown hg2 (by omega))
  have B2 := Lib.hid (below_only B1.out hg2 (Nat.le_of_lt hg) B1.out.size)
  have hsi := planes_info s
  have hone := pc_one s
  have hz : zeroQ.size = (pc s).size := by rw [pc_size]; rfl
  unfold zeroQ at hz
  obtain ⟨R, hR⟩ : ∃ R, pc s = R := ⟨_, rfl⟩
  rw [hR] at hsi hone hz ⊢
  have HR := Lib.hid hR
  have MS := Lib.hid (A2.out.row R)
  have MB := Lib.hid (below_setRow B2.out (Nat.le_refl w.heap.size) R)
  clear hR hc2 hg2 A1 B1 C1
  go_wp2_with (refine wpList_store_row rfl 27 _ _ rfl w.heap.size R rfl rfl 27 _ (by have h := A2.out; exact h) hsi hz hone ?_)
  refine bodyPost_ret (v := .agg R) ?_ rfl ⟨_, by rw [HR.out], MB.out⟩
  exact results_cell_row rfl _ _ w.heap.size 27 R (0, 0) _ rfl (by have h := MS.out; exact h) Try.underlying27 rfl hsi
set_option maxRecDepth 100000 in
set_option maxHeartbeats 1600000 in
theorem draw_PlaneSub (w : World) (A : Option Addr) (len cap : Nat) (hcode : CodeAt w w.heap.size A len) (hl : len ≤ 1048576) :
    Calls Try.prog 31 #[.slice A len cap] w fun e w' => ∃ s : Nat → UInt8, e = .returned (.agg (pc s)) ∧ Below w.heap.size w w' := by
  have hz : zeroQ = #[.int .u64 0, .int .u64 0, .int .u64 0, .int .u64 0, .int .u64 0, .int .u64 0, .int .u64 0, .int .u64 0] := rfl
  obtain ⟨W0, hW⟩ : ∃ W0, w.alloc (.cells zeroQ 27) = W0 := ⟨_, rfl⟩
  have A0 : Hid (RQ W0 w.heap.size 27 zeroQ) := Lib.hid (hW ▸ RQ.new w _ _)
  have B0 : Hid (Below w.heap.size w W0) := Lib.hid (hW ▸ alQ_up w _)
  have hsz : W0.heap.size = w.heap.size + 1 := by rw [← hW, alQ_sz]
  have HC : Hid (CodeAt W0 W0.heap.size A len) := Lib.hid (fun j hj => by
    obtain ⟨b, o, x, h1, h2, h3, h4⟩ := (hcode.below B0.out (Nat.le_refl _)) j hj
    exact ⟨b, o, x, h1, by omega, h3, h4⟩)
  rw [hz] at A0 hW
  have HW := Lib.hid hW
  clear hz hW hcode
  go_enter Try.func31, Try.ntmps31
  go_wp2_with fail
  rw [HW.out]
  refine (new_any _ _ _ _ HC.out hl).mono ?_; rintro e w1 ⟨g, rfl, hc1, hb1⟩
  have A1 := Lib.hid (A0.out.up hb1)
  have B1 := Lib.hid (B0.out.trans (hb1.mono B0.out.size))
  have C1 := Lib.hid hc1
  have hg : w.heap.size < g := by have := hc1.1; omega
  clear hb1 hc1 A0 B0 HW HC
  go_wp2_with fail
  refine (planes_any _ _ _ _ _ _ C1.out).mono ?_; rintro e w2 ⟨s, rfl, hc2, hg2⟩
  have A2 := Lib.hid (A1.out.grown hg2 (by omega))
  have B2 := Lib.hid (below_only B1.out hg2 (Nat.le_of_lt hg) B1.out.size)
  have hsi := planes_info s
  have hone := pc_one s
  have hz : zeroQ.size = (pc s).size := by rw [pc_size]; rfl
  unfold zeroQ at hz
  obtain ⟨R, hR⟩ : ∃ R, pc s = R := ⟨_, rfl⟩
  rw [hR] at hsi hone hz ⊢
  have HR := Lib.hid hR
  have MS := Lib.hid (A2.out.row R)
  have MB := Lib.hid (below_setRow B2.out (Nat.le_refl w.heap.size) R)
  clear hR hc2 hg2 A1 B1 C1
  go_wp2_with (refine wpList_store_row rfl 27 _ _ rfl w.heap.size R rfl rfl 27 _ (by have h := A2.out; exact h) hsi hz hone ?_)
  refine bodyPost_ret (v := .agg R) ?_ rfl ⟨_, by rw [HR.out], MB.out⟩
  exact results_cell_row rfl _ _ w.heap.size 27 R (0, 0) _ rfl (by have h := MS.out; exact h) Try.underlying27 rfl hsi
set_option maxRecDepth 100000 in
set_option maxHeartbeats 1600000 in
theorem draw_PlaneUnsub (w : World) (A : Option Addr) (len cap : Nat) (hcode : CodeAt w w.heap.size A len) (hl : len ≤ 1048576) :
    Calls Try.prog 32 #[.slice A len cap] w fun e w' => ∃ s : Nat → UInt8, e = .returned (.agg (pc s)) ∧ Below w.heap.size w w' := by
  have hz : zeroQ = #[.int .u64 0, .int .u64 0, .int .u64 0, .int .u64 0, .int .u64 0, .int .u64 0, .int .u64 0, .int .u64 0] := rfl
  obtain ⟨W0, hW⟩ : ∃ W0, w.alloc (.cells zeroQ 27) = W0 := ⟨_, rfl⟩
  have A0 : Hid (RQ W0 w.heap.size 27 zeroQ) := Lib.hid (hW ▸ RQ.new w _ _)
  have B0 : Hid (Below w.heap.size w W0) := Lib.hid (hW ▸ alQ_up w _)
  have hsz : W0.heap.size = w.heap.size + 1 := by rw [← hW, alQ_sz]
  have HC : Hid (CodeAt W0 W0.heap.size A len) := Lib.hid (fun j hj => by
    obtain ⟨b, o, x, h1, h2, h3, h4⟩ := (hcode.below B0.out (Nat.le_refl _)) j hj
    exact ⟨b, o, x, h1, by omega, h3, h4⟩)
  rw [hz] at A0 hW
  have HW := Lib.hid hW
  clear hz hW hcode
  go_enter Try.func32, Try.ntmps32
  go_wp2_with fail
  rw [HW.out]
  refine (new_any _ _ _ _ HC.out hl).mono ?_; rintro e w1 ⟨g, rfl, hc1, hb1⟩
  have A1 := Lib.hid (A0.out.up hb1)
  have B1 := Lib.hid (B0.out.trans (hb1.mono B0.out.size))
  have C1 := Lib.hid hc1
  have hg : w.heap.size < g := by have := hc1.1; omega
  clear hb1 hc1 A0 B0 HW HC
  go_wp2_with fail
  refine (planes_any _ _ _ _ _ _ C1.out).mono ?_; rintro e w2 ⟨s, rfl, hc2, hg2⟩
  have A2 := Lib.hid (A1.out.grown hg2 (by omega))
  have B2 := Lib.hid (below_only B1.out hg2 (Nat.le_of_lt hg) B1.out.size)
  have hsi := planes_info s
  have hone := pc_one s
  have hz : zeroQ.size = (pc s).size := by rw [pc_size]; rfl
  unfold zeroQ at hz
  obtain ⟨R, hR⟩ : ∃ R, pc s = R := ⟨_, rfl⟩
  rw [hR] at hsi hone hz ⊢
  have HR := Lib.hid hR
  have MS := Lib.hid (A2.out.row R)
  have MB := Lib.hid (below_setRow B2.out (Nat.le_refl w.heap.size) R)
  clear hR hc2 hg2 A1 B1 C1
  go_wp2_with (refine wpList_store_row rfl 27 _ _ rfl w.heap.size R rfl rfl 27 _ (by have h := A2.out; exact h) hsi hz hone ?_)
  refine bodyPost_ret (v := .agg R) ?_ rfl ⟨_, by rw [HR.out], MB.out⟩
  exact results_cell_row rfl _ _ w.heap.size 27 R (0, 0) _ rfl (by have h := MS.out; exact h) Try.underlying27 rfl hsi
set_option maxRecDepth 100000 in
set_option maxHeartbeats 1600000 in
theorem draw_ToPlanes (w : World) (A : Option Addr) (len cap : Nat) (hcode : CodeAt w w.heap.size A len) (hl : len ≤ 1048576) :
    Calls Try.prog 16 #[.slice A len cap] w fun e w' => ∃ s : ByteArray, e = .returned (.string s) ∧ s.size ≤ 1000 ∧ Below w.heap.size w w' := by
  have H := Lib.hid hcode
  clear hcode
  go_enter Try.func16, Try.ntmps16
  go_wp2_with fail
  refine (new_any _ _ _ _ H.out hl).mono ?_; rintro e w1 ⟨g, rfl, hc1, hb1⟩
  go_wp2_with fail
  refine (pickint_any (fun u => 0 ≤ u ∧ u ≤ 80) 6 w1.heap.size 3 _ (by omega) (by omega) _ _ _ _ _ _ (hc1.alloc _) (heap_alloc_new w1 _) hc1.lt (lits [64, 16, 0, 63, 65, 80] (by simp))).mono ?_
  rintro e w2 ⟨u, rfl, ⟨hu0, hu1⟩, hc2, hg2⟩
  obtain ⟨n, rfl⟩ := Int.eq_ofNat_of_zero_le hu0
  go_wp2_with fail
  refine (bytes_any n (by omega) _ _ _ _ _ _ hc2).mono ?_; rintro e w3 ⟨s, rfl, hs, hc3, hg3⟩
  have HK : Hid (s.size ≤ 1000) := Lib.hid (by omega)
  have HB := Lib.hid (below_only hb1 (only_trans (only_alloc (only_refl w1 (some g)) _) (only_trans hg2 hg3)) hc1.1 hb1.size)
  clear hs
  go_wp2
  go_ret
  exact ⟨_, rfl, HK.out, HB.out⟩
end Go.Proofs.Ytbbjcgnoialidaa
