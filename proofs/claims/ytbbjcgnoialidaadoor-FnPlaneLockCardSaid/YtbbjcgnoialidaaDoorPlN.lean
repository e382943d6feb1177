/-
  What impl's planes answer that are moved, and the box of planes.
-/
import Derived.Test.YtbbjcgnoialidaaDoorPlM
set_option linter.unusedVariables false
set_option linter.unusedSimpArgs false
namespace Go.Proofs.YtbbjcgnoialidaaDoor
open Go Go.RowKit

theorem plc_new5 (w : World) : PlcAt (w.alloc (.cells #[.int .i64 0, .int .i64 4, .int .i64 5, .int .i64 6, .int .i64 7] 3)) w.heap.size [0, 4, 5, 6, 7] :=
  ⟨by simp, fun j hj => by
    have h : j = 0 ∨ j = 1 ∨ j = 2 ∨ j = 3 ∨ j = 4 := by simp at hj; omega
    rcases h with rfl | rfl | rfl | rfl | rfl
    · exact (cell_of_row _ w.heap.size 0 _ _ _ (heap_alloc_new w _)).trans rfl
    · exact (cell_of_row _ w.heap.size 1 _ _ _ (heap_alloc_new w _)).trans rfl
    · exact (cell_of_row _ w.heap.size 2 _ _ _ (heap_alloc_new w _)).trans rfl
    · exact (cell_of_row _ w.heap.size 3 _ _ _ (heap_alloc_new w _)).trans rfl
    · exact (cell_of_row _ w.heap.size 4 _ _ _ (heap_alloc_new w _)).trans rfl⟩
theorem plc_new3 (w : World) : PlcAt (w.alloc (.cells #[.int .i64 2, .int .i64 5, .int .i64 7] 3)) w.heap.size [2, 5, 7] :=
  ⟨by simp, fun j hj => by
    have h : j = 0 ∨ j = 1 ∨ j = 2 := by simp at hj; omega
    rcases h with rfl | rfl | rfl
    · exact (cell_of_row _ w.heap.size 0 _ _ _ (heap_alloc_new w _)).trans rfl
    · exact (cell_of_row _ w.heap.size 1 _ _ _ (heap_alloc_new w _)).trans rfl
    · exact (cell_of_row _ w.heap.size 2 _ _ _ (heap_alloc_new w _)).trans rfl⟩
theorem turns5 (s : Nat → UInt8) (g : Nat) (w : World) (hg : PlcAt w g [0, 4, 5, 6, 7]) :
    Calls Tryd.prog 70 #[.agg (pc s), .slice (some ⟨g, 0, none⟩) 5 5] w fun e w' => e = .returned (.agg (pc (fun i => turns (s i) [0, 4, 5, 6, 7] 5))) ∧ Below w.heap.size w w' :=
  turnsP s [0, 4, 5, 6, 7] (by decide) 5 rfl (by omega) g w hg
theorem turns3 (s : Nat → UInt8) (g : Nat) (w : World) (hg : PlcAt w g [2, 5, 7]) :
    Calls Tryd.prog 70 #[.agg (pc s), .slice (some ⟨g, 0, none⟩) 3 3] w fun e w' => e = .returned (.agg (pc (fun i => turns (s i) [2, 5, 7] 3))) ∧ Below w.heap.size w w' :=
  turnsP s [2, 5, 7] (by decide) 3 rfl (by omega) g w hg
theorem same99 (w : World) : Calls Tryd.prog 56 #[.int .u8 99] w fun e w' => e = .returned (.agg (pc (fun _ => 99))) ∧ Below w.heap.size w w' := sameP 99 w
set_option maxRecDepth 100000 in
set_option maxHeartbeats 3200000 in
theorem affineP (s : Nat → UInt8) (w : World) :
    Calls Tryd.prog 47 #[.agg (pc s)] w fun e w' => e = .returned (.agg (pc (fun i => aff (s i)))) ∧ Below w.heap.size w w' := by
  obtain ⟨u, hu⟩ : ∃ f : Nat → UInt8, f = fun i => turns (s i) [0, 4, 5, 6, 7] 5 := ⟨_, rfl⟩
  obtain ⟨r, hr⟩ : ∃ f : Nat → UInt8, f = fun i => u i ^^^ 99 := ⟨_, rfl⟩
  have hlast : (fun i => aff (s i)) = r := by rw [hr, hu]; funext i; exact (turns_aff (s i)).symm
  have C1 := fun g W hg => Lib.hid (turns5 s g W hg)
  have C2 := fun W => Lib.hid (same99 W)
  have C3 := fun W => Lib.hid (xorP u (fun _ => 99) W)
  rw [hlast]
  rw [← hu] at C1
  rw [← hr] at C3
  clear hu hr hlast
  have i1 := planes_info s
  have hsi := planes_info r
  have hone := pc_one r
  have hz : zeroQ.size = (pc r).size := by rw [pc_size]; rfl
  generalize pc s = P1 at *
  generalize pc u = P2 at *
  generalize pc (fun _ => 99) = P3 at *
  generalize pc r = R at *
  obtain ⟨W0, hW⟩ : ∃ W0, (w.alloc (.cells P1 26)).alloc (.cells zeroQ 26) = W0 := ⟨_, rfl⟩
  obtain ⟨a1, az, hb0⟩ := newQ2 w _ _ _ _ hW
  have hsz : W0.heap.size = w.heap.size + 1 + 1 := by rw [← hW, alQ_sz, alQ_sz]
  have pn := plc_new5 W0
  rw [hsz] at pn
  have PN := Lib.hid pn
  have HW := Lib.hid hW
  have A1 := Lib.hid a1
  have AZ := Lib.hid (az.alloc (.cells #[.int .i64 0, .int .i64 4, .int .i64 5, .int .i64 6, .int .i64 7] 3))
  have B0 := Lib.hid (hb0.trans ((alQ_up W0 (.cells #[.int .i64 0, .int .i64 4, .int .i64 5, .int .i64 6, .int .i64 7] 3)).mono hb0.size))
  clear hW a1 az hb0 hsz pn
  unfold zeroQ at HW
  go_enter Tryd.func47, Tryd.ntmps47
  go_wp2_with (refine wpList_load_row rfl 26 _ rfl w.heap.size rfl 26 P1 (0, 0) _ (by rw [HW.out]; exact A1.out) Tryd.underlying26 rfl i1 ?_)
  rw [HW.out]
  refine (C1 _ _ PN.out).out.mono ?_; rintro e w1 ⟨rfl, hb1⟩
  have AZ1 := Lib.hid (AZ.out.up hb1)
  have B1 := Lib.hid (B0.out.trans (hb1.mono B0.out.size))
  clear hb1 AZ B0 PN A1 HW
  go_wp2_with fail
  refine (C2 _).out.mono ?_; rintro e w2 ⟨rfl, hb2⟩
  have AZ2 := Lib.hid (AZ1.out.up hb2)
  have B2 := Lib.hid (B1.out.trans (hb2.mono B1.out.size))
  clear hb2 AZ1 B1
  go_wp2_with fail
  refine (C3 _).out.mono ?_; rintro e w3 ⟨rfl, hb3⟩
  have AZ3 := Lib.hid (AZ2.out.up hb3)
  have B3 := Lib.hid (B2.out.trans (hb3.mono B2.out.size))
  have HSR := Lib.hid (AZ3.out.row R)
  have HB := Lib.hid (below_setRow B3.out (show w.heap.size ≤ w.heap.size + 1 by omega) R)
  clear hb3 AZ2 B2
  go_wp2_with (refine wpList_store_row rfl 26 _ _ rfl (w.heap.size + 1) R rfl rfl 26 _ (by have h := AZ3.out; exact h) hsi hz hone ?_)
  refine bodyPost_ret (v := .agg R) ?_ rfl ⟨rfl, HB.out⟩
  exact results_cell_row rfl _ _ (w.heap.size + 1) 26 R (0, 0) _ rfl (by have h := HSR.out; exact h) Tryd.underlying26 rfl hsi
/-- what stays while the calls of a function of planes are made: its argument, its answer's place. -/
def HoldP (w : World) (P1 : Array Value) (V : World) : Prop := RQ V w.heap.size 26 P1 ∧ (∃ Z : Array Value, Z.size = 8 ∧ RQ V (w.heap.size + 1) 26 Z) ∧ Below w.heap.size w V
theorem HoldP.next {w V V' : World} {P1 : Array Value} (h : HoldP w P1 V) (hb : Below V.heap.size V V') : HoldP w P1 V' :=
  ⟨h.1.up hb, h.2.1.elim (fun Z hZ => ⟨Z, hZ.1, hZ.2.up hb⟩), h.2.2.trans (hb.mono h.2.2.size)⟩
end Go.Proofs.YtbbjcgnoialidaaDoor
