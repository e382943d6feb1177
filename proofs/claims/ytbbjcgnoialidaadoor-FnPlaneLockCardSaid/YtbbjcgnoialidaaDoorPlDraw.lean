/-
  What the draws of planes answer.
-/
import Derived.Test.YtbbjcgnoialidaaDoorPlV
import Derived.Test.YtbbjcgnoialidaaDoorBase
set_option linter.unusedVariables false
set_option linter.unusedSimpArgs false
namespace Go.Proofs.YtbbjcgnoialidaaDoor
open Go Go.RowKit

theorem below_growP {w w' : World} (h : Below w.heap.size w w') : w.grownBy w' none := ⟨h.os, h.tape, h.output, h.size, fun k hk _ => h.block k hk⟩
theorem setRow_grow (w : World) (g : Nat) (cs : Array Value) : w.grownBy (w.setRow g cs) (some g) :=
  ⟨by simp [World.setRow], by simp [World.setRow], by simp [World.setRow], by simp [World.setRow], fun k hk hne => setRow_other w g k cs (fun e => hne (by rw [e]))⟩
theorem RQ.grown {w w' : World} {g r : Nat} {t : TypeId} {cs : Array Value} (h : RQ w r t cs) (hg : w.grownBy w' (some g)) (hne : r ≠ g) : RQ w' r t cs := (hg.block r h.lt (fun e => hne (by cases e; rfl))).trans h
set_option maxRecDepth 100000 in
set_option maxHeartbeats 1600000 in
theorem planes_any (w : World) (B g : Nat) (A : Option Addr) (len cap : Nat) (hc : CurIn w B g A len cap) :
    Calls Tryd.prog 28 #[.pointer (some ⟨g, 0, none⟩)] w fun e w' => ∃ s : Nat → UInt8, e = .returned (.agg (pc s)) ∧ CurIn w' B g A len cap ∧ w.grownBy w' (some g) := by
  have hgw := hc.lt
  have hz : zeroQ = #[.int .u64 0, .int .u64 0, .int .u64 0, .int .u64 0, .int .u64 0, .int .u64 0, .int .u64 0, .int .u64 0] := rfl
  have R0 : Hid (RQ ((w.alloc (.cells zeroQ 26)).alloc (.cells #[.int .i64 64, .int .i64 64, .int .i64 16, .int .i64 30] 3)) w.heap.size 26 zeroQ) := Lib.hid ((RQ.new w _ _).alloc _)
  rw [hz] at R0
  clear hz
  go_enter Tryd.func28, Tryd.ntmps28
  go_wp2_with fail
  refine (pickint_any (fun u => 0 ≤ u ∧ u ≤ 64) 4 (w.heap.size + 1) 3 _ (by omega) (by omega) _ _ _ _ _ _ ((hc.alloc _).alloc _) (by simpa using heap_alloc_new (w.alloc _) _) (by omega) (lits [64, 64, 16, 30] (by simp))).mono ?_
  rintro e w2 ⟨u, rfl, ⟨hu0, hu1⟩, hc2, hg2⟩
  obtain ⟨n, rfl⟩ := Int.eq_ofNat_of_zero_le hu0
  have R2 := Lib.hid (R0.out.grown hg2 (by omega))
  have G2 := Lib.hid (only_trans (only_alloc (only_alloc (only_refl w (some g)) _) _) hg2)
  have HN : Hid (n ≤ 64) := Lib.hid (by omega)
  have C2 := Lib.hid hc2
  clear hu0 hu1 hg2 R0 hc2 hc
  go_wp2_with fail
  refine (bytes_any n (by have := HN.out; omega) _ _ _ _ _ _ C2.out).mono ?_; rintro e w3 ⟨s, rfl, hs, hc3, hg3⟩
  have R3 := Lib.hid (R2.out.grown hg3 (by omega))
  have G3 := Lib.hid (only_trans G2.out hg3)
  have C3 := Lib.hid hc3
  have HS : Hid (s.size ≤ 1073741824) := Lib.hid (by have := HN.out; omega)
  clear hg3 hc3 R2 G2 C2 HN hs
  have CT := Lib.hid (ToPlanes_spec s w3 HS.out)
  have hsi := planes_info (byteOf s)
  have hone := pc_one (byteOf s)
  have hz : zeroQ.size = (pc (byteOf s)).size := by rw [pc_size]; rfl
  unfold zeroQ at hz
  obtain ⟨R, hR⟩ : ∃ R, pc (byteOf s) = R := ⟨_, rfl⟩
  rw [hR] at CT hsi hone hz
  have HR := Lib.hid hR
  clear hR HS
  go_wp2_with fail
  refine CT.out.mono ?_; rintro e w4 ⟨rfl, hb4⟩
  have R4 := Lib.hid (R3.out.up hb4)
  have G4 := Lib.hid (only_below G3.out hb4 G3.out.size)
  have C4 := Lib.hid (C3.out.grown (below_growP hb4) (fun k e => by cases e))
  have MS := Lib.hid (R4.out.row R)
  have GS := Lib.hid (only_grown G4.out (setRow_grow w4 w.heap.size R) (fun r e => by cases e; exact Or.inr (Nat.le_refl _)))
  have CS := Lib.hid (C4.out.grown (setRow_grow w4 w.heap.size R) (fun k e => by cases e; exact hgw))
  clear hb4 R3 G3 C3 CT G4 C4
  go_wp2_with (refine wpList_store_row rfl 26 _ _ rfl w.heap.size R rfl rfl 26 _ (by have h := R4.out; exact h) hsi hz hone ?_)
  refine bodyPost_ret (v := .agg R) ?_ rfl ⟨_, by rw [HR.out], CS.out, GS.out⟩
  exact results_cell_row rfl _ _ w.heap.size 26 R (0, 0) _ rfl (by have h := MS.out; exact h) Tryd.underlying26 rfl hsi
end Go.Proofs.YtbbjcgnoialidaaDoor
