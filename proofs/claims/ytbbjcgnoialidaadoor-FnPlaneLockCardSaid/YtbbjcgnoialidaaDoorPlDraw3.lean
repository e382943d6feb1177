/-
  Draws of planes and of a way.
-/
import Derived.Test.YtbbjcgnoialidaaDoorPlDraw
import Derived.Test.YtbbjcgnoialidaaDoorHold2
import Derived.Laws.ResultCell
set_option linter.unusedVariables false
set_option linter.unusedSimpArgs false
namespace Go.Proofs.YtbbjcgnoialidaaDoor
open Go Go.RowKit

set_option maxRecDepth 100000 in
set_option maxHeartbeats 3200000 in
theorem draw_PlaneRows (w : World) (A : Option Addr) (len cap : Nat) (hcode : CodeAt w w.heap.size A len) (hl : len ≤ 1048576) :
    Calls Tryd.prog 7 #[.slice A len cap] w fun e w' => ∃ (s : Nat → UInt8) (k : Bool), e = .returned (.tuple #[.agg (pc s), .bool k]) ∧ Below w.heap.size w w' := by
  obtain ⟨W0, hW⟩ : ∃ W0, w.alloc (.cells zeroQ 26) = W0 := ⟨_, rfl⟩
  have a1 : RQ W0 w.heap.size 26 zeroQ := hW ▸ RQ.new w _ _
  have hb0 : Below w.heap.size w W0 := hW ▸ alQ_up w _
  have hsz : W0.heap.size = w.heap.size + 1 := by rw [← hW, alQ_sz]
  have HC : Hid (CodeAt W0 W0.heap.size A len) := Lib.hid (fun j hj => by
    obtain ⟨b, o, x, h1, h2, h3, h4⟩ := (hcode.below hb0 (Nat.le_refl _)) j hj
    exact ⟨b, o, x, h1, by omega, h3, h4⟩)
  have HW := Lib.hid hW
  have A1 := Lib.hid a1
  have B0 := Lib.hid hb0
  clear hW hcode a1 hb0
  unfold zeroQ at HW A1
  go_enter Tryd.func7, Tryd.ntmps7
  go_wp2_with fail
  rw [HW.out]
  refine (new_any _ _ _ _ HC.out hl).mono ?_; rintro e w1 ⟨g, rfl, hc1, hb1⟩
  have E1 := Lib.hid (A1.out.up hb1)
  have E4 := Lib.hid (B0.out.trans (hb1.mono B0.out.size))
  have C1 := Lib.hid hc1
  have hg : w.heap.size < g := by have := hc1.1; omega
  clear hb1 hc1 A1 B0 HW HC hsz
  go_wp2_with fail
  refine (planes_any _ _ _ _ _ _ C1.out).mono ?_; rintro e w2 ⟨s, rfl, hc2, hg2⟩
  have G1 := Lib.hid (E1.out.grown hg2 (by omega))
  have G4 := Lib.hid (below_only E4.out hg2 (by omega) E4.out.size)
  have hgl := hc2.lt
  have hp2 := G1.out.lt
  have is := planes_info s
  have os := pc_one s
  have zs : #[Value.int .u64 0, .int .u64 0, .int .u64 0, .int .u64 0, .int .u64 0, .int .u64 0, .int .u64 0, .int .u64 0].size = (pc s).size := by rw [pc_size]; rfl
  obtain ⟨R, hR⟩ : ∃ R, pc s = R := ⟨_, rfl⟩
  rw [hR] at is os zs ⊢
  have HR := Lib.hid hR
  obtain ⟨W3, hW3⟩ : ∃ W3, (w2.alloc (.cells #[Value.int .u64 0, .int .u64 0, .int .u64 0, .int .u64 0, .int .u64 0, .int .u64 0, .int .u64 0, .int .u64 0] 26)).setRow w2.heap.size R = W3 := ⟨_, rfl⟩
  have M := Lib.hid (RQ.new w2 26 #[Value.int .u64 0, .int .u64 0, .int .u64 0, .int .u64 0, .int .u64 0, .int .u64 0, .int .u64 0, .int .u64 0])
  have D1 : Hid (RQ W3.drew w.heap.size 26 #[Value.int .u64 0, .int .u64 0, .int .u64 0, .int .u64 0, .int .u64 0, .int .u64 0, .int .u64 0, .int .u64 0]) := Lib.hid (by rw [← hW3]; exact (G1.out.alloc _).other R (by omega))
  have D3 : RQ W3.drew w2.heap.size 26 R := by rw [← hW3]; exact (RQ.new w2 _ _).row R
  have D4 : Hid (Below w.heap.size w W3.drew) := Lib.hid (by rw [← hW3]; exact (below_setRow (G4.out.alloc G4.out.size _) G4.out.size R).drew)
  have D5 : Hid (CurIn W3.drew w1.heap.size g A len cap ∨ True) := Lib.hid (Or.inr trivial)
  have D6 := Lib.hid (((hc2.alloc (.cells #[Value.int .u64 0, .int .u64 0, .int .u64 0, .int .u64 0, .int .u64 0, .int .u64 0, .int .u64 0, .int .u64 0] 26)).grown (setRow_grow _ w2.heap.size R) (fun k e => by cases e; exact hgl)).drew)
  rw [hW3] at D6
  have HW3 := Lib.hid hW3
  clear hW3 hc2 hg2 hR G1 G4 E1 E4 C1 D5
  go_wp2_with (refine wpList_store_row rfl 26 _ _ rfl (w2.heap.size) R rfl rfl 26 _ M.out is zs os ?_)
  rw [HW3.out]
  clear HW3 M
  generalize w2.heap.size = p at *
  refine wp_region_held_drew (S := fun V => RQ V p 26 R) (by kernel_rfl) D3 (fun hS0 => ?_)
  clear D3
  generalize W3.drew = wq at *
  refine wpAnyH_take (i := 0) (v := .agg R) rfl (by kernel_rfl) (by kernel_rfl) (by kernel_rfl) (fun _ _ _ h => h) (Or.inl ⟨by kernel_rfl, fun V hV => exec_load_row 26 _ rfl p rfl 26 R _ hV Tryd.underlying26 rfl is⟩) (by assumption) ?_
  try simp only [List.getElem_toArray, List.getElem_cons_succ, List.getElem_cons_zero, Act.put, List.setIfInBounds_toArray, List.set_cons_zero, List.set_cons_succ]
  refine wpAnyH_take (i := 1) (v := ?_) rfl (by kernel_rfl) (by kernel_rfl) (by kernel_rfl) (fun _ _ _ h => h) (Or.inl ⟨by kernel_rfl, ?_⟩) (by assumption) ?_
  rotate_left
  · intro w hSw
    go_simp
    first | done | with_reducible rfl
  try simp only [List.getElem_toArray, List.getElem_cons_succ, List.getElem_cons_zero, Act.put, List.setIfInBounds_toArray, List.set_cons_zero, List.set_cons_succ]
  refine wpAnyH_ready (rs := [2]) (by kernel_rfl) (by simp) ?_
  refine AllReadyH.cons rfl (fun K hK => ?_) AllReadyH.nil
  go_simp
  refine (once_any 2 (by omega) (by omega) _ _ _ _ _ _ D6.out).mono ?_; rintro e x1 ⟨k, rfl, hcx, hgx⟩
  have hS2 : RQ x1 p 26 R := hS0.grown hgx (by omega)
  have F1 := Lib.hid (D1.out.grown hgx (by omega))
  have F4 := Lib.hid (below_only D4.out hgx (by omega) D4.out.size)
  clear hcx hgx D1 D4 D6
  refine hK.out _ _ hS2 (fun hS2 => ?_)
  clear hK K hS0
  try simp only [List.getElem_toArray, List.getElem_cons_succ, List.getElem_cons_zero, Act.put, List.setIfInBounds_toArray, List.set_cons_zero, List.set_cons_succ]
  refine wpAnyH_ready (rs := [3]) (by kernel_rfl) (by simp) ?_
  refine AllReadyH.cons rfl (fun K hK => ?_) AllReadyH.nil
  have hS3 : RQ (x1.setRow w.heap.size R) p 26 R := hS2.other R (by omega)
  have K1 := Lib.hid (F1.out.row R)
  have K4 := Lib.hid (below_setRow F4.out (Nat.le_refl _) R)
  refine wp_store_row 26 _ _ rfl (w.heap.size) R rfl rfl 26 _ F1.out is zs os ?_
  refine hK.out _ _ hS3 (fun hS3 => ?_)
  clear hK K hS2 F1 F4
  try simp only [List.getElem_toArray, List.getElem_cons_succ, List.getElem_cons_zero, Act.put, List.setIfInBounds_toArray, List.set_cons_zero, List.set_cons_succ]
  generalize x1.setRow w.heap.size R = x2 at *
  refine wpAnyH_ready (rs := [4]) (by kernel_rfl) (by simp) ?_
  refine AllReadyH.cons rfl (fun K hK => ?_) AllReadyH.nil
  go_simp
  refine hK.out _ _ hS3 (fun hS4 => ?_)
  clear hK K hS3
  try simp only [List.getElem_toArray, List.getElem_cons_succ, List.getElem_cons_zero, Act.put, List.setIfInBounds_toArray, List.set_cons_zero, List.set_cons_succ]
  refine wpAnyH_done (by kernel_rfl) ?_ _
  clear hS4
  go_wp2_with fail
  refine bodyPost_ret (v := .tuple #[.agg R, .bool k]) ?_ rfl ⟨s, k, by rw [HR.out], K4.out⟩
  have hld := run_loadVar_row (P := Tryd.prog) x2 w.heap.size 26 26 R (0, 0) _ (by have h := K1.out; exact h) Tryd.underlying26 rfl is
  rw [results_cell_tmp rfl]
  show ((asAddr (.pointer (some ⟨w.heap.size, 0, none⟩))).run Tryd.prog x2).andThen _ = _
  simp only [asAddr, Sem.run_pure, Result.andThen_ok, hld]
  rfl
set_option maxRecDepth 100000 in
set_option maxHeartbeats 3200000 in
theorem draw_PlaneColumns (w : World) (A : Option Addr) (len cap : Nat) (hcode : CodeAt w w.heap.size A len) (hl : len ≤ 1048576) :
    Calls Tryd.prog 8 #[.slice A len cap] w fun e w' => ∃ (s : Nat → UInt8) (k : Bool), e = .returned (.tuple #[.agg (pc s), .bool k]) ∧ Below w.heap.size w w' := by
  obtain ⟨W0, hW⟩ : ∃ W0, w.alloc (.cells zeroQ 26) = W0 := ⟨_, rfl⟩
  have a1 : RQ W0 w.heap.size 26 zeroQ := hW ▸ RQ.new w _ _
  have hb0 : Below w.heap.size w W0 := hW ▸ alQ_up w _
  have hsz : W0.heap.size = w.heap.size + 1 := by rw [← hW, alQ_sz]
  have HC : Hid (CodeAt W0 W0.heap.size A len) := Lib.hid (fun j hj => by
    obtain ⟨b, o, x, h1, h2, h3, h4⟩ := (hcode.below hb0 (Nat.le_refl _)) j hj
    exact ⟨b, o, x, h1, by omega, h3, h4⟩)
  have HW := Lib.hid hW
  have A1 := Lib.hid a1
  have B0 := Lib.hid hb0
  clear hW hcode a1 hb0
  unfold zeroQ at HW A1
  go_enter Tryd.func8, Tryd.ntmps8
  go_wp2_with fail
  rw [HW.out]
  refine (new_any _ _ _ _ HC.out hl).mono ?_; rintro e w1 ⟨g, rfl, hc1, hb1⟩
  have E1 := Lib.hid (A1.out.up hb1)
  have E4 := Lib.hid (B0.out.trans (hb1.mono B0.out.size))
  have C1 := Lib.hid hc1
  have hg : w.heap.size < g := by have := hc1.1; omega
  clear hb1 hc1 A1 B0 HW HC hsz
  go_wp2_with fail
  refine (planes_any _ _ _ _ _ _ C1.out).mono ?_; rintro e w2 ⟨s, rfl, hc2, hg2⟩
  have G1 := Lib.hid (E1.out.grown hg2 (by omega))
  have G4 := Lib.hid (below_only E4.out hg2 (by omega) E4.out.size)
  have hgl := hc2.lt
  have hp2 := G1.out.lt
  have is := planes_info s
  have os := pc_one s
  have zs : #[Value.int .u64 0, .int .u64 0, .int .u64 0, .int .u64 0, .int .u64 0, .int .u64 0, .int .u64 0, .int .u64 0].size = (pc s).size := by rw [pc_size]; rfl
  obtain ⟨R, hR⟩ : ∃ R, pc s = R := ⟨_, rfl⟩
  rw [hR] at is os zs ⊢
  have HR := Lib.hid hR
  obtain ⟨W3, hW3⟩ : ∃ W3, (w2.alloc (.cells #[Value.int .u64 0, .int .u64 0, .int .u64 0, .int .u64 0, .int .u64 0, .int .u64 0, .int .u64 0, .int .u64 0] 26)).setRow w2.heap.size R = W3 := ⟨_, rfl⟩
  have M := Lib.hid (RQ.new w2 26 #[Value.int .u64 0, .int .u64 0, .int .u64 0, .int .u64 0, .int .u64 0, .int .u64 0, .int .u64 0, .int .u64 0])
  have D1 : Hid (RQ W3.drew w.heap.size 26 #[Value.int .u64 0, .int .u64 0, .int .u64 0, .int .u64 0, .int .u64 0, .int .u64 0, .int .u64 0, .int .u64 0]) := Lib.hid (by rw [← hW3]; exact (G1.out.alloc _).other R (by omega))
  have D3 : RQ W3.drew w2.heap.size 26 R := by rw [← hW3]; exact (RQ.new w2 _ _).row R
  have D4 : Hid (Below w.heap.size w W3.drew) := Lib.hid (by rw [← hW3]; exact (below_setRow (G4.out.alloc G4.out.size _) G4.out.size R).drew)
  have D5 : Hid (CurIn W3.drew w1.heap.size g A len cap ∨ True) := Lib.hid (Or.inr trivial)
  have D6 := Lib.hid (((hc2.alloc (.cells #[Value.int .u64 0, .int .u64 0, .int .u64 0, .int .u64 0, .int .u64 0, .int .u64 0, .int .u64 0, .int .u64 0] 26)).grown (setRow_grow _ w2.heap.size R) (fun k e => by cases e; exact hgl)).drew)
  rw [hW3] at D6
  have HW3 := Lib.hid hW3
  clear hW3 hc2 hg2 hR G1 G4 E1 E4 C1 D5
  go_wp2_with (refine wpList_store_row rfl 26 _ _ rfl (w2.heap.size) R rfl rfl 26 _ M.out is zs os ?_)
  rw [HW3.out]
  clear HW3 M
  generalize w2.heap.size = p at *
  refine wp_region_held_drew (S := fun V => RQ V p 26 R) (by kernel_rfl) D3 (fun hS0 => ?_)
  clear D3
  generalize W3.drew = wq at *
  refine wpAnyH_take (i := 0) (v := .agg R) rfl (by kernel_rfl) (by kernel_rfl) (by kernel_rfl) (fun _ _ _ h => h) (Or.inl ⟨by kernel_rfl, fun V hV => exec_load_row 26 _ rfl p rfl 26 R _ hV Tryd.underlying26 rfl is⟩) (by assumption) ?_
  try simp only [List.getElem_toArray, List.getElem_cons_succ, List.getElem_cons_zero, Act.put, List.setIfInBounds_toArray, List.set_cons_zero, List.set_cons_succ]
  refine wpAnyH_take (i := 1) (v := ?_) rfl (by kernel_rfl) (by kernel_rfl) (by kernel_rfl) (fun _ _ _ h => h) (Or.inl ⟨by kernel_rfl, ?_⟩) (by assumption) ?_
  rotate_left
  · intro w hSw
    go_simp
    first | done | with_reducible rfl
  try simp only [List.getElem_toArray, List.getElem_cons_succ, List.getElem_cons_zero, Act.put, List.setIfInBounds_toArray, List.set_cons_zero, List.set_cons_succ]
  refine wpAnyH_ready (rs := [2]) (by kernel_rfl) (by simp) ?_
  refine AllReadyH.cons rfl (fun K hK => ?_) AllReadyH.nil
  go_simp
  refine (once_any 2 (by omega) (by omega) _ _ _ _ _ _ D6.out).mono ?_; rintro e x1 ⟨k, rfl, hcx, hgx⟩
  have hS2 : RQ x1 p 26 R := hS0.grown hgx (by omega)
  have F1 := Lib.hid (D1.out.grown hgx (by omega))
  have F4 := Lib.hid (below_only D4.out hgx (by omega) D4.out.size)
  clear hcx hgx D1 D4 D6
  refine hK.out _ _ hS2 (fun hS2 => ?_)
  clear hK K hS0
  try simp only [List.getElem_toArray, List.getElem_cons_succ, List.getElem_cons_zero, Act.put, List.setIfInBounds_toArray, List.set_cons_zero, List.set_cons_succ]
  refine wpAnyH_ready (rs := [3]) (by kernel_rfl) (by simp) ?_
  refine AllReadyH.cons rfl (fun K hK => ?_) AllReadyH.nil
  have hS3 : RQ (x1.setRow w.heap.size R) p 26 R := hS2.other R (by omega)
  have K1 := Lib.hid (F1.out.row R)
  have K4 := Lib.hid (below_setRow F4.out (Nat.le_refl _) R)
  refine wp_store_row 26 _ _ rfl (w.heap.size) R rfl rfl 26 _ F1.out is zs os ?_
  refine hK.out _ _ hS3 (fun hS3 => ?_)
  clear hK K hS2 F1 F4
  try simp only [List.getElem_toArray, List.getElem_cons_succ, List.getElem_cons_zero, Act.put, List.setIfInBounds_toArray, List.set_cons_zero, List.set_cons_succ]
  generalize x1.setRow w.heap.size R = x2 at *
  refine wpAnyH_ready (rs := [4]) (by kernel_rfl) (by simp) ?_
  refine AllReadyH.cons rfl (fun K hK => ?_) AllReadyH.nil
  go_simp
  refine hK.out _ _ hS3 (fun hS4 => ?_)
  clear hK K hS3
  try simp only [List.getElem_toArray, List.getElem_cons_succ, List.getElem_cons_zero, Act.put, List.setIfInBounds_toArray, List.set_cons_zero, List.set_cons_succ]
  refine wpAnyH_done (by kernel_rfl) ?_ _
  clear hS4
  go_wp2_with fail
  refine bodyPost_ret (v := .tuple #[.agg R, .bool k]) ?_ rfl ⟨s, k, by rw [HR.out], K4.out⟩
  have hld := run_loadVar_row (P := Tryd.prog) x2 w.heap.size 26 26 R (0, 0) _ (by have h := K1.out; exact h) Tryd.underlying26 rfl is
  rw [results_cell_tmp rfl]
  show ((asAddr (.pointer (some ⟨w.heap.size, 0, none⟩))).run Tryd.prog x2).andThen _ = _
  simp only [asAddr, Sem.run_pure, Result.andThen_ok, hld]
  rfl
end Go.Proofs.YtbbjcgnoialidaaDoor
