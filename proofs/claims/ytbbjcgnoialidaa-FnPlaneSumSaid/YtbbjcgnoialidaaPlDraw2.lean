/-
  Draws of two planes at once.
-/
import Derived.Test.YtbbjcgnoialidaaPlDraw
import Derived.Test.YtbbjcgnoialidaaHold2
set_option linter.unusedVariables false
set_option linter.unusedSimpArgs false
namespace Go.Proofs.Ytbbjcgnoialidaa
open Go Go.RowKit

theorem results_cell2 {fn : Func} {p q : Tmp} {ty : TypeId} (h : fn.results = #[.cell p ty, .cell q ty]) (P : Program) (tmps : Array Value) (w : World) (g1 g2 : Nat) (v1 v2 : Value)
    (hp : tmps.getD p undef = .pointer (some ⟨g1, 0, none⟩)) (hq : tmps.getD q undef = .pointer (some ⟨g2, 0, none⟩))
    (l1 : (loadVar ty ⟨g1, 0, none⟩).run P w = .ok v1 w) (l2 : (loadVar ty ⟨g2, 0, none⟩).run P w = .ok v2 w) :
    (results fn tmps).run P w = .ok (.tuple #[v1, v2]) w := by
  have hp' : tmps[p]?.getD undef = .pointer (some ⟨g1, 0, none⟩) := by simpa using hp
  have hq' : tmps[q]?.getD undef = .pointer (some ⟨g2, 0, none⟩) := by simpa using hq
  simp only [results, h]
  simp [Sem.run_bind, Result.andThen, hp', hq', asAddr, l1, l2]
set_option maxRecDepth 100000 in
set_option maxHeartbeats 3200000 in
theorem draw_PlaneXor (w : World) (A : Option Addr) (len cap : Nat) (hcode : CodeAt w w.heap.size A len) (hl : len ≤ 1048576) :
    Calls Try.prog 23 #[.slice A len cap] w fun e w' => ∃ s u : Nat → UInt8, e = .returned (.tuple #[.agg (pc s), .agg (pc u)]) ∧ Below w.heap.size w w' := by
  obtain ⟨W0, hW⟩ : ∃ W0, (w.alloc (.cells zeroQ 27)).alloc (.cells zeroQ 27) = W0 := ⟨_, rfl⟩
  obtain ⟨a1, a2, hb0⟩ := newQ2 w _ _ _ _ hW
  have hsz : W0.heap.size = w.heap.size + 1 + 1 := by rw [← hW, alQ_sz, alQ_sz]
  have HC : Hid (CodeAt W0 W0.heap.size A len) := Lib.hid (fun j hj => by
    obtain ⟨b, o, x, h1, h2, h3, h4⟩ := (hcode.below hb0 (Nat.le_refl _)) j hj
    exact ⟨b, o, x, h1, by omega, h3, h4⟩)
  have HW := Lib.hid hW
  have A1 := Lib.hid a1
  have A2 := Lib.hid a2
  have B0 := Lib.hid hb0
  clear hW hcode a1 a2 hb0
  unfold zeroQ at HW A1 A2
  go_enter Try.func23, Try.ntmps23
  go_wp2_with fail
  rw [HW.out]
  refine (new_any _ _ _ _ HC.out hl).mono ?_; rintro e w1 ⟨g, rfl, hc1, hb1⟩
  have E1 := Lib.hid (A1.out.up hb1)
  have E2 := Lib.hid (A2.out.up hb1)
  have E4 := Lib.hid (B0.out.trans (hb1.mono B0.out.size))
  have C1 := Lib.hid hc1
  have hg : w.heap.size + 1 < g := by have := hc1.1; omega
  clear hb1 hc1 A1 A2 B0 HW HC hsz
  go_wp2_with fail
  refine (planes_any _ _ _ _ _ _ C1.out).mono ?_; rintro e w2 ⟨s, rfl, hc2, hg2⟩
  have G1 := Lib.hid (E1.out.grown hg2 (by omega))
  have G2 := Lib.hid (E2.out.grown hg2 (by omega))
  have G4 := Lib.hid (below_only E4.out hg2 (by omega) E4.out.size)
  have hgl := hc2.lt
  have hp2 := G2.out.lt
  have is := planes_info s
  have os := pc_one s
  have zs : #[Value.int .u64 0, .int .u64 0, .int .u64 0, .int .u64 0, .int .u64 0, .int .u64 0, .int .u64 0, .int .u64 0].size = (pc s).size := by rw [pc_size]; rfl
  obtain ⟨R, hR⟩ : ∃ R, pc s = R := ⟨_, rfl⟩
  rw [hR] at is os zs ⊢
  have HR := Lib.hid hR
  obtain ⟨W3, hW3⟩ : ∃ W3, (w2.alloc (.cells #[Value.int .u64 0, .int .u64 0, .int .u64 0, .int .u64 0, .int .u64 0, .int .u64 0, .int .u64 0, .int .u64 0] 27)).setRow w2.heap.size R = W3 := ⟨_, rfl⟩
  have M := Lib.hid (RQ.new w2 27 #[Value.int .u64 0, .int .u64 0, .int .u64 0, .int .u64 0, .int .u64 0, .int .u64 0, .int .u64 0, .int .u64 0])
  have D1 : Hid (RQ W3.drew w.heap.size 27 #[Value.int .u64 0, .int .u64 0, .int .u64 0, .int .u64 0, .int .u64 0, .int .u64 0, .int .u64 0, .int .u64 0]) := Lib.hid (by rw [← hW3]; exact (G1.out.alloc _).other R (by omega))
  have D2 : Hid (RQ W3.drew (w.heap.size + 1) 27 #[Value.int .u64 0, .int .u64 0, .int .u64 0, .int .u64 0, .int .u64 0, .int .u64 0, .int .u64 0, .int .u64 0]) := Lib.hid (by rw [← hW3]; exact (G2.out.alloc _).other R (by omega))
  have D3 : RQ W3.drew w2.heap.size 27 R := by rw [← hW3]; exact (RQ.new w2 _ _).row R
  have D4 : Hid (Below w.heap.size w W3.drew) := Lib.hid (by rw [← hW3]; exact (below_setRow (G4.out.alloc G4.out.size _) G4.out.size R).drew)
  have D6 := Lib.hid (((hc2.alloc (.cells #[Value.int .u64 0, .int .u64 0, .int .u64 0, .int .u64 0, .int .u64 0, .int .u64 0, .int .u64 0, .int .u64 0] 27)).grown (setRow_grow _ w2.heap.size R) (fun k e => by cases e; exact hgl)).drew)
  rw [hW3] at D6
  have HW3 := Lib.hid hW3
  clear hW3 hc2 hg2 hR G1 G2 G4 E1 E2 E4 C1
  go_wp2_with (refine wpList_store_row rfl 27 _ _ rfl (w2.heap.size) R rfl rfl 27 _ M.out is zs os ?_)
  rw [HW3.out]
  clear HW3 M
  generalize w2.heap.size = p at *
  refine wp_region_held_drew (S := fun V => RQ V p 27 R) (by kernel_rfl) D3 (fun hS0 => ?_)
  clear D3
  generalize W3.drew = wq at *
  refine wpAnyH_take (i := 0) (v := .agg R) rfl (by kernel_rfl) (by kernel_rfl) (by kernel_rfl) (fun _ _ _ h => h) (Or.inl ⟨by kernel_rfl, fun V hV => exec_load_row 27 _ rfl p rfl 27 R _ hV Try.underlying27 rfl is⟩) (by assumption) ?_
  try simp only [List.getElem_toArray, List.getElem_cons_succ, List.getElem_cons_zero, Act.put, List.setIfInBounds_toArray, List.set_cons_zero, List.set_cons_succ]
  refine wpAnyH_take (i := 1) (v := ?_) rfl (by kernel_rfl) (by kernel_rfl) (by kernel_rfl) (fun _ _ _ h => h) (Or.inl ⟨by kernel_rfl, ?_⟩) (by assumption) ?_
  rotate_left
  · intro w hSw
    go_simp
    first | done | with_reducible rfl
  try simp only [List.getElem_toArray, List.getElem_cons_succ, List.getElem_cons_zero, Act.put, List.setIfInBounds_toArray, List.set_cons_zero, List.set_cons_succ]
  refine wpAnyH_ready (rs := [2]) (by kernel_rfl) (by simp) ?_
  refine AllReadyH.cons rfl (fun K hK => ?_) AllReadyH.nil
  go_simp
  refine (planes_any _ _ _ _ _ _ D6.out).mono ?_; rintro e x1 ⟨u, rfl, hcx, hgx⟩
  have hS2 : RQ x1 p 27 R := hS0.grown hgx (by omega)
  have F1 := Lib.hid (D1.out.grown hgx (by omega))
  have F2 := Lib.hid (D2.out.grown hgx (by omega))
  have F4 := Lib.hid (below_only D4.out hgx (by omega) D4.out.size)
  have iu := planes_info u
  have ou := pc_one u
  have zu : #[Value.int .u64 0, .int .u64 0, .int .u64 0, .int .u64 0, .int .u64 0, .int .u64 0, .int .u64 0, .int .u64 0].size = (pc u).size := by rw [pc_size]; rfl
  obtain ⟨Q, hQ⟩ : ∃ Q, pc u = Q := ⟨_, rfl⟩
  rw [hQ] at iu ou zu ⊢
  have HQ := Lib.hid hQ
  clear hQ hcx hgx D1 D2 D4 D6
  refine hK.out _ _ hS2 (fun hS2 => ?_)
  clear hK K hS0
  try simp only [List.getElem_toArray, List.getElem_cons_succ, List.getElem_cons_zero, Act.put, List.setIfInBounds_toArray, List.set_cons_zero, List.set_cons_succ]
  refine wpAnyH_ready (rs := [3]) (by kernel_rfl) (by simp) ?_
  refine AllReadyH.cons rfl (fun K hK => ?_) AllReadyH.nil
  have hS3 : RQ (x1.setRow w.heap.size R) p 27 R := hS2.other R (by omega)
  have K1 := Lib.hid (F1.out.row R)
  have K2 := Lib.hid (F2.out.other R (g := w.heap.size) (by omega))
  have K4 := Lib.hid (below_setRow F4.out (Nat.le_refl _) R)
  refine wp_store_row 27 _ _ rfl (w.heap.size) R rfl rfl 27 _ F1.out is zs os ?_
  refine hK.out _ _ hS3 (fun hS3 => ?_)
  clear hK K hS2 F1 F2 F4
  try simp only [List.getElem_toArray, List.getElem_cons_succ, List.getElem_cons_zero, Act.put, List.setIfInBounds_toArray, List.set_cons_zero, List.set_cons_succ]
  generalize x1.setRow w.heap.size R = x2 at *
  refine wpAnyH_ready (rs := [4]) (by kernel_rfl) (by simp) ?_
  refine AllReadyH.cons rfl (fun K hK => ?_) AllReadyH.nil
  have hS4 : RQ (x2.setRow (w.heap.size + 1) Q) p 27 R := hS3.other Q (by omega)
  have N1 := Lib.hid (K1.out.other Q (g := w.heap.size + 1) (by omega))
  have N2 := Lib.hid (K2.out.row Q)
  have N4 := Lib.hid (below_setRow K4.out (show w.heap.size ≤ w.heap.size + 1 by omega) Q)
  refine wp_store_row 27 _ _ rfl (w.heap.size + 1) Q rfl rfl 27 _ K2.out iu zu ou ?_
  refine hK.out _ _ hS4 (fun hS4 => ?_)
  clear hK K hS3 K1 K2 K4
  try simp only [List.getElem_toArray, List.getElem_cons_succ, List.getElem_cons_zero, Act.put, List.setIfInBounds_toArray, List.set_cons_zero, List.set_cons_succ]
  generalize x2.setRow (w.heap.size + 1) Q = x3 at *
  refine wpAnyH_done (by kernel_rfl) ?_ _
  clear hS4
  go_wp2_with fail
  refine bodyPost_ret (v := .tuple #[.agg R, .agg Q]) ?_ rfl ⟨s, u, by rw [HR.out, HQ.out], N4.out⟩
  exact results_cell2 rfl _ _ _ w.heap.size (w.heap.size + 1) (.agg R) (.agg Q) rfl rfl (run_loadVar_row _ w.heap.size 27 27 R (0, 0) _ (by have h := N1.out; exact h) Try.underlying27 rfl is) (run_loadVar_row _ (w.heap.size + 1) 27 27 Q (0, 0) _ (by have h := N2.out; exact h) Try.underlying27 rfl iu)
set_option maxRecDepth 100000 in
set_option maxHeartbeats 3200000 in
theorem draw_PlaneTimes (w : World) (A : Option Addr) (len cap : Nat) (hcode : CodeAt w w.heap.size A len) (hl : len ≤ 1048576) :
    Calls Try.prog 24 #[.slice A len cap] w fun e w' => ∃ s u : Nat → UInt8, e = .returned (.tuple #[.agg (pc s), .agg (pc u)]) ∧ Below w.heap.size w w' := by
  obtain ⟨W0, hW⟩ : ∃ W0, (w.alloc (.cells zeroQ 27)).alloc (.cells zeroQ 27) = W0 := ⟨_, rfl⟩
  obtain ⟨a1, a2, hb0⟩ := newQ2 w _ _ _ _ hW
  have hsz : W0.heap.size = w.heap.size + 1 + 1 := by rw [← hW, alQ_sz, alQ_sz]
  have HC : Hid (CodeAt W0 W0.heap.size A len) := Lib.hid (fun j hj => by
    obtain ⟨b, o, x, h1, h2, h3, h4⟩ := (hcode.below hb0 (Nat.le_refl _)) j hj
    exact ⟨b, o, x, h1, by omega, h3, h4⟩)
  have HW := Lib.hid hW
  have A1 := Lib.hid a1
  have A2 := Lib.hid a2
  have B0 := Lib.hid hb0
  clear hW hcode a1 a2 hb0
  unfold zeroQ at HW A1 A2
  go_enter Try.func24, Try.ntmps24
  go_wp2_with fail
  rw [HW.out]
  refine (new_any _ _ _ _ HC.out hl).mono ?_; rintro e w1 ⟨g, rfl, hc1, hb1⟩
  have E1 := Lib.hid (A1.out.up hb1)
  have E2 := Lib.hid (A2.out.up hb1)
  have E4 := Lib.hid (B0.out.trans (hb1.mono B0.out.size))
  have C1 := Lib.hid hc1
  have hg : w.heap.size + 1 < g := by have := hc1.1; omega
  clear hb1 hc1 A1 A2 B0 HW HC hsz
  go_wp2_with fail
  refine (planes_any _ _ _ _ _ _ C1.out).mono ?_; rintro e w2 ⟨s, rfl, hc2, hg2⟩
  have G1 := Lib.hid (E1.out.grown hg2 (by omega))
  have G2 := Lib.hid (E2.out.grown hg2 (by omega))
  have G4 := Lib.hid (below_only E4.out hg2 (by omega) E4.out.size)
  have hgl := hc2.lt
  have hp2 := G2.out.lt
  have is := planes_info s
  have os := pc_one s
  have zs : #[Value.int .u64 0, .int .u64 0, .int .u64 0, .int .u64 0, .int .u64 0, .int .u64 0, .int .u64 0, .int .u64 0].size = (pc s).size := by rw [pc_size]; rfl
  obtain ⟨R, hR⟩ : ∃ R, pc s = R := ⟨_, rfl⟩
  rw [hR] at is os zs ⊢
  have HR := Lib.hid hR
  obtain ⟨W3, hW3⟩ : ∃ W3, (w2.alloc (.cells #[Value.int .u64 0, .int .u64 0, .int .u64 0, .int .u64 0, .int .u64 0, .int .u64 0, .int .u64 0, .int .u64 0] 27)).setRow w2.heap.size R = W3 := ⟨_, rfl⟩
  have M := Lib.hid (RQ.new w2 27 #[Value.int .u64 0, .int .u64 0, .int .u64 0, .int .u64 0, .int .u64 0, .int .u64 0, .int .u64 0, .int .u64 0])
  have D1 : Hid (RQ W3.drew w.heap.size 27 #[Value.int .u64 0, .int .u64 0, .int .u64 0, .int .u64 0, .int .u64 0, .int .u64 0, .int .u64 0, .int .u64 0]) := Lib.hid (by rw [← hW3]; exact (G1.out.alloc _).other R (by omega))
  have D2 : Hid (RQ W3.drew (w.heap.size + 1) 27 #[Value.int .u64 0, .int .u64 0, .int .u64 0, .int .u64 0, .int .u64 0, .int .u64 0, .int .u64 0, .int .u64 0]) := Lib.hid (by rw [← hW3]; exact (G2.out.alloc _).other R (by omega))
  have D3 : RQ W3.drew w2.heap.size 27 R := by rw [← hW3]; exact (RQ.new w2 _ _).row R
  have D4 : Hid (Below w.heap.size w W3.drew) := Lib.hid (by rw [← hW3]; exact (below_setRow (G4.out.alloc G4.out.size _) G4.out.size R).drew)
  have D6 := Lib.hid (((hc2.alloc (.cells #[Value.int .u64 0, .int .u64 0, .int .u64 0, .int .u64 0, .int .u64 0, .int .u64 0, .int .u64 0, .int .u64 0] 27)).grown (setRow_grow _ w2.heap.size R) (fun k e => by cases e; exact hgl)).drew)
  rw [hW3] at D6
  have HW3 := Lib.hid hW3
  clear hW3 hc2 hg2 hR G1 G2 G4 E1 E2 E4 C1
  go_wp2_with (refine wpList_store_row rfl 27 _ _ rfl (w2.heap.size) R rfl rfl 27 _ M.out is zs os ?_)
  rw [HW3.out]
  clear HW3 M
  generalize w2.heap.size = p at *
  refine wp_region_held_drew (S := fun V => RQ V p 27 R) (by kernel_rfl) D3 (fun hS0 => ?_)
  clear D3
  generalize W3.drew = wq at *
  refine wpAnyH_take (i := 0) (v := .agg R) rfl (by kernel_rfl) (by kernel_rfl) (by kernel_rfl) (fun _ _ _ h => h) (Or.inl ⟨by kernel_rfl, fun V hV => exec_load_row 27 _ rfl p rfl 27 R _ hV Try.underlying27 rfl is⟩) (by assumption) ?_
  try simp only [List.getElem_toArray, List.getElem_cons_succ, List.getElem_cons_zero, Act.put, List.setIfInBounds_toArray, List.set_cons_zero, List.set_cons_succ]
  refine wpAnyH_take (i := 1) (v := ?_) rfl (by kernel_rfl) (by kernel_rfl) (by kernel_rfl) (fun _ _ _ h => h) (Or.inl ⟨by kernel_rfl, ?_⟩) (by assumption) ?_
  rotate_left
  · intro w hSw
    go_simp
    first | done | with_reducible rfl
  try simp only [List.getElem_toArray, List.getElem_cons_succ, List.getElem_cons_zero, Act.put, List.setIfInBounds_toArray, List.set_cons_zero, List.set_cons_succ]
  refine wpAnyH_ready (rs := [2]) (by kernel_rfl) (by simp) ?_
  refine AllReadyH.cons rfl (fun K hK => ?_) AllReadyH.nil
  go_simp
  refine (planes_any _ _ _ _ _ _ D6.out).mono ?_; rintro e x1 ⟨u, rfl, hcx, hgx⟩
  have hS2 : RQ x1 p 27 R := hS0.grown hgx (by omega)
  have F1 := Lib.hid (D1.out.grown hgx (by omega))
  have F2 := Lib.hid (D2.out.grown hgx (by omega))
  have F4 := Lib.hid (below_only D4.out hgx (by omega) D4.out.size)
  have iu := planes_info u
  have ou := pc_one u
  have zu : #[Value.int .u64 0, .int .u64 0, .int .u64 0, .int .u64 0, .int .u64 0, .int .u64 0, .int .u64 0, .int .u64 0].size = (pc u).size := by rw [pc_size]; rfl
  obtain ⟨Q, hQ⟩ : ∃ Q, pc u = Q := ⟨_, rfl⟩
  rw [hQ] at iu ou zu ⊢
  have HQ := Lib.hid hQ
  clear hQ hcx hgx D1 D2 D4 D6
  refine hK.out _ _ hS2 (fun hS2 => ?_)
  clear hK K hS0
  try simp only [List.getElem_toArray, List.getElem_cons_succ, List.getElem_cons_zero, Act.put, List.setIfInBounds_toArray, List.set_cons_zero, List.set_cons_succ]
  refine wpAnyH_ready (rs := [3]) (by kernel_rfl) (by simp) ?_
  refine AllReadyH.cons rfl (fun K hK => ?_) AllReadyH.nil
  have hS3 : RQ (x1.setRow w.heap.size R) p 27 R := hS2.other R (by omega)
  have K1 := Lib.hid (F1.out.row R)
  have K2 := Lib.hid (F2.out.other R (g := w.heap.size) (by omega))
  have K4 := Lib.hid (below_setRow F4.out (Nat.le_refl _) R)
  refine wp_store_row 27 _ _ rfl (w.heap.size) R rfl rfl 27 _ F1.out is zs os ?_
  refine hK.out _ _ hS3 (fun hS3 => ?_)
  clear hK K hS2 F1 F2 F4
  try simp only [List.getElem_toArray, List.getElem_cons_succ, List.getElem_cons_zero, Act.put, List.setIfInBounds_toArray, List.set_cons_zero, List.set_cons_succ]
  generalize x1.setRow w.heap.size R = x2 at *
  refine wpAnyH_ready (rs := [4]) (by kernel_rfl) (by simp) ?_
  refine AllReadyH.cons rfl (fun K hK => ?_) AllReadyH.nil
  have hS4 : RQ (x2.setRow (w.heap.size + 1) Q) p 27 R := hS3.other Q (by omega)
  have N1 := Lib.hid (K1.out.other Q (g := w.heap.size + 1) (by omega))
  have N2 := Lib.hid (K2.out.row Q)
  have N4 := Lib.hid (below_setRow K4.out (show w.heap.size ≤ w.heap.size + 1 by omega) Q)
  refine wp_store_row 27 _ _ rfl (w.heap.size + 1) Q rfl rfl 27 _ K2.out iu zu ou ?_
  refine hK.out _ _ hS4 (fun hS4 => ?_)
  clear hK K hS3 K1 K2 K4
  try simp only [List.getElem_toArray, List.getElem_cons_succ, List.getElem_cons_zero, Act.put, List.setIfInBounds_toArray, List.set_cons_zero, List.set_cons_succ]
  generalize x2.setRow (w.heap.size + 1) Q = x3 at *
  refine wpAnyH_done (by kernel_rfl) ?_ _
  clear hS4
  go_wp2_with fail
  refine bodyPost_ret (v := .tuple #[.agg R, .agg Q]) ?_ rfl ⟨s, u, by rw [HR.out, HQ.out], N4.out⟩
  exact results_cell2 rfl _ _ _ w.heap.size (w.heap.size + 1) (.agg R) (.agg Q) rfl rfl (run_loadVar_row _ w.heap.size 27 27 R (0, 0) _ (by have h := N1.out; exact h) Try.underlying27 rfl is) (run_loadVar_row _ (w.heap.size + 1) 27 27 Q (0, 0) _ (by have h := N2.out; exact h) Try.underlying27 rfl iu)
end Go.Proofs.Ytbbjcgnoialidaa
