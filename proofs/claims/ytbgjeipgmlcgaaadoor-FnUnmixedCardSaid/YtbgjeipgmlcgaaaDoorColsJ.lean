/-
  What impl's state answers whose columns are mixed, and mixed back; impl.MixColumns and impl.UnmixColumns.
-/
import Derived.Test.YtbgjeipgmlcgaaaDoorColsI
set_option linter.unusedVariables false
set_option linter.unusedSimpArgs false
namespace Go.Proofs.YtbgjeipgmlcgaaaDoor
open Go.RowKit

/-- what the package's other table of factors holds. -/
def MxF (w : World) : Prop := Fac4 w 1 mxF
theorem MxF.below {w w' : World} {B : Nat} (h : MxF w) (hb : Below B w w') (hB : w.heap.size ≤ B) : MxF w' := Fac4.below h hb (Nat.lt_of_lt_of_le h.1 hB)
set_option maxRecDepth 100000 in
set_option maxHeartbeats 800000 in
theorem mixcol_impl (x y : UInt32) (hy : mxW x = y) (w : World) (hf : MxF w) :
    Calls Tryd.prog 77 #[.int .u32 x.toNat] w fun e w' => e = .returned (.int .u32 y.toNat) ∧ Below w.heap.size w w' := by
  have HM : ∀ W, Hid (Calls Tryd.prog 33 #[.int .u32 x.toNat, .agg (fac mxF)] W fun e w' => e = .returned (.int .u32 y.toNat) ∧ Below W.heap.size W w') := fun W => Lib.hid (by rw [← hy]; exact mix_impl x mxF W)
  obtain ⟨_, c0, c1, c2, c3⟩ := hf
  unfold fac at HM
  generalize mxF = f at *
  clear hy
  go_enter Tryd.func77, Tryd.ntmps77
  go_wp2_with fail
  refine (HM _).out.mono ?_; rintro e w' ⟨rfl, hb⟩
  go_wp2
  go_ret
  exact ⟨rfl, hb⟩
theorem CAt.cells4 {w : World} {g : Nat} {x0 x1 x2 x3 : UInt32} (h : CAt w g (cl4 x0 x1 x2 x3)) : w.cell? ⟨g, 0, none⟩ = some (.int .u32 (x0.toNat : Int)) ∧ w.cell? ⟨g, 1, none⟩ = some (.int .u32 (x1.toNat : Int)) ∧ w.cell? ⟨g, 2, none⟩ = some (.int .u32 (x2.toNat : Int)) ∧ w.cell? ⟨g, 3, none⟩ = some (.int .u32 (x3.toNat : Int)) :=
  ⟨(cell_of_row w g 0 _ _ _ h).trans rfl, (cell_of_row w g 1 _ _ _ h).trans rfl, (cell_of_row w g 2 _ _ _ h).trans rfl, (cell_of_row w g 3 _ _ _ h).trans rfl⟩
/-- what stays while the columns are mixed one by one. -/
def Mixing (w : World) (x0 x1 x2 x3 : UInt32) (W : World) : Prop := CAt W w.heap.size (cl4 x0 x1 x2 x3) ∧ (∃ Z : Array Value, Z.size = 4 ∧ CAt W (w.heap.size + 1) Z) ∧ Below w.heap.size w W
theorem Mixing.next {w W W' : World} {x0 x1 x2 x3 : UInt32} (h : Mixing w x0 x1 x2 x3 W) (hb : Below W.heap.size W W') : Mixing w x0 x1 x2 x3 W' := ⟨h.1.below hb, h.2.1.elim (fun Z hZ => ⟨Z, hZ.1, hZ.2.below hb⟩), h.2.2.trans (hb.mono h.2.2.size)⟩
theorem Mixing.new (w : World) (x0 x1 x2 x3 : UInt32) : Mixing w x0 x1 x2 x3 (((w.alloc (.cells (cl4 x0 x1 x2 x3) 73)).alloc (.cells zero4 73)).drew) := by
  obtain ⟨n1, n2, n3, _⟩ := two_new w (cl4 x0 x1 x2 x3) zero4 73 73
  exact ⟨n1, ⟨zero4, rfl, n2⟩, n3.drew⟩
set_option maxRecDepth 100000 in
set_option maxHeartbeats 3200000 in
theorem cmixed_is (x0 x1 x2 x3 y0 y1 y2 y3 : UInt32) (e0 : mxW x0 = y0) (e1 : mxW x1 = y1) (e2 : mxW x2 = y2) (e3 : mxW x3 = y3) (w : World) (hf : MxF w) :
    Calls Tryd.prog 66 #[.agg (cl4 x0 x1 x2 x3)] w fun e w' => e = .returned (.agg (cl4 y0 y1 y2 y3)) ∧ Below w.heap.size w w' := by
  have C0 := fun W hW => Lib.hid (mixcol_impl x0 y0 e0 W hW)
  have C1 := fun W hW => Lib.hid (mixcol_impl x1 y1 e1 W hW)
  have C2 := fun W hW => Lib.hid (mixcol_impl x2 y2 e2 W hW)
  have C3 := fun W hW => Lib.hid (mixcol_impl x3 y3 e3 W hW)
  clear e0 e1 e2 e3
  have HF : Hid (∀ W, Below w.heap.size w W → MxF W) := Lib.hid (fun W hW => hf.below hW (Nat.le_refl _))
  have hsi := cl4_info y0 y1 y2 y3
  have hone := cl4_one y0 y1 y2 y3
  have hS0 := Lib.hid (Mixing.new w x0 x1 x2 x3)
  clear hf
  unfold cl4 zero4 at hS0
  unfold cl4
  go_enter Tryd.func66, Tryd.ntmps66
  go_wp2
  refine wp_region_held_drew (S := Mixing w x0 x1 x2 x3) (by kernel_rfl) hS0.out (fun hS1 => ?_)
  refine wpAnyH_take (i := 0) (v := ?_) rfl (by kernel_rfl) (by kernel_rfl) (by kernel_rfl) (fun _ _ _ h => h) (Or.inl ⟨by kernel_rfl, ?_⟩) (by assumption) ?_
  rotate_left
  · intro w hSw
    go_simp
    first | done | with_reducible rfl
  try simp only [List.getElem_toArray, List.getElem_cons_succ, List.getElem_cons_zero, Act.put, List.setIfInBounds_toArray, List.set_cons_zero, List.set_cons_succ]
  refine wpAnyH_take (i := 1) (v := ?_) rfl (by kernel_rfl) (by kernel_rfl) (by kernel_rfl) (fun _ _ _ h => h) (Or.inl ⟨by kernel_rfl, ?_⟩) (by assumption) ?_
  rotate_left
  · intro w hSw
    obtain ⟨s0, _, _⟩ := hSw
    obtain ⟨d0, d1, d2, d3⟩ := s0.cells4
    clear s0
    go_simp
    first | done | with_reducible rfl
  try simp only [List.getElem_toArray, List.getElem_cons_succ, List.getElem_cons_zero, Act.put, List.setIfInBounds_toArray, List.set_cons_zero, List.set_cons_succ]
  refine wpAnyH_take (i := 3) (v := ?_) rfl (by kernel_rfl) (by kernel_rfl) (by kernel_rfl) (fun _ _ _ h => h) (Or.inl ⟨by kernel_rfl, ?_⟩) (by assumption) ?_
  rotate_left
  · intro w hSw
    go_simp
    first | done | with_reducible rfl
  try simp only [List.getElem_toArray, List.getElem_cons_succ, List.getElem_cons_zero, Act.put, List.setIfInBounds_toArray, List.set_cons_zero, List.set_cons_succ]
  refine wpAnyH_take (i := 4) (v := ?_) rfl (by kernel_rfl) (by kernel_rfl) (by kernel_rfl) (fun _ _ _ h => h) (Or.inl ⟨by kernel_rfl, ?_⟩) (by assumption) ?_
  rotate_left
  · intro w hSw
    obtain ⟨s0, _, _⟩ := hSw
    obtain ⟨d0, d1, d2, d3⟩ := s0.cells4
    clear s0
    go_simp
    first | done | with_reducible rfl
  try simp only [List.getElem_toArray, List.getElem_cons_succ, List.getElem_cons_zero, Act.put, List.setIfInBounds_toArray, List.set_cons_zero, List.set_cons_succ]
  refine wpAnyH_take (i := 6) (v := ?_) rfl (by kernel_rfl) (by kernel_rfl) (by kernel_rfl) (fun _ _ _ h => h) (Or.inl ⟨by kernel_rfl, ?_⟩) (by assumption) ?_
  rotate_left
  · intro w hSw
    go_simp
    first | done | with_reducible rfl
  try simp only [List.getElem_toArray, List.getElem_cons_succ, List.getElem_cons_zero, Act.put, List.setIfInBounds_toArray, List.set_cons_zero, List.set_cons_succ]
  refine wpAnyH_take (i := 7) (v := ?_) rfl (by kernel_rfl) (by kernel_rfl) (by kernel_rfl) (fun _ _ _ h => h) (Or.inl ⟨by kernel_rfl, ?_⟩) (by assumption) ?_
  rotate_left
  · intro w hSw
    obtain ⟨s0, _, _⟩ := hSw
    obtain ⟨d0, d1, d2, d3⟩ := s0.cells4
    clear s0
    go_simp
    first | done | with_reducible rfl
  try simp only [List.getElem_toArray, List.getElem_cons_succ, List.getElem_cons_zero, Act.put, List.setIfInBounds_toArray, List.set_cons_zero, List.set_cons_succ]
  refine wpAnyH_take (i := 9) (v := ?_) rfl (by kernel_rfl) (by kernel_rfl) (by kernel_rfl) (fun _ _ _ h => h) (Or.inl ⟨by kernel_rfl, ?_⟩) (by assumption) ?_
  rotate_left
  · intro w hSw
    go_simp
    first | done | with_reducible rfl
  try simp only [List.getElem_toArray, List.getElem_cons_succ, List.getElem_cons_zero, Act.put, List.setIfInBounds_toArray, List.set_cons_zero, List.set_cons_succ]
  refine wpAnyH_take (i := 10) (v := ?_) rfl (by kernel_rfl) (by kernel_rfl) (by kernel_rfl) (fun _ _ _ h => h) (Or.inl ⟨by kernel_rfl, ?_⟩) (by assumption) ?_
  rotate_left
  · intro w hSw
    obtain ⟨s0, _, _⟩ := hSw
    obtain ⟨d0, d1, d2, d3⟩ := s0.cells4
    clear s0
    go_simp
    first | done | with_reducible rfl
  try simp only [List.getElem_toArray, List.getElem_cons_succ, List.getElem_cons_zero, Act.put, List.setIfInBounds_toArray, List.set_cons_zero, List.set_cons_succ]
  refine wpAnyH_ready (rs := [2]) (by kernel_rfl) (by simp) ?_
  refine AllReadyH.cons rfl (fun K hK => ?_) AllReadyH.nil
  go_simp
  refine (C0 _ (HF.out _ hS1.2.2)).out.mono ?_; rintro e w2 ⟨rfl, hb⟩
  have hS2 := hS1.next hb
  clear hb
  refine hK.out _ _ hS2 (fun hS2 => ?_)
  clear hK K
  try simp only [List.getElem_toArray, List.getElem_cons_succ, List.getElem_cons_zero, Act.put, List.setIfInBounds_toArray, List.set_cons_zero, List.set_cons_succ]
  refine wpAnyH_ready (rs := [5]) (by kernel_rfl) (by simp) ?_
  refine AllReadyH.cons rfl (fun K hK => ?_) AllReadyH.nil
  go_simp
  refine (C1 _ (HF.out _ hS2.2.2)).out.mono ?_; rintro e w3 ⟨rfl, hb⟩
  have hS3 := hS2.next hb
  clear hb
  refine hK.out _ _ hS3 (fun hS3 => ?_)
  clear hK K
  try simp only [List.getElem_toArray, List.getElem_cons_succ, List.getElem_cons_zero, Act.put, List.setIfInBounds_toArray, List.set_cons_zero, List.set_cons_succ]
  refine wpAnyH_ready (rs := [8]) (by kernel_rfl) (by simp) ?_
  refine AllReadyH.cons rfl (fun K hK => ?_) AllReadyH.nil
  go_simp
  refine (C2 _ (HF.out _ hS3.2.2)).out.mono ?_; rintro e w4 ⟨rfl, hb⟩
  have hS4 := hS3.next hb
  clear hb
  refine hK.out _ _ hS4 (fun hS4 => ?_)
  clear hK K
  try simp only [List.getElem_toArray, List.getElem_cons_succ, List.getElem_cons_zero, Act.put, List.setIfInBounds_toArray, List.set_cons_zero, List.set_cons_succ]
  refine wpAnyH_ready (rs := [11]) (by kernel_rfl) (by simp) ?_
  refine AllReadyH.cons rfl (fun K hK => ?_) AllReadyH.nil
  go_simp
  refine (C3 _ (HF.out _ hS4.2.2)).out.mono ?_; rintro e w5 ⟨rfl, hb⟩
  have hS5 := hS4.next hb
  clear hb
  refine hK.out _ _ hS5 (fun hS5 => ?_)
  clear hK K
  try simp only [List.getElem_toArray, List.getElem_cons_succ, List.getElem_cons_zero, Act.put, List.setIfInBounds_toArray, List.set_cons_zero, List.set_cons_succ]
  refine wpAnyH_take (i := 12) (v := ?_) rfl (by kernel_rfl) (by kernel_rfl) (by kernel_rfl) (fun _ _ _ h => h) (Or.inl ⟨by kernel_rfl, ?_⟩) (by assumption) ?_
  rotate_left
  · intro w hSw
    go_simp
    first | done | with_reducible rfl
  try simp only [List.getElem_toArray, List.getElem_cons_succ, List.getElem_cons_zero, Act.put, List.setIfInBounds_toArray, List.set_cons_zero, List.set_cons_succ]
  obtain ⟨Z, hZ, hCZ⟩ := hS5.2.1
  have hz : Z.size = (cl4 y0 y1 y2 y3).size := by rw [hZ]; rfl
  have MS := setRow_heap w5 _ _ (cl4 y0 y1 y2 y3) _ _ hCZ
  have MB := below_setRow hS5.2.2 (show w.heap.size ≤ w.heap.size + 1 by omega) (cl4 y0 y1 y2 y3)
  have MC : CAt (w5.setRow (w.heap.size + 1) (cl4 y0 y1 y2 y3)) w.heap.size (cl4 x0 x1 x2 x3) := (setRow_other w5 (w.heap.size + 1) w.heap.size _ (by omega)).trans hS5.1
  refine wpAnyH_ready (rs := [13]) (by kernel_rfl) (by simp) ?_
  refine AllReadyH.cons rfl (fun K hK => ?_) AllReadyH.nil
  refine wp_store_row 73 _ _ rfl (w.heap.size + 1) (cl4 y0 y1 y2 y3) rfl rfl 73 Z hCZ hsi hz hone ?_
  refine hK.out _ _ ⟨MC, ⟨_, rfl, MS⟩, MB⟩ (fun hS6 => ?_)
  clear hK K
  try simp only [List.getElem_toArray, List.getElem_cons_succ, List.getElem_cons_zero, Act.put, List.setIfInBounds_toArray, List.set_cons_zero, List.set_cons_succ]
  refine wpAnyH_done (by kernel_rfl) ?_ _
  have MS2 := Lib.hid MS
  have MB2 := Lib.hid MB
  clear MS MB MC hS6 hCZ hz hS1 hS2 hS3 hS4 hS5 hS0 HF C0 C1 C2 C3
  go_wp2
  refine bodyPost_ret (v := .agg _) ?_ rfl ⟨rfl, MB2.out⟩
  exact results_cell_row rfl _ _ (w.heap.size + 1) 73 _ (0, 0) _ rfl MS2.out Tryd.underlying73 rfl hsi
end Go.Proofs.YtbgjeipgmlcgaaaDoor
