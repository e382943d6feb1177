/-
  The walk of laws.FnPlaneSub: it returns true at every code.
-/
import Derived.Test.YtbbjcgnoialidaaPlDraw
import Derived.Test.YtbbjcgnoialidaaHold2
import Derived.Test.YtbbjcgnoialidaaW50
import Derived.Deep.CutRange
set_option linter.unusedVariables false
set_option linter.unusedSimpArgs false
namespace Go.Proofs.Ytbbjcgnoialidaa
open Go Go.RowKit

theorem pc_ubox (s : Nat → UInt8) : pc (fun i => ubox (sbox (s i))) = pc s := pc_ext fun i _ => ubox_sbox _
theorem pc_sbox (s : Nat → UInt8) : pc (fun i => sbox (ubox (s i))) = pc s := pc_ext fun i _ => sbox_ubox _
set_option maxRecDepth 100000 in
set_option maxHeartbeats 12800000 in
theorem walk_FnPlaneSub (a0 : Option Addr) (len0 cap0 : Nat) (z0 : List Int) (w : World) (w0 : IsRow .u8 w a0 len0 cap0 z0) :
    Calls Try.prog 5 #[.slice a0 len0 cap0] w fun e w' => e = .returned (.bool true) ∧ Below w.heap.size w w' := by
  obtain ⟨hcode, hlen⟩ := w0.code
  clear w0
  by_cases hl : len0 ≤ 1048576
  · have H := Lib.hid hcode
    clear hcode
    go_enter Try.func5, Try.ntmps5
    go_wp2_with fail
    refine (big_small _ _ _ _ hl).mono ?_; rintro e w' ⟨rfl, rfl⟩
    go_wp2_with fail
    refine (draw_PlaneSub _ _ _ _ H.out hl).mono ?_; rintro e w1 ⟨s, rfl, hb1⟩
    have B1 := Lib.hid hb1
    have H1 : Hid (CodeAt w1 w1.heap.size a0 len0) := Lib.hid (fun j hj => by
      obtain ⟨b, o, x, h1, h2, h3, h4⟩ := (H.out.below B1.out (Nat.le_refl _)) j hj
      exact ⟨b, o, x, h1, Nat.lt_of_lt_of_le h2 B1.out.size, h3, h4⟩)
    clear hb1 H
    obtain ⟨PS, hPS⟩ : ∃ PS, pc s = PS := ⟨_, rfl⟩
    rw [hPS]
    go_wp2_with fail
    refine (draw_PlaneUnsub _ _ _ _ H1.out hl).mono ?_; rintro e w2 ⟨u, rfl, hb2⟩
    have B2 := Lib.hid (B1.out.trans (hb2.mono B1.out.size))
    clear hb2 B1 H1
    obtain ⟨PU, hPU⟩ : ∃ PU, pc u = PU := ⟨_, rfl⟩
    rw [hPU]
    have C1 := fun W => Lib.hid (PlaneSub_impl s W)
    have C2 := fun W => Lib.hid (PlaneUnsub_impl u W)
    have D1 := fun W => Lib.hid (PlaneSub_spec s W)
    have D2 := fun W => Lib.hid (PlaneUnsub_spec u W)
    have C3 := fun W => Lib.hid (PlaneUnsub_impl (fun i => sbox (s i)) W)
    have C4 := fun W => Lib.hid (PlaneSub_impl (fun i => ubox (u i)) W)
    have F1 := fun W => Lib.hid (FromPlanes_impl (fun i => sbox (s i)) W)
    have F2 := fun W => Lib.hid (FromPlanes_spec s W)
    have F3 : ∀ W, Hid (Calls Try.prog 37 #[.string (txt s 64)] W fun e w' => e = .returned (.string (txt (fun i => sbox (s i)) 64)) ∧ Below W.heap.size W w') := fun W => Lib.hid (by
      have h := SubText_impl (txt s 64) W (by rw [txt_size]; omega)
      rwa [map_txt] at h)
    simp only [pc_ubox, pc_sbox] at C3 C4
    have is := planes_info s
    have iu := planes_info u
    have ix := planes_info (fun i => sbox (s i))
    have iy := planes_info (fun i => ubox (u i))
    have os := pc_one s
    have ou := pc_one u
    have ox := pc_one (fun i => sbox (s i))
    have oy := pc_one (fun i => ubox (u i))
    have zs : #[Value.int .u64 0, .int .u64 0, .int .u64 0, .int .u64 0, .int .u64 0, .int .u64 0, .int .u64 0, .int .u64 0].size = (pc s).size := by rw [pc_size]; rfl
    have zu : #[Value.int .u64 0, .int .u64 0, .int .u64 0, .int .u64 0, .int .u64 0, .int .u64 0, .int .u64 0, .int .u64 0].size = (pc u).size := by rw [pc_size]; rfl
    have zx : #[Value.int .u64 0, .int .u64 0, .int .u64 0, .int .u64 0, .int .u64 0, .int .u64 0, .int .u64 0, .int .u64 0].size = (pc (fun i => sbox (s i))).size := by rw [pc_size]; rfl
    have zy : #[Value.int .u64 0, .int .u64 0, .int .u64 0, .int .u64 0, .int .u64 0, .int .u64 0, .int .u64 0, .int .u64 0].size = (pc (fun i => ubox (u i))).size := by rw [pc_size]; rfl
    have QS := same8_pc s
    have QU := same8_pc u
    have QX := same8_pc (fun i => sbox (s i))
    have QY := same8_pc (fun i => ubox (u i))
    rw [hPS] at C1 D1 C3 F2 is os zs QS
    rw [hPU] at C2 D2 C4 iu ou zu QU
    generalize pc (fun i => sbox (s i)) = PX at *
    generalize pc (fun i => ubox (u i)) = PY at *
    generalize txt (fun i => sbox (s i)) 64 = TX at *
    generalize txt s 64 = TS at *
    clear hPS hPU
    obtain ⟨W3, hW3⟩ : ∃ W3, (((w2.alloc (.cells #[Value.int .u64 0, .int .u64 0, .int .u64 0, .int .u64 0, .int .u64 0, .int .u64 0, .int .u64 0, .int .u64 0] 27)).alloc (.cells #[Value.int .u64 0, .int .u64 0, .int .u64 0, .int .u64 0, .int .u64 0, .int .u64 0, .int .u64 0, .int .u64 0] 27)).setRow w2.heap.size PS).setRow (w2.heap.size + 1) PU = W3 := ⟨_, rfl⟩
    obtain ⟨ho, r1, r2, lt4⟩ := made2 w w2 _ _ _ _ _ B2.out hW3
    have HO := Lib.hid ho
    have R1 := Lib.hid r1
    have R2 := Lib.hid r2
    clear ho r1 r2 lt4
    have HW3 := Lib.hid hW3
    clear hW3 B2
    go_upto_region 4 with (first
      | (refine wpList_store_row rfl 27 _ _ rfl (w2.heap.size) PS rfl rfl 27 _ R1.out is zs os ?_)
      | (refine wpList_store_row rfl 27 _ _ rfl (w2.heap.size + 1) PU rfl rfl 27 _ R2.out iu zu ou ?_))
    rw [HW3.out]
    try simp only [List.getElem_toArray, List.getElem_cons_succ, List.getElem_cons_zero, Act.put, List.setIfInBounds_toArray, List.set_cons_zero, List.set_cons_succ]
    generalize w2.heap.size + 1 = g4 at *
    generalize w2.heap.size = g3 at *
    go_cut [5, 6] from 7 to 44 (fun v5 v6 wx => ∃ g5 g6, v5 = .pointer (some ⟨g5, 0, none⟩) ∧ v6 = .pointer (some ⟨g6, 0, none⟩) ∧ Hold w ((g6, 27, PY) :: (g5, 27, PX) :: [(g3, 27, PS), (g4, 27, PU)]) wx)
    case first =>
      have hS0 := HO.out.drew
      clear HO HW3 R1 R2 C3 C4 D1 D2 F1 F2 F3 QS QU QX QY
      refine wp_region_held_drew (S := Hold w ([(g3, 27, PS), (g4, 27, PU)])) (by kernel_rfl) hS0 (fun hS0 => ?_)
      generalize W3.drew = wq at *
      refine wpAnyH_take (i := 0) (v := .agg PS) rfl (by kernel_rfl) (by kernel_rfl) (by kernel_rfl) (fun _ _ _ h => h) (Or.inl ⟨by kernel_rfl, fun V hV => exec_load_row 27 _ rfl g3 rfl 27 PS _ (hV.1 (g3, 27, PS) (by simp)) Try.underlying27 rfl is⟩) (by assumption) ?_
      try simp only [List.getElem_toArray, List.getElem_cons_succ, List.getElem_cons_zero, Act.put, List.setIfInBounds_toArray, List.set_cons_zero, List.set_cons_succ]
      refine wpAnyH_take (i := 2) (v := .agg PU) rfl (by kernel_rfl) (by kernel_rfl) (by kernel_rfl) (fun _ _ _ h => h) (Or.inl ⟨by kernel_rfl, fun V hV => exec_load_row 27 _ rfl g4 rfl 27 PU _ (hV.1 (g4, 27, PU) (by simp)) Try.underlying27 rfl iu⟩) (by assumption) ?_
      try simp only [List.getElem_toArray, List.getElem_cons_succ, List.getElem_cons_zero, Act.put, List.setIfInBounds_toArray, List.set_cons_zero, List.set_cons_succ]
      refine wpAnyH_ready (rs := [1, 4, 5]) (by kernel_rfl) (by simp) ?_
      refine AllReadyH.cons rfl (fun K hK => ?_) (AllReadyH.cons rfl (fun K hK => ?_) (AllReadyH.cons rfl (fun K hK => ?_) AllReadyH.nil))
      · go_simp
        refine (C1 _).out.mono ?_; rintro e x2 ⟨rfl, hb⟩
        have hS1 := hS0.next hb
        clear hb
        refine hK.out _ _ hS1 (fun hS1 => ?_)
        clear hK K
        try simp only [List.getElem_toArray, List.getElem_cons_succ, List.getElem_cons_zero, Act.put, List.setIfInBounds_toArray, List.set_cons_zero, List.set_cons_succ]
        refine wpAnyH_ready (rs := [3, 4, 5]) (by kernel_rfl) (by simp) ?_
        refine AllReadyH.cons rfl (fun K hK => ?_) (AllReadyH.cons rfl (fun K hK => ?_) (AllReadyH.cons rfl (fun K hK => ?_) AllReadyH.nil))
        · go_simp
          refine (C2 _).out.mono ?_; rintro e x4 ⟨rfl, hb⟩
          have hS3 := hS1.next hb
          clear hb
          refine hK.out _ _ hS3 (fun hS3 => ?_)
          clear hK K
          try simp only [List.getElem_toArray, List.getElem_cons_succ, List.getElem_cons_zero, Act.put, List.setIfInBounds_toArray, List.set_cons_zero, List.set_cons_succ]
          refine wpAnyH_ready (rs := [4, 5]) (by kernel_rfl) (by simp) ?_
          refine AllReadyH.cons rfl (fun K hK => ?_) (AllReadyH.cons rfl (fun K hK => ?_) AllReadyH.nil)
          · go_simp
            have hS5 := hS3.next (alQ_up x4 (.cells #[Value.int .u64 0, .int .u64 0, .int .u64 0, .int .u64 0, .int .u64 0, .int .u64 0, .int .u64 0, .int .u64 0] 27))
            have ZA := Lib.hid (RQ.new x4 27 #[Value.int .u64 0, .int .u64 0, .int .u64 0, .int .u64 0, .int .u64 0, .int .u64 0, .int .u64 0, .int .u64 0])
            refine hK.out _ _ hS5 (fun hS5 => ?_)
            clear hK K
            try simp only [List.getElem_toArray, List.getElem_cons_succ, List.getElem_cons_zero, Act.put, List.setIfInBounds_toArray, List.set_cons_zero, List.set_cons_succ]
            generalize x4.alloc (.cells #[Value.int .u64 0, .int .u64 0, .int .u64 0, .int .u64 0, .int .u64 0, .int .u64 0, .int .u64 0, .int .u64 0] 27) = x6 at *
            refine wpAnyH_ready (rs := [5]) (by kernel_rfl) (by simp) ?_
            refine AllReadyH.cons rfl (fun K hK => ?_) AllReadyH.nil
            go_simp
            have LAB := Lib.hid (ZA.out.lt)
            have ZA := Lib.hid (ZA.out.alloc (.cells #[Value.int .u64 0, .int .u64 0, .int .u64 0, .int .u64 0, .int .u64 0, .int .u64 0, .int .u64 0, .int .u64 0] 27))
            have hS7 := hS5.next (alQ_up x6 (.cells #[Value.int .u64 0, .int .u64 0, .int .u64 0, .int .u64 0, .int .u64 0, .int .u64 0, .int .u64 0, .int .u64 0] 27))
            have ZB := Lib.hid (RQ.new x6 27 #[Value.int .u64 0, .int .u64 0, .int .u64 0, .int .u64 0, .int .u64 0, .int .u64 0, .int .u64 0, .int .u64 0])
            refine hK.out _ _ hS7 (fun hS7 => ?_)
            clear hK K
            try simp only [List.getElem_toArray, List.getElem_cons_succ, List.getElem_cons_zero, Act.put, List.setIfInBounds_toArray, List.set_cons_zero, List.set_cons_succ]
            generalize x6.alloc (.cells #[Value.int .u64 0, .int .u64 0, .int .u64 0, .int .u64 0, .int .u64 0, .int .u64 0, .int .u64 0, .int .u64 0] 27) = x8 at *
            refine wpAnyH_ready (rs := [6]) (by kernel_rfl) (by simp) ?_
            refine AllReadyH.cons rfl (fun K hK => ?_) AllReadyH.nil
            have hS9 := hS7.put hS3 (Nat.le_refl _) PX
            have ZBs := Lib.hid (ZB.out.other PX (g := x4.heap.size) (by first | (have := LBA.out; omega) | (have := LAB.out; omega)))
            have ZAs := Lib.hid (ZA.out.row PX)
            refine wp_store_row 27 _ _ rfl (x4.heap.size) PX rfl rfl 27 _ ZA.out ix zx ox ?_
            refine hK.out _ _ hS9 (fun hS9 => ?_)
            clear hK K ZA ZB
            try simp only [List.getElem_toArray, List.getElem_cons_succ, List.getElem_cons_zero, Act.put, List.setIfInBounds_toArray, List.set_cons_zero, List.set_cons_succ]
            generalize x8.setRow (x4.heap.size) PX = x10 at *
            refine wpAnyH_ready (rs := [7]) (by kernel_rfl) (by simp) ?_
            refine AllReadyH.cons rfl (fun K hK => ?_) AllReadyH.nil
            have hS11 := hS9.put hS5 (Nat.le_refl _) PY
            have ZAss := Lib.hid (ZAs.out.other PY (g := x6.heap.size) (by first | (have := LAB.out; omega) | (have := LBA.out; omega)))
            have ZBss := Lib.hid (ZBs.out.row PY)
            refine wp_store_row 27 _ _ rfl (x6.heap.size) PY rfl rfl 27 _ ZBs.out iy zy oy ?_
            refine hK.out _ _ hS11 (fun hS11 => ?_)
            clear hK K ZAs ZBs
            try simp only [List.getElem_toArray, List.getElem_cons_succ, List.getElem_cons_zero, Act.put, List.setIfInBounds_toArray, List.set_cons_zero, List.set_cons_succ]
            generalize x10.setRow (x6.heap.size) PY = x12 at *
            refine wpAnyH_done (by kernel_rfl) ?_ _
            go_wp2_with fail
            go_meet
            exact ⟨x4.heap.size, x6.heap.size, rfl, rfl, (hS11.add ZAss.out).add ZBss.out⟩
          · go_simp
            have hS13 := hS3.next (alQ_up x4 (.cells #[Value.int .u64 0, .int .u64 0, .int .u64 0, .int .u64 0, .int .u64 0, .int .u64 0, .int .u64 0, .int .u64 0] 27))
            have ZB := Lib.hid (RQ.new x4 27 #[Value.int .u64 0, .int .u64 0, .int .u64 0, .int .u64 0, .int .u64 0, .int .u64 0, .int .u64 0, .int .u64 0])
            refine hK.out _ _ hS13 (fun hS13 => ?_)
            clear hK K
            try simp only [List.getElem_toArray, List.getElem_cons_succ, List.getElem_cons_zero, Act.put, List.setIfInBounds_toArray, List.set_cons_zero, List.set_cons_succ]
            generalize x4.alloc (.cells #[Value.int .u64 0, .int .u64 0, .int .u64 0, .int .u64 0, .int .u64 0, .int .u64 0, .int .u64 0, .int .u64 0] 27) = x14 at *
            refine wpAnyH_ready (rs := [4]) (by kernel_rfl) (by simp) ?_
            refine AllReadyH.cons rfl (fun K hK => ?_) AllReadyH.nil
            go_simp
            have LBA := Lib.hid (ZB.out.lt)
            have ZB := Lib.hid (ZB.out.alloc (.cells #[Value.int .u64 0, .int .u64 0, .int .u64 0, .int .u64 0, .int .u64 0, .int .u64 0, .int .u64 0, .int .u64 0] 27))
            have hS15 := hS13.next (alQ_up x14 (.cells #[Value.int .u64 0, .int .u64 0, .int .u64 0, .int .u64 0, .int .u64 0, .int .u64 0, .int .u64 0, .int .u64 0] 27))
            have ZA := Lib.hid (RQ.new x14 27 #[Value.int .u64 0, .int .u64 0, .int .u64 0, .int .u64 0, .int .u64 0, .int .u64 0, .int .u64 0, .int .u64 0])
            refine hK.out _ _ hS15 (fun hS15 => ?_)
            clear hK K
            try simp only [List.getElem_toArray, List.getElem_cons_succ, List.getElem_cons_zero, Act.put, List.setIfInBounds_toArray, List.set_cons_zero, List.set_cons_succ]
            generalize x14.alloc (.cells #[Value.int .u64 0, .int .u64 0, .int .u64 0, .int .u64 0, .int .u64 0, .int .u64 0, .int .u64 0, .int .u64 0] 27) = x16 at *
            refine wpAnyH_ready (rs := [6]) (by kernel_rfl) (by simp) ?_
            refine AllReadyH.cons rfl (fun K hK => ?_) AllReadyH.nil
            have hS17 := hS15.put hS13 (Nat.le_refl _) PX
            have ZBs := Lib.hid (ZB.out.other PX (g := x14.heap.size) (by first | (have := LBA.out; omega) | (have := LAB.out; omega)))
            have ZAs := Lib.hid (ZA.out.row PX)
            refine wp_store_row 27 _ _ rfl (x14.heap.size) PX rfl rfl 27 _ ZA.out ix zx ox ?_
            refine hK.out _ _ hS17 (fun hS17 => ?_)
            clear hK K ZB ZA
            try simp only [List.getElem_toArray, List.getElem_cons_succ, List.getElem_cons_zero, Act.put, List.setIfInBounds_toArray, List.set_cons_zero, List.set_cons_succ]
            generalize x16.setRow (x14.heap.size) PX = x18 at *
            refine wpAnyH_ready (rs := [7]) (by kernel_rfl) (by simp) ?_
            refine AllReadyH.cons rfl (fun K hK => ?_) AllReadyH.nil
            have hS19 := hS17.put hS3 (Nat.le_refl _) PY
            have ZAss := Lib.hid (ZAs.out.other PY (g := x4.heap.size) (by first | (have := LAB.out; omega) | (have := LBA.out; omega)))
            have ZBss := Lib.hid (ZBs.out.row PY)
            refine wp_store_row 27 _ _ rfl (x4.heap.size) PY rfl rfl 27 _ ZBs.out iy zy oy ?_
            refine hK.out _ _ hS19 (fun hS19 => ?_)
            clear hK K ZBs ZAs
            try simp only [List.getElem_toArray, List.getElem_cons_succ, List.getElem_cons_zero, Act.put, List.setIfInBounds_toArray, List.set_cons_zero, List.set_cons_succ]
            generalize x18.setRow (x4.heap.size) PY = x20 at *
            refine wpAnyH_done (by kernel_rfl) ?_ _
            go_wp2_with fail
            go_meet
            exact ⟨x14.heap.size, x4.heap.size, rfl, rfl, (hS19.add ZAss.out).add ZBss.out⟩
        · go_simp
          have hS21 := hS1.next (alQ_up x2 (.cells #[Value.int .u64 0, .int .u64 0, .int .u64 0, .int .u64 0, .int .u64 0, .int .u64 0, .int .u64 0, .int .u64 0] 27))
          have ZA := Lib.hid (RQ.new x2 27 #[Value.int .u64 0, .int .u64 0, .int .u64 0, .int .u64 0, .int .u64 0, .int .u64 0, .int .u64 0, .int .u64 0])
          refine hK.out _ _ hS21 (fun hS21 => ?_)
          clear hK K
          try simp only [List.getElem_toArray, List.getElem_cons_succ, List.getElem_cons_zero, Act.put, List.setIfInBounds_toArray, List.set_cons_zero, List.set_cons_succ]
          generalize x2.alloc (.cells #[Value.int .u64 0, .int .u64 0, .int .u64 0, .int .u64 0, .int .u64 0, .int .u64 0, .int .u64 0, .int .u64 0] 27) = x22 at *
          refine wpAnyH_ready (rs := [3, 5]) (by kernel_rfl) (by simp) ?_
          refine AllReadyH.cons rfl (fun K hK => ?_) (AllReadyH.cons rfl (fun K hK => ?_) AllReadyH.nil)
          · go_simp
            refine (C2 _).out.mono ?_; rintro e x24 ⟨rfl, hb⟩
            have hS23 := hS21.next hb
            have ZA := Lib.hid (ZA.out.up hb)
            clear hb
            refine hK.out _ _ hS23 (fun hS23 => ?_)
            clear hK K
            try simp only [List.getElem_toArray, List.getElem_cons_succ, List.getElem_cons_zero, Act.put, List.setIfInBounds_toArray, List.set_cons_zero, List.set_cons_succ]
            refine wpAnyH_ready (rs := [5]) (by kernel_rfl) (by simp) ?_
            refine AllReadyH.cons rfl (fun K hK => ?_) AllReadyH.nil
            go_simp
            have LAB := Lib.hid (ZA.out.lt)
            have ZA := Lib.hid (ZA.out.alloc (.cells #[Value.int .u64 0, .int .u64 0, .int .u64 0, .int .u64 0, .int .u64 0, .int .u64 0, .int .u64 0, .int .u64 0] 27))
            have hS25 := hS23.next (alQ_up x24 (.cells #[Value.int .u64 0, .int .u64 0, .int .u64 0, .int .u64 0, .int .u64 0, .int .u64 0, .int .u64 0, .int .u64 0] 27))
            have ZB := Lib.hid (RQ.new x24 27 #[Value.int .u64 0, .int .u64 0, .int .u64 0, .int .u64 0, .int .u64 0, .int .u64 0, .int .u64 0, .int .u64 0])
            refine hK.out _ _ hS25 (fun hS25 => ?_)
            clear hK K
            try simp only [List.getElem_toArray, List.getElem_cons_succ, List.getElem_cons_zero, Act.put, List.setIfInBounds_toArray, List.set_cons_zero, List.set_cons_succ]
            generalize x24.alloc (.cells #[Value.int .u64 0, .int .u64 0, .int .u64 0, .int .u64 0, .int .u64 0, .int .u64 0, .int .u64 0, .int .u64 0] 27) = x26 at *
            refine wpAnyH_ready (rs := [6]) (by kernel_rfl) (by simp) ?_
            refine AllReadyH.cons rfl (fun K hK => ?_) AllReadyH.nil
            have hS27 := hS25.put hS1 (Nat.le_refl _) PX
            have ZBs := Lib.hid (ZB.out.other PX (g := x2.heap.size) (by first | (have := LBA.out; omega) | (have := LAB.out; omega)))
            have ZAs := Lib.hid (ZA.out.row PX)
            refine wp_store_row 27 _ _ rfl (x2.heap.size) PX rfl rfl 27 _ ZA.out ix zx ox ?_
            refine hK.out _ _ hS27 (fun hS27 => ?_)
            clear hK K ZA ZB
            try simp only [List.getElem_toArray, List.getElem_cons_succ, List.getElem_cons_zero, Act.put, List.setIfInBounds_toArray, List.set_cons_zero, List.set_cons_succ]
            generalize x26.setRow (x2.heap.size) PX = x28 at *
            refine wpAnyH_ready (rs := [7]) (by kernel_rfl) (by simp) ?_
            refine AllReadyH.cons rfl (fun K hK => ?_) AllReadyH.nil
            have hS29 := hS27.put hS23 (Nat.le_refl _) PY
            have ZAss := Lib.hid (ZAs.out.other PY (g := x24.heap.size) (by first | (have := LAB.out; omega) | (have := LBA.out; omega)))
            have ZBss := Lib.hid (ZBs.out.row PY)
            refine wp_store_row 27 _ _ rfl (x24.heap.size) PY rfl rfl 27 _ ZBs.out iy zy oy ?_
            refine hK.out _ _ hS29 (fun hS29 => ?_)
            clear hK K ZAs ZBs
            try simp only [List.getElem_toArray, List.getElem_cons_succ, List.getElem_cons_zero, Act.put, List.setIfInBounds_toArray, List.set_cons_zero, List.set_cons_succ]
            generalize x28.setRow (x24.heap.size) PY = x30 at *
            refine wpAnyH_done (by kernel_rfl) ?_ _
            go_wp2_with fail
            go_meet
            exact ⟨x2.heap.size, x24.heap.size, rfl, rfl, (hS29.add ZAss.out).add ZBss.out⟩
          · go_simp
            have LAB := Lib.hid (ZA.out.lt)
            have ZA := Lib.hid (ZA.out.alloc (.cells #[Value.int .u64 0, .int .u64 0, .int .u64 0, .int .u64 0, .int .u64 0, .int .u64 0, .int .u64 0, .int .u64 0] 27))
            have hS31 := hS21.next (alQ_up x22 (.cells #[Value.int .u64 0, .int .u64 0, .int .u64 0, .int .u64 0, .int .u64 0, .int .u64 0, .int .u64 0, .int .u64 0] 27))
            have ZB := Lib.hid (RQ.new x22 27 #[Value.int .u64 0, .int .u64 0, .int .u64 0, .int .u64 0, .int .u64 0, .int .u64 0, .int .u64 0, .int .u64 0])
            refine hK.out _ _ hS31 (fun hS31 => ?_)
            clear hK K
            try simp only [List.getElem_toArray, List.getElem_cons_succ, List.getElem_cons_zero, Act.put, List.setIfInBounds_toArray, List.set_cons_zero, List.set_cons_succ]
            generalize x22.alloc (.cells #[Value.int .u64 0, .int .u64 0, .int .u64 0, .int .u64 0, .int .u64 0, .int .u64 0, .int .u64 0, .int .u64 0] 27) = x32 at *
            refine wpAnyH_ready (rs := [3]) (by kernel_rfl) (by simp) ?_
            refine AllReadyH.cons rfl (fun K hK => ?_) AllReadyH.nil
            go_simp
            refine (C2 _).out.mono ?_; rintro e x34 ⟨rfl, hb⟩
            have hS33 := hS31.next hb
            have ZA := Lib.hid (ZA.out.up hb)
            have ZB := Lib.hid (ZB.out.up hb)
            clear hb
            refine hK.out _ _ hS33 (fun hS33 => ?_)
            clear hK K
            try simp only [List.getElem_toArray, List.getElem_cons_succ, List.getElem_cons_zero, Act.put, List.setIfInBounds_toArray, List.set_cons_zero, List.set_cons_succ]
            refine wpAnyH_ready (rs := [6]) (by kernel_rfl) (by simp) ?_
            refine AllReadyH.cons rfl (fun K hK => ?_) AllReadyH.nil
            have hS35 := hS33.put hS1 (Nat.le_refl _) PX
            have ZBs := Lib.hid (ZB.out.other PX (g := x2.heap.size) (by first | (have := LBA.out; omega) | (have := LAB.out; omega)))
            have ZAs := Lib.hid (ZA.out.row PX)
            refine wp_store_row 27 _ _ rfl (x2.heap.size) PX rfl rfl 27 _ ZA.out ix zx ox ?_
            refine hK.out _ _ hS35 (fun hS35 => ?_)
            clear hK K ZA ZB
            try simp only [List.getElem_toArray, List.getElem_cons_succ, List.getElem_cons_zero, Act.put, List.setIfInBounds_toArray, List.set_cons_zero, List.set_cons_succ]
            generalize x34.setRow (x2.heap.size) PX = x36 at *
            refine wpAnyH_ready (rs := [7]) (by kernel_rfl) (by simp) ?_
            refine AllReadyH.cons rfl (fun K hK => ?_) AllReadyH.nil
            have hS37 := hS35.put hS21 (Nat.le_refl _) PY
            have ZAss := Lib.hid (ZAs.out.other PY (g := x22.heap.size) (by first | (have := LAB.out; omega) | (have := LBA.out; omega)))
            have ZBss := Lib.hid (ZBs.out.row PY)
            refine wp_store_row 27 _ _ rfl (x22.heap.size) PY rfl rfl 27 _ ZBs.out iy zy oy ?_
            refine hK.out _ _ hS37 (fun hS37 => ?_)
            clear hK K ZAs ZBs
            try simp only [List.getElem_toArray, List.getElem_cons_succ, List.getElem_cons_zero, Act.put, List.setIfInBounds_toArray, List.set_cons_zero, List.set_cons_succ]
            generalize x36.setRow (x22.heap.size) PY = x38 at *
            refine wpAnyH_done (by kernel_rfl) ?_ _
            go_wp2_with fail
            go_meet
            exact ⟨x2.heap.size, x22.heap.size, rfl, rfl, (hS37.add ZAss.out).add ZBss.out⟩
        · go_simp
          have hS39 := hS1.next (alQ_up x2 (.cells #[Value.int .u64 0, .int .u64 0, .int .u64 0, .int .u64 0, .int .u64 0, .int .u64 0, .int .u64 0, .int .u64 0] 27))
          have ZB := Lib.hid (RQ.new x2 27 #[Value.int .u64 0, .int .u64 0, .int .u64 0, .int .u64 0, .int .u64 0, .int .u64 0, .int .u64 0, .int .u64 0])
          refine hK.out _ _ hS39 (fun hS39 => ?_)
          clear hK K
          try simp only [List.getElem_toArray, List.getElem_cons_succ, List.getElem_cons_zero, Act.put, List.setIfInBounds_toArray, List.set_cons_zero, List.set_cons_succ]
          generalize x2.alloc (.cells #[Value.int .u64 0, .int .u64 0, .int .u64 0, .int .u64 0, .int .u64 0, .int .u64 0, .int .u64 0, .int .u64 0] 27) = x40 at *
          refine wpAnyH_ready (rs := [3, 4]) (by kernel_rfl) (by simp) ?_
          refine AllReadyH.cons rfl (fun K hK => ?_) (AllReadyH.cons rfl (fun K hK => ?_) AllReadyH.nil)
          · go_simp
            refine (C2 _).out.mono ?_; rintro e x42 ⟨rfl, hb⟩
            have hS41 := hS39.next hb
            have ZB := Lib.hid (ZB.out.up hb)
            clear hb
            refine hK.out _ _ hS41 (fun hS41 => ?_)
            clear hK K
            try simp only [List.getElem_toArray, List.getElem_cons_succ, List.getElem_cons_zero, Act.put, List.setIfInBounds_toArray, List.set_cons_zero, List.set_cons_succ]
            refine wpAnyH_ready (rs := [4]) (by kernel_rfl) (by simp) ?_
            refine AllReadyH.cons rfl (fun K hK => ?_) AllReadyH.nil
            go_simp
            have LBA := Lib.hid (ZB.out.lt)
            have ZB := Lib.hid (ZB.out.alloc (.cells #[Value.int .u64 0, .int .u64 0, .int .u64 0, .int .u64 0, .int .u64 0, .int .u64 0, .int .u64 0, .int .u64 0] 27))
            have hS43 := hS41.next (alQ_up x42 (.cells #[Value.int .u64 0, .int .u64 0, .int .u64 0, .int .u64 0, .int .u64 0, .int .u64 0, .int .u64 0, .int .u64 0] 27))
            have ZA := Lib.hid (RQ.new x42 27 #[Value.int .u64 0, .int .u64 0, .int .u64 0, .int .u64 0, .int .u64 0, .int .u64 0, .int .u64 0, .int .u64 0])
            refine hK.out _ _ hS43 (fun hS43 => ?_)
            clear hK K
            try simp only [List.getElem_toArray, List.getElem_cons_succ, List.getElem_cons_zero, Act.put, List.setIfInBounds_toArray, List.set_cons_zero, List.set_cons_succ]
            generalize x42.alloc (.cells #[Value.int .u64 0, .int .u64 0, .int .u64 0, .int .u64 0, .int .u64 0, .int .u64 0, .int .u64 0, .int .u64 0] 27) = x44 at *
            refine wpAnyH_ready (rs := [6]) (by kernel_rfl) (by simp) ?_
            refine AllReadyH.cons rfl (fun K hK => ?_) AllReadyH.nil
            have hS45 := hS43.put hS41 (Nat.le_refl _) PX
            have ZBs := Lib.hid (ZB.out.other PX (g := x42.heap.size) (by first | (have := LBA.out; omega) | (have := LAB.out; omega)))
            have ZAs := Lib.hid (ZA.out.row PX)
            refine wp_store_row 27 _ _ rfl (x42.heap.size) PX rfl rfl 27 _ ZA.out ix zx ox ?_
            refine hK.out _ _ hS45 (fun hS45 => ?_)
            clear hK K ZB ZA
            try simp only [List.getElem_toArray, List.getElem_cons_succ, List.getElem_cons_zero, Act.put, List.setIfInBounds_toArray, List.set_cons_zero, List.set_cons_succ]
            generalize x44.setRow (x42.heap.size) PX = x46 at *
            refine wpAnyH_ready (rs := [7]) (by kernel_rfl) (by simp) ?_
            refine AllReadyH.cons rfl (fun K hK => ?_) AllReadyH.nil
            have hS47 := hS45.put hS1 (Nat.le_refl _) PY
            have ZAss := Lib.hid (ZAs.out.other PY (g := x2.heap.size) (by first | (have := LAB.out; omega) | (have := LBA.out; omega)))
            have ZBss := Lib.hid (ZBs.out.row PY)
            refine wp_store_row 27 _ _ rfl (x2.heap.size) PY rfl rfl 27 _ ZBs.out iy zy oy ?_
            refine hK.out _ _ hS47 (fun hS47 => ?_)
            clear hK K ZBs ZAs
            try simp only [List.getElem_toArray, List.getElem_cons_succ, List.getElem_cons_zero, Act.put, List.setIfInBounds_toArray, List.set_cons_zero, List.set_cons_succ]
            generalize x46.setRow (x2.heap.size) PY = x48 at *
            refine wpAnyH_done (by kernel_rfl) ?_ _
            go_wp2_with fail
            go_meet
            exact ⟨x42.heap.size, x2.heap.size, rfl, rfl, (hS47.add ZAss.out).add ZBss.out⟩
          · go_simp
            have LBA := Lib.hid (ZB.out.lt)
            have ZB := Lib.hid (ZB.out.alloc (.cells #[Value.int .u64 0, .int .u64 0, .int .u64 0, .int .u64 0, .int .u64 0, .int .u64 0, .int .u64 0, .int .u64 0] 27))
            have hS49 := hS39.next (alQ_up x40 (.cells #[Value.int .u64 0, .int .u64 0, .int .u64 0, .int .u64 0, .int .u64 0, .int .u64 0, .int .u64 0, .int .u64 0] 27))
            have ZA := Lib.hid (RQ.new x40 27 #[Value.int .u64 0, .int .u64 0, .int .u64 0, .int .u64 0, .int .u64 0, .int .u64 0, .int .u64 0, .int .u64 0])
            refine hK.out _ _ hS49 (fun hS49 => ?_)
            clear hK K
            try simp only [List.getElem_toArray, List.getElem_cons_succ, List.getElem_cons_zero, Act.put, List.setIfInBounds_toArray, List.set_cons_zero, List.set_cons_succ]
            generalize x40.alloc (.cells #[Value.int .u64 0, .int .u64 0, .int .u64 0, .int .u64 0, .int .u64 0, .int .u64 0, .int .u64 0, .int .u64 0] 27) = x50 at *
            refine wpAnyH_ready (rs := [3]) (by kernel_rfl) (by simp) ?_
            refine AllReadyH.cons rfl (fun K hK => ?_) AllReadyH.nil
            go_simp
            refine (C2 _).out.mono ?_; rintro e x52 ⟨rfl, hb⟩
            have hS51 := hS49.next hb
            have ZB := Lib.hid (ZB.out.up hb)
            have ZA := Lib.hid (ZA.out.up hb)
            clear hb
            refine hK.out _ _ hS51 (fun hS51 => ?_)
            clear hK K
            try simp only [List.getElem_toArray, List.getElem_cons_succ, List.getElem_cons_zero, Act.put, List.setIfInBounds_toArray, List.set_cons_zero, List.set_cons_succ]
            refine wpAnyH_ready (rs := [6]) (by kernel_rfl) (by simp) ?_
            refine AllReadyH.cons rfl (fun K hK => ?_) AllReadyH.nil
            have hS53 := hS51.put hS39 (Nat.le_refl _) PX
            have ZBs := Lib.hid (ZB.out.other PX (g := x40.heap.size) (by first | (have := LBA.out; omega) | (have := LAB.out; omega)))
            have ZAs := Lib.hid (ZA.out.row PX)
            refine wp_store_row 27 _ _ rfl (x40.heap.size) PX rfl rfl 27 _ ZA.out ix zx ox ?_
            refine hK.out _ _ hS53 (fun hS53 => ?_)
            clear hK K ZB ZA
            try simp only [List.getElem_toArray, List.getElem_cons_succ, List.getElem_cons_zero, Act.put, List.setIfInBounds_toArray, List.set_cons_zero, List.set_cons_succ]
            generalize x52.setRow (x40.heap.size) PX = x54 at *
            refine wpAnyH_ready (rs := [7]) (by kernel_rfl) (by simp) ?_
            refine AllReadyH.cons rfl (fun K hK => ?_) AllReadyH.nil
            have hS55 := hS53.put hS1 (Nat.le_refl _) PY
            have ZAss := Lib.hid (ZAs.out.other PY (g := x2.heap.size) (by first | (have := LAB.out; omega) | (have := LBA.out; omega)))
            have ZBss := Lib.hid (ZBs.out.row PY)
            refine wp_store_row 27 _ _ rfl (x2.heap.size) PY rfl rfl 27 _ ZBs.out iy zy oy ?_
            refine hK.out _ _ hS55 (fun hS55 => ?_)
            clear hK K ZBs ZAs
            try simp only [List.getElem_toArray, List.getElem_cons_succ, List.getElem_cons_zero, Act.put, List.setIfInBounds_toArray, List.set_cons_zero, List.set_cons_succ]
            generalize x54.setRow (x2.heap.size) PY = x56 at *
            refine wpAnyH_done (by kernel_rfl) ?_ _
            go_wp2_with fail
            go_meet
            exact ⟨x40.heap.size, x2.heap.size, rfl, rfl, (hS55.add ZAss.out).add ZBss.out⟩
      · go_simp
        have hS57 := hS0.next (alQ_up wq (.cells #[Value.int .u64 0, .int .u64 0, .int .u64 0, .int .u64 0, .int .u64 0, .int .u64 0, .int .u64 0, .int .u64 0] 27))
        have ZA := Lib.hid (RQ.new wq 27 #[Value.int .u64 0, .int .u64 0, .int .u64 0, .int .u64 0, .int .u64 0, .int .u64 0, .int .u64 0, .int .u64 0])
        refine hK.out _ _ hS57 (fun hS57 => ?_)
        clear hK K
        try simp only [List.getElem_toArray, List.getElem_cons_succ, List.getElem_cons_zero, Act.put, List.setIfInBounds_toArray, List.set_cons_zero, List.set_cons_succ]
        generalize wq.alloc (.cells #[Value.int .u64 0, .int .u64 0, .int .u64 0, .int .u64 0, .int .u64 0, .int .u64 0, .int .u64 0, .int .u64 0] 27) = x58 at *
        refine wpAnyH_ready (rs := [1, 5]) (by kernel_rfl) (by simp) ?_
        refine AllReadyH.cons rfl (fun K hK => ?_) (AllReadyH.cons rfl (fun K hK => ?_) AllReadyH.nil)
        · go_simp
          refine (C1 _).out.mono ?_; rintro e x60 ⟨rfl, hb⟩
          have hS59 := hS57.next hb
          have ZA := Lib.hid (ZA.out.up hb)
          clear hb
          refine hK.out _ _ hS59 (fun hS59 => ?_)
          clear hK K
          try simp only [List.getElem_toArray, List.getElem_cons_succ, List.getElem_cons_zero, Act.put, List.setIfInBounds_toArray, List.set_cons_zero, List.set_cons_succ]
          refine wpAnyH_ready (rs := [3, 5]) (by kernel_rfl) (by simp) ?_
          refine AllReadyH.cons rfl (fun K hK => ?_) (AllReadyH.cons rfl (fun K hK => ?_) AllReadyH.nil)
          · go_simp
            refine (C2 _).out.mono ?_; rintro e x62 ⟨rfl, hb⟩
            have hS61 := hS59.next hb
            have ZA := Lib.hid (ZA.out.up hb)
            clear hb
            refine hK.out _ _ hS61 (fun hS61 => ?_)
            clear hK K
            try simp only [List.getElem_toArray, List.getElem_cons_succ, List.getElem_cons_zero, Act.put, List.setIfInBounds_toArray, List.set_cons_zero, List.set_cons_succ]
            refine wpAnyH_ready (rs := [5]) (by kernel_rfl) (by simp) ?_
            refine AllReadyH.cons rfl (fun K hK => ?_) AllReadyH.nil
            go_simp
            have LAB := Lib.hid (ZA.out.lt)
            have ZA := Lib.hid (ZA.out.alloc (.cells #[Value.int .u64 0, .int .u64 0, .int .u64 0, .int .u64 0, .int .u64 0, .int .u64 0, .int .u64 0, .int .u64 0] 27))
            have hS63 := hS61.next (alQ_up x62 (.cells #[Value.int .u64 0, .int .u64 0, .int .u64 0, .int .u64 0, .int .u64 0, .int .u64 0, .int .u64 0, .int .u64 0] 27))
            have ZB := Lib.hid (RQ.new x62 27 #[Value.int .u64 0, .int .u64 0, .int .u64 0, .int .u64 0, .int .u64 0, .int .u64 0, .int .u64 0, .int .u64 0])
            refine hK.out _ _ hS63 (fun hS63 => ?_)
            clear hK K
            try simp only [List.getElem_toArray, List.getElem_cons_succ, List.getElem_cons_zero, Act.put, List.setIfInBounds_toArray, List.set_cons_zero, List.set_cons_succ]
            generalize x62.alloc (.cells #[Value.int .u64 0, .int .u64 0, .int .u64 0, .int .u64 0, .int .u64 0, .int .u64 0, .int .u64 0, .int .u64 0] 27) = x64 at *
            refine wpAnyH_ready (rs := [6]) (by kernel_rfl) (by simp) ?_
            refine AllReadyH.cons rfl (fun K hK => ?_) AllReadyH.nil
            have hS65 := hS63.put hS0 (Nat.le_refl _) PX
            have ZBs := Lib.hid (ZB.out.other PX (g := wq.heap.size) (by first | (have := LBA.out; omega) | (have := LAB.out; omega)))
            have ZAs := Lib.hid (ZA.out.row PX)
            refine wp_store_row 27 _ _ rfl (wq.heap.size) PX rfl rfl 27 _ ZA.out ix zx ox ?_
            refine hK.out _ _ hS65 (fun hS65 => ?_)
            clear hK K ZA ZB
            try simp only [List.getElem_toArray, List.getElem_cons_succ, List.getElem_cons_zero, Act.put, List.setIfInBounds_toArray, List.set_cons_zero, List.set_cons_succ]
            generalize x64.setRow (wq.heap.size) PX = x66 at *
            refine wpAnyH_ready (rs := [7]) (by kernel_rfl) (by simp) ?_
            refine AllReadyH.cons rfl (fun K hK => ?_) AllReadyH.nil
            have hS67 := hS65.put hS61 (Nat.le_refl _) PY
            have ZAss := Lib.hid (ZAs.out.other PY (g := x62.heap.size) (by first | (have := LAB.out; omega) | (have := LBA.out; omega)))
            have ZBss := Lib.hid (ZBs.out.row PY)
            refine wp_store_row 27 _ _ rfl (x62.heap.size) PY rfl rfl 27 _ ZBs.out iy zy oy ?_
            refine hK.out _ _ hS67 (fun hS67 => ?_)
            clear hK K ZAs ZBs
            try simp only [List.getElem_toArray, List.getElem_cons_succ, List.getElem_cons_zero, Act.put, List.setIfInBounds_toArray, List.set_cons_zero, List.set_cons_succ]
            generalize x66.setRow (x62.heap.size) PY = x68 at *
            refine wpAnyH_done (by kernel_rfl) ?_ _
            go_wp2_with fail
            go_meet
            exact ⟨wq.heap.size, x62.heap.size, rfl, rfl, (hS67.add ZAss.out).add ZBss.out⟩
          · go_simp
            have LAB := Lib.hid (ZA.out.lt)
            have ZA := Lib.hid (ZA.out.alloc (.cells #[Value.int .u64 0, .int .u64 0, .int .u64 0, .int .u64 0, .int .u64 0, .int .u64 0, .int .u64 0, .int .u64 0] 27))
            have hS69 := hS59.next (alQ_up x60 (.cells #[Value.int .u64 0, .int .u64 0, .int .u64 0, .int .u64 0, .int .u64 0, .int .u64 0, .int .u64 0, .int .u64 0] 27))
            have ZB := Lib.hid (RQ.new x60 27 #[Value.int .u64 0, .int .u64 0, .int .u64 0, .int .u64 0, .int .u64 0, .int .u64 0, .int .u64 0, .int .u64 0])
            refine hK.out _ _ hS69 (fun hS69 => ?_)
            clear hK K
            try simp only [List.getElem_toArray, List.getElem_cons_succ, List.getElem_cons_zero, Act.put, List.setIfInBounds_toArray, List.set_cons_zero, List.set_cons_succ]
            generalize x60.alloc (.cells #[Value.int .u64 0, .int .u64 0, .int .u64 0, .int .u64 0, .int .u64 0, .int .u64 0, .int .u64 0, .int .u64 0] 27) = x70 at *
            refine wpAnyH_ready (rs := [3]) (by kernel_rfl) (by simp) ?_
            refine AllReadyH.cons rfl (fun K hK => ?_) AllReadyH.nil
            go_simp
            refine (C2 _).out.mono ?_; rintro e x72 ⟨rfl, hb⟩
            have hS71 := hS69.next hb
            have ZA := Lib.hid (ZA.out.up hb)
            have ZB := Lib.hid (ZB.out.up hb)
            clear hb
            refine hK.out _ _ hS71 (fun hS71 => ?_)
            clear hK K
            try simp only [List.getElem_toArray, List.getElem_cons_succ, List.getElem_cons_zero, Act.put, List.setIfInBounds_toArray, List.set_cons_zero, List.set_cons_succ]
            refine wpAnyH_ready (rs := [6]) (by kernel_rfl) (by simp) ?_
            refine AllReadyH.cons rfl (fun K hK => ?_) AllReadyH.nil
            have hS73 := hS71.put hS0 (Nat.le_refl _) PX
            have ZBs := Lib.hid (ZB.out.other PX (g := wq.heap.size) (by first | (have := LBA.out; omega) | (have := LAB.out; omega)))
            have ZAs := Lib.hid (ZA.out.row PX)
            refine wp_store_row 27 _ _ rfl (wq.heap.size) PX rfl rfl 27 _ ZA.out ix zx ox ?_
            refine hK.out _ _ hS73 (fun hS73 => ?_)
            clear hK K ZA ZB
            try simp only [List.getElem_toArray, List.getElem_cons_succ, List.getElem_cons_zero, Act.put, List.setIfInBounds_toArray, List.set_cons_zero, List.set_cons_succ]
            generalize x72.setRow (wq.heap.size) PX = x74 at *
            refine wpAnyH_ready (rs := [7]) (by kernel_rfl) (by simp) ?_
            refine AllReadyH.cons rfl (fun K hK => ?_) AllReadyH.nil
            have hS75 := hS73.put hS59 (Nat.le_refl _) PY
            have ZAss := Lib.hid (ZAs.out.other PY (g := x60.heap.size) (by first | (have := LAB.out; omega) | (have := LBA.out; omega)))
            have ZBss := Lib.hid (ZBs.out.row PY)
            refine wp_store_row 27 _ _ rfl (x60.heap.size) PY rfl rfl 27 _ ZBs.out iy zy oy ?_
            refine hK.out _ _ hS75 (fun hS75 => ?_)
            clear hK K ZAs ZBs
            try simp only [List.getElem_toArray, List.getElem_cons_succ, List.getElem_cons_zero, Act.put, List.setIfInBounds_toArray, List.set_cons_zero, List.set_cons_succ]
            generalize x74.setRow (x60.heap.size) PY = x76 at *
            refine wpAnyH_done (by kernel_rfl) ?_ _
            go_wp2_with fail
            go_meet
            exact ⟨wq.heap.size, x60.heap.size, rfl, rfl, (hS75.add ZAss.out).add ZBss.out⟩
        · go_simp
          have LAB := Lib.hid (ZA.out.lt)
          have ZA := Lib.hid (ZA.out.alloc (.cells #[Value.int .u64 0, .int .u64 0, .int .u64 0, .int .u64 0, .int .u64 0, .int .u64 0, .int .u64 0, .int .u64 0] 27))
          have hS77 := hS57.next (alQ_up x58 (.cells #[Value.int .u64 0, .int .u64 0, .int .u64 0, .int .u64 0, .int .u64 0, .int .u64 0, .int .u64 0, .int .u64 0] 27))
          have ZB := Lib.hid (RQ.new x58 27 #[Value.int .u64 0, .int .u64 0, .int .u64 0, .int .u64 0, .int .u64 0, .int .u64 0, .int .u64 0, .int .u64 0])
          refine hK.out _ _ hS77 (fun hS77 => ?_)
          clear hK K
          try simp only [List.getElem_toArray, List.getElem_cons_succ, List.getElem_cons_zero, Act.put, List.setIfInBounds_toArray, List.set_cons_zero, List.set_cons_succ]
          generalize x58.alloc (.cells #[Value.int .u64 0, .int .u64 0, .int .u64 0, .int .u64 0, .int .u64 0, .int .u64 0, .int .u64 0, .int .u64 0] 27) = x78 at *
          refine wpAnyH_ready (rs := [1]) (by kernel_rfl) (by simp) ?_
          refine AllReadyH.cons rfl (fun K hK => ?_) AllReadyH.nil
          go_simp
          refine (C1 _).out.mono ?_; rintro e x80 ⟨rfl, hb⟩
          have hS79 := hS77.next hb
          have ZA := Lib.hid (ZA.out.up hb)
          have ZB := Lib.hid (ZB.out.up hb)
          clear hb
          refine hK.out _ _ hS79 (fun hS79 => ?_)
          clear hK K
          try simp only [List.getElem_toArray, List.getElem_cons_succ, List.getElem_cons_zero, Act.put, List.setIfInBounds_toArray, List.set_cons_zero, List.set_cons_succ]
          refine wpAnyH_ready (rs := [3]) (by kernel_rfl) (by simp) ?_
          refine AllReadyH.cons rfl (fun K hK => ?_) AllReadyH.nil
          go_simp
          refine (C2 _).out.mono ?_; rintro e x82 ⟨rfl, hb⟩
          have hS81 := hS79.next hb
          have ZA := Lib.hid (ZA.out.up hb)
          have ZB := Lib.hid (ZB.out.up hb)
          clear hb
          refine hK.out _ _ hS81 (fun hS81 => ?_)
          clear hK K
          try simp only [List.getElem_toArray, List.getElem_cons_succ, List.getElem_cons_zero, Act.put, List.setIfInBounds_toArray, List.set_cons_zero, List.set_cons_succ]
          refine wpAnyH_ready (rs := [6]) (by kernel_rfl) (by simp) ?_
          refine AllReadyH.cons rfl (fun K hK => ?_) AllReadyH.nil
          have hS83 := hS81.put hS0 (Nat.le_refl _) PX
          have ZBs := Lib.hid (ZB.out.other PX (g := wq.heap.size) (by first | (have := LBA.out; omega) | (have := LAB.out; omega)))
          have ZAs := Lib.hid (ZA.out.row PX)
          refine wp_store_row 27 _ _ rfl (wq.heap.size) PX rfl rfl 27 _ ZA.out ix zx ox ?_
          refine hK.out _ _ hS83 (fun hS83 => ?_)
          clear hK K ZA ZB
          try simp only [List.getElem_toArray, List.getElem_cons_succ, List.getElem_cons_zero, Act.put, List.setIfInBounds_toArray, List.set_cons_zero, List.set_cons_succ]
          generalize x82.setRow (wq.heap.size) PX = x84 at *
          refine wpAnyH_ready (rs := [7]) (by kernel_rfl) (by simp) ?_
          refine AllReadyH.cons rfl (fun K hK => ?_) AllReadyH.nil
          have hS85 := hS83.put hS57 (Nat.le_refl _) PY
          have ZAss := Lib.hid (ZAs.out.other PY (g := x58.heap.size) (by first | (have := LAB.out; omega) | (have := LBA.out; omega)))
          have ZBss := Lib.hid (ZBs.out.row PY)
          refine wp_store_row 27 _ _ rfl (x58.heap.size) PY rfl rfl 27 _ ZBs.out iy zy oy ?_
          refine hK.out _ _ hS85 (fun hS85 => ?_)
          clear hK K ZAs ZBs
          try simp only [List.getElem_toArray, List.getElem_cons_succ, List.getElem_cons_zero, Act.put, List.setIfInBounds_toArray, List.set_cons_zero, List.set_cons_succ]
          generalize x84.setRow (x58.heap.size) PY = x86 at *
          refine wpAnyH_done (by kernel_rfl) ?_ _
          go_wp2_with fail
          go_meet
          exact ⟨wq.heap.size, x58.heap.size, rfl, rfl, (hS85.add ZAss.out).add ZBss.out⟩
      · go_simp
        have hS87 := hS0.next (alQ_up wq (.cells #[Value.int .u64 0, .int .u64 0, .int .u64 0, .int .u64 0, .int .u64 0, .int .u64 0, .int .u64 0, .int .u64 0] 27))
        have ZB := Lib.hid (RQ.new wq 27 #[Value.int .u64 0, .int .u64 0, .int .u64 0, .int .u64 0, .int .u64 0, .int .u64 0, .int .u64 0, .int .u64 0])
        refine hK.out _ _ hS87 (fun hS87 => ?_)
        clear hK K
        try simp only [List.getElem_toArray, List.getElem_cons_succ, List.getElem_cons_zero, Act.put, List.setIfInBounds_toArray, List.set_cons_zero, List.set_cons_succ]
        generalize wq.alloc (.cells #[Value.int .u64 0, .int .u64 0, .int .u64 0, .int .u64 0, .int .u64 0, .int .u64 0, .int .u64 0, .int .u64 0] 27) = x88 at *
        refine wpAnyH_ready (rs := [1, 4]) (by kernel_rfl) (by simp) ?_
        refine AllReadyH.cons rfl (fun K hK => ?_) (AllReadyH.cons rfl (fun K hK => ?_) AllReadyH.nil)
        · go_simp
          refine (C1 _).out.mono ?_; rintro e x90 ⟨rfl, hb⟩
          have hS89 := hS87.next hb
          have ZB := Lib.hid (ZB.out.up hb)
          clear hb
          refine hK.out _ _ hS89 (fun hS89 => ?_)
          clear hK K
          try simp only [List.getElem_toArray, List.getElem_cons_succ, List.getElem_cons_zero, Act.put, List.setIfInBounds_toArray, List.set_cons_zero, List.set_cons_succ]
          refine wpAnyH_ready (rs := [3, 4]) (by kernel_rfl) (by simp) ?_
          refine AllReadyH.cons rfl (fun K hK => ?_) (AllReadyH.cons rfl (fun K hK => ?_) AllReadyH.nil)
          · go_simp
            refine (C2 _).out.mono ?_; rintro e x92 ⟨rfl, hb⟩
            have hS91 := hS89.next hb
            have ZB := Lib.hid (ZB.out.up hb)
            clear hb
            refine hK.out _ _ hS91 (fun hS91 => ?_)
            clear hK K
            try simp only [List.getElem_toArray, List.getElem_cons_succ, List.getElem_cons_zero, Act.put, List.setIfInBounds_toArray, List.set_cons_zero, List.set_cons_succ]
            refine wpAnyH_ready (rs := [4]) (by kernel_rfl) (by simp) ?_
            refine AllReadyH.cons rfl (fun K hK => ?_) AllReadyH.nil
            go_simp
            have LBA := Lib.hid (ZB.out.lt)
            have ZB := Lib.hid (ZB.out.alloc (.cells #[Value.int .u64 0, .int .u64 0, .int .u64 0, .int .u64 0, .int .u64 0, .int .u64 0, .int .u64 0, .int .u64 0] 27))
            have hS93 := hS91.next (alQ_up x92 (.cells #[Value.int .u64 0, .int .u64 0, .int .u64 0, .int .u64 0, .int .u64 0, .int .u64 0, .int .u64 0, .int .u64 0] 27))
            have ZA := Lib.hid (RQ.new x92 27 #[Value.int .u64 0, .int .u64 0, .int .u64 0, .int .u64 0, .int .u64 0, .int .u64 0, .int .u64 0, .int .u64 0])
            refine hK.out _ _ hS93 (fun hS93 => ?_)
            clear hK K
            try simp only [List.getElem_toArray, List.getElem_cons_succ, List.getElem_cons_zero, Act.put, List.setIfInBounds_toArray, List.set_cons_zero, List.set_cons_succ]
            generalize x92.alloc (.cells #[Value.int .u64 0, .int .u64 0, .int .u64 0, .int .u64 0, .int .u64 0, .int .u64 0, .int .u64 0, .int .u64 0] 27) = x94 at *
            refine wpAnyH_ready (rs := [6]) (by kernel_rfl) (by simp) ?_
            refine AllReadyH.cons rfl (fun K hK => ?_) AllReadyH.nil
            have hS95 := hS93.put hS91 (Nat.le_refl _) PX
            have ZBs := Lib.hid (ZB.out.other PX (g := x92.heap.size) (by first | (have := LBA.out; omega) | (have := LAB.out; omega)))
            have ZAs := Lib.hid (ZA.out.row PX)
            refine wp_store_row 27 _ _ rfl (x92.heap.size) PX rfl rfl 27 _ ZA.out ix zx ox ?_
            refine hK.out _ _ hS95 (fun hS95 => ?_)
            clear hK K ZB ZA
            try simp only [List.getElem_toArray, List.getElem_cons_succ, List.getElem_cons_zero, Act.put, List.setIfInBounds_toArray, List.set_cons_zero, List.set_cons_succ]
            generalize x94.setRow (x92.heap.size) PX = x96 at *
            refine wpAnyH_ready (rs := [7]) (by kernel_rfl) (by simp) ?_
            refine AllReadyH.cons rfl (fun K hK => ?_) AllReadyH.nil
            have hS97 := hS95.put hS0 (Nat.le_refl _) PY
            have ZAss := Lib.hid (ZAs.out.other PY (g := wq.heap.size) (by first | (have := LAB.out; omega) | (have := LBA.out; omega)))
            have ZBss := Lib.hid (ZBs.out.row PY)
            refine wp_store_row 27 _ _ rfl (wq.heap.size) PY rfl rfl 27 _ ZBs.out iy zy oy ?_
            refine hK.out _ _ hS97 (fun hS97 => ?_)
            clear hK K ZBs ZAs
            try simp only [List.getElem_toArray, List.getElem_cons_succ, List.getElem_cons_zero, Act.put, List.setIfInBounds_toArray, List.set_cons_zero, List.set_cons_succ]
            generalize x96.setRow (wq.heap.size) PY = x98 at *
            refine wpAnyH_done (by kernel_rfl) ?_ _
            go_wp2_with fail
            go_meet
            exact ⟨x92.heap.size, wq.heap.size, rfl, rfl, (hS97.add ZAss.out).add ZBss.out⟩
          · go_simp
            have LBA := Lib.hid (ZB.out.lt)
            have ZB := Lib.hid (ZB.out.alloc (.cells #[Value.int .u64 0, .int .u64 0, .int .u64 0, .int .u64 0, .int .u64 0, .int .u64 0, .int .u64 0, .int .u64 0] 27))
            have hS99 := hS89.next (alQ_up x90 (.cells #[Value.int .u64 0, .int .u64 0, .int .u64 0, .int .u64 0, .int .u64 0, .int .u64 0, .int .u64 0, .int .u64 0] 27))
            have ZA := Lib.hid (RQ.new x90 27 #[Value.int .u64 0, .int .u64 0, .int .u64 0, .int .u64 0, .int .u64 0, .int .u64 0, .int .u64 0, .int .u64 0])
            refine hK.out _ _ hS99 (fun hS99 => ?_)
            clear hK K
            try simp only [List.getElem_toArray, List.getElem_cons_succ, List.getElem_cons_zero, Act.put, List.setIfInBounds_toArray, List.set_cons_zero, List.set_cons_succ]
            generalize x90.alloc (.cells #[Value.int .u64 0, .int .u64 0, .int .u64 0, .int .u64 0, .int .u64 0, .int .u64 0, .int .u64 0, .int .u64 0] 27) = x100 at *
            refine wpAnyH_ready (rs := [3]) (by kernel_rfl) (by simp) ?_
            refine AllReadyH.cons rfl (fun K hK => ?_) AllReadyH.nil
            go_simp
            refine (C2 _).out.mono ?_; rintro e x102 ⟨rfl, hb⟩
            have hS101 := hS99.next hb
            have ZB := Lib.hid (ZB.out.up hb)
            have ZA := Lib.hid (ZA.out.up hb)
            clear hb
            refine hK.out _ _ hS101 (fun hS101 => ?_)
            clear hK K
            try simp only [List.getElem_toArray, List.getElem_cons_succ, List.getElem_cons_zero, Act.put, List.setIfInBounds_toArray, List.set_cons_zero, List.set_cons_succ]
            refine wpAnyH_ready (rs := [6]) (by kernel_rfl) (by simp) ?_
            refine AllReadyH.cons rfl (fun K hK => ?_) AllReadyH.nil
            have hS103 := hS101.put hS89 (Nat.le_refl _) PX
            have ZBs := Lib.hid (ZB.out.other PX (g := x90.heap.size) (by first | (have := LBA.out; omega) | (have := LAB.out; omega)))
            have ZAs := Lib.hid (ZA.out.row PX)
            refine wp_store_row 27 _ _ rfl (x90.heap.size) PX rfl rfl 27 _ ZA.out ix zx ox ?_
            refine hK.out _ _ hS103 (fun hS103 => ?_)
            clear hK K ZB ZA
            try simp only [List.getElem_toArray, List.getElem_cons_succ, List.getElem_cons_zero, Act.put, List.setIfInBounds_toArray, List.set_cons_zero, List.set_cons_succ]
            generalize x102.setRow (x90.heap.size) PX = x104 at *
            refine wpAnyH_ready (rs := [7]) (by kernel_rfl) (by simp) ?_
            refine AllReadyH.cons rfl (fun K hK => ?_) AllReadyH.nil
            have hS105 := hS103.put hS0 (Nat.le_refl _) PY
            have ZAss := Lib.hid (ZAs.out.other PY (g := wq.heap.size) (by first | (have := LAB.out; omega) | (have := LBA.out; omega)))
            have ZBss := Lib.hid (ZBs.out.row PY)
            refine wp_store_row 27 _ _ rfl (wq.heap.size) PY rfl rfl 27 _ ZBs.out iy zy oy ?_
            refine hK.out _ _ hS105 (fun hS105 => ?_)
            clear hK K ZBs ZAs
            try simp only [List.getElem_toArray, List.getElem_cons_succ, List.getElem_cons_zero, Act.put, List.setIfInBounds_toArray, List.set_cons_zero, List.set_cons_succ]
            generalize x104.setRow (wq.heap.size) PY = x106 at *
            refine wpAnyH_done (by kernel_rfl) ?_ _
            go_wp2_with fail
            go_meet
            exact ⟨x90.heap.size, wq.heap.size, rfl, rfl, (hS105.add ZAss.out).add ZBss.out⟩
        · go_simp
          have LBA := Lib.hid (ZB.out.lt)
          have ZB := Lib.hid (ZB.out.alloc (.cells #[Value.int .u64 0, .int .u64 0, .int .u64 0, .int .u64 0, .int .u64 0, .int .u64 0, .int .u64 0, .int .u64 0] 27))
          have hS107 := hS87.next (alQ_up x88 (.cells #[Value.int .u64 0, .int .u64 0, .int .u64 0, .int .u64 0, .int .u64 0, .int .u64 0, .int .u64 0, .int .u64 0] 27))
          have ZA := Lib.hid (RQ.new x88 27 #[Value.int .u64 0, .int .u64 0, .int .u64 0, .int .u64 0, .int .u64 0, .int .u64 0, .int .u64 0, .int .u64 0])
          refine hK.out _ _ hS107 (fun hS107 => ?_)
          clear hK K
          try simp only [List.getElem_toArray, List.getElem_cons_succ, List.getElem_cons_zero, Act.put, List.setIfInBounds_toArray, List.set_cons_zero, List.set_cons_succ]
          generalize x88.alloc (.cells #[Value.int .u64 0, .int .u64 0, .int .u64 0, .int .u64 0, .int .u64 0, .int .u64 0, .int .u64 0, .int .u64 0] 27) = x108 at *
          refine wpAnyH_ready (rs := [1]) (by kernel_rfl) (by simp) ?_
          refine AllReadyH.cons rfl (fun K hK => ?_) AllReadyH.nil
          go_simp
          refine (C1 _).out.mono ?_; rintro e x110 ⟨rfl, hb⟩
          have hS109 := hS107.next hb
          have ZB := Lib.hid (ZB.out.up hb)
          have ZA := Lib.hid (ZA.out.up hb)
          clear hb
          refine hK.out _ _ hS109 (fun hS109 => ?_)
          clear hK K
          try simp only [List.getElem_toArray, List.getElem_cons_succ, List.getElem_cons_zero, Act.put, List.setIfInBounds_toArray, List.set_cons_zero, List.set_cons_succ]
          refine wpAnyH_ready (rs := [3]) (by kernel_rfl) (by simp) ?_
          refine AllReadyH.cons rfl (fun K hK => ?_) AllReadyH.nil
          go_simp
          refine (C2 _).out.mono ?_; rintro e x112 ⟨rfl, hb⟩
          have hS111 := hS109.next hb
          have ZB := Lib.hid (ZB.out.up hb)
          have ZA := Lib.hid (ZA.out.up hb)
          clear hb
          refine hK.out _ _ hS111 (fun hS111 => ?_)
          clear hK K
          try simp only [List.getElem_toArray, List.getElem_cons_succ, List.getElem_cons_zero, Act.put, List.setIfInBounds_toArray, List.set_cons_zero, List.set_cons_succ]
          refine wpAnyH_ready (rs := [6]) (by kernel_rfl) (by simp) ?_
          refine AllReadyH.cons rfl (fun K hK => ?_) AllReadyH.nil
          have hS113 := hS111.put hS87 (Nat.le_refl _) PX
          have ZBs := Lib.hid (ZB.out.other PX (g := x88.heap.size) (by first | (have := LBA.out; omega) | (have := LAB.out; omega)))
          have ZAs := Lib.hid (ZA.out.row PX)
          refine wp_store_row 27 _ _ rfl (x88.heap.size) PX rfl rfl 27 _ ZA.out ix zx ox ?_
          refine hK.out _ _ hS113 (fun hS113 => ?_)
          clear hK K ZB ZA
          try simp only [List.getElem_toArray, List.getElem_cons_succ, List.getElem_cons_zero, Act.put, List.setIfInBounds_toArray, List.set_cons_zero, List.set_cons_succ]
          generalize x112.setRow (x88.heap.size) PX = x114 at *
          refine wpAnyH_ready (rs := [7]) (by kernel_rfl) (by simp) ?_
          refine AllReadyH.cons rfl (fun K hK => ?_) AllReadyH.nil
          have hS115 := hS113.put hS0 (Nat.le_refl _) PY
          have ZAss := Lib.hid (ZAs.out.other PY (g := wq.heap.size) (by first | (have := LAB.out; omega) | (have := LBA.out; omega)))
          have ZBss := Lib.hid (ZBs.out.row PY)
          refine wp_store_row 27 _ _ rfl (wq.heap.size) PY rfl rfl 27 _ ZBs.out iy zy oy ?_
          refine hK.out _ _ hS115 (fun hS115 => ?_)
          clear hK K ZBs ZAs
          try simp only [List.getElem_toArray, List.getElem_cons_succ, List.getElem_cons_zero, Act.put, List.setIfInBounds_toArray, List.set_cons_zero, List.set_cons_succ]
          generalize x114.setRow (wq.heap.size) PY = x116 at *
          refine wpAnyH_done (by kernel_rfl) ?_ _
          go_wp2_with fail
          go_meet
          exact ⟨x88.heap.size, wq.heap.size, rfl, rfl, (hS115.add ZAss.out).add ZBss.out⟩
    case rest =>
      obtain ⟨g5, g6, rfl, rfl, hR⟩ := hcut
      have hS0 := hR.drew
      clear HO HW3 R1 R2 C1 C2 hR
      go_wp2
      refine wp_region_held_drew (S := Hold w ((g6, 27, PY) :: (g5, 27, PX) :: [(g3, 27, PS), (g4, 27, PU)])) (by kernel_rfl) hS0 (fun hS0 => ?_)
      generalize wc.drew = wq at *
      refine wpAnyH_take (i := 0) (v := .agg PX) rfl (by kernel_rfl) (by kernel_rfl) (by kernel_rfl) (fun _ _ _ h => h) (Or.inl ⟨by kernel_rfl, fun V hV => exec_load_row 27 _ rfl g5 rfl 27 PX _ (hV.1 (g5, 27, PX) (by simp)) Try.underlying27 rfl ix⟩) (by assumption) ?_
      try simp only [List.getElem_toArray, List.getElem_cons_succ, List.getElem_cons_zero, Act.put, List.setIfInBounds_toArray, List.set_cons_zero, List.set_cons_succ]
      refine wpAnyH_take (i := 1) (v := .agg PS) rfl (by kernel_rfl) (by kernel_rfl) (by kernel_rfl) (fun _ _ _ h => h) (Or.inl ⟨by kernel_rfl, fun V hV => exec_load_row 27 _ rfl g3 rfl 27 PS _ (hV.1 (g3, 27, PS) (by simp)) Try.underlying27 rfl is⟩) (by assumption) ?_
      try simp only [List.getElem_toArray, List.getElem_cons_succ, List.getElem_cons_zero, Act.put, List.setIfInBounds_toArray, List.set_cons_zero, List.set_cons_succ]
      refine wpAnyH_ready (rs := [2]) (by kernel_rfl) (by simp) ?_
      refine AllReadyH.cons rfl (fun K hK => ?_) AllReadyH.nil
      go_simp
      refine (D1 _).out.mono ?_; rintro e x2 ⟨rfl, hb⟩
      have hS1 := hS0.next hb
      clear hb
      refine hK.out _ _ hS1 (fun hS1 => ?_)
      clear hK K
      try simp only [List.getElem_toArray, List.getElem_cons_succ, List.getElem_cons_zero, Act.put, List.setIfInBounds_toArray, List.set_cons_zero, List.set_cons_succ]
      refine wpAnyH_take (i := 3) (v := .bool false) rfl (by kernel_rfl) (by kernel_rfl) (by kernel_rfl) (fun _ _ _ h => h) (Or.inl ⟨by kernel_rfl, fun V hV => exec_neqP QX V _ _ rfl rfl rfl⟩) (by assumption) ?_
      try simp only [List.getElem_toArray, List.getElem_cons_succ, List.getElem_cons_zero, Act.put, List.setIfInBounds_toArray, List.set_cons_zero, List.set_cons_succ]
      refine wpAnyH_take (i := 4) (v := ?_) rfl (by kernel_rfl) (by kernel_rfl) (by kernel_rfl) (fun _ _ _ h => h) (Or.inl ⟨by kernel_rfl, ?_⟩) (by assumption) ?_
      rotate_left
      · intro w hSw
        go_simp
        first | done | with_reducible rfl
      try simp only [List.getElem_toArray, List.getElem_cons_succ, List.getElem_cons_zero, Act.put, List.setIfInBounds_toArray, List.set_cons_zero, List.set_cons_succ]
      refine wpAnyH_take (i := 5) (v := .agg PY) rfl (by kernel_rfl) (by kernel_rfl) (by kernel_rfl) (fun _ _ _ h => h) (Or.inl ⟨by kernel_rfl, fun V hV => exec_load_row 27 _ rfl g6 rfl 27 PY _ (hV.1 (g6, 27, PY) (by simp)) Try.underlying27 rfl iy⟩) (by assumption) ?_
      try simp only [List.getElem_toArray, List.getElem_cons_succ, List.getElem_cons_zero, Act.put, List.setIfInBounds_toArray, List.set_cons_zero, List.set_cons_succ]
      refine wpAnyH_take (i := 6) (v := .agg PU) rfl (by kernel_rfl) (by kernel_rfl) (by kernel_rfl) (fun _ _ _ h => h) (Or.inl ⟨by kernel_rfl, fun V hV => exec_load_row 27 _ rfl g4 rfl 27 PU _ (hV.1 (g4, 27, PU) (by simp)) Try.underlying27 rfl iu⟩) (by assumption) ?_
      try simp only [List.getElem_toArray, List.getElem_cons_succ, List.getElem_cons_zero, Act.put, List.setIfInBounds_toArray, List.set_cons_zero, List.set_cons_succ]
      refine wpAnyH_ready (rs := [7]) (by kernel_rfl) (by simp) ?_
      refine AllReadyH.cons rfl (fun K hK => ?_) AllReadyH.nil
      go_simp
      refine (D2 _).out.mono ?_; rintro e x4 ⟨rfl, hb⟩
      have hS3 := hS1.next hb
      clear hb
      refine hK.out _ _ hS3 (fun hS3 => ?_)
      clear hK K
      try simp only [List.getElem_toArray, List.getElem_cons_succ, List.getElem_cons_zero, Act.put, List.setIfInBounds_toArray, List.set_cons_zero, List.set_cons_succ]
      refine wpAnyH_take (i := 8) (v := .bool false) rfl (by kernel_rfl) (by kernel_rfl) (by kernel_rfl) (fun _ _ _ h => h) (Or.inl ⟨by kernel_rfl, fun V hV => exec_neqP QY V _ _ rfl rfl rfl⟩) (by assumption) ?_
      try simp only [List.getElem_toArray, List.getElem_cons_succ, List.getElem_cons_zero, Act.put, List.setIfInBounds_toArray, List.set_cons_zero, List.set_cons_succ]
      refine wpAnyH_take (i := 9) (v := ?_) rfl (by kernel_rfl) (by kernel_rfl) (by kernel_rfl) (fun _ _ _ h => h) (Or.inl ⟨by kernel_rfl, ?_⟩) (by assumption) ?_
      rotate_left
      · intro w hSw
        go_simp
        first | done | with_reducible rfl
      try simp only [List.getElem_toArray, List.getElem_cons_succ, List.getElem_cons_zero, Act.put, List.setIfInBounds_toArray, List.set_cons_zero, List.set_cons_succ]
      refine wpAnyH_done (by kernel_rfl) ?_ _
      have HK := Lib.hid hS3
      clear hS0
      go_wp2
      have hS1 := HK.out.drew
      clear HK
      refine wp_region_held_drew (S := Hold w ((g6, 27, PY) :: (g5, 27, PX) :: [(g3, 27, PS), (g4, 27, PU)])) (by kernel_rfl) hS1 (fun hS1 => ?_)
      generalize World.drew _ = wz at *
      refine wpAnyH_take (i := 0) (v := .agg PX) rfl (by kernel_rfl) (by kernel_rfl) (by kernel_rfl) (fun _ _ _ h => h) (Or.inl ⟨by kernel_rfl, fun V hV => exec_load_row 27 _ rfl g5 rfl 27 PX _ (hV.1 (g5, 27, PX) (by simp)) Try.underlying27 rfl ix⟩) (by assumption) ?_
      try simp only [List.getElem_toArray, List.getElem_cons_succ, List.getElem_cons_zero, Act.put, List.setIfInBounds_toArray, List.set_cons_zero, List.set_cons_succ]
      refine wpAnyH_take (i := 2) (v := .agg PS) rfl (by kernel_rfl) (by kernel_rfl) (by kernel_rfl) (fun _ _ _ h => h) (Or.inl ⟨by kernel_rfl, fun V hV => exec_load_row 27 _ rfl g3 rfl 27 PS _ (hV.1 (g3, 27, PS) (by simp)) Try.underlying27 rfl is⟩) (by assumption) ?_
      try simp only [List.getElem_toArray, List.getElem_cons_succ, List.getElem_cons_zero, Act.put, List.setIfInBounds_toArray, List.set_cons_zero, List.set_cons_succ]
      refine wpAnyH_ready (rs := [1]) (by kernel_rfl) (by simp) ?_
      refine AllReadyH.cons rfl (fun K hK => ?_) AllReadyH.nil
      go_simp
      refine (C3 _).out.mono ?_; rintro e x2 ⟨rfl, hb⟩
      have hS1 := hS1.next hb
      clear hb
      refine hK.out _ _ hS1 (fun hS1 => ?_)
      clear hK K
      try simp only [List.getElem_toArray, List.getElem_cons_succ, List.getElem_cons_zero, Act.put, List.setIfInBounds_toArray, List.set_cons_zero, List.set_cons_succ]
      refine wpAnyH_take (i := 3) (v := .bool true) rfl (by kernel_rfl) (by kernel_rfl) (by kernel_rfl) (fun _ _ _ h => h) (Or.inl ⟨by kernel_rfl, fun V hV => exec_eqlP QS V _ _ rfl rfl rfl⟩) (by assumption) ?_
      try simp only [List.getElem_toArray, List.getElem_cons_succ, List.getElem_cons_zero, Act.put, List.setIfInBounds_toArray, List.set_cons_zero, List.set_cons_succ]
      refine wpAnyH_take (i := 4) (v := ?_) rfl (by kernel_rfl) (by kernel_rfl) (by kernel_rfl) (fun _ _ _ h => h) (Or.inl ⟨by kernel_rfl, ?_⟩) (by assumption) ?_
      rotate_left
      · intro w hSw
        go_simp
        first | done | with_reducible rfl
      try simp only [List.getElem_toArray, List.getElem_cons_succ, List.getElem_cons_zero, Act.put, List.setIfInBounds_toArray, List.set_cons_zero, List.set_cons_succ]
      refine wpAnyH_take (i := 5) (v := .agg PY) rfl (by kernel_rfl) (by kernel_rfl) (by kernel_rfl) (fun _ _ _ h => h) (Or.inl ⟨by kernel_rfl, fun V hV => exec_load_row 27 _ rfl g6 rfl 27 PY _ (hV.1 (g6, 27, PY) (by simp)) Try.underlying27 rfl iy⟩) (by assumption) ?_
      try simp only [List.getElem_toArray, List.getElem_cons_succ, List.getElem_cons_zero, Act.put, List.setIfInBounds_toArray, List.set_cons_zero, List.set_cons_succ]
      refine wpAnyH_take (i := 7) (v := .agg PU) rfl (by kernel_rfl) (by kernel_rfl) (by kernel_rfl) (fun _ _ _ h => h) (Or.inl ⟨by kernel_rfl, fun V hV => exec_load_row 27 _ rfl g4 rfl 27 PU _ (hV.1 (g4, 27, PU) (by simp)) Try.underlying27 rfl iu⟩) (by assumption) ?_
      try simp only [List.getElem_toArray, List.getElem_cons_succ, List.getElem_cons_zero, Act.put, List.setIfInBounds_toArray, List.set_cons_zero, List.set_cons_succ]
      refine wpAnyH_ready (rs := [6]) (by kernel_rfl) (by simp) ?_
      refine AllReadyH.cons rfl (fun K hK => ?_) AllReadyH.nil
      go_simp
      refine (C4 _).out.mono ?_; rintro e x4 ⟨rfl, hb⟩
      have hS3 := hS1.next hb
      clear hb
      refine hK.out _ _ hS3 (fun hS3 => ?_)
      clear hK K
      try simp only [List.getElem_toArray, List.getElem_cons_succ, List.getElem_cons_zero, Act.put, List.setIfInBounds_toArray, List.set_cons_zero, List.set_cons_succ]
      refine wpAnyH_take (i := 8) (v := .bool true) rfl (by kernel_rfl) (by kernel_rfl) (by kernel_rfl) (fun _ _ _ h => h) (Or.inl ⟨by kernel_rfl, fun V hV => exec_eqlP QU V _ _ rfl rfl rfl⟩) (by assumption) ?_
      try simp only [List.getElem_toArray, List.getElem_cons_succ, List.getElem_cons_zero, Act.put, List.setIfInBounds_toArray, List.set_cons_zero, List.set_cons_succ]
      refine wpAnyH_take (i := 9) (v := ?_) rfl (by kernel_rfl) (by kernel_rfl) (by kernel_rfl) (fun _ _ _ h => h) (Or.inl ⟨by kernel_rfl, ?_⟩) (by assumption) ?_
      rotate_left
      · intro w hSw
        go_simp
        first | done | with_reducible rfl
      try simp only [List.getElem_toArray, List.getElem_cons_succ, List.getElem_cons_zero, Act.put, List.setIfInBounds_toArray, List.set_cons_zero, List.set_cons_succ]
      refine wpAnyH_take (i := 10) (v := ?_) rfl (by kernel_rfl) (by kernel_rfl) (by kernel_rfl) (fun _ _ _ h => h) (Or.inl ⟨by kernel_rfl, ?_⟩) (by assumption) ?_
      rotate_left
      · intro w hSw
        go_simp
        first | done | with_reducible rfl
      try simp only [List.getElem_toArray, List.getElem_cons_succ, List.getElem_cons_zero, Act.put, List.setIfInBounds_toArray, List.set_cons_zero, List.set_cons_succ]
      refine wpAnyH_take (i := 11) (v := .agg PX) rfl (by kernel_rfl) (by kernel_rfl) (by kernel_rfl) (fun _ _ _ h => h) (Or.inl ⟨by kernel_rfl, fun V hV => exec_load_row 27 _ rfl g5 rfl 27 PX _ (hV.1 (g5, 27, PX) (by simp)) Try.underlying27 rfl ix⟩) (by assumption) ?_
      try simp only [List.getElem_toArray, List.getElem_cons_succ, List.getElem_cons_zero, Act.put, List.setIfInBounds_toArray, List.set_cons_zero, List.set_cons_succ]
      refine wpAnyH_take (i := 13) (v := .agg PS) rfl (by kernel_rfl) (by kernel_rfl) (by kernel_rfl) (fun _ _ _ h => h) (Or.inl ⟨by kernel_rfl, fun V hV => exec_load_row 27 _ rfl g3 rfl 27 PS _ (hV.1 (g3, 27, PS) (by simp)) Try.underlying27 rfl is⟩) (by assumption) ?_
      try simp only [List.getElem_toArray, List.getElem_cons_succ, List.getElem_cons_zero, Act.put, List.setIfInBounds_toArray, List.set_cons_zero, List.set_cons_succ]
      refine wpAnyH_ready (rs := [12]) (by kernel_rfl) (by simp) ?_
      refine AllReadyH.cons rfl (fun K hK => ?_) AllReadyH.nil
      go_simp
      refine (F1 _).out.mono ?_; rintro e x6 ⟨rfl, hb⟩
      have hS5 := hS3.next hb
      clear hb
      refine hK.out _ _ hS5 (fun hS5 => ?_)
      clear hK K
      try simp only [List.getElem_toArray, List.getElem_cons_succ, List.getElem_cons_zero, Act.put, List.setIfInBounds_toArray, List.set_cons_zero, List.set_cons_succ]
      refine wpAnyH_ready (rs := [14]) (by kernel_rfl) (by simp) ?_
      refine AllReadyH.cons rfl (fun K hK => ?_) AllReadyH.nil
      go_simp
      refine (F2 _).out.mono ?_; rintro e x8 ⟨rfl, hb⟩
      have hS7 := hS5.next hb
      clear hb
      refine hK.out _ _ hS7 (fun hS7 => ?_)
      clear hK K
      try simp only [List.getElem_toArray, List.getElem_cons_succ, List.getElem_cons_zero, Act.put, List.setIfInBounds_toArray, List.set_cons_zero, List.set_cons_succ]
      refine wpAnyH_ready (rs := [15]) (by kernel_rfl) (by simp) ?_
      refine AllReadyH.cons rfl (fun K hK => ?_) AllReadyH.nil
      go_simp
      refine (F3 _).out.mono ?_; rintro e x10 ⟨rfl, hb⟩
      have hS9 := hS7.next hb
      clear hb
      refine hK.out _ _ hS9 (fun hS9 => ?_)
      clear hK K
      try simp only [List.getElem_toArray, List.getElem_cons_succ, List.getElem_cons_zero, Act.put, List.setIfInBounds_toArray, List.set_cons_zero, List.set_cons_succ]
      refine wpAnyH_take (i := 16) (v := ?_) rfl (by kernel_rfl) (by kernel_rfl) (by kernel_rfl) (fun _ _ _ h => h) (Or.inl ⟨by kernel_rfl, ?_⟩) (by assumption) ?_
      rotate_left
      · intro w hSw
        go_simp
        first | done | with_reducible rfl
      try simp only [List.getElem_toArray, List.getElem_cons_succ, List.getElem_cons_zero, Act.put, List.setIfInBounds_toArray, List.set_cons_zero, List.set_cons_succ]
      refine wpAnyH_take (i := 17) (v := ?_) rfl (by kernel_rfl) (by kernel_rfl) (by kernel_rfl) (fun _ _ _ h => h) (Or.inl ⟨by kernel_rfl, ?_⟩) (by assumption) ?_
      rotate_left
      · intro w hSw
        go_simp
        first | done | with_reducible rfl
      try simp only [List.getElem_toArray, List.getElem_cons_succ, List.getElem_cons_zero, Act.put, List.setIfInBounds_toArray, List.set_cons_zero, List.set_cons_succ]
      refine wpAnyH_ready (rs := [18]) (by kernel_rfl) (by simp) ?_
      refine AllReadyH.cons rfl (fun K hK => ?_) AllReadyH.nil
      go_simp
      refine hK.out _ _ hS9 (fun _ => ?_)
      clear hK K
      try simp only [List.getElem_toArray, List.getElem_cons_succ, List.getElem_cons_zero, Act.put, List.setIfInBounds_toArray, List.set_cons_zero, List.set_cons_succ]
      refine wpAnyH_done (by kernel_rfl) ?_ _
      have BF := Lib.hid hS9.2
      clear hS1
      go_wp2
      go_ret
      exact ⟨rfl, BF.out⟩
  · go_enter Try.func5, Try.ntmps5
    go_wp2_with fail
    refine (big_great _ _ _ _ (by omega) hlen).mono ?_; rintro e w' ⟨rfl, rfl⟩
    go_wp2
    go_ret
    exact ⟨rfl, Below.refl _ _⟩
end Go.Proofs.Ytbbjcgnoialidaa
