/-
  The walk of laws.FnPlaneRound: it returns true at every code.
-/
import Derived.Test.YtbbjcgnoialidaaDoorPlDraw3
import Derived.Test.YtbbjcgnoialidaaDoorW54
import Derived.Deep.CutRange
set_option linter.unusedVariables false
set_option linter.unusedSimpArgs false
namespace Go.Proofs.YtbbjcgnoialidaaDoor
open Go Go.RowKit

theorem made1d {w V : World} {l : List (Nat × TypeId × Array Value)} (h : Hold w l V) (Z A : Array Value) (t : TypeId) : RQ (V.alloc (.cells Z t)) V.heap.size t Z ∧ Hold w ((V.heap.size, t, A) :: l) ((V.alloc (.cells Z t)).setRow V.heap.size A) :=
  ⟨RQ.new V t Z, ((h.next (alQ_up V _)).put h (Nat.le_refl _) A).add ((RQ.new V t Z).row A)⟩
theorem code_upD {w V : World} {A : Option Addr} {len : Nat} (h : CodeAt w w.heap.size A len) (hb : Below w.heap.size w V) : CodeAt V V.heap.size A len := fun j hj => by
  obtain ⟨b, o, x, h1, h2, h3, h4⟩ := (h.below hb (Nat.le_refl _)) j hj
  exact ⟨b, o, x, h1, Nat.lt_of_lt_of_le h2 hb.size, h3, h4⟩
theorem facts_FnPlaneRound {W : World} (h : laidMetH Tryd.prog Rows.fnPlaneRoundRow.laid W) : Facs W := by
  have h' : laidMet Tryd.prog [("loop.example/g00835/impl.unmixFactors", Lib.tabData .u8 [14, 9, 13, 11]), ("loop.example/g00835/impl.mixFactors", Lib.tabData .u8 [2, 1, 1, 3])] W := h
  exact facs_laid h'
theorem mixOf_x (k : Bool) (x y : UInt32) : mixOf k (x ^^^ y) = mixOf k x ^^^ mixOf k y := by
  cases k
  · exact mixW_xor mxF x y
  · exact un_xor x y
theorem mixOf_back (k : Bool) (x : UInt32) : mixOf (!k) (mixOf k x) = x := by
  cases k
  · exact un_mx x
  · exact mx_un x
theorem rows_back (k : Bool) (s : Nat → UInt8) : rowsB (stepOf (!k)) (rowsB (stepOf k) s) = s := by
  funext i
  cases k
  · exact rowsB_back 3 1 (Or.inr ⟨rfl, rfl⟩) s i
  · exact rowsB_back 1 3 (Or.inl ⟨rfl, rfl⟩) s i
set_option maxRecDepth 100000 in
set_option maxHeartbeats 12800000 in
theorem walk_FnPlaneRound (a0 : Option Addr) (len0 cap0 : Nat) (z0 : List Int) (w : World) (w0 : IsRow .u8 w a0 len0 cap0 z0) (hfx : Facs w) :
    Calls Tryd.prog 3 #[.slice a0 len0 cap0] w fun e w' => e = .returned (.bool true) ∧ Below w.heap.size w w' := by
  obtain ⟨hcode, hlen⟩ := w0.code
  clear w0
  have HFX := Lib.hid hfx
  clear hfx
  by_cases hl : len0 ≤ 1048576
  · have H := Lib.hid hcode
    clear hcode
    go_enter Tryd.func3, Tryd.ntmps3
    go_wp2_with fail
    refine (big_small _ _ _ _ hl).mono ?_; rintro e w' ⟨rfl, rfl⟩
    go_wp2_with fail
    refine (draw_PlaneRows _ _ _ _ H.out hl).mono ?_; rintro e w1 ⟨s, k1, rfl, hb1⟩
    have is := planes_info s
    have os := pc_one s
    have zs : #[Value.int .u64 0, .int .u64 0, .int .u64 0, .int .u64 0, .int .u64 0, .int .u64 0, .int .u64 0, .int .u64 0].size = (pc s).size := by rw [pc_size]; rfl
    obtain ⟨PS, hPS⟩ : ∃ PS, pc s = PS := ⟨_, rfl⟩
    rw [hPS] at is os zs ⊢
    have HPS := Lib.hid hPS
    obtain ⟨m1, m2⟩ := made1d (Hold.nil hb1) #[Value.int .u64 0, .int .u64 0, .int .u64 0, .int .u64 0, .int .u64 0, .int .u64 0, .int .u64 0, .int .u64 0] PS 26
    have M1 := Lib.hid m1
    obtain ⟨W3, hW3⟩ : ∃ W3, (w1.alloc (.cells #[Value.int .u64 0, .int .u64 0, .int .u64 0, .int .u64 0, .int .u64 0, .int .u64 0, .int .u64 0, .int .u64 0] 26)).setRow w1.heap.size PS = W3 := ⟨_, rfl⟩
    rw [hW3] at m2
    have M2 := Lib.hid m2
    have H3 := Lib.hid (code_upD H.out M2.out.2)
    have HW3 := Lib.hid hW3
    clear m1 m2 hW3 hPS hb1 H
    go_wp2_with (refine wpList_store_row rfl 26 _ _ rfl (w1.heap.size) PS rfl rfl 26 _ M1.out is zs os ?_)
    rw [HW3.out]
    clear HW3 M1
    generalize w1.heap.size = g3 at *
    refine (draw_PlaneColumns _ _ _ _ H3.out hl).mono ?_; rintro e w4 ⟨m, k2, rfl, hb4⟩
    have M4 := Lib.hid (M2.out.next hb4)
    clear hb4 M2 H3
    have C1 := fun W => Lib.hid (PlaneRows_impl s k1 W)
    have CC : ∀ (v : Nat → UInt8) (k : Bool) W, Below w.heap.size w W → Hid (Calls Tryd.prog 10 #[.agg (pc v), .bool k] W fun e w' => e = .returned (.agg (pc (colsB (mixOf k) v))) ∧ Below W.heap.size W w') := fun v k W hW => Lib.hid (PlaneColumns_impl v k W (HFX.out.up hW).1 (HFX.out.up hW).2)
    have C2 := fun W hW => CC m k2 W hW
    have D1 := fun W => Lib.hid (PlaneRows_spec s k1 W)
    have D2 := fun W => Lib.hid (PlaneColumns_spec m k2 W)
    have F1 : ∀ W, Hid (Calls Tryd.prog 9 #[.agg (pc (rowsB (stepOf k1) s)), .bool (!k1)] W fun e w' => e = .returned (.agg (pc s)) ∧ Below W.heap.size W w') := fun W => Lib.hid (by
      have h := PlaneRows_impl (rowsB (stepOf k1) s) (!k1) W
      rwa [rows_back] at h)
    have F2 : ∀ W, Below w.heap.size w W → Hid (Calls Tryd.prog 10 #[.agg (pc (colsB (mixOf k2) m)), .bool (!k2)] W fun e w' => e = .returned (.agg (pc m)) ∧ Below W.heap.size W w') := fun W hW => by
      have h := CC (colsB (mixOf k2) m) (!k2) W hW
      rwa [show colsB (mixOf (!k2)) (colsB (mixOf k2) m) = m from funext fun i => colsB_back _ _ (mixOf_back k2) m i] at h
    have F3 := fun W => Lib.hid (PlaneXor_impl s m W)
    have F4 := fun W hW => CC (fun i => s i ^^^ m i) k2 W hW
    have F5 := fun W hW => CC s k2 W hW
    have F6 : ∀ W, Hid (Calls Tryd.prog 13 #[.agg (pc (colsB (mixOf k2) s)), .agg (pc (colsB (mixOf k2) m))] W fun e w' => e = .returned (.agg (pc (colsB (mixOf k2) (fun i => s i ^^^ m i)))) ∧ Below W.heap.size W w') := fun W => Lib.hid (by
      have h := PlaneXor_impl (colsB (mixOf k2) s) (colsB (mixOf k2) m) W
      rwa [show (fun i => (colsB (mixOf k2) s) i ^^^ (colsB (mixOf k2) m) i) = (colsB (mixOf k2) (fun i => s i ^^^ m i)) from funext fun i => (colsB_x _ (mixOf_x k2) s m i).symm] at h)
    have F7 := fun W => Lib.hid (PlaneRows_impl (fun i => s i ^^^ m i) k1 W)
    have F8 := fun W => Lib.hid (PlaneRows_impl m k1 W)
    have F9 : ∀ W, Hid (Calls Tryd.prog 13 #[.agg (pc (rowsB (stepOf k1) s)), .agg (pc (rowsB (stepOf k1) m))] W fun e w' => e = .returned (.agg (pc (rowsB (stepOf k1) (fun i => s i ^^^ m i)))) ∧ Below W.heap.size W w') := fun W => Lib.hid (by
      have h := PlaneXor_impl (rowsB (stepOf k1) s) (rowsB (stepOf k1) m) W
      rwa [show (fun i => (rowsB (stepOf k1) s) i ^^^ (rowsB (stepOf k1) m) i) = (rowsB (stepOf k1) (fun i => s i ^^^ m i)) from funext fun i => (rowsB_x _ s m i).symm] at h)
    have QX := same8_pc (rowsB (stepOf k1) s)
    have QY := same8_pc (colsB (mixOf k2) m)
    have QS := same8_pc s
    have QM := same8_pc m
    have QC := same8_pc (colsB (mixOf k2) (fun i => s i ^^^ m i))
    have QR := same8_pc (rowsB (stepOf k1) (fun i => s i ^^^ m i))
    have im := planes_info m
    have om := pc_one m
    have zm : #[Value.int .u64 0, .int .u64 0, .int .u64 0, .int .u64 0, .int .u64 0, .int .u64 0, .int .u64 0, .int .u64 0].size = (pc m).size := by rw [pc_size]; rfl
    have ix := planes_info (rowsB (stepOf k1) s)
    have ox := pc_one (rowsB (stepOf k1) s)
    have zx : #[Value.int .u64 0, .int .u64 0, .int .u64 0, .int .u64 0, .int .u64 0, .int .u64 0, .int .u64 0, .int .u64 0].size = (pc (rowsB (stepOf k1) s)).size := by rw [pc_size]; rfl
    have iy := planes_info (colsB (mixOf k2) m)
    have oy := pc_one (colsB (mixOf k2) m)
    have zy : #[Value.int .u64 0, .int .u64 0, .int .u64 0, .int .u64 0, .int .u64 0, .int .u64 0, .int .u64 0, .int .u64 0].size = (pc (colsB (mixOf k2) m)).size := by rw [pc_size]; rfl
    clear CC
    generalize pc (colsB (mixOf k2) (fun i => s i ^^^ m i)) = PC at *
    generalize pc (rowsB (stepOf k1) (fun i => s i ^^^ m i)) = PR at *
    generalize pc (colsB (mixOf k2) s) = PCS at *
    generalize pc (rowsB (stepOf k1) m) = PRM at *
    generalize pc (fun i => s i ^^^ m i) = PSM at *
    generalize pc (rowsB (stepOf k1) s) = PX at *
    generalize pc (colsB (mixOf k2) m) = PY at *
    generalize pc m = PM at *
    rw [HPS.out] at C1 D1 F1 F3 F5 QS
    clear HPS HFX
    obtain ⟨m1, m2⟩ := made1d M4.out #[Value.int .u64 0, .int .u64 0, .int .u64 0, .int .u64 0, .int .u64 0, .int .u64 0, .int .u64 0, .int .u64 0] PM 26
    have M1 := Lib.hid m1
    obtain ⟨W3, hW3⟩ : ∃ W3, (w4.alloc (.cells #[Value.int .u64 0, .int .u64 0, .int .u64 0, .int .u64 0, .int .u64 0, .int .u64 0, .int .u64 0, .int .u64 0] 26)).setRow w4.heap.size PM = W3 := ⟨_, rfl⟩
    rw [hW3] at m2
    have HO := Lib.hid m2
    have HW3 := Lib.hid hW3
    clear m1 m2 hW3 M4
    go_upto_region 5 with (refine wpList_store_row rfl 26 _ _ rfl (w4.heap.size) PM rfl rfl 26 _ M1.out im zm om ?_)
    rw [HW3.out]
    try simp only [List.getElem_toArray, List.getElem_cons_succ, List.getElem_cons_zero, Act.put, List.setIfInBounds_toArray, List.set_cons_zero, List.set_cons_succ]
    clear HW3 M1
    generalize w4.heap.size = g5 at *
    go_cut [7, 8] from 9 to 26 (fun v7 v8 wx => ∃ g7 g8, v7 = .pointer (some ⟨g7, 0, none⟩) ∧ v8 = .pointer (some ⟨g8, 0, none⟩) ∧ Hold w ((g8, 26, PY) :: (g7, 26, PX) :: (g5, 26, PM) :: [(g3, 26, PS)]) wx)
    case first =>
      have hS0 := HO.out.drew
      clear HO D1 D2 F1 F2 F3 F4 F5 F6 F7 F8 F9 QX QY QS QM QC QR
      refine wp_region_held_drew (S := Hold w ((g5, 26, PM) :: [(g3, 26, PS)])) (by kernel_rfl) hS0 (fun hS0 => ?_)
      generalize W3.drew = wq at *
      refine wpAnyH_take (i := 0) (v := .agg PS) rfl (by kernel_rfl) (by kernel_rfl) (by kernel_rfl) (fun _ _ _ h => h) (Or.inl ⟨by kernel_rfl, fun V hV => exec_load_row 26 _ rfl g3 rfl 26 PS _ (hV.1 (g3, 26, PS) (by simp)) Tryd.underlying26 rfl is⟩) (by assumption) ?_
      try simp only [List.getElem_toArray, List.getElem_cons_succ, List.getElem_cons_zero, Act.put, List.setIfInBounds_toArray, List.set_cons_zero, List.set_cons_succ]
      refine wpAnyH_take (i := 1) (v := ?_) rfl (by kernel_rfl) (by kernel_rfl) (by kernel_rfl) (fun _ _ _ h => h) (Or.inl ⟨by kernel_rfl, ?_⟩) (by assumption) ?_
      rotate_left
      · intro w hSw
        go_simp
        first | done | with_reducible rfl
      try simp only [List.getElem_toArray, List.getElem_cons_succ, List.getElem_cons_zero, Act.put, List.setIfInBounds_toArray, List.set_cons_zero, List.set_cons_succ]
      refine wpAnyH_take (i := 3) (v := .agg PM) rfl (by kernel_rfl) (by kernel_rfl) (by kernel_rfl) (fun _ _ _ h => h) (Or.inl ⟨by kernel_rfl, fun V hV => exec_load_row 26 _ rfl g5 rfl 26 PM _ (hV.1 (g5, 26, PM) (by simp)) Tryd.underlying26 rfl im⟩) (by assumption) ?_
      try simp only [List.getElem_toArray, List.getElem_cons_succ, List.getElem_cons_zero, Act.put, List.setIfInBounds_toArray, List.set_cons_zero, List.set_cons_succ]
      refine wpAnyH_take (i := 4) (v := ?_) rfl (by kernel_rfl) (by kernel_rfl) (by kernel_rfl) (fun _ _ _ h => h) (Or.inl ⟨by kernel_rfl, ?_⟩) (by assumption) ?_
      rotate_left
      · intro w hSw
        go_simp
        first | done | with_reducible rfl
      try simp only [List.getElem_toArray, List.getElem_cons_succ, List.getElem_cons_zero, Act.put, List.setIfInBounds_toArray, List.set_cons_zero, List.set_cons_succ]
      refine wpAnyH_ready (rs := [2, 6, 7]) (by kernel_rfl) (by simp) ?_
      refine AllReadyH.cons rfl (fun K hK => ?_) (AllReadyH.cons rfl (fun K hK => ?_) (AllReadyH.cons rfl (fun K hK => ?_) AllReadyH.nil))
      · go_simp
        refine (C1 _).out.mono ?_; rintro e x2 ⟨rfl, hb⟩
        have hS1 := hS0.next hb
        clear hb
        refine hK.out _ _ hS1 (fun hS1 => ?_)
        clear hK K
        try simp only [List.getElem_toArray, List.getElem_cons_succ, List.getElem_cons_zero, Act.put, List.setIfInBounds_toArray, List.set_cons_zero, List.set_cons_succ]
        refine wpAnyH_ready (rs := [5, 6, 7]) (by kernel_rfl) (by simp) ?_
        refine AllReadyH.cons rfl (fun K hK => ?_) (AllReadyH.cons rfl (fun K hK => ?_) (AllReadyH.cons rfl (fun K hK => ?_) AllReadyH.nil))
        · go_simp
          refine (C2 _ hS1.2).out.mono ?_; rintro e x4 ⟨rfl, hb⟩
          have hS3 := hS1.next hb
          clear hb
          refine hK.out _ _ hS3 (fun hS3 => ?_)
          clear hK K
          try simp only [List.getElem_toArray, List.getElem_cons_succ, List.getElem_cons_zero, Act.put, List.setIfInBounds_toArray, List.set_cons_zero, List.set_cons_succ]
          refine wpAnyH_ready (rs := [6, 7]) (by kernel_rfl) (by simp) ?_
          refine AllReadyH.cons rfl (fun K hK => ?_) (AllReadyH.cons rfl (fun K hK => ?_) AllReadyH.nil)
          · go_simp
            have hS5 := hS3.next (alQ_up x4 (.cells #[Value.int .u64 0, .int .u64 0, .int .u64 0, .int .u64 0, .int .u64 0, .int .u64 0, .int .u64 0, .int .u64 0] 26))
            have ZA := Lib.hid (RQ.new x4 26 #[Value.int .u64 0, .int .u64 0, .int .u64 0, .int .u64 0, .int .u64 0, .int .u64 0, .int .u64 0, .int .u64 0])
            refine hK.out _ _ hS5 (fun hS5 => ?_)
            clear hK K
            try simp only [List.getElem_toArray, List.getElem_cons_succ, List.getElem_cons_zero, Act.put, List.setIfInBounds_toArray, List.set_cons_zero, List.set_cons_succ]
            generalize x4.alloc (.cells #[Value.int .u64 0, .int .u64 0, .int .u64 0, .int .u64 0, .int .u64 0, .int .u64 0, .int .u64 0, .int .u64 0] 26) = x6 at *
            refine wpAnyH_ready (rs := [7]) (by kernel_rfl) (by simp) ?_
            refine AllReadyH.cons rfl (fun K hK => ?_) AllReadyH.nil
            go_simp
            have LAB := Lib.hid (ZA.out.lt)
            have ZA := Lib.hid (ZA.out.alloc (.cells #[Value.int .u64 0, .int .u64 0, .int .u64 0, .int .u64 0, .int .u64 0, .int .u64 0, .int .u64 0, .int .u64 0] 26))
            have hS7 := hS5.next (alQ_up x6 (.cells #[Value.int .u64 0, .int .u64 0, .int .u64 0, .int .u64 0, .int .u64 0, .int .u64 0, .int .u64 0, .int .u64 0] 26))
            have ZB := Lib.hid (RQ.new x6 26 #[Value.int .u64 0, .int .u64 0, .int .u64 0, .int .u64 0, .int .u64 0, .int .u64 0, .int .u64 0, .int .u64 0])
            refine hK.out _ _ hS7 (fun hS7 => ?_)
            clear hK K
            try simp only [List.getElem_toArray, List.getElem_cons_succ, List.getElem_cons_zero, Act.put, List.setIfInBounds_toArray, List.set_cons_zero, List.set_cons_succ]
            generalize x6.alloc (.cells #[Value.int .u64 0, .int .u64 0, .int .u64 0, .int .u64 0, .int .u64 0, .int .u64 0, .int .u64 0, .int .u64 0] 26) = x8 at *
            refine wpAnyH_ready (rs := [8]) (by kernel_rfl) (by simp) ?_
            refine AllReadyH.cons rfl (fun K hK => ?_) AllReadyH.nil
            have hS9 := hS7.put hS3 (Nat.le_refl _) PX
            have ZBs := Lib.hid (ZB.out.other PX (g := x4.heap.size) (by first | (have := LBA.out; omega) | (have := LAB.out; omega)))
            have ZAs := Lib.hid (ZA.out.row PX)
            refine wp_store_row 26 _ _ rfl (x4.heap.size) PX rfl rfl 26 _ ZA.out ix zx ox ?_
            refine hK.out _ _ hS9 (fun hS9 => ?_)
            clear hK K ZA ZB
            try simp only [List.getElem_toArray, List.getElem_cons_succ, List.getElem_cons_zero, Act.put, List.setIfInBounds_toArray, List.set_cons_zero, List.set_cons_succ]
            generalize x8.setRow (x4.heap.size) PX = x10 at *
            refine wpAnyH_ready (rs := [9]) (by kernel_rfl) (by simp) ?_
            refine AllReadyH.cons rfl (fun K hK => ?_) AllReadyH.nil
            have hS11 := hS9.put hS5 (Nat.le_refl _) PY
            have ZAss := Lib.hid (ZAs.out.other PY (g := x6.heap.size) (by first | (have := LAB.out; omega) | (have := LBA.out; omega)))
            have ZBss := Lib.hid (ZBs.out.row PY)
            refine wp_store_row 26 _ _ rfl (x6.heap.size) PY rfl rfl 26 _ ZBs.out iy zy oy ?_
            refine hK.out _ _ hS11 (fun hS11 => ?_)
            clear hK K ZAs ZBs
            try simp only [List.getElem_toArray, List.getElem_cons_succ, List.getElem_cons_zero, Act.put, List.setIfInBounds_toArray, List.set_cons_zero, List.set_cons_succ]
            generalize x10.setRow (x6.heap.size) PY = x12 at *
            refine wpAnyH_done (by kernel_rfl) ?_ _
            go_wp2_with fail
            go_meet
            exact ⟨x4.heap.size, x6.heap.size, rfl, rfl, (hS11.add ZAss.out).add ZBss.out⟩
          · go_simp
            have hS13 := hS3.next (alQ_up x4 (.cells #[Value.int .u64 0, .int .u64 0, .int .u64 0, .int .u64 0, .int .u64 0, .int .u64 0, .int .u64 0, .int .u64 0] 26))
            have ZB := Lib.hid (RQ.new x4 26 #[Value.int .u64 0, .int .u64 0, .int .u64 0, .int .u64 0, .int .u64 0, .int .u64 0, .int .u64 0, .int .u64 0])
            refine hK.out _ _ hS13 (fun hS13 => ?_)
            clear hK K
            try simp only [List.getElem_toArray, List.getElem_cons_succ, List.getElem_cons_zero, Act.put, List.setIfInBounds_toArray, List.set_cons_zero, List.set_cons_succ]
            generalize x4.alloc (.cells #[Value.int .u64 0, .int .u64 0, .int .u64 0, .int .u64 0, .int .u64 0, .int .u64 0, .int .u64 0, .int .u64 0] 26) = x14 at *
            refine wpAnyH_ready (rs := [6]) (by kernel_rfl) (by simp) ?_
            refine AllReadyH.cons rfl (fun K hK => ?_) AllReadyH.nil
            go_simp
            have LBA := Lib.hid (ZB.out.lt)
            have ZB := Lib.hid (ZB.out.alloc (.cells #[Value.int .u64 0, .int .u64 0, .int .u64 0, .int .u64 0, .int .u64 0, .int .u64 0, .int .u64 0, .int .u64 0] 26))
            have hS15 := hS13.next (alQ_up x14 (.cells #[Value.int .u64 0, .int .u64 0, .int .u64 0, .int .u64 0, .int .u64 0, .int .u64 0, .int .u64 0, .int .u64 0] 26))
            have ZA := Lib.hid (RQ.new x14 26 #[Value.int .u64 0, .int .u64 0, .int .u64 0, .int .u64 0, .int .u64 0, .int .u64 0, .int .u64 0, .int .u64 0])
            refine hK.out _ _ hS15 (fun hS15 => ?_)
            clear hK K
            try simp only [List.getElem_toArray, List.getElem_cons_succ, List.getElem_cons_zero, Act.put, List.setIfInBounds_toArray, List.set_cons_zero, List.set_cons_succ]
            generalize x14.alloc (.cells #[Value.int .u64 0, .int .u64 0, .int .u64 0, .int .u64 0, .int .u64 0, .int .u64 0, .int .u64 0, .int .u64 0] 26) = x16 at *
            refine wpAnyH_ready (rs := [8]) (by kernel_rfl) (by simp) ?_
            refine AllReadyH.cons rfl (fun K hK => ?_) AllReadyH.nil
            have hS17 := hS15.put hS13 (Nat.le_refl _) PX
            have ZBs := Lib.hid (ZB.out.other PX (g := x14.heap.size) (by first | (have := LBA.out; omega) | (have := LAB.out; omega)))
            have ZAs := Lib.hid (ZA.out.row PX)
            refine wp_store_row 26 _ _ rfl (x14.heap.size) PX rfl rfl 26 _ ZA.out ix zx ox ?_
            refine hK.out _ _ hS17 (fun hS17 => ?_)
            clear hK K ZB ZA
            try simp only [List.getElem_toArray, List.getElem_cons_succ, List.getElem_cons_zero, Act.put, List.setIfInBounds_toArray, List.set_cons_zero, List.set_cons_succ]
            generalize x16.setRow (x14.heap.size) PX = x18 at *
            refine wpAnyH_ready (rs := [9]) (by kernel_rfl) (by simp) ?_
            refine AllReadyH.cons rfl (fun K hK => ?_) AllReadyH.nil
            have hS19 := hS17.put hS3 (Nat.le_refl _) PY
            have ZAss := Lib.hid (ZAs.out.other PY (g := x4.heap.size) (by first | (have := LAB.out; omega) | (have := LBA.out; omega)))
            have ZBss := Lib.hid (ZBs.out.row PY)
            refine wp_store_row 26 _ _ rfl (x4.heap.size) PY rfl rfl 26 _ ZBs.out iy zy oy ?_
            refine hK.out _ _ hS19 (fun hS19 => ?_)
            clear hK K ZBs ZAs
            try simp only [List.getElem_toArray, List.getElem_cons_succ, List.getElem_cons_zero, Act.put, List.setIfInBounds_toArray, List.set_cons_zero, List.set_cons_succ]
            generalize x18.setRow (x4.heap.size) PY = x20 at *
            refine wpAnyH_done (by kernel_rfl) ?_ _
            go_wp2_with fail
            go_meet
            exact ⟨x14.heap.size, x4.heap.size, rfl, rfl, (hS19.add ZAss.out).add ZBss.out⟩
        · go_simp
          have hS21 := hS1.next (alQ_up x2 (.cells #[Value.int .u64 0, .int .u64 0, .int .u64 0, .int .u64 0, .int .u64 0, .int .u64 0, .int .u64 0, .int .u64 0] 26))
          have ZA := Lib.hid (RQ.new x2 26 #[Value.int .u64 0, .int .u64 0, .int .u64 0, .int .u64 0, .int .u64 0, .int .u64 0, .int .u64 0, .int .u64 0])
          refine hK.out _ _ hS21 (fun hS21 => ?_)
          clear hK K
          try simp only [List.getElem_toArray, List.getElem_cons_succ, List.getElem_cons_zero, Act.put, List.setIfInBounds_toArray, List.set_cons_zero, List.set_cons_succ]
          generalize x2.alloc (.cells #[Value.int .u64 0, .int .u64 0, .int .u64 0, .int .u64 0, .int .u64 0, .int .u64 0, .int .u64 0, .int .u64 0] 26) = x22 at *
          refine wpAnyH_ready (rs := [5, 7]) (by kernel_rfl) (by simp) ?_
          refine AllReadyH.cons rfl (fun K hK => ?_) (AllReadyH.cons rfl (fun K hK => ?_) AllReadyH.nil)
          · go_simp
            refine (C2 _ hS21.2).out.mono ?_; rintro e x24 ⟨rfl, hb⟩
            have hS23 := hS21.next hb
            have ZA := Lib.hid (ZA.out.up hb)
            clear hb
            refine hK.out _ _ hS23 (fun hS23 => ?_)
            clear hK K
            try simp only [List.getElem_toArray, List.getElem_cons_succ, List.getElem_cons_zero, Act.put, List.setIfInBounds_toArray, List.set_cons_zero, List.set_cons_succ]
            refine wpAnyH_ready (rs := [7]) (by kernel_rfl) (by simp) ?_
            refine AllReadyH.cons rfl (fun K hK => ?_) AllReadyH.nil
            go_simp
            have LAB := Lib.hid (ZA.out.lt)
            have ZA := Lib.hid (ZA.out.alloc (.cells #[Value.int .u64 0, .int .u64 0, .int .u64 0, .int .u64 0, .int .u64 0, .int .u64 0, .int .u64 0, .int .u64 0] 26))
            have hS25 := hS23.next (alQ_up x24 (.cells #[Value.int .u64 0, .int .u64 0, .int .u64 0, .int .u64 0, .int .u64 0, .int .u64 0, .int .u64 0, .int .u64 0] 26))
            have ZB := Lib.hid (RQ.new x24 26 #[Value.int .u64 0, .int .u64 0, .int .u64 0, .int .u64 0, .int .u64 0, .int .u64 0, .int .u64 0, .int .u64 0])
            refine hK.out _ _ hS25 (fun hS25 => ?_)
            clear hK K
            try simp only [List.getElem_toArray, List.getElem_cons_succ, List.getElem_cons_zero, Act.put, List.setIfInBounds_toArray, List.set_cons_zero, List.set_cons_succ]
            generalize x24.alloc (.cells #[Value.int .u64 0, .int .u64 0, .int .u64 0, .int .u64 0, .int .u64 0, .int .u64 0, .int .u64 0, .int .u64 0] 26) = x26 at *
            refine wpAnyH_ready (rs := [8]) (by kernel_rfl) (by simp) ?_
            refine AllReadyH.cons rfl (fun K hK => ?_) AllReadyH.nil
            have hS27 := hS25.put hS1 (Nat.le_refl _) PX
            have ZBs := Lib.hid (ZB.out.other PX (g := x2.heap.size) (by first | (have := LBA.out; omega) | (have := LAB.out; omega)))
            have ZAs := Lib.hid (ZA.out.row PX)
            refine wp_store_row 26 _ _ rfl (x2.heap.size) PX rfl rfl 26 _ ZA.out ix zx ox ?_
            refine hK.out _ _ hS27 (fun hS27 => ?_)
            clear hK K ZA ZB
            try simp only [List.getElem_toArray, List.getElem_cons_succ, List.getElem_cons_zero, Act.put, List.setIfInBounds_toArray, List.set_cons_zero, List.set_cons_succ]
            generalize x26.setRow (x2.heap.size) PX = x28 at *
            refine wpAnyH_ready (rs := [9]) (by kernel_rfl) (by simp) ?_
            refine AllReadyH.cons rfl (fun K hK => ?_) AllReadyH.nil
            have hS29 := hS27.put hS23 (Nat.le_refl _) PY
            have ZAss := Lib.hid (ZAs.out.other PY (g := x24.heap.size) (by first | (have := LAB.out; omega) | (have := LBA.out; omega)))
            have ZBss := Lib.hid (ZBs.out.row PY)
            refine wp_store_row 26 _ _ rfl (x24.heap.size) PY rfl rfl 26 _ ZBs.out iy zy oy ?_
            refine hK.out _ _ hS29 (fun hS29 => ?_)
            clear hK K ZAs ZBs
            try simp only [List.getElem_toArray, List.getElem_cons_succ, List.getElem_cons_zero, Act.put, List.setIfInBounds_toArray, List.set_cons_zero, List.set_cons_succ]
            generalize x28.setRow (x24.heap.size) PY = x30 at *
            refine wpAnyH_done (by kernel_rfl) ?_ _
            go_wp2_with fail
            go_meet
            exact ⟨x2.heap.size, x24.heap.size, rfl, rfl, (hS29.add ZAss.out).add ZBss.out⟩
          · go_simp
            have LAB := Lib.hid (ZA.out.lt)
            have ZA := Lib.hid (ZA.out.alloc (.cells #[Value.int .u64 0, .int .u64 0, .int .u64 0, .int .u64 0, .int .u64 0, .int .u64 0, .int .u64 0, .int .u64 0] 26))
            have hS31 := hS21.next (alQ_up x22 (.cells #[Value.int .u64 0, .int .u64 0, .int .u64 0, .int .u64 0, .int .u64 0, .int .u64 0, .int .u64 0, .int .u64 0] 26))
            have ZB := Lib.hid (RQ.new x22 26 #[Value.int .u64 0, .int .u64 0, .int .u64 0, .int .u64 0, .int .u64 0, .int .u64 0, .int .u64 0, .int .u64 0])
            refine hK.out _ _ hS31 (fun hS31 => ?_)
            clear hK K
            try simp only [List.getElem_toArray, List.getElem_cons_succ, List.getElem_cons_zero, Act.put, List.setIfInBounds_toArray, List.set_cons_zero, List.set_cons_succ]
            generalize x22.alloc (.cells #[Value.int .u64 0, .int .u64 0, .int .u64 0, .int .u64 0, .int .u64 0, .int .u64 0, .int .u64 0, .int .u64 0] 26) = x32 at *
            refine wpAnyH_ready (rs := [5]) (by kernel_rfl) (by simp) ?_
            refine AllReadyH.cons rfl (fun K hK => ?_) AllReadyH.nil
            go_simp
            refine (C2 _ hS31.2).out.mono ?_; rintro e x34 ⟨rfl, hb⟩
            have hS33 := hS31.next hb
            have ZA := Lib.hid (ZA.out.up hb)
            have ZB := Lib.hid (ZB.out.up hb)
            clear hb
            refine hK.out _ _ hS33 (fun hS33 => ?_)
            clear hK K
            try simp only [List.getElem_toArray, List.getElem_cons_succ, List.getElem_cons_zero, Act.put, List.setIfInBounds_toArray, List.set_cons_zero, List.set_cons_succ]
            refine wpAnyH_ready (rs := [8]) (by kernel_rfl) (by simp) ?_
            refine AllReadyH.cons rfl (fun K hK => ?_) AllReadyH.nil
            have hS35 := hS33.put hS1 (Nat.le_refl _) PX
            have ZBs := Lib.hid (ZB.out.other PX (g := x2.heap.size) (by first | (have := LBA.out; omega) | (have := LAB.out; omega)))
            have ZAs := Lib.hid (ZA.out.row PX)
            refine wp_store_row 26 _ _ rfl (x2.heap.size) PX rfl rfl 26 _ ZA.out ix zx ox ?_
            refine hK.out _ _ hS35 (fun hS35 => ?_)
            clear hK K ZA ZB
            try simp only [List.getElem_toArray, List.getElem_cons_succ, List.getElem_cons_zero, Act.put, List.setIfInBounds_toArray, List.set_cons_zero, List.set_cons_succ]
            generalize x34.setRow (x2.heap.size) PX = x36 at *
            refine wpAnyH_ready (rs := [9]) (by kernel_rfl) (by simp) ?_
            refine AllReadyH.cons rfl (fun K hK => ?_) AllReadyH.nil
            have hS37 := hS35.put hS21 (Nat.le_refl _) PY
            have ZAss := Lib.hid (ZAs.out.other PY (g := x22.heap.size) (by first | (have := LAB.out; omega) | (have := LBA.out; omega)))
            have ZBss := Lib.hid (ZBs.out.row PY)
            refine wp_store_row 26 _ _ rfl (x22.heap.size) PY rfl rfl 26 _ ZBs.out iy zy oy ?_
            refine hK.out _ _ hS37 (fun hS37 => ?_)
            clear hK K ZAs ZBs
            try simp only [List.getElem_toArray, List.getElem_cons_succ, List.getElem_cons_zero, Act.put, List.setIfInBounds_toArray, List.set_cons_zero, List.set_cons_succ]
            generalize x36.setRow (x22.heap.size) PY = x38 at *
            refine wpAnyH_done (by kernel_rfl) ?_ _
            go_wp2_with fail
            go_meet
            exact ⟨x2.heap.size, x22.heap.size, rfl, rfl, (hS37.add ZAss.out).add ZBss.out⟩
        · go_simp
          have hS39 := hS1.next (alQ_up x2 (.cells #[Value.int .u64 0, .int .u64 0, .int .u64 0, .int .u64 0, .int .u64 0, .int .u64 0, .int .u64 0, .int .u64 0] 26))
          have ZB := Lib.hid (RQ.new x2 26 #[Value.int .u64 0, .int .u64 0, .int .u64 0, .int .u64 0, .int .u64 0, .int .u64 0, .int .u64 0, .int .u64 0])
          refine hK.out _ _ hS39 (fun hS39 => ?_)
          clear hK K
          try simp only [List.getElem_toArray, List.getElem_cons_succ, List.getElem_cons_zero, Act.put, List.setIfInBounds_toArray, List.set_cons_zero, List.set_cons_succ]
          generalize x2.alloc (.cells #[Value.int .u64 0, .int .u64 0, .int .u64 0, .int .u64 0, .int .u64 0, .int .u64 0, .int .u64 0, .int .u64 0] 26) = x40 at *
          refine wpAnyH_ready (rs := [5, 6]) (by kernel_rfl) (by simp) ?_
          refine AllReadyH.cons rfl (fun K hK => ?_) (AllReadyH.cons rfl (fun K hK => ?_) AllReadyH.nil)
          · go_simp
            refine (C2 _ hS39.2).out.mono ?_; rintro e x42 ⟨rfl, hb⟩
            have hS41 := hS39.next hb
            have ZB := Lib.hid (ZB.out.up hb)
            clear hb
            refine hK.out _ _ hS41 (fun hS41 => ?_)
            clear hK K
            try simp only [List.getElem_toArray, List.getElem_cons_succ, List.getElem_cons_zero, Act.put, List.setIfInBounds_toArray, List.set_cons_zero, List.set_cons_succ]
            refine wpAnyH_ready (rs := [6]) (by kernel_rfl) (by simp) ?_
            refine AllReadyH.cons rfl (fun K hK => ?_) AllReadyH.nil
            go_simp
            have LBA := Lib.hid (ZB.out.lt)
            have ZB := Lib.hid (ZB.out.alloc (.cells #[Value.int .u64 0, .int .u64 0, .int .u64 0, .int .u64 0, .int .u64 0, .int .u64 0, .int .u64 0, .int .u64 0] 26))
            have hS43 := hS41.next (alQ_up x42 (.cells #[Value.int .u64 0, .int .u64 0, .int .u64 0, .int .u64 0, .int .u64 0, .int .u64 0, .int .u64 0, .int .u64 0] 26))
            have ZA := Lib.hid (RQ.new x42 26 #[Value.int .u64 0, .int .u64 0, .int .u64 0, .int .u64 0, .int .u64 0, .int .u64 0, .int .u64 0, .int .u64 0])
            refine hK.out _ _ hS43 (fun hS43 => ?_)
            clear hK K
            try simp only [List.getElem_toArray, List.getElem_cons_succ, List.getElem_cons_zero, Act.put, List.setIfInBounds_toArray, List.set_cons_zero, List.set_cons_succ]
            generalize x42.alloc (.cells #[Value.int .u64 0, .int .u64 0, .int .u64 0, .int .u64 0, .int .u64 0, .int .u64 0, .int .u64 0, .int .u64 0] 26) = x44 at *
            refine wpAnyH_ready (rs := [8]) (by kernel_rfl) (by simp) ?_
            refine AllReadyH.cons rfl (fun K hK => ?_) AllReadyH.nil
            have hS45 := hS43.put hS41 (Nat.le_refl _) PX
            have ZBs := Lib.hid (ZB.out.other PX (g := x42.heap.size) (by first | (have := LBA.out; omega) | (have := LAB.out; omega)))
            have ZAs := Lib.hid (ZA.out.row PX)
            refine wp_store_row 26 _ _ rfl (x42.heap.size) PX rfl rfl 26 _ ZA.out ix zx ox ?_
            refine hK.out _ _ hS45 (fun hS45 => ?_)
            clear hK K ZB ZA
            try simp only [List.getElem_toArray, List.getElem_cons_succ, List.getElem_cons_zero, Act.put, List.setIfInBounds_toArray, List.set_cons_zero, List.set_cons_succ]
            generalize x44.setRow (x42.heap.size) PX = x46 at *
            refine wpAnyH_ready (rs := [9]) (by kernel_rfl) (by simp) ?_
            refine AllReadyH.cons rfl (fun K hK => ?_) AllReadyH.nil
            have hS47 := hS45.put hS1 (Nat.le_refl _) PY
            have ZAss := Lib.hid (ZAs.out.other PY (g := x2.heap.size) (by first | (have := LAB.out; omega) | (have := LBA.out; omega)))
            have ZBss := Lib.hid (ZBs.out.row PY)
            refine wp_store_row 26 _ _ rfl (x2.heap.size) PY rfl rfl 26 _ ZBs.out iy zy oy ?_
            refine hK.out _ _ hS47 (fun hS47 => ?_)
            clear hK K ZBs ZAs
            try simp only [List.getElem_toArray, List.getElem_cons_succ, List.getElem_cons_zero, Act.put, List.setIfInBounds_toArray, List.set_cons_zero, List.set_cons_succ]
            generalize x46.setRow (x2.heap.size) PY = x48 at *
            refine wpAnyH_done (by kernel_rfl) ?_ _
            go_wp2_with fail
            go_meet
            exact ⟨x42.heap.size, x2.heap.size, rfl, rfl, (hS47.add ZAss.out).add ZBss.out⟩
          · go_simp
            have LBA := Lib.hid (ZB.out.lt)
            have ZB := Lib.hid (ZB.out.alloc (.cells #[Value.int .u64 0, .int .u64 0, .int .u64 0, .int .u64 0, .int .u64 0, .int .u64 0, .int .u64 0, .int .u64 0] 26))
            have hS49 := hS39.next (alQ_up x40 (.cells #[Value.int .u64 0, .int .u64 0, .int .u64 0, .int .u64 0, .int .u64 0, .int .u64 0, .int .u64 0, .int .u64 0] 26))
            have ZA := Lib.hid (RQ.new x40 26 #[Value.int .u64 0, .int .u64 0, .int .u64 0, .int .u64 0, .int .u64 0, .int .u64 0, .int .u64 0, .int .u64 0])
            refine hK.out _ _ hS49 (fun hS49 => ?_)
            clear hK K
            try simp only [List.getElem_toArray, List.getElem_cons_succ, List.getElem_cons_zero, Act.put, List.setIfInBounds_toArray, List.set_cons_zero, List.set_cons_succ]
            generalize x40.alloc (.cells #[Value.int .u64 0, .int .u64 0, .int .u64 0, .int .u64 0, .int .u64 0, .int .u64 0, .int .u64 0, .int .u64 0] 26) = x50 at *
            refine wpAnyH_ready (rs := [5]) (by kernel_rfl) (by simp) ?_
            refine AllReadyH.cons rfl (fun K hK => ?_) AllReadyH.nil
            go_simp
            refine (C2 _ hS49.2).out.mono ?_; rintro e x52 ⟨rfl, hb⟩
            have hS51 := hS49.next hb
            have ZB := Lib.hid (ZB.out.up hb)
            have ZA := Lib.hid (ZA.out.up hb)
            clear hb
            refine hK.out _ _ hS51 (fun hS51 => ?_)
            clear hK K
            try simp only [List.getElem_toArray, List.getElem_cons_succ, List.getElem_cons_zero, Act.put, List.setIfInBounds_toArray, List.set_cons_zero, List.set_cons_succ]
            refine wpAnyH_ready (rs := [8]) (by kernel_rfl) (by simp) ?_
            refine AllReadyH.cons rfl (fun K hK => ?_) AllReadyH.nil
            have hS53 := hS51.put hS39 (Nat.le_refl _) PX
            have ZBs := Lib.hid (ZB.out.other PX (g := x40.heap.size) (by first | (have := LBA.out; omega) | (have := LAB.out; omega)))
            have ZAs := Lib.hid (ZA.out.row PX)
            refine wp_store_row 26 _ _ rfl (x40.heap.size) PX rfl rfl 26 _ ZA.out ix zx ox ?_
            refine hK.out _ _ hS53 (fun hS53 => ?_)
            clear hK K ZB ZA
            try simp only [List.getElem_toArray, List.getElem_cons_succ, List.getElem_cons_zero, Act.put, List.setIfInBounds_toArray, List.set_cons_zero, List.set_cons_succ]
            generalize x52.setRow (x40.heap.size) PX = x54 at *
            refine wpAnyH_ready (rs := [9]) (by kernel_rfl) (by simp) ?_
            refine AllReadyH.cons rfl (fun K hK => ?_) AllReadyH.nil
            have hS55 := hS53.put hS1 (Nat.le_refl _) PY
            have ZAss := Lib.hid (ZAs.out.other PY (g := x2.heap.size) (by first | (have := LAB.out; omega) | (have := LBA.out; omega)))
            have ZBss := Lib.hid (ZBs.out.row PY)
            refine wp_store_row 26 _ _ rfl (x2.heap.size) PY rfl rfl 26 _ ZBs.out iy zy oy ?_
            refine hK.out _ _ hS55 (fun hS55 => ?_)
            clear hK K ZBs ZAs
            try simp only [List.getElem_toArray, List.getElem_cons_succ, List.getElem_cons_zero, Act.put, List.setIfInBounds_toArray, List.set_cons_zero, List.set_cons_succ]
            generalize x54.setRow (x2.heap.size) PY = x56 at *
            refine wpAnyH_done (by kernel_rfl) ?_ _
            go_wp2_with fail
            go_meet
            exact ⟨x40.heap.size, x2.heap.size, rfl, rfl, (hS55.add ZAss.out).add ZBss.out⟩
      · go_simp
        have hS57 := hS0.next (alQ_up wq (.cells #[Value.int .u64 0, .int .u64 0, .int .u64 0, .int .u64 0, .int .u64 0, .int .u64 0, .int .u64 0, .int .u64 0] 26))
        have ZA := Lib.hid (RQ.new wq 26 #[Value.int .u64 0, .int .u64 0, .int .u64 0, .int .u64 0, .int .u64 0, .int .u64 0, .int .u64 0, .int .u64 0])
        refine hK.out _ _ hS57 (fun hS57 => ?_)
        clear hK K
        try simp only [List.getElem_toArray, List.getElem_cons_succ, List.getElem_cons_zero, Act.put, List.setIfInBounds_toArray, List.set_cons_zero, List.set_cons_succ]
        generalize wq.alloc (.cells #[Value.int .u64 0, .int .u64 0, .int .u64 0, .int .u64 0, .int .u64 0, .int .u64 0, .int .u64 0, .int .u64 0] 26) = x58 at *
        refine wpAnyH_ready (rs := [2, 7]) (by kernel_rfl) (by simp) ?_
        refine AllReadyH.cons rfl (fun K hK => ?_) (AllReadyH.cons rfl (fun K hK => ?_) AllReadyH.nil)
        · go_simp
          refine (C1 _).out.mono ?_; rintro e x60 ⟨rfl, hb⟩
          have hS59 := hS57.next hb
          have ZA := Lib.hid (ZA.out.up hb)
          clear hb
          refine hK.out _ _ hS59 (fun hS59 => ?_)
          clear hK K
          try simp only [List.getElem_toArray, List.getElem_cons_succ, List.getElem_cons_zero, Act.put, List.setIfInBounds_toArray, List.set_cons_zero, List.set_cons_succ]
          refine wpAnyH_ready (rs := [5, 7]) (by kernel_rfl) (by simp) ?_
          refine AllReadyH.cons rfl (fun K hK => ?_) (AllReadyH.cons rfl (fun K hK => ?_) AllReadyH.nil)
          · go_simp
            refine (C2 _ hS59.2).out.mono ?_; rintro e x62 ⟨rfl, hb⟩
            have hS61 := hS59.next hb
            have ZA := Lib.hid (ZA.out.up hb)
            clear hb
            refine hK.out _ _ hS61 (fun hS61 => ?_)
            clear hK K
            try simp only [List.getElem_toArray, List.getElem_cons_succ, List.getElem_cons_zero, Act.put, List.setIfInBounds_toArray, List.set_cons_zero, List.set_cons_succ]
            refine wpAnyH_ready (rs := [7]) (by kernel_rfl) (by simp) ?_
            refine AllReadyH.cons rfl (fun K hK => ?_) AllReadyH.nil
            go_simp
            have LAB := Lib.hid (ZA.out.lt)
            have ZA := Lib.hid (ZA.out.alloc (.cells #[Value.int .u64 0, .int .u64 0, .int .u64 0, .int .u64 0, .int .u64 0, .int .u64 0, .int .u64 0, .int .u64 0] 26))
            have hS63 := hS61.next (alQ_up x62 (.cells #[Value.int .u64 0, .int .u64 0, .int .u64 0, .int .u64 0, .int .u64 0, .int .u64 0, .int .u64 0, .int .u64 0] 26))
            have ZB := Lib.hid (RQ.new x62 26 #[Value.int .u64 0, .int .u64 0, .int .u64 0, .int .u64 0, .int .u64 0, .int .u64 0, .int .u64 0, .int .u64 0])
            refine hK.out _ _ hS63 (fun hS63 => ?_)
            clear hK K
            try simp only [List.getElem_toArray, List.getElem_cons_succ, List.getElem_cons_zero, Act.put, List.setIfInBounds_toArray, List.set_cons_zero, List.set_cons_succ]
            generalize x62.alloc (.cells #[Value.int .u64 0, .int .u64 0, .int .u64 0, .int .u64 0, .int .u64 0, .int .u64 0, .int .u64 0, .int .u64 0] 26) = x64 at *
            refine wpAnyH_ready (rs := [8]) (by kernel_rfl) (by simp) ?_
            refine AllReadyH.cons rfl (fun K hK => ?_) AllReadyH.nil
            have hS65 := hS63.put hS0 (Nat.le_refl _) PX
            have ZBs := Lib.hid (ZB.out.other PX (g := wq.heap.size) (by first | (have := LBA.out; omega) | (have := LAB.out; omega)))
            have ZAs := Lib.hid (ZA.out.row PX)
            refine wp_store_row 26 _ _ rfl (wq.heap.size) PX rfl rfl 26 _ ZA.out ix zx ox ?_
            refine hK.out _ _ hS65 (fun hS65 => ?_)
            clear hK K ZA ZB
            try simp only [List.getElem_toArray, List.getElem_cons_succ, List.getElem_cons_zero, Act.put, List.setIfInBounds_toArray, List.set_cons_zero, List.set_cons_succ]
            generalize x64.setRow (wq.heap.size) PX = x66 at *
            refine wpAnyH_ready (rs := [9]) (by kernel_rfl) (by simp) ?_
            refine AllReadyH.cons rfl (fun K hK => ?_) AllReadyH.nil
            have hS67 := hS65.put hS61 (Nat.le_refl _) PY
            have ZAss := Lib.hid (ZAs.out.other PY (g := x62.heap.size) (by first | (have := LAB.out; omega) | (have := LBA.out; omega)))
            have ZBss := Lib.hid (ZBs.out.row PY)
            refine wp_store_row 26 _ _ rfl (x62.heap.size) PY rfl rfl 26 _ ZBs.out iy zy oy ?_
            refine hK.out _ _ hS67 (fun hS67 => ?_)
            clear hK K ZAs ZBs
            try simp only [List.getElem_toArray, List.getElem_cons_succ, List.getElem_cons_zero, Act.put, List.setIfInBounds_toArray, List.set_cons_zero, List.set_cons_succ]
            generalize x66.setRow (x62.heap.size) PY = x68 at *
            refine wpAnyH_done (by kernel_rfl) ?_ _
            go_wp2_with fail
            go_meet
            exact ⟨wq.heap.size, x62.heap.size, rfl, rfl, (hS67.add ZAss.out).add ZBss.out⟩
          · go_simp
            have LAB := Lib.hid (ZA.out.lt)
            have ZA := Lib.hid (ZA.out.alloc (.cells #[Value.int .u64 0, .int .u64 0, .int .u64 0, .int .u64 0, .int .u64 0, .int .u64 0, .int .u64 0, .int .u64 0] 26))
            have hS69 := hS59.next (alQ_up x60 (.cells #[Value.int .u64 0, .int .u64 0, .int .u64 0, .int .u64 0, .int .u64 0, .int .u64 0, .int .u64 0, .int .u64 0] 26))
            have ZB := Lib.hid (RQ.new x60 26 #[Value.int .u64 0, .int .u64 0, .int .u64 0, .int .u64 0, .int .u64 0, .int .u64 0, .int .u64 0, .int .u64 0])
            refine hK.out _ _ hS69 (fun hS69 => ?_)
            clear hK K
            try simp only [List.getElem_toArray, List.getElem_cons_succ, List.getElem_cons_zero, Act.put, List.setIfInBounds_toArray, List.set_cons_zero, List.set_cons_succ]
            generalize x60.alloc (.cells #[Value.int .u64 0, .int .u64 0, .int .u64 0, .int .u64 0, .int .u64 0, .int .u64 0, .int .u64 0, .int .u64 0] 26) = x70 at *
            refine wpAnyH_ready (rs := [5]) (by kernel_rfl) (by simp) ?_
            refine AllReadyH.cons rfl (fun K hK => ?_) AllReadyH.nil
            go_simp
            refine (C2 _ hS69.2).out.mono ?_; rintro e x72 ⟨rfl, hb⟩
            have hS71 := hS69.next hb
            have ZA := Lib.hid (ZA.out.up hb)
            have ZB := Lib.hid (ZB.out.up hb)
            clear hb
            refine hK.out _ _ hS71 (fun hS71 => ?_)
            clear hK K
            try simp only [List.getElem_toArray, List.getElem_cons_succ, List.getElem_cons_zero, Act.put, List.setIfInBounds_toArray, List.set_cons_zero, List.set_cons_succ]
            refine wpAnyH_ready (rs := [8]) (by kernel_rfl) (by simp) ?_
            refine AllReadyH.cons rfl (fun K hK => ?_) AllReadyH.nil
            have hS73 := hS71.put hS0 (Nat.le_refl _) PX
            have ZBs := Lib.hid (ZB.out.other PX (g := wq.heap.size) (by first | (have := LBA.out; omega) | (have := LAB.out; omega)))
            have ZAs := Lib.hid (ZA.out.row PX)
            refine wp_store_row 26 _ _ rfl (wq.heap.size) PX rfl rfl 26 _ ZA.out ix zx ox ?_
            refine hK.out _ _ hS73 (fun hS73 => ?_)
            clear hK K ZA ZB
            try simp only [List.getElem_toArray, List.getElem_cons_succ, List.getElem_cons_zero, Act.put, List.setIfInBounds_toArray, List.set_cons_zero, List.set_cons_succ]
            generalize x72.setRow (wq.heap.size) PX = x74 at *
            refine wpAnyH_ready (rs := [9]) (by kernel_rfl) (by simp) ?_
            refine AllReadyH.cons rfl (fun K hK => ?_) AllReadyH.nil
            have hS75 := hS73.put hS59 (Nat.le_refl _) PY
            have ZAss := Lib.hid (ZAs.out.other PY (g := x60.heap.size) (by first | (have := LAB.out; omega) | (have := LBA.out; omega)))
            have ZBss := Lib.hid (ZBs.out.row PY)
            refine wp_store_row 26 _ _ rfl (x60.heap.size) PY rfl rfl 26 _ ZBs.out iy zy oy ?_
            refine hK.out _ _ hS75 (fun hS75 => ?_)
            clear hK K ZAs ZBs
            try simp only [List.getElem_toArray, List.getElem_cons_succ, List.getElem_cons_zero, Act.put, List.setIfInBounds_toArray, List.set_cons_zero, List.set_cons_succ]
            generalize x74.setRow (x60.heap.size) PY = x76 at *
            refine wpAnyH_done (by kernel_rfl) ?_ _
            go_wp2_with fail
            go_meet
            exact ⟨wq.heap.size, x60.heap.size, rfl, rfl, (hS75.add ZAss.out).add ZBss.out⟩
        · go_simp
          have LAB := Lib.hid (ZA.out.lt)
          have ZA := Lib.hid (ZA.out.alloc (.cells #[Value.int .u64 0, .int .u64 0, .int .u64 0, .int .u64 0, .int .u64 0, .int .u64 0, .int .u64 0, .int .u64 0] 26))
          have hS77 := hS57.next (alQ_up x58 (.cells #[Value.int .u64 0, .int .u64 0, .int .u64 0, .int .u64 0, .int .u64 0, .int .u64 0, .int .u64 0, .int .u64 0] 26))
          have ZB := Lib.hid (RQ.new x58 26 #[Value.int .u64 0, .int .u64 0, .int .u64 0, .int .u64 0, .int .u64 0, .int .u64 0, .int .u64 0, .int .u64 0])
          refine hK.out _ _ hS77 (fun hS77 => ?_)
          clear hK K
          try simp only [List.getElem_toArray, List.getElem_cons_succ, List.getElem_cons_zero, Act.put, List.setIfInBounds_toArray, List.set_cons_zero, List.set_cons_succ]
          generalize x58.alloc (.cells #[Value.int .u64 0, .int .u64 0, .int .u64 0, .int .u64 0, .int .u64 0, .int .u64 0, .int .u64 0, .int .u64 0] 26) = x78 at *
          refine wpAnyH_ready (rs := [2]) (by kernel_rfl) (by simp) ?_
          refine AllReadyH.cons rfl (fun K hK => ?_) AllReadyH.nil
          go_simp
          refine (C1 _).out.mono ?_; rintro e x80 ⟨rfl, hb⟩
          have hS79 := hS77.next hb
          have ZA := Lib.hid (ZA.out.up hb)
          have ZB := Lib.hid (ZB.out.up hb)
          clear hb
          refine hK.out _ _ hS79 (fun hS79 => ?_)
          clear hK K
          try simp only [List.getElem_toArray, List.getElem_cons_succ, List.getElem_cons_zero, Act.put, List.setIfInBounds_toArray, List.set_cons_zero, List.set_cons_succ]
          refine wpAnyH_ready (rs := [5]) (by kernel_rfl) (by simp) ?_
          refine AllReadyH.cons rfl (fun K hK => ?_) AllReadyH.nil
          go_simp
          refine (C2 _ hS79.2).out.mono ?_; rintro e x82 ⟨rfl, hb⟩
          have hS81 := hS79.next hb
          have ZA := Lib.hid (ZA.out.up hb)
          have ZB := Lib.hid (ZB.out.up hb)
          clear hb
          refine hK.out _ _ hS81 (fun hS81 => ?_)
          clear hK K
          try simp only [List.getElem_toArray, List.getElem_cons_succ, List.getElem_cons_zero, Act.put, List.setIfInBounds_toArray, List.set_cons_zero, List.set_cons_succ]
          refine wpAnyH_ready (rs := [8]) (by kernel_rfl) (by simp) ?_
          refine AllReadyH.cons rfl (fun K hK => ?_) AllReadyH.nil
          have hS83 := hS81.put hS0 (Nat.le_refl _) PX
          have ZBs := Lib.hid (ZB.out.other PX (g := wq.heap.size) (by first | (have := LBA.out; omega) | (have := LAB.out; omega)))
          have ZAs := Lib.hid (ZA.out.row PX)
          refine wp_store_row 26 _ _ rfl (wq.heap.size) PX rfl rfl 26 _ ZA.out ix zx ox ?_
          refine hK.out _ _ hS83 (fun hS83 => ?_)
          clear hK K ZA ZB
          try simp only [List.getElem_toArray, List.getElem_cons_succ, List.getElem_cons_zero, Act.put, List.setIfInBounds_toArray, List.set_cons_zero, List.set_cons_succ]
          generalize x82.setRow (wq.heap.size) PX = x84 at *
          refine wpAnyH_ready (rs := [9]) (by kernel_rfl) (by simp) ?_
          refine AllReadyH.cons rfl (fun K hK => ?_) AllReadyH.nil
          have hS85 := hS83.put hS57 (Nat.le_refl _) PY
          have ZAss := Lib.hid (ZAs.out.other PY (g := x58.heap.size) (by first | (have := LAB.out; omega) | (have := LBA.out; omega)))
          have ZBss := Lib.hid (ZBs.out.row PY)
          refine wp_store_row 26 _ _ rfl (x58.heap.size) PY rfl rfl 26 _ ZBs.out iy zy oy ?_
          refine hK.out _ _ hS85 (fun hS85 => ?_)
          clear hK K ZAs ZBs
          try simp only [List.getElem_toArray, List.getElem_cons_succ, List.getElem_cons_zero, Act.put, List.setIfInBounds_toArray, List.set_cons_zero, List.set_cons_succ]
          generalize x84.setRow (x58.heap.size) PY = x86 at *
          refine wpAnyH_done (by kernel_rfl) ?_ _
          go_wp2_with fail
          go_meet
          exact ⟨wq.heap.size, x58.heap.size, rfl, rfl, (hS85.add ZAss.out).add ZBss.out⟩
      · go_simp
        have hS87 := hS0.next (alQ_up wq (.cells #[Value.int .u64 0, .int .u64 0, .int .u64 0, .int .u64 0, .int .u64 0, .int .u64 0, .int .u64 0, .int .u64 0] 26))
        have ZB := Lib.hid (RQ.new wq 26 #[Value.int .u64 0, .int .u64 0, .int .u64 0, .int .u64 0, .int .u64 0, .int .u64 0, .int .u64 0, .int .u64 0])
        refine hK.out _ _ hS87 (fun hS87 => ?_)
        clear hK K
        try simp only [List.getElem_toArray, List.getElem_cons_succ, List.getElem_cons_zero, Act.put, List.setIfInBounds_toArray, List.set_cons_zero, List.set_cons_succ]
        generalize wq.alloc (.cells #[Value.int .u64 0, .int .u64 0, .int .u64 0, .int .u64 0, .int .u64 0, .int .u64 0, .int .u64 0, .int .u64 0] 26) = x88 at *
        refine wpAnyH_ready (rs := [2, 6]) (by kernel_rfl) (by simp) ?_
        refine AllReadyH.cons rfl (fun K hK => ?_) (AllReadyH.cons rfl (fun K hK => ?_) AllReadyH.nil)
        · go_simp
          refine (C1 _).out.mono ?_; rintro e x90 ⟨rfl, hb⟩
          have hS89 := hS87.next hb
          have ZB := Lib.hid (ZB.out.up hb)
          clear hb
          refine hK.out _ _ hS89 (fun hS89 => ?_)
          clear hK K
          try simp only [List.getElem_toArray, List.getElem_cons_succ, List.getElem_cons_zero, Act.put, List.setIfInBounds_toArray, List.set_cons_zero, List.set_cons_succ]
          refine wpAnyH_ready (rs := [5, 6]) (by kernel_rfl) (by simp) ?_
          refine AllReadyH.cons rfl (fun K hK => ?_) (AllReadyH.cons rfl (fun K hK => ?_) AllReadyH.nil)
          · go_simp
            refine (C2 _ hS89.2).out.mono ?_; rintro e x92 ⟨rfl, hb⟩
            have hS91 := hS89.next hb
            have ZB := Lib.hid (ZB.out.up hb)
            clear hb
            refine hK.out _ _ hS91 (fun hS91 => ?_)
            clear hK K
            try simp only [List.getElem_toArray, List.getElem_cons_succ, List.getElem_cons_zero, Act.put, List.setIfInBounds_toArray, List.set_cons_zero, List.set_cons_succ]
            refine wpAnyH_ready (rs := [6]) (by kernel_rfl) (by simp) ?_
            refine AllReadyH.cons rfl (fun K hK => ?_) AllReadyH.nil
            go_simp
            have LBA := Lib.hid (ZB.out.lt)
            have ZB := Lib.hid (ZB.out.alloc (.cells #[Value.int .u64 0, .int .u64 0, .int .u64 0, .int .u64 0, .int .u64 0, .int .u64 0, .int .u64 0, .int .u64 0] 26))
            have hS93 := hS91.next (alQ_up x92 (.cells #[Value.int .u64 0, .int .u64 0, .int .u64 0, .int .u64 0, .int .u64 0, .int .u64 0, .int .u64 0, .int .u64 0] 26))
            have ZA := Lib.hid (RQ.new x92 26 #[Value.int .u64 0, .int .u64 0, .int .u64 0, .int .u64 0, .int .u64 0, .int .u64 0, .int .u64 0, .int .u64 0])
            refine hK.out _ _ hS93 (fun hS93 => ?_)
            clear hK K
            try simp only [List.getElem_toArray, List.getElem_cons_succ, List.getElem_cons_zero, Act.put, List.setIfInBounds_toArray, List.set_cons_zero, List.set_cons_succ]
            generalize x92.alloc (.cells #[Value.int .u64 0, .int .u64 0, .int .u64 0, .int .u64 0, .int .u64 0, .int .u64 0, .int .u64 0, .int .u64 0] 26) = x94 at *
            refine wpAnyH_ready (rs := [8]) (by kernel_rfl) (by simp) ?_
            refine AllReadyH.cons rfl (fun K hK => ?_) AllReadyH.nil
            have hS95 := hS93.put hS91 (Nat.le_refl _) PX
            have ZBs := Lib.hid (ZB.out.other PX (g := x92.heap.size) (by first | (have := LBA.out; omega) | (have := LAB.out; omega)))
            have ZAs := Lib.hid (ZA.out.row PX)
            refine wp_store_row 26 _ _ rfl (x92.heap.size) PX rfl rfl 26 _ ZA.out ix zx ox ?_
            refine hK.out _ _ hS95 (fun hS95 => ?_)
            clear hK K ZB ZA
            try simp only [List.getElem_toArray, List.getElem_cons_succ, List.getElem_cons_zero, Act.put, List.setIfInBounds_toArray, List.set_cons_zero, List.set_cons_succ]
            generalize x94.setRow (x92.heap.size) PX = x96 at *
            refine wpAnyH_ready (rs := [9]) (by kernel_rfl) (by simp) ?_
            refine AllReadyH.cons rfl (fun K hK => ?_) AllReadyH.nil
            have hS97 := hS95.put hS0 (Nat.le_refl _) PY
            have ZAss := Lib.hid (ZAs.out.other PY (g := wq.heap.size) (by first | (have := LAB.out; omega) | (have := LBA.out; omega)))
            have ZBss := Lib.hid (ZBs.out.row PY)
            refine wp_store_row 26 _ _ rfl (wq.heap.size) PY rfl rfl 26 _ ZBs.out iy zy oy ?_
            refine hK.out _ _ hS97 (fun hS97 => ?_)
            clear hK K ZBs ZAs
            try simp only [List.getElem_toArray, List.getElem_cons_succ, List.getElem_cons_zero, Act.put, List.setIfInBounds_toArray, List.set_cons_zero, List.set_cons_succ]
            generalize x96.setRow (wq.heap.size) PY = x98 at *
            refine wpAnyH_done (by kernel_rfl) ?_ _
            go_wp2_with fail
            go_meet
            exact ⟨x92.heap.size, wq.heap.size, rfl, rfl, (hS97.add ZAss.out).add ZBss.out⟩
          · go_simp
            have LBA := Lib.hid (ZB.out.lt)
            have ZB := Lib.hid (ZB.out.alloc (.cells #[Value.int .u64 0, .int .u64 0, .int .u64 0, .int .u64 0, .int .u64 0, .int .u64 0, .int .u64 0, .int .u64 0] 26))
            have hS99 := hS89.next (alQ_up x90 (.cells #[Value.int .u64 0, .int .u64 0, .int .u64 0, .int .u64 0, .int .u64 0, .int .u64 0, .int .u64 0, .int .u64 0] 26))
            have ZA := Lib.hid (RQ.new x90 26 #[Value.int .u64 0, .int .u64 0, .int .u64 0, .int .u64 0, .int .u64 0, .int .u64 0, .int .u64 0, .int .u64 0])
            refine hK.out _ _ hS99 (fun hS99 => ?_)
            clear hK K
            try simp only [List.getElem_toArray, List.getElem_cons_succ, List.getElem_cons_zero, Act.put, List.setIfInBounds_toArray, List.set_cons_zero, List.set_cons_succ]
            generalize x90.alloc (.cells #[Value.int .u64 0, .int .u64 0, .int .u64 0, .int .u64 0, .int .u64 0, .int .u64 0, .int .u64 0, .int .u64 0] 26) = x100 at *
            refine wpAnyH_ready (rs := [5]) (by kernel_rfl) (by simp) ?_
            refine AllReadyH.cons rfl (fun K hK => ?_) AllReadyH.nil
            go_simp
            refine (C2 _ hS99.2).out.mono ?_; rintro e x102 ⟨rfl, hb⟩
            have hS101 := hS99.next hb
            have ZB := Lib.hid (ZB.out.up hb)
            have ZA := Lib.hid (ZA.out.up hb)
            clear hb
            refine hK.out _ _ hS101 (fun hS101 => ?_)
            clear hK K
            try simp only [List.getElem_toArray, List.getElem_cons_succ, List.getElem_cons_zero, Act.put, List.setIfInBounds_toArray, List.set_cons_zero, List.set_cons_succ]
            refine wpAnyH_ready (rs := [8]) (by kernel_rfl) (by simp) ?_
            refine AllReadyH.cons rfl (fun K hK => ?_) AllReadyH.nil
            have hS103 := hS101.put hS89 (Nat.le_refl _) PX
            have ZBs := Lib.hid (ZB.out.other PX (g := x90.heap.size) (by first | (have := LBA.out; omega) | (have := LAB.out; omega)))
            have ZAs := Lib.hid (ZA.out.row PX)
            refine wp_store_row 26 _ _ rfl (x90.heap.size) PX rfl rfl 26 _ ZA.out ix zx ox ?_
            refine hK.out _ _ hS103 (fun hS103 => ?_)
            clear hK K ZB ZA
            try simp only [List.getElem_toArray, List.getElem_cons_succ, List.getElem_cons_zero, Act.put, List.setIfInBounds_toArray, List.set_cons_zero, List.set_cons_succ]
            generalize x102.setRow (x90.heap.size) PX = x104 at *
            refine wpAnyH_ready (rs := [9]) (by kernel_rfl) (by simp) ?_
            refine AllReadyH.cons rfl (fun K hK => ?_) AllReadyH.nil
            have hS105 := hS103.put hS0 (Nat.le_refl _) PY
            have ZAss := Lib.hid (ZAs.out.other PY (g := wq.heap.size) (by first | (have := LAB.out; omega) | (have := LBA.out; omega)))
            have ZBss := Lib.hid (ZBs.out.row PY)
            refine wp_store_row 26 _ _ rfl (wq.heap.size) PY rfl rfl 26 _ ZBs.out iy zy oy ?_
            refine hK.out _ _ hS105 (fun hS105 => ?_)
            clear hK K ZBs ZAs
            try simp only [List.getElem_toArray, List.getElem_cons_succ, List.getElem_cons_zero, Act.put, List.setIfInBounds_toArray, List.set_cons_zero, List.set_cons_succ]
            generalize x104.setRow (wq.heap.size) PY = x106 at *
            refine wpAnyH_done (by kernel_rfl) ?_ _
            go_wp2_with fail
            go_meet
            exact ⟨x90.heap.size, wq.heap.size, rfl, rfl, (hS105.add ZAss.out).add ZBss.out⟩
        · go_simp
          have LBA := Lib.hid (ZB.out.lt)
          have ZB := Lib.hid (ZB.out.alloc (.cells #[Value.int .u64 0, .int .u64 0, .int .u64 0, .int .u64 0, .int .u64 0, .int .u64 0, .int .u64 0, .int .u64 0] 26))
          have hS107 := hS87.next (alQ_up x88 (.cells #[Value.int .u64 0, .int .u64 0, .int .u64 0, .int .u64 0, .int .u64 0, .int .u64 0, .int .u64 0, .int .u64 0] 26))
          have ZA := Lib.hid (RQ.new x88 26 #[Value.int .u64 0, .int .u64 0, .int .u64 0, .int .u64 0, .int .u64 0, .int .u64 0, .int .u64 0, .int .u64 0])
          refine hK.out _ _ hS107 (fun hS107 => ?_)
          clear hK K
          try simp only [List.getElem_toArray, List.getElem_cons_succ, List.getElem_cons_zero, Act.put, List.setIfInBounds_toArray, List.set_cons_zero, List.set_cons_succ]
          generalize x88.alloc (.cells #[Value.int .u64 0, .int .u64 0, .int .u64 0, .int .u64 0, .int .u64 0, .int .u64 0, .int .u64 0, .int .u64 0] 26) = x108 at *
          refine wpAnyH_ready (rs := [2]) (by kernel_rfl) (by simp) ?_
          refine AllReadyH.cons rfl (fun K hK => ?_) AllReadyH.nil
          go_simp
          refine (C1 _).out.mono ?_; rintro e x110 ⟨rfl, hb⟩
          have hS109 := hS107.next hb
          have ZB := Lib.hid (ZB.out.up hb)
          have ZA := Lib.hid (ZA.out.up hb)
          clear hb
          refine hK.out _ _ hS109 (fun hS109 => ?_)
          clear hK K
          try simp only [List.getElem_toArray, List.getElem_cons_succ, List.getElem_cons_zero, Act.put, List.setIfInBounds_toArray, List.set_cons_zero, List.set_cons_succ]
          refine wpAnyH_ready (rs := [5]) (by kernel_rfl) (by simp) ?_
          refine AllReadyH.cons rfl (fun K hK => ?_) AllReadyH.nil
          go_simp
          refine (C2 _ hS109.2).out.mono ?_; rintro e x112 ⟨rfl, hb⟩
          have hS111 := hS109.next hb
          have ZB := Lib.hid (ZB.out.up hb)
          have ZA := Lib.hid (ZA.out.up hb)
          clear hb
          refine hK.out _ _ hS111 (fun hS111 => ?_)
          clear hK K
          try simp only [List.getElem_toArray, List.getElem_cons_succ, List.getElem_cons_zero, Act.put, List.setIfInBounds_toArray, List.set_cons_zero, List.set_cons_succ]
          refine wpAnyH_ready (rs := [8]) (by kernel_rfl) (by simp) ?_
          refine AllReadyH.cons rfl (fun K hK => ?_) AllReadyH.nil
          have hS113 := hS111.put hS87 (Nat.le_refl _) PX
          have ZBs := Lib.hid (ZB.out.other PX (g := x88.heap.size) (by first | (have := LBA.out; omega) | (have := LAB.out; omega)))
          have ZAs := Lib.hid (ZA.out.row PX)
          refine wp_store_row 26 _ _ rfl (x88.heap.size) PX rfl rfl 26 _ ZA.out ix zx ox ?_
          refine hK.out _ _ hS113 (fun hS113 => ?_)
          clear hK K ZB ZA
          try simp only [List.getElem_toArray, List.getElem_cons_succ, List.getElem_cons_zero, Act.put, List.setIfInBounds_toArray, List.set_cons_zero, List.set_cons_succ]
          generalize x112.setRow (x88.heap.size) PX = x114 at *
          refine wpAnyH_ready (rs := [9]) (by kernel_rfl) (by simp) ?_
          refine AllReadyH.cons rfl (fun K hK => ?_) AllReadyH.nil
          have hS115 := hS113.put hS0 (Nat.le_refl _) PY
          have ZAss := Lib.hid (ZAs.out.other PY (g := wq.heap.size) (by first | (have := LAB.out; omega) | (have := LBA.out; omega)))
          have ZBss := Lib.hid (ZBs.out.row PY)
          refine wp_store_row 26 _ _ rfl (wq.heap.size) PY rfl rfl 26 _ ZBs.out iy zy oy ?_
          refine hK.out _ _ hS115 (fun hS115 => ?_)
          clear hK K ZBs ZAs
          try simp only [List.getElem_toArray, List.getElem_cons_succ, List.getElem_cons_zero, Act.put, List.setIfInBounds_toArray, List.set_cons_zero, List.set_cons_succ]
          generalize x114.setRow (wq.heap.size) PY = x116 at *
          refine wpAnyH_done (by kernel_rfl) ?_ _
          go_wp2_with fail
          go_meet
          exact ⟨x88.heap.size, wq.heap.size, rfl, rfl, (hS115.add ZAss.out).add ZBss.out⟩
    case rest =>
      obtain ⟨g7, g8, rfl, rfl, hR⟩ := hcut
      have hS0 := hR.drew
      clear HO C1 C2 hR
      go_wp2
      refine wp_region_held_drew (S := Hold w ((g8, 26, PY) :: (g7, 26, PX) :: (g5, 26, PM) :: [(g3, 26, PS)])) (by kernel_rfl) hS0 (fun hS0 => ?_)
      generalize wc.drew = wq at *
      refine wpAnyH_take (i := 0) (v := .agg PX) rfl (by kernel_rfl) (by kernel_rfl) (by kernel_rfl) (fun _ _ _ h => h) (Or.inl ⟨by kernel_rfl, fun V hV => exec_load_row 26 _ rfl g7 rfl 26 PX _ (hV.1 (g7, 26, PX) (by simp)) Tryd.underlying26 rfl ix⟩) (by assumption) ?_
      try simp only [List.getElem_toArray, List.getElem_cons_succ, List.getElem_cons_zero, Act.put, List.setIfInBounds_toArray, List.set_cons_zero, List.set_cons_succ]
      refine wpAnyH_take (i := 1) (v := .agg PS) rfl (by kernel_rfl) (by kernel_rfl) (by kernel_rfl) (fun _ _ _ h => h) (Or.inl ⟨by kernel_rfl, fun V hV => exec_load_row 26 _ rfl g3 rfl 26 PS _ (hV.1 (g3, 26, PS) (by simp)) Tryd.underlying26 rfl is⟩) (by assumption) ?_
      try simp only [List.getElem_toArray, List.getElem_cons_succ, List.getElem_cons_zero, Act.put, List.setIfInBounds_toArray, List.set_cons_zero, List.set_cons_succ]
      refine wpAnyH_take (i := 2) (v := ?_) rfl (by kernel_rfl) (by kernel_rfl) (by kernel_rfl) (fun _ _ _ h => h) (Or.inl ⟨by kernel_rfl, ?_⟩) (by assumption) ?_
      rotate_left
      · intro w hSw
        go_simp
        first | done | with_reducible rfl
      try simp only [List.getElem_toArray, List.getElem_cons_succ, List.getElem_cons_zero, Act.put, List.setIfInBounds_toArray, List.set_cons_zero, List.set_cons_succ]
      refine wpAnyH_ready (rs := [3]) (by kernel_rfl) (by simp) ?_
      refine AllReadyH.cons rfl (fun K hK => ?_) AllReadyH.nil
      go_simp
      refine (D1 _).out.mono ?_; rintro e x2 ⟨rfl, hb⟩
      have hS1 := hS0.next hb
      clear hb
      refine hK.out _ _ hS1 (fun hS1 => ?_)
      clear hK K
      try simp only [List.getElem_toArray, List.getElem_cons_succ, List.getElem_cons_zero, Act.put, List.setIfInBounds_toArray, List.set_cons_zero, List.set_cons_succ]
      refine wpAnyH_take (i := 4) (v := .bool false) rfl (by kernel_rfl) (by kernel_rfl) (by kernel_rfl) (fun _ _ _ h => h) (Or.inl ⟨by kernel_rfl, fun V hV => exec_neqP QX V _ _ rfl rfl rfl⟩) (by assumption) ?_
      try simp only [List.getElem_toArray, List.getElem_cons_succ, List.getElem_cons_zero, Act.put, List.setIfInBounds_toArray, List.set_cons_zero, List.set_cons_succ]
      refine wpAnyH_take (i := 5) (v := ?_) rfl (by kernel_rfl) (by kernel_rfl) (by kernel_rfl) (fun _ _ _ h => h) (Or.inl ⟨by kernel_rfl, ?_⟩) (by assumption) ?_
      rotate_left
      · intro w hSw
        go_simp
        first | done | with_reducible rfl
      try simp only [List.getElem_toArray, List.getElem_cons_succ, List.getElem_cons_zero, Act.put, List.setIfInBounds_toArray, List.set_cons_zero, List.set_cons_succ]
      refine wpAnyH_take (i := 6) (v := .agg PY) rfl (by kernel_rfl) (by kernel_rfl) (by kernel_rfl) (fun _ _ _ h => h) (Or.inl ⟨by kernel_rfl, fun V hV => exec_load_row 26 _ rfl g8 rfl 26 PY _ (hV.1 (g8, 26, PY) (by simp)) Tryd.underlying26 rfl iy⟩) (by assumption) ?_
      try simp only [List.getElem_toArray, List.getElem_cons_succ, List.getElem_cons_zero, Act.put, List.setIfInBounds_toArray, List.set_cons_zero, List.set_cons_succ]
      refine wpAnyH_take (i := 7) (v := .agg PM) rfl (by kernel_rfl) (by kernel_rfl) (by kernel_rfl) (fun _ _ _ h => h) (Or.inl ⟨by kernel_rfl, fun V hV => exec_load_row 26 _ rfl g5 rfl 26 PM _ (hV.1 (g5, 26, PM) (by simp)) Tryd.underlying26 rfl im⟩) (by assumption) ?_
      try simp only [List.getElem_toArray, List.getElem_cons_succ, List.getElem_cons_zero, Act.put, List.setIfInBounds_toArray, List.set_cons_zero, List.set_cons_succ]
      refine wpAnyH_take (i := 8) (v := ?_) rfl (by kernel_rfl) (by kernel_rfl) (by kernel_rfl) (fun _ _ _ h => h) (Or.inl ⟨by kernel_rfl, ?_⟩) (by assumption) ?_
      rotate_left
      · intro w hSw
        go_simp
        first | done | with_reducible rfl
      try simp only [List.getElem_toArray, List.getElem_cons_succ, List.getElem_cons_zero, Act.put, List.setIfInBounds_toArray, List.set_cons_zero, List.set_cons_succ]
      refine wpAnyH_ready (rs := [9]) (by kernel_rfl) (by simp) ?_
      refine AllReadyH.cons rfl (fun K hK => ?_) AllReadyH.nil
      go_simp
      refine (D2 _).out.mono ?_; rintro e x4 ⟨rfl, hb⟩
      have hS3 := hS1.next hb
      clear hb
      refine hK.out _ _ hS3 (fun hS3 => ?_)
      clear hK K
      try simp only [List.getElem_toArray, List.getElem_cons_succ, List.getElem_cons_zero, Act.put, List.setIfInBounds_toArray, List.set_cons_zero, List.set_cons_succ]
      refine wpAnyH_take (i := 10) (v := .bool false) rfl (by kernel_rfl) (by kernel_rfl) (by kernel_rfl) (fun _ _ _ h => h) (Or.inl ⟨by kernel_rfl, fun V hV => exec_neqP QY V _ _ rfl rfl rfl⟩) (by assumption) ?_
      try simp only [List.getElem_toArray, List.getElem_cons_succ, List.getElem_cons_zero, Act.put, List.setIfInBounds_toArray, List.set_cons_zero, List.set_cons_succ]
      refine wpAnyH_take (i := 11) (v := ?_) rfl (by kernel_rfl) (by kernel_rfl) (by kernel_rfl) (fun _ _ _ h => h) (Or.inl ⟨by kernel_rfl, ?_⟩) (by assumption) ?_
      rotate_left
      · intro w hSw
        go_simp
        first | done | with_reducible rfl
      try simp only [List.getElem_toArray, List.getElem_cons_succ, List.getElem_cons_zero, Act.put, List.setIfInBounds_toArray, List.set_cons_zero, List.set_cons_succ]
      refine wpAnyH_done (by kernel_rfl) ?_ _
      have HK := Lib.hid hS3
      clear hS0
      go_wp2_with fail
      have hS1 := HK.out.drew
      clear HK
      refine wp_region_held_drew (S := Hold w ((g8, 26, PY) :: (g7, 26, PX) :: (g5, 26, PM) :: [(g3, 26, PS)])) (by kernel_rfl) hS1 (fun hS1 => ?_)
      generalize World.drew _ = wz at *
      refine wpAnyH_take (i := 0) (v := .agg PX) rfl (by kernel_rfl) (by kernel_rfl) (by kernel_rfl) (fun _ _ _ h => h) (Or.inl ⟨by kernel_rfl, fun V hV => exec_load_row 26 _ rfl g7 rfl 26 PX _ (hV.1 (g7, 26, PX) (by simp)) Tryd.underlying26 rfl ix⟩) (by assumption) ?_
      try simp only [List.getElem_toArray, List.getElem_cons_succ, List.getElem_cons_zero, Act.put, List.setIfInBounds_toArray, List.set_cons_zero, List.set_cons_succ]
      refine wpAnyH_take (i := 1) (v := ?_) rfl (by kernel_rfl) (by kernel_rfl) (by kernel_rfl) (fun _ _ _ h => h) (Or.inl ⟨by kernel_rfl, ?_⟩) (by assumption) ?_
      rotate_left
      · intro w hSw
        go_simp
        first | done | with_reducible rfl
      try simp only [List.getElem_toArray, List.getElem_cons_succ, List.getElem_cons_zero, Act.put, List.setIfInBounds_toArray, List.set_cons_zero, List.set_cons_succ]
      refine wpAnyH_take (i := 2) (v := ?_) rfl (by kernel_rfl) (by kernel_rfl) (by kernel_rfl) (fun _ _ _ h => h) (Or.inl ⟨by kernel_rfl, ?_⟩) (by assumption) ?_
      rotate_left
      · intro w hSw
        go_simp
        first | done | with_reducible rfl
      try simp only [List.getElem_toArray, List.getElem_cons_succ, List.getElem_cons_zero, Act.put, List.setIfInBounds_toArray, List.set_cons_zero, List.set_cons_succ]
      refine wpAnyH_take (i := 4) (v := .agg PS) rfl (by kernel_rfl) (by kernel_rfl) (by kernel_rfl) (fun _ _ _ h => h) (Or.inl ⟨by kernel_rfl, fun V hV => exec_load_row 26 _ rfl g3 rfl 26 PS _ (hV.1 (g3, 26, PS) (by simp)) Tryd.underlying26 rfl is⟩) (by assumption) ?_
      try simp only [List.getElem_toArray, List.getElem_cons_succ, List.getElem_cons_zero, Act.put, List.setIfInBounds_toArray, List.set_cons_zero, List.set_cons_succ]
      refine wpAnyH_ready (rs := [3]) (by kernel_rfl) (by simp) ?_
      refine AllReadyH.cons rfl (fun K hK => ?_) AllReadyH.nil
      go_simp
      refine (F1 _).out.mono ?_; rintro e x2 ⟨rfl, hb⟩
      have hS1 := hS1.next hb
      clear hb
      refine hK.out _ _ hS1 (fun hS1 => ?_)
      clear hK K
      try simp only [List.getElem_toArray, List.getElem_cons_succ, List.getElem_cons_zero, Act.put, List.setIfInBounds_toArray, List.set_cons_zero, List.set_cons_succ]
      refine wpAnyH_take (i := 5) (v := .bool true) rfl (by kernel_rfl) (by kernel_rfl) (by kernel_rfl) (fun _ _ _ h => h) (Or.inl ⟨by kernel_rfl, fun V hV => exec_eqlP QS V _ _ rfl rfl rfl⟩) (by assumption) ?_
      try simp only [List.getElem_toArray, List.getElem_cons_succ, List.getElem_cons_zero, Act.put, List.setIfInBounds_toArray, List.set_cons_zero, List.set_cons_succ]
      refine wpAnyH_take (i := 6) (v := ?_) rfl (by kernel_rfl) (by kernel_rfl) (by kernel_rfl) (fun _ _ _ h => h) (Or.inl ⟨by kernel_rfl, ?_⟩) (by assumption) ?_
      rotate_left
      · intro w hSw
        go_simp
        first | done | with_reducible rfl
      try simp only [List.getElem_toArray, List.getElem_cons_succ, List.getElem_cons_zero, Act.put, List.setIfInBounds_toArray, List.set_cons_zero, List.set_cons_succ]
      refine wpAnyH_take (i := 7) (v := .agg PY) rfl (by kernel_rfl) (by kernel_rfl) (by kernel_rfl) (fun _ _ _ h => h) (Or.inl ⟨by kernel_rfl, fun V hV => exec_load_row 26 _ rfl g8 rfl 26 PY _ (hV.1 (g8, 26, PY) (by simp)) Tryd.underlying26 rfl iy⟩) (by assumption) ?_
      try simp only [List.getElem_toArray, List.getElem_cons_succ, List.getElem_cons_zero, Act.put, List.setIfInBounds_toArray, List.set_cons_zero, List.set_cons_succ]
      refine wpAnyH_take (i := 8) (v := ?_) rfl (by kernel_rfl) (by kernel_rfl) (by kernel_rfl) (fun _ _ _ h => h) (Or.inl ⟨by kernel_rfl, ?_⟩) (by assumption) ?_
      rotate_left
      · intro w hSw
        go_simp
        first | done | with_reducible rfl
      try simp only [List.getElem_toArray, List.getElem_cons_succ, List.getElem_cons_zero, Act.put, List.setIfInBounds_toArray, List.set_cons_zero, List.set_cons_succ]
      refine wpAnyH_take (i := 9) (v := ?_) rfl (by kernel_rfl) (by kernel_rfl) (by kernel_rfl) (fun _ _ _ h => h) (Or.inl ⟨by kernel_rfl, ?_⟩) (by assumption) ?_
      rotate_left
      · intro w hSw
        go_simp
        first | done | with_reducible rfl
      try simp only [List.getElem_toArray, List.getElem_cons_succ, List.getElem_cons_zero, Act.put, List.setIfInBounds_toArray, List.set_cons_zero, List.set_cons_succ]
      refine wpAnyH_take (i := 11) (v := .agg PM) rfl (by kernel_rfl) (by kernel_rfl) (by kernel_rfl) (fun _ _ _ h => h) (Or.inl ⟨by kernel_rfl, fun V hV => exec_load_row 26 _ rfl g5 rfl 26 PM _ (hV.1 (g5, 26, PM) (by simp)) Tryd.underlying26 rfl im⟩) (by assumption) ?_
      try simp only [List.getElem_toArray, List.getElem_cons_succ, List.getElem_cons_zero, Act.put, List.setIfInBounds_toArray, List.set_cons_zero, List.set_cons_succ]
      refine wpAnyH_ready (rs := [10]) (by kernel_rfl) (by simp) ?_
      refine AllReadyH.cons rfl (fun K hK => ?_) AllReadyH.nil
      go_simp
      refine (F2 _ hS1.2).out.mono ?_; rintro e x4 ⟨rfl, hb⟩
      have hS3 := hS1.next hb
      clear hb
      refine hK.out _ _ hS3 (fun hS3 => ?_)
      clear hK K
      try simp only [List.getElem_toArray, List.getElem_cons_succ, List.getElem_cons_zero, Act.put, List.setIfInBounds_toArray, List.set_cons_zero, List.set_cons_succ]
      refine wpAnyH_take (i := 12) (v := .bool true) rfl (by kernel_rfl) (by kernel_rfl) (by kernel_rfl) (fun _ _ _ h => h) (Or.inl ⟨by kernel_rfl, fun V hV => exec_eqlP QM V _ _ rfl rfl rfl⟩) (by assumption) ?_
      try simp only [List.getElem_toArray, List.getElem_cons_succ, List.getElem_cons_zero, Act.put, List.setIfInBounds_toArray, List.set_cons_zero, List.set_cons_succ]
      refine wpAnyH_take (i := 13) (v := ?_) rfl (by kernel_rfl) (by kernel_rfl) (by kernel_rfl) (fun _ _ _ h => h) (Or.inl ⟨by kernel_rfl, ?_⟩) (by assumption) ?_
      rotate_left
      · intro w hSw
        go_simp
        first | done | with_reducible rfl
      try simp only [List.getElem_toArray, List.getElem_cons_succ, List.getElem_cons_zero, Act.put, List.setIfInBounds_toArray, List.set_cons_zero, List.set_cons_succ]
      refine wpAnyH_take (i := 14) (v := ?_) rfl (by kernel_rfl) (by kernel_rfl) (by kernel_rfl) (fun _ _ _ h => h) (Or.inl ⟨by kernel_rfl, ?_⟩) (by assumption) ?_
      rotate_left
      · intro w hSw
        go_simp
        first | done | with_reducible rfl
      try simp only [List.getElem_toArray, List.getElem_cons_succ, List.getElem_cons_zero, Act.put, List.setIfInBounds_toArray, List.set_cons_zero, List.set_cons_succ]
      refine wpAnyH_take (i := 15) (v := .agg PS) rfl (by kernel_rfl) (by kernel_rfl) (by kernel_rfl) (fun _ _ _ h => h) (Or.inl ⟨by kernel_rfl, fun V hV => exec_load_row 26 _ rfl g3 rfl 26 PS _ (hV.1 (g3, 26, PS) (by simp)) Tryd.underlying26 rfl is⟩) (by assumption) ?_
      try simp only [List.getElem_toArray, List.getElem_cons_succ, List.getElem_cons_zero, Act.put, List.setIfInBounds_toArray, List.set_cons_zero, List.set_cons_succ]
      refine wpAnyH_take (i := 16) (v := .agg PM) rfl (by kernel_rfl) (by kernel_rfl) (by kernel_rfl) (fun _ _ _ h => h) (Or.inl ⟨by kernel_rfl, fun V hV => exec_load_row 26 _ rfl g5 rfl 26 PM _ (hV.1 (g5, 26, PM) (by simp)) Tryd.underlying26 rfl im⟩) (by assumption) ?_
      try simp only [List.getElem_toArray, List.getElem_cons_succ, List.getElem_cons_zero, Act.put, List.setIfInBounds_toArray, List.set_cons_zero, List.set_cons_succ]
      refine wpAnyH_take (i := 18) (v := ?_) rfl (by kernel_rfl) (by kernel_rfl) (by kernel_rfl) (fun _ _ _ h => h) (Or.inl ⟨by kernel_rfl, ?_⟩) (by assumption) ?_
      rotate_left
      · intro w hSw
        go_simp
        first | done | with_reducible rfl
      try simp only [List.getElem_toArray, List.getElem_cons_succ, List.getElem_cons_zero, Act.put, List.setIfInBounds_toArray, List.set_cons_zero, List.set_cons_succ]
      refine wpAnyH_take (i := 20) (v := .agg PS) rfl (by kernel_rfl) (by kernel_rfl) (by kernel_rfl) (fun _ _ _ h => h) (Or.inl ⟨by kernel_rfl, fun V hV => exec_load_row 26 _ rfl g3 rfl 26 PS _ (hV.1 (g3, 26, PS) (by simp)) Tryd.underlying26 rfl is⟩) (by assumption) ?_
      try simp only [List.getElem_toArray, List.getElem_cons_succ, List.getElem_cons_zero, Act.put, List.setIfInBounds_toArray, List.set_cons_zero, List.set_cons_succ]
      refine wpAnyH_take (i := 21) (v := ?_) rfl (by kernel_rfl) (by kernel_rfl) (by kernel_rfl) (fun _ _ _ h => h) (Or.inl ⟨by kernel_rfl, ?_⟩) (by assumption) ?_
      rotate_left
      · intro w hSw
        go_simp
        first | done | with_reducible rfl
      try simp only [List.getElem_toArray, List.getElem_cons_succ, List.getElem_cons_zero, Act.put, List.setIfInBounds_toArray, List.set_cons_zero, List.set_cons_succ]
      refine wpAnyH_take (i := 23) (v := .agg PY) rfl (by kernel_rfl) (by kernel_rfl) (by kernel_rfl) (fun _ _ _ h => h) (Or.inl ⟨by kernel_rfl, fun V hV => exec_load_row 26 _ rfl g8 rfl 26 PY _ (hV.1 (g8, 26, PY) (by simp)) Tryd.underlying26 rfl iy⟩) (by assumption) ?_
      try simp only [List.getElem_toArray, List.getElem_cons_succ, List.getElem_cons_zero, Act.put, List.setIfInBounds_toArray, List.set_cons_zero, List.set_cons_succ]
      refine wpAnyH_ready (rs := [17]) (by kernel_rfl) (by simp) ?_
      refine AllReadyH.cons rfl (fun K hK => ?_) AllReadyH.nil
      go_simp
      refine (F3 _).out.mono ?_; rintro e x6 ⟨rfl, hb⟩
      have hS5 := hS3.next hb
      clear hb
      refine hK.out _ _ hS5 (fun hS5 => ?_)
      clear hK K
      try simp only [List.getElem_toArray, List.getElem_cons_succ, List.getElem_cons_zero, Act.put, List.setIfInBounds_toArray, List.set_cons_zero, List.set_cons_succ]
      refine wpAnyH_ready (rs := [19]) (by kernel_rfl) (by simp) ?_
      refine AllReadyH.cons rfl (fun K hK => ?_) AllReadyH.nil
      go_simp
      refine (F4 _ hS5.2).out.mono ?_; rintro e x8 ⟨rfl, hb⟩
      have hS7 := hS5.next hb
      clear hb
      refine hK.out _ _ hS7 (fun hS7 => ?_)
      clear hK K
      try simp only [List.getElem_toArray, List.getElem_cons_succ, List.getElem_cons_zero, Act.put, List.setIfInBounds_toArray, List.set_cons_zero, List.set_cons_succ]
      refine wpAnyH_ready (rs := [22]) (by kernel_rfl) (by simp) ?_
      refine AllReadyH.cons rfl (fun K hK => ?_) AllReadyH.nil
      go_simp
      refine (F5 _ hS7.2).out.mono ?_; rintro e x10 ⟨rfl, hb⟩
      have hS9 := hS7.next hb
      clear hb
      refine hK.out _ _ hS9 (fun hS9 => ?_)
      clear hK K
      try simp only [List.getElem_toArray, List.getElem_cons_succ, List.getElem_cons_zero, Act.put, List.setIfInBounds_toArray, List.set_cons_zero, List.set_cons_succ]
      refine wpAnyH_ready (rs := [24]) (by kernel_rfl) (by simp) ?_
      refine AllReadyH.cons rfl (fun K hK => ?_) AllReadyH.nil
      go_simp
      refine (F6 _).out.mono ?_; rintro e x12 ⟨rfl, hb⟩
      have hS11 := hS9.next hb
      clear hb
      refine hK.out _ _ hS11 (fun hS11 => ?_)
      clear hK K
      try simp only [List.getElem_toArray, List.getElem_cons_succ, List.getElem_cons_zero, Act.put, List.setIfInBounds_toArray, List.set_cons_zero, List.set_cons_succ]
      refine wpAnyH_take (i := 25) (v := .bool true) rfl (by kernel_rfl) (by kernel_rfl) (by kernel_rfl) (fun _ _ _ h => h) (Or.inl ⟨by kernel_rfl, fun V hV => exec_eqlP QC V _ _ rfl rfl rfl⟩) (by assumption) ?_
      try simp only [List.getElem_toArray, List.getElem_cons_succ, List.getElem_cons_zero, Act.put, List.setIfInBounds_toArray, List.set_cons_zero, List.set_cons_succ]
      refine wpAnyH_take (i := 26) (v := ?_) rfl (by kernel_rfl) (by kernel_rfl) (by kernel_rfl) (fun _ _ _ h => h) (Or.inl ⟨by kernel_rfl, ?_⟩) (by assumption) ?_
      rotate_left
      · intro w hSw
        go_simp
        first | done | with_reducible rfl
      try simp only [List.getElem_toArray, List.getElem_cons_succ, List.getElem_cons_zero, Act.put, List.setIfInBounds_toArray, List.set_cons_zero, List.set_cons_succ]
      refine wpAnyH_take (i := 27) (v := ?_) rfl (by kernel_rfl) (by kernel_rfl) (by kernel_rfl) (fun _ _ _ h => h) (Or.inl ⟨by kernel_rfl, ?_⟩) (by assumption) ?_
      rotate_left
      · intro w hSw
        go_simp
        first | done | with_reducible rfl
      try simp only [List.getElem_toArray, List.getElem_cons_succ, List.getElem_cons_zero, Act.put, List.setIfInBounds_toArray, List.set_cons_zero, List.set_cons_succ]
      refine wpAnyH_take (i := 28) (v := .agg PS) rfl (by kernel_rfl) (by kernel_rfl) (by kernel_rfl) (fun _ _ _ h => h) (Or.inl ⟨by kernel_rfl, fun V hV => exec_load_row 26 _ rfl g3 rfl 26 PS _ (hV.1 (g3, 26, PS) (by simp)) Tryd.underlying26 rfl is⟩) (by assumption) ?_
      try simp only [List.getElem_toArray, List.getElem_cons_succ, List.getElem_cons_zero, Act.put, List.setIfInBounds_toArray, List.set_cons_zero, List.set_cons_succ]
      refine wpAnyH_take (i := 29) (v := .agg PM) rfl (by kernel_rfl) (by kernel_rfl) (by kernel_rfl) (fun _ _ _ h => h) (Or.inl ⟨by kernel_rfl, fun V hV => exec_load_row 26 _ rfl g5 rfl 26 PM _ (hV.1 (g5, 26, PM) (by simp)) Tryd.underlying26 rfl im⟩) (by assumption) ?_
      try simp only [List.getElem_toArray, List.getElem_cons_succ, List.getElem_cons_zero, Act.put, List.setIfInBounds_toArray, List.set_cons_zero, List.set_cons_succ]
      refine wpAnyH_take (i := 31) (v := ?_) rfl (by kernel_rfl) (by kernel_rfl) (by kernel_rfl) (fun _ _ _ h => h) (Or.inl ⟨by kernel_rfl, ?_⟩) (by assumption) ?_
      rotate_left
      · intro w hSw
        go_simp
        first | done | with_reducible rfl
      try simp only [List.getElem_toArray, List.getElem_cons_succ, List.getElem_cons_zero, Act.put, List.setIfInBounds_toArray, List.set_cons_zero, List.set_cons_succ]
      refine wpAnyH_take (i := 33) (v := .agg PX) rfl (by kernel_rfl) (by kernel_rfl) (by kernel_rfl) (fun _ _ _ h => h) (Or.inl ⟨by kernel_rfl, fun V hV => exec_load_row 26 _ rfl g7 rfl 26 PX _ (hV.1 (g7, 26, PX) (by simp)) Tryd.underlying26 rfl ix⟩) (by assumption) ?_
      try simp only [List.getElem_toArray, List.getElem_cons_succ, List.getElem_cons_zero, Act.put, List.setIfInBounds_toArray, List.set_cons_zero, List.set_cons_succ]
      refine wpAnyH_take (i := 34) (v := .agg PM) rfl (by kernel_rfl) (by kernel_rfl) (by kernel_rfl) (fun _ _ _ h => h) (Or.inl ⟨by kernel_rfl, fun V hV => exec_load_row 26 _ rfl g5 rfl 26 PM _ (hV.1 (g5, 26, PM) (by simp)) Tryd.underlying26 rfl im⟩) (by assumption) ?_
      try simp only [List.getElem_toArray, List.getElem_cons_succ, List.getElem_cons_zero, Act.put, List.setIfInBounds_toArray, List.set_cons_zero, List.set_cons_succ]
      refine wpAnyH_take (i := 35) (v := ?_) rfl (by kernel_rfl) (by kernel_rfl) (by kernel_rfl) (fun _ _ _ h => h) (Or.inl ⟨by kernel_rfl, ?_⟩) (by assumption) ?_
      rotate_left
      · intro w hSw
        go_simp
        first | done | with_reducible rfl
      try simp only [List.getElem_toArray, List.getElem_cons_succ, List.getElem_cons_zero, Act.put, List.setIfInBounds_toArray, List.set_cons_zero, List.set_cons_succ]
      refine wpAnyH_ready (rs := [30]) (by kernel_rfl) (by simp) ?_
      refine AllReadyH.cons rfl (fun K hK => ?_) AllReadyH.nil
      go_simp
      refine (F3 _).out.mono ?_; rintro e x14 ⟨rfl, hb⟩
      have hS13 := hS11.next hb
      clear hb
      refine hK.out _ _ hS13 (fun hS13 => ?_)
      clear hK K
      try simp only [List.getElem_toArray, List.getElem_cons_succ, List.getElem_cons_zero, Act.put, List.setIfInBounds_toArray, List.set_cons_zero, List.set_cons_succ]
      refine wpAnyH_ready (rs := [32]) (by kernel_rfl) (by simp) ?_
      refine AllReadyH.cons rfl (fun K hK => ?_) AllReadyH.nil
      go_simp
      refine (F7 _).out.mono ?_; rintro e x16 ⟨rfl, hb⟩
      have hS15 := hS13.next hb
      clear hb
      refine hK.out _ _ hS15 (fun hS15 => ?_)
      clear hK K
      try simp only [List.getElem_toArray, List.getElem_cons_succ, List.getElem_cons_zero, Act.put, List.setIfInBounds_toArray, List.set_cons_zero, List.set_cons_succ]
      refine wpAnyH_ready (rs := [36]) (by kernel_rfl) (by simp) ?_
      refine AllReadyH.cons rfl (fun K hK => ?_) AllReadyH.nil
      go_simp
      refine (F8 _).out.mono ?_; rintro e x18 ⟨rfl, hb⟩
      have hS17 := hS15.next hb
      clear hb
      refine hK.out _ _ hS17 (fun hS17 => ?_)
      clear hK K
      try simp only [List.getElem_toArray, List.getElem_cons_succ, List.getElem_cons_zero, Act.put, List.setIfInBounds_toArray, List.set_cons_zero, List.set_cons_succ]
      refine wpAnyH_ready (rs := [37]) (by kernel_rfl) (by simp) ?_
      refine AllReadyH.cons rfl (fun K hK => ?_) AllReadyH.nil
      go_simp
      refine (F9 _).out.mono ?_; rintro e x20 ⟨rfl, hb⟩
      have hS19 := hS17.next hb
      clear hb
      refine hK.out _ _ hS19 (fun hS19 => ?_)
      clear hK K
      try simp only [List.getElem_toArray, List.getElem_cons_succ, List.getElem_cons_zero, Act.put, List.setIfInBounds_toArray, List.set_cons_zero, List.set_cons_succ]
      refine wpAnyH_take (i := 38) (v := .bool true) rfl (by kernel_rfl) (by kernel_rfl) (by kernel_rfl) (fun _ _ _ h => h) (Or.inl ⟨by kernel_rfl, fun V hV => exec_eqlP QR V _ _ rfl rfl rfl⟩) (by assumption) ?_
      try simp only [List.getElem_toArray, List.getElem_cons_succ, List.getElem_cons_zero, Act.put, List.setIfInBounds_toArray, List.set_cons_zero, List.set_cons_succ]
      refine wpAnyH_take (i := 39) (v := ?_) rfl (by kernel_rfl) (by kernel_rfl) (by kernel_rfl) (fun _ _ _ h => h) (Or.inl ⟨by kernel_rfl, ?_⟩) (by assumption) ?_
      rotate_left
      · intro w hSw
        go_simp
        first | done | with_reducible rfl
      try simp only [List.getElem_toArray, List.getElem_cons_succ, List.getElem_cons_zero, Act.put, List.setIfInBounds_toArray, List.set_cons_zero, List.set_cons_succ]
      refine wpAnyH_ready (rs := [40]) (by kernel_rfl) (by simp) ?_
      refine AllReadyH.cons rfl (fun K hK => ?_) AllReadyH.nil
      go_simp
      refine hK.out _ _ hS19 (fun _ => ?_)
      clear hK K
      try simp only [List.getElem_toArray, List.getElem_cons_succ, List.getElem_cons_zero, Act.put, List.setIfInBounds_toArray, List.set_cons_zero, List.set_cons_succ]
      refine wpAnyH_done (by kernel_rfl) ?_ _
      have BF := Lib.hid hS19.2
      clear hS1
      go_wp2
      go_ret
      exact ⟨rfl, BF.out⟩
  · go_enter Tryd.func3, Tryd.ntmps3
    go_wp2_with fail
    refine (big_great _ _ _ _ (by omega) hlen).mono ?_; rintro e w' ⟨rfl, rfl⟩
    go_wp2
    go_ret
    exact ⟨rfl, Below.refl _ _⟩
end Go.Proofs.YtbbjcgnoialidaaDoor
