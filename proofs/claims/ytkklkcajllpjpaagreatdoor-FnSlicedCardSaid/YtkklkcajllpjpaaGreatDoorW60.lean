/-
  The walk of laws.FnSliced: it returns true at every code.
-/
import Derived.Test.YtkklkcajllpjpaaGreatDoorDr10
import Derived.Test.YtkklkcajllpjpaaGreatDoorTabLaid
set_option linter.unusedVariables false
set_option linter.unusedSimpArgs false
namespace Go.Proofs.YtkklkcajllpjpaaGreatDoor
open Go Go.RowKit
attribute [local go_sem ↓] Go.wp_at_zero Go.wp_at_succ

theorem facts_FnSliced {W : World} (h : laidMetH Tryz.prog Rows.fnSlicedRow.laid W) : Fac4 W 0 mxF ∧ Fac4 W 1 unF := by
  have h' : laidMet Tryz.prog [("loop.example/g00835/impl.unmixFactors", Lib.tabData .u8 [14, 9, 13, 11]), ("loop.example/g00835/impl.mixFactors", Lib.tabData .u8 [2, 1, 1, 3])] W := h
  exact ⟨Mx8_laid (laid_tail8 h'), Un8_laid h'⟩
set_option maxRecDepth 100000 in
set_option maxHeartbeats 6400000 in
theorem walk_FnSliced (a0 : Option Addr) (len0 cap0 : Nat) (z0 : List Int) (w : World) (w0 : IsRow .u8 w a0 len0 cap0 z0) (hf : Fac4 w 0 mxF ∧ Fac4 w 1 unF) :
    Calls Tryz.prog 4 #[.slice a0 len0 cap0] w fun e w' => e = .returned (.bool true) ∧ Below w.heap.size w w' := by
  obtain ⟨hcode, hlen⟩ := w0.code
  clear w0
  by_cases hl : len0 ≤ 1048576
  · have H := Lib.hid hcode
    have HM : Hid (∀ W, Below w.heap.size w W → Fac4 W 0 mxF) := Lib.hid (fun W hW => hf.1.below hW hf.1.1)
    have HU : Hid (∀ W, Below w.heap.size w W → Fac4 W 1 unF) := Lib.hid (fun W hW => hf.2.below hW hf.2.1)
    clear hcode hf
    go_enter Tryz.func4, Tryz.ntmps4
    go_wp2_with fail
    refine (big_small _ _ _ _ hl).mono ?_; rintro e w' ⟨rfl, rfl⟩
    go_wp2_with fail
    refine (draw_LockSliced _ _ _ _ H.out hl).mono ?_; rintro e w1 ⟨k, s, rfl, hks, hss, hb1⟩
    have HC := Lib.hid ((H.out.below hb1 (Nat.le_refl _)).up hb1.size)
    go_wp2_with fail
    refine (draw_UnlockSliced _ _ _ _ HC.out hl).mono ?_; rintro e w3 ⟨k2, t, rfl, hks2, hts, hb3⟩
    have hbb := hb1.trans (hb3.mono hb1.size)
    clear hb1 hb3 HC
    have c1 := fun W hW => Lib.hid (LockSliced_impl k s (by omega) W (HM.out W hW))
    have c2 := fun W hW => Lib.hid (UnlockSliced_impl k2 t (by omega) W (HM.out W hW) (HU.out W hW))
    have c3 := fun W => Lib.hid (LockSliced_spec10 k s (by omega) W)
    have c4 := fun W => Lib.hid (UnlockSliced_spec10 k2 t (by omega) W)
    have c5 := fun W => Lib.hid (KeyOk_spec k W)
    obtain ⟨x, hx⟩ : ∃ x, slT false k s = x := ⟨_, rfl⟩
    obtain ⟨y, hy⟩ : ∃ y, slT true k2 t = y := ⟨_, rfl⟩
    rw [hx] at c1 c3
    rw [hy] at c2 c4
    have HX := Lib.hid hx
    have HSS := Lib.hid hss
    clear hx hy hks hks2 hts hss
    go_wp2_with fail
    refine (c1 _ hbb).out.mono ?_; rintro e wq ⟨rfl, hq⟩
    replace hbb := hbb.trans (hq.mono hbb.size)
    clear hq
    go_wp2_with fail
    refine (c2 _ hbb).out.mono ?_; rintro e wq ⟨rfl, hq⟩
    replace hbb := hbb.trans (hq.mono hbb.size)
    clear hq
    go_wp2_with fail
    refine (c3 _).out.mono ?_; rintro e wq ⟨rfl, hq⟩
    replace hbb := hbb.trans (hq.mono hbb.size)
    clear hq
    go_wp2_with fail
    refine (c4 _).out.mono ?_; rintro e wq ⟨rfl, hq⟩
    replace hbb := hbb.trans (hq.mono hbb.size)
    clear hq c1 c2 c3 c4
    by_cases hk : kOk k
    · rw [decide_eq_true hk] at c5
      go_wp2_with fail
      refine (c5 _).out.mono ?_; rintro e wq ⟨rfl, rfl⟩
      clear c5
      have hr := rem16 s
      by_cases h16 : s.size % 16 = 0
      · obtain ⟨m, hm⟩ : ∃ m, s.size = 16 * m := ⟨s.size / 16, by omega⟩
        have hr2 : ((s.size % 16 : Nat) : Int) = 0 := by omega
        rw [hr2] at hr
        have hxz : x.size = s.size := by rw [← HX.out]; exact slT_size false k s hk h16
        have CL := fun j W hW => Lib.hid (Lock_impl k (blk (byteOf s) j) W (HM.out W hW))
        have HSX : Hid (∀ j, j < m → ∀ W, (Instr.slice 9 (.string x) (some (.int .i64 (16 * (j : Int)))) (some (.int .i64 (16 * (j : Int) + 16))) none).run Tryz.prog W = .ok (.string (lockT k (blk (byteOf s) j))) W) := Lib.hid fun j hj W => by
          have h := slice_16 x j (by omega) (by have := HSS.out; omega) W
          rw [h]
          have e1 := slT_blk false k s hk h16 j (by omega)
          rw [HX.out] at e1
          rw [e1]; rfl
        have HSS2 : Hid (∀ j, j < m → ∀ W, (Instr.slice 9 (.string s) (some (.int .i64 (16 * (j : Int)))) (some (.int .i64 (16 * (j : Int) + 16))) none).run Tryz.prog W = .ok (.string (blk (byteOf s) j)) W) := Lib.hid fun j hj W => slice_16 s j (by omega) (by have := HSS.out; omega) W
        have c6 := fun W hW => Lib.hid (UnlockSliced_impl k x (by have := HSS.out; omega) W (HM.out W hW) (HU.out W hW))
        have e6 : slT true k x = s := by rw [← HX.out]; exact slT_inv false k s hk h16
        rw [e6] at c6
        have hls : ((s.size : Nat) : Int) = 16 * (m : Int) := by omega
        have HMM : Hid (m ≤ 100) := Lib.hid (by have := HSS.out; omega)
        have HB := Lib.hid hbb
        rw [hls] at hr
        clear hk h16 hm hr2 hxz hbb e6 HX HSS
        go_wp2
        go_loopw [9] (fun i wr => ∃ j : Nat, j ≤ m ∧ i = .int .i64 (16 * (j : Int)) ∧ Below w.heap.size w wr) (fun i _ => 16 * m - (intOf i).toNat)
        case atStart => exact ⟨0, by omega, rfl, HB.out⟩
        case round =>
          obtain ⟨j, hj, rfl, hbel⟩ := hrel
          by_cases hlt : j < m
          · have hj1 : 16 * (j : Int) < 16 * (m : Int) := by omega
            have hj0 : (0 : Int) ≤ (j : Int) := by omega
            have q1 : IntKind.i64.wrap (16 * (j : Int) + 16) = 16 * (j : Int) + 16 := IntWalk.i64_in _ (by have := HMM.out; omega)
            have h1 := HSX.out j hlt
            have h2 := HSS2.out j hlt
            have CLJ := CL j
            have HB0 : Hid (Below w.heap.size w wr.drew) := Lib.hid hbel.drew
            generalize lockT k (blk (byteOf s) j) = D at *
            generalize blk (byteOf s) j = E at *
            clear hbel CL HSX HSS2 c6 hr HB
            go_wp2
            refine wp_region_held_drew (S := fun _ => True) (by kernel_rfl) trivial (fun hS => ?_)
            refine wpAnyH_take (i := 0) (v := ?_) rfl (by kernel_rfl) (by kernel_rfl) (by kernel_rfl) (fun _ _ _ h => h) (Or.inl ⟨by kernel_rfl, ?_⟩) trivial ?_
            rotate_left
            · intro V hSw
              go_simp
              first | done | with_reducible rfl
            try simp only [List.getElem_toArray, List.getElem_cons_succ, List.getElem_cons_zero, Act.put, List.setIfInBounds_toArray, List.set_cons_zero, List.set_cons_succ]
            refine wpAnyH_take (i := 1) (v := ?_) rfl (by kernel_rfl) (by kernel_rfl) (by kernel_rfl) (fun _ _ _ h => h) (Or.inl ⟨by kernel_rfl, ?_⟩) trivial ?_
            rotate_left
            · intro V hSw
              go_simp
              first | done | with_reducible rfl
            try simp only [List.getElem_toArray, List.getElem_cons_succ, List.getElem_cons_zero, Act.put, List.setIfInBounds_toArray, List.set_cons_zero, List.set_cons_succ]
            refine wpAnyH_take (i := 2) (v := ?_) rfl (by kernel_rfl) (by kernel_rfl) (by kernel_rfl) (fun _ _ _ h => h) (Or.inl ⟨by kernel_rfl, ?_⟩) trivial ?_
            rotate_left
            · intro V hSw
              go_simp
              first | done | with_reducible rfl
            try simp only [List.getElem_toArray, List.getElem_cons_succ, List.getElem_cons_zero, Act.put, List.setIfInBounds_toArray, List.set_cons_zero, List.set_cons_succ]
            refine wpAnyH_take (i := 3) (v := ?_) rfl (by kernel_rfl) (by kernel_rfl) (by kernel_rfl) (fun _ _ _ h => h) (Or.inl ⟨by kernel_rfl, ?_⟩) trivial ?_
            rotate_left
            · intro V hSw
              go_simp
              first | done | with_reducible rfl
            try simp only [List.getElem_toArray, List.getElem_cons_succ, List.getElem_cons_zero, Act.put, List.setIfInBounds_toArray, List.set_cons_zero, List.set_cons_succ]
            refine wpAnyH_take (i := 4) (v := ?_) rfl (by kernel_rfl) (by kernel_rfl) (by kernel_rfl) (fun _ _ _ h => h) (Or.inl ⟨by kernel_rfl, ?_⟩) trivial ?_
            rotate_left
            · intro V hSw
              go_simp
              first | done | with_reducible rfl
            try simp only [List.getElem_toArray, List.getElem_cons_succ, List.getElem_cons_zero, Act.put, List.setIfInBounds_toArray, List.set_cons_zero, List.set_cons_succ]
            refine wpAnyH_take (i := 5) (v := ?_) rfl (by kernel_rfl) (by kernel_rfl) (by kernel_rfl) (fun _ _ _ h => h) (Or.inl ⟨by kernel_rfl, ?_⟩) trivial ?_
            rotate_left
            · intro V hSw
              go_simp
              first | done | with_reducible rfl
            try simp only [List.getElem_toArray, List.getElem_cons_succ, List.getElem_cons_zero, Act.put, List.setIfInBounds_toArray, List.set_cons_zero, List.set_cons_succ]
            refine wpAnyH_take (i := 6) (v := ?_) rfl (by kernel_rfl) (by kernel_rfl) (by kernel_rfl) (fun _ _ _ h => h) (Or.inl ⟨by kernel_rfl, ?_⟩) trivial ?_
            rotate_left
            · intro V hSw
              go_simp
              first | done | with_reducible rfl
            try simp only [List.getElem_toArray, List.getElem_cons_succ, List.getElem_cons_zero, Act.put, List.setIfInBounds_toArray, List.set_cons_zero, List.set_cons_succ]
            refine wpAnyH_take (i := 7) (v := ?_) rfl (by kernel_rfl) (by kernel_rfl) (by kernel_rfl) (fun _ _ _ h => h) (Or.inl ⟨by kernel_rfl, ?_⟩) trivial ?_
            rotate_left
            · intro V hSw
              go_simp
              first | done | with_reducible rfl
            try simp only [List.getElem_toArray, List.getElem_cons_succ, List.getElem_cons_zero, Act.put, List.setIfInBounds_toArray, List.set_cons_zero, List.set_cons_succ]
            refine wpAnyH_take (i := 8) (v := ?_) rfl (by kernel_rfl) (by kernel_rfl) (by kernel_rfl) (fun _ _ _ h => h) (Or.inl ⟨by kernel_rfl, ?_⟩) trivial ?_
            rotate_left
            · intro V hSw
              go_simp
              first | done | with_reducible rfl
            try simp only [List.getElem_toArray, List.getElem_cons_succ, List.getElem_cons_zero, Act.put, List.setIfInBounds_toArray, List.set_cons_zero, List.set_cons_succ]
            refine wpAnyH_take (i := 9) (v := ?_) rfl (by kernel_rfl) (by kernel_rfl) (by kernel_rfl) (fun _ _ _ h => h) (Or.inl ⟨by kernel_rfl, ?_⟩) trivial ?_
            rotate_left
            · intro V hSw
              go_simp
              first | done | with_reducible rfl
            try simp only [List.getElem_toArray, List.getElem_cons_succ, List.getElem_cons_zero, Act.put, List.setIfInBounds_toArray, List.set_cons_zero, List.set_cons_succ]
            refine wpAnyH_take (i := 10) (v := ?_) rfl (by kernel_rfl) (by kernel_rfl) (by kernel_rfl) (fun _ _ _ h => h) (Or.inl ⟨by kernel_rfl, ?_⟩) trivial ?_
            rotate_left
            · intro V hSw
              go_simp
              first | done | with_reducible rfl
            try simp only [List.getElem_toArray, List.getElem_cons_succ, List.getElem_cons_zero, Act.put, List.setIfInBounds_toArray, List.set_cons_zero, List.set_cons_succ]
            refine wpAnyH_ready (rs := [11]) (by kernel_rfl) (by simp) ?_
            refine AllReadyH.cons rfl (fun K hK => ?_) AllReadyH.nil
            go_simp
            refine (CLJ _ HB0.out).out.mono ?_; rintro e x1 ⟨rfl, hb⟩
            have HB1 := Lib.hid (HB0.out.trans (hb.mono HB0.out.size))
            clear hb
            refine hK.out _ _ trivial (fun _ => ?_)
            clear hK K
            try simp only [List.getElem_toArray, List.getElem_cons_succ, List.getElem_cons_zero, Act.put, List.setIfInBounds_toArray, List.set_cons_zero, List.set_cons_succ]
            refine wpAnyH_take (i := 12) (v := ?_) rfl (by kernel_rfl) (by kernel_rfl) (by kernel_rfl) (fun _ _ _ h => h) (Or.inl ⟨by kernel_rfl, ?_⟩) trivial ?_
            rotate_left
            · intro V hSw
              go_simp
              first | done | with_reducible rfl
            try simp only [List.getElem_toArray, List.getElem_cons_succ, List.getElem_cons_zero, Act.put, List.setIfInBounds_toArray, List.set_cons_zero, List.set_cons_succ]
            refine wpAnyH_done (by kernel_rfl) ?_ _
            clear hS
            go_wp2
            go_roundw
            case rel => exact ⟨j + 1, by omega, by go_num, HB1.out⟩
            case measure => simp [intOf]; omega
          · obtain rfl : j = m := by omega
            have C6 := c6 wr hbel
            have HBE := Lib.hid hbel
            clear hbel CL HSX HSS2 c6 hr HB
            go_wp2_with fail
            refine C6.out.mono ?_; rintro e wq ⟨rfl, hq⟩
            have HBQ := Lib.hid (HBE.out.trans (hq.mono HBE.out.size))
            clear hq C6 HBE
            go_wp2
            go_ret
            exact ⟨rfl, HBQ.out⟩
      · have hr2 : ¬ ((s.size % 16 : Nat) : Int) = 0 := by omega
        have hx0 : x = ⟨#[]⟩ := by rw [← HX.out]; exact slT_no false k s (fun h => h16 h.2)
        subst hx0
        generalize ((s.size % 16 : Nat) : Int) = r at *
        clear hk h16 HX HSS
        go_wp2
        go_ret
        exact ⟨rfl, hbb⟩
    · rw [decide_eq_false hk] at c5
      have hx0 : x = ⟨#[]⟩ := by rw [← HX.out]; exact slT_no false k s (fun h => hk h.1)
      subst hx0
      go_wp2_with fail
      refine (c5 _).out.mono ?_; rintro e wq ⟨rfl, rfl⟩
      clear c5 hk HX HSS
      go_wp2
      go_ret
      exact ⟨rfl, hbb⟩
  · go_enter Tryz.func4, Tryz.ntmps4
    go_wp2_with fail
    refine (big_great _ _ _ _ (by omega) hlen).mono ?_; rintro e w' ⟨rfl, rfl⟩
    go_wp2
    go_ret
    exact ⟨rfl, Below.refl _ _⟩
end Go.Proofs.YtkklkcajllpjpaaGreatDoor
