/-
  Walks of the exact laws of sums and products of planes.
-/
import Derived.Test.YtbbjcgnoialidaaW50
import Derived.Test.YtbbjcgnoialidaaHold
import Derived.Deep.CutRange
set_option linter.unusedVariables false
set_option linter.unusedSimpArgs false
namespace Go.Proofs.Ytbbjcgnoialidaa
open Go Go.RowKit

set_option maxRecDepth 100000 in
set_option maxHeartbeats 6400000 in
theorem walk_FnExactPlaneXor (s u : Nat → UInt8) (w : World) :
    Calls Try.prog 9 #[.agg (pc s), .agg (pc u)] w fun e w' => e = .returned (.bool true) ∧ Below w.heap.size w w' := by
  have CA := fun W => Lib.hid (topl_any s W)
  have CB := fun W => Lib.hid (topl_any u W)
  have C1 := fun W => Lib.hid (PlaneXor_spec s u W)
  have C2 := fun W => Lib.hid (PlaneXor_impl s u W)
  have EQ := fun W => Lib.hid (eqp_any (fun i => s i ^^^ u i) W)
  have hsi := planes_info (fun i => s i ^^^ u i)
  have hone := pc_one (fun i => s i ^^^ u i)
  have hz : #[Value.int .u64 0, .int .u64 0, .int .u64 0, .int .u64 0, .int .u64 0, .int .u64 0, .int .u64 0, .int .u64 0].size = (pc (fun i => s i ^^^ u i)).size := by rw [pc_size]; rfl
  have i1 := arr8_info s
  have i2 := arr8_info u
  generalize pc (fun i => s i ^^^ u i) = R at *
  generalize pc s = P1 at *
  generalize pc u = P2 at *
  obtain ⟨W0, hW⟩ : ∃ W0, (w.alloc (.cells P1 26)).alloc (.cells P2 26) = W0 := ⟨_, rfl⟩
  obtain ⟨a1, a2, hb0⟩ := newQ2 w _ _ _ _ hW
  have hS0 : Hold w [(w.heap.size, 26, P1), (w.heap.size + 1, 26, P2)] W0.drew := ((Hold.nil hb0.drew).add (show RQ W0.drew _ _ _ from a2)).add (show RQ W0.drew _ _ _ from a1)
  have HW := Lib.hid hW
  clear hW a1 a2 hb0
  go_enter Try.func9, Try.ntmps9
  go_upto_region 1 with fail
  rw [HW.out]
  go_cut [5] from 7 to 20 (fun v5 wx => ∃ g5, v5 = .pointer (some ⟨g5, 0, none⟩) ∧ Hold w ((g5, 27, R) :: [(w.heap.size, 26, P1), (w.heap.size + 1, 26, P2)]) wx)
  case first =>
    clear HW C2 EQ
    refine wp_region_held_drew (S := Hold w [(w.heap.size, 26, P1), (w.heap.size + 1, 26, P2)]) (by kernel_rfl) hS0 (fun hS0 => ?_)
    generalize W0.drew = wq at *
    refine wpAnyH_take (i := 0) (v := .agg P1) rfl (by kernel_rfl) (by kernel_rfl) (by kernel_rfl) (fun _ _ _ h => h) (Or.inl ⟨by kernel_rfl, fun V hV => exec_load_row 26 _ rfl w.heap.size rfl 26 P1 _ (hV.1 (w.heap.size, 26, P1) (by simp)) Try.underlying26 rfl i1⟩) (by assumption) ?_
    try simp only [List.getElem_toArray, List.getElem_cons_succ, List.getElem_cons_zero, Act.put, List.setIfInBounds_toArray, List.set_cons_zero, List.set_cons_succ]
    refine wpAnyH_take (i := 2) (v := .agg P2) rfl (by kernel_rfl) (by kernel_rfl) (by kernel_rfl) (fun _ _ _ h => h) (Or.inl ⟨by kernel_rfl, fun V hV => exec_load_row 26 _ rfl (w.heap.size + 1) rfl 26 P2 _ (hV.1 ((w.heap.size + 1), 26, P2) (by simp)) Try.underlying26 rfl i2⟩) (by assumption) ?_
    try simp only [List.getElem_toArray, List.getElem_cons_succ, List.getElem_cons_zero, Act.put, List.setIfInBounds_toArray, List.set_cons_zero, List.set_cons_succ]
    refine wpAnyH_ready (rs := [1, 5]) (by kernel_rfl) (by simp) ?_
    refine AllReadyH.cons rfl (fun K hK => ?_) (AllReadyH.cons rfl (fun K hK => ?_) AllReadyH.nil)
    · go_simp
      refine (CA _).out.mono ?_; rintro e x2 ⟨rfl, hb⟩
      have hS1 := hS0.next hb
      clear hb
      refine hK.out _ _ hS1 (fun hS1 => ?_)
      clear hK K
      try simp only [List.getElem_toArray, List.getElem_cons_succ, List.getElem_cons_zero, Act.put, List.setIfInBounds_toArray, List.set_cons_zero, List.set_cons_succ]
      refine wpAnyH_ready (rs := [3, 5]) (by kernel_rfl) (by simp) ?_
      refine AllReadyH.cons rfl (fun K hK => ?_) (AllReadyH.cons rfl (fun K hK => ?_) AllReadyH.nil)
      · go_simp
        refine (CB _).out.mono ?_; rintro e x4 ⟨rfl, hb⟩
        have hS3 := hS1.next hb
        clear hb
        refine hK.out _ _ hS3 (fun hS3 => ?_)
        clear hK K
        try simp only [List.getElem_toArray, List.getElem_cons_succ, List.getElem_cons_zero, Act.put, List.setIfInBounds_toArray, List.set_cons_zero, List.set_cons_succ]
        refine wpAnyH_ready (rs := [4, 5]) (by kernel_rfl) (by simp) ?_
        refine AllReadyH.cons rfl (fun K hK => ?_) (AllReadyH.cons rfl (fun K hK => ?_) AllReadyH.nil)
        · go_simp
          refine (C1 _).out.mono ?_; rintro e x6 ⟨rfl, hb⟩
          have hS5 := hS3.next hb
          clear hb
          refine hK.out _ _ hS5 (fun hS5 => ?_)
          clear hK K
          try simp only [List.getElem_toArray, List.getElem_cons_succ, List.getElem_cons_zero, Act.put, List.setIfInBounds_toArray, List.set_cons_zero, List.set_cons_succ]
          refine wpAnyH_ready (rs := [5]) (by kernel_rfl) (by simp) ?_
          refine AllReadyH.cons rfl (fun K hK => ?_) AllReadyH.nil
          go_simp
          have hS7 := hS5.next (alQ_up x6 (.cells #[Value.int .u64 0, .int .u64 0, .int .u64 0, .int .u64 0, .int .u64 0, .int .u64 0, .int .u64 0, .int .u64 0] 27))
          have ZA := Lib.hid (RQ.new x6 27 #[Value.int .u64 0, .int .u64 0, .int .u64 0, .int .u64 0, .int .u64 0, .int .u64 0, .int .u64 0, .int .u64 0])
          refine hK.out _ _ hS7 (fun hS7 => ?_)
          clear hK K
          try simp only [List.getElem_toArray, List.getElem_cons_succ, List.getElem_cons_zero, Act.put, List.setIfInBounds_toArray, List.set_cons_zero, List.set_cons_succ]
          generalize x6.alloc (.cells #[Value.int .u64 0, .int .u64 0, .int .u64 0, .int .u64 0, .int .u64 0, .int .u64 0, .int .u64 0, .int .u64 0] 27) = x8 at *
          refine wpAnyH_ready (rs := [6]) (by kernel_rfl) (by simp) ?_
          refine AllReadyH.cons rfl (fun K hK => ?_) AllReadyH.nil
          have hS9 := hS7.put hS5 (Nat.le_refl _) R
          have ZAs := Lib.hid (ZA.out.row R)
          refine wp_store_row 27 _ _ rfl (x6.heap.size) R rfl rfl 27 _ ZA.out hsi hz hone ?_
          refine hK.out _ _ hS9 (fun hS9 => ?_)
          clear hK K ZA
          try simp only [List.getElem_toArray, List.getElem_cons_succ, List.getElem_cons_zero, Act.put, List.setIfInBounds_toArray, List.set_cons_zero, List.set_cons_succ]
          generalize x8.setRow (x6.heap.size) R = x10 at *
          refine wpAnyH_done (by kernel_rfl) ?_ _
          go_wp2_with fail
          go_meet
          exact ⟨x6.heap.size, rfl, hS9.add ZAs.out⟩
        · go_simp
          have hS11 := hS3.next (alQ_up x4 (.cells #[Value.int .u64 0, .int .u64 0, .int .u64 0, .int .u64 0, .int .u64 0, .int .u64 0, .int .u64 0, .int .u64 0] 27))
          have ZA := Lib.hid (RQ.new x4 27 #[Value.int .u64 0, .int .u64 0, .int .u64 0, .int .u64 0, .int .u64 0, .int .u64 0, .int .u64 0, .int .u64 0])
          refine hK.out _ _ hS11 (fun hS11 => ?_)
          clear hK K
          try simp only [List.getElem_toArray, List.getElem_cons_succ, List.getElem_cons_zero, Act.put, List.setIfInBounds_toArray, List.set_cons_zero, List.set_cons_succ]
          generalize x4.alloc (.cells #[Value.int .u64 0, .int .u64 0, .int .u64 0, .int .u64 0, .int .u64 0, .int .u64 0, .int .u64 0, .int .u64 0] 27) = x12 at *
          refine wpAnyH_ready (rs := [4]) (by kernel_rfl) (by simp) ?_
          refine AllReadyH.cons rfl (fun K hK => ?_) AllReadyH.nil
          go_simp
          refine (C1 _).out.mono ?_; rintro e x14 ⟨rfl, hb⟩
          have hS13 := hS11.next hb
          have ZA := Lib.hid (ZA.out.up hb)
          clear hb
          refine hK.out _ _ hS13 (fun hS13 => ?_)
          clear hK K
          try simp only [List.getElem_toArray, List.getElem_cons_succ, List.getElem_cons_zero, Act.put, List.setIfInBounds_toArray, List.set_cons_zero, List.set_cons_succ]
          refine wpAnyH_ready (rs := [6]) (by kernel_rfl) (by simp) ?_
          refine AllReadyH.cons rfl (fun K hK => ?_) AllReadyH.nil
          have hS15 := hS13.put hS3 (Nat.le_refl _) R
          have ZAs := Lib.hid (ZA.out.row R)
          refine wp_store_row 27 _ _ rfl (x4.heap.size) R rfl rfl 27 _ ZA.out hsi hz hone ?_
          refine hK.out _ _ hS15 (fun hS15 => ?_)
          clear hK K ZA
          try simp only [List.getElem_toArray, List.getElem_cons_succ, List.getElem_cons_zero, Act.put, List.setIfInBounds_toArray, List.set_cons_zero, List.set_cons_succ]
          generalize x14.setRow (x4.heap.size) R = x16 at *
          refine wpAnyH_done (by kernel_rfl) ?_ _
          go_wp2_with fail
          go_meet
          exact ⟨x4.heap.size, rfl, hS15.add ZAs.out⟩
      · go_simp
        have hS17 := hS1.next (alQ_up x2 (.cells #[Value.int .u64 0, .int .u64 0, .int .u64 0, .int .u64 0, .int .u64 0, .int .u64 0, .int .u64 0, .int .u64 0] 27))
        have ZA := Lib.hid (RQ.new x2 27 #[Value.int .u64 0, .int .u64 0, .int .u64 0, .int .u64 0, .int .u64 0, .int .u64 0, .int .u64 0, .int .u64 0])
        refine hK.out _ _ hS17 (fun hS17 => ?_)
        clear hK K
        try simp only [List.getElem_toArray, List.getElem_cons_succ, List.getElem_cons_zero, Act.put, List.setIfInBounds_toArray, List.set_cons_zero, List.set_cons_succ]
        generalize x2.alloc (.cells #[Value.int .u64 0, .int .u64 0, .int .u64 0, .int .u64 0, .int .u64 0, .int .u64 0, .int .u64 0, .int .u64 0] 27) = x18 at *
        refine wpAnyH_ready (rs := [3]) (by kernel_rfl) (by simp) ?_
        refine AllReadyH.cons rfl (fun K hK => ?_) AllReadyH.nil
        go_simp
        refine (CB _).out.mono ?_; rintro e x20 ⟨rfl, hb⟩
        have hS19 := hS17.next hb
        have ZA := Lib.hid (ZA.out.up hb)
        clear hb
        refine hK.out _ _ hS19 (fun hS19 => ?_)
        clear hK K
        try simp only [List.getElem_toArray, List.getElem_cons_succ, List.getElem_cons_zero, Act.put, List.setIfInBounds_toArray, List.set_cons_zero, List.set_cons_succ]
        refine wpAnyH_ready (rs := [4]) (by kernel_rfl) (by simp) ?_
        refine AllReadyH.cons rfl (fun K hK => ?_) AllReadyH.nil
        go_simp
        refine (C1 _).out.mono ?_; rintro e x22 ⟨rfl, hb⟩
        have hS21 := hS19.next hb
        have ZA := Lib.hid (ZA.out.up hb)
        clear hb
        refine hK.out _ _ hS21 (fun hS21 => ?_)
        clear hK K
        try simp only [List.getElem_toArray, List.getElem_cons_succ, List.getElem_cons_zero, Act.put, List.setIfInBounds_toArray, List.set_cons_zero, List.set_cons_succ]
        refine wpAnyH_ready (rs := [6]) (by kernel_rfl) (by simp) ?_
        refine AllReadyH.cons rfl (fun K hK => ?_) AllReadyH.nil
        have hS23 := hS21.put hS1 (Nat.le_refl _) R
        have ZAs := Lib.hid (ZA.out.row R)
        refine wp_store_row 27 _ _ rfl (x2.heap.size) R rfl rfl 27 _ ZA.out hsi hz hone ?_
        refine hK.out _ _ hS23 (fun hS23 => ?_)
        clear hK K ZA
        try simp only [List.getElem_toArray, List.getElem_cons_succ, List.getElem_cons_zero, Act.put, List.setIfInBounds_toArray, List.set_cons_zero, List.set_cons_succ]
        generalize x22.setRow (x2.heap.size) R = x24 at *
        refine wpAnyH_done (by kernel_rfl) ?_ _
        go_wp2_with fail
        go_meet
        exact ⟨x2.heap.size, rfl, hS23.add ZAs.out⟩
    · go_simp
      have hS25 := hS0.next (alQ_up wq (.cells #[Value.int .u64 0, .int .u64 0, .int .u64 0, .int .u64 0, .int .u64 0, .int .u64 0, .int .u64 0, .int .u64 0] 27))
      have ZA := Lib.hid (RQ.new wq 27 #[Value.int .u64 0, .int .u64 0, .int .u64 0, .int .u64 0, .int .u64 0, .int .u64 0, .int .u64 0, .int .u64 0])
      refine hK.out _ _ hS25 (fun hS25 => ?_)
      clear hK K
      try simp only [List.getElem_toArray, List.getElem_cons_succ, List.getElem_cons_zero, Act.put, List.setIfInBounds_toArray, List.set_cons_zero, List.set_cons_succ]
      generalize wq.alloc (.cells #[Value.int .u64 0, .int .u64 0, .int .u64 0, .int .u64 0, .int .u64 0, .int .u64 0, .int .u64 0, .int .u64 0] 27) = x26 at *
      refine wpAnyH_ready (rs := [1]) (by kernel_rfl) (by simp) ?_
      refine AllReadyH.cons rfl (fun K hK => ?_) AllReadyH.nil
      go_simp
      refine (CA _).out.mono ?_; rintro e x28 ⟨rfl, hb⟩
      have hS27 := hS25.next hb
      have ZA := Lib.hid (ZA.out.up hb)
      clear hb
      refine hK.out _ _ hS27 (fun hS27 => ?_)
      clear hK K
      try simp only [List.getElem_toArray, List.getElem_cons_succ, List.getElem_cons_zero, Act.put, List.setIfInBounds_toArray, List.set_cons_zero, List.set_cons_succ]
      refine wpAnyH_ready (rs := [3]) (by kernel_rfl) (by simp) ?_
      refine AllReadyH.cons rfl (fun K hK => ?_) AllReadyH.nil
      go_simp
      refine (CB _).out.mono ?_; rintro e x30 ⟨rfl, hb⟩
      have hS29 := hS27.next hb
      have ZA := Lib.hid (ZA.out.up hb)
      clear hb
      refine hK.out _ _ hS29 (fun hS29 => ?_)
      clear hK K
      try simp only [List.getElem_toArray, List.getElem_cons_succ, List.getElem_cons_zero, Act.put, List.setIfInBounds_toArray, List.set_cons_zero, List.set_cons_succ]
      refine wpAnyH_ready (rs := [4]) (by kernel_rfl) (by simp) ?_
      refine AllReadyH.cons rfl (fun K hK => ?_) AllReadyH.nil
      go_simp
      refine (C1 _).out.mono ?_; rintro e x32 ⟨rfl, hb⟩
      have hS31 := hS29.next hb
      have ZA := Lib.hid (ZA.out.up hb)
      clear hb
      refine hK.out _ _ hS31 (fun hS31 => ?_)
      clear hK K
      try simp only [List.getElem_toArray, List.getElem_cons_succ, List.getElem_cons_zero, Act.put, List.setIfInBounds_toArray, List.set_cons_zero, List.set_cons_succ]
      refine wpAnyH_ready (rs := [6]) (by kernel_rfl) (by simp) ?_
      refine AllReadyH.cons rfl (fun K hK => ?_) AllReadyH.nil
      have hS33 := hS31.put hS0 (Nat.le_refl _) R
      have ZAs := Lib.hid (ZA.out.row R)
      refine wp_store_row 27 _ _ rfl (wq.heap.size) R rfl rfl 27 _ ZA.out hsi hz hone ?_
      refine hK.out _ _ hS33 (fun hS33 => ?_)
      clear hK K ZA
      try simp only [List.getElem_toArray, List.getElem_cons_succ, List.getElem_cons_zero, Act.put, List.setIfInBounds_toArray, List.set_cons_zero, List.set_cons_succ]
      generalize x32.setRow (wq.heap.size) R = x34 at *
      refine wpAnyH_done (by kernel_rfl) ?_ _
      go_wp2_with fail
      go_meet
      exact ⟨wq.heap.size, rfl, hS33.add ZAs.out⟩
  case rest =>
    obtain ⟨g5, rfl, hR⟩ := hcut
    clear hS0 HW C1
    go_upto_region 2 with fail
    go_cut [6] from 7 to 20 (fun v6 wx => ∃ g6, v6 = .pointer (some ⟨g6, 0, none⟩) ∧ Hold w ((g6, 27, R) :: ((g5, 27, R) :: [(w.heap.size, 26, P1), (w.heap.size + 1, 26, P2)])) wx)
    case first =>
      clear EQ
      refine wp_region_held_drew (S := Hold w ((g5, 27, R) :: [(w.heap.size, 26, P1), (w.heap.size + 1, 26, P2)])) (by kernel_rfl) hR.drew (fun hS0 => ?_)
      generalize wc.drew = wq at *
      refine wpAnyH_take (i := 0) (v := .agg P1) rfl (by kernel_rfl) (by kernel_rfl) (by kernel_rfl) (fun _ _ _ h => h) (Or.inl ⟨by kernel_rfl, fun V hV => exec_load_row 26 _ rfl w.heap.size rfl 26 P1 _ (hV.1 (w.heap.size, 26, P1) (by simp)) Try.underlying26 rfl i1⟩) (by assumption) ?_
      try simp only [List.getElem_toArray, List.getElem_cons_succ, List.getElem_cons_zero, Act.put, List.setIfInBounds_toArray, List.set_cons_zero, List.set_cons_succ]
      refine wpAnyH_take (i := 2) (v := .agg P2) rfl (by kernel_rfl) (by kernel_rfl) (by kernel_rfl) (fun _ _ _ h => h) (Or.inl ⟨by kernel_rfl, fun V hV => exec_load_row 26 _ rfl (w.heap.size + 1) rfl 26 P2 _ (hV.1 ((w.heap.size + 1), 26, P2) (by simp)) Try.underlying26 rfl i2⟩) (by assumption) ?_
      try simp only [List.getElem_toArray, List.getElem_cons_succ, List.getElem_cons_zero, Act.put, List.setIfInBounds_toArray, List.set_cons_zero, List.set_cons_succ]
      refine wpAnyH_ready (rs := [1, 5]) (by kernel_rfl) (by simp) ?_
      refine AllReadyH.cons rfl (fun K hK => ?_) (AllReadyH.cons rfl (fun K hK => ?_) AllReadyH.nil)
      · go_simp
        refine (CA _).out.mono ?_; rintro e x2 ⟨rfl, hb⟩
        have hS1 := hS0.next hb
        clear hb
        refine hK.out _ _ hS1 (fun hS1 => ?_)
        clear hK K
        try simp only [List.getElem_toArray, List.getElem_cons_succ, List.getElem_cons_zero, Act.put, List.setIfInBounds_toArray, List.set_cons_zero, List.set_cons_succ]
        refine wpAnyH_ready (rs := [3, 5]) (by kernel_rfl) (by simp) ?_
        refine AllReadyH.cons rfl (fun K hK => ?_) (AllReadyH.cons rfl (fun K hK => ?_) AllReadyH.nil)
        · go_simp
          refine (CB _).out.mono ?_; rintro e x4 ⟨rfl, hb⟩
          have hS3 := hS1.next hb
          clear hb
          refine hK.out _ _ hS3 (fun hS3 => ?_)
          clear hK K
          try simp only [List.getElem_toArray, List.getElem_cons_succ, List.getElem_cons_zero, Act.put, List.setIfInBounds_toArray, List.set_cons_zero, List.set_cons_succ]
          refine wpAnyH_ready (rs := [4, 5]) (by kernel_rfl) (by simp) ?_
          refine AllReadyH.cons rfl (fun K hK => ?_) (AllReadyH.cons rfl (fun K hK => ?_) AllReadyH.nil)
          · go_simp
            refine (C2 _).out.mono ?_; rintro e x6 ⟨rfl, hb⟩
            have hS5 := hS3.next hb
            clear hb
            refine hK.out _ _ hS5 (fun hS5 => ?_)
            clear hK K
            try simp only [List.getElem_toArray, List.getElem_cons_succ, List.getElem_cons_zero, Act.put, List.setIfInBounds_toArray, List.set_cons_zero, List.set_cons_succ]
            refine wpAnyH_ready (rs := [5]) (by kernel_rfl) (by simp) ?_
            refine AllReadyH.cons rfl (fun K hK => ?_) AllReadyH.nil
            go_simp
            have hS7 := hS5.next (alQ_up x6 (.cells #[Value.int .u64 0, .int .u64 0, .int .u64 0, .int .u64 0, .int .u64 0, .int .u64 0, .int .u64 0, .int .u64 0] 27))
            have ZA := Lib.hid (RQ.new x6 27 #[Value.int .u64 0, .int .u64 0, .int .u64 0, .int .u64 0, .int .u64 0, .int .u64 0, .int .u64 0, .int .u64 0])
            refine hK.out _ _ hS7 (fun hS7 => ?_)
            clear hK K
            try simp only [List.getElem_toArray, List.getElem_cons_succ, List.getElem_cons_zero, Act.put, List.setIfInBounds_toArray, List.set_cons_zero, List.set_cons_succ]
            generalize x6.alloc (.cells #[Value.int .u64 0, .int .u64 0, .int .u64 0, .int .u64 0, .int .u64 0, .int .u64 0, .int .u64 0, .int .u64 0] 27) = x8 at *
            refine wpAnyH_ready (rs := [6]) (by kernel_rfl) (by simp) ?_
            refine AllReadyH.cons rfl (fun K hK => ?_) AllReadyH.nil
            have hS9 := hS7.put hS5 (Nat.le_refl _) R
            have ZAs := Lib.hid (ZA.out.row R)
            refine wp_store_row 27 _ _ rfl (x6.heap.size) R rfl rfl 27 _ ZA.out hsi hz hone ?_
            refine hK.out _ _ hS9 (fun hS9 => ?_)
            clear hK K ZA
            try simp only [List.getElem_toArray, List.getElem_cons_succ, List.getElem_cons_zero, Act.put, List.setIfInBounds_toArray, List.set_cons_zero, List.set_cons_succ]
            generalize x8.setRow (x6.heap.size) R = x10 at *
            refine wpAnyH_done (by kernel_rfl) ?_ _
            go_wp2_with fail
            go_meet
            exact ⟨x6.heap.size, rfl, hS9.add ZAs.out⟩
          · go_simp
            have hS11 := hS3.next (alQ_up x4 (.cells #[Value.int .u64 0, .int .u64 0, .int .u64 0, .int .u64 0, .int .u64 0, .int .u64 0, .int .u64 0, .int .u64 0] 27))
            have ZA := Lib.hid (RQ.new x4 27 #[Value.int .u64 0, .int .u64 0, .int .u64 0, .int .u64 0, .int .u64 0, .int .u64 0, .int .u64 0, .int .u64 0])
            refine hK.out _ _ hS11 (fun hS11 => ?_)
            clear hK K
            try simp only [List.getElem_toArray, List.getElem_cons_succ, List.getElem_cons_zero, Act.put, List.setIfInBounds_toArray, List.set_cons_zero, List.set_cons_succ]
            generalize x4.alloc (.cells #[Value.int .u64 0, .int .u64 0, .int .u64 0, .int .u64 0, .int .u64 0, .int .u64 0, .int .u64 0, .int .u64 0] 27) = x12 at *
            refine wpAnyH_ready (rs := [4]) (by kernel_rfl) (by simp) ?_
            refine AllReadyH.cons rfl (fun K hK => ?_) AllReadyH.nil
            go_simp
            refine (C2 _).out.mono ?_; rintro e x14 ⟨rfl, hb⟩
            have hS13 := hS11.next hb
            have ZA := Lib.hid (ZA.out.up hb)
            clear hb
            refine hK.out _ _ hS13 (fun hS13 => ?_)
            clear hK K
            try simp only [List.getElem_toArray, List.getElem_cons_succ, List.getElem_cons_zero, Act.put, List.setIfInBounds_toArray, List.set_cons_zero, List.set_cons_succ]
            refine wpAnyH_ready (rs := [6]) (by kernel_rfl) (by simp) ?_
            refine AllReadyH.cons rfl (fun K hK => ?_) AllReadyH.nil
            have hS15 := hS13.put hS3 (Nat.le_refl _) R
            have ZAs := Lib.hid (ZA.out.row R)
            refine wp_store_row 27 _ _ rfl (x4.heap.size) R rfl rfl 27 _ ZA.out hsi hz hone ?_
            refine hK.out _ _ hS15 (fun hS15 => ?_)
            clear hK K ZA
            try simp only [List.getElem_toArray, List.getElem_cons_succ, List.getElem_cons_zero, Act.put, List.setIfInBounds_toArray, List.set_cons_zero, List.set_cons_succ]
            generalize x14.setRow (x4.heap.size) R = x16 at *
            refine wpAnyH_done (by kernel_rfl) ?_ _
            go_wp2_with fail
            go_meet
            exact ⟨x4.heap.size, rfl, hS15.add ZAs.out⟩
        · go_simp
          have hS17 := hS1.next (alQ_up x2 (.cells #[Value.int .u64 0, .int .u64 0, .int .u64 0, .int .u64 0, .int .u64 0, .int .u64 0, .int .u64 0, .int .u64 0] 27))
          have ZA := Lib.hid (RQ.new x2 27 #[Value.int .u64 0, .int .u64 0, .int .u64 0, .int .u64 0, .int .u64 0, .int .u64 0, .int .u64 0, .int .u64 0])
          refine hK.out _ _ hS17 (fun hS17 => ?_)
          clear hK K
          try simp only [List.getElem_toArray, List.getElem_cons_succ, List.getElem_cons_zero, Act.put, List.setIfInBounds_toArray, List.set_cons_zero, List.set_cons_succ]
          generalize x2.alloc (.cells #[Value.int .u64 0, .int .u64 0, .int .u64 0, .int .u64 0, .int .u64 0, .int .u64 0, .int .u64 0, .int .u64 0] 27) = x18 at *
          refine wpAnyH_ready (rs := [3]) (by kernel_rfl) (by simp) ?_
          refine AllReadyH.cons rfl (fun K hK => ?_) AllReadyH.nil
          go_simp
          refine (CB _).out.mono ?_; rintro e x20 ⟨rfl, hb⟩
          have hS19 := hS17.next hb
          have ZA := Lib.hid (ZA.out.up hb)
          clear hb
          refine hK.out _ _ hS19 (fun hS19 => ?_)
          clear hK K
          try simp only [List.getElem_toArray, List.getElem_cons_succ, List.getElem_cons_zero, Act.put, List.setIfInBounds_toArray, List.set_cons_zero, List.set_cons_succ]
          refine wpAnyH_ready (rs := [4]) (by kernel_rfl) (by simp) ?_
          refine AllReadyH.cons rfl (fun K hK => ?_) AllReadyH.nil
          go_simp
          refine (C2 _).out.mono ?_; rintro e x22 ⟨rfl, hb⟩
          have hS21 := hS19.next hb
          have ZA := Lib.hid (ZA.out.up hb)
          clear hb
          refine hK.out _ _ hS21 (fun hS21 => ?_)
          clear hK K
          try simp only [List.getElem_toArray, List.getElem_cons_succ, List.getElem_cons_zero, Act.put, List.setIfInBounds_toArray, List.set_cons_zero, List.set_cons_succ]
          refine wpAnyH_ready (rs := [6]) (by kernel_rfl) (by simp) ?_
          refine AllReadyH.cons rfl (fun K hK => ?_) AllReadyH.nil
          have hS23 := hS21.put hS1 (Nat.le_refl _) R
          have ZAs := Lib.hid (ZA.out.row R)
          refine wp_store_row 27 _ _ rfl (x2.heap.size) R rfl rfl 27 _ ZA.out hsi hz hone ?_
          refine hK.out _ _ hS23 (fun hS23 => ?_)
          clear hK K ZA
          try simp only [List.getElem_toArray, List.getElem_cons_succ, List.getElem_cons_zero, Act.put, List.setIfInBounds_toArray, List.set_cons_zero, List.set_cons_succ]
          generalize x22.setRow (x2.heap.size) R = x24 at *
          refine wpAnyH_done (by kernel_rfl) ?_ _
          go_wp2_with fail
          go_meet
          exact ⟨x2.heap.size, rfl, hS23.add ZAs.out⟩
      · go_simp
        have hS25 := hS0.next (alQ_up wq (.cells #[Value.int .u64 0, .int .u64 0, .int .u64 0, .int .u64 0, .int .u64 0, .int .u64 0, .int .u64 0, .int .u64 0] 27))
        have ZA := Lib.hid (RQ.new wq 27 #[Value.int .u64 0, .int .u64 0, .int .u64 0, .int .u64 0, .int .u64 0, .int .u64 0, .int .u64 0, .int .u64 0])
        refine hK.out _ _ hS25 (fun hS25 => ?_)
        clear hK K
        try simp only [List.getElem_toArray, List.getElem_cons_succ, List.getElem_cons_zero, Act.put, List.setIfInBounds_toArray, List.set_cons_zero, List.set_cons_succ]
        generalize wq.alloc (.cells #[Value.int .u64 0, .int .u64 0, .int .u64 0, .int .u64 0, .int .u64 0, .int .u64 0, .int .u64 0, .int .u64 0] 27) = x26 at *
        refine wpAnyH_ready (rs := [1]) (by kernel_rfl) (by simp) ?_
        refine AllReadyH.cons rfl (fun K hK => ?_) AllReadyH.nil
        go_simp
        refine (CA _).out.mono ?_; rintro e x28 ⟨rfl, hb⟩
        have hS27 := hS25.next hb
        have ZA := Lib.hid (ZA.out.up hb)
        clear hb
        refine hK.out _ _ hS27 (fun hS27 => ?_)
        clear hK K
        try simp only [List.getElem_toArray, List.getElem_cons_succ, List.getElem_cons_zero, Act.put, List.setIfInBounds_toArray, List.set_cons_zero, List.set_cons_succ]
        refine wpAnyH_ready (rs := [3]) (by kernel_rfl) (by simp) ?_
        refine AllReadyH.cons rfl (fun K hK => ?_) AllReadyH.nil
        go_simp
        refine (CB _).out.mono ?_; rintro e x30 ⟨rfl, hb⟩
        have hS29 := hS27.next hb
        have ZA := Lib.hid (ZA.out.up hb)
        clear hb
        refine hK.out _ _ hS29 (fun hS29 => ?_)
        clear hK K
        try simp only [List.getElem_toArray, List.getElem_cons_succ, List.getElem_cons_zero, Act.put, List.setIfInBounds_toArray, List.set_cons_zero, List.set_cons_succ]
        refine wpAnyH_ready (rs := [4]) (by kernel_rfl) (by simp) ?_
        refine AllReadyH.cons rfl (fun K hK => ?_) AllReadyH.nil
        go_simp
        refine (C2 _).out.mono ?_; rintro e x32 ⟨rfl, hb⟩
        have hS31 := hS29.next hb
        have ZA := Lib.hid (ZA.out.up hb)
        clear hb
        refine hK.out _ _ hS31 (fun hS31 => ?_)
        clear hK K
        try simp only [List.getElem_toArray, List.getElem_cons_succ, List.getElem_cons_zero, Act.put, List.setIfInBounds_toArray, List.set_cons_zero, List.set_cons_succ]
        refine wpAnyH_ready (rs := [6]) (by kernel_rfl) (by simp) ?_
        refine AllReadyH.cons rfl (fun K hK => ?_) AllReadyH.nil
        have hS33 := hS31.put hS0 (Nat.le_refl _) R
        have ZAs := Lib.hid (ZA.out.row R)
        refine wp_store_row 27 _ _ rfl (wq.heap.size) R rfl rfl 27 _ ZA.out hsi hz hone ?_
        refine hK.out _ _ hS33 (fun hS33 => ?_)
        clear hK K ZA
        try simp only [List.getElem_toArray, List.getElem_cons_succ, List.getElem_cons_zero, Act.put, List.setIfInBounds_toArray, List.set_cons_zero, List.set_cons_succ]
        generalize x32.setRow (wq.heap.size) R = x34 at *
        refine wpAnyH_done (by kernel_rfl) ?_ _
        go_wp2_with fail
        go_meet
        exact ⟨wq.heap.size, rfl, hS33.add ZAs.out⟩
    case rest =>
      obtain ⟨g6, rfl, hQ⟩ := hcut
      have N6 : Hid (RQ wc g6 27 R) := Lib.hid (hQ.1 (g6, 27, R) (by simp))
      have N5 : Hid (RQ wc g5 27 R) := Lib.hid (hQ.1 (g5, 27, R) (by simp))
      have BQ := Lib.hid hQ.2
      clear hR hQ C2 CA CB
      go_wp2_with (first
        | (refine wpList_load_row rfl 27 _ rfl g6 rfl 27 R (0, 0) _ (by have h := N6.out; exact h) Try.underlying27 rfl hsi ?_)
        | (refine wpList_load_row rfl 27 _ rfl g5 rfl 27 R (0, 0) _ (by have h := N5.out; exact h) Try.underlying27 rfl hsi ?_))
      refine (EQ _).out.mono ?_; rintro e w9 ⟨rfl, hb9⟩
      have BF := Lib.hid (BQ.out.trans (hb9.mono BQ.out.size))
      clear hb9
      go_wp2
      go_ret
      exact ⟨rfl, BF.out⟩
set_option maxRecDepth 100000 in
set_option maxHeartbeats 6400000 in
theorem walk_FnExactPlaneTimes (s u : Nat → UInt8) (w : World) :
    Calls Try.prog 10 #[.agg (pc s), .agg (pc u)] w fun e w' => e = .returned (.bool true) ∧ Below w.heap.size w w' := by
  have CA := fun W => Lib.hid (topl_any s W)
  have CB := fun W => Lib.hid (topl_any u W)
  have C1 := fun W => Lib.hid (PlaneTimes_spec s u W)
  have C2 := fun W => Lib.hid (PlaneTimes_impl s u W)
  have EQ := fun W => Lib.hid (eqp_any (fun i => mul (s i) (u i)) W)
  have hsi := planes_info (fun i => mul (s i) (u i))
  have hone := pc_one (fun i => mul (s i) (u i))
  have hz : #[Value.int .u64 0, .int .u64 0, .int .u64 0, .int .u64 0, .int .u64 0, .int .u64 0, .int .u64 0, .int .u64 0].size = (pc (fun i => mul (s i) (u i))).size := by rw [pc_size]; rfl
  have i1 := arr8_info s
  have i2 := arr8_info u
  generalize pc (fun i => mul (s i) (u i)) = R at *
  generalize pc s = P1 at *
  generalize pc u = P2 at *
  obtain ⟨W0, hW⟩ : ∃ W0, (w.alloc (.cells P1 26)).alloc (.cells P2 26) = W0 := ⟨_, rfl⟩
  obtain ⟨a1, a2, hb0⟩ := newQ2 w _ _ _ _ hW
  have hS0 : Hold w [(w.heap.size, 26, P1), (w.heap.size + 1, 26, P2)] W0.drew := ((Hold.nil hb0.drew).add (show RQ W0.drew _ _ _ from a2)).add (show RQ W0.drew _ _ _ from a1)
  have HW := Lib.hid hW
  clear hW a1 a2 hb0
  go_enter Try.func10, Try.ntmps10
  go_upto_region 1 with fail
  rw [HW.out]
  go_cut [5] from 7 to 20 (fun v5 wx => ∃ g5, v5 = .pointer (some ⟨g5, 0, none⟩) ∧ Hold w ((g5, 27, R) :: [(w.heap.size, 26, P1), (w.heap.size + 1, 26, P2)]) wx)
  case first =>
    clear HW C2 EQ
    refine wp_region_held_drew (S := Hold w [(w.heap.size, 26, P1), (w.heap.size + 1, 26, P2)]) (by kernel_rfl) hS0 (fun hS0 => ?_)
    generalize W0.drew = wq at *
    refine wpAnyH_take (i := 0) (v := .agg P1) rfl (by kernel_rfl) (by kernel_rfl) (by kernel_rfl) (fun _ _ _ h => h) (Or.inl ⟨by kernel_rfl, fun V hV => exec_load_row 26 _ rfl w.heap.size rfl 26 P1 _ (hV.1 (w.heap.size, 26, P1) (by simp)) Try.underlying26 rfl i1⟩) (by assumption) ?_
    try simp only [List.getElem_toArray, List.getElem_cons_succ, List.getElem_cons_zero, Act.put, List.setIfInBounds_toArray, List.set_cons_zero, List.set_cons_succ]
    refine wpAnyH_take (i := 2) (v := .agg P2) rfl (by kernel_rfl) (by kernel_rfl) (by kernel_rfl) (fun _ _ _ h => h) (Or.inl ⟨by kernel_rfl, fun V hV => exec_load_row 26 _ rfl (w.heap.size + 1) rfl 26 P2 _ (hV.1 ((w.heap.size + 1), 26, P2) (by simp)) Try.underlying26 rfl i2⟩) (by assumption) ?_
    try simp only [List.getElem_toArray, List.getElem_cons_succ, List.getElem_cons_zero, Act.put, List.setIfInBounds_toArray, List.set_cons_zero, List.set_cons_succ]
    refine wpAnyH_ready (rs := [1, 5]) (by kernel_rfl) (by simp) ?_
    refine AllReadyH.cons rfl (fun K hK => ?_) (AllReadyH.cons rfl (fun K hK => ?_) AllReadyH.nil)
    · go_simp
      refine (CA _).out.mono ?_; rintro e x2 ⟨rfl, hb⟩
      have hS1 := hS0.next hb
      clear hb
      refine hK.out _ _ hS1 (fun hS1 => ?_)
      clear hK K
      try simp only [List.getElem_toArray, List.getElem_cons_succ, List.getElem_cons_zero, Act.put, List.setIfInBounds_toArray, List.set_cons_zero, List.set_cons_succ]
      refine wpAnyH_ready (rs := [3, 5]) (by kernel_rfl) (by simp) ?_
      refine AllReadyH.cons rfl (fun K hK => ?_) (AllReadyH.cons rfl (fun K hK => ?_) AllReadyH.nil)
      · go_simp
        refine (CB _).out.mono ?_; rintro e x4 ⟨rfl, hb⟩
        have hS3 := hS1.next hb
        clear hb
        refine hK.out _ _ hS3 (fun hS3 => ?_)
        clear hK K
        try simp only [List.getElem_toArray, List.getElem_cons_succ, List.getElem_cons_zero, Act.put, List.setIfInBounds_toArray, List.set_cons_zero, List.set_cons_succ]
        refine wpAnyH_ready (rs := [4, 5]) (by kernel_rfl) (by simp) ?_
        refine AllReadyH.cons rfl (fun K hK => ?_) (AllReadyH.cons rfl (fun K hK => ?_) AllReadyH.nil)
        · go_simp
          refine (C1 _).out.mono ?_; rintro e x6 ⟨rfl, hb⟩
          have hS5 := hS3.next hb
          clear hb
          refine hK.out _ _ hS5 (fun hS5 => ?_)
          clear hK K
          try simp only [List.getElem_toArray, List.getElem_cons_succ, List.getElem_cons_zero, Act.put, List.setIfInBounds_toArray, List.set_cons_zero, List.set_cons_succ]
          refine wpAnyH_ready (rs := [5]) (by kernel_rfl) (by simp) ?_
          refine AllReadyH.cons rfl (fun K hK => ?_) AllReadyH.nil
          go_simp
          have hS7 := hS5.next (alQ_up x6 (.cells #[Value.int .u64 0, .int .u64 0, .int .u64 0, .int .u64 0, .int .u64 0, .int .u64 0, .int .u64 0, .int .u64 0] 27))
          have ZA := Lib.hid (RQ.new x6 27 #[Value.int .u64 0, .int .u64 0, .int .u64 0, .int .u64 0, .int .u64 0, .int .u64 0, .int .u64 0, .int .u64 0])
          refine hK.out _ _ hS7 (fun hS7 => ?_)
          clear hK K
          try simp only [List.getElem_toArray, List.getElem_cons_succ, List.getElem_cons_zero, Act.put, List.setIfInBounds_toArray, List.set_cons_zero, List.set_cons_succ]
          generalize x6.alloc (.cells #[Value.int .u64 0, .int .u64 0, .int .u64 0, .int .u64 0, .int .u64 0, .int .u64 0, .int .u64 0, .int .u64 0] 27) = x8 at *
          refine wpAnyH_ready (rs := [6]) (by kernel_rfl) (by simp) ?_
          refine AllReadyH.cons rfl (fun K hK => ?_) AllReadyH.nil
          have hS9 := hS7.put hS5 (Nat.le_refl _) R
          have ZAs := Lib.hid (ZA.out.row R)
          refine wp_store_row 27 _ _ rfl (x6.heap.size) R rfl rfl 27 _ ZA.out hsi hz hone ?_
          refine hK.out _ _ hS9 (fun hS9 => ?_)
          clear hK K ZA
          try simp only [List.getElem_toArray, List.getElem_cons_succ, List.getElem_cons_zero, Act.put, List.setIfInBounds_toArray, List.set_cons_zero, List.set_cons_succ]
          generalize x8.setRow (x6.heap.size) R = x10 at *
          refine wpAnyH_done (by kernel_rfl) ?_ _
          go_wp2_with fail
          go_meet
          exact ⟨x6.heap.size, rfl, hS9.add ZAs.out⟩
        · go_simp
          have hS11 := hS3.next (alQ_up x4 (.cells #[Value.int .u64 0, .int .u64 0, .int .u64 0, .int .u64 0, .int .u64 0, .int .u64 0, .int .u64 0, .int .u64 0] 27))
          have ZA := Lib.hid (RQ.new x4 27 #[Value.int .u64 0, .int .u64 0, .int .u64 0, .int .u64 0, .int .u64 0, .int .u64 0, .int .u64 0, .int .u64 0])
          refine hK.out _ _ hS11 (fun hS11 => ?_)
          clear hK K
          try simp only [List.getElem_toArray, List.getElem_cons_succ, List.getElem_cons_zero, Act.put, List.setIfInBounds_toArray, List.set_cons_zero, List.set_cons_succ]
          generalize x4.alloc (.cells #[Value.int .u64 0, .int .u64 0, .int .u64 0, .int .u64 0, .int .u64 0, .int .u64 0, .int .u64 0, .int .u64 0] 27) = x12 at *
          refine wpAnyH_ready (rs := [4]) (by kernel_rfl) (by simp) ?_
          refine AllReadyH.cons rfl (fun K hK => ?_) AllReadyH.nil
          go_simp
          refine (C1 _).out.mono ?_; rintro e x14 ⟨rfl, hb⟩
          have hS13 := hS11.next hb
          have ZA := Lib.hid (ZA.out.up hb)
          clear hb
          refine hK.out _ _ hS13 (fun hS13 => ?_)
          clear hK K
          try simp only [List.getElem_toArray, List.getElem_cons_succ, List.getElem_cons_zero, Act.put, List.setIfInBounds_toArray, List.set_cons_zero, List.set_cons_succ]
          refine wpAnyH_ready (rs := [6]) (by kernel_rfl) (by simp) ?_
          refine AllReadyH.cons rfl (fun K hK => ?_) AllReadyH.nil
          have hS15 := hS13.put hS3 (Nat.le_refl _) R
          have ZAs := Lib.hid (ZA.out.row R)
          refine wp_store_row 27 _ _ rfl (x4.heap.size) R rfl rfl 27 _ ZA.out hsi hz hone ?_
          refine hK.out _ _ hS15 (fun hS15 => ?_)
          clear hK K ZA
          try simp only [List.getElem_toArray, List.getElem_cons_succ, List.getElem_cons_zero, Act.put, List.setIfInBounds_toArray, List.set_cons_zero, List.set_cons_succ]
          generalize x14.setRow (x4.heap.size) R = x16 at *
          refine wpAnyH_done (by kernel_rfl) ?_ _
          go_wp2_with fail
          go_meet
          exact ⟨x4.heap.size, rfl, hS15.add ZAs.out⟩
      · go_simp
        have hS17 := hS1.next (alQ_up x2 (.cells #[Value.int .u64 0, .int .u64 0, .int .u64 0, .int .u64 0, .int .u64 0, .int .u64 0, .int .u64 0, .int .u64 0] 27))
        have ZA := Lib.hid (RQ.new x2 27 #[Value.int .u64 0, .int .u64 0, .int .u64 0, .int .u64 0, .int .u64 0, .int .u64 0, .int .u64 0, .int .u64 0])
        refine hK.out _ _ hS17 (fun hS17 => ?_)
        clear hK K
        try simp only [List.getElem_toArray, List.getElem_cons_succ, List.getElem_cons_zero, Act.put, List.setIfInBounds_toArray, List.set_cons_zero, List.set_cons_succ]
        generalize x2.alloc (.cells #[Value.int .u64 0, .int .u64 0, .int .u64 0, .int .u64 0, .int .u64 0, .int .u64 0, .int .u64 0, .int .u64 0] 27) = x18 at *
        refine wpAnyH_ready (rs := [3]) (by kernel_rfl) (by simp) ?_
        refine AllReadyH.cons rfl (fun K hK => ?_) AllReadyH.nil
        go_simp
        refine (CB _).out.mono ?_; rintro e x20 ⟨rfl, hb⟩
        have hS19 := hS17.next hb
        have ZA := Lib.hid (ZA.out.up hb)
        clear hb
        refine hK.out _ _ hS19 (fun hS19 => ?_)
        clear hK K
        try simp only [List.getElem_toArray, List.getElem_cons_succ, List.getElem_cons_zero, Act.put, List.setIfInBounds_toArray, List.set_cons_zero, List.set_cons_succ]
        refine wpAnyH_ready (rs := [4]) (by kernel_rfl) (by simp) ?_
        refine AllReadyH.cons rfl (fun K hK => ?_) AllReadyH.nil
        go_simp
        refine (C1 _).out.mono ?_; rintro e x22 ⟨rfl, hb⟩
        have hS21 := hS19.next hb
        have ZA := Lib.hid (ZA.out.up hb)
        clear hb
        refine hK.out _ _ hS21 (fun hS21 => ?_)
        clear hK K
        try simp only [List.getElem_toArray, List.getElem_cons_succ, List.getElem_cons_zero, Act.put, List.setIfInBounds_toArray, List.set_cons_zero, List.set_cons_succ]
        refine wpAnyH_ready (rs := [6]) (by kernel_rfl) (by simp) ?_
        refine AllReadyH.cons rfl (fun K hK => ?_) AllReadyH.nil
        have hS23 := hS21.put hS1 (Nat.le_refl _) R
        have ZAs := Lib.hid (ZA.out.row R)
        refine wp_store_row 27 _ _ rfl (x2.heap.size) R rfl rfl 27 _ ZA.out hsi hz hone ?_
        refine hK.out _ _ hS23 (fun hS23 => ?_)
        clear hK K ZA
        try simp only [List.getElem_toArray, List.getElem_cons_succ, List.getElem_cons_zero, Act.put, List.setIfInBounds_toArray, List.set_cons_zero, List.set_cons_succ]
        generalize x22.setRow (x2.heap.size) R = x24 at *
        refine wpAnyH_done (by kernel_rfl) ?_ _
        go_wp2_with fail
        go_meet
        exact ⟨x2.heap.size, rfl, hS23.add ZAs.out⟩
    · go_simp
      have hS25 := hS0.next (alQ_up wq (.cells #[Value.int .u64 0, .int .u64 0, .int .u64 0, .int .u64 0, .int .u64 0, .int .u64 0, .int .u64 0, .int .u64 0] 27))
      have ZA := Lib.hid (RQ.new wq 27 #[Value.int .u64 0, .int .u64 0, .int .u64 0, .int .u64 0, .int .u64 0, .int .u64 0, .int .u64 0, .int .u64 0])
      refine hK.out _ _ hS25 (fun hS25 => ?_)
      clear hK K
      try simp only [List.getElem_toArray, List.getElem_cons_succ, List.getElem_cons_zero, Act.put, List.setIfInBounds_toArray, List.set_cons_zero, List.set_cons_succ]
      generalize wq.alloc (.cells #[Value.int .u64 0, .int .u64 0, .int .u64 0, .int .u64 0, .int .u64 0, .int .u64 0, .int .u64 0, .int .u64 0] 27) = x26 at *
      refine wpAnyH_ready (rs := [1]) (by kernel_rfl) (by simp) ?_
      refine AllReadyH.cons rfl (fun K hK => ?_) AllReadyH.nil
      go_simp
      refine (CA _).out.mono ?_; rintro e x28 ⟨rfl, hb⟩
      have hS27 := hS25.next hb
      have ZA := Lib.hid (ZA.out.up hb)
      clear hb
      refine hK.out _ _ hS27 (fun hS27 => ?_)
      clear hK K
      try simp only [List.getElem_toArray, List.getElem_cons_succ, List.getElem_cons_zero, Act.put, List.setIfInBounds_toArray, List.set_cons_zero, List.set_cons_succ]
      refine wpAnyH_ready (rs := [3]) (by kernel_rfl) (by simp) ?_
      refine AllReadyH.cons rfl (fun K hK => ?_) AllReadyH.nil
      go_simp
      refine (CB _).out.mono ?_; rintro e x30 ⟨rfl, hb⟩
      have hS29 := hS27.next hb
      have ZA := Lib.hid (ZA.out.up hb)
      clear hb
      refine hK.out _ _ hS29 (fun hS29 => ?_)
      clear hK K
      try simp only [List.getElem_toArray, List.getElem_cons_succ, List.getElem_cons_zero, Act.put, List.setIfInBounds_toArray, List.set_cons_zero, List.set_cons_succ]
      refine wpAnyH_ready (rs := [4]) (by kernel_rfl) (by simp) ?_
      refine AllReadyH.cons rfl (fun K hK => ?_) AllReadyH.nil
      go_simp
      refine (C1 _).out.mono ?_; rintro e x32 ⟨rfl, hb⟩
      have hS31 := hS29.next hb
      have ZA := Lib.hid (ZA.out.up hb)
      clear hb
      refine hK.out _ _ hS31 (fun hS31 => ?_)
      clear hK K
      try simp only [List.getElem_toArray, List.getElem_cons_succ, List.getElem_cons_zero, Act.put, List.setIfInBounds_toArray, List.set_cons_zero, List.set_cons_succ]
      refine wpAnyH_ready (rs := [6]) (by kernel_rfl) (by simp) ?_
      refine AllReadyH.cons rfl (fun K hK => ?_) AllReadyH.nil
      have hS33 := hS31.put hS0 (Nat.le_refl _) R
      have ZAs := Lib.hid (ZA.out.row R)
      refine wp_store_row 27 _ _ rfl (wq.heap.size) R rfl rfl 27 _ ZA.out hsi hz hone ?_
      refine hK.out _ _ hS33 (fun hS33 => ?_)
      clear hK K ZA
      try simp only [List.getElem_toArray, List.getElem_cons_succ, List.getElem_cons_zero, Act.put, List.setIfInBounds_toArray, List.set_cons_zero, List.set_cons_succ]
      generalize x32.setRow (wq.heap.size) R = x34 at *
      refine wpAnyH_done (by kernel_rfl) ?_ _
      go_wp2_with fail
      go_meet
      exact ⟨wq.heap.size, rfl, hS33.add ZAs.out⟩
  case rest =>
    obtain ⟨g5, rfl, hR⟩ := hcut
    clear hS0 HW C1
    go_upto_region 2 with fail
    go_cut [6] from 7 to 20 (fun v6 wx => ∃ g6, v6 = .pointer (some ⟨g6, 0, none⟩) ∧ Hold w ((g6, 27, R) :: ((g5, 27, R) :: [(w.heap.size, 26, P1), (w.heap.size + 1, 26, P2)])) wx)
    case first =>
      clear EQ
      refine wp_region_held_drew (S := Hold w ((g5, 27, R) :: [(w.heap.size, 26, P1), (w.heap.size + 1, 26, P2)])) (by kernel_rfl) hR.drew (fun hS0 => ?_)
      generalize wc.drew = wq at *
      refine wpAnyH_take (i := 0) (v := .agg P1) rfl (by kernel_rfl) (by kernel_rfl) (by kernel_rfl) (fun _ _ _ h => h) (Or.inl ⟨by kernel_rfl, fun V hV => exec_load_row 26 _ rfl w.heap.size rfl 26 P1 _ (hV.1 (w.heap.size, 26, P1) (by simp)) Try.underlying26 rfl i1⟩) (by assumption) ?_
      try simp only [List.getElem_toArray, List.getElem_cons_succ, List.getElem_cons_zero, Act.put, List.setIfInBounds_toArray, List.set_cons_zero, List.set_cons_succ]
      refine wpAnyH_take (i := 2) (v := .agg P2) rfl (by kernel_rfl) (by kernel_rfl) (by kernel_rfl) (fun _ _ _ h => h) (Or.inl ⟨by kernel_rfl, fun V hV => exec_load_row 26 _ rfl (w.heap.size + 1) rfl 26 P2 _ (hV.1 ((w.heap.size + 1), 26, P2) (by simp)) Try.underlying26 rfl i2⟩) (by assumption) ?_
      try simp only [List.getElem_toArray, List.getElem_cons_succ, List.getElem_cons_zero, Act.put, List.setIfInBounds_toArray, List.set_cons_zero, List.set_cons_succ]
      refine wpAnyH_ready (rs := [1, 5]) (by kernel_rfl) (by simp) ?_
      refine AllReadyH.cons rfl (fun K hK => ?_) (AllReadyH.cons rfl (fun K hK => ?_) AllReadyH.nil)
      · go_simp
        refine (CA _).out.mono ?_; rintro e x2 ⟨rfl, hb⟩
        have hS1 := hS0.next hb
        clear hb
        refine hK.out _ _ hS1 (fun hS1 => ?_)
        clear hK K
        try simp only [List.getElem_toArray, List.getElem_cons_succ, List.getElem_cons_zero, Act.put, List.setIfInBounds_toArray, List.set_cons_zero, List.set_cons_succ]
        refine wpAnyH_ready (rs := [3, 5]) (by kernel_rfl) (by simp) ?_
        refine AllReadyH.cons rfl (fun K hK => ?_) (AllReadyH.cons rfl (fun K hK => ?_) AllReadyH.nil)
        · go_simp
          refine (CB _).out.mono ?_; rintro e x4 ⟨rfl, hb⟩
          have hS3 := hS1.next hb
          clear hb
          refine hK.out _ _ hS3 (fun hS3 => ?_)
          clear hK K
          try simp only [List.getElem_toArray, List.getElem_cons_succ, List.getElem_cons_zero, Act.put, List.setIfInBounds_toArray, List.set_cons_zero, List.set_cons_succ]
          refine wpAnyH_ready (rs := [4, 5]) (by kernel_rfl) (by simp) ?_
          refine AllReadyH.cons rfl (fun K hK => ?_) (AllReadyH.cons rfl (fun K hK => ?_) AllReadyH.nil)
          · go_simp
            refine (C2 _).out.mono ?_; rintro e x6 ⟨rfl, hb⟩
            have hS5 := hS3.next hb
            clear hb
            refine hK.out _ _ hS5 (fun hS5 => ?_)
            clear hK K
            try simp only [List.getElem_toArray, List.getElem_cons_succ, List.getElem_cons_zero, Act.put, List.setIfInBounds_toArray, List.set_cons_zero, List.set_cons_succ]
            refine wpAnyH_ready (rs := [5]) (by kernel_rfl) (by simp) ?_
            refine AllReadyH.cons rfl (fun K hK => ?_) AllReadyH.nil
            go_simp
            have hS7 := hS5.next (alQ_up x6 (.cells #[Value.int .u64 0, .int .u64 0, .int .u64 0, .int .u64 0, .int .u64 0, .int .u64 0, .int .u64 0, .int .u64 0] 27))
            have ZA := Lib.hid (RQ.new x6 27 #[Value.int .u64 0, .int .u64 0, .int .u64 0, .int .u64 0, .int .u64 0, .int .u64 0, .int .u64 0, .int .u64 0])
            refine hK.out _ _ hS7 (fun hS7 => ?_)
            clear hK K
            try simp only [List.getElem_toArray, List.getElem_cons_succ, List.getElem_cons_zero, Act.put, List.setIfInBounds_toArray, List.set_cons_zero, List.set_cons_succ]
            generalize x6.alloc (.cells #[Value.int .u64 0, .int .u64 0, .int .u64 0, .int .u64 0, .int .u64 0, .int .u64 0, .int .u64 0, .int .u64 0] 27) = x8 at *
            refine wpAnyH_ready (rs := [6]) (by kernel_rfl) (by simp) ?_
            refine AllReadyH.cons rfl (fun K hK => ?_) AllReadyH.nil
            have hS9 := hS7.put hS5 (Nat.le_refl _) R
            have ZAs := Lib.hid (ZA.out.row R)
            refine wp_store_row 27 _ _ rfl (x6.heap.size) R rfl rfl 27 _ ZA.out hsi hz hone ?_
            refine hK.out _ _ hS9 (fun hS9 => ?_)
            clear hK K ZA
            try simp only [List.getElem_toArray, List.getElem_cons_succ, List.getElem_cons_zero, Act.put, List.setIfInBounds_toArray, List.set_cons_zero, List.set_cons_succ]
            generalize x8.setRow (x6.heap.size) R = x10 at *
            refine wpAnyH_done (by kernel_rfl) ?_ _
            go_wp2_with fail
            go_meet
            exact ⟨x6.heap.size, rfl, hS9.add ZAs.out⟩
          · go_simp
            have hS11 := hS3.next (alQ_up x4 (.cells #[Value.int .u64 0, .int .u64 0, .int .u64 0, .int .u64 0, .int .u64 0, .int .u64 0, .int .u64 0, .int .u64 0] 27))
            have ZA := Lib.hid (RQ.new x4 27 #[Value.int .u64 0, .int .u64 0, .int .u64 0, .int .u64 0, .int .u64 0, .int .u64 0, .int .u64 0, .int .u64 0])
            refine hK.out _ _ hS11 (fun hS11 => ?_)
            clear hK K
            try simp only [List.getElem_toArray, List.getElem_cons_succ, List.getElem_cons_zero, Act.put, List.setIfInBounds_toArray, List.set_cons_zero, List.set_cons_succ]
            generalize x4.alloc (.cells #[Value.int .u64 0, .int .u64 0, .int .u64 0, .int .u64 0, .int .u64 0, .int .u64 0, .int .u64 0, .int .u64 0] 27) = x12 at *
            refine wpAnyH_ready (rs := [4]) (by kernel_rfl) (by simp) ?_
            refine AllReadyH.cons rfl (fun K hK => ?_) AllReadyH.nil
            go_simp
            refine (C2 _).out.mono ?_; rintro e x14 ⟨rfl, hb⟩
            have hS13 := hS11.next hb
            have ZA := Lib.hid (ZA.out.up hb)
            clear hb
            refine hK.out _ _ hS13 (fun hS13 => ?_)
            clear hK K
            try simp only [List.getElem_toArray, List.getElem_cons_succ, List.getElem_cons_zero, Act.put, List.setIfInBounds_toArray, List.set_cons_zero, List.set_cons_succ]
            refine wpAnyH_ready (rs := [6]) (by kernel_rfl) (by simp) ?_
            refine AllReadyH.cons rfl (fun K hK => ?_) AllReadyH.nil
            have hS15 := hS13.put hS3 (Nat.le_refl _) R
            have ZAs := Lib.hid (ZA.out.row R)
            refine wp_store_row 27 _ _ rfl (x4.heap.size) R rfl rfl 27 _ ZA.out hsi hz hone ?_
            refine hK.out _ _ hS15 (fun hS15 => ?_)
            clear hK K ZA
            try simp only [List.getElem_toArray, List.getElem_cons_succ, List.getElem_cons_zero, Act.put, List.setIfInBounds_toArray, List.set_cons_zero, List.set_cons_succ]
            generalize x14.setRow (x4.heap.size) R = x16 at *
            refine wpAnyH_done (by kernel_rfl) ?_ _
            go_wp2_with fail
            go_meet
            exact ⟨x4.heap.size, rfl, hS15.add ZAs.out⟩
        · go_simp
          have hS17 := hS1.next (alQ_up x2 (.cells #[Value.int .u64 0, .int .u64 0, .int .u64 0, .int .u64 0, .int .u64 0, .int .u64 0, .int .u64 0, .int .u64 0] 27))
          have ZA := Lib.hid (RQ.new x2 27 #[Value.int .u64 0, .int .u64 0, .int .u64 0, .int .u64 0, .int .u64 0, .int .u64 0, .int .u64 0, .int .u64 0])
          refine hK.out _ _ hS17 (fun hS17 => ?_)
          clear hK K
          try simp only [List.getElem_toArray, List.getElem_cons_succ, List.getElem_cons_zero, Act.put, List.setIfInBounds_toArray, List.set_cons_zero, List.set_cons_succ]
          generalize x2.alloc (.cells #[Value.int .u64 0, .int .u64 0, .int .u64 0, .int .u64 0, .int .u64 0, .int .u64 0, .int .u64 0, .int .u64 0] 27) = x18 at *
          refine wpAnyH_ready (rs := [3]) (by kernel_rfl) (by simp) ?_
          refine AllReadyH.cons rfl (fun K hK => ?_) AllReadyH.nil
          go_simp
          refine (CB _).out.mono ?_; rintro e x20 ⟨rfl, hb⟩
          have hS19 := hS17.next hb
          have ZA := Lib.hid (ZA.out.up hb)
          clear hb
          refine hK.out _ _ hS19 (fun hS19 => ?_)
          clear hK K
          try simp only [List.getElem_toArray, List.getElem_cons_succ, List.getElem_cons_zero, Act.put, List.setIfInBounds_toArray, List.set_cons_zero, List.set_cons_succ]
          refine wpAnyH_ready (rs := [4]) (by kernel_rfl) (by simp) ?_
          refine AllReadyH.cons rfl (fun K hK => ?_) AllReadyH.nil
          go_simp
          refine (C2 _).out.mono ?_; rintro e x22 ⟨rfl, hb⟩
          have hS21 := hS19.next hb
          have ZA := Lib.hid (ZA.out.up hb)
          clear hb
          refine hK.out _ _ hS21 (fun hS21 => ?_)
          clear hK K
          try simp only [List.getElem_toArray, List.getElem_cons_succ, List.getElem_cons_zero, Act.put, List.setIfInBounds_toArray, List.set_cons_zero, List.set_cons_succ]
          refine wpAnyH_ready (rs := [6]) (by kernel_rfl) (by simp) ?_
          refine AllReadyH.cons rfl (fun K hK => ?_) AllReadyH.nil
          have hS23 := hS21.put hS1 (Nat.le_refl _) R
          have ZAs := Lib.hid (ZA.out.row R)
          refine wp_store_row 27 _ _ rfl (x2.heap.size) R rfl rfl 27 _ ZA.out hsi hz hone ?_
          refine hK.out _ _ hS23 (fun hS23 => ?_)
          clear hK K ZA
          try simp only [List.getElem_toArray, List.getElem_cons_succ, List.getElem_cons_zero, Act.put, List.setIfInBounds_toArray, List.set_cons_zero, List.set_cons_succ]
          generalize x22.setRow (x2.heap.size) R = x24 at *
          refine wpAnyH_done (by kernel_rfl) ?_ _
          go_wp2_with fail
          go_meet
          exact ⟨x2.heap.size, rfl, hS23.add ZAs.out⟩
      · go_simp
        have hS25 := hS0.next (alQ_up wq (.cells #[Value.int .u64 0, .int .u64 0, .int .u64 0, .int .u64 0, .int .u64 0, .int .u64 0, .int .u64 0, .int .u64 0] 27))
        have ZA := Lib.hid (RQ.new wq 27 #[Value.int .u64 0, .int .u64 0, .int .u64 0, .int .u64 0, .int .u64 0, .int .u64 0, .int .u64 0, .int .u64 0])
        refine hK.out _ _ hS25 (fun hS25 => ?_)
        clear hK K
        try simp only [List.getElem_toArray, List.getElem_cons_succ, List.getElem_cons_zero, Act.put, List.setIfInBounds_toArray, List.set_cons_zero, List.set_cons_succ]
        generalize wq.alloc (.cells #[Value.int .u64 0, .int .u64 0, .int .u64 0, .int .u64 0, .int .u64 0, .int .u64 0, .int .u64 0, .int .u64 0] 27) = x26 at *
        refine wpAnyH_ready (rs := [1]) (by kernel_rfl) (by simp) ?_
        refine AllReadyH.cons rfl (fun K hK => ?_) AllReadyH.nil
        go_simp
        refine (CA _).out.mono ?_; rintro e x28 ⟨rfl, hb⟩
        have hS27 := hS25.next hb
        have ZA := Lib.hid (ZA.out.up hb)
        clear hb
        refine hK.out _ _ hS27 (fun hS27 => ?_)
        clear hK K
        try simp only [List.getElem_toArray, List.getElem_cons_succ, List.getElem_cons_zero, Act.put, List.setIfInBounds_toArray, List.set_cons_zero, List.set_cons_succ]
        refine wpAnyH_ready (rs := [3]) (by kernel_rfl) (by simp) ?_
        refine AllReadyH.cons rfl (fun K hK => ?_) AllReadyH.nil
        go_simp
        refine (CB _).out.mono ?_; rintro e x30 ⟨rfl, hb⟩
        have hS29 := hS27.next hb
        have ZA := Lib.hid (ZA.out.up hb)
        clear hb
        refine hK.out _ _ hS29 (fun hS29 => ?_)
        clear hK K
        try simp only [List.getElem_toArray, List.getElem_cons_succ, List.getElem_cons_zero, Act.put, List.setIfInBounds_toArray, List.set_cons_zero, List.set_cons_succ]
        refine wpAnyH_ready (rs := [4]) (by kernel_rfl) (by simp) ?_
        refine AllReadyH.cons rfl (fun K hK => ?_) AllReadyH.nil
        go_simp
        refine (C2 _).out.mono ?_; rintro e x32 ⟨rfl, hb⟩
        have hS31 := hS29.next hb
        have ZA := Lib.hid (ZA.out.up hb)
        clear hb
        refine hK.out _ _ hS31 (fun hS31 => ?_)
        clear hK K
        try simp only [List.getElem_toArray, List.getElem_cons_succ, List.getElem_cons_zero, Act.put, List.setIfInBounds_toArray, List.set_cons_zero, List.set_cons_succ]
        refine wpAnyH_ready (rs := [6]) (by kernel_rfl) (by simp) ?_
        refine AllReadyH.cons rfl (fun K hK => ?_) AllReadyH.nil
        have hS33 := hS31.put hS0 (Nat.le_refl _) R
        have ZAs := Lib.hid (ZA.out.row R)
        refine wp_store_row 27 _ _ rfl (wq.heap.size) R rfl rfl 27 _ ZA.out hsi hz hone ?_
        refine hK.out _ _ hS33 (fun hS33 => ?_)
        clear hK K ZA
        try simp only [List.getElem_toArray, List.getElem_cons_succ, List.getElem_cons_zero, Act.put, List.setIfInBounds_toArray, List.set_cons_zero, List.set_cons_succ]
        generalize x32.setRow (wq.heap.size) R = x34 at *
        refine wpAnyH_done (by kernel_rfl) ?_ _
        go_wp2_with fail
        go_meet
        exact ⟨wq.heap.size, rfl, hS33.add ZAs.out⟩
    case rest =>
      obtain ⟨g6, rfl, hQ⟩ := hcut
      have N6 : Hid (RQ wc g6 27 R) := Lib.hid (hQ.1 (g6, 27, R) (by simp))
      have N5 : Hid (RQ wc g5 27 R) := Lib.hid (hQ.1 (g5, 27, R) (by simp))
      have BQ := Lib.hid hQ.2
      clear hR hQ C2 CA CB
      go_wp2_with (first
        | (refine wpList_load_row rfl 27 _ rfl g6 rfl 27 R (0, 0) _ (by have h := N6.out; exact h) Try.underlying27 rfl hsi ?_)
        | (refine wpList_load_row rfl 27 _ rfl g5 rfl 27 R (0, 0) _ (by have h := N5.out; exact h) Try.underlying27 rfl hsi ?_))
      refine (EQ _).out.mono ?_; rintro e w9 ⟨rfl, hb9⟩
      have BF := Lib.hid (BQ.out.trans (hb9.mono BQ.out.size))
      clear hb9
      go_wp2
      go_ret
      exact ⟨rfl, BF.out⟩
end Go.Proofs.Ytbbjcgnoialidaa
