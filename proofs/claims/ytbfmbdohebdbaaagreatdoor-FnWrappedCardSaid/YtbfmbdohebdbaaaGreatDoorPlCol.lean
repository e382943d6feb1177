/-
  What impl's blocks of planes answer whose columns are mixed; impl.PlaneColumns.
-/
import Derived.Test.YtbfmbdohebdbaaaGreatDoorPlR
import Derived.Test.YtbfmbdohebdbaaaGreatDoorHold2
import Derived.Test.YtbfmbdohebdbaaaGreatDoorCols
import Derived.Deep.CutRange
set_option linter.unusedVariables false
set_option linter.unusedSimpArgs false
namespace Go.Proofs.YtbfmbdohebdbaaaGreatDoor
open Go Go.RowKit

theorem Hold.fin {w V : World} {l : List (Nat × TypeId × Array Value)} {g : Nat} {t : TypeId} {c : Array Value} (h : Hold w ((g, t, c) :: l) V) (hg : w.heap.size ≤ g) (hl : ∀ x, x ∈ l → x.1 ≠ g) (R : Array Value) : Hold w ((g, t, R) :: l) (V.setRow g R) :=
  ⟨fun x hx => by
    rcases List.mem_cons.1 hx with rfl | hx
    · exact (h.1 (g, t, c) (by simp)).row R
    · exact (h.1 x (by simp [hx])).other R (hl x hx), below_setRow h.2 hg R⟩
theorem Hold.drop {w V : World} {l : List (Nat × TypeId × Array Value)} {a b : Nat × TypeId × Array Value} (h : Hold w (a :: b :: l) V) : Hold w (a :: l) V :=
  ⟨fun x hx => by
    rcases List.mem_cons.1 hx with rfl | hx
    · exact h.1 _ (by simp)
    · exact h.1 x (by simp [hx]), h.2⟩
theorem Hold.add2 {w V : World} {l : List (Nat × TypeId × Array Value)} {a : Nat × TypeId × Array Value} (h : Hold w (a :: l) V) {g : Nat} {t : TypeId} {cs : Array Value} (r : RQ V g t cs) : Hold w (a :: (g, t, cs) :: l) V :=
  ⟨fun x hx => by
    rcases List.mem_cons.1 hx with rfl | hx
    · exact h.1 _ (by simp)
    · rcases List.mem_cons.1 hx with rfl | hx
      · exact r
      · exact h.1 x (by simp [hx]), h.2⟩
theorem fac_info (F : Nat → UInt8) : (Tryz.prog.info? 128).map (·.size) = some (fac F).size := by kernel_rfl
set_option maxRecDepth 100000 in
set_option maxHeartbeats 6400000 in
theorem mixedP (F s : Nat → UInt8) (w : World) :
    Calls Tryz.prog 236 #[.agg (pc s), .agg (fac F)] w fun e w' => e = .returned (.agg (pc (colsB (mixW F) s))) ∧ Below w.heap.size w w' := by
  obtain ⟨aa, haa⟩ : ∃ aa : Nat → Nat → UInt8, (fun r i => colsTo F s i r) = aa := ⟨_, rfl⟩
  have e4 : pc (colsB (mixW F) s) = pc (aa 4) := pc_ext fun i _ => by rw [← haa]; exact (colsTo_4 F s i).symm
  have HS := fun r W => Lib.hid (sameP (F r) W)
  have HM := fun r W => Lib.hid (timesP s (fun _ => F r) W)
  have HT := fun r hr W => Lib.hid (turned4 (fun i => mul (s i) (F r)) r hr W)
  have HX : ∀ r W, Hid (Calls Tryz.prog 137 #[.agg (pc (aa r)), .agg (pc (fun i => mul (s (onAt 4 (4 - r) i)) (F r)))] W fun e w' => e = .returned (.agg (pc (aa (r + 1)))) ∧ Below W.heap.size W w') := fun r W => Lib.hid (by
    have h := xorP (aa r) (fun i => mul (s (onAt 4 (4 - r) i)) (F r)) W
    have e : (fun i => aa r i ^^^ mul (s (onAt 4 (4 - r) i)) (F r)) = aa (r + 1) := by rw [← haa]; rfl
    rwa [e] at h)
  have HIX := fun k hk W => index_fac F k hk W
  have e0 : aa 0 = fun _ => 0 := by rw [← haa]; rfl
  have fi := fac_info F
  rw [e4]
  obtain ⟨P1, hP1⟩ : ∃ P1, pc s = P1 := ⟨_, rfl⟩
  obtain ⟨FA, hFA⟩ : ∃ FA, fac F = FA := ⟨_, rfl⟩
  have i1 := blocks_info s
  have j1 := planes_info s
  rw [hP1] at i1 j1 HM ⊢
  rw [hFA] at fi HIX ⊢
  clear e4 haa hP1 hFA
  obtain ⟨W, hW⟩ : ∃ W, (((w.alloc (.cells P1 255)).alloc (.cells FA 128)).alloc (.cells zeroQ 135)).alloc (.cells zeroQ 135) = W := ⟨_, rfl⟩
  obtain ⟨a1, a2, a3, a4, hb⟩ := newQ4 w _ _ _ _ _ _ _ _ hW
  have a4 : RQ W (w.heap.size + 1 + 1 + 1) 135 (pc (aa 0)) := by rw [e0, ← zeroQ_pc]; exact a4
  have h0 : Hold w [(w.heap.size + 1 + 1 + 1, 135, pc (aa 0)), (w.heap.size, 255, P1), (w.heap.size + 1 + 1, 135, zeroQ)] W := (((Hold.nil hb).add a3).add a1).add a4
  have HW := Lib.hid hW
  have A2 := Lib.hid a2
  clear hW a1 a2 a3 a4 hb e0
  unfold zeroQ at HW
  go_enter Tryz.func236, Tryz.ntmps236
  go_wp2_with (refine wpList_load_row rfl 128 _ rfl (w.heap.size + 1) rfl 128 FA (0, 0) _ (by rw [HW.out]; exact A2.out) Tryz.underlying128 rfl fi ?_)
  rw [HW.out]
  clear A2 fi
  go_loopw [10] (fun v wr => ∃ r : Nat, r ≤ 4 ∧ v = .int .i64 r ∧ Hold w [(w.heap.size + 1 + 1 + 1, 135, pc (aa r)), (w.heap.size, 255, P1), (w.heap.size + 1 + 1, 135, zeroQ)] wr) (fun v _ => 4 - (intOf v).toNat)
  case atStart => exact ⟨0, by omega, rfl, h0⟩
  case round =>
    obtain ⟨r, hr, rfl, hq⟩ := hrel
    by_cases hlt : r < 4
    · have hr1 : (r : Int) < 4 := by omega
      have hr0 : (0 : Int) ≤ (r : Int) := by omega
      have hix := HIX r hlt
      have C1 := HS r
      have C2 := HM r
      have C3 := HT r hlt
      have C4 := HX r
      have hb8 := (F r).toNat_lt
      have q3 : IntKind.i64.wrap (4 - (r : Int)) = 4 - (r : Int) := IntWalk.i64_in _ (by omega)
      have e4r : ((4 - r : Nat) : Int) = 4 - (r : Int) := by omega
      rw [e4r] at C3
      have g0 := Lib.hid hq
      clear h0 HS HM HT HX HIX hq e4r
      go_upto_region 5 with fail
      go_cut [8, 10] from 10 to 26 (fun v8 v10 wx => ∃ g8, v8 = .pointer (some ⟨g8, 0, none⟩) ∧ v10 = .int .i64 (r : Int) ∧ Hold w [(w.heap.size + 1 + 1 + 1, 135, pc (aa r)), (w.heap.size, 255, P1), (w.heap.size + 1 + 1, 135, zeroQ)] wx ∧ RQ wx g8 255 (pc (fun i => mul (s i) (F r))) ∧ w.heap.size + 1 + 1 + 1 < g8)
      case first =>
        have bi := blocks_info (fun i => mul (s i) (F r))
        have bo := pc_one (fun i => mul (s i) (F r))
        have bz : #[Value.int .u64 0, .int .u64 0, .int .u64 0, .int .u64 0, .int .u64 0, .int .u64 0, .int .u64 0, .int .u64 0].size = (pc (fun i => mul (s i) (F r))).size := by rw [pc_size]; rfl
        have hbk : Tryz.prog.built 255 [(0, .agg (pc (fun i => mul (s i) (F r))))] = some (pc (fun i => mul (s i) (F r))) := built_blocks _
        generalize pc (fun i => mul (s i) (F r)) = K1 at *
        generalize pc (fun _ => F r) = P2 at *
        generalize pc (aa r) = cur at *
        generalize (F r).toNat = m at *
        have hS0 : Hold w [(w.heap.size + 1 + 1 + 1, 135, cur), (w.heap.size, 255, P1), (w.heap.size + 1 + 1, 135, zeroQ)] wr.drew := g0.out.drew
        clear g0 C3 C4 hix
        refine wp_region_held_drew (S := Hold w [(w.heap.size + 1 + 1 + 1, 135, cur), (w.heap.size, 255, P1), (w.heap.size + 1 + 1, 135, zeroQ)]) (by kernel_rfl) hS0 (fun hS0 => ?_)
        generalize wr.drew = wq at *
        refine tk 0 (v := ?_) ?_ (by assumption) ?_
        rotate_left
        · intro w hSw
          go_simp
          first | done | with_reducible rfl
        try simp only [lay]
        refine wpAnyH_take (i := 1) (v := .agg P1) rfl (by kernel_rfl) (by kernel_rfl) (by kernel_rfl) (fun _ _ _ h => h) (Or.inl ⟨by kernel_rfl, fun V hV => exec_load_row 135 _ rfl w.heap.size rfl 255 P1 _ (hV.1 (w.heap.size, 255, P1) (by simp)) Tryz.underlying135 rfl j1⟩) (by assumption) ?_
        try simp only [lay]
        refine tk 2 (v := ?_) ?_ (by assumption) ?_
        rotate_left
        · intro w hSw
          go_simp
          first | done | with_reducible rfl
        try simp only [lay]
        refine wpAnyH_ready (rs := [3, 6]) (by kernel_rfl) (by simp) ?_
        refine AllReadyH.cons rfl (fun K hK => ?_) (AllReadyH.cons rfl (fun K hK => ?_) AllReadyH.nil)
        · go_simp
          refine (C1 _).out.mono ?_; rintro e x2 ⟨rfl, hb⟩
          have hS1 := hS0.next hb
          clear hb
          refine hK.out _ _ hS1 (fun hS1 => ?_)
          clear hK K
          try simp only [lay]
          refine wpAnyH_ready (rs := [4, 6]) (by kernel_rfl) (by simp) ?_
          refine AllReadyH.cons rfl (fun K hK => ?_) (AllReadyH.cons rfl (fun K hK => ?_) AllReadyH.nil)
          · go_simp
            refine (C2 _).out.mono ?_; rintro e x4 ⟨rfl, hb⟩
            have hS3 := hS1.next hb
            clear hb
            refine hK.out _ _ hS3 (fun hS3 => ?_)
            clear hK K
            try simp only [lay]
            refine wpAnyH_take (i := 5) (v := .agg K1) rfl (by kernel_rfl) (by kernel_rfl) (by kernel_rfl) (fun _ _ _ h => h) (Or.inl ⟨by kernel_rfl, fun V hV => exec_build1 255 _ rfl K1 K1 rfl hbk⟩) (by assumption) ?_
            try simp only [lay]
            refine wpAnyH_ready (rs := [6]) (by kernel_rfl) (by simp) ?_
            refine AllReadyH.cons rfl (fun K hK => ?_) AllReadyH.nil
            go_simp
            have hS5 := hS3.next (alQ_up x4 (.cells #[Value.int .u64 0, .int .u64 0, .int .u64 0, .int .u64 0, .int .u64 0, .int .u64 0, .int .u64 0, .int .u64 0] 255))
            have ZA := Lib.hid (RQ.new x4 255 #[Value.int .u64 0, .int .u64 0, .int .u64 0, .int .u64 0, .int .u64 0, .int .u64 0, .int .u64 0, .int .u64 0])
            refine hK.out _ _ hS5 (fun hS5 => ?_)
            clear hK K
            try simp only [lay]
            generalize x4.alloc (.cells #[Value.int .u64 0, .int .u64 0, .int .u64 0, .int .u64 0, .int .u64 0, .int .u64 0, .int .u64 0, .int .u64 0] 255) = x6 at *
            refine wpAnyH_ready (rs := [7]) (by kernel_rfl) (by simp) ?_
            refine AllReadyH.cons rfl (fun K hK => ?_) AllReadyH.nil
            have hS7 := hS5.put hS3 (Nat.le_refl _) K1
            have ZAs := Lib.hid (ZA.out.row K1)
            refine wp_store_row 255 _ _ rfl (x4.heap.size) K1 rfl rfl 255 _ ZA.out bi bz bo ?_
            refine hK.out _ _ hS7 (fun hS7 => ?_)
            clear hK K ZA
            try simp only [lay]
            generalize x6.setRow (x4.heap.size) K1 = x8 at *
            refine wpAnyH_done (by kernel_rfl) ?_ _
            have M1 := ZAs.out
            have MF := Lib.hid hS7
            have ML := (hS3.1 (w.heap.size + 1 + 1 + 1, 135, cur) (by simp)).lt
            go_wp2_with fail
            go_meet
            exact ⟨x4.heap.size, rfl, rfl, MF.out, M1, ML⟩
          · go_simp
            have hS9 := hS1.next (alQ_up x2 (.cells #[Value.int .u64 0, .int .u64 0, .int .u64 0, .int .u64 0, .int .u64 0, .int .u64 0, .int .u64 0, .int .u64 0] 255))
            have ZA := Lib.hid (RQ.new x2 255 #[Value.int .u64 0, .int .u64 0, .int .u64 0, .int .u64 0, .int .u64 0, .int .u64 0, .int .u64 0, .int .u64 0])
            refine hK.out _ _ hS9 (fun hS9 => ?_)
            clear hK K
            try simp only [lay]
            generalize x2.alloc (.cells #[Value.int .u64 0, .int .u64 0, .int .u64 0, .int .u64 0, .int .u64 0, .int .u64 0, .int .u64 0, .int .u64 0] 255) = x10 at *
            refine wpAnyH_ready (rs := [4]) (by kernel_rfl) (by simp) ?_
            refine AllReadyH.cons rfl (fun K hK => ?_) AllReadyH.nil
            go_simp
            refine (C2 _).out.mono ?_; rintro e x12 ⟨rfl, hb⟩
            have hS11 := hS9.next hb
            have ZA := Lib.hid (ZA.out.up hb)
            clear hb
            refine hK.out _ _ hS11 (fun hS11 => ?_)
            clear hK K
            try simp only [lay]
            refine wpAnyH_take (i := 5) (v := .agg K1) rfl (by kernel_rfl) (by kernel_rfl) (by kernel_rfl) (fun _ _ _ h => h) (Or.inl ⟨by kernel_rfl, fun V hV => exec_build1 255 _ rfl K1 K1 rfl hbk⟩) (by assumption) ?_
            try simp only [lay]
            refine wpAnyH_ready (rs := [7]) (by kernel_rfl) (by simp) ?_
            refine AllReadyH.cons rfl (fun K hK => ?_) AllReadyH.nil
            have hS13 := hS11.put hS1 (Nat.le_refl _) K1
            have ZAs := Lib.hid (ZA.out.row K1)
            refine wp_store_row 255 _ _ rfl (x2.heap.size) K1 rfl rfl 255 _ ZA.out bi bz bo ?_
            refine hK.out _ _ hS13 (fun hS13 => ?_)
            clear hK K ZA
            try simp only [lay]
            generalize x12.setRow (x2.heap.size) K1 = x14 at *
            refine wpAnyH_done (by kernel_rfl) ?_ _
            have M1 := ZAs.out
            have MF := Lib.hid hS13
            have ML := (hS1.1 (w.heap.size + 1 + 1 + 1, 135, cur) (by simp)).lt
            go_wp2_with fail
            go_meet
            exact ⟨x2.heap.size, rfl, rfl, MF.out, M1, ML⟩
        · go_simp
          have hS15 := hS0.next (alQ_up wq (.cells #[Value.int .u64 0, .int .u64 0, .int .u64 0, .int .u64 0, .int .u64 0, .int .u64 0, .int .u64 0, .int .u64 0] 255))
          have ZA := Lib.hid (RQ.new wq 255 #[Value.int .u64 0, .int .u64 0, .int .u64 0, .int .u64 0, .int .u64 0, .int .u64 0, .int .u64 0, .int .u64 0])
          refine hK.out _ _ hS15 (fun hS15 => ?_)
          clear hK K
          try simp only [lay]
          generalize wq.alloc (.cells #[Value.int .u64 0, .int .u64 0, .int .u64 0, .int .u64 0, .int .u64 0, .int .u64 0, .int .u64 0, .int .u64 0] 255) = x16 at *
          refine wpAnyH_ready (rs := [3]) (by kernel_rfl) (by simp) ?_
          refine AllReadyH.cons rfl (fun K hK => ?_) AllReadyH.nil
          go_simp
          refine (C1 _).out.mono ?_; rintro e x18 ⟨rfl, hb⟩
          have hS17 := hS15.next hb
          have ZA := Lib.hid (ZA.out.up hb)
          clear hb
          refine hK.out _ _ hS17 (fun hS17 => ?_)
          clear hK K
          try simp only [lay]
          refine wpAnyH_ready (rs := [4]) (by kernel_rfl) (by simp) ?_
          refine AllReadyH.cons rfl (fun K hK => ?_) AllReadyH.nil
          go_simp
          refine (C2 _).out.mono ?_; rintro e x20 ⟨rfl, hb⟩
          have hS19 := hS17.next hb
          have ZA := Lib.hid (ZA.out.up hb)
          clear hb
          refine hK.out _ _ hS19 (fun hS19 => ?_)
          clear hK K
          try simp only [lay]
          refine wpAnyH_take (i := 5) (v := .agg K1) rfl (by kernel_rfl) (by kernel_rfl) (by kernel_rfl) (fun _ _ _ h => h) (Or.inl ⟨by kernel_rfl, fun V hV => exec_build1 255 _ rfl K1 K1 rfl hbk⟩) (by assumption) ?_
          try simp only [lay]
          refine wpAnyH_ready (rs := [7]) (by kernel_rfl) (by simp) ?_
          refine AllReadyH.cons rfl (fun K hK => ?_) AllReadyH.nil
          have hS21 := hS19.put hS0 (Nat.le_refl _) K1
          have ZAs := Lib.hid (ZA.out.row K1)
          refine wp_store_row 255 _ _ rfl (wq.heap.size) K1 rfl rfl 255 _ ZA.out bi bz bo ?_
          refine hK.out _ _ hS21 (fun hS21 => ?_)
          clear hK K ZA
          try simp only [lay]
          generalize x20.setRow (wq.heap.size) K1 = x22 at *
          refine wpAnyH_done (by kernel_rfl) ?_ _
          have M1 := ZAs.out
          have MF := Lib.hid hS21
          have ML := (hS0.1 (w.heap.size + 1 + 1 + 1, 135, cur) (by simp)).lt
          go_wp2_with fail
          go_meet
          exact ⟨wq.heap.size, rfl, rfl, MF.out, M1, ML⟩
      case rest =>
        obtain ⟨g8, rfl, rfl, h7, h8, h9⟩ := hcut
        have bi := blocks_info (fun i => mul (s i) (F r))
        have ci := planes_info (aa r)
        have ri := planes_info (aa (r + 1))
        have ro := pc_one (aa (r + 1))
        have rz : (pc (aa r)).size = (pc (aa (r + 1))).size := by rw [pc_size, pc_size]
        have h6 := h7.add2 h8
        obtain ⟨K1, hK1⟩ : ∃ K1, pc (fun i => mul (s i) (F r)) = K1 := ⟨_, rfl⟩
        obtain ⟨cur, hcur⟩ : ∃ cur, pc (aa r) = cur := ⟨_, rfl⟩
        obtain ⟨R, hR⟩ : ∃ R, pc (aa (r + 1)) = R := ⟨_, rfl⟩
        have HNE : Hid (∀ x, x ∈ [(g8, 255, K1), (w.heap.size, 255, P1), (w.heap.size + 1 + 1, 135, zeroQ)] → x.1 ≠ w.heap.size + 1 + 1 + 1) := Lib.hid (fun x hx => by
          simp only [List.mem_cons, List.not_mem_nil, or_false] at hx
          rcases hx with rfl | rfl | rfl <;> simp only <;> omega)
        rw [hK1] at h6 bi C3
        rw [hcur] at h6 ci rz C4
        rw [hR] at C4 ri ro rz
        have HR := Lib.hid hR
        generalize pc (fun i => mul (s (onAt 4 (4 - r) i)) (F r)) = TT at *
        have hH : Hold w [(w.heap.size + 1 + 1 + 1, 135, cur), (g8, 255, K1), (w.heap.size, 255, P1), (w.heap.size + 1 + 1, 135, zeroQ)] wc.drew := h6.drew
        have hS0 : ∃ c, Hold w [(w.heap.size + 1 + 1 + 1, 135, c), (g8, 255, K1), (w.heap.size, 255, P1), (w.heap.size + 1 + 1, 135, zeroQ)] wc.drew := ⟨cur, hH⟩
        clear hR hcur hK1 g0 C1 C2 h7 h8 h6
        go_wp2
        refine wp_region_held_drew (S := fun V => ∃ c, Hold w [(w.heap.size + 1 + 1 + 1, 135, c), (g8, 255, K1), (w.heap.size, 255, P1), (w.heap.size + 1 + 1, 135, zeroQ)] V) (by kernel_rfl) hS0 (fun hS1 => ?_)
        generalize wc.drew = wq at *
        refine wpAnyH_take (i := 1) (v := .agg K1) rfl (by kernel_rfl) (by kernel_rfl) (by kernel_rfl) (fun _ _ _ h => h) (Or.inl ⟨by kernel_rfl, fun V hV => exec_load_row 255 _ rfl g8 rfl 255 K1 _ (hV.elim fun c h => h.1 (g8, 255, K1) (by simp)) Tryz.underlying255 rfl bi⟩) (by assumption) ?_
        try simp only [lay]
        refine tk 2 (v := ?_) ?_ (by assumption) ?_
        rotate_left
        · intro w hSw
          obtain ⟨cc, _, _⟩ := hSw
          go_simp
          first | done | with_reducible rfl
        try simp only [lay]
        refine tk 3 (v := ?_) ?_ (by assumption) ?_
        rotate_left
        · intro w hSw
          obtain ⟨cc, _, _⟩ := hSw
          go_simp
          first | done | with_reducible rfl
        try simp only [lay]
        refine wpAnyH_ready (rs := [0, 4]) (by kernel_rfl) (by simp) ?_
        refine AllReadyH.cons rfl (fun K hK => ?_) (AllReadyH.cons rfl (fun K hK => ?_) AllReadyH.nil)
        · refine wp_load_row 135 _ rfl (w.heap.size + 1 + 1 + 1) rfl 135 cur (0, 0) _ (hH.1 (w.heap.size + 1 + 1 + 1, 135, cur) (by simp)) Tryz.underlying135 rfl ci ?_
          refine hK.out _ _ ⟨cur, hH⟩ (fun _ => ?_)
          clear hK K
          try simp only [lay]
          refine wpAnyH_ready (rs := [4]) (by kernel_rfl) (by simp) ?_
          refine AllReadyH.cons rfl (fun K hK => ?_) AllReadyH.nil
          go_simp
          refine (C3 _).out.mono ?_; rintro e x1 ⟨rfl, hb⟩
          have hH2 := hH.next hb
          clear hb
          refine hK.out _ _ ⟨cur, hH2⟩ (fun _ => ?_)
          clear hK K
          try simp only [lay]
          refine wpAnyH_ready (rs := [5]) (by kernel_rfl) (by simp) ?_
          refine AllReadyH.cons rfl (fun K hK => ?_) AllReadyH.nil
          go_simp
          refine (C4 _).out.mono ?_; rintro e x2 ⟨rfl, hb⟩
          have hH3 := hH2.next hb
          clear hb
          refine hK.out _ _ ⟨cur, hH3⟩ (fun _ => ?_)
          clear hK K
          try simp only [lay]
          refine wpAnyH_ready (rs := [6]) (by kernel_rfl) (by simp) ?_
          refine AllReadyH.cons rfl (fun K hK => ?_) AllReadyH.nil
          have M := hH3.fin (by omega) HNE.out R
          refine wp_store_row 135 _ _ rfl (w.heap.size + 1 + 1 + 1) R rfl rfl 135 cur (hH3.1 (w.heap.size + 1 + 1 + 1, 135, cur) (by simp)) ri rz ro ?_
          refine hK.out _ _ ⟨R, M⟩ (fun _ => ?_)
          clear hK K
          try simp only [lay]
          refine wpAnyH_done (by kernel_rfl) ?_ _
          have MF := Lib.hid M.drop
          clear M hS0 hS1 hH
          go_wp2
          go_roundw
          case rel => exact ⟨r + 1, by omega, by go_num, by rw [HR.out]; exact MF.out⟩
          case measure => simp [intOf]; omega
        · go_simp
          refine (C3 _).out.mono ?_; rintro e x1 ⟨rfl, hb⟩
          have hH2 := hH.next hb
          clear hb
          refine hK.out _ _ ⟨cur, hH2⟩ (fun _ => ?_)
          clear hK K
          try simp only [lay]
          refine wpAnyH_ready (rs := [0]) (by kernel_rfl) (by simp) ?_
          refine AllReadyH.cons rfl (fun K hK => ?_) AllReadyH.nil
          refine wp_load_row 135 _ rfl (w.heap.size + 1 + 1 + 1) rfl 135 cur (0, 0) _ (hH2.1 (w.heap.size + 1 + 1 + 1, 135, cur) (by simp)) Tryz.underlying135 rfl ci ?_
          refine hK.out _ _ ⟨cur, hH2⟩ (fun _ => ?_)
          clear hK K
          try simp only [lay]
          refine wpAnyH_ready (rs := [5]) (by kernel_rfl) (by simp) ?_
          refine AllReadyH.cons rfl (fun K hK => ?_) AllReadyH.nil
          go_simp
          refine (C4 _).out.mono ?_; rintro e x2 ⟨rfl, hb⟩
          have hH3 := hH2.next hb
          clear hb
          refine hK.out _ _ ⟨cur, hH3⟩ (fun _ => ?_)
          clear hK K
          try simp only [lay]
          refine wpAnyH_ready (rs := [6]) (by kernel_rfl) (by simp) ?_
          refine AllReadyH.cons rfl (fun K hK => ?_) AllReadyH.nil
          have M := hH3.fin (by omega) HNE.out R
          refine wp_store_row 135 _ _ rfl (w.heap.size + 1 + 1 + 1) R rfl rfl 135 cur (hH3.1 (w.heap.size + 1 + 1 + 1, 135, cur) (by simp)) ri rz ro ?_
          refine hK.out _ _ ⟨R, M⟩ (fun _ => ?_)
          clear hK K
          try simp only [lay]
          refine wpAnyH_done (by kernel_rfl) ?_ _
          have MF := Lib.hid M.drop
          clear M hS0 hS1 hH
          go_wp2
          go_roundw
          case rel => exact ⟨r + 1, by omega, by go_num, by rw [HR.out]; exact MF.out⟩
          case measure => simp [intOf]; omega
    · obtain rfl : r = 4 := by omega
      have hone := pc_one (aa 4)
      have hsi := planes_info (aa 4)
      have hz : zeroQ.size = (pc (aa 4)).size := by rw [pc_size]; rfl
      have g1 := hq.1 (w.heap.size + 1 + 1 + 1, 135, pc (aa 4)) (by simp)
      have g2 := hq.1 (w.heap.size + 1 + 1, 135, zeroQ) (by simp)
      have hsr := g2.row (pc (aa 4))
      have hbs : Hid (Below w.heap.size w (wr.setRow (w.heap.size + 1 + 1) (pc (aa 4)))) := Lib.hid (below_setRow hq.2 (by omega) _)
      generalize hR : pc (aa 4) = R at *
      have HR := Lib.hid hR
      clear hR h0 HS HM HT HX HIX hq
      have G1 := Lib.hid g1
      have G3 := Lib.hid g2
      have HSR := Lib.hid hsr
      clear g1 g2 hsr
      unfold RQ at G1 G3 HSR
      generalize zeroQ = Z at *
      go_wp2_with (first
        | (refine wpList_load_row rfl 135 _ rfl (w.heap.size + 1 + 1 + 1) rfl 135 R (0, 0) _ G1.out Tryz.underlying135 rfl hsi ?_)
        | (refine wpList_store_row rfl 135 _ _ rfl (w.heap.size + 1 + 1) R rfl rfl 135 Z G3.out hsi hz hone ?_))
      refine bodyPost_ret (v := .agg R) ?_ rfl ⟨by rw [HR.out], hbs.out⟩
      exact results_cell_row rfl _ _ (w.heap.size + 1 + 1) 135 R (0, 0) _ rfl HSR.out Tryz.underlying135 rfl hsi
set_option maxRecDepth 100000 in
set_option maxHeartbeats 1600000 in
theorem PlaneColumns_back (s : Nat → UInt8) (w : World) (hf : Fac4 w 2 unF) :
    Calls Tryz.prog 234 #[.agg (pc s), .bool true] w fun e w' => e = .returned (.agg (pc (colsB unmixW s))) ∧ Below w.heap.size w w' := by
  have C : ∀ W, Hid (Calls Tryz.prog 236 #[.agg (pc s), .agg (fac unF)] W fun e w' => e = .returned (.agg (pc (colsB unmixW s))) ∧ Below W.heap.size W w') := fun W => Lib.hid (by
    have h := mixedP unF s W
    rwa [show mixW unF = unmixW from funext unmix_f] at h)
  have i1 := planes_info s
  have hsi := planes_info (colsB unmixW s)
  have hone := pc_one (colsB unmixW s)
  have hz : zeroQ.size = (pc (colsB unmixW s)).size := by rw [pc_size]; rfl
  have hbk : Tryz.prog.built 255 [(0, .agg (pc s))] = some (pc s) := built_blocks _
  generalize pc (colsB unmixW s) = R at *
  generalize pc s = P1 at *
  obtain ⟨W0, hW⟩ : ∃ W0, (w.alloc (.cells P1 135)).alloc (.cells zeroQ 135) = W0 := ⟨_, rfl⟩
  obtain ⟨a1, az, hb0⟩ := newQ2 w _ _ _ _ hW
  have hcs := (Fac4.below hf hb0 hf.1).2
  have HW := Lib.hid hW
  have A1 := Lib.hid a1
  have AZ := Lib.hid az
  have B0 := Lib.hid hb0
  rw [← hW] at hcs
  clear hW a1 az hb0 hf
  unfold zeroQ at HW hcs
  unfold fac at C
  obtain ⟨c0, c1, c2, c3⟩ := hcs
  generalize (unF 0).toNat = f0 at *
  generalize (unF 1).toNat = f1 at *
  generalize (unF 2).toNat = f2 at *
  generalize (unF 3).toNat = f3 at *
  go_enter Tryz.func234, Tryz.ntmps234
  go_wp2_with (first
    | (refine wpList_load_row rfl 135 _ rfl w.heap.size rfl 135 P1 (0, 0) _ (by rw [HW.out]; exact A1.out) Tryz.underlying135 rfl i1 ?_)
    | (refine wpList_buildTo rfl 255 _ rfl (some 7) rfl P1 (Eq.trans (congrArg (Tryz.prog.built 255) (by kernel_rfl : _ = [(0, Value.agg P1)])) hbk) ?_))
  rw [HW.out]
  refine (C _).out.mono ?_; rintro e w1 ⟨rfl, hb1⟩
  have AZ1 := Lib.hid (AZ.out.up hb1)
  have B1 := Lib.hid (B0.out.trans (hb1.mono B0.out.size))
  have HSR := Lib.hid (AZ1.out.row R)
  have HB := Lib.hid (below_setRow B1.out (show w.heap.size ≤ w.heap.size + 1 by omega) R)
  clear hb1 AZ B0 A1 HW C c0 c1 c2 c3
  go_wp2_with (refine wpList_store_row rfl 135 _ _ rfl (w.heap.size + 1) R rfl rfl 135 _ (by have h := AZ1.out; exact h) hsi hz hone ?_)
  refine bodyPost_ret (v := .agg R) ?_ rfl ⟨rfl, HB.out⟩
  exact results_cell_row rfl _ _ (w.heap.size + 1) 135 R (0, 0) _ rfl (by have h := HSR.out; exact h) Tryz.underlying135 rfl hsi
set_option maxRecDepth 100000 in
set_option maxHeartbeats 1600000 in
theorem PlaneColumns_there (s : Nat → UInt8) (w : World) (hf : Fac4 w 1 mxF) :
    Calls Tryz.prog 234 #[.agg (pc s), .bool false] w fun e w' => e = .returned (.agg (pc (colsB mxW s))) ∧ Below w.heap.size w w' := by
  have C : ∀ W, Hid (Calls Tryz.prog 236 #[.agg (pc s), .agg (fac mxF)] W fun e w' => e = .returned (.agg (pc (colsB mxW s))) ∧ Below W.heap.size W w') := fun W => Lib.hid (by
    have h := mixedP mxF s W
    rwa [show mixW mxF = mxW from funext mxW_f] at h)
  have i1 := planes_info s
  have hsi := planes_info (colsB mxW s)
  have hone := pc_one (colsB mxW s)
  have hz : zeroQ.size = (pc (colsB mxW s)).size := by rw [pc_size]; rfl
  have hbk : Tryz.prog.built 255 [(0, .agg (pc s))] = some (pc s) := built_blocks _
  generalize pc (colsB mxW s) = R at *
  generalize pc s = P1 at *
  obtain ⟨W0, hW⟩ : ∃ W0, (w.alloc (.cells P1 135)).alloc (.cells zeroQ 135) = W0 := ⟨_, rfl⟩
  obtain ⟨a1, az, hb0⟩ := newQ2 w _ _ _ _ hW
  have hcs := (Fac4.below hf hb0 hf.1).2
  have HW := Lib.hid hW
  have A1 := Lib.hid a1
  have AZ := Lib.hid az
  have B0 := Lib.hid hb0
  rw [← hW] at hcs
  clear hW a1 az hb0 hf
  unfold zeroQ at HW hcs
  unfold fac at C
  obtain ⟨c0, c1, c2, c3⟩ := hcs
  generalize (mxF 0).toNat = f0 at *
  generalize (mxF 1).toNat = f1 at *
  generalize (mxF 2).toNat = f2 at *
  generalize (mxF 3).toNat = f3 at *
  go_enter Tryz.func234, Tryz.ntmps234
  go_wp2_with (first
    | (refine wpList_load_row rfl 135 _ rfl w.heap.size rfl 135 P1 (0, 0) _ (by rw [HW.out]; exact A1.out) Tryz.underlying135 rfl i1 ?_)
    | (refine wpList_buildTo rfl 255 _ rfl (some 11) rfl P1 (Eq.trans (congrArg (Tryz.prog.built 255) (by kernel_rfl : _ = [(0, Value.agg P1)])) hbk) ?_))
  rw [HW.out]
  refine (C _).out.mono ?_; rintro e w1 ⟨rfl, hb1⟩
  have AZ1 := Lib.hid (AZ.out.up hb1)
  have B1 := Lib.hid (B0.out.trans (hb1.mono B0.out.size))
  have HSR := Lib.hid (AZ1.out.row R)
  have HB := Lib.hid (below_setRow B1.out (show w.heap.size ≤ w.heap.size + 1 by omega) R)
  clear hb1 AZ B0 A1 HW C c0 c1 c2 c3
  go_wp2_with (refine wpList_store_row rfl 135 _ _ rfl (w.heap.size + 1) R rfl rfl 135 _ (by have h := AZ1.out; exact h) hsi hz hone ?_)
  refine bodyPost_ret (v := .agg R) ?_ rfl ⟨rfl, HB.out⟩
  exact results_cell_row rfl _ _ (w.heap.size + 1) 135 R (0, 0) _ rfl (by have h := HSR.out; exact h) Tryz.underlying135 rfl hsi
/-- how a column is mixed, there and back. -/
def mixOf (back : Bool) : UInt32 → UInt32 := if back then unmixW else mxW
theorem PlaneColumns_impl (s : Nat → UInt8) (back : Bool) (w : World) (hu : Fac4 w 2 unF) (hm : Fac4 w 1 mxF) :
    Calls Tryz.prog 234 #[.agg (pc s), .bool back] w fun e w' => e = .returned (.agg (pc (colsB (mixOf back) s))) ∧ Below w.heap.size w w' := by
  cases back
  · exact PlaneColumns_there s w hm
  · exact PlaneColumns_back s w hu
end Go.Proofs.YtbfmbdohebdbaaaGreatDoor
