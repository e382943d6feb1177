/-
  The walk of laws.FnPlanePower: it returns true at every code.
-/
import Derived.Test.YtbbjcgnoialidaaBytesTold
import Derived.Test.YtbbjcgnoialidaaHold2
import Derived.Test.YtbbjcgnoialidaaPlV
import Derived.Test.YtbbjcgnoialidaaBase
import Derived.Test.YtbbjcgnoialidaaShift
import Derived.Deep.CutRange
set_option linter.unusedVariables false
set_option linter.unusedSimpArgs false
namespace Go.Proofs.Ytbbjcgnoialidaa
open Go Go.RowKit

/-- a block made and filled. -/
theorem madeN {w V : World} {l : List (Nat × TypeId × Array Value)} (h : Hold w l V) (Z A : Array Value) (t : TypeId) {W : World} (hW : (V.alloc (.cells Z t)).setRow V.heap.size A = W) : RQ (V.alloc (.cells Z t)) V.heap.size t Z ∧ Hold w ((V.heap.size, t, A) :: l) W ∧ RQ W V.heap.size t A ∧ W.heap.size = V.heap.size + 1 := by
  subst hW
  have h2 := (RQ.new V t Z).row A
  exact ⟨RQ.new V t Z, ((h.next (alQ_up V _)).put h (Nat.le_refl _) A).add h2, h2, by rw [setRow_size, alQ_sz]⟩
theorem inv_at (c : UInt8) (w : World) : Calls Try.prog 39 #[.int .i64 c.toNat] w fun e w' => e = .returned (.int .i64 (inv c).toNat) ∧ Below w.heap.size w w' :=
  (Inverse_spec8 c w).mono fun e w' ⟨h1, h2⟩ => ⟨h1, h2 ▸ Below.refl _ _⟩
set_option maxRecDepth 100000 in
set_option maxHeartbeats 12800000 in
theorem walk_FnPlanePower (a0 : Option Addr) (len0 cap0 : Nat) (z0 : List Int) (w : World) (w0 : IsRow .u8 w a0 len0 cap0 z0) :
    Calls Try.prog 6 #[.slice a0 len0 cap0] w fun e w' => e = .returned (.bool true) ∧ Below w.heap.size w w' := by
  obtain ⟨hcode, hlen⟩ := w0.code
  clear w0
  by_cases hl : len0 ≤ 1048576
  · obtain ⟨b, hby⟩ := bytes_told 3 64 (by omega) w a0 len0 cap0 hcode hl
    have HBY := Lib.hid hby
    clear hcode hby
    have C0 : ∀ W, Hid (Calls Try.prog 17 #[.string (txt b 64)] W fun e w' => e = .returned (.agg (pc b)) ∧ Below W.heap.size W w') := fun W => Lib.hid (by
      have h := ToPlanes_impl (txt b 64) W (by rw [txt_size]; omega)
      rwa [pc_txt] at h)
    obtain ⟨b2, hb2⟩ : ∃ b2 : Nat → UInt8, (fun i => mul (b i) (b i)) = b2 := ⟨_, rfl⟩
    obtain ⟨b3, hb3⟩ : ∃ b3 : Nat → UInt8, (fun i => mul (b2 i) (b i)) = b3 := ⟨_, rfl⟩
    obtain ⟨b6, hb6⟩ : ∃ b6 : Nat → UInt8, (fun i => mul (b3 i) (b3 i)) = b6 := ⟨_, rfl⟩
    obtain ⟨b12, hb12⟩ : ∃ b12 : Nat → UInt8, (fun i => mul (b6 i) (b6 i)) = b12 := ⟨_, rfl⟩
    obtain ⟨b15, hb15⟩ : ∃ b15 : Nat → UInt8, (fun i => mul (b12 i) (b3 i)) = b15 := ⟨_, rfl⟩
    obtain ⟨xx, hxx⟩ : ∃ xx : Nat → Nat → UInt8, (fun k i => Nat.repeat (fun c => mul c c) k (b15 i)) = xx := ⟨_, rfl⟩
    obtain ⟨y1, hy1⟩ : ∃ y1 : Nat → UInt8, (fun i => mul (xx 4 i) (b12 i)) = y1 := ⟨_, rfl⟩
    have hinv : (fun i => mul (y1 i) (b2 i)) = fun i => inv (b i) := by
      funext i
      rw [← chain_inv, ← hy1, ← hxx, ← hb15, ← hb12, ← hb6, ← hb3, ← hb2]
      rfl
    have T2 := fun W => Lib.hid (PlaneTimes_impl b b W)
    have T3 := fun W => Lib.hid (PlaneTimes_impl b2 b W)
    have TA := fun W => Lib.hid (PlaneTimes_impl b3 b3 W)
    have TB := fun W => Lib.hid (PlaneTimes_impl b6 b6 W)
    have T15 := fun W => Lib.hid (PlaneTimes_impl b12 b3 W)
    have TX : ∀ k W, Hid (Calls Try.prog 26 #[.agg (pc (xx k)), .agg (pc (xx k))] W fun e w' => e = .returned (.agg (pc (xx (k + 1)))) ∧ Below W.heap.size W w') := fun k W => Lib.hid (by
      have h := PlaneTimes_impl (xx k) (xx k) W
      have e : (fun i => mul (xx k i) (xx k i)) = xx (k + 1) := by rw [← hxx]; rfl
      rwa [e] at h)
    have TX4 := fun W => Lib.hid (PlaneTimes_impl (xx 4) b12 W)
    have TY := fun W => Lib.hid (PlaneTimes_impl y1 b2 W)
    have F1 := fun W => Lib.hid (FromPlanes_impl (fun i => inv (b i)) W)
    have x0 : xx 0 = b15 := by rw [← hxx]; rfl
    have ex0 : pc (xx 0) = pc b15 := by rw [x0]
    simp only [hb2, hb3, hb6, hb12, hb15, hy1, hinv] at T2 T3 TA TB T15 TX4 TY
    have HIX : Hid ((∀ k : Nat, k < 64 → ∀ W, (Instr.index 9 (.string (txt (fun i => inv (b i)) 64)) (.int .i64 (k : Int))).run Try.prog W = .ok (.int .u8 ((inv (b k)).toNat : Int)) W) ∧ (∀ k : Nat, k < 64 → ∀ W, (Instr.index 9 (.string (txt b 64)) (.int .i64 (k : Int))).run Try.prog W = .ok (.int .u8 ((b k).toNat : Int)) W)) := Lib.hid ⟨fun k hk W => by
      have h := idx_byte (txt (fun i => inv (b i)) 64) k k rfl (by rw [txt_size]; exact hk) W
      rwa [txt_byte _ _ _ hk] at h, fun k hk W => by
      have h := idx_byte (txt b 64) k k rfl (by rw [txt_size]; exact hk) W
      rwa [txt_byte _ _ _ hk] at h⟩
    have hls : ((txt (fun i => inv (b i)) 64).size : Int) = 64 := by rw [txt_size]; rfl
    have ip1 := planes_info b
    have op1 := pc_one b
    have zp1 : #[Value.int .u64 0, .int .u64 0, .int .u64 0, .int .u64 0, .int .u64 0, .int .u64 0, .int .u64 0, .int .u64 0].size = (pc b).size := by rw [pc_size]; rfl
    have ip2 := planes_info b2
    have op2 := pc_one b2
    have zp2 : #[Value.int .u64 0, .int .u64 0, .int .u64 0, .int .u64 0, .int .u64 0, .int .u64 0, .int .u64 0, .int .u64 0].size = (pc b2).size := by rw [pc_size]; rfl
    have ip3 := planes_info b3
    have op3 := pc_one b3
    have zp3 : #[Value.int .u64 0, .int .u64 0, .int .u64 0, .int .u64 0, .int .u64 0, .int .u64 0, .int .u64 0, .int .u64 0].size = (pc b3).size := by rw [pc_size]; rfl
    have ip12 := planes_info b12
    have op12 := pc_one b12
    have zp12 : #[Value.int .u64 0, .int .u64 0, .int .u64 0, .int .u64 0, .int .u64 0, .int .u64 0, .int .u64 0, .int .u64 0].size = (pc b12).size := by rw [pc_size]; rfl
    have ip15 := planes_info b15
    have op15 := pc_one b15
    have zp15 : #[Value.int .u64 0, .int .u64 0, .int .u64 0, .int .u64 0, .int .u64 0, .int .u64 0, .int .u64 0, .int .u64 0].size = (pc b15).size := by rw [pc_size]; rfl
    have ipi := planes_info (fun i => inv (b i))
    have opi := pc_one (fun i => inv (b i))
    have zpi : #[Value.int .u64 0, .int .u64 0, .int .u64 0, .int .u64 0, .int .u64 0, .int .u64 0, .int .u64 0, .int .u64 0].size = (pc (fun i => inv (b i))).size := by rw [pc_size]; rfl
    have ixx := fun k => planes_info (xx k)
    have oxx := fun k => pc_one (xx k)
    have zxx := fun j k => (pc_size (xx j)).trans (pc_size (xx k)).symm
    have zpi : (pc (xx 4)).size = (pc (fun i => inv (b i))).size := (pc_size _).trans (pc_size _).symm
    obtain ⟨PX, hPX⟩ : ∃ PX : Nat → Array Value, (fun k => pc (xx k)) = PX := ⟨_, rfl⟩
    have ePX : ∀ k, pc (xx k) = PX k := fun k => by rw [← hPX]
    simp only [ePX] at TX TX4 ixx oxx zxx zpi ex0
    generalize pc (fun i => inv (b i)) = PI at *
    generalize txt (fun i => inv (b i)) 64 = TI at *
    generalize txt b 64 = TT at *
    generalize pc b = P1 at *
    generalize pc b2 = P2 at *
    generalize pc b3 = P3 at *
    generalize pc b6 = P6 at *
    generalize pc b12 = P12 at *
    generalize pc b15 = P15 at *
    generalize pc y1 = PY at *
    clear ePX hPX x0 hinv hy1 hxx hb15 hb12 hb6 hb3 hb2
    clear xx y1 b2 b3 b6 b12 b15
    have ix4 := ixx 4
    go_enter Try.func6, Try.ntmps6
    go_wp2_with fail
    refine (big_small _ _ _ _ hl).mono ?_; rintro e w' ⟨rfl, rfl⟩
    go_wp2_with fail
    refine (HBY.out _ (Below.refl _ _)).out.mono ?_; rintro e w1 ⟨rfl, hb1⟩
    have B1 := Lib.hid hb1
    clear hb1
    go_wp2_with fail
    refine (C0 _).out.mono ?_; rintro e w2 ⟨rfl, hb2⟩
    have MH := Lib.hid (Hold.nil (B1.out.trans (hb2.mono B1.out.size)))
    clear hb2 B1 C0
    obtain ⟨W3, hW⟩ : ∃ W3, (w2.alloc (.cells #[Value.int .u64 0, .int .u64 0, .int .u64 0, .int .u64 0, .int .u64 0, .int .u64 0, .int .u64 0, .int .u64 0] 27)).setRow w2.heap.size P1 = W3 := ⟨_, rfl⟩
    obtain ⟨m1, m2, m3, m4⟩ := madeN MH.out #[Value.int .u64 0, .int .u64 0, .int .u64 0, .int .u64 0, .int .u64 0, .int .u64 0, .int .u64 0, .int .u64 0] P1 27 hW
    have HW := Lib.hid hW
    have M1 := Lib.hid m1
    have M3 := Lib.hid m3
    have M2 := Lib.hid m2
    clear hW m1 m2 m3 MH
    have ML := Lib.hid M2.out.1
    go_wp2_with (first
      | (refine wpList_store_row rfl 27 _ _ rfl (w2.heap.size) P1 rfl rfl 27 _ M1.out ip1 zp1 op1 ?_)
      | (refine wpList_load_row rfl 27 _ rfl (w2.heap.size) rfl 27 P1 (0, 0) _ (by rw [HW.out]; exact M3.out) Try.underlying27 rfl ip1 ?_))
    rw [HW.out]
    clear HW M1 M3 ML
    try simp only [List.getElem_toArray, List.getElem_cons_succ, List.getElem_cons_zero, Act.put, List.setIfInBounds_toArray, List.set_cons_zero, List.set_cons_succ]
    generalize w2.heap.size = g3 at *
    clear m4
    refine (T2 _).out.mono ?_; rintro e w4 ⟨rfl, hb⟩
    have MH := Lib.hid (M2.out.next hb)
    clear hb M2 T2
    obtain ⟨W5, hW⟩ : ∃ W5, (w4.alloc (.cells #[Value.int .u64 0, .int .u64 0, .int .u64 0, .int .u64 0, .int .u64 0, .int .u64 0, .int .u64 0, .int .u64 0] 27)).setRow w4.heap.size P2 = W5 := ⟨_, rfl⟩
    obtain ⟨m1, m2, m3, m4⟩ := madeN MH.out #[Value.int .u64 0, .int .u64 0, .int .u64 0, .int .u64 0, .int .u64 0, .int .u64 0, .int .u64 0, .int .u64 0] P2 27 hW
    have HW := Lib.hid hW
    have M1 := Lib.hid m1
    have M3 := Lib.hid m3
    have M2 := Lib.hid m2
    clear hW m1 m2 m3 MH
    have ML := Lib.hid M2.out.1
    go_wp2_with (first
      | (refine wpList_store_row rfl 27 _ _ rfl (w4.heap.size) P2 rfl rfl 27 _ M1.out ip2 zp2 op2 ?_)
      | (refine wpList_load_row rfl 27 _ rfl (w4.heap.size) rfl 27 P2 (0, 0) _ (by rw [HW.out]; exact M3.out) Try.underlying27 rfl ip2 ?_)
      | (refine wpList_load_row rfl 27 _ rfl (g3) rfl 27 P1 (0, 0) _ (by rw [HW.out]; exact ML.out (g3, 27, P1) (by simp)) Try.underlying27 rfl ip1 ?_))
    rw [HW.out]
    clear HW M1 M3 ML
    try simp only [List.getElem_toArray, List.getElem_cons_succ, List.getElem_cons_zero, Act.put, List.setIfInBounds_toArray, List.set_cons_zero, List.set_cons_succ]
    generalize w4.heap.size = g4 at *
    clear m4
    refine (T3 _).out.mono ?_; rintro e w6 ⟨rfl, hb⟩
    have MH := Lib.hid (M2.out.next hb)
    clear hb M2 T3
    obtain ⟨W7, hW⟩ : ∃ W7, (w6.alloc (.cells #[Value.int .u64 0, .int .u64 0, .int .u64 0, .int .u64 0, .int .u64 0, .int .u64 0, .int .u64 0, .int .u64 0] 27)).setRow w6.heap.size P3 = W7 := ⟨_, rfl⟩
    obtain ⟨m1, m2, m3, m4⟩ := madeN MH.out #[Value.int .u64 0, .int .u64 0, .int .u64 0, .int .u64 0, .int .u64 0, .int .u64 0, .int .u64 0, .int .u64 0] P3 27 hW
    have HW := Lib.hid hW
    have M1 := Lib.hid m1
    have M3 := Lib.hid m3
    have M2 := Lib.hid m2
    clear hW m1 m2 m3 MH
    go_upto_region 6 with (refine wpList_store_row rfl 27 _ _ rfl (w6.heap.size) P3 rfl rfl 27 _ M1.out ip3 zp3 op3 ?_)
    rw [HW.out]
    clear HW M1 M3 m4
    try simp only [List.getElem_toArray, List.getElem_cons_succ, List.getElem_cons_zero, Act.put, List.setIfInBounds_toArray, List.set_cons_zero, List.set_cons_succ]
    generalize w6.heap.size = g5 at *
    go_cut [6] from 13 to 30 (fun v6 wx => ∃ g6, v6 = .pointer (some ⟨g6, 0, none⟩) ∧ Hold w ((g6, 27, P12) :: (g5, 27, P3) :: (g4, 27, P2) :: [(g3, 27, P1)]) wx)
    case first =>
      have hS0 := M2.out.drew
      clear M2 HBY HIX TX TX4 TY T15 F1
      refine wp_region_held_drew (S := Hold w ((g5, 27, P3) :: (g4, 27, P2) :: [(g3, 27, P1)])) (by kernel_rfl) hS0 (fun hS0 => ?_)
      generalize W7.drew = wq at *
      refine wpAnyH_take (i := 0) (v := .agg P3) rfl (by kernel_rfl) (by kernel_rfl) (by kernel_rfl) (fun _ _ _ h => h) (Or.inl ⟨by kernel_rfl, fun V hV => exec_load_row 27 _ rfl g5 rfl 27 P3 _ (hV.1 (g5, 27, P3) (by simp)) Try.underlying27 rfl ip3⟩) (by assumption) ?_
      try simp only [List.getElem_toArray, List.getElem_cons_succ, List.getElem_cons_zero, Act.put, List.setIfInBounds_toArray, List.set_cons_zero, List.set_cons_succ]
      refine wpAnyH_take (i := 1) (v := .agg P3) rfl (by kernel_rfl) (by kernel_rfl) (by kernel_rfl) (fun _ _ _ h => h) (Or.inl ⟨by kernel_rfl, fun V hV => exec_load_row 27 _ rfl g5 rfl 27 P3 _ (hV.1 (g5, 27, P3) (by simp)) Try.underlying27 rfl ip3⟩) (by assumption) ?_
      try simp only [List.getElem_toArray, List.getElem_cons_succ, List.getElem_cons_zero, Act.put, List.setIfInBounds_toArray, List.set_cons_zero, List.set_cons_succ]
      refine wpAnyH_take (i := 3) (v := .agg P3) rfl (by kernel_rfl) (by kernel_rfl) (by kernel_rfl) (fun _ _ _ h => h) (Or.inl ⟨by kernel_rfl, fun V hV => exec_load_row 27 _ rfl g5 rfl 27 P3 _ (hV.1 (g5, 27, P3) (by simp)) Try.underlying27 rfl ip3⟩) (by assumption) ?_
      try simp only [List.getElem_toArray, List.getElem_cons_succ, List.getElem_cons_zero, Act.put, List.setIfInBounds_toArray, List.set_cons_zero, List.set_cons_succ]
      refine wpAnyH_take (i := 4) (v := .agg P3) rfl (by kernel_rfl) (by kernel_rfl) (by kernel_rfl) (fun _ _ _ h => h) (Or.inl ⟨by kernel_rfl, fun V hV => exec_load_row 27 _ rfl g5 rfl 27 P3 _ (hV.1 (g5, 27, P3) (by simp)) Try.underlying27 rfl ip3⟩) (by assumption) ?_
      try simp only [List.getElem_toArray, List.getElem_cons_succ, List.getElem_cons_zero, Act.put, List.setIfInBounds_toArray, List.set_cons_zero, List.set_cons_succ]
      refine wpAnyH_ready (rs := [2, 7]) (by kernel_rfl) (by simp) ?_
      refine AllReadyH.cons rfl (fun K hK => ?_) (AllReadyH.cons rfl (fun K hK => ?_) AllReadyH.nil)
      · go_simp
        refine (TA _).out.mono ?_; rintro e x2 ⟨rfl, hb⟩
        have hS1 := hS0.next hb
        clear hb
        refine hK.out _ _ hS1 (fun hS1 => ?_)
        clear hK K
        try simp only [List.getElem_toArray, List.getElem_cons_succ, List.getElem_cons_zero, Act.put, List.setIfInBounds_toArray, List.set_cons_zero, List.set_cons_succ]
        refine wpAnyH_ready (rs := [5, 7]) (by kernel_rfl) (by simp) ?_
        refine AllReadyH.cons rfl (fun K hK => ?_) (AllReadyH.cons rfl (fun K hK => ?_) AllReadyH.nil)
        · go_simp
          refine (TA _).out.mono ?_; rintro e x4 ⟨rfl, hb⟩
          have hS3 := hS1.next hb
          clear hb
          refine hK.out _ _ hS3 (fun hS3 => ?_)
          clear hK K
          try simp only [List.getElem_toArray, List.getElem_cons_succ, List.getElem_cons_zero, Act.put, List.setIfInBounds_toArray, List.set_cons_zero, List.set_cons_succ]
          refine wpAnyH_ready (rs := [6, 7]) (by kernel_rfl) (by simp) ?_
          refine AllReadyH.cons rfl (fun K hK => ?_) (AllReadyH.cons rfl (fun K hK => ?_) AllReadyH.nil)
          · go_simp
            refine (TB _).out.mono ?_; rintro e x6 ⟨rfl, hb⟩
            have hS5 := hS3.next hb
            clear hb
            refine hK.out _ _ hS5 (fun hS5 => ?_)
            clear hK K
            try simp only [List.getElem_toArray, List.getElem_cons_succ, List.getElem_cons_zero, Act.put, List.setIfInBounds_toArray, List.set_cons_zero, List.set_cons_succ]
            refine wpAnyH_ready (rs := [7]) (by kernel_rfl) (by simp) ?_
            refine AllReadyH.cons rfl (fun K hK => ?_) AllReadyH.nil
            go_simp
            have hS7 := hS5.next (alQ_up x6 (.cells #[Value.int .u64 0, .int .u64 0, .int .u64 0, .int .u64 0, .int .u64 0, .int .u64 0, .int .u64 0, .int .u64 0] 27))
            have ZA := Lib.hid (RQ.new x6 27 #[Value.int .u64 0, .int .u64 0, .int .u64 0, .int .u64 0, .int .u64 0, .int .u64 0, .int .u64 0, .int .u64 0])
            refine hK.out _ _ hS7 (fun hS7 => ?_)
            clear hK K
            try simp only [List.getElem_toArray, List.getElem_cons_succ, List.getElem_cons_zero, Act.put, List.setIfInBounds_toArray, List.set_cons_zero, List.set_cons_succ]
            generalize x6.alloc (.cells #[Value.int .u64 0, .int .u64 0, .int .u64 0, .int .u64 0, .int .u64 0, .int .u64 0, .int .u64 0, .int .u64 0] 27) = x8 at *
            refine wpAnyH_ready (rs := [8]) (by kernel_rfl) (by simp) ?_
            refine AllReadyH.cons rfl (fun K hK => ?_) AllReadyH.nil
            have hS9 := hS7.put hS5 (Nat.le_refl _) P12
            have ZAs := Lib.hid (ZA.out.row P12)
            refine wp_store_row 27 _ _ rfl (x6.heap.size) P12 rfl rfl 27 _ ZA.out ip12 zp12 op12 ?_
            refine hK.out _ _ hS9 (fun hS9 => ?_)
            clear hK K ZA
            try simp only [List.getElem_toArray, List.getElem_cons_succ, List.getElem_cons_zero, Act.put, List.setIfInBounds_toArray, List.set_cons_zero, List.set_cons_succ]
            generalize x8.setRow (x6.heap.size) P12 = x10 at *
            refine wpAnyH_done (by kernel_rfl) ?_ _
            go_wp2_with fail
            go_meet
            exact ⟨x6.heap.size, rfl, hS9.add ZAs.out⟩
          · go_simp
            have hS11 := hS3.next (alQ_up x4 (.cells #[Value.int .u64 0, .int .u64 0, .int .u64 0, .int .u64 0, .int .u64 0, .int .u64 0, .int .u64 0, .int .u64 0] 27))
            have ZA := Lib.hid (RQ.new x4 27 #[Value.int .u64 0, .int .u64 0, .int .u64 0, .int .u64 0, .int .u64 0, .int .u64 0, .int .u64 0, .int .u64 0])
            refine hK.out _ _ hS11 (fun hS11 => ?_)
            clear hK K
            try simp only [List.getElem_toArray, List.getElem_cons_succ, List.getElem_cons_zero, Act.put, List.setIfInBounds_toArray, List.set_cons_zero, List.set_cons_succ]
            generalize x4.alloc (.cells #[Value.int .u64 0, .int .u64 0, .int .u64 0, .int .u64 0, .int .u64 0, .int .u64 0, .int .u64 0, .int .u64 0] 27) = x12 at *
            refine wpAnyH_ready (rs := [6]) (by kernel_rfl) (by simp) ?_
            refine AllReadyH.cons rfl (fun K hK => ?_) AllReadyH.nil
            go_simp
            refine (TB _).out.mono ?_; rintro e x14 ⟨rfl, hb⟩
            have hS13 := hS11.next hb
            have ZA := Lib.hid (ZA.out.up hb)
            clear hb
            refine hK.out _ _ hS13 (fun hS13 => ?_)
            clear hK K
            try simp only [List.getElem_toArray, List.getElem_cons_succ, List.getElem_cons_zero, Act.put, List.setIfInBounds_toArray, List.set_cons_zero, List.set_cons_succ]
            refine wpAnyH_ready (rs := [8]) (by kernel_rfl) (by simp) ?_
            refine AllReadyH.cons rfl (fun K hK => ?_) AllReadyH.nil
            have hS15 := hS13.put hS3 (Nat.le_refl _) P12
            have ZAs := Lib.hid (ZA.out.row P12)
            refine wp_store_row 27 _ _ rfl (x4.heap.size) P12 rfl rfl 27 _ ZA.out ip12 zp12 op12 ?_
            refine hK.out _ _ hS15 (fun hS15 => ?_)
            clear hK K ZA
            try simp only [List.getElem_toArray, List.getElem_cons_succ, List.getElem_cons_zero, Act.put, List.setIfInBounds_toArray, List.set_cons_zero, List.set_cons_succ]
            generalize x14.setRow (x4.heap.size) P12 = x16 at *
            refine wpAnyH_done (by kernel_rfl) ?_ _
            go_wp2_with fail
            go_meet
            exact ⟨x4.heap.size, rfl, hS15.add ZAs.out⟩
        · go_simp
          have hS17 := hS1.next (alQ_up x2 (.cells #[Value.int .u64 0, .int .u64 0, .int .u64 0, .int .u64 0, .int .u64 0, .int .u64 0, .int .u64 0, .int .u64 0] 27))
          have ZA := Lib.hid (RQ.new x2 27 #[Value.int .u64 0, .int .u64 0, .int .u64 0, .int .u64 0, .int .u64 0, .int .u64 0, .int .u64 0, .int .u64 0])
          refine hK.out _ _ hS17 (fun hS17 => ?_)
          clear hK K
          try simp only [List.getElem_toArray, List.getElem_cons_succ, List.getElem_cons_zero, Act.put, List.setIfInBounds_toArray, List.set_cons_zero, List.set_cons_succ]
          generalize x2.alloc (.cells #[Value.int .u64 0, .int .u64 0, .int .u64 0, .int .u64 0, .int .u64 0, .int .u64 0, .int .u64 0, .int .u64 0] 27) = x18 at *
          refine wpAnyH_ready (rs := [5]) (by kernel_rfl) (by simp) ?_
          refine AllReadyH.cons rfl (fun K hK => ?_) AllReadyH.nil
          go_simp
          refine (TA _).out.mono ?_; rintro e x20 ⟨rfl, hb⟩
          have hS19 := hS17.next hb
          have ZA := Lib.hid (ZA.out.up hb)
          clear hb
          refine hK.out _ _ hS19 (fun hS19 => ?_)
          clear hK K
          try simp only [List.getElem_toArray, List.getElem_cons_succ, List.getElem_cons_zero, Act.put, List.setIfInBounds_toArray, List.set_cons_zero, List.set_cons_succ]
          refine wpAnyH_ready (rs := [6]) (by kernel_rfl) (by simp) ?_
          refine AllReadyH.cons rfl (fun K hK => ?_) AllReadyH.nil
          go_simp
          refine (TB _).out.mono ?_; rintro e x22 ⟨rfl, hb⟩
          have hS21 := hS19.next hb
          have ZA := Lib.hid (ZA.out.up hb)
          clear hb
          refine hK.out _ _ hS21 (fun hS21 => ?_)
          clear hK K
          try simp only [List.getElem_toArray, List.getElem_cons_succ, List.getElem_cons_zero, Act.put, List.setIfInBounds_toArray, List.set_cons_zero, List.set_cons_succ]
          refine wpAnyH_ready (rs := [8]) (by kernel_rfl) (by simp) ?_
          refine AllReadyH.cons rfl (fun K hK => ?_) AllReadyH.nil
          have hS23 := hS21.put hS1 (Nat.le_refl _) P12
          have ZAs := Lib.hid (ZA.out.row P12)
          refine wp_store_row 27 _ _ rfl (x2.heap.size) P12 rfl rfl 27 _ ZA.out ip12 zp12 op12 ?_
          refine hK.out _ _ hS23 (fun hS23 => ?_)
          clear hK K ZA
          try simp only [List.getElem_toArray, List.getElem_cons_succ, List.getElem_cons_zero, Act.put, List.setIfInBounds_toArray, List.set_cons_zero, List.set_cons_succ]
          generalize x22.setRow (x2.heap.size) P12 = x24 at *
          refine wpAnyH_done (by kernel_rfl) ?_ _
          go_wp2_with fail
          go_meet
          exact ⟨x2.heap.size, rfl, hS23.add ZAs.out⟩
      · go_simp
        have hS25 := hS0.next (alQ_up wq (.cells #[Value.int .u64 0, .int .u64 0, .int .u64 0, .int .u64 0, .int .u64 0, .int .u64 0, .int .u64 0, .int .u64 0] 27))
        have ZA := Lib.hid (RQ.new wq 27 #[Value.int .u64 0, .int .u64 0, .int .u64 0, .int .u64 0, .int .u64 0, .int .u64 0, .int .u64 0, .int .u64 0])
        refine hK.out _ _ hS25 (fun hS25 => ?_)
        clear hK K
        try simp only [List.getElem_toArray, List.getElem_cons_succ, List.getElem_cons_zero, Act.put, List.setIfInBounds_toArray, List.set_cons_zero, List.set_cons_succ]
        generalize wq.alloc (.cells #[Value.int .u64 0, .int .u64 0, .int .u64 0, .int .u64 0, .int .u64 0, .int .u64 0, .int .u64 0, .int .u64 0] 27) = x26 at *
        refine wpAnyH_ready (rs := [2]) (by kernel_rfl) (by simp) ?_
        refine AllReadyH.cons rfl (fun K hK => ?_) AllReadyH.nil
        go_simp
        refine (TA _).out.mono ?_; rintro e x28 ⟨rfl, hb⟩
        have hS27 := hS25.next hb
        have ZA := Lib.hid (ZA.out.up hb)
        clear hb
        refine hK.out _ _ hS27 (fun hS27 => ?_)
        clear hK K
        try simp only [List.getElem_toArray, List.getElem_cons_succ, List.getElem_cons_zero, Act.put, List.setIfInBounds_toArray, List.set_cons_zero, List.set_cons_succ]
        refine wpAnyH_ready (rs := [5]) (by kernel_rfl) (by simp) ?_
        refine AllReadyH.cons rfl (fun K hK => ?_) AllReadyH.nil
        go_simp
        refine (TA _).out.mono ?_; rintro e x30 ⟨rfl, hb⟩
        have hS29 := hS27.next hb
        have ZA := Lib.hid (ZA.out.up hb)
        clear hb
        refine hK.out _ _ hS29 (fun hS29 => ?_)
        clear hK K
        try simp only [List.getElem_toArray, List.getElem_cons_succ, List.getElem_cons_zero, Act.put, List.setIfInBounds_toArray, List.set_cons_zero, List.set_cons_succ]
        refine wpAnyH_ready (rs := [6]) (by kernel_rfl) (by simp) ?_
        refine AllReadyH.cons rfl (fun K hK => ?_) AllReadyH.nil
        go_simp
        refine (TB _).out.mono ?_; rintro e x32 ⟨rfl, hb⟩
        have hS31 := hS29.next hb
        have ZA := Lib.hid (ZA.out.up hb)
        clear hb
        refine hK.out _ _ hS31 (fun hS31 => ?_)
        clear hK K
        try simp only [List.getElem_toArray, List.getElem_cons_succ, List.getElem_cons_zero, Act.put, List.setIfInBounds_toArray, List.set_cons_zero, List.set_cons_succ]
        refine wpAnyH_ready (rs := [8]) (by kernel_rfl) (by simp) ?_
        refine AllReadyH.cons rfl (fun K hK => ?_) AllReadyH.nil
        have hS33 := hS31.put hS0 (Nat.le_refl _) P12
        have ZAs := Lib.hid (ZA.out.row P12)
        refine wp_store_row 27 _ _ rfl (wq.heap.size) P12 rfl rfl 27 _ ZA.out ip12 zp12 op12 ?_
        refine hK.out _ _ hS33 (fun hS33 => ?_)
        clear hK K ZA
        try simp only [List.getElem_toArray, List.getElem_cons_succ, List.getElem_cons_zero, Act.put, List.setIfInBounds_toArray, List.set_cons_zero, List.set_cons_succ]
        generalize x32.setRow (wq.heap.size) P12 = x34 at *
        refine wpAnyH_done (by kernel_rfl) ?_ _
        go_wp2_with fail
        go_meet
        exact ⟨wq.heap.size, rfl, hS33.add ZAs.out⟩
    case rest =>
      obtain ⟨g6, rfl, hR⟩ := hcut
      have MR := Lib.hid hR
      have ML := Lib.hid hR.1
      clear M2 TA TB hR
      go_wp2_with (first
        | (refine wpList_load_row rfl 27 _ rfl (g6) rfl 27 P12 (0, 0) _ (ML.out (g6, 27, P12) (by simp)) Try.underlying27 rfl ip12 ?_)
        | (refine wpList_load_row rfl 27 _ rfl (g5) rfl 27 P3 (0, 0) _ (ML.out (g5, 27, P3) (by simp)) Try.underlying27 rfl ip3 ?_))
      refine (T15 _).out.mono ?_; rintro e w8 ⟨rfl, hb⟩
      have MH := Lib.hid (MR.out.next hb)
      clear hb MR T15 ML
      obtain ⟨W8, hW⟩ : ∃ W8, (w8.alloc (.cells #[Value.int .u64 0, .int .u64 0, .int .u64 0, .int .u64 0, .int .u64 0, .int .u64 0, .int .u64 0, .int .u64 0] 27)).setRow w8.heap.size P15 = W8 := ⟨_, rfl⟩
      obtain ⟨m1, m2, m3, m4⟩ := madeN MH.out #[Value.int .u64 0, .int .u64 0, .int .u64 0, .int .u64 0, .int .u64 0, .int .u64 0, .int .u64 0, .int .u64 0] P15 27 hW
      have HW := Lib.hid hW
      have M1 := Lib.hid m1
      have M3 := Lib.hid m3
      have M2 := Lib.hid m2
      clear hW m1 m2 m3 MH
      have H8 := Lib.hid M2.out
      obtain ⟨W9, hW9⟩ : ∃ W9, (W8.alloc (.cells #[Value.int .u64 0, .int .u64 0, .int .u64 0, .int .u64 0, .int .u64 0, .int .u64 0, .int .u64 0, .int .u64 0] 27)).setRow W8.heap.size P15 = W9 := ⟨_, rfl⟩
      obtain ⟨n1, n2, n3, n4⟩ := madeN M2.out #[Value.int .u64 0, .int .u64 0, .int .u64 0, .int .u64 0, .int .u64 0, .int .u64 0, .int .u64 0, .int .u64 0] P15 27 hW9
      have E8 := Lib.hid m4
      rw [m4] at n1
      have HW9 := Lib.hid hW9
      have N1 := Lib.hid n1
      rw [← ex0] at n3
      have g9 : Hold w ((w8.heap.size, 27, P15) :: (g6, 27, P12) :: (g5, 27, P3) :: (g4, 27, P2) :: [(g3, 27, P1)]) W9 := ⟨fun x hx => n2.1 x (by simp only [List.mem_cons] at hx ⊢; exact Or.inr hx), n2.2⟩
      clear hW9 n1 n2 n4 m4
      go_wp2_with (first
        | (refine wpList_store_row rfl 27 _ _ rfl (w8.heap.size) P15 rfl rfl 27 _ M1.out ip15 zp15 op15 ?_)
        | (refine wpList_load_row rfl 27 _ rfl (w8.heap.size) rfl 27 P15 (0, 0) _ (by rw [HW.out]; exact M3.out) Try.underlying27 rfl ip15 ?_)
        | (refine wpList_store_row rfl 27 _ _ rfl ((w8.heap.size + 1)) P15 rfl rfl 27 _ (by rw [HW.out]; exact N1.out) ip15 zp15 op15 ?_))
      rw [HW.out, ← E8.out, HW9.out]
      clear HW HW9 M1 M3 N1 M2 E8
      generalize w8.heap.size = g7 at *
      go_loopw [9] (fun v wr => ∃ k : Nat, k ≤ 4 ∧ v = .int .i64 k ∧ Hold w ((g7, 27, P15) :: (g6, 27, P12) :: (g5, 27, P3) :: (g4, 27, P2) :: [(g3, 27, P1)]) wr ∧ RQ wr W8.heap.size 27 (PX k)) (fun v _ => 4 - (intOf v).toNat)
      case atStart => exact ⟨0, by omega, rfl, g9, n3⟩
      case round =>
        obtain ⟨k, hk, rfl, hh, hx⟩ := hrel
        by_cases hlt : k < 4
        · have hk1 : (k : Int) < 4 := by omega
          have hk0 : (0 : Int) ≤ (k : Int) := by omega
          have HH := Lib.hid hh
          have HX := Lib.hid hx
          have CX := TX k
          have i1 := ixx k
          have i2 := ixx (k + 1)
          have o2 := oxx (k + 1)
          have z2 := zxx k (k + 1)
          clear hh hx g9 n3 TX TX4 TY F1 HBY HIX ix4
          generalize PX k = R1 at *
          obtain ⟨R2, hR2⟩ : ∃ R2, PX (k + 1) = R2 := ⟨_, rfl⟩
          rw [hR2] at CX i2 o2 z2
          have HR2 := Lib.hid hR2
          clear hR2
          go_wp2_with (refine wpList_load_row rfl 27 _ rfl W8.heap.size rfl 27 R1 (0, 0) _ HX.out Try.underlying27 rfl i1 ?_)
          refine (CX _).out.mono ?_; rintro e w10 ⟨rfl, hb⟩
          have HH2 := Lib.hid (HH.out.next hb)
          have HX2 := Lib.hid (HX.out.up hb)
          have HH3 := Lib.hid (HH2.out.put H8.out (Nat.le_refl _) R2)
          have HX3 := Lib.hid (HX2.out.row R2)
          clear hb HH HX CX
          go_wp2_with (refine wpList_store_row rfl 27 _ _ rfl W8.heap.size R2 rfl rfl 27 _ HX2.out i2 z2 o2 ?_)
          go_roundw
          case rel => exact ⟨k + 1, by omega, by go_num, HH3.out, by rw [HR2.out]; exact HX3.out⟩
          case measure => simp [intOf]; omega
        · obtain rfl : k = 4 := by omega
          have HH := Lib.hid hh
          have HX := Lib.hid hx
          clear hh hx g9 n3 TX
          generalize PX 4 = PX4 at *
          go_wp2_with fail
          have hS0 := HH.out.drew
          have ZX : Hid (RQ wr.drew W8.heap.size 27 PX4) := Lib.hid HX.out
          clear HH HX
          refine wp_region_held_drew (S := Hold w ((g7, 27, P15) :: (g6, 27, P12) :: (g5, 27, P3) :: (g4, 27, P2) :: [(g3, 27, P1)])) (by kernel_rfl) hS0 (fun hS0 => ?_)
          generalize wr.drew = wq at *
          refine wpAnyH_take (i := 1) (v := .agg P12) rfl (by kernel_rfl) (by kernel_rfl) (by kernel_rfl) (fun _ _ _ h => h) (Or.inl ⟨by kernel_rfl, fun V hV => exec_load_row 27 _ rfl g6 rfl 27 P12 _ (hV.1 (g6, 27, P12) (by simp)) Try.underlying27 rfl ip12⟩) (by assumption) ?_
          try simp only [List.getElem_toArray, List.getElem_cons_succ, List.getElem_cons_zero, Act.put, List.setIfInBounds_toArray, List.set_cons_zero, List.set_cons_succ]
          refine wpAnyH_take (i := 3) (v := .agg P2) rfl (by kernel_rfl) (by kernel_rfl) (by kernel_rfl) (fun _ _ _ h => h) (Or.inl ⟨by kernel_rfl, fun V hV => exec_load_row 27 _ rfl g4 rfl 27 P2 _ (hV.1 (g4, 27, P2) (by simp)) Try.underlying27 rfl ip2⟩) (by assumption) ?_
          try simp only [List.getElem_toArray, List.getElem_cons_succ, List.getElem_cons_zero, Act.put, List.setIfInBounds_toArray, List.set_cons_zero, List.set_cons_succ]
          refine wpAnyH_ready (rs := [0]) (by kernel_rfl) (by simp) ?_
          refine AllReadyH.cons rfl (fun K hK => ?_) AllReadyH.nil
          refine wp_load_row 27 _ rfl (W8.heap.size) rfl 27 PX4 (0, 0) _ ZX.out Try.underlying27 rfl ix4 ?_
          have hS1 := hS0
          refine hK.out _ _ hS1 (fun hS1 => ?_)
          clear hK K
          try simp only [List.getElem_toArray, List.getElem_cons_succ, List.getElem_cons_zero, Act.put, List.setIfInBounds_toArray, List.set_cons_zero, List.set_cons_succ]
          refine wpAnyH_ready (rs := [2]) (by kernel_rfl) (by simp) ?_
          refine AllReadyH.cons rfl (fun K hK => ?_) AllReadyH.nil
          go_simp
          refine (TX4 _).out.mono ?_; rintro e x3 ⟨rfl, hb⟩
          have hS2 := hS1.next hb
          have ZX := Lib.hid (ZX.out.up hb)
          clear hb
          refine hK.out _ _ hS2 (fun hS2 => ?_)
          clear hK K
          try simp only [List.getElem_toArray, List.getElem_cons_succ, List.getElem_cons_zero, Act.put, List.setIfInBounds_toArray, List.set_cons_zero, List.set_cons_succ]
          refine wpAnyH_ready (rs := [4]) (by kernel_rfl) (by simp) ?_
          refine AllReadyH.cons rfl (fun K hK => ?_) AllReadyH.nil
          go_simp
          refine (TY _).out.mono ?_; rintro e x5 ⟨rfl, hb⟩
          have hS4 := hS2.next hb
          have ZX := Lib.hid (ZX.out.up hb)
          clear hb
          refine hK.out _ _ hS4 (fun hS4 => ?_)
          clear hK K
          try simp only [List.getElem_toArray, List.getElem_cons_succ, List.getElem_cons_zero, Act.put, List.setIfInBounds_toArray, List.set_cons_zero, List.set_cons_succ]
          refine wpAnyH_ready (rs := [5]) (by kernel_rfl) (by simp) ?_
          refine AllReadyH.cons rfl (fun K hK => ?_) AllReadyH.nil
          have hS6 := hS4.put H8.out (Nat.le_refl _) PI
          have ZXs := Lib.hid (ZX.out.row PI)
          refine wp_store_row 27 _ _ rfl (W8.heap.size) PI rfl rfl 27 _ ZX.out ipi zpi opi ?_
          refine hK.out _ _ hS6 (fun hS6 => ?_)
          clear hK K ZX
          try simp only [List.getElem_toArray, List.getElem_cons_succ, List.getElem_cons_zero, Act.put, List.setIfInBounds_toArray, List.set_cons_zero, List.set_cons_succ]
          generalize x5.setRow (W8.heap.size) PI = x7 at *
          refine wpAnyH_done (by kernel_rfl) ?_ _
          have BF := Lib.hid hS6.2
          have XF := Lib.hid ZXs.out
          clear hS0
          go_wp2_with (refine wpList_load_row rfl 27 _ rfl W8.heap.size rfl 27 PI (0, 0) _ XF.out Try.underlying27 rfl ipi ?_)
          refine (F1 _).out.mono ?_; rintro e w20 ⟨rfl, hb20⟩
          have BG := Lib.hid (BF.out.trans (hb20.mono BF.out.size))
          clear hb20 BF XF
          go_wp2_with fail
          refine (HBY.out _ BG.out).out.mono ?_; rintro e w21 ⟨rfl, hb21⟩
          have BH := Lib.hid (BG.out.trans (hb21.mono BG.out.size))
          clear hb21 BG HBY
          go_wp2
          go_loopw [12] (fun v wr => ∃ k : Nat, k ≤ 64 ∧ v = .int .i64 k ∧ Below w.heap.size w wr) (fun v _ => 64 - (intOf v).toNat)
          case atStart => exact ⟨0, by omega, rfl, BH.out⟩
          case round =>
            obtain ⟨k, hk, rfl, hbel⟩ := hrel
            by_cases hlt : k < 64
            · have hk1 : (k : Int) < 64 := by omega
              have hk0 : (0 : Int) ≤ (k : Int) := by omega
              have hi1 := HIX.out.1 k hlt
              have hi2 := HIX.out.2 k hlt
              have CI := fun W => Lib.hid (inv_at (b k) W)
              have hl1 := (inv (b k)).toNat_lt
              have hl2 := (b k).toNat_lt
              have hl3 : ((inv (b k)).toNat : Int) < 256 := by omega
              have hl4 : ((b k).toNat : Int) < 256 := by omega
              generalize (inv (b k)).toNat = x at *
              generalize (b k).toNat = y at *
              have qx : IntKind.i64.wrap (x : Int) = (x : Int) := IntWalk.i64_in _ (by omega)
              have qy : IntKind.i64.wrap (y : Int) = (y : Int) := IntWalk.i64_in _ (by omega)
              go_wp2_with fail
              have hS0 : Hold w [] wr.drew := Hold.nil hbel.drew
              clear hbel BH HIX
              refine wp_region_held_drew (S := Hold w []) (by kernel_rfl) hS0 (fun hS0 => ?_)
              generalize wr.drew = wq at *
              refine wpAnyH_take (i := 0) (v := ?_) rfl (by kernel_rfl) (by kernel_rfl) (by kernel_rfl) (fun _ _ _ h => h) (Or.inl ⟨by kernel_rfl, ?_⟩) (by assumption) ?_
              rotate_left
              · intro w hSw
                go_simp
                first | done | with_reducible rfl
              try simp only [List.getElem_toArray, List.getElem_cons_succ, List.getElem_cons_zero, Act.put, List.setIfInBounds_toArray, List.set_cons_zero, List.set_cons_succ]
              refine wpAnyH_take (i := 1) (v := ?_) rfl (by kernel_rfl) (by kernel_rfl) (by kernel_rfl) (fun _ _ _ h => h) (Or.inl ⟨by kernel_rfl, ?_⟩) (by assumption) ?_
              rotate_left
              · intro w hSw
                go_simp
                first | done | with_reducible rfl
              try simp only [List.getElem_toArray, List.getElem_cons_succ, List.getElem_cons_zero, Act.put, List.setIfInBounds_toArray, List.set_cons_zero, List.set_cons_succ]
              refine wpAnyH_take (i := 2) (v := ?_) rfl (by kernel_rfl) (by kernel_rfl) (by kernel_rfl) (fun _ _ _ h => h) (Or.inl ⟨by kernel_rfl, ?_⟩) (by assumption) ?_
              rotate_left
              · intro w hSw
                go_simp
                first | done | with_reducible rfl
              try simp only [List.getElem_toArray, List.getElem_cons_succ, List.getElem_cons_zero, Act.put, List.setIfInBounds_toArray, List.set_cons_zero, List.set_cons_succ]
              refine wpAnyH_take (i := 3) (v := ?_) rfl (by kernel_rfl) (by kernel_rfl) (by kernel_rfl) (fun _ _ _ h => h) (Or.inl ⟨by kernel_rfl, ?_⟩) (by assumption) ?_
              rotate_left
              · intro w hSw
                go_simp
                first | done | with_reducible rfl
              try simp only [List.getElem_toArray, List.getElem_cons_succ, List.getElem_cons_zero, Act.put, List.setIfInBounds_toArray, List.set_cons_zero, List.set_cons_succ]
              refine wpAnyH_take (i := 4) (v := ?_) rfl (by kernel_rfl) (by kernel_rfl) (by kernel_rfl) (fun _ _ _ h => h) (Or.inl ⟨by kernel_rfl, ?_⟩) (by assumption) ?_
              rotate_left
              · intro w hSw
                go_simp
                first | done | with_reducible rfl
              try simp only [List.getElem_toArray, List.getElem_cons_succ, List.getElem_cons_zero, Act.put, List.setIfInBounds_toArray, List.set_cons_zero, List.set_cons_succ]
              refine wpAnyH_take (i := 5) (v := ?_) rfl (by kernel_rfl) (by kernel_rfl) (by kernel_rfl) (fun _ _ _ h => h) (Or.inl ⟨by kernel_rfl, ?_⟩) (by assumption) ?_
              rotate_left
              · intro w hSw
                go_simp
                first | done | with_reducible rfl
              try simp only [List.getElem_toArray, List.getElem_cons_succ, List.getElem_cons_zero, Act.put, List.setIfInBounds_toArray, List.set_cons_zero, List.set_cons_succ]
              refine wpAnyH_take (i := 6) (v := ?_) rfl (by kernel_rfl) (by kernel_rfl) (by kernel_rfl) (fun _ _ _ h => h) (Or.inl ⟨by kernel_rfl, ?_⟩) (by assumption) ?_
              rotate_left
              · intro w hSw
                go_simp
                first | done | with_reducible rfl
              try simp only [List.getElem_toArray, List.getElem_cons_succ, List.getElem_cons_zero, Act.put, List.setIfInBounds_toArray, List.set_cons_zero, List.set_cons_succ]
              refine wpAnyH_take (i := 7) (v := ?_) rfl (by kernel_rfl) (by kernel_rfl) (by kernel_rfl) (fun _ _ _ h => h) (Or.inl ⟨by kernel_rfl, ?_⟩) (by assumption) ?_
              rotate_left
              · intro w hSw
                go_simp
                first | done | with_reducible rfl
              try simp only [List.getElem_toArray, List.getElem_cons_succ, List.getElem_cons_zero, Act.put, List.setIfInBounds_toArray, List.set_cons_zero, List.set_cons_succ]
              refine wpAnyH_ready (rs := [8]) (by kernel_rfl) (by simp) ?_
              refine AllReadyH.cons rfl (fun K hK => ?_) AllReadyH.nil
              go_simp
              refine (CI _).out.mono ?_; rintro e x2 ⟨rfl, hb⟩
              have hS1 := hS0.next hb
              clear hb
              refine hK.out _ _ hS1 (fun hS1 => ?_)
              clear hK K
              try simp only [List.getElem_toArray, List.getElem_cons_succ, List.getElem_cons_zero, Act.put, List.setIfInBounds_toArray, List.set_cons_zero, List.set_cons_succ]
              refine wpAnyH_take (i := 9) (v := ?_) rfl (by kernel_rfl) (by kernel_rfl) (by kernel_rfl) (fun _ _ _ h => h) (Or.inl ⟨by kernel_rfl, ?_⟩) (by assumption) ?_
              rotate_left
              · intro w hSw
                go_simp
                first | done | with_reducible rfl
              try simp only [List.getElem_toArray, List.getElem_cons_succ, List.getElem_cons_zero, Act.put, List.setIfInBounds_toArray, List.set_cons_zero, List.set_cons_succ]
              refine wpAnyH_done (by kernel_rfl) ?_ _
              have BE := Lib.hid hS1.2
              clear hS0
              go_wp2
              go_roundw
              case rel => exact ⟨k + 1, by omega, by go_num, BE.out⟩
              case measure => simp [intOf]; omega
            · obtain rfl : k = 64 := by omega
              have BE := Lib.hid hbel
              clear HIX BH
              go_wp2
              go_ret
              exact ⟨rfl, BE.out⟩
  · go_enter Try.func6, Try.ntmps6
    go_wp2_with fail
    refine (big_great _ _ _ _ (by omega) hlen).mono ?_; rintro e w' ⟨rfl, rfl⟩
    go_wp2
    go_ret
    exact ⟨rfl, Below.refl _ _⟩
end Go.Proofs.Ytbbjcgnoialidaa
