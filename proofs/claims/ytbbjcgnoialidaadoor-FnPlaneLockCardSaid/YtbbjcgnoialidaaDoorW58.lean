/-
  The walk of laws.FnPlaneLock: it returns true at every code.
-/
import Derived.Test.YtbbjcgnoialidaaDoorPlLkS
import Derived.Test.YtbbjcgnoialidaaDoorW57
import Derived.Test.YtbbjcgnoialidaaDoorDraws
import Derived.Test.YtbbjcgnoialidaaDoorKey
set_option linter.unusedVariables false
set_option linter.unusedSimpArgs false
namespace Go.Proofs.YtbbjcgnoialidaaDoor
open Go Go.RowKit

theorem facts_FnPlaneLock {W : World} (h : laidMetH Tryd.prog Rows.fnPlaneLockRow.laid W) : Facs W := by
  have h' : laidMet Tryd.prog [("loop.example/g00835/impl.unmixFactors", Lib.tabData .u8 [14, 9, 13, 11]), ("loop.example/g00835/impl.mixFactors", Lib.tabData .u8 [2, 1, 1, 3])] W := h
  exact facs_laid h'
set_option maxRecDepth 100000 in
set_option maxHeartbeats 1600000 in
theorem draw_PlaneKey (w : World) (A : Option Addr) (len cap : Nat) (hcode : CodeAt w w.heap.size A len) (hl : len ≤ 1048576) :
    Calls Tryd.prog 16 #[.slice A len cap] w fun e w' => ∃ b : ByteArray, e = .returned (.string b) ∧ Below w.heap.size w w' := by
  have H := Lib.hid hcode
  clear hcode
  go_enter Tryd.func16, Tryd.ntmps16
  go_wp2_with fail
  refine (new_any _ _ _ _ H.out hl).mono ?_; rintro e w1 ⟨g, rfl, hc1, hb1⟩
  go_wp2_with fail
  refine (block_any _ _ _ _ _ _ hc1).mono ?_; rintro e w2 ⟨s, rfl, hs, hc2, hg2⟩
  have HB := Lib.hid (below_only hb1 hg2 hc1.1 hb1.size)
  clear hs hc2 hg2 hc1 hb1
  go_wp2
  go_ret
  exact ⟨_, rfl, HB.out⟩
set_option maxRecDepth 100000 in
set_option maxHeartbeats 12800000 in
theorem walk_FnPlaneLock (a0 : Option Addr) (len0 cap0 : Nat) (z0 : List Int) (w : World) (w0 : IsRow .u8 w a0 len0 cap0 z0) (hfx : Facs w) :
    Calls Tryd.prog 4 #[.slice a0 len0 cap0] w fun e w' => e = .returned (.bool true) ∧ Below w.heap.size w w' := by
  obtain ⟨hcode, hlen⟩ := w0.code
  clear w0
  have HFX := Lib.hid hfx
  clear hfx
  by_cases hl : len0 ≤ 1048576
  · have H := Lib.hid hcode
    clear hcode
    go_enter Tryd.func4, Tryd.ntmps4
    go_wp2_with fail
    refine (big_small _ _ _ _ hl).mono ?_; rintro e w' ⟨rfl, rfl⟩
    go_wp2_with fail
    refine (aKey_any _ _ _ _ H.out hl).mono ?_; rintro e w1 ⟨key, rfl, hk, hb1⟩
    have B1 := Lib.hid hb1
    have H1 := Lib.hid (code_upD H.out B1.out)
    clear hb1
    go_wp2_with fail
    refine (bytes_law 40 64 (by omega) _ _ _ _ H1.out hl).mono ?_; rintro e w2 ⟨S, rfl, hS, hb2⟩
    have B2 := Lib.hid (B1.out.trans (hb2.mono B1.out.size))
    have H2 := Lib.hid (code_upD H.out B2.out)
    obtain ⟨s, rfl⟩ : ∃ s : Nat → UInt8, S = txt s 64 := ⟨byteOf S, (txt_own S 64 hS).symm⟩
    clear hb2 hS B1 H1 H
    obtain ⟨r, hr⟩ : ∃ r, key.size / 4 + 6 = r := ⟨_, rfl⟩
    obtain ⟨K, hK⟩ : ∃ K : Nat → ByteArray, rkS key (key.size / 4) = K := ⟨_, rfl⟩
    obtain ⟨q, hq⟩ : ∃ q : Nat → Nat → UInt8, lkP K r s = q := ⟨_, rfl⟩
    have hr14 : r ≤ 14 := by rcases hk with h | h | h <;> omega
    have CRK : ∀ i : Nat, i ≤ r → ∀ W, Hid (Calls Tryd.prog 21 #[.string key, .int .i64 (i : Int)] W fun e w' => e = .returned (.string (K i)) ∧ Below W.heap.size W w') := fun i hi W => Lib.hid (by
      have h := RoundKey_spec key (i : Int) W
      rwa [rkT_rkS key hk i (by omega), hK] at h)
    have CLS : ∀ W, Hid (Calls Tryd.prog 24 #[.string key, .string (txt s 64)] W fun e w' => e = .returned (.string (txt (q r) 64)) ∧ Below W.heap.size W w') := fun W => Lib.hid (LockSliced_spec key hk s (q r) (fun j _ => by
      have h := blk_lock key hk s j
      rw [hr, hK, hq] at h
      exact h.symm) W)
    have CN : ∀ W, Hid (Calls Tryd.prog 19 #[.string key] W fun e w' => e = .returned (.int .i64 (r : Int)) ∧ W = w') := fun W => Lib.hid (by
      have h := Rounds_spec key W
      rwa [show kRi key = (r : Int) by unfold kRi; rw [if_pos hk, hr]] at h)
    have CT : ∀ W, Hid (Calls Tryd.prog 20 #[.string (txt s 64)] W fun e w' => e = .returned (.agg (pc s)) ∧ Below W.heap.size W w') := fun W => Lib.hid (by
      have h := ToPlanes_impl (txt s 64) W (by rw [txt_size]; omega)
      rwa [pc_txt] at h)
    have CP := fun b W => Lib.hid (PlaneKey_impl b W)
    have CX0 : ∀ W, Hid (Calls Tryd.prog 13 #[.agg (pc s), .agg (pc (keyB (K 0)))] W fun e w' => e = .returned (.agg (pc (q 0))) ∧ Below W.heap.size W w') := fun W => Lib.hid (by
      have h := PlaneXor_impl s (keyB (K 0)) W
      rwa [show (fun i => s i ^^^ keyB (K 0) i) = q 0 by rw [← hq]; rfl] at h)
    have CS := fun k W => Lib.hid (PlaneSub_impl (q k) W)
    have CR : ∀ k W, Hid (Calls Tryd.prog 9 #[.agg (pc (fun i => sbox (q k i))), .bool false] W fun e w' => e = .returned (.agg (pc (rowsB 1 (fun i => sbox (q k i))))) ∧ Below W.heap.size W w') := fun k W => Lib.hid (PlaneRows_impl (fun i => sbox (q k i)) false W)
    have CC : ∀ k W, Below w.heap.size w W → Hid (Calls Tryd.prog 10 #[.agg (pc (rowsB 1 (fun i => sbox (q k i)))), .bool false] W fun e w' => e = .returned (.agg (pc (colsB mxW (rowsB 1 (fun i => sbox (q k i)))))) ∧ Below W.heap.size W w') := fun k W hW => Lib.hid (PlaneColumns_impl (rowsB 1 (fun i => sbox (q k i))) false W (HFX.out.up hW).1 (HFX.out.up hW).2)
    have CXM : ∀ k, k + 1 < r → ∀ W, Hid (Calls Tryd.prog 13 #[.agg (pc (colsB mxW (rowsB 1 (fun i => sbox (q k i))))), .agg (pc (keyB (K (k + 1))))] W fun e w' => e = .returned (.agg (pc (q (k + 1)))) ∧ Below W.heap.size W w') := fun k h1 W => Lib.hid (by
      have h := PlaneXor_impl (colsB mxW (rowsB 1 (fun i => sbox (q k i)))) (keyB (K (k + 1))) W
      rwa [show (fun i => (colsB mxW (rowsB 1 (fun i => sbox (q k i)))) i ^^^ keyB (K (k + 1)) i) = q (k + 1) by rw [← hq, lkP_up]; simp only [if_pos h1]] at h)
    have CXR : ∀ k, ¬ k + 1 < r → ∀ W, Hid (Calls Tryd.prog 13 #[.agg (pc (rowsB 1 (fun i => sbox (q k i)))), .agg (pc (keyB (K (k + 1))))] W fun e w' => e = .returned (.agg (pc (q (k + 1)))) ∧ Below W.heap.size W w') := fun k h1 W => Lib.hid (by
      have h := PlaneXor_impl (rowsB 1 (fun i => sbox (q k i))) (keyB (K (k + 1))) W
      rwa [show (fun i => (rowsB 1 (fun i => sbox (q k i))) i ^^^ keyB (K (k + 1)) i) = q (k + 1) by rw [← hq, lkP_up]; simp only [if_neg h1]] at h)
    have CF := fun W => Lib.hid (FromPlanes_impl (q r) W)
    clear hq hK hr hk HFX
    generalize txt s 64 = TS at *
    generalize txt (q r) 64 = TQ at *
    go_wp2_with fail
    refine (draw_PlaneKey _ _ _ _ H2.out hl).mono ?_; rintro e w3 ⟨b, rfl, hb3⟩
    have B3 := Lib.hid (B2.out.trans (hb3.mono B2.out.size))
    have CPb := CP b
    have CPs := fun W => Lib.hid (PlaneKey_spec b W)
    have QB := same8_pc (keyB b)
    clear hb3 B2 H2
    generalize pc (keyB b) = PB at *
    go_wp2_with fail
    refine (CPb _).out.mono ?_; rintro e w4 ⟨rfl, hb⟩
    have B4 := Lib.hid (B3.out.trans (hb.mono B3.out.size))
    clear hb B3
    go_wp2_with fail
    refine (CPs _).out.mono ?_; rintro e w5 ⟨rfl, hb⟩
    have B5 := Lib.hid (B4.out.trans (hb.mono B4.out.size))
    clear hb B4 CPb CPs
    go_wp2_with (refine Great.wpList_runTo rfl (some 21) rfl (.bool false) w5 (exec_neqP QB w5 (.tmp 18) (.tmp 20) rfl rfl rfl) ?_)
    refine (CN _).out.mono ?_; rintro e w' ⟨rfl, rfl⟩
    clear CN QB
    go_wp2_with fail
    refine (CT _).out.mono ?_; rintro e w6 ⟨rfl, hb⟩
    have B6 := Lib.hid (B5.out.trans (hb.mono B5.out.size))
    clear hb B5 CT
    have CK0 := fun W => CRK 0 (by omega) W
    rw [show ((0 : Nat) : Int) = 0 from rfl] at CK0
    go_wp2_with fail
    refine (CK0 _).out.mono ?_; rintro e w7 ⟨rfl, hb⟩
    have B7 := Lib.hid (B6.out.trans (hb.mono B6.out.size))
    clear hb B6 CK0
    go_wp2_with fail
    refine (CP (K 0) _).out.mono ?_; rintro e w8 ⟨rfl, hb⟩
    have B8 := Lib.hid (B7.out.trans (hb.mono B7.out.size))
    clear hb B7
    go_wp2_with fail
    refine (CX0 _).out.mono ?_; rintro e w9 ⟨rfl, hb⟩
    have B9 := Lib.hid (B8.out.trans (hb.mono B8.out.size))
    clear hb B8 CX0
    have H9 := Lib.hid (Hold.nil B9.out)
    have i0 := planes_info (q 0)
    have o0 := pc_one (q 0)
    have z0 : #[Value.int .u64 0, .int .u64 0, .int .u64 0, .int .u64 0, .int .u64 0, .int .u64 0, .int .u64 0, .int .u64 0].size = (pc (q 0)).size := by rw [pc_size]; rfl
    obtain ⟨m1, m2⟩ := made1d H9.out #[Value.int .u64 0, .int .u64 0, .int .u64 0, .int .u64 0, .int .u64 0, .int .u64 0, .int .u64 0, .int .u64 0] (pc (q 0)) 26
    have M1 := Lib.hid m1
    obtain ⟨W10, hW10⟩ : ∃ W10, (w9.alloc (.cells #[Value.int .u64 0, .int .u64 0, .int .u64 0, .int .u64 0, .int .u64 0, .int .u64 0, .int .u64 0, .int .u64 0] 26)).setRow w9.heap.size (pc (q 0)) = W10 := ⟨_, rfl⟩
    rw [hW10] at m2
    have hx0 : RQ W10 w9.heap.size 26 (pc (q 0)) := m2.1 (w9.heap.size, 26, pc (q 0)) (by simp)
    have hbl0 : Below w.heap.size w W10 := m2.2
    have HW10 := Lib.hid hW10
    clear m1 m2 hW10 B9
    obtain ⟨PP, hPP⟩ : ∃ PP : Nat → Array Value, (fun k => pc (q k)) = PP := ⟨_, rfl⟩
    have ePP : ∀ k, pc (q k) = PP k := fun k => by rw [← hPP]
    rw [ePP 0] at i0 o0 z0 HW10 hx0 ⊢
    have EPP := Lib.hid ePP
    clear hPP ePP
    go_wp2_with (refine wpList_store_row rfl 26 _ _ rfl (w9.heap.size) (PP 0) rfl rfl 26 _ M1.out i0 z0 o0 ?_)
    rw [HW10.out]
    clear HW10 M1 i0 o0 z0
    go_loopw [8] (fun v wr => ∃ k : Nat, k ≤ r ∧ v = .int .i64 ((k : Int) + 1) ∧ Below w.heap.size w wr ∧ RQ wr w9.heap.size 26 (PP k)) (fun v _ => r + 1 - (intOf v).toNat)
    case atStart => exact ⟨0, by omega, rfl, hbl0, hx0⟩
    case round =>
      obtain ⟨k, hk, rfl, hbel, hx⟩ := hrel
      by_cases hlt : k < r
      · have hk1 : (k : Int) + 1 ≤ (r : Int) := by omega
        have CK := fun W => CRK (k + 1) (by omega) W
        rw [show ((k + 1 : Nat) : Int) = (k : Int) + 1 by omega] at CK
        have CP := CP (K (k + 1))
        have CS := CS k
        have CR := CR k
        have CC := CC k
        have CXM := CXM k
        have CXR := CXR k
        have HX := Lib.hid hx
        have HB := Lib.hid hbel
        have iq := planes_info (q k)
        have ir := planes_info (rowsB 1 (fun i => sbox (q k i)))
        have or := pc_one (rowsB 1 (fun i => sbox (q k i)))
        have im := planes_info (colsB mxW (rowsB 1 (fun i => sbox (q k i))))
        have om := pc_one (colsB mxW (rowsB 1 (fun i => sbox (q k i))))
        have i2 := planes_info (q (k + 1))
        have o2 := pc_one (q (k + 1))
        have zr : (pc (q k)).size = (pc (rowsB 1 (fun i => sbox (q k i)))).size := (pc_size _).trans (pc_size _).symm
        have zm : (pc (rowsB 1 (fun i => sbox (q k i)))).size = (pc (colsB mxW (rowsB 1 (fun i => sbox (q k i))))).size := (pc_size _).trans (pc_size _).symm
        have z2m : (pc (colsB mxW (rowsB 1 (fun i => sbox (q k i))))).size = (pc (q (k + 1))).size := (pc_size _).trans (pc_size _).symm
        have z2r : (pc (rowsB 1 (fun i => sbox (q k i)))).size = (pc (q (k + 1))).size := (pc_size _).trans (pc_size _).symm
        have q1 : IntKind.i64.wrap ((k : Int) + 1 + 1) = (k : Int) + 1 + 1 := IntWalk.i64_in _ (by omega)
        clear CRK CLS CF hbel hx hbl0 hx0
        rw [EPP.out k] at CS iq zr
        obtain ⟨P2, hP2⟩ : ∃ P2, pc (q (k + 1)) = P2 := ⟨_, rfl⟩
        rw [hP2] at i2 o2 z2m z2r
        simp only [hP2] at CXM CXR
        have HP2 : Hid (PP (k + 1) = P2) := Lib.hid (by rw [← EPP.out, hP2])
        clear hP2 EPP
        generalize PP k = PQ at *
        generalize pc (colsB mxW (rowsB 1 (fun i => sbox (q k i)))) = PMX at *
        generalize pc (rowsB 1 (fun i => sbox (q k i))) = PRW at *
        generalize pc (fun i => sbox (q k i)) = PSB at *
        generalize pc (keyB (K (k + 1))) = PK at *
        generalize K (k + 1) = KB at *
        go_wp2_with (refine wpList_load_row rfl 26 _ rfl w9.heap.size rfl 26 PQ (0, 0) _ HX.out Tryd.underlying26 rfl iq ?_)
        refine (CS _).out.mono ?_; rintro e w10 ⟨rfl, hb⟩
        have X10 := Lib.hid (HX.out.up hb)
        have B10 := Lib.hid (HB.out.trans (hb.mono HB.out.size))
        clear hb HX HB CS
        go_wp2_with fail
        refine (CR _).out.mono ?_; rintro e w11 ⟨rfl, hb⟩
        have X11 := Lib.hid (X10.out.up hb)
        have B11 := Lib.hid (B10.out.trans (hb.mono B10.out.size))
        clear hb X10 B10 CR
        have Y11 := Lib.hid (X11.out.row PRW)
        have E11 := Lib.hid (below_setRow B11.out H9.out.2.size PRW)
        obtain ⟨WW, hWW⟩ : ∃ WW, w11.setRow w9.heap.size PRW = WW := ⟨_, rfl⟩
        rw [hWW] at Y11 E11
        have HWW := Lib.hid hWW
        clear hWW B11
        by_cases hlt2 : k + 1 < r
        · have hk2 : (k : Int) + 1 < (r : Int) := by omega
          have CX := CXM hlt2
          clear CXM CXR hlt2
          go_wp2_with (first
            | (refine wpList_store_row rfl 26 _ _ rfl (w9.heap.size) PRW rfl rfl 26 _ X11.out ir zr or ?_)
            | (refine wpList_load_row rfl 26 _ rfl w9.heap.size rfl 26 PRW (0, 0) _ (by rw [HWW.out]; exact Y11.out) Tryd.underlying26 rfl ir ?_))
          rw [HWW.out]
          refine (CC _ E11.out).out.mono ?_; rintro e w12 ⟨rfl, hb⟩
          have X12 := Lib.hid (Y11.out.up hb)
          have B12 := Lib.hid (E11.out.trans (hb.mono E11.out.size))
          clear hb Y11 E11 CC HWW X11
          clear WW
          have XW := Lib.hid (X12.out.row PMX)
          have BW := Lib.hid (below_setRow B12.out H9.out.2.size PMX)
          obtain ⟨WW, hWW⟩ : ∃ WW, w12.setRow w9.heap.size PMX = WW := ⟨_, rfl⟩
          rw [hWW] at XW BW
          have HWW := Lib.hid hWW
          clear hWW B12
          go_upto_region 15 with (refine wpList_store_row rfl 26 _ _ rfl (w9.heap.size) PMX rfl rfl 26 _ X12.out im zm om ?_)
          rw [HWW.out]
          try simp only [List.getElem_toArray, List.getElem_cons_succ, List.getElem_cons_zero, Act.put, List.setIfInBounds_toArray, List.set_cons_zero, List.set_cons_succ]
          have hS0 : Hold w [] (WW.drew) := Hold.nil BW.out.drew
          have ZX : Hid (RQ WW.drew w9.heap.size 26 PMX) := Lib.hid XW.out
          clear HWW X12 XW BW
          refine wp_region_held_drew (S := Hold w []) (by kernel_rfl) hS0 (fun hS0 => ?_)
          generalize WW.drew = wq at *
          refine wpAnyH_take (i := 1) (v := ?_) rfl (by kernel_rfl) (by kernel_rfl) (by kernel_rfl) (fun _ _ _ h => h) (Or.inl ⟨by kernel_rfl, ?_⟩) (by assumption) ?_
          rotate_left
          · intro w hSw
            go_simp
            first | done | with_reducible rfl
          try simp only [List.getElem_toArray, List.getElem_cons_succ, List.getElem_cons_zero, Act.put, List.setIfInBounds_toArray, List.set_cons_zero, List.set_cons_succ]
          refine wpAnyH_take (i := 2) (v := ?_) rfl (by kernel_rfl) (by kernel_rfl) (by kernel_rfl) (fun _ _ _ h => h) (Or.inl ⟨by kernel_rfl, ?_⟩) (by assumption) ?_
          rotate_left
          · intro w hSw
            go_simp
            first | done | with_reducible rfl
          try simp only [List.getElem_toArray, List.getElem_cons_succ, List.getElem_cons_zero, Act.put, List.setIfInBounds_toArray, List.set_cons_zero, List.set_cons_succ]
          refine wpAnyH_ready (rs := [0, 3]) (by kernel_rfl) (by simp) ?_
          refine AllReadyH.cons rfl (fun K hK => ?_) (AllReadyH.cons rfl (fun K hK => ?_) AllReadyH.nil)
          · refine wp_load_row 26 _ rfl (w9.heap.size) rfl 26 PMX (0, 0) _ ZX.out Tryd.underlying26 rfl im ?_
            have hS1 := hS0
            refine hK.out _ _ hS1 (fun hS1 => ?_)
            clear hK K
            try simp only [List.getElem_toArray, List.getElem_cons_succ, List.getElem_cons_zero, Act.put, List.setIfInBounds_toArray, List.set_cons_zero, List.set_cons_succ]
            refine wpAnyH_ready (rs := [3]) (by kernel_rfl) (by simp) ?_
            refine AllReadyH.cons rfl (fun K hK => ?_) AllReadyH.nil
            go_simp
            refine (CK _).out.mono ?_; rintro e x3 ⟨rfl, hb⟩
            have hS2 := hS1.next hb
            have ZX := Lib.hid (ZX.out.up hb)
            clear hb
            refine hK.out _ _ hS2 (fun hS2 => ?_)
            clear hK K
            try simp only [List.getElem_toArray, List.getElem_cons_succ, List.getElem_cons_zero, Act.put, List.setIfInBounds_toArray, List.set_cons_zero, List.set_cons_succ]
            refine wpAnyH_ready (rs := [4]) (by kernel_rfl) (by simp) ?_
            refine AllReadyH.cons rfl (fun K hK => ?_) AllReadyH.nil
            go_simp
            refine (CP _).out.mono ?_; rintro e x5 ⟨rfl, hb⟩
            have hS4 := hS2.next hb
            have ZX := Lib.hid (ZX.out.up hb)
            clear hb
            refine hK.out _ _ hS4 (fun hS4 => ?_)
            clear hK K
            try simp only [List.getElem_toArray, List.getElem_cons_succ, List.getElem_cons_zero, Act.put, List.setIfInBounds_toArray, List.set_cons_zero, List.set_cons_succ]
            refine wpAnyH_ready (rs := [5]) (by kernel_rfl) (by simp) ?_
            refine AllReadyH.cons rfl (fun K hK => ?_) AllReadyH.nil
            go_simp
            refine (CX _).out.mono ?_; rintro e x7 ⟨rfl, hb⟩
            have hS6 := hS4.next hb
            have ZX := Lib.hid (ZX.out.up hb)
            clear hb
            refine hK.out _ _ hS6 (fun hS6 => ?_)
            clear hK K
            try simp only [List.getElem_toArray, List.getElem_cons_succ, List.getElem_cons_zero, Act.put, List.setIfInBounds_toArray, List.set_cons_zero, List.set_cons_succ]
            refine wpAnyH_ready (rs := [6]) (by kernel_rfl) (by simp) ?_
            refine AllReadyH.cons rfl (fun K hK => ?_) AllReadyH.nil
            have hS8 := hS6.put H9.out (Nat.le_refl _) P2
            have ZXs := Lib.hid (ZX.out.row P2)
            refine wp_store_row 26 _ _ rfl (w9.heap.size) P2 rfl rfl 26 _ ZX.out i2 z2m o2 ?_
            refine hK.out _ _ hS8 (fun hS8 => ?_)
            clear hK K ZX
            try simp only [List.getElem_toArray, List.getElem_cons_succ, List.getElem_cons_zero, Act.put, List.setIfInBounds_toArray, List.set_cons_zero, List.set_cons_succ]
            generalize x7.setRow (w9.heap.size) P2 = x9 at *
            refine wpAnyH_done (by kernel_rfl) ?_ _
            have BE := Lib.hid hS8.2
            have XE := Lib.hid ZXs.out
            clear hS0
            go_wp2
            go_roundw
            case rel => exact ⟨k + 1, by omega, by go_num, BE.out, by rw [HP2.out]; exact XE.out⟩
            case measure => simp [intOf]; omega
          · go_simp
            refine (CK _).out.mono ?_; rintro e x11 ⟨rfl, hb⟩
            have hS10 := hS0.next hb
            have ZX := Lib.hid (ZX.out.up hb)
            clear hb
            refine hK.out _ _ hS10 (fun hS10 => ?_)
            clear hK K
            try simp only [List.getElem_toArray, List.getElem_cons_succ, List.getElem_cons_zero, Act.put, List.setIfInBounds_toArray, List.set_cons_zero, List.set_cons_succ]
            refine wpAnyH_ready (rs := [0, 4]) (by kernel_rfl) (by simp) ?_
            refine AllReadyH.cons rfl (fun K hK => ?_) (AllReadyH.cons rfl (fun K hK => ?_) AllReadyH.nil)
            · refine wp_load_row 26 _ rfl (w9.heap.size) rfl 26 PMX (0, 0) _ ZX.out Tryd.underlying26 rfl im ?_
              have hS12 := hS10
              refine hK.out _ _ hS12 (fun hS12 => ?_)
              clear hK K
              try simp only [List.getElem_toArray, List.getElem_cons_succ, List.getElem_cons_zero, Act.put, List.setIfInBounds_toArray, List.set_cons_zero, List.set_cons_succ]
              refine wpAnyH_ready (rs := [4]) (by kernel_rfl) (by simp) ?_
              refine AllReadyH.cons rfl (fun K hK => ?_) AllReadyH.nil
              go_simp
              refine (CP _).out.mono ?_; rintro e x14 ⟨rfl, hb⟩
              have hS13 := hS12.next hb
              have ZX := Lib.hid (ZX.out.up hb)
              clear hb
              refine hK.out _ _ hS13 (fun hS13 => ?_)
              clear hK K
              try simp only [List.getElem_toArray, List.getElem_cons_succ, List.getElem_cons_zero, Act.put, List.setIfInBounds_toArray, List.set_cons_zero, List.set_cons_succ]
              refine wpAnyH_ready (rs := [5]) (by kernel_rfl) (by simp) ?_
              refine AllReadyH.cons rfl (fun K hK => ?_) AllReadyH.nil
              go_simp
              refine (CX _).out.mono ?_; rintro e x16 ⟨rfl, hb⟩
              have hS15 := hS13.next hb
              have ZX := Lib.hid (ZX.out.up hb)
              clear hb
              refine hK.out _ _ hS15 (fun hS15 => ?_)
              clear hK K
              try simp only [List.getElem_toArray, List.getElem_cons_succ, List.getElem_cons_zero, Act.put, List.setIfInBounds_toArray, List.set_cons_zero, List.set_cons_succ]
              refine wpAnyH_ready (rs := [6]) (by kernel_rfl) (by simp) ?_
              refine AllReadyH.cons rfl (fun K hK => ?_) AllReadyH.nil
              have hS17 := hS15.put H9.out (Nat.le_refl _) P2
              have ZXs := Lib.hid (ZX.out.row P2)
              refine wp_store_row 26 _ _ rfl (w9.heap.size) P2 rfl rfl 26 _ ZX.out i2 z2m o2 ?_
              refine hK.out _ _ hS17 (fun hS17 => ?_)
              clear hK K ZX
              try simp only [List.getElem_toArray, List.getElem_cons_succ, List.getElem_cons_zero, Act.put, List.setIfInBounds_toArray, List.set_cons_zero, List.set_cons_succ]
              generalize x16.setRow (w9.heap.size) P2 = x18 at *
              refine wpAnyH_done (by kernel_rfl) ?_ _
              have BE := Lib.hid hS17.2
              have XE := Lib.hid ZXs.out
              clear hS0
              go_wp2
              go_roundw
              case rel => exact ⟨k + 1, by omega, by go_num, BE.out, by rw [HP2.out]; exact XE.out⟩
              case measure => simp [intOf]; omega
            · go_simp
              refine (CP _).out.mono ?_; rintro e x20 ⟨rfl, hb⟩
              have hS19 := hS10.next hb
              have ZX := Lib.hid (ZX.out.up hb)
              clear hb
              refine hK.out _ _ hS19 (fun hS19 => ?_)
              clear hK K
              try simp only [List.getElem_toArray, List.getElem_cons_succ, List.getElem_cons_zero, Act.put, List.setIfInBounds_toArray, List.set_cons_zero, List.set_cons_succ]
              refine wpAnyH_ready (rs := [0]) (by kernel_rfl) (by simp) ?_
              refine AllReadyH.cons rfl (fun K hK => ?_) AllReadyH.nil
              refine wp_load_row 26 _ rfl (w9.heap.size) rfl 26 PMX (0, 0) _ ZX.out Tryd.underlying26 rfl im ?_
              have hS21 := hS19
              refine hK.out _ _ hS21 (fun hS21 => ?_)
              clear hK K
              try simp only [List.getElem_toArray, List.getElem_cons_succ, List.getElem_cons_zero, Act.put, List.setIfInBounds_toArray, List.set_cons_zero, List.set_cons_succ]
              refine wpAnyH_ready (rs := [5]) (by kernel_rfl) (by simp) ?_
              refine AllReadyH.cons rfl (fun K hK => ?_) AllReadyH.nil
              go_simp
              refine (CX _).out.mono ?_; rintro e x23 ⟨rfl, hb⟩
              have hS22 := hS21.next hb
              have ZX := Lib.hid (ZX.out.up hb)
              clear hb
              refine hK.out _ _ hS22 (fun hS22 => ?_)
              clear hK K
              try simp only [List.getElem_toArray, List.getElem_cons_succ, List.getElem_cons_zero, Act.put, List.setIfInBounds_toArray, List.set_cons_zero, List.set_cons_succ]
              refine wpAnyH_ready (rs := [6]) (by kernel_rfl) (by simp) ?_
              refine AllReadyH.cons rfl (fun K hK => ?_) AllReadyH.nil
              have hS24 := hS22.put H9.out (Nat.le_refl _) P2
              have ZXs := Lib.hid (ZX.out.row P2)
              refine wp_store_row 26 _ _ rfl (w9.heap.size) P2 rfl rfl 26 _ ZX.out i2 z2m o2 ?_
              refine hK.out _ _ hS24 (fun hS24 => ?_)
              clear hK K ZX
              try simp only [List.getElem_toArray, List.getElem_cons_succ, List.getElem_cons_zero, Act.put, List.setIfInBounds_toArray, List.set_cons_zero, List.set_cons_succ]
              generalize x23.setRow (w9.heap.size) P2 = x25 at *
              refine wpAnyH_done (by kernel_rfl) ?_ _
              have BE := Lib.hid hS24.2
              have XE := Lib.hid ZXs.out
              clear hS0
              go_wp2
              go_roundw
              case rel => exact ⟨k + 1, by omega, by go_num, BE.out, by rw [HP2.out]; exact XE.out⟩
              case measure => simp [intOf]; omega
        · have hk2 : ¬ (k : Int) + 1 < (r : Int) := by omega
          have CX := CXR hlt2
          clear CXM CXR CC hlt2
          have XW := Lib.hid Y11.out
          have BW := Lib.hid E11.out
          go_upto_region 15 with (refine wpList_store_row rfl 26 _ _ rfl (w9.heap.size) PRW rfl rfl 26 _ X11.out ir zr or ?_)
          rw [HWW.out]
          try simp only [List.getElem_toArray, List.getElem_cons_succ, List.getElem_cons_zero, Act.put, List.setIfInBounds_toArray, List.set_cons_zero, List.set_cons_succ]
          have hS0 : Hold w [] (WW.drew) := Hold.nil BW.out.drew
          have ZX : Hid (RQ WW.drew w9.heap.size 26 PRW) := Lib.hid XW.out
          clear HWW X11 XW BW Y11 E11
          refine wp_region_held_drew (S := Hold w []) (by kernel_rfl) hS0 (fun hS0 => ?_)
          generalize WW.drew = wq at *
          refine wpAnyH_take (i := 1) (v := ?_) rfl (by kernel_rfl) (by kernel_rfl) (by kernel_rfl) (fun _ _ _ h => h) (Or.inl ⟨by kernel_rfl, ?_⟩) (by assumption) ?_
          rotate_left
          · intro w hSw
            go_simp
            first | done | with_reducible rfl
          try simp only [List.getElem_toArray, List.getElem_cons_succ, List.getElem_cons_zero, Act.put, List.setIfInBounds_toArray, List.set_cons_zero, List.set_cons_succ]
          refine wpAnyH_take (i := 2) (v := ?_) rfl (by kernel_rfl) (by kernel_rfl) (by kernel_rfl) (fun _ _ _ h => h) (Or.inl ⟨by kernel_rfl, ?_⟩) (by assumption) ?_
          rotate_left
          · intro w hSw
            go_simp
            first | done | with_reducible rfl
          try simp only [List.getElem_toArray, List.getElem_cons_succ, List.getElem_cons_zero, Act.put, List.setIfInBounds_toArray, List.set_cons_zero, List.set_cons_succ]
          refine wpAnyH_ready (rs := [0, 3]) (by kernel_rfl) (by simp) ?_
          refine AllReadyH.cons rfl (fun K hK => ?_) (AllReadyH.cons rfl (fun K hK => ?_) AllReadyH.nil)
          · refine wp_load_row 26 _ rfl (w9.heap.size) rfl 26 PRW (0, 0) _ ZX.out Tryd.underlying26 rfl ir ?_
            have hS1 := hS0
            refine hK.out _ _ hS1 (fun hS1 => ?_)
            clear hK K
            try simp only [List.getElem_toArray, List.getElem_cons_succ, List.getElem_cons_zero, Act.put, List.setIfInBounds_toArray, List.set_cons_zero, List.set_cons_succ]
            refine wpAnyH_ready (rs := [3]) (by kernel_rfl) (by simp) ?_
            refine AllReadyH.cons rfl (fun K hK => ?_) AllReadyH.nil
            go_simp
            refine (CK _).out.mono ?_; rintro e x3 ⟨rfl, hb⟩
            have hS2 := hS1.next hb
            have ZX := Lib.hid (ZX.out.up hb)
            clear hb
            refine hK.out _ _ hS2 (fun hS2 => ?_)
            clear hK K
            try simp only [List.getElem_toArray, List.getElem_cons_succ, List.getElem_cons_zero, Act.put, List.setIfInBounds_toArray, List.set_cons_zero, List.set_cons_succ]
            refine wpAnyH_ready (rs := [4]) (by kernel_rfl) (by simp) ?_
            refine AllReadyH.cons rfl (fun K hK => ?_) AllReadyH.nil
            go_simp
            refine (CP _).out.mono ?_; rintro e x5 ⟨rfl, hb⟩
            have hS4 := hS2.next hb
            have ZX := Lib.hid (ZX.out.up hb)
            clear hb
            refine hK.out _ _ hS4 (fun hS4 => ?_)
            clear hK K
            try simp only [List.getElem_toArray, List.getElem_cons_succ, List.getElem_cons_zero, Act.put, List.setIfInBounds_toArray, List.set_cons_zero, List.set_cons_succ]
            refine wpAnyH_ready (rs := [5]) (by kernel_rfl) (by simp) ?_
            refine AllReadyH.cons rfl (fun K hK => ?_) AllReadyH.nil
            go_simp
            refine (CX _).out.mono ?_; rintro e x7 ⟨rfl, hb⟩
            have hS6 := hS4.next hb
            have ZX := Lib.hid (ZX.out.up hb)
            clear hb
            refine hK.out _ _ hS6 (fun hS6 => ?_)
            clear hK K
            try simp only [List.getElem_toArray, List.getElem_cons_succ, List.getElem_cons_zero, Act.put, List.setIfInBounds_toArray, List.set_cons_zero, List.set_cons_succ]
            refine wpAnyH_ready (rs := [6]) (by kernel_rfl) (by simp) ?_
            refine AllReadyH.cons rfl (fun K hK => ?_) AllReadyH.nil
            have hS8 := hS6.put H9.out (Nat.le_refl _) P2
            have ZXs := Lib.hid (ZX.out.row P2)
            refine wp_store_row 26 _ _ rfl (w9.heap.size) P2 rfl rfl 26 _ ZX.out i2 z2r o2 ?_
            refine hK.out _ _ hS8 (fun hS8 => ?_)
            clear hK K ZX
            try simp only [List.getElem_toArray, List.getElem_cons_succ, List.getElem_cons_zero, Act.put, List.setIfInBounds_toArray, List.set_cons_zero, List.set_cons_succ]
            generalize x7.setRow (w9.heap.size) P2 = x9 at *
            refine wpAnyH_done (by kernel_rfl) ?_ _
            have BE := Lib.hid hS8.2
            have XE := Lib.hid ZXs.out
            clear hS0
            go_wp2
            go_roundw
            case rel => exact ⟨k + 1, by omega, by go_num, BE.out, by rw [HP2.out]; exact XE.out⟩
            case measure => simp [intOf]; omega
          · go_simp
            refine (CK _).out.mono ?_; rintro e x11 ⟨rfl, hb⟩
            have hS10 := hS0.next hb
            have ZX := Lib.hid (ZX.out.up hb)
            clear hb
            refine hK.out _ _ hS10 (fun hS10 => ?_)
            clear hK K
            try simp only [List.getElem_toArray, List.getElem_cons_succ, List.getElem_cons_zero, Act.put, List.setIfInBounds_toArray, List.set_cons_zero, List.set_cons_succ]
            refine wpAnyH_ready (rs := [0, 4]) (by kernel_rfl) (by simp) ?_
            refine AllReadyH.cons rfl (fun K hK => ?_) (AllReadyH.cons rfl (fun K hK => ?_) AllReadyH.nil)
            · refine wp_load_row 26 _ rfl (w9.heap.size) rfl 26 PRW (0, 0) _ ZX.out Tryd.underlying26 rfl ir ?_
              have hS12 := hS10
              refine hK.out _ _ hS12 (fun hS12 => ?_)
              clear hK K
              try simp only [List.getElem_toArray, List.getElem_cons_succ, List.getElem_cons_zero, Act.put, List.setIfInBounds_toArray, List.set_cons_zero, List.set_cons_succ]
              refine wpAnyH_ready (rs := [4]) (by kernel_rfl) (by simp) ?_
              refine AllReadyH.cons rfl (fun K hK => ?_) AllReadyH.nil
              go_simp
              refine (CP _).out.mono ?_; rintro e x14 ⟨rfl, hb⟩
              have hS13 := hS12.next hb
              have ZX := Lib.hid (ZX.out.up hb)
              clear hb
              refine hK.out _ _ hS13 (fun hS13 => ?_)
              clear hK K
              try simp only [List.getElem_toArray, List.getElem_cons_succ, List.getElem_cons_zero, Act.put, List.setIfInBounds_toArray, List.set_cons_zero, List.set_cons_succ]
              refine wpAnyH_ready (rs := [5]) (by kernel_rfl) (by simp) ?_
              refine AllReadyH.cons rfl (fun K hK => ?_) AllReadyH.nil
              go_simp
              refine (CX _).out.mono ?_; rintro e x16 ⟨rfl, hb⟩
              have hS15 := hS13.next hb
              have ZX := Lib.hid (ZX.out.up hb)
              clear hb
              refine hK.out _ _ hS15 (fun hS15 => ?_)
              clear hK K
              try simp only [List.getElem_toArray, List.getElem_cons_succ, List.getElem_cons_zero, Act.put, List.setIfInBounds_toArray, List.set_cons_zero, List.set_cons_succ]
              refine wpAnyH_ready (rs := [6]) (by kernel_rfl) (by simp) ?_
              refine AllReadyH.cons rfl (fun K hK => ?_) AllReadyH.nil
              have hS17 := hS15.put H9.out (Nat.le_refl _) P2
              have ZXs := Lib.hid (ZX.out.row P2)
              refine wp_store_row 26 _ _ rfl (w9.heap.size) P2 rfl rfl 26 _ ZX.out i2 z2r o2 ?_
              refine hK.out _ _ hS17 (fun hS17 => ?_)
              clear hK K ZX
              try simp only [List.getElem_toArray, List.getElem_cons_succ, List.getElem_cons_zero, Act.put, List.setIfInBounds_toArray, List.set_cons_zero, List.set_cons_succ]
              generalize x16.setRow (w9.heap.size) P2 = x18 at *
              refine wpAnyH_done (by kernel_rfl) ?_ _
              have BE := Lib.hid hS17.2
              have XE := Lib.hid ZXs.out
              clear hS0
              go_wp2
              go_roundw
              case rel => exact ⟨k + 1, by omega, by go_num, BE.out, by rw [HP2.out]; exact XE.out⟩
              case measure => simp [intOf]; omega
            · go_simp
              refine (CP _).out.mono ?_; rintro e x20 ⟨rfl, hb⟩
              have hS19 := hS10.next hb
              have ZX := Lib.hid (ZX.out.up hb)
              clear hb
              refine hK.out _ _ hS19 (fun hS19 => ?_)
              clear hK K
              try simp only [List.getElem_toArray, List.getElem_cons_succ, List.getElem_cons_zero, Act.put, List.setIfInBounds_toArray, List.set_cons_zero, List.set_cons_succ]
              refine wpAnyH_ready (rs := [0]) (by kernel_rfl) (by simp) ?_
              refine AllReadyH.cons rfl (fun K hK => ?_) AllReadyH.nil
              refine wp_load_row 26 _ rfl (w9.heap.size) rfl 26 PRW (0, 0) _ ZX.out Tryd.underlying26 rfl ir ?_
              have hS21 := hS19
              refine hK.out _ _ hS21 (fun hS21 => ?_)
              clear hK K
              try simp only [List.getElem_toArray, List.getElem_cons_succ, List.getElem_cons_zero, Act.put, List.setIfInBounds_toArray, List.set_cons_zero, List.set_cons_succ]
              refine wpAnyH_ready (rs := [5]) (by kernel_rfl) (by simp) ?_
              refine AllReadyH.cons rfl (fun K hK => ?_) AllReadyH.nil
              go_simp
              refine (CX _).out.mono ?_; rintro e x23 ⟨rfl, hb⟩
              have hS22 := hS21.next hb
              have ZX := Lib.hid (ZX.out.up hb)
              clear hb
              refine hK.out _ _ hS22 (fun hS22 => ?_)
              clear hK K
              try simp only [List.getElem_toArray, List.getElem_cons_succ, List.getElem_cons_zero, Act.put, List.setIfInBounds_toArray, List.set_cons_zero, List.set_cons_succ]
              refine wpAnyH_ready (rs := [6]) (by kernel_rfl) (by simp) ?_
              refine AllReadyH.cons rfl (fun K hK => ?_) AllReadyH.nil
              have hS24 := hS22.put H9.out (Nat.le_refl _) P2
              have ZXs := Lib.hid (ZX.out.row P2)
              refine wp_store_row 26 _ _ rfl (w9.heap.size) P2 rfl rfl 26 _ ZX.out i2 z2r o2 ?_
              refine hK.out _ _ hS24 (fun hS24 => ?_)
              clear hK K ZX
              try simp only [List.getElem_toArray, List.getElem_cons_succ, List.getElem_cons_zero, Act.put, List.setIfInBounds_toArray, List.set_cons_zero, List.set_cons_succ]
              generalize x23.setRow (w9.heap.size) P2 = x25 at *
              refine wpAnyH_done (by kernel_rfl) ?_ _
              have BE := Lib.hid hS24.2
              have XE := Lib.hid ZXs.out
              clear hS0
              go_wp2
              go_roundw
              case rel => exact ⟨k + 1, by omega, by go_num, BE.out, by rw [HP2.out]; exact XE.out⟩
              case measure => simp [intOf]; omega
      · obtain rfl : k = r := by omega
        have hk1 : ¬ (k : Int) + 1 ≤ (k : Int) := by omega
        have HX := Lib.hid hx
        have HB := Lib.hid hbel
        have iq := planes_info (q k)
        rw [EPP.out k] at CF iq
        clear CRK CP CS CR CC CXM CXR hbel hx hbl0 hx0 EPP
        generalize PP k = PQ at *
        go_wp2_with (refine wpList_load_row rfl 26 _ rfl w9.heap.size rfl 26 PQ (0, 0) _ HX.out Tryd.underlying26 rfl iq ?_)
        refine (CF _).out.mono ?_; rintro e w20 ⟨rfl, hb⟩
        have B20 := Lib.hid (HB.out.trans (hb.mono HB.out.size))
        clear hb HX HB CF
        go_wp2_with fail
        refine (CLS _).out.mono ?_; rintro e w21 ⟨rfl, hb⟩
        have B21 := Lib.hid (B20.out.trans (hb.mono B20.out.size))
        clear hb B20 CLS
        go_wp2
        go_ret
        exact ⟨rfl, B21.out⟩
  · go_enter Tryd.func4, Tryd.ntmps4
    go_wp2_with fail
    refine (big_great _ _ _ _ (by omega) hlen).mono ?_; rintro e w' ⟨rfl, rfl⟩
    go_wp2
    go_ret
    exact ⟨rfl, Below.refl _ _⟩
end Go.Proofs.YtbbjcgnoialidaaDoor
