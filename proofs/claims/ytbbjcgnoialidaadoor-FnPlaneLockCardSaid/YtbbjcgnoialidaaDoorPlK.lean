/-
  What impl's planes answer: products.
-/
import Derived.Test.YtbbjcgnoialidaaDoorPlJ
import Derived.Test.YtbbjcgnoialidaaDoorStoreAt
set_option linter.unusedVariables false
set_option linter.unusedSimpArgs false
namespace Go.Proofs.YtbbjcgnoialidaaDoor
open Go Go.RowKit

theorem index_pc (s : Nat → UInt8) (k : Nat) (hk : k < 8) (w : World) : (Instr.index 26 (.agg (pc s)) (.int .i64 (k : Int))).run Tryd.prog w = .ok (.int .u64 (plW s k : Int)) w := by
  obtain ⟨i, hi, h1⟩ : ∃ i : TypeInfo, Tryd.prog.info? 24 = some i ∧ i.size = 1 := ⟨_, rfl, rfl⟩
  exact run_index_ar 26 24 8 k (pc s) _ _ i w Tryd.underlying26 Tryd.underlying24 rfl hi h1 hk (pc_at s k hk)
theorem newQ4 (w : World) (A B C D : Array Value) (a b c d : TypeId) {W : World} (hW : (((w.alloc (.cells A a)).alloc (.cells B b)).alloc (.cells C c)).alloc (.cells D d) = W) :
    RQ W w.heap.size a A ∧ RQ W (w.heap.size + 1) b B ∧ RQ W (w.heap.size + 1 + 1) c C ∧ RQ W (w.heap.size + 1 + 1 + 1) d D ∧ Below w.heap.size w W := by
  obtain ⟨W2, h2⟩ : ∃ W2, ((w.alloc (.cells A a)).alloc (.cells B b)).alloc (.cells C c) = W2 := ⟨_, rfl⟩
  obtain ⟨r1, r2, r3, u⟩ := newQ3 w A B C a b c h2
  have s2 : W2.heap.size = w.heap.size + 1 + 1 + 1 := by rw [← h2, alQ_sz, alQ_sz, alQ_sz]
  rw [h2] at hW
  subst hW
  have r4 := RQ.new W2 d D
  rw [s2] at r4
  exact ⟨r1.alloc _, r2.alloc _, r3.alloc _, r4, u.trans ((alQ_up W2 _).mono (by omega))⟩
theorem q_mul1 (s t u : Nat → UInt8) (k j : Nat) : bits .xor .u64 (plW u k : Int) (bits .and .u64 (plW s k : Int) (plW t j : Int)) = (plW (fun i => u i ^^^ (if bt (t i) j then s i else 0)) k : Int) := by
  rw [u64_and_nat _ _ (plW_lt' _ _) (plW_lt' _ _), u64_xor_nat _ _ (plW_lt' _ _) (Nat.lt_of_le_of_lt Nat.and_le_left (plW_lt' _ _)), plW_mul1]
set_option maxRecDepth 100000 in
set_option maxHeartbeats 3200000 in
theorem timesP (s t : Nat → UInt8) (w : World) :
    Calls Tryd.prog 55 #[.agg (pc s), .agg (pc t)] w fun e w' => e = .returned (.agg (pc (fun i => mul (s i) (t i)))) ∧ Below w.heap.size w w' := by
  obtain ⟨mm, hmm⟩ : ∃ mm : Nat → Nat → UInt8, (fun j i => mulTo (s i) (t i) j) = mm := ⟨_, rfl⟩
  obtain ⟨ss, hss⟩ : ∃ ss : Nat → Nat → UInt8, (fun j i => Nat.repeat tw j (s i)) = ss := ⟨_, rfl⟩
  have HX : Hid (∀ k j, bits .xor .u64 (plW (mm j) k : Int) (bits .and .u64 (plW (ss j) k : Int) (plW t j : Int)) = (plW (mm (j + 1)) k : Int)) := Lib.hid (fun k j => by rw [q_mul1, ← hmm, ← hss]; rfl)
  have HTW : ∀ j W, Hid (Calls Tryd.prog 74 #[.agg (pc (ss j))] W fun e w' => e = .returned (.agg (pc (ss (j + 1)))) ∧ Below W.heap.size W w') := fun j W => Lib.hid (by
    have h := twiceP (ss j) W
    rw [← hss] at h ⊢
    exact h)
  have e0 : mm 0 = fun _ => 0 := by rw [← hmm]; rfl
  have e8 : (fun i => mul (s i) (t i)) = mm 8 := by rw [← hmm]; funext i; exact (mulTo_8 _ _).symm
  have es : s = ss 0 := by rw [← hss]; rfl
  rw [e8, es]
  clear e8 es hmm hss
  obtain ⟨W, hW⟩ : ∃ W, (((w.alloc (.cells (pc (ss 0)) 26)).alloc (.cells (pc t) 26)).alloc (.cells zeroQ 26)).alloc (.cells zeroQ 26) = W := ⟨_, rfl⟩
  obtain ⟨h1, h2, h3, h4, hb⟩ := newQ4 w _ _ _ _ _ _ _ _ hW
  have h4 : RQ W (w.heap.size + 1 + 1 + 1) 26 (pc (mm 0)) := by rw [e0, ← zeroQ_pc]; exact h4
  have HW := Lib.hid hW
  have H2 := Lib.hid h2
  have hst := planes_info t
  have HIX := fun k hk W => Lib.hid (index_pc t k hk W)
  obtain ⟨TT, hTT⟩ : ∃ TT, pc t = TT := ⟨_, rfl⟩
  clear hW e0 h2
  rw [hTT] at HW H2 hst HIX ⊢
  unfold zeroQ at HW
  unfold RQ at H2
  go_enter Tryd.func55, Tryd.ntmps55
  go_wp2_with (refine wpList_load_row rfl 26 _ rfl (w.heap.size + 1) rfl 26 TT (0, 0) _ (by rw [HW.out]; exact H2.out) Tryd.underlying26 rfl hst ?_)
  rw [HW.out]
  go_loopw [10] (fun v wr => ∃ j : Nat, j ≤ 8 ∧ v = .int .i64 j ∧ RQ wr w.heap.size 26 (pc (ss j)) ∧ RQ wr (w.heap.size + 1 + 1) 26 zeroQ ∧ RQ wr (w.heap.size + 1 + 1 + 1) 26 (pc (mm j)) ∧ Below w.heap.size w wr) (fun v _ => 8 - (intOf v).toNat)
  case atStart => exact ⟨0, by omega, rfl, h1, h3, h4, hb⟩
  case round =>
    obtain ⟨j, hj, rfl, g1, g3, g4, hbel⟩ := hrel
    by_cases hlt : j < 8
    · have hj1 : (j : Int) < 8 := by omega
      have hj0 : (0 : Int) ≤ (j : Int) := by omega
      have hix := fun W => (HIX j hlt W).out
      rw [← pcTo_0 (mm (j + 1)) (mm j)] at g4
      clear h1 h3 h4 hb HIX H2
      have HT := fun W => HTW j W
      go_wp2
      obtain ⟨wk, rfl⟩ : ∃ x, x = wr := ⟨_, rfl⟩
      go_loopw [13] (fun v wr => ∃ k : Nat, k ≤ 8 ∧ v = .int .i64 k ∧ RQ wr w.heap.size 26 (pc (ss j)) ∧ RQ wr (w.heap.size + 1 + 1) 26 zeroQ ∧ RQ wr (w.heap.size + 1 + 1 + 1) 26 (pcTo (mm (j + 1)) (mm j) k) ∧ Below w.heap.size w wr) (fun v _ => 8 - (intOf v).toNat)
      case atStart => exact ⟨0, by omega, rfl, g1, g3, g4, hbel⟩
      case round =>
        obtain ⟨k, hk, rfl, i1, i3, i4, ibel⟩ := hrel
        by_cases hkt : k < 8
        · have hk1 : (k : Int) < 8 := by omega
          have hk0 : (0 : Int) ≤ (k : Int) := by omega
          have hx := HX.out k j
          have hc1 := i1.cell (pc_at (ss j) k hkt)
          have hc4 := i4.cell (pcTo_hi (mm (j + 1)) (mm j) k k hkt (Nat.le_refl _))
          have hfz := i4.fz k
          have d1 : RQ wr.drew w.heap.size 26 (pc (ss j)) := i1
          have d3 : RQ wr.drew (w.heap.size + 1 + 1) 26 zeroQ := i3
          have d4 : RQ wr.drew (w.heap.size + 1 + 1 + 1) 26 (pcTo (mm (j + 1)) (mm j) k) := i4
          have N1 := fun v => Lib.hid (d1.far (b := w.heap.size + 1 + 1 + 1) k v (by omega))
          have N3 := fun v => Lib.hid (d3.far (b := w.heap.size + 1 + 1 + 1) k v (by omega))
          have N4 := fun v hv => Lib.hid (d4.setP (v := v) hv)
          have NB := fun v => Lib.hid (ibel.drew.setCell (p := ⟨w.heap.size + 1 + 1 + 1, k, none⟩) (by simp; omega) v)
          clear i1 i3 i4 ibel g1 g3 g4 hbel d1 d3 d4 HT HTW hix
          go_wp2
          go_still_tail 10, (by kernel_rfl)
          change wpList _ _ _ _ _ wr.drew
          go_wp2
          go_roundw
          case rel => exact ⟨k + 1, by omega, by go_num, (N1 _).out, (N3 _).out, (N4 _ (by first | rfl | rw [HX.out])).out, (NB _).out⟩
          case measure => simp [intOf]; omega
        · obtain rfl : k = 8 := by omega
          rw [pcTo_8] at i4
          clear g1 g3 g4 hbel HX
          have HT := HTW j wr
          have hsj := planes_info (ss j)
          have hsk := planes_info (ss (j + 1))
          have honek := pc_one (ss (j + 1))
          have hzk : (pc (ss j)).size = (pc (ss (j + 1))).size := by rw [pc_size, pc_size]
          have I1 := Lib.hid i1
          have I3 := Lib.hid i3
          have I4 := Lib.hid i4
          have IB := Lib.hid ibel
          clear i1 i3 i4 ibel hix HTW
          obtain ⟨R1, hR1⟩ : ∃ R1, pc (ss (j + 1)) = R1 := ⟨_, rfl⟩
          have HR1 := Lib.hid hR1
          rw [hR1] at HT hsk honek hzk
          generalize pc (ss j) = R0 at *
          clear hR1
          go_wp2_with (refine wpList_load_row rfl 26 _ rfl w.heap.size rfl 26 R0 (0, 0) _ (by have h := I1.out; exact h) Tryd.underlying26 rfl hsj ?_)
          refine HT.out.mono ?_; rintro e w2 ⟨rfl, hb2⟩
          have J1 := I1.out.up hb2
          have J3 := Lib.hid ((I3.out.up hb2 : RQ w2 _ _ _))
          have J4 := Lib.hid ((I4.out.up hb2 : RQ w2 _ _ _))
          have JB := Lib.hid (IB.out.trans (hb2.mono IB.out.size))
          have K1 := Lib.hid (J1.row R1)
          have K3 : Hid (RQ (w2.setRow w.heap.size R1) (w.heap.size + 1 + 1) 26 zeroQ) := Lib.hid ((setRow_other w2 w.heap.size (w.heap.size + 1 + 1) R1 (by omega)).trans J3.out)
          have K4 : Hid (RQ (w2.setRow w.heap.size R1) (w.heap.size + 1 + 1 + 1) 26 (pc (mm (j + 1)))) := Lib.hid ((setRow_other w2 w.heap.size (w.heap.size + 1 + 1 + 1) R1 (by omega)).trans J4.out)
          have KB : Hid (Below w.heap.size w (w2.setRow w.heap.size R1)) := Lib.hid (below_setRow JB.out (Nat.le_refl _) _)
          have J1H := Lib.hid J1
          clear J1 hb2 I1 I3 I4 IB J3 J4 JB HT
          go_wp2_with (refine wpList_store_row rfl 26 _ _ rfl w.heap.size R1 rfl rfl 26 R0 (by have h := J1H.out; exact h) hsk hzk honek ?_)
          go_roundw
          case rel => exact ⟨j + 1, by omega, by go_num, by rw [HR1.out]; exact K1.out, K3.out, K4.out, KB.out⟩
          case measure => simp [intOf]; omega
    · obtain rfl : j = 8 := by omega
      have hone := pc_one (mm 8)
      have hsi := planes_info (mm 8)
      have hz : zeroQ.size = (pc (mm 8)).size := by rw [pc_size]; rfl
      have hsr := g3.row (pc (mm 8))
      have hbs : Hid (Below w.heap.size w (wr.setRow (w.heap.size + 1 + 1) (pc (mm 8)))) := Lib.hid (below_setRow hbel (by omega) _)
      generalize hR : pc (mm 8) = R at *
      generalize zeroQ = Z at *
      have HR := Lib.hid hR
      clear hR
      have G1 := Lib.hid g4
      have G3 := Lib.hid g3
      have HSR := Lib.hid hsr
      clear g1 g3 g4 hsr hbel h1 h3 h4 hb HX HTW HIX H2
      unfold RQ at G1 G3 HSR
      go_wp2_with (first
        | (refine wpList_load_row rfl 26 _ rfl (w.heap.size + 1 + 1 + 1) rfl 26 R (0, 0) _ G1.out Tryd.underlying26 rfl hsi ?_)
        | (refine wpList_store_row rfl 26 _ _ rfl (w.heap.size + 1 + 1) R rfl rfl 26 Z G3.out hsi hz hone ?_))
      refine bodyPost_ret (v := .agg R) ?_ rfl ⟨by rw [HR.out], hbs.out⟩
      exact results_cell_row rfl _ _ (w.heap.size + 1 + 1) 26 R (0, 0) _ rfl HSR.out Tryd.underlying26 rfl hsi
end Go.Proofs.YtbbjcgnoialidaaDoor
