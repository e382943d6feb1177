/-
  What impl's and spec's ToPlanes answer.
-/
import Derived.Test.YtbbjcgnoialidaaDoorPlJ
import Derived.Test.YtbbjcgnoialidaaDoorTpM
import Derived.Test.YtbbjcgnoialidaaDoorShift
set_option linter.unusedVariables false
set_option linter.unusedSimpArgs false
namespace Go.Proofs.YtbbjcgnoialidaaDoor
open Go Go.RowKit

theorem idx_at (s : ByteArray) (j : Nat) (c : UInt8) (hc : byteOf s j = c) (hj : j < s.size) (w : World) : (Instr.index 9 (.string s) (.int .i64 (j : Int))).run Tryd.prog w = .ok (.int .u8 (c.toNat : Int)) w := by
  subst hc; exact idx_byte s j j rfl hj w
theorem ptW_zero (s : ByteArray) : arQ (ptW s 0) 8 = zeroQ := by
  have : ptW s 0 = fun _ => 0 := by funext k; rfl
  rw [this]; rfl
theorem min_len (n : Nat) : (Builtin.min_ #[3, 3] 3 #[.int .i64 (n : Int), .int .i64 64]).run Tryd.prog = fun w => .ok (.int .i64 ((min n 64 : Nat) : Int)) w := by
  funext w
  simp [Builtin.min_, Builtin.min2]
  split <;> omega
set_option maxRecDepth 100000 in
set_option maxHeartbeats 3200000 in
theorem ToPlanes_impl (s : ByteArray) (w : World) (hs : s.size ≤ 1073741824) :
    Calls Tryd.prog 20 #[.string s] w fun e w' => e = .returned (.agg (pc (byteOf s))) ∧ Below w.heap.size w w' := by
  have HX := fun n k hn c hc => Lib.hid (q_or s n k hn c hc)
  have HI := fun j c hc hj W => Lib.hid (idx_at s j c hc hj W)
  obtain ⟨m, hm⟩ : ∃ m, min s.size 64 = m := ⟨_, rfl⟩
  have hmn := min_len s.size
  rw [hm] at hmn
  have hm1 : m ≤ 64 := by omega
  have hm2 : m ≤ s.size := by omega
  have hmm : m = 64 ∨ s.size ≤ m := by omega
  clear hm
  obtain ⟨W, hW⟩ : ∃ W, (w.alloc (.cells zeroQ 26)).alloc (.cells zeroQ 26) = W := ⟨_, rfl⟩
  obtain ⟨h1, h3, hb⟩ := newQ2 w _ _ _ _ hW
  have h3 : RQ W (w.heap.size + 1) 26 (arQ (ptW s 0) 8) := by rw [ptW_zero]; exact h3
  have HW := Lib.hid hW
  clear hW
  unfold zeroQ at HW
  go_enter Tryd.func20, Tryd.ntmps20
  have hmw := fun w => congrFun hmn w
  clear hmn
  go_wp2
  rw [HW.out]
  go_loopw [9] (fun v wr => ∃ i : Nat, i ≤ m ∧ v = .int .i64 i ∧ RQ wr w.heap.size 26 zeroQ ∧ RQ wr (w.heap.size + 1) 26 (arQ (ptW s i) 8) ∧ Below w.heap.size w wr) (fun v _ => m - (intOf v).toNat)
  case atStart => exact ⟨0, by omega, rfl, h1, h3, hb⟩
  case round =>
    obtain ⟨i, hi, rfl, g1, g3, hbel⟩ := hrel
    by_cases hlt : i < m
    · have hi1 : (i : Int) < (m : Int) := by omega
      have hi0 : (0 : Int) ≤ (i : Int) := by omega
      have hi64 : i < 64 := by omega
      have hi6 : (i : Int) < 64 := by omega
      have his : (i : Int) < (s.size : Int) := by omega
      obtain ⟨c, hc⟩ : ∃ c, byteOf s i = c := ⟨_, rfl⟩
      have hix := fun W => (HI i c hc (by omega) W).out
      have hcl := c.toNat_lt
      have hcl2 : (c.toNat : Int) < 256 := by omega
      clear hcl
      clear h1 h3 hb
      rw [← arToQ_0 (ptW s (i + 1)) (ptW s i)] at g3
      go_wp2
      obtain ⟨wk, rfl⟩ : ∃ x, x = wr := ⟨_, rfl⟩
      go_loopw [12] (fun v wr => ∃ k : Nat, k ≤ 8 ∧ v = .int .i64 k ∧ RQ wr w.heap.size 26 zeroQ ∧ RQ wr (w.heap.size + 1) 26 (arToQ (ptW s (i + 1)) (ptW s i) 8 k) ∧ Below w.heap.size w wr) (fun v _ => 8 - (intOf v).toNat)
      case atStart => exact ⟨0, by omega, rfl, g1, g3, hbel⟩
      case round =>
        obtain ⟨k, hk, rfl, i1, i3, ibel⟩ := hrel
        by_cases hkt : k < 8
        · have hk1 : (k : Int) < 8 := by omega
          have hk0 : (0 : Int) ≤ (k : Int) := by omega
          have hx := (HX i k hi64 c hc).out
          have hbit := bit_of c k
          have hc3 := i3.cell (arToQ_hi (ptW s (i + 1)) (ptW s i) 8 k k hkt (Nat.le_refl _))
          have hfz := i3.fz k
          have d1 : RQ wr.drew w.heap.size 26 zeroQ := i1
          have d3 : RQ wr.drew (w.heap.size + 1) 26 (arToQ (ptW s (i + 1)) (ptW s i) 8 k) := i3
          have N1 := fun v => Lib.hid (d1.far (b := w.heap.size + 1) k v (by omega))
          have N3 := fun v hv => Lib.hid (d3.setQ (v := v) hv)
          have NB := fun v => Lib.hid (ibel.drew.setCell (p := ⟨w.heap.size + 1, k, none⟩) (by simp) v)
          clear i1 i3 ibel g1 g3 hbel d1 d3 HX HI hc
          generalize c.toNat = cn at *
          go_wp2
          go_still_tail 14, (by kernel_rfl)
          change wpList _ _ _ _ _ wr.drew
          go_wp2
          go_roundw
          case rel => exact ⟨k + 1, by omega, by go_num, (N1 _).out, (N3 _ (by first | rfl | rw [hx])).out, (NB _).out⟩
          case measure => simp [intOf]; omega
        · obtain rfl : k = 8 := by omega
          rw [arToQ_all] at i3
          clear g1 g3 hbel
          go_wp2
          go_roundw
          case rel => exact ⟨i + 1, by omega, by go_num, i1, i3, ibel⟩
          case measure => simp [intOf]; omega
    · obtain rfl : i = m := by omega
      have e8 : arQ (ptW s i) 8 = pc (byteOf s) := arQ_congr fun k _ => ptW_all s i k hm1 hmm
      rw [e8] at g3
      have hone := pc_one (byteOf s)
      have hsi := planes_info (byteOf s)
      have hz : zeroQ.size = (pc (byteOf s)).size := by rw [pc_size]; rfl
      have hsr := g1.row (pc (byteOf s))
      have hbs : Hid (Below w.heap.size w (wr.setRow (w.heap.size) (pc (byteOf s)))) := Lib.hid (below_setRow hbel (by omega) _)
      generalize hR : pc (byteOf s) = R at *
      generalize zeroQ = Z at *
      have HR := Lib.hid hR
      clear hR
      have G1 := Lib.hid g3
      have G3 := Lib.hid g1
      have HSR := Lib.hid hsr
      clear g1 g3 hsr hbel h1 h3 hb HX HI
      unfold RQ at G1 G3 HSR
      go_wp2_with (first
        | (refine wpList_load_row rfl 26 _ rfl (w.heap.size + 1) rfl 26 R (0, 0) _ G1.out Tryd.underlying26 rfl hsi ?_)
        | (refine wpList_store_row rfl 26 _ _ rfl (w.heap.size) R rfl rfl 26 Z G3.out hsi hz hone ?_))
      refine bodyPost_ret (v := .agg R) ?_ rfl ⟨by rw [HR.out], hbs.out⟩
      exact results_cell_row rfl _ _ (w.heap.size) 26 R (0, 0) _ rfl HSR.out Tryd.underlying26 rfl hsi
set_option maxRecDepth 100000 in
set_option maxHeartbeats 3200000 in
theorem ToPlanes_spec (s : ByteArray) (w : World) (hs : s.size ≤ 1073741824) :
    Calls Tryd.prog 35 #[.string s] w fun e w' => e = .returned (.agg (pc (byteOf s))) ∧ Below w.heap.size w w' := by
  have HX := fun n k hn c hc => Lib.hid (q_or s n k hn c hc)
  have HI := fun j c hc hj W => Lib.hid (idx_at s j c hc hj W)
  obtain ⟨m, hm⟩ : ∃ m, min s.size 64 = m := ⟨_, rfl⟩
  have hm1 : m ≤ 64 := by omega
  have hm2 : m ≤ s.size := by omega
  have hmm : m = 64 ∨ s.size ≤ m := by omega
  have hs1 : (s.size : Int) ≤ 1073741824 := by omega
  clear hm
  obtain ⟨W, hW⟩ : ∃ W, (w.alloc (.cells zeroQ 26)).alloc (.cells zeroQ 26) = W := ⟨_, rfl⟩
  obtain ⟨h1, h3, hb⟩ := newQ2 w _ _ _ _ hW
  have h3 : RQ W (w.heap.size + 1) 26 (arQ (ptW s 0) 8) := by rw [ptW_zero]; exact h3
  have HW := Lib.hid hW
  clear hW
  unfold zeroQ at HW
  go_enter Tryd.func35, Tryd.ntmps35
  go_wp2
  rw [HW.out]
  go_loopw [4] (fun v wr => ∃ i : Nat, i ≤ m ∧ v = .int .i64 i ∧ RQ wr w.heap.size 26 zeroQ ∧ RQ wr (w.heap.size + 1) 26 (arQ (ptW s i) 8) ∧ Below w.heap.size w wr) (fun v _ => m - (intOf v).toNat)
  case atStart => exact ⟨0, by omega, rfl, h1, h3, hb⟩
  case round =>
    obtain ⟨i, hi, rfl, g1, g3, hbel⟩ := hrel
    by_cases hlt : i < m
    · have hi1 : (i : Int) < (m : Int) := by omega
      have hi0 : (0 : Int) ≤ (i : Int) := by omega
      have hi64 : i < 64 := by omega
      have hi6 : (i : Int) < 64 := by omega
      have hmin : min i 64 = i := by omega
      have his : (i : Int) < (s.size : Int) := by omega
      obtain ⟨c, hc⟩ : ∃ c, byteOf s i = c := ⟨_, rfl⟩
      have hix := fun W => (HI i c hc (by omega) W).out
      have hcl := c.toNat_lt
      have hcl2 : (c.toNat : Int) < 256 := by omega
      clear hcl
      clear h1 h3 hb
      rw [← arToQ_0 (ptW s (i + 1)) (ptW s i)] at g3
      go_wp2
      obtain ⟨wk, rfl⟩ : ∃ x, x = wr := ⟨_, rfl⟩
      go_loopw [5] (fun v wr => ∃ k : Nat, k ≤ 8 ∧ v = .int .i64 k ∧ RQ wr w.heap.size 26 zeroQ ∧ RQ wr (w.heap.size + 1) 26 (arToQ (ptW s (i + 1)) (ptW s i) 8 k) ∧ Below w.heap.size w wr) (fun v _ => 8 - (intOf v).toNat)
      case atStart => exact ⟨0, by omega, rfl, g1, g3, hbel⟩
      case round =>
        obtain ⟨k, hk, rfl, i1, i3, ibel⟩ := hrel
        by_cases hkt : k < 8
        · have hk1 : (k : Int) < 8 := by omega
          have hk0 : (0 : Int) ≤ (k : Int) := by omega
          have hx := (HX i k hi64 c hc).out
          have hbit := bit_of c k
          have hc3 := i3.cell (arToQ_hi (ptW s (i + 1)) (ptW s i) 8 k k hkt (Nat.le_refl _))
          have hfz := i3.fz k
          have d1 : RQ wr.drew w.heap.size 26 zeroQ := i1
          have d3 : RQ wr.drew (w.heap.size + 1) 26 (arToQ (ptW s (i + 1)) (ptW s i) 8 k) := i3
          have N1 := fun v => Lib.hid (d1.far (b := w.heap.size + 1) k v (by omega))
          have N3 := fun v hv => Lib.hid (d3.setQ (v := v) hv)
          have NB := fun v => Lib.hid (ibel.drew.setCell (p := ⟨w.heap.size + 1, k, none⟩) (by simp) v)
          clear i1 i3 ibel g1 g3 hbel d1 d3 HX HI hc
          generalize c.toNat = cn at *
          go_wp2
          go_still_tail 17, (by kernel_rfl)
          change wpList _ _ _ _ _ wr.drew
          go_wp2
          go_roundw
          case rel => exact ⟨k + 1, by omega, by go_num, (N1 _).out, (N3 _ (by first | rfl | rw [hx])).out, (NB _).out⟩
          case measure => simp [intOf]; omega
        · obtain rfl : k = 8 := by omega
          rw [arToQ_all] at i3
          clear g1 g3 hbel
          go_wp2
          go_roundw
          case rel => exact ⟨i + 1, by omega, by go_num, i1, i3, ibel⟩
          case measure => simp [intOf]; omega
    · obtain rfl : i = m := by omega
      have e8 : arQ (ptW s i) 8 = pc (byteOf s) := arQ_congr fun k _ => ptW_all s i k hm1 hmm
      rw [e8] at g3
      have hone := pc_one (byteOf s)
      have hsi := planes_info (byteOf s)
      have hz : zeroQ.size = (pc (byteOf s)).size := by rw [pc_size]; rfl
      have hsr := g1.row (pc (byteOf s))
      have hbs : Hid (Below w.heap.size w (wr.setRow (w.heap.size) (pc (byteOf s)))) := Lib.hid (below_setRow hbel (by omega) _)
      generalize hR : pc (byteOf s) = R at *
      generalize zeroQ = Z at *
      have HR := Lib.hid hR
      clear hR
      have G1 := Lib.hid g3
      have G3 := Lib.hid g1
      have HSR := Lib.hid hsr
      clear g1 g3 hsr hbel h1 h3 hb HX HI
      unfold RQ at G1 G3 HSR
      go_wp2_with (first
        | (refine wpList_load_row rfl 26 _ rfl (w.heap.size + 1) rfl 26 R (0, 0) _ G1.out Tryd.underlying26 rfl hsi ?_)
        | (refine wpList_store_row rfl 26 _ _ rfl (w.heap.size) R rfl rfl 26 Z G3.out hsi hz hone ?_))
      all_goals (
        refine bodyPost_ret (v := .agg R) ?_ rfl ⟨by rw [HR.out], hbs.out⟩
        exact results_cell_row rfl _ _ (w.heap.size) 26 R (0, 0) _ rfl HSR.out Tryd.underlying26 rfl hsi)
end Go.Proofs.YtbbjcgnoialidaaDoor
