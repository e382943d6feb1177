/-
  What impl's planes answer: sums, what a word keeps, twice, squares.
-/
import Derived.Test.YtbbjcgnoialidaaDoorArr64
import Derived.Test.YtbbjcgnoialidaaDoorBitRound
import Derived.Test.YtbbjcgnoialidaaDoorBase
import Derived.WalkKit
import Derived.LoopTactic
import Derived.OwnWalk
import Derived.WalkLawsBesides
import Derived.WalkSpells
import Derived.Outline
import Derived.Below
import Derived.Deep.WholeRow
import Derived.Great.Walk
import Derived.Great.BuildSlice
import Derived.Laws.OwnMore
import Derived.IntWalk
set_option linter.unusedVariables false
set_option linter.unusedSimpArgs false
namespace Go.Proofs.YtbbjcgnoialidaaDoor
open Go Go.RowKit

theorem planes_info (s : Nat → UInt8) : (Tryd.prog.info? 26).map (·.size) = some (pc s).size := by rw [pc_size]; kernel_rfl
theorem alQ_up (W : World) (o : Obj) : Below W.heap.size W (W.alloc o) := (Below.refl _ W).alloc (Nat.le_refl _) _
theorem alQ_sz (W : World) (o : Obj) : (W.alloc o).heap.size = W.heap.size + 1 := by simp
theorem newQ2 (w : World) (A B : Array Value) (a b : TypeId) {W : World} (hW : (w.alloc (.cells A a)).alloc (.cells B b) = W) :
    RQ W w.heap.size a A ∧ RQ W (w.heap.size + 1) b B ∧ Below w.heap.size w W := by
  subst hW
  refine ⟨(RQ.new w a A).alloc _, ?_, ((Below.refl _ _).alloc (Nat.le_refl _) _).alloc (by simp) _⟩
  have h := RQ.new (w.alloc (.cells A a)) b B
  rwa [alQ_sz] at h
theorem newQ3 (w : World) (A B C : Array Value) (a b c : TypeId) {W : World} (hW : ((w.alloc (.cells A a)).alloc (.cells B b)).alloc (.cells C c) = W) :
    RQ W w.heap.size a A ∧ RQ W (w.heap.size + 1) b B ∧ RQ W (w.heap.size + 1 + 1) c C ∧ Below w.heap.size w W := by
  obtain ⟨W2, h2⟩ : ∃ W2, (w.alloc (.cells A a)).alloc (.cells B b) = W2 := ⟨_, rfl⟩
  obtain ⟨r1, r2, u⟩ := newQ2 w A B a b h2
  have s2 : W2.heap.size = w.heap.size + 1 + 1 := by rw [← h2, alQ_sz, alQ_sz]
  rw [h2] at hW
  subst hW
  have r3 := RQ.new W2 c C
  rw [s2] at r3
  exact ⟨r1.alloc _, r2.alloc _, r3, u.trans ((alQ_up W2 _).mono (by omega))⟩
set_option maxRecDepth 100000 in
set_option maxHeartbeats 1600000 in
theorem xorP (s t : Nat → UInt8) (w : World) :
    Calls Tryd.prog 38 #[.agg (pc s), .agg (pc t)] w fun e w' => e = .returned (.agg (pc (fun i => s i ^^^ t i))) ∧ Below w.heap.size w w' := by
  obtain ⟨r, hr⟩ : ∃ r : Nat → UInt8, (fun i => s i ^^^ t i) = r := ⟨_, rfl⟩
  have HX : Hid (∀ k, bits .xor .u64 (plW s k : Int) (plW t k : Int) = (plW r k : Int)) := Lib.hid (fun k => by rw [q_xor, hr])
  rw [hr]
  clear hr
  obtain ⟨W, hW⟩ : ∃ W, ((w.alloc (.cells (pc s) 26)).alloc (.cells (pc t) 26)).alloc (.cells zeroQ 26) = W := ⟨_, rfl⟩
  obtain ⟨h1, h2, h3, hb⟩ := newQ3 w _ _ _ _ _ _ hW
  rw [← pcTo_0 r s] at h1
  have HW := Lib.hid hW
  clear hW
  unfold zeroQ at HW
  go_enter Tryd.func38, Tryd.ntmps38
  go_wp2
  rw [HW.out]
  go_loopw [6] (fun v wr => ∃ k : Nat, k ≤ 8 ∧ v = .int .i64 k ∧ RQ wr w.heap.size 26 (pcTo r s k) ∧ RQ wr (w.heap.size + 1) 26 (pc t) ∧ RQ wr (w.heap.size + 1 + 1) 26 zeroQ ∧ Below w.heap.size w wr) (fun v _ => 8 - (intOf v).toNat)
  case atStart => exact ⟨0, by omega, rfl, h1, h2, h3, hb⟩
  case round =>
    obtain ⟨k, hk, rfl, g1, g2, g3, hbel⟩ := hrel
    by_cases hlt : k < 8
    · have hk1 : (k : Int) < 8 := by omega
      have hk0 : (0 : Int) ≤ (k : Int) := by omega
      have hc1 := g1.cell (pcTo_hi r s k k hlt (Nat.le_refl _))
      have hc2 := g2.cell (pc_at t k hlt)
      have hfz := g1.fz k
      have hx := HX.out k
      have d1 : RQ wr.drew w.heap.size 26 (pcTo r s k) := g1
      have d2 : RQ wr.drew (w.heap.size + 1) 26 (pc t) := g2
      have d3 : RQ wr.drew (w.heap.size + 1 + 1) 26 zeroQ := g3
      have N1 := fun v hv => Lib.hid (d1.setP (v := v) hv)
      have N2 := fun v => Lib.hid (d2.far (b := w.heap.size) k v (by omega))
      have N3 := fun v => Lib.hid (d3.far (b := w.heap.size) k v (by omega))
      have NB := fun v => Lib.hid (hbel.drew.setCell (p := ⟨w.heap.size, k, none⟩) (Nat.le_refl _) v)
      clear g1 g2 g3 hbel h1 h2 h3 hb d1 d2 d3
      go_wp2
      go_still_tail 8, (by kernel_rfl)
      change wpList _ _ _ _ _ wr.drew
      go_wp2
      go_roundw
      case rel => exact ⟨k + 1, by omega, by go_num, (N1 _ (by first | rfl | rw [HX.out])).out, (N2 _).out, (N3 _).out, (NB _).out⟩
      case measure => simp [intOf]; omega
    · obtain rfl : k = 8 := by omega
      rw [pcTo_8] at g1
      have hone := pc_one r
      have hsi := planes_info r
      have hz : zeroQ.size = (pc r).size := by rw [pc_size]; rfl
      have hsr := g3.row (pc r)
      have hbs : Hid (Below w.heap.size w (wr.setRow (w.heap.size + 1 + 1) (pc r))) := Lib.hid (below_setRow hbel (by omega) _)
      generalize hR : pc r = R at *
      generalize zeroQ = Z at *
      have HR := Lib.hid hR
      clear hR hb hbel h1 h2 h3 HX
      have G1 := Lib.hid g1
      have G3 := Lib.hid g3
      have HSR := Lib.hid hsr
      clear g1 g2 g3 hsr
      unfold RQ at G1 G3 HSR
      go_wp2_with (first
        | (refine wpList_load_row rfl 26 _ rfl w.heap.size rfl 26 R (0, 0) _ G1.out Tryd.underlying26 rfl hsi ?_)
        | (refine wpList_store_row rfl 26 _ _ rfl (w.heap.size + 1 + 1) R rfl rfl 26 Z G3.out hsi hz hone ?_))
      refine bodyPost_ret (v := .agg R) ?_ rfl ⟨by rw [HR.out], hbs.out⟩
      exact results_cell_row rfl _ _ (w.heap.size + 1 + 1) 26 R (0, 0) _ rfl HSR.out Tryd.underlying26 rfl hsi
set_option maxRecDepth 100000 in
set_option maxHeartbeats 1600000 in
theorem andP (s : Nat → UInt8) (m : Nat) (hm : m < 18446744073709551616) (w : World) :
    Calls Tryd.prog 52 #[.agg (pc s), .int .u64 (m : Int)] w fun e w' => e = .returned (.agg (pc (keepW m s))) ∧ Below w.heap.size w w' := by
  obtain ⟨r, hr⟩ : ∃ r : Nat → UInt8, keepW m s = r := ⟨_, rfl⟩
  have HX : Hid (∀ k, bits .and .u64 (plW s k : Int) (m : Int) = (plW r k : Int)) := Lib.hid (fun k => by rw [q_and s m k hm, hr])
  rw [hr]
  clear hr hm
  obtain ⟨W, hW⟩ : ∃ W, (w.alloc (.cells (pc s) 26)).alloc (.cells zeroQ 26) = W := ⟨_, rfl⟩
  obtain ⟨h1, h3, hb⟩ := newQ2 w _ _ _ _ hW
  rw [← pcTo_0 r s] at h1
  have HW := Lib.hid hW
  clear hW
  unfold zeroQ at HW
  go_enter Tryd.func52, Tryd.ntmps52
  go_wp2
  rw [HW.out]
  go_loopw [6] (fun v wr => ∃ k : Nat, k ≤ 8 ∧ v = .int .i64 k ∧ RQ wr w.heap.size 26 (pcTo r s k) ∧ RQ wr (w.heap.size + 1) 26 zeroQ ∧ Below w.heap.size w wr) (fun v _ => 8 - (intOf v).toNat)
  case atStart => exact ⟨0, by omega, rfl, h1, h3, hb⟩
  case round =>
    obtain ⟨k, hk, rfl, g1, g3, hbel⟩ := hrel
    by_cases hlt : k < 8
    · have hk1 : (k : Int) < 8 := by omega
      have hk0 : (0 : Int) ≤ (k : Int) := by omega
      have hc1 := g1.cell (pcTo_hi r s k k hlt (Nat.le_refl _))
      have hfz := g1.fz k
      have hx := HX.out k
      have N1 := fun v hv => Lib.hid (g1.setP (v := v) hv)
      have N3 := fun v => Lib.hid (g3.far (b := w.heap.size) k v (by omega))
      have NB := fun v => Lib.hid (hbel.setCell (p := ⟨w.heap.size, k, none⟩) (Nat.le_refl _) v)
      clear g1 g3 hbel h1 h3 hb
      go_wp2
      go_roundw
      case rel => exact ⟨k + 1, by omega, by go_num, (N1 _ (by first | rfl | rw [HX.out])).out, (N3 _).out, (NB _).out⟩
      case measure => simp [intOf]; omega
    · obtain rfl : k = 8 := by omega
      rw [pcTo_8] at g1
      have hone := pc_one r
      have hsi := planes_info r
      have hz : zeroQ.size = (pc r).size := by rw [pc_size]; rfl
      have hsr := g3.row (pc r)
      have hbs : Hid (Below w.heap.size w (wr.setRow (w.heap.size + 1) (pc r))) := Lib.hid (below_setRow hbel (by omega) _)
      generalize hR : pc r = R at *
      generalize zeroQ = Z at *
      have HR := Lib.hid hR
      clear hR hb hbel h1 h3 HX
      have G1 := Lib.hid g1
      have G3 := Lib.hid g3
      have HSR := Lib.hid hsr
      clear g1 g3 hsr
      unfold RQ at G1 G3 HSR
      go_wp2_with (first
        | (refine wpList_load_row rfl 26 _ rfl w.heap.size rfl 26 R (0, 0) _ G1.out Tryd.underlying26 rfl hsi ?_)
        | (refine wpList_store_row rfl 26 _ _ rfl (w.heap.size + 1) R rfl rfl 26 Z G3.out hsi hz hone ?_))
      refine bodyPost_ret (v := .agg R) ?_ rfl ⟨by rw [HR.out], hbs.out⟩
      exact results_cell_row rfl _ _ (w.heap.size + 1) 26 R (0, 0) _ rfl HSR.out Tryd.underlying26 rfl hsi
theorem arQ_8 (h : Nat → Nat) : arQ h 8 = #[.int .u64 (h 0 : Int), .int .u64 (h 1 : Int), .int .u64 (h 2 : Int), .int .u64 (h 3 : Int), .int .u64 (h 4 : Int), .int .u64 (h 5 : Int), .int .u64 (h 6 : Int), .int .u64 (h 7 : Int)] := rfl
theorem q_xor2 (x y : Nat) (hx : x < 18446744073709551616) (hy : y < 18446744073709551616) : bits .xor .u64 (x : Int) (y : Int) = ((x ^^^ y : Nat) : Int) := u64_xor_nat _ _ hx hy
theorem xorQ_lt {x y : Nat} (hx : x < 18446744073709551616) (hy : y < 18446744073709551616) : x ^^^ y < 18446744073709551616 := xor_lt64 hx hy
theorem twP_cells (p : Nat → Nat) (hl : ∀ k, p k < 18446744073709551616) : #[.int .u64 (p 7 : Int), .int .u64 (bits .xor .u64 (p 0 : Int) (p 7 : Int)), .int .u64 (p 1 : Int), .int .u64 (bits .xor .u64 (p 2 : Int) (p 7 : Int)), .int .u64 (bits .xor .u64 (p 3 : Int) (p 7 : Int)), .int .u64 (p 4 : Int), .int .u64 (p 5 : Int), .int .u64 (p 6 : Int)] = arQ (twP p) 8 := by
  rw [q_xor2 _ _ (hl 0) (hl 7), q_xor2 _ _ (hl 2) (hl 7), q_xor2 _ _ (hl 3) (hl 7), arQ_8]
  simp only [twP]
theorem twice_cells (s : Nat → UInt8) : #[.int .u64 (plW s 7 : Int), .int .u64 (bits .xor .u64 (plW s 0 : Int) (plW s 7 : Int)), .int .u64 (plW s 1 : Int), .int .u64 (bits .xor .u64 (plW s 2 : Int) (plW s 7 : Int)), .int .u64 (bits .xor .u64 (plW s 3 : Int) (plW s 7 : Int)), .int .u64 (plW s 4 : Int), .int .u64 (plW s 5 : Int), .int .u64 (plW s 6 : Int)] = pc (fun i => tw (s i)) :=
  (twP_cells (plW s) (plW_lt' s)).trans (arQ_congr fun k hk => plW_tw s k hk)
set_option maxRecDepth 100000 in
set_option maxHeartbeats 1600000 in
theorem twiceP (s : Nat → UInt8) (w : World) :
    Calls Tryd.prog 74 #[.agg (pc s)] w fun e w' => e = .returned (.agg (pc (fun i => tw (s i)))) ∧ Below w.heap.size w w' := by
  obtain ⟨r, hr⟩ : ∃ r : Nat → UInt8, (fun i => tw (s i)) = r := ⟨_, rfl⟩
  have HX := twice_cells s
  rw [hr] at HX ⊢
  clear hr
  obtain ⟨h1, h3, hb⟩ := newQ2 w (pc s) zeroQ 26 26 rfl
  have c0 := h1.cell (pc_at s 0 (by omega))
  have c1 := h1.cell (pc_at s 1 (by omega))
  have c2 := h1.cell (pc_at s 2 (by omega))
  have c3 := h1.cell (pc_at s 3 (by omega))
  have c4 := h1.cell (pc_at s 4 (by omega))
  have c5 := h1.cell (pc_at s 5 (by omega))
  have c6 := h1.cell (pc_at s 6 (by omega))
  have c7 := h1.cell (pc_at s 7 (by omega))
  have hone := pc_one r
  have hsi := planes_info r
  have hz : zeroQ.size = (pc r).size := by rw [pc_size]; rfl
  have hsr := h3.row (pc r)
  have hbs : Hid (Below w.heap.size w (((w.alloc (.cells (pc s) 26)).alloc (.cells zeroQ 26)).setRow (w.heap.size + 1) (pc r))) := Lib.hid (below_setRow hb (by omega) _)
  have HY := Lib.hid HX
  have G3 := Lib.hid h3
  have HSR := Lib.hid hsr
  clear HX h1 h3 hb hsr
  unfold zeroQ at *
  unfold RQ at G3 HSR
  generalize pc r = R at *
  generalize pc s = A at *
  generalize plW s 0 = p0 at *
  generalize plW s 1 = p1 at *
  generalize plW s 2 = p2 at *
  generalize plW s 3 = p3 at *
  generalize plW s 4 = p4 at *
  generalize plW s 5 = p5 at *
  generalize plW s 6 = p6 at *
  generalize plW s 7 = p7 at *
  go_enter Tryd.func74, Tryd.ntmps74
  go_wp2_with (first
    | (refine wpList_buildTo rfl 26 _ rfl (some 28) rfl R (by rw [← HY.out]; kernel_rfl) ?_)
    | (refine wpList_store_row rfl 26 _ _ rfl (w.heap.size + 1) R rfl rfl 26 _ G3.out hsi hz hone ?_))
  refine bodyPost_ret (v := .agg R) ?_ rfl ⟨rfl, hbs.out⟩
  exact results_cell_row rfl _ _ (w.heap.size + 1) 26 R (0, 0) _ rfl HSR.out Tryd.underlying26 rfl hsi
theorem sqP_cells (p : Nat → Nat) (hl : ∀ k, p k < 18446744073709551616) : #[.int .u64 (bits .xor .u64 (bits .xor .u64 (p 0 : Int) (p 4 : Int)) (p 6 : Int)), .int .u64 (bits .xor .u64 (bits .xor .u64 (p 4 : Int) (p 6 : Int)) (p 7 : Int)), .int .u64 (bits .xor .u64 (p 1 : Int) (p 5 : Int)), .int .u64 (bits .xor .u64 (bits .xor .u64 (bits .xor .u64 (p 4 : Int) (p 5 : Int)) (p 6 : Int)) (p 7 : Int)), .int .u64 (bits .xor .u64 (bits .xor .u64 (p 2 : Int) (p 4 : Int)) (p 7 : Int)), .int .u64 (bits .xor .u64 (p 5 : Int) (p 6 : Int)), .int .u64 (bits .xor .u64 (p 3 : Int) (p 5 : Int)), .int .u64 (bits .xor .u64 (p 6 : Int) (p 7 : Int))] = arQ (sqP p) 8 := by
  have h2 := fun j k => q_xor2 _ _ (hl j) (hl k)
  have h3 := fun i j k => q_xor2 _ _ (xorQ_lt (hl i) (hl j)) (hl k)
  have h4 := fun i j k l => q_xor2 _ _ (xorQ_lt (xorQ_lt (hl i) (hl j)) (hl k)) (hl l)
  simp only [h2, h3, h4]
  rw [arQ_8]
  simp only [sqP]
theorem sq_cells (s : Nat → UInt8) : #[.int .u64 (bits .xor .u64 (bits .xor .u64 (plW s 0 : Int) (plW s 4 : Int)) (plW s 6 : Int)), .int .u64 (bits .xor .u64 (bits .xor .u64 (plW s 4 : Int) (plW s 6 : Int)) (plW s 7 : Int)), .int .u64 (bits .xor .u64 (plW s 1 : Int) (plW s 5 : Int)), .int .u64 (bits .xor .u64 (bits .xor .u64 (bits .xor .u64 (plW s 4 : Int) (plW s 5 : Int)) (plW s 6 : Int)) (plW s 7 : Int)), .int .u64 (bits .xor .u64 (bits .xor .u64 (plW s 2 : Int) (plW s 4 : Int)) (plW s 7 : Int)), .int .u64 (bits .xor .u64 (plW s 5 : Int) (plW s 6 : Int)), .int .u64 (bits .xor .u64 (plW s 3 : Int) (plW s 5 : Int)), .int .u64 (bits .xor .u64 (plW s 6 : Int) (plW s 7 : Int))] = pc (fun i => mul (s i) (s i)) :=
  (sqP_cells (plW s) (plW_lt' s)).trans (arQ_congr fun k hk => plW_sq s k hk)
set_option maxRecDepth 100000 in
set_option maxHeartbeats 3200000 in
theorem sqP_i (s : Nat → UInt8) (w : World) :
    Calls Tryd.prog 69 #[.agg (pc s)] w fun e w' => e = .returned (.agg (pc (fun i => mul (s i) (s i)))) ∧ Below w.heap.size w w' := by
  obtain ⟨r, hr⟩ : ∃ r : Nat → UInt8, (fun i => mul (s i) (s i)) = r := ⟨_, rfl⟩
  have HX := sq_cells s
  rw [hr] at HX ⊢
  clear hr
  obtain ⟨h1, h3, hb⟩ := newQ2 w (pc s) zeroQ 26 26 rfl
  have c0 := h1.cell (pc_at s 0 (by omega))
  have c1 := h1.cell (pc_at s 1 (by omega))
  have c2 := h1.cell (pc_at s 2 (by omega))
  have c3 := h1.cell (pc_at s 3 (by omega))
  have c4 := h1.cell (pc_at s 4 (by omega))
  have c5 := h1.cell (pc_at s 5 (by omega))
  have c6 := h1.cell (pc_at s 6 (by omega))
  have c7 := h1.cell (pc_at s 7 (by omega))
  have hone := pc_one r
  have hsi := planes_info r
  have hz : zeroQ.size = (pc r).size := by rw [pc_size]; rfl
  have hsr := h3.row (pc r)
  have hbs : Hid (Below w.heap.size w (((w.alloc (.cells (pc s) 26)).alloc (.cells zeroQ 26)).setRow (w.heap.size + 1) (pc r))) := Lib.hid (below_setRow hb (by omega) _)
  have HY := Lib.hid HX
  have G3 := Lib.hid h3
  have HSR := Lib.hid hsr
  clear HX h1 h3 hb hsr
  unfold zeroQ at *
  unfold RQ at G3 HSR
  generalize pc r = R at *
  generalize pc s = A at *
  generalize plW s 0 = p0 at *
  generalize plW s 1 = p1 at *
  generalize plW s 2 = p2 at *
  generalize plW s 3 = p3 at *
  generalize plW s 4 = p4 at *
  generalize plW s 5 = p5 at *
  generalize plW s 6 = p6 at *
  generalize plW s 7 = p7 at *
  go_enter Tryd.func69, Tryd.ntmps69
  go_wp2_with (first
    | (refine wpList_buildTo rfl 26 _ rfl (some 58) rfl R (by rw [← HY.out]; kernel_rfl) ?_)
    | (refine wpList_store_row rfl 26 _ _ rfl (w.heap.size + 1) R rfl rfl 26 _ G3.out hsi hz hone ?_))
  refine bodyPost_ret (v := .agg R) ?_ rfl ⟨rfl, hbs.out⟩
  exact results_cell_row rfl _ _ (w.heap.size + 1) 26 R (0, 0) _ rfl HSR.out Tryd.underlying26 rfl hsi
end Go.Proofs.YtbbjcgnoialidaaDoor
