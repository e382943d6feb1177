/-
  Contracts and facts that the laws of this seat use: PlI, PlJ, PlK, PlL, PlM, PlN, PlO.
-/
import Derived.Test.YtbfmbdohebdbaaaGreatDoorArr64
import Derived.Test.YtbfmbdohebdbaaaGreatDoorBits
import Derived.Test.YtbfmbdohebdbaaaGreatDoorBase
import Derived.WalkKit
import Derived.LoopTactic
import Derived.OwnWalk
import Derived.WalkLawsBesides
import Derived.WalkSpells
import Derived.Outline
import Derived.Below
import Derived.Deep.WholeRow
import Derived.Great.Walk
import Derived.Great.BuildSlice
import Derived.Laws.OwnMore
import Derived.IntWalk
import Derived.Deep.QuietTactic
import Derived.Test.YtbfmbdohebdbaaaGreatDoorStoreAt
import Derived.Deep.RegionHeld3
set_option linter.unusedVariables false
set_option linter.unusedSimpArgs false
namespace Go.Proofs.YtbfmbdohebdbaaaGreatDoor
open Go Go.RowKit

theorem planes_info (s : Nat → UInt8) : (Tryz.prog.info? 135).map (·.size) = some (pc s).size := by rw [pc_size]; kernel_rfl
theorem alQ_up (W : World) (o : Obj) : Below W.heap.size W (W.alloc o) := (Below.refl _ W).alloc (Nat.le_refl _) _
theorem alQ_sz (W : World) (o : Obj) : (W.alloc o).heap.size = W.heap.size + 1 := by simp
theorem newQ2 (w : World) (A B : Array Value) (a b : TypeId) {W : World} (hW : (w.alloc (.cells A a)).alloc (.cells B b) = W) :
    RQ W w.heap.size a A ∧ RQ W (w.heap.size + 1) b B ∧ Below w.heap.size w W := by
  subst hW
  refine ⟨(RQ.new w a A).alloc _, ?_, ((Below.refl _ _).alloc (Nat.le_refl _) _).alloc (by simp) _⟩
  have h := RQ.new (w.alloc (.cells A a)) b B
  rwa [alQ_sz] at h
theorem newQ3 (w : World) (A B C : Array Value) (a b c : TypeId) {W : World} (hW : ((w.alloc (.cells A a)).alloc (.cells B b)).alloc (.cells C c) = W) :
    RQ W w.heap.size a A ∧ RQ W (w.heap.size + 1) b B ∧ RQ W (w.heap.size + 1 + 1) c C ∧ Below w.heap.size w W := by
  obtain ⟨W2, h2⟩ : ∃ W2, (w.alloc (.cells A a)).alloc (.cells B b) = W2 := ⟨_, rfl⟩
  obtain ⟨r1, r2, u⟩ := newQ2 w A B a b h2
  have s2 : W2.heap.size = w.heap.size + 1 + 1 := by rw [← h2, alQ_sz, alQ_sz]
  rw [h2] at hW
  subst hW
  have r3 := RQ.new W2 c C
  rw [s2] at r3
  exact ⟨r1.alloc _, r2.alloc _, r3, u.trans ((alQ_up W2 _).mono (by omega))⟩
set_option maxRecDepth 100000 in
set_option maxHeartbeats 1600000 in
theorem xorP (s t : Nat → UInt8) (w : World) :
    Calls Tryz.prog 137 #[.agg (pc s), .agg (pc t)] w fun e w' => e = .returned (.agg (pc (fun i => s i ^^^ t i))) ∧ Below w.heap.size w w' := by
  obtain ⟨r, hr⟩ : ∃ r : Nat → UInt8, (fun i => s i ^^^ t i) = r := ⟨_, rfl⟩
  have HX : Hid (∀ k, bits .xor .u64 (plW s k : Int) (plW t k : Int) = (plW r k : Int)) := Lib.hid (fun k => by rw [q_xor, hr])
  rw [hr]
  clear hr
  obtain ⟨W, hW⟩ : ∃ W, ((w.alloc (.cells (pc s) 135)).alloc (.cells (pc t) 135)).alloc (.cells zeroQ 135) = W := ⟨_, rfl⟩
  obtain ⟨h1, h2, h3, hb⟩ := newQ3 w _ _ _ _ _ _ hW
  rw [← pcTo_0 r s] at h1
  have HW := Lib.hid hW
  clear hW
  unfold zeroQ at HW
  go_enter Tryz.func137, Tryz.ntmps137
  go_wp2
  rw [HW.out]
  go_loopw [6] (fun v wr => ∃ k : Nat, k ≤ 8 ∧ v = .int .i64 k ∧ RQ wr w.heap.size 135 (pcTo r s k) ∧ RQ wr (w.heap.size + 1) 135 (pc t) ∧ RQ wr (w.heap.size + 1 + 1) 135 zeroQ ∧ Below w.heap.size w wr) (fun v _ => 8 - (intOf v).toNat)
  case atStart => exact ⟨0, by omega, rfl, h1, h2, h3, hb⟩
  case round =>
    obtain ⟨k, hk, rfl, g1, g2, g3, hbel⟩ := hrel
    by_cases hlt : k < 8
    · have hk1 : (k : Int) < 8 := by omega
      have hk0 : (0 : Int) ≤ (k : Int) := by omega
      have hc1 := g1.cell (pcTo_hi r s k k hlt (Nat.le_refl _))
      have hc2 := g2.cell (pc_at t k hlt)
      have hfz := g1.fz k
      have hx := HX.out k
      have d1 : RQ wr.drew w.heap.size 135 (pcTo r s k) := g1
      have d2 : RQ wr.drew (w.heap.size + 1) 135 (pc t) := g2
      have d3 : RQ wr.drew (w.heap.size + 1 + 1) 135 zeroQ := g3
      have N1 := fun v hv => Lib.hid (d1.setP (v := v) hv)
      have N2 := fun v => Lib.hid (d2.far (b := w.heap.size) k v (by omega))
      have N3 := fun v => Lib.hid (d3.far (b := w.heap.size) k v (by omega))
      have NB := fun v => Lib.hid (hbel.drew.setCell (p := ⟨w.heap.size, k, none⟩) (Nat.le_refl _) v)
      clear g1 g2 g3 hbel h1 h2 h3 hb d1 d2 d3
      go_wp2
      go_still_tail 8, (by kernel_rfl)
      change wpList _ _ _ _ _ wr.drew
      go_wp2
      go_roundw
      case rel => exact ⟨k + 1, by omega, by go_num, (N1 _ (by first | rfl | rw [HX.out])).out, (N2 _).out, (N3 _).out, (NB _).out⟩
      case measure => simp [intOf]; omega
    · obtain rfl : k = 8 := by omega
      rw [pcTo_8] at g1
      have hone := pc_one r
      have hsi := planes_info r
      have hz : zeroQ.size = (pc r).size := by rw [pc_size]; rfl
      have hsr := g3.row (pc r)
      have hbs : Hid (Below w.heap.size w (wr.setRow (w.heap.size + 1 + 1) (pc r))) := Lib.hid (below_setRow hbel (by omega) _)
      generalize hR : pc r = R at *
      generalize zeroQ = Z at *
      have HR := Lib.hid hR
      clear hR hb hbel h1 h2 h3 HX
      have G1 := Lib.hid g1
      have G3 := Lib.hid g3
      have HSR := Lib.hid hsr
      clear g1 g2 g3 hsr
      unfold RQ at G1 G3 HSR
      go_wp2_with (first
        | (refine wpList_load_row rfl 135 _ rfl w.heap.size rfl 135 R (0, 0) _ G1.out Tryz.underlying135 rfl hsi ?_)
        | (refine wpList_store_row rfl 135 _ _ rfl (w.heap.size + 1 + 1) R rfl rfl 135 Z G3.out hsi hz hone ?_))
      refine bodyPost_ret (v := .agg R) ?_ rfl ⟨by rw [HR.out], hbs.out⟩
      exact results_cell_row rfl _ _ (w.heap.size + 1 + 1) 135 R (0, 0) _ rfl HSR.out Tryz.underlying135 rfl hsi
set_option maxRecDepth 100000 in
set_option maxHeartbeats 1600000 in
theorem andP (s : Nat → UInt8) (m : Nat) (hm : m < 18446744073709551616) (w : World) :
    Calls Tryz.prog 239 #[.agg (pc s), .int .u64 (m : Int)] w fun e w' => e = .returned (.agg (pc (keepW m s))) ∧ Below w.heap.size w w' := by
  obtain ⟨r, hr⟩ : ∃ r : Nat → UInt8, keepW m s = r := ⟨_, rfl⟩
  have HX : Hid (∀ k, bits .and .u64 (plW s k : Int) (m : Int) = (plW r k : Int)) := Lib.hid (fun k => by rw [q_and s m k hm, hr])
  rw [hr]
  clear hr hm
  obtain ⟨W, hW⟩ : ∃ W, (w.alloc (.cells (pc s) 135)).alloc (.cells zeroQ 135) = W := ⟨_, rfl⟩
  obtain ⟨h1, h3, hb⟩ := newQ2 w _ _ _ _ hW
  rw [← pcTo_0 r s] at h1
  have HW := Lib.hid hW
  clear hW
  unfold zeroQ at HW
  go_enter Tryz.func239, Tryz.ntmps239
  go_wp2
  rw [HW.out]
  go_loopw [6] (fun v wr => ∃ k : Nat, k ≤ 8 ∧ v = .int .i64 k ∧ RQ wr w.heap.size 135 (pcTo r s k) ∧ RQ wr (w.heap.size + 1) 135 zeroQ ∧ Below w.heap.size w wr) (fun v _ => 8 - (intOf v).toNat)
  case atStart => exact ⟨0, by omega, rfl, h1, h3, hb⟩
  case round =>
    obtain ⟨k, hk, rfl, g1, g3, hbel⟩ := hrel
    by_cases hlt : k < 8
    · have hk1 : (k : Int) < 8 := by omega
      have hk0 : (0 : Int) ≤ (k : Int) := by omega
      have hc1 := g1.cell (pcTo_hi r s k k hlt (Nat.le_refl _))
      have hfz := g1.fz k
      have hx := HX.out k
      have N1 := fun v hv => Lib.hid (g1.setP (v := v) hv)
      have N3 := fun v => Lib.hid (g3.far (b := w.heap.size) k v (by omega))
      have NB := fun v => Lib.hid (hbel.setCell (p := ⟨w.heap.size, k, none⟩) (Nat.le_refl _) v)
      clear g1 g3 hbel h1 h3 hb
      go_wp2
      go_roundw
      case rel => exact ⟨k + 1, by omega, by go_num, (N1 _ (by first | rfl | rw [HX.out])).out, (N3 _).out, (NB _).out⟩
      case measure => simp [intOf]; omega
    · obtain rfl : k = 8 := by omega
      rw [pcTo_8] at g1
      have hone := pc_one r
      have hsi := planes_info r
      have hz : zeroQ.size = (pc r).size := by rw [pc_size]; rfl
      have hsr := g3.row (pc r)
      have hbs : Hid (Below w.heap.size w (wr.setRow (w.heap.size + 1) (pc r))) := Lib.hid (below_setRow hbel (by omega) _)
      generalize hR : pc r = R at *
      generalize zeroQ = Z at *
      have HR := Lib.hid hR
      clear hR hb hbel h1 h3 HX
      have G1 := Lib.hid g1
      have G3 := Lib.hid g3
      have HSR := Lib.hid hsr
      clear g1 g3 hsr
      unfold RQ at G1 G3 HSR
      go_wp2_with (first
        | (refine wpList_load_row rfl 135 _ rfl w.heap.size rfl 135 R (0, 0) _ G1.out Tryz.underlying135 rfl hsi ?_)
        | (refine wpList_store_row rfl 135 _ _ rfl (w.heap.size + 1) R rfl rfl 135 Z G3.out hsi hz hone ?_))
      refine bodyPost_ret (v := .agg R) ?_ rfl ⟨by rw [HR.out], hbs.out⟩
      exact results_cell_row rfl _ _ (w.heap.size + 1) 135 R (0, 0) _ rfl HSR.out Tryz.underlying135 rfl hsi
theorem arQ_8 (h : Nat → Nat) : arQ h 8 = #[.int .u64 (h 0 : Int), .int .u64 (h 1 : Int), .int .u64 (h 2 : Int), .int .u64 (h 3 : Int), .int .u64 (h 4 : Int), .int .u64 (h 5 : Int), .int .u64 (h 6 : Int), .int .u64 (h 7 : Int)] := rfl
theorem q_xor2 (x y : Nat) (hx : x < 18446744073709551616) (hy : y < 18446744073709551616) : bits .xor .u64 (x : Int) (y : Int) = ((x ^^^ y : Nat) : Int) := u64_xor_nat _ _ hx hy
theorem xorQ_lt {x y : Nat} (hx : x < 18446744073709551616) (hy : y < 18446744073709551616) : x ^^^ y < 18446744073709551616 := xor_lt64 hx hy
theorem twP_cells (p : Nat → Nat) (hl : ∀ k, p k < 18446744073709551616) : #[.int .u64 (p 7 : Int), .int .u64 (bits .xor .u64 (p 0 : Int) (p 7 : Int)), .int .u64 (p 1 : Int), .int .u64 (bits .xor .u64 (p 2 : Int) (p 7 : Int)), .int .u64 (bits .xor .u64 (p 3 : Int) (p 7 : Int)), .int .u64 (p 4 : Int), .int .u64 (p 5 : Int), .int .u64 (p 6 : Int)] = arQ (twP p) 8 := by
  rw [q_xor2 _ _ (hl 0) (hl 7), q_xor2 _ _ (hl 2) (hl 7), q_xor2 _ _ (hl 3) (hl 7), arQ_8]
  simp only [twP]
theorem twice_cells (s : Nat → UInt8) : #[.int .u64 (plW s 7 : Int), .int .u64 (bits .xor .u64 (plW s 0 : Int) (plW s 7 : Int)), .int .u64 (plW s 1 : Int), .int .u64 (bits .xor .u64 (plW s 2 : Int) (plW s 7 : Int)), .int .u64 (bits .xor .u64 (plW s 3 : Int) (plW s 7 : Int)), .int .u64 (plW s 4 : Int), .int .u64 (plW s 5 : Int), .int .u64 (plW s 6 : Int)] = pc (fun i => tw (s i)) :=
  (twP_cells (plW s) (plW_lt' s)).trans (arQ_congr fun k hk => plW_tw s k hk)
set_option maxRecDepth 100000 in
set_option maxHeartbeats 1600000 in
theorem twiceP (s : Nat → UInt8) (w : World) :
    Calls Tryz.prog 171 #[.agg (pc s)] w fun e w' => e = .returned (.agg (pc (fun i => tw (s i)))) ∧ Below w.heap.size w w' := by
  obtain ⟨r, hr⟩ : ∃ r : Nat → UInt8, (fun i => tw (s i)) = r := ⟨_, rfl⟩
  have HX := twice_cells s
  rw [hr] at HX ⊢
  clear hr
  obtain ⟨h1, h3, hb⟩ := newQ2 w (pc s) zeroQ 135 135 rfl
  have c0 := h1.cell (pc_at s 0 (by omega))
  have c1 := h1.cell (pc_at s 1 (by omega))
  have c2 := h1.cell (pc_at s 2 (by omega))
  have c3 := h1.cell (pc_at s 3 (by omega))
  have c4 := h1.cell (pc_at s 4 (by omega))
  have c5 := h1.cell (pc_at s 5 (by omega))
  have c6 := h1.cell (pc_at s 6 (by omega))
  have c7 := h1.cell (pc_at s 7 (by omega))
  have hone := pc_one r
  have hsi := planes_info r
  have hz : zeroQ.size = (pc r).size := by rw [pc_size]; rfl
  have hsr := h3.row (pc r)
  have hbs : Hid (Below w.heap.size w (((w.alloc (.cells (pc s) 135)).alloc (.cells zeroQ 135)).setRow (w.heap.size + 1) (pc r))) := Lib.hid (below_setRow hb (by omega) _)
  have HY := Lib.hid HX
  have G3 := Lib.hid h3
  have HSR := Lib.hid hsr
  clear HX h1 h3 hb hsr
  unfold zeroQ at *
  unfold RQ at G3 HSR
  generalize pc r = R at *
  generalize pc s = A at *
  generalize plW s 0 = p0 at *
  generalize plW s 1 = p1 at *
  generalize plW s 2 = p2 at *
  generalize plW s 3 = p3 at *
  generalize plW s 4 = p4 at *
  generalize plW s 5 = p5 at *
  generalize plW s 6 = p6 at *
  generalize plW s 7 = p7 at *
  go_enter Tryz.func171, Tryz.ntmps171
  go_wp2_with (first
    | (refine wpList_buildTo rfl 135 _ rfl (some 28) rfl R (by rw [← HY.out]; kernel_rfl) ?_)
    | (refine wpList_store_row rfl 135 _ _ rfl (w.heap.size + 1) R rfl rfl 135 _ G3.out hsi hz hone ?_))
  refine bodyPost_ret (v := .agg R) ?_ rfl ⟨rfl, hbs.out⟩
  exact results_cell_row rfl _ _ (w.heap.size + 1) 135 R (0, 0) _ rfl HSR.out Tryz.underlying135 rfl hsi
theorem sqP_cells (p : Nat → Nat) (hl : ∀ k, p k < 18446744073709551616) : #[.int .u64 (bits .xor .u64 (bits .xor .u64 (p 0 : Int) (p 4 : Int)) (p 6 : Int)), .int .u64 (bits .xor .u64 (bits .xor .u64 (p 4 : Int) (p 6 : Int)) (p 7 : Int)), .int .u64 (bits .xor .u64 (p 1 : Int) (p 5 : Int)), .int .u64 (bits .xor .u64 (bits .xor .u64 (bits .xor .u64 (p 4 : Int) (p 5 : Int)) (p 6 : Int)) (p 7 : Int)), .int .u64 (bits .xor .u64 (bits .xor .u64 (p 2 : Int) (p 4 : Int)) (p 7 : Int)), .int .u64 (bits .xor .u64 (p 5 : Int) (p 6 : Int)), .int .u64 (bits .xor .u64 (p 3 : Int) (p 5 : Int)), .int .u64 (bits .xor .u64 (p 6 : Int) (p 7 : Int))] = arQ (sqP p) 8 := by
  have h2 := fun j k => q_xor2 _ _ (hl j) (hl k)
  have h3 := fun i j k => q_xor2 _ _ (xorQ_lt (hl i) (hl j)) (hl k)
  have h4 := fun i j k l => q_xor2 _ _ (xorQ_lt (xorQ_lt (hl i) (hl j)) (hl k)) (hl l)
  simp only [h2, h3, h4]
  rw [arQ_8]
  simp only [sqP]
theorem sq_cells (s : Nat → UInt8) : #[.int .u64 (bits .xor .u64 (bits .xor .u64 (plW s 0 : Int) (plW s 4 : Int)) (plW s 6 : Int)), .int .u64 (bits .xor .u64 (bits .xor .u64 (plW s 4 : Int) (plW s 6 : Int)) (plW s 7 : Int)), .int .u64 (bits .xor .u64 (plW s 1 : Int) (plW s 5 : Int)), .int .u64 (bits .xor .u64 (bits .xor .u64 (bits .xor .u64 (plW s 4 : Int) (plW s 5 : Int)) (plW s 6 : Int)) (plW s 7 : Int)), .int .u64 (bits .xor .u64 (bits .xor .u64 (plW s 2 : Int) (plW s 4 : Int)) (plW s 7 : Int)), .int .u64 (bits .xor .u64 (plW s 5 : Int) (plW s 6 : Int)), .int .u64 (bits .xor .u64 (plW s 3 : Int) (plW s 5 : Int)), .int .u64 (bits .xor .u64 (plW s 6 : Int) (plW s 7 : Int))] = pc (fun i => mul (s i) (s i)) :=
  (sqP_cells (plW s) (plW_lt' s)).trans (arQ_congr fun k hk => plW_sq s k hk)
set_option maxRecDepth 100000 in
set_option maxHeartbeats 3200000 in
theorem sqP_i (s : Nat → UInt8) (w : World) :
    Calls Tryz.prog 134 #[.agg (pc s)] w fun e w' => e = .returned (.agg (pc (fun i => mul (s i) (s i)))) ∧ Below w.heap.size w w' := by
  obtain ⟨r, hr⟩ : ∃ r : Nat → UInt8, (fun i => mul (s i) (s i)) = r := ⟨_, rfl⟩
  have HX := sq_cells s
  rw [hr] at HX ⊢
  clear hr
  obtain ⟨h1, h3, hb⟩ := newQ2 w (pc s) zeroQ 135 135 rfl
  have c0 := h1.cell (pc_at s 0 (by omega))
  have c1 := h1.cell (pc_at s 1 (by omega))
  have c2 := h1.cell (pc_at s 2 (by omega))
  have c3 := h1.cell (pc_at s 3 (by omega))
  have c4 := h1.cell (pc_at s 4 (by omega))
  have c5 := h1.cell (pc_at s 5 (by omega))
  have c6 := h1.cell (pc_at s 6 (by omega))
  have c7 := h1.cell (pc_at s 7 (by omega))
  have hone := pc_one r
  have hsi := planes_info r
  have hz : zeroQ.size = (pc r).size := by rw [pc_size]; rfl
  have hsr := h3.row (pc r)
  have hbs : Hid (Below w.heap.size w (((w.alloc (.cells (pc s) 135)).alloc (.cells zeroQ 135)).setRow (w.heap.size + 1) (pc r))) := Lib.hid (below_setRow hb (by omega) _)
  have HY := Lib.hid HX
  have G3 := Lib.hid h3
  have HSR := Lib.hid hsr
  clear HX h1 h3 hb hsr
  unfold zeroQ at *
  unfold RQ at G3 HSR
  generalize pc r = R at *
  generalize pc s = A at *
  generalize plW s 0 = p0 at *
  generalize plW s 1 = p1 at *
  generalize plW s 2 = p2 at *
  generalize plW s 3 = p3 at *
  generalize plW s 4 = p4 at *
  generalize plW s 5 = p5 at *
  generalize plW s 6 = p6 at *
  generalize plW s 7 = p7 at *
  go_enter Tryz.func134, Tryz.ntmps134
  go_wp2_with (first
    | (refine wpList_buildTo rfl 135 _ rfl (some 58) rfl R (by rw [← HY.out]; kernel_rfl) ?_)
    | (refine wpList_store_row rfl 135 _ _ rfl (w.heap.size + 1) R rfl rfl 135 _ G3.out hsi hz hone ?_))
  refine bodyPost_ret (v := .agg R) ?_ rfl ⟨rfl, hbs.out⟩
  exact results_cell_row rfl _ _ (w.heap.size + 1) 135 R (0, 0) _ rfl HSR.out Tryz.underlying135 rfl hsi
end Go.Proofs.YtbfmbdohebdbaaaGreatDoor
set_option linter.unusedVariables false
set_option linter.unusedSimpArgs false
namespace Go.Proofs.YtbfmbdohebdbaaaGreatDoor
open Go Go.RowKit

set_option maxRecDepth 100000 in
set_option maxHeartbeats 1600000 in
theorem sameP (b : UInt8) (w : World) :
    Calls Tryz.prog 138 #[.int .u8 b.toNat] w fun e w' => e = .returned (.agg (pc (fun _ => b))) ∧ Below w.heap.size w w' := by
  obtain ⟨r, hr⟩ : ∃ r : Nat → UInt8, (fun _ => b) = r := ⟨_, rfl⟩
  have HX : Hid (∀ k, IntKind.u64.wrap (-((b.toNat : Int) / 2 ^ k % 2)) = (plW r k : Int)) := Lib.hid (fun k => by
    have e : (b.toNat : Int) / 2 ^ k % 2 = ((b.toNat / 2 ^ k % 2 : Nat) : Int) := by rw [Int.natCast_emod, Int.natCast_ediv, Int.natCast_pow]; rfl
    rw [← hr, plW_neg, IntKind.wrap_u64, e]
    have := Nat.mod_lt (b.toNat / 2 ^ k) (show 2 > 0 by omega)
    generalize b.toNat / 2 ^ k % 2 = m at *
    omega)
  rw [hr]
  clear hr
  obtain ⟨W, hW⟩ : ∃ W, (w.alloc (.cells zeroQ 135)).alloc (.cells zeroQ 135) = W := ⟨_, rfl⟩
  obtain ⟨h1, h3, hb⟩ := newQ2 w _ _ _ _ hW
  have h3 : RQ W (w.heap.size + 1) 135 (pcTo r (fun _ => 0) 0) := by rw [pcTo_0, ← zeroQ_pc]; exact h3
  have HW := Lib.hid hW
  clear hW
  have hbl : (b.toNat : Int) < 256 := by have := b.toNat_lt; omega
  unfold zeroQ at HW
  go_enter Tryz.func138, Tryz.ntmps138
  go_wp2
  rw [HW.out]
  go_loopw [5] (fun v wr => ∃ k : Nat, k ≤ 8 ∧ v = .int .i64 k ∧ RQ wr w.heap.size 135 zeroQ ∧ RQ wr (w.heap.size + 1) 135 (pcTo r (fun _ => 0) k) ∧ Below w.heap.size w wr) (fun v _ => 8 - (intOf v).toNat)
  case atStart => exact ⟨0, by omega, rfl, h1, h3, hb⟩
  case round =>
    obtain ⟨k, hk, rfl, g1, g3, hbel⟩ := hrel
    by_cases hlt : k < 8
    · have hk1 : (k : Int) < 8 := by omega
      have hk0 : (0 : Int) ≤ (k : Int) := by omega
      have hc1 := g3.cell (pcTo_hi r _ k k hlt (Nat.le_refl _))
      have hfz := g3.fz k
      have hbit := bit_of b k
      have hx := HX.out k
      have N1 := fun v hv => Lib.hid (g3.setP (v := v) hv)
      have N3 := fun v => Lib.hid (g1.far (b := w.heap.size + 1) k v (by omega))
      have NB := fun v => Lib.hid (hbel.setCell (p := ⟨w.heap.size + 1, k, none⟩) (by simp) v)
      clear g1 g3 hbel h1 h3 hb
      go_wp2
      go_roundw
      case rel => exact ⟨k + 1, by omega, by go_num, (N3 _).out, (N1 _ (by first | rfl | rw [HX.out])).out, (NB _).out⟩
      case measure => simp [intOf]; omega
    · obtain rfl : k = 8 := by omega
      rw [pcTo_8] at g3
      have hone := pc_one r
      have hsi := planes_info r
      have hz : zeroQ.size = (pc r).size := by rw [pc_size]; rfl
      have hsr := g1.row (pc r)
      have hbs : Hid (Below w.heap.size w (wr.setRow (w.heap.size) (pc r))) := Lib.hid (below_setRow hbel (by omega) _)
      generalize hR : pc r = R at *
      generalize zeroQ = Z at *
      have HR := Lib.hid hR
      clear hR
      have G1 := Lib.hid g3
      have G3 := Lib.hid g1
      have HSR := Lib.hid hsr
      clear g1 g3 hsr hbel h1 h3 hb HX
      unfold RQ at G1 G3 HSR
      go_wp2_with (first
        | (refine wpList_load_row rfl 135 _ rfl (w.heap.size + 1) rfl 135 R (0, 0) _ G1.out Tryz.underlying135 rfl hsi ?_)
        | (refine wpList_store_row rfl 135 _ _ rfl (w.heap.size) R rfl rfl 135 Z G3.out hsi hz hone ?_))
      refine bodyPost_ret (v := .agg R) ?_ rfl ⟨by rw [HR.out], hbs.out⟩
      exact results_cell_row rfl _ _ (w.heap.size) 135 R (0, 0) _ rfl HSR.out Tryz.underlying135 rfl hsi
/-- places in memory. -/
def PlcAt (w : World) (g : Nat) (l : List Nat) : Prop := g < w.heap.size ∧ ∀ j, j < l.length → w.cell? ⟨g, j, none⟩ = some (.int .i64 ((l.getD j 0 : Nat) : Int))
theorem PlcAt.up {w w' : World} {g : Nat} {l : List Nat} (h : PlcAt w g l) (hb : Below w.heap.size w w') : PlcAt w' g l :=
  ⟨Nat.lt_of_lt_of_le h.1 hb.size, fun j hj => (hb.cell (p := ⟨g, j, none⟩) h.1).trans (h.2 j hj)⟩
theorem tuP_x (s : Nat → UInt8) (l : List Nat) (hl : ∀ x ∈ l, x < 8) (k j p : Nat) (hk : k < 8) (hp : (k + l.getD j 0) % 8 = p) :
    bits .xor .u64 (plW (fun i => turns (s i) (l.map (fun (x : Nat) => (x : Int))) j) k : Int) (plW s p : Int) = (plW (fun i => turns (s i) (l.map (fun (x : Nat) => (x : Int))) (j + 1)) k : Int) := by
  subst hp
  rw [u64_xor_nat _ _ (plW_lt' _ _) (plW_lt' _ _), ← plW_turns s l hl k j hk, ← plW_turns s l hl k (j + 1) hk]
  rfl
theorem pcTo_at (s z : Nat → UInt8) (k i : Nat) (hi : i < 8) : (pcTo s z k)[i]? = some (.int .u64 ((if i < k then plW s i else plW z i : Nat) : Int)) := by
  unfold pcTo arToQ
  rw [List.getElem?_toArray, List.getElem?_map, rowTo_at _ _ _ _ _ hi]; rfl
/-- planes of which plane k is told by x. -/
def pcAt (s z : Nat → UInt8) (k : Nat) (x : Nat) : Array Value := (pcTo s z k).setIfInBounds k (.int .u64 (x : Int))
theorem pcAt_size (s z : Nat → UInt8) (k x : Nat) : (pcAt s z k x).size = 8 := by unfold pcAt; rw [Array.size_setIfInBounds, pcTo_size]
theorem pcAt_k (s z : Nat → UInt8) (k x : Nat) (hk : k < 8) : (pcAt s z k x)[k]? = some (.int .u64 (x : Int)) := by
  unfold pcAt; rw [Array.getElem?_setIfInBounds_self_of_lt (by rw [pcTo_size]; exact hk)]
theorem pcAt_set (s z : Nat → UInt8) (k x y : Nat) : (pcAt s z k x).setIfInBounds k (.int .u64 (y : Int)) = pcAt s z k y := by
  unfold pcAt; rw [Array.setIfInBounds_setIfInBounds]
theorem pcAt_z (s z : Nat → UInt8) (k : Nat) (hk : k < 8) : pcAt s z k (plW z k) = pcTo s z k := by
  unfold pcAt
  apply Array.ext_getElem?
  intro i
  rw [Array.getElem?_setIfInBounds]
  split
  · rename_i h; subst h
    rw [if_pos (by rw [pcTo_size]; exact hk), pcTo_hi s z k k hk (Nat.le_refl _)]
  · rfl
theorem pcAt_s (s z : Nat → UInt8) (k : Nat) : pcAt s z k (plW s k) = pcTo s z (k + 1) := arToQ_set _ _ _ _
theorem RQ.setA {w : World} {g k x y : Nat} {t : TypeId} {s z : Nat → UInt8} (hr : RQ w g t (pcAt s z k x)) {v : Value} (hv : v = .int .u64 (y : Int)) : RQ (w.setCell ⟨g, k, none⟩ v) g t (pcAt s z k y) := by
  subst hv
  have h2 := hr.set (k := k) (.int .u64 (y : Int))
  rwa [pcAt_set] at h2
set_option maxRecDepth 100000 in
set_option maxHeartbeats 3200000 in
theorem turnsP (s : Nat → UInt8) (l : List Nat) (hl : ∀ x ∈ l, x < 8) (n : Nat) (hn : l.length = n) (hn8 : n ≤ 8) (g : Nat) (w : World) (hg : PlcAt w g l) :
    Calls Tryz.prog 136 #[.agg (pc s), .slice (some ⟨g, 0, none⟩) n n] w fun e w' => e = .returned (.agg (pc (fun i => turns (s i) (l.map (fun (x : Nat) => (x : Int))) n))) ∧ Below w.heap.size w w' := by
  have HX0 := fun k j p hk hp => Lib.hid (tuP_x s l hl k j p hk hp)
  obtain ⟨tt, htt⟩ : ∃ tt : Nat → Nat → UInt8, (fun j i => turns (s i) (l.map (fun (x : Nat) => (x : Int))) j) = tt := ⟨_, rfl⟩
  have e0 : ∀ j, (fun i => turns (s i) (l.map (fun (x : Nat) => (x : Int))) j) = tt j := fun j => congrFun htt j
  have HT0 : Hid (∀ k, plW (tt 0) k = plW (fun _ => 0) k) := Lib.hid (fun k => by rw [← htt]; rfl)
  simp only [e0] at HX0 ⊢
  have HD : Hid (∀ j, j < n → l.getD j 0 < 8) := Lib.hid (fun j hj => by
    rw [List.getD_eq_getElem?_getD, List.getElem?_eq_getElem (by omega)]
    exact hl _ (List.getElem_mem _))
  clear htt e0 hl
  have HG := Lib.hid hg
  rw [← hn] at *
  obtain ⟨W, hW⟩ : ∃ W, ((w.alloc (.cells (pc s) 135)).alloc (.cells zeroQ 135)).alloc (.cells zeroQ 135) = W := ⟨_, rfl⟩
  obtain ⟨h1, h2, h3, hb⟩ := newQ3 w _ _ _ _ _ _ hW
  have h3 : RQ W (w.heap.size + 1 + 1) 135 (pcTo (tt l.length) (fun _ => 0) 0) := by rw [pcTo_0, ← zeroQ_pc]; exact h3
  have HW := Lib.hid hW
  clear hW hg
  unfold zeroQ at HW
  go_enter Tryz.func136, Tryz.ntmps136
  go_wp2
  rw [HW.out]
  go_loopw [9] (fun v wr => ∃ k : Nat, k ≤ 8 ∧ v = .int .i64 k ∧ RQ wr w.heap.size 135 (pc s) ∧ RQ wr (w.heap.size + 1) 135 zeroQ ∧ RQ wr (w.heap.size + 1 + 1) 135 (pcTo (tt l.length) (fun _ => 0) k) ∧ Below w.heap.size w wr) (fun v _ => 8 - (intOf v).toNat)
  case atStart => exact ⟨0, by omega, rfl, h1, h2, h3, hb⟩
  case round =>
    obtain ⟨k, hk, rfl, g1, g2, g3, hbel⟩ := hrel
    by_cases hlt : k < 8
    · have hk1 : (k : Int) < 8 := by omega
      have hk0 : (0 : Int) ≤ (k : Int) := by omega
      have g3 : RQ wr (w.heap.size + 1 + 1) 135 (pcAt (tt l.length) (fun _ => 0) k (plW (tt 0) k)) := by rw [HT0.out, pcAt_z _ _ _ hlt]; exact g3
      clear h1 h2 h3 hb HT0
      go_wp2
      obtain ⟨wk, rfl⟩ : ∃ x, x = wr := ⟨_, rfl⟩
      go_loopw [14] (fun v wr => ∃ j : Nat, j ≤ l.length ∧ v = .int .i64 j ∧ RQ wr w.heap.size 135 (pc s) ∧ RQ wr (w.heap.size + 1) 135 zeroQ ∧ RQ wr (w.heap.size + 1 + 1) 135 (pcAt (tt l.length) (fun _ => 0) k (plW (tt j) k)) ∧ Below w.heap.size w wr) (fun v _ => l.length - (intOf v).toNat)
      case atStart => exact ⟨0, by omega, rfl, g1, g2, g3, hbel⟩
      case round =>
        obtain ⟨j, hj, rfl, i1, i2, i3, ibel⟩ := hrel
        by_cases hjt : j < l.length
        · have hj1 : (j : Int) < (l.length : Int) := by omega
          have hj0 : (0 : Int) ≤ (j : Int) := by omega
          have hcp := (HG.out.up ibel).2 j hjt
          have hd8 := HD.out j hjt
          obtain ⟨d, hd⟩ : ∃ d, l.getD j 0 = d := ⟨_, rfl⟩
          obtain ⟨p, hp⟩ : ∃ p, (k + d) % 8 = p := ⟨_, rfl⟩
          have hp8 : p < 8 := by omega
          have hx := (HX0 k j p hlt (by rw [hd]; exact hp)).out
          rw [hd] at hcp hd8
          have q1 : IntKind.i64.wrap ((k : Int) + (d : Int)) = (k : Int) + (d : Int) := IntWalk.i64_in _ (by omega)
          have e1 : ((k : Int) + (d : Int)).tmod 8 = (p : Int) := by rw [Int.tmod_eq_emod_of_nonneg (by omega)]; omega
          have hp1 : (p : Int) < 8 := by omega
          have hp0 : (0 : Int) ≤ (p : Int) := by omega
          have hc1 := i1.cell (pc_at s p hp8)
          have hc3 := i3.cell (pcAt_k _ _ _ _ hlt)
          have hfz := i3.fz k
          have d1 : RQ wr.drew w.heap.size 135 (pc s) := i1
          have d2 : RQ wr.drew (w.heap.size + 1) 135 zeroQ := i2
          have d3 : RQ wr.drew (w.heap.size + 1 + 1) 135 (pcAt (tt l.length) (fun _ => 0) k (plW (tt j) k)) := i3
          have N1 := fun v => Lib.hid (d1.far (b := w.heap.size + 1 + 1) k v (by omega))
          have N2 := fun v => Lib.hid (d2.far (b := w.heap.size + 1 + 1) k v (by omega))
          have N3 := fun v (hv : v = .int .u64 (plW (tt (j + 1)) k : Int)) => Lib.hid (d3.setA (v := v) hv)
          have NB := fun v => Lib.hid (ibel.drew.setCell (p := ⟨w.heap.size + 1 + 1, k, none⟩) (by simp; omega) v)
          clear i1 i2 i3 ibel g1 g2 g3 hbel d1 d2 d3 hd hp HX0
          go_wp2
          go_still_tail 11, (by kernel_rfl)
          change wpList _ _ _ _ _ wr.drew
          go_wp2
          go_roundw
          case rel => exact ⟨j + 1, by omega, by go_num, (N1 _).out, (N2 _).out, (N3 _ (by first | rfl | rw [hx])).out, (NB _).out⟩
          case measure => simp [intOf]; omega
        · obtain rfl : l.length = j := by omega
          rw [pcAt_s] at i3
          clear g1 g2 g3 hbel
          go_wp2
          go_roundw
          case rel => exact ⟨k + 1, by omega, by go_num, i1, i2, i3, ibel⟩
          case measure => simp [intOf]; omega
    · obtain rfl : k = 8 := by omega
      rw [pcTo_8] at g3
      have hone := pc_one (tt l.length)
      have hsi := planes_info (tt l.length)
      have hz : zeroQ.size = (pc (tt l.length)).size := by rw [pc_size]; rfl
      have hsr := g2.row (pc (tt l.length))
      have hbs : Hid (Below w.heap.size w (wr.setRow (w.heap.size + 1) (pc (tt l.length)))) := Lib.hid (below_setRow hbel (by omega) _)
      generalize hR : pc (tt l.length) = R at *
      generalize zeroQ = Z at *
      have HR := Lib.hid hR
      clear hR
      have G1 := Lib.hid g3
      have G3 := Lib.hid g2
      have HSR := Lib.hid hsr
      clear g1 g2 g3 hsr hbel h1 h2 h3 hb HX0 HT0
      unfold RQ at G1 G3 HSR
      go_wp2_with (first
        | (refine wpList_load_row rfl 135 _ rfl (w.heap.size + 1 + 1) rfl 135 R (0, 0) _ G1.out Tryz.underlying135 rfl hsi ?_)
        | (refine wpList_store_row rfl 135 _ _ rfl (w.heap.size + 1) R rfl rfl 135 Z G3.out hsi hz hone ?_))
      refine bodyPost_ret (v := .agg R) ?_ rfl ⟨by rw [HR.out], hbs.out⟩
      exact results_cell_row rfl _ _ (w.heap.size + 1) 135 R (0, 0) _ rfl HSR.out Tryz.underlying135 rfl hsi
end Go.Proofs.YtbfmbdohebdbaaaGreatDoor
set_option linter.unusedVariables false
set_option linter.unusedSimpArgs false
namespace Go.Proofs.YtbfmbdohebdbaaaGreatDoor
open Go Go.RowKit

set_option maxRecDepth 100000 in
theorem index_pc (s : Nat → UInt8) (k : Nat) (hk : k < 8) (w : World) : (Instr.index 135 (.agg (pc s)) (.int .i64 (k : Int))).run Tryz.prog w = .ok (.int .u64 (plW s k : Int)) w := by
  obtain ⟨i, hi, h1⟩ : ∃ i : TypeInfo, Tryz.prog.info? 133 = some i ∧ i.size = 1 := ⟨_, rfl, rfl⟩
  exact run_index_ar 135 133 8 k (pc s) _ _ i w Tryz.underlying135 Tryz.underlying133 rfl hi h1 hk (pc_at s k hk)
theorem newQ4 (w : World) (A B C D : Array Value) (a b c d : TypeId) {W : World} (hW : (((w.alloc (.cells A a)).alloc (.cells B b)).alloc (.cells C c)).alloc (.cells D d) = W) :
    RQ W w.heap.size a A ∧ RQ W (w.heap.size + 1) b B ∧ RQ W (w.heap.size + 1 + 1) c C ∧ RQ W (w.heap.size + 1 + 1 + 1) d D ∧ Below w.heap.size w W := by
  obtain ⟨W2, h2⟩ : ∃ W2, ((w.alloc (.cells A a)).alloc (.cells B b)).alloc (.cells C c) = W2 := ⟨_, rfl⟩
  obtain ⟨r1, r2, r3, u⟩ := newQ3 w A B C a b c h2
  have s2 : W2.heap.size = w.heap.size + 1 + 1 + 1 := by rw [← h2, alQ_sz, alQ_sz, alQ_sz]
  rw [h2] at hW
  subst hW
  have r4 := RQ.new W2 d D
  rw [s2] at r4
  exact ⟨r1.alloc _, r2.alloc _, r3.alloc _, r4, u.trans ((alQ_up W2 _).mono (by omega))⟩
theorem q_mul1 (s t u : Nat → UInt8) (k j : Nat) : bits .xor .u64 (plW u k : Int) (bits .and .u64 (plW s k : Int) (plW t j : Int)) = (plW (fun i => u i ^^^ (if bt (t i) j then s i else 0)) k : Int) := by
  rw [u64_and_nat _ _ (plW_lt' _ _) (plW_lt' _ _), u64_xor_nat _ _ (plW_lt' _ _) (Nat.lt_of_le_of_lt Nat.and_le_left (plW_lt' _ _)), plW_mul1]
set_option maxRecDepth 100000 in
set_option maxHeartbeats 3200000 in
theorem timesP (s t : Nat → UInt8) (w : World) :
    Calls Tryz.prog 135 #[.agg (pc s), .agg (pc t)] w fun e w' => e = .returned (.agg (pc (fun i => mul (s i) (t i)))) ∧ Below w.heap.size w w' := by
  obtain ⟨mm, hmm⟩ : ∃ mm : Nat → Nat → UInt8, (fun j i => mulTo (s i) (t i) j) = mm := ⟨_, rfl⟩
  obtain ⟨ss, hss⟩ : ∃ ss : Nat → Nat → UInt8, (fun j i => Nat.repeat tw j (s i)) = ss := ⟨_, rfl⟩
  have HX : Hid (∀ k j, bits .xor .u64 (plW (mm j) k : Int) (bits .and .u64 (plW (ss j) k : Int) (plW t j : Int)) = (plW (mm (j + 1)) k : Int)) := Lib.hid (fun k j => by rw [q_mul1, ← hmm, ← hss]; rfl)
  have HTW : ∀ j W, Hid (Calls Tryz.prog 171 #[.agg (pc (ss j))] W fun e w' => e = .returned (.agg (pc (ss (j + 1)))) ∧ Below W.heap.size W w') := fun j W => Lib.hid (by
    have h := twiceP (ss j) W
    rw [← hss] at h ⊢
    exact h)
  have e0 : mm 0 = fun _ => 0 := by rw [← hmm]; rfl
  have e8 : (fun i => mul (s i) (t i)) = mm 8 := by rw [← hmm]; funext i; exact (mulTo_8 _ _).symm
  have es : s = ss 0 := by rw [← hss]; rfl
  rw [e8, es]
  clear e8 es hmm hss
  obtain ⟨W, hW⟩ : ∃ W, (((w.alloc (.cells (pc (ss 0)) 135)).alloc (.cells (pc t) 135)).alloc (.cells zeroQ 135)).alloc (.cells zeroQ 135) = W := ⟨_, rfl⟩
  obtain ⟨h1, h2, h3, h4, hb⟩ := newQ4 w _ _ _ _ _ _ _ _ hW
  have h4 : RQ W (w.heap.size + 1 + 1 + 1) 135 (pc (mm 0)) := by rw [e0, ← zeroQ_pc]; exact h4
  have HW := Lib.hid hW
  have H2 := Lib.hid h2
  have hst := planes_info t
  have HIX := fun k hk W => Lib.hid (index_pc t k hk W)
  obtain ⟨TT, hTT⟩ : ∃ TT, pc t = TT := ⟨_, rfl⟩
  clear hW e0 h2
  rw [hTT] at HW H2 hst HIX ⊢
  unfold zeroQ at HW
  unfold RQ at H2
  go_enter Tryz.func135, Tryz.ntmps135
  go_wp2_with (refine wpList_load_row rfl 135 _ rfl (w.heap.size + 1) rfl 135 TT (0, 0) _ (by rw [HW.out]; exact H2.out) Tryz.underlying135 rfl hst ?_)
  rw [HW.out]
  go_loopw [10] (fun v wr => ∃ j : Nat, j ≤ 8 ∧ v = .int .i64 j ∧ RQ wr w.heap.size 135 (pc (ss j)) ∧ RQ wr (w.heap.size + 1 + 1) 135 zeroQ ∧ RQ wr (w.heap.size + 1 + 1 + 1) 135 (pc (mm j)) ∧ Below w.heap.size w wr) (fun v _ => 8 - (intOf v).toNat)
  case atStart => exact ⟨0, by omega, rfl, h1, h3, h4, hb⟩
  case round =>
    obtain ⟨j, hj, rfl, g1, g3, g4, hbel⟩ := hrel
    by_cases hlt : j < 8
    · have hj1 : (j : Int) < 8 := by omega
      have hj0 : (0 : Int) ≤ (j : Int) := by omega
      have hix := fun W => (HIX j hlt W).out
      rw [← pcTo_0 (mm (j + 1)) (mm j)] at g4
      clear h1 h3 h4 hb HIX H2
      have HT := fun W => HTW j W
      go_wp2
      obtain ⟨wk, rfl⟩ : ∃ x, x = wr := ⟨_, rfl⟩
      go_loopw [13] (fun v wr => ∃ k : Nat, k ≤ 8 ∧ v = .int .i64 k ∧ RQ wr w.heap.size 135 (pc (ss j)) ∧ RQ wr (w.heap.size + 1 + 1) 135 zeroQ ∧ RQ wr (w.heap.size + 1 + 1 + 1) 135 (pcTo (mm (j + 1)) (mm j) k) ∧ Below w.heap.size w wr) (fun v _ => 8 - (intOf v).toNat)
      case atStart => exact ⟨0, by omega, rfl, g1, g3, g4, hbel⟩
      case round =>
        obtain ⟨k, hk, rfl, i1, i3, i4, ibel⟩ := hrel
        by_cases hkt : k < 8
        · have hk1 : (k : Int) < 8 := by omega
          have hk0 : (0 : Int) ≤ (k : Int) := by omega
          have hx := HX.out k j
          have hc1 := i1.cell (pc_at (ss j) k hkt)
          have hc4 := i4.cell (pcTo_hi (mm (j + 1)) (mm j) k k hkt (Nat.le_refl _))
          have hfz := i4.fz k
          have d1 : RQ wr.drew w.heap.size 135 (pc (ss j)) := i1
          have d3 : RQ wr.drew (w.heap.size + 1 + 1) 135 zeroQ := i3
          have d4 : RQ wr.drew (w.heap.size + 1 + 1 + 1) 135 (pcTo (mm (j + 1)) (mm j) k) := i4
          have N1 := fun v => Lib.hid (d1.far (b := w.heap.size + 1 + 1 + 1) k v (by omega))
          have N3 := fun v => Lib.hid (d3.far (b := w.heap.size + 1 + 1 + 1) k v (by omega))
          have N4 := fun v hv => Lib.hid (d4.setP (v := v) hv)
          have NB := fun v => Lib.hid (ibel.drew.setCell (p := ⟨w.heap.size + 1 + 1 + 1, k, none⟩) (by simp; omega) v)
          clear i1 i3 i4 ibel g1 g3 g4 hbel d1 d3 d4 HT HTW hix
          go_wp2
          go_still_tail 10, (by kernel_rfl)
          change wpList _ _ _ _ _ wr.drew
          go_wp2
          go_roundw
          case rel => exact ⟨k + 1, by omega, by go_num, (N1 _).out, (N3 _).out, (N4 _ (by first | rfl | rw [HX.out])).out, (NB _).out⟩
          case measure => simp [intOf]; omega
        · obtain rfl : k = 8 := by omega
          rw [pcTo_8] at i4
          clear g1 g3 g4 hbel HX
          have HT := HTW j wr
          have hsj := planes_info (ss j)
          have hsk := planes_info (ss (j + 1))
          have honek := pc_one (ss (j + 1))
          have hzk : (pc (ss j)).size = (pc (ss (j + 1))).size := by rw [pc_size, pc_size]
          have I1 := Lib.hid i1
          have I3 := Lib.hid i3
          have I4 := Lib.hid i4
          have IB := Lib.hid ibel
          clear i1 i3 i4 ibel hix HTW
          obtain ⟨R1, hR1⟩ : ∃ R1, pc (ss (j + 1)) = R1 := ⟨_, rfl⟩
          have HR1 := Lib.hid hR1
          rw [hR1] at HT hsk honek hzk
          generalize pc (ss j) = R0 at *
          clear hR1
          go_wp2_with (refine wpList_load_row rfl 135 _ rfl w.heap.size rfl 135 R0 (0, 0) _ (by have h := I1.out; exact h) Tryz.underlying135 rfl hsj ?_)
          refine HT.out.mono ?_; rintro e w2 ⟨rfl, hb2⟩
          have J1 := I1.out.up hb2
          have J3 := Lib.hid ((I3.out.up hb2 : RQ w2 _ _ _))
          have J4 := Lib.hid ((I4.out.up hb2 : RQ w2 _ _ _))
          have JB := Lib.hid (IB.out.trans (hb2.mono IB.out.size))
          have K1 := Lib.hid (J1.row R1)
          have K3 : Hid (RQ (w2.setRow w.heap.size R1) (w.heap.size + 1 + 1) 135 zeroQ) := Lib.hid ((setRow_other w2 w.heap.size (w.heap.size + 1 + 1) R1 (by omega)).trans J3.out)
          have K4 : Hid (RQ (w2.setRow w.heap.size R1) (w.heap.size + 1 + 1 + 1) 135 (pc (mm (j + 1)))) := Lib.hid ((setRow_other w2 w.heap.size (w.heap.size + 1 + 1 + 1) R1 (by omega)).trans J4.out)
          have KB : Hid (Below w.heap.size w (w2.setRow w.heap.size R1)) := Lib.hid (below_setRow JB.out (Nat.le_refl _) _)
          have J1H := Lib.hid J1
          clear J1 hb2 I1 I3 I4 IB J3 J4 JB HT
          go_wp2_with (refine wpList_store_row rfl 135 _ _ rfl w.heap.size R1 rfl rfl 135 R0 (by have h := J1H.out; exact h) hsk hzk honek ?_)
          go_roundw
          case rel => exact ⟨j + 1, by omega, by go_num, by rw [HR1.out]; exact K1.out, K3.out, K4.out, KB.out⟩
          case measure => simp [intOf]; omega
    · obtain rfl : j = 8 := by omega
      have hone := pc_one (mm 8)
      have hsi := planes_info (mm 8)
      have hz : zeroQ.size = (pc (mm 8)).size := by rw [pc_size]; rfl
      have hsr := g3.row (pc (mm 8))
      have hbs : Hid (Below w.heap.size w (wr.setRow (w.heap.size + 1 + 1) (pc (mm 8)))) := Lib.hid (below_setRow hbel (by omega) _)
      generalize hR : pc (mm 8) = R at *
      generalize zeroQ = Z at *
      have HR := Lib.hid hR
      clear hR
      have G1 := Lib.hid g4
      have G3 := Lib.hid g3
      have HSR := Lib.hid hsr
      clear g1 g3 g4 hsr hbel h1 h3 h4 hb HX HTW HIX H2
      unfold RQ at G1 G3 HSR
      go_wp2_with (first
        | (refine wpList_load_row rfl 135 _ rfl (w.heap.size + 1 + 1 + 1) rfl 135 R (0, 0) _ G1.out Tryz.underlying135 rfl hsi ?_)
        | (refine wpList_store_row rfl 135 _ _ rfl (w.heap.size + 1 + 1) R rfl rfl 135 Z G3.out hsi hz hone ?_))
      refine bodyPost_ret (v := .agg R) ?_ rfl ⟨by rw [HR.out], hbs.out⟩
      exact results_cell_row rfl _ _ (w.heap.size + 1 + 1) 135 R (0, 0) _ rfl HSR.out Tryz.underlying135 rfl hsi
end Go.Proofs.YtbfmbdohebdbaaaGreatDoor
set_option linter.unusedVariables false
set_option linter.unusedSimpArgs false
namespace Go.Proofs.YtbfmbdohebdbaaaGreatDoor
open Go Go.RowKit

set_option maxRecDepth 100000 in
theorem fst4 (w : World) : Calls Tryz.prog 240 #[.int .i64 4] w fun e w' => e = .returned (.int .u64 1229782938247303441) ∧ w = w' := by
  go_enter Tryz.func240, Tryz.ntmps240
  go_wp2
  go_ret
  exact ⟨rfl, rfl⟩
set_option maxRecDepth 100000 in
theorem fst16 (w : World) : Calls Tryz.prog 240 #[.int .i64 16] w fun e w' => e = .returned (.int .u64 281479271743489) ∧ w = w' := by
  go_enter Tryz.func240, Tryz.ntmps240
  go_wp2
  go_ret
  exact ⟨rfl, rfl⟩
theorem fst_lits : fstW 4 = 1229782938247303441 ∧ fstW 16 = 281479271743489 := by decide +kernel
theorem fst_is (run : Nat) (h : run = 4 ∨ run = 16) (w : World) : Calls Tryz.prog 240 #[.int .i64 (run : Int)] w fun e w' => e = .returned (.int .u64 (fstW run : Int)) ∧ w = w' := by
  rcases h with rfl | rfl
  · rw [fst_lits.1]; exact fst4 w
  · rw [fst_lits.2]; exact fst16 w
theorem arQ_info (h : Nat → Nat) : (Tryz.prog.info? 135).map (·.size) = some (arQ h 8).size := by rw [arQ_size]; kernel_rfl
theorem blocks_info (s : Nat → UInt8) : (Tryz.prog.info? 255).map (·.size) = some (pc s).size := by rw [pc_size]; kernel_rfl
theorem unb_num (run k : Nat) (hr : run ≤ 16) : IntKind.u64.wrap ((fstW run : Int) * IntKind.u64.wrap (IntKind.u64.wrap (2 ^ (run - k)) - 1)) = (unbW run k : Int) := by
  have h1 : 2 ^ (run - k) ≤ 2 ^ 16 := Nat.pow_le_pow_right (by omega) (by omega)
  have h0 : 0 < 2 ^ (run - k) := Nat.two_pow_pos _
  have e : ((2 : Int) ^ (run - k)) = ((2 ^ (run - k) : Nat) : Int) := by rw [Int.natCast_pow]; rfl
  unfold unbW
  rw [e]
  generalize 2 ^ (run - k) = y at *
  generalize fstW run = F
  have e1 : IntKind.u64.wrap (y : Int) = (y : Int) := wrapQ y (by omega)
  rw [e1]
  have e2 : IntKind.u64.wrap ((y : Int) - 1) = ((y - 1 : Nat) : Int) := by
    have e3 : (y : Int) - 1 = ((y - 1 : Nat) : Int) := by omega
    rw [e3, wrapQ _ (by omega)]
  rw [e2, IntKind.wrap_u64, Int.natCast_emod, Int.natCast_mul]; rfl
theorem unbW_lt (run k : Nat) : unbW run k < 18446744073709551616 := Nat.mod_lt _ (by omega)
theorem tuQ_i (x run k m : Nat) (hx : x < 18446744073709551616) (hm : m < 18446744073709551616) :
    bits .xor .u64 (bits .and .u64 ((x : Int) / 2 ^ k) (m : Int)) (bits .andNot .u64 (IntKind.u64.wrap ((x : Int) * 2 ^ (run - k))) (m : Int)) = (tuW x run k m : Int) := by
  rw [← tuQ x run k m hx hm, shlQ, Int.natCast_ediv, Int.natCast_pow]; rfl
set_option maxRecDepth 100000 in
set_option maxHeartbeats 3200000 in
theorem turnedQ (s : Nat → UInt8) (run k : Nat) (hr : run = 4 ∨ run = 16) (hk : k ≤ run) (w : World) :
    Calls Tryz.prog 238 #[.agg (pc s), .int .i64 (run : Int), .int .i64 (k : Int)] w fun e w' => e = .returned (.agg (arQ (fun j => tuW (plW s j) run k (unbW run k)) 8)) ∧ Below w.heap.size w w' := by
  have HF := fun W => Lib.hid (fst_is run hr W)
  have hr16 : (run : Int) ≤ 16 := by omega
  have hk0 : (k : Int) ≤ (run : Int) := by omega
  have q1 : IntKind.i64.wrap ((run : Int) - (k : Int)) = (run : Int) - (k : Int) := IntWalk.i64_in _ (by omega)
  have hm := unb_num run k (by omega)
  obtain ⟨h, hh⟩ : ∃ h : Nat → Nat, (fun j => tuW (plW s j) run k (unbW run k)) = h := ⟨_, rfl⟩
  have HX : Hid (∀ j, bits .xor .u64 (bits .and .u64 ((plW s j : Int) / 2 ^ k) (unbW run k : Int)) (bits .andNot .u64 (IntKind.u64.wrap ((plW s j : Int) * 2 ^ (run - k))) (unbW run k : Int)) = (h j : Int)) := Lib.hid (fun j => by rw [tuQ_i _ _ _ _ (plW_lt' _ _) (unbW_lt _ _), ← hh])
  have HIX := fun k hk W => Lib.hid (index_pc s k hk W)
  rw [hh]
  obtain ⟨W, hW⟩ : ∃ W, ((w.alloc (.cells (pc s) 255)).alloc (.cells zeroQ 135)).alloc (.cells zeroQ 135) = W := ⟨_, rfl⟩
  obtain ⟨h1, h2, h3, hb⟩ := newQ3 w _ _ _ _ _ _ hW
  have z0 : zeroQ = arToQ h (fun _ => 0) 8 0 := by rw [arToQ_0]; rfl
  rw [z0] at h3
  have HW := Lib.hid hW
  have H1 := Lib.hid h1
  have hst := planes_info s
  obtain ⟨A, hA⟩ : ∃ A, pc s = A := ⟨_, rfl⟩
  rw [hA] at HW H1 hst HIX ⊢
  clear hr hk hh hW h1 hA
  unfold zeroQ at HW
  unfold RQ at H1
  generalize fstW run = F at *
  generalize unbW run k = M at *
  go_enter Tryz.func238, Tryz.ntmps238
  go_wp2
  go_region_held3 (fun _ => True) (trivial)
    (first
      | (with_reducible refine (HF _).out.mono ?_; rintro e w' ⟨rfl, rfl⟩))
  go_wp2_with (refine wpList_load_row rfl 135 _ rfl w.heap.size rfl 255 A (0, 0) _ (by rw [HW.out]; exact H1.out) Tryz.underlying135 rfl hst ?_)
  rw [HW.out]
  go_loopw [21] (fun v wr => ∃ j : Nat, j ≤ 8 ∧ v = .int .i64 j ∧ RQ wr (w.heap.size + 1) 135 zeroQ ∧ RQ wr (w.heap.size + 1 + 1) 135 (arToQ h (fun _ => 0) 8 j) ∧ Below w.heap.size w wr) (fun v _ => 8 - (intOf v).toNat)
  case atStart => exact ⟨0, by omega, rfl, h2, h3, hb.drew⟩
  case round =>
    obtain ⟨j, hj, rfl, g2, g3, hbel⟩ := hrel
    by_cases hlt : j < 8
    · have hj1 : (j : Int) < 8 := by omega
      have hj0 : (0 : Int) ≤ (j : Int) := by omega
      have hx := HX.out j
      have hix := fun W => (HIX j hlt W).out
      have hc3 := g3.cell (arToQ_hi h _ 8 j j hlt (Nat.le_refl _))
      have hfz := g3.fz j
      have d2 : RQ wr.drew (w.heap.size + 1) 135 zeroQ := g2
      have d3 : RQ wr.drew (w.heap.size + 1 + 1) 135 (arToQ h (fun _ => 0) 8 j) := g3
      have N2 := fun v => Lib.hid (d2.far (b := w.heap.size + 1 + 1) j v (by omega))
      have N3 := fun v hv => Lib.hid (d3.setQ (v := v) hv)
      have NB := fun v => Lib.hid (hbel.drew.setCell (p := ⟨w.heap.size + 1 + 1, j, none⟩) (by simp; omega) v)
      clear g2 g3 hbel h2 h3 hb d2 d3 H1 HIX HF
      go_wp2
      go_still_tail 15, (by kernel_rfl)
      change wpList _ _ _ _ _ wr.drew
      go_wp2
      go_roundw
      case rel => exact ⟨j + 1, by omega, by go_num, (N2 _).out, (N3 _ (by first | rfl | rw [HX.out])).out, (NB _).out⟩
      case measure => simp [intOf]; omega
    · obtain rfl : j = 8 := by omega
      rw [arToQ_all] at g3
      have hone := arQ_one h 8
      have hsi := arQ_info h
      have hz : zeroQ.size = (arQ h 8).size := by rw [arQ_size]; rfl
      have hsr := g2.row (arQ h 8)
      have hbs : Hid (Below w.heap.size w (wr.setRow (w.heap.size + 1) (arQ h 8))) := Lib.hid (below_setRow hbel (by omega) _)
      generalize hR : arQ h 8 = R at *
      generalize zeroQ = Z at *
      have HR := Lib.hid hR
      clear hR
      have G1 := Lib.hid g3
      have G3 := Lib.hid g2
      have HSR := Lib.hid hsr
      clear g2 g3 hsr hbel h2 h3 hb HX HIX H1 HF
      unfold RQ at G1 G3 HSR
      go_wp2_with (first
        | (refine wpList_load_row rfl 135 _ rfl (w.heap.size + 1 + 1) rfl 135 R (0, 0) _ G1.out Tryz.underlying135 rfl hsi ?_)
        | (refine wpList_store_row rfl 135 _ _ rfl (w.heap.size + 1) R rfl rfl 135 Z G3.out hsi hz hone ?_))
      refine bodyPost_ret (v := .agg R) ?_ rfl ⟨by rw [HR.out], hbs.out⟩
      exact results_cell_row rfl _ _ (w.heap.size + 1) 135 R (0, 0) _ rfl HSR.out Tryz.underlying135 rfl hsi
theorem turned16 (s : Nat → UInt8) (k : Nat) (hk : k < 4) (w : World) :
    Calls Tryz.prog 238 #[.agg (pc s), .int .i64 16, .int .i64 ((4 * k : Nat) : Int)] w fun e w' => e = .returned (.agg (pc (fun i => s (onAt 16 (4 * k) i)))) ∧ Below w.heap.size w w' := by
  have h := turnedQ s 16 (4 * k) (Or.inr rfl) (by omega) w
  have e : arQ (fun j => tuW (plW s j) 16 (4 * k) (unbW 16 (4 * k))) 8 = pc (fun i => s (onAt 16 (4 * k) i)) := arQ_congr fun j _ => plW_on16 s k j hk
  rwa [e] at h
theorem turned4 (s : Nat → UInt8) (b : Nat) (hb : b < 4) (w : World) :
    Calls Tryz.prog 238 #[.agg (pc s), .int .i64 4, .int .i64 ((4 - b : Nat) : Int)] w fun e w' => e = .returned (.agg (pc (fun i => s (onAt 4 (4 - b) i)))) ∧ Below w.heap.size w w' := by
  have h := turnedQ s 4 (4 - b) (Or.inl rfl) (by omega) w
  have e : arQ (fun j => tuW (plW s j) 4 (4 - b) (unbW 4 (4 - b))) 8 = pc (fun i => s (onAt 4 (4 - b) i)) := arQ_congr fun j _ => plW_on4 s b j hb
  rwa [e] at h
end Go.Proofs.YtbfmbdohebdbaaaGreatDoor
set_option linter.unusedVariables false
set_option linter.unusedSimpArgs false
namespace Go.Proofs.YtbfmbdohebdbaaaGreatDoor
open Go Go.RowKit

/-- a block made behind a call, with what is stored into it at once. -/
theorem made_at (w W w1 : World) (Z R : Array Value) (t : TypeId) (hB : Below w.heap.size w W) (hb : Below W.heap.size W w1) {W2 : World} (hW : (w1.alloc (.cells Z t)).setRow w1.heap.size R = W2) :
    RQ W2 w1.heap.size t R ∧ Below w.heap.size w W2 ∧ (∀ g u cs, RQ W g u cs → RQ W2 g u cs) ∧ w1.heap.size < W2.heap.size ∧ W.heap.size ≤ w1.heap.size := by
  rw [World.setRow_alloc_new] at hW
  subst hW
  have hB1 := hB.trans (hb.mono hB.size)
  exact ⟨RQ.new w1 t R, hB1.trans ((alQ_up w1 _).mono hB1.size), fun g u cs h => (h.up hb).alloc _, by simp, hb.size⟩
/-- a whole array out of its block, as a region takes it. -/
theorem exec_load_row {P : Program} {ev : Operand → Value} {o : Oper} {w : World} (ty : TypeId) (x : Operand) (ho : o.op = .load ty x) (g : Nat) (hx : ev x = .pointer (some ⟨g, 0, none⟩)) (t : TypeId) (cs : Array Value) (d : TypeDesc) (hg : RQ w g t cs)
    (hu : P.underlying ty = some d) (hd : (match d with | .struct _ | .array _ _ => true | _ => false) = true) (hi : (P.info? ty).map (·.size) = some cs.size) : (execOp ev o).run P w = .ok (.value (.agg cs)) w := by
  unfold execOp
  simp only [ho, hx, Instr.loadAt, Instr.sureAddr, Sem.run_bind, Sem.run_pure, Result.andThen_ok, run_loadVar_row w g t ty cs (0, 0) d hg hu hd hi]
/-- what stays while the last products are made. -/
def Inv5 (w : World) (g6 g5 g3 z : Nat) (P15 P12 P2 : Array Value) (V : World) : Prop := RQ V g6 135 P15 ∧ RQ V g5 135 P12 ∧ RQ V g3 135 P2 ∧ (∃ Z : Array Value, Z.size = 8 ∧ RQ V z 135 Z) ∧ Below w.heap.size w V
theorem Inv5.next {w V V' : World} {g6 g5 g3 z : Nat} {P15 P12 P2 : Array Value} (h : Inv5 w g6 g5 g3 z P15 P12 P2 V) (hb : Below V.heap.size V V') : Inv5 w g6 g5 g3 z P15 P12 P2 V' :=
  ⟨h.1.up hb, h.2.1.up hb, h.2.2.1.up hb, h.2.2.2.1.elim (fun Z hZ => ⟨Z, hZ.1, hZ.2.up hb⟩), h.2.2.2.2.trans (hb.mono h.2.2.2.2.size)⟩
set_option maxRecDepth 100000 in
set_option maxHeartbeats 3200000 in
theorem inverseP (s : Nat → UInt8) (w : World) :
    Calls Tryz.prog 92 #[.agg (pc s)] w fun e w' => e = .returned (.agg (pc (fun i => inv (s i)))) ∧ Below w.heap.size w w' := by
  obtain ⟨s2, h2⟩ : ∃ f : Nat → UInt8, f = fun i => mul (s i) (s i) := ⟨_, rfl⟩
  obtain ⟨s3, h3⟩ : ∃ f : Nat → UInt8, f = fun i => mul (s2 i) (s i) := ⟨_, rfl⟩
  obtain ⟨s6, h6⟩ : ∃ f : Nat → UInt8, f = fun i => mul (s3 i) (s3 i) := ⟨_, rfl⟩
  obtain ⟨s12, h12⟩ : ∃ f : Nat → UInt8, f = fun i => mul (s6 i) (s6 i) := ⟨_, rfl⟩
  obtain ⟨s15, h15⟩ : ∃ f : Nat → UInt8, f = fun i => mul (s12 i) (s3 i) := ⟨_, rfl⟩
  obtain ⟨s30, h30⟩ : ∃ f : Nat → UInt8, f = fun i => mul (s15 i) (s15 i) := ⟨_, rfl⟩
  obtain ⟨s60, h60⟩ : ∃ f : Nat → UInt8, f = fun i => mul (s30 i) (s30 i) := ⟨_, rfl⟩
  obtain ⟨s120, h120⟩ : ∃ f : Nat → UInt8, f = fun i => mul (s60 i) (s60 i) := ⟨_, rfl⟩
  obtain ⟨s240, h240⟩ : ∃ f : Nat → UInt8, f = fun i => mul (s120 i) (s120 i) := ⟨_, rfl⟩
  obtain ⟨s252, h252⟩ : ∃ f : Nat → UInt8, f = fun i => mul (s240 i) (s12 i) := ⟨_, rfl⟩
  have hlast : (fun i => inv (s i)) = fun i => mul (s252 i) (s2 i) := by
    subst h2 h3 h6 h12 h15 h30 h60 h120 h240 h252
    funext i
    exact (chain_inv (s i)).symm
  obtain ⟨s254, h254⟩ : ∃ f : Nat → UInt8, f = fun i => mul (s252 i) (s2 i) := ⟨_, rfl⟩
  rw [hlast, ← h254]
  have C2 := fun W => Lib.hid (sqP_i s W)
  have C3 := fun W => Lib.hid (timesP s2 s W)
  have C6 := fun W => Lib.hid (sqP_i s3 W)
  have C12 := fun W => Lib.hid (sqP_i s6 W)
  have C15 := fun W => Lib.hid (timesP s12 s3 W)
  have C30 := fun W => Lib.hid (sqP_i s15 W)
  have C60 := fun W => Lib.hid (sqP_i s30 W)
  have C120 := fun W => Lib.hid (sqP_i s60 W)
  have C240 := fun W => Lib.hid (sqP_i s120 W)
  have C252 := fun W => Lib.hid (timesP s240 s12 W)
  have C254 := fun W => Lib.hid (timesP s252 s2 W)
  rw [← h2] at C2; rw [← h3] at C3; rw [← h6] at C6; rw [← h12] at C12; rw [← h15] at C15; rw [← h30] at C30; rw [← h60] at C60; rw [← h120] at C120; rw [← h240] at C240; rw [← h252] at C252; rw [← h254] at C254
  clear h2 h3 h6 h12 h15 h30 h60 h120 h240 h252 h254 hlast
  have i1 := planes_info s
  have i2 := planes_info s2
  have i3 := planes_info s3
  have i12 := planes_info s12
  have i15 := planes_info s15
  have i254 := planes_info s254
  have o2 := pc_one s2
  have o3 := pc_one s3
  have o12 := pc_one s12
  have o15 := pc_one s15
  have o254 := pc_one s254
  have z2 : zeroQ.size = (pc s2).size := by rw [pc_size]; rfl
  have z3 : zeroQ.size = (pc s3).size := by rw [pc_size]; rfl
  have z12 : zeroQ.size = (pc s12).size := by rw [pc_size]; rfl
  have z15 : zeroQ.size = (pc s15).size := by rw [pc_size]; rfl
  have z254 : zeroQ.size = (pc s254).size := by rw [pc_size]; rfl
  generalize pc s = P1 at *
  generalize pc s2 = P2 at *
  generalize pc s3 = P3 at *
  generalize pc s6 = P6 at *
  generalize pc s12 = P12 at *
  generalize pc s15 = P15 at *
  generalize pc s30 = P30 at *
  generalize pc s60 = P60 at *
  generalize pc s120 = P120 at *
  generalize pc s240 = P240 at *
  generalize pc s252 = P252 at *
  generalize pc s254 = P254 at *
  obtain ⟨W0, hW⟩ : ∃ W0, (w.alloc (.cells P1 135)).alloc (.cells zeroQ 135) = W0 := ⟨_, rfl⟩
  obtain ⟨a1, az, hb0⟩ := newQ2 w _ _ _ _ hW
  have HW := Lib.hid hW
  have A1 := Lib.hid a1
  have AZ := Lib.hid az
  have B0 := Lib.hid hb0
  clear hW a1 az hb0
  unfold zeroQ at HW z2 z3 z12 z15
  go_enter Tryz.func92, Tryz.ntmps92
  go_wp2_with (refine wpList_load_row rfl 135 _ rfl w.heap.size rfl 135 P1 (0, 0) _ (by rw [HW.out]; exact A1.out) Tryz.underlying135 rfl i1 ?_)
  rw [HW.out]
  refine (C2 _).out.mono ?_; rintro e v2 ⟨rfl, hb⟩
  obtain ⟨W2, hW⟩ : ∃ W2, (v2.alloc (.cells #[.int .u64 0, .int .u64 0, .int .u64 0, .int .u64 0, .int .u64 0, .int .u64 0, .int .u64 0, .int .u64 0] 135)).setRow v2.heap.size P2 = W2 := ⟨_, rfl⟩
  obtain ⟨nn, nb, nu, nl, ne⟩ := made_at w W0 v2 _ _ _ B0.out hb hW
  have HW2 := Lib.hid hW
  have B2 := Lib.hid nb
  have N2 := Lib.hid nn
  have E2 := Lib.hid ne
  have A1 := Lib.hid (nu _ _ _ A1.out)
  have D2 := Lib.hid (Nat.lt_of_lt_of_le AZ.out.lt ne)
  have AZ := Lib.hid (nu _ _ _ AZ.out)
  clear hW nn nb nu nl ne hb HW B0
  go_wp2_with (first
    | (refine wpList_store_row rfl 135 _ _ rfl v2.heap.size P2 rfl rfl 135 _ (heap_alloc_new v2 _) i2 z2 o2 ?_)
    | (refine wpList_load_row rfl 135 _ rfl v2.heap.size rfl 135 P2 (0, 0) _ (by rw [HW2.out]; exact N2.out) Tryz.underlying135 rfl i2 ?_)
    | (refine wpList_load_row rfl 135 _ rfl w.heap.size rfl 135 P1 (0, 0) _ (by rw [HW2.out]; exact A1.out) Tryz.underlying135 rfl i1 ?_))
  rw [HW2.out]
  refine (C3 _).out.mono ?_; rintro e v3 ⟨rfl, hb⟩
  obtain ⟨W3, hW⟩ : ∃ W3, (v3.alloc (.cells #[.int .u64 0, .int .u64 0, .int .u64 0, .int .u64 0, .int .u64 0, .int .u64 0, .int .u64 0, .int .u64 0] 135)).setRow v3.heap.size P3 = W3 := ⟨_, rfl⟩
  obtain ⟨nn, nb, nu, nl, ne⟩ := made_at w W2 v3 _ _ _ B2.out hb hW
  have HW3 := Lib.hid hW
  have B3 := Lib.hid nb
  have N3 := Lib.hid nn
  have E3 := Lib.hid ne
  have A1 := Lib.hid (nu _ _ _ A1.out)
  have D3 := Lib.hid (Nat.lt_of_lt_of_le AZ.out.lt ne)
  have AZ := Lib.hid (nu _ _ _ AZ.out)
  have N2 := Lib.hid (nu _ _ _ N2.out)
  clear hW nn nb nu nl ne hb HW2 B2
  go_wp2_with (first
    | (refine wpList_store_row rfl 135 _ _ rfl v3.heap.size P3 rfl rfl 135 _ (heap_alloc_new v3 _) i3 z3 o3 ?_)
    | (refine wpList_load_row rfl 135 _ rfl v3.heap.size rfl 135 P3 (0, 0) _ (by rw [HW3.out]; exact N3.out) Tryz.underlying135 rfl i3 ?_))
  rw [HW3.out]
  refine (C6 _).out.mono ?_; rintro e u12 ⟨rfl, hb⟩
  have X12 := Lib.hid hb
  clear hb
  go_wp2_with fail
  refine (C12 _).out.mono ?_; rintro e v12 ⟨rfl, hb⟩
  have hb := X12.out.trans (hb.mono X12.out.size)
  obtain ⟨W12, hW⟩ : ∃ W12, (v12.alloc (.cells #[.int .u64 0, .int .u64 0, .int .u64 0, .int .u64 0, .int .u64 0, .int .u64 0, .int .u64 0, .int .u64 0] 135)).setRow v12.heap.size P12 = W12 := ⟨_, rfl⟩
  obtain ⟨nn, nb, nu, nl, ne⟩ := made_at w W3 v12 _ _ _ B3.out hb hW
  have HW12 := Lib.hid hW
  have B12 := Lib.hid nb
  have N12 := Lib.hid nn
  have E12 := Lib.hid ne
  have A1 := Lib.hid (nu _ _ _ A1.out)
  have D12 := Lib.hid (Nat.lt_of_lt_of_le AZ.out.lt ne)
  have AZ := Lib.hid (nu _ _ _ AZ.out)
  have N2 := Lib.hid (nu _ _ _ N2.out)
  have N3 := Lib.hid (nu _ _ _ N3.out)
  clear hW nn nb nu nl ne hb HW3 B3 X12
  go_wp2_with (first
    | (refine wpList_store_row rfl 135 _ _ rfl v12.heap.size P12 rfl rfl 135 _ (heap_alloc_new v12 _) i12 z12 o12 ?_)
    | (refine wpList_load_row rfl 135 _ rfl v12.heap.size rfl 135 P12 (0, 0) _ (by rw [HW12.out]; exact N12.out) Tryz.underlying135 rfl i12 ?_)
    | (refine wpList_load_row rfl 135 _ rfl v3.heap.size rfl 135 P3 (0, 0) _ (by rw [HW12.out]; exact N3.out) Tryz.underlying135 rfl i3 ?_))
  rw [HW12.out]
  refine (C15 _).out.mono ?_; rintro e v15 ⟨rfl, hb⟩
  obtain ⟨W15, hW⟩ : ∃ W15, (v15.alloc (.cells #[.int .u64 0, .int .u64 0, .int .u64 0, .int .u64 0, .int .u64 0, .int .u64 0, .int .u64 0, .int .u64 0] 135)).setRow v15.heap.size P15 = W15 := ⟨_, rfl⟩
  obtain ⟨nn, nb, nu, nl, ne⟩ := made_at w W12 v15 _ _ _ B12.out hb hW
  have HW15 := Lib.hid hW
  have B15 := Lib.hid nb
  have N15 := Lib.hid nn
  have E15 := Lib.hid ne
  have A1 := Lib.hid (nu _ _ _ A1.out)
  have D15 := Lib.hid (Nat.lt_of_lt_of_le AZ.out.lt ne)
  have AZ := Lib.hid (nu _ _ _ AZ.out)
  have N2 := Lib.hid (nu _ _ _ N2.out)
  have N3 := Lib.hid (nu _ _ _ N3.out)
  have N12 := Lib.hid (nu _ _ _ N12.out)
  clear hW nn nb nu nl ne hb HW12 B12
  go_wp2_with (first
    | (refine wpList_store_row rfl 135 _ _ rfl v15.heap.size P15 rfl rfl 135 _ (heap_alloc_new v15 _) i15 z15 o15 ?_))
  rw [HW15.out]
  have hS0 : Inv5 w v15.heap.size v12.heap.size v2.heap.size (w.heap.size + 1) P15 P12 P2 W15.drew := ⟨N15.out, N12.out, N2.out, ⟨zeroQ, rfl, AZ.out⟩, B15.out.drew⟩
  refine wp_region_held_drew (S := Inv5 w v15.heap.size v12.heap.size v2.heap.size (w.heap.size + 1) P15 P12 P2) (by kernel_rfl) hS0 (fun hS1 => ?_)
  refine wpAnyH_take (i := 0) (v := .agg P15) rfl (by kernel_rfl) (by kernel_rfl) (by kernel_rfl) (fun _ _ _ h => h) (Or.inl ⟨by kernel_rfl, fun V hV => exec_load_row 135 _ rfl v15.heap.size rfl 135 P15 _ hV.1 Tryz.underlying135 rfl i15⟩) (by assumption) ?_
  try simp only [lay]
  refine wpAnyH_take (i := 5) (v := .agg P12) rfl (by kernel_rfl) (by kernel_rfl) (by kernel_rfl) (fun _ _ _ h => h) (Or.inl ⟨by kernel_rfl, fun V hV => exec_load_row 135 _ rfl v12.heap.size rfl 135 P12 _ hV.2.1 Tryz.underlying135 rfl i12⟩) (by assumption) ?_
  try simp only [lay]
  refine wpAnyH_take (i := 7) (v := .agg P2) rfl (by kernel_rfl) (by kernel_rfl) (by kernel_rfl) (fun _ _ _ h => h) (Or.inl ⟨by kernel_rfl, fun V hV => exec_load_row 135 _ rfl v2.heap.size rfl 135 P2 _ hV.2.2.1 Tryz.underlying135 rfl i2⟩) (by assumption) ?_
  try simp only [lay]
  refine wpAnyH_ready (rs := [1]) (by kernel_rfl) (by simp) ?_
  refine AllReadyH.cons rfl (fun K hK => ?_) AllReadyH.nil
  go_simp
  refine (C30 _).out.mono ?_; rintro e x1 ⟨rfl, hb⟩
  have hS2 := hS1.next hb
  clear hb
  refine hK.out _ _ hS2 (fun hS2 => ?_)
  clear hK K
  try simp only [lay]
  refine wpAnyH_ready (rs := [2]) (by kernel_rfl) (by simp) ?_
  refine AllReadyH.cons rfl (fun K hK => ?_) AllReadyH.nil
  go_simp
  refine (C60 _).out.mono ?_; rintro e x2 ⟨rfl, hb⟩
  have hS3 := hS2.next hb
  clear hb
  refine hK.out _ _ hS3 (fun hS3 => ?_)
  clear hK K
  try simp only [lay]
  refine wpAnyH_ready (rs := [3]) (by kernel_rfl) (by simp) ?_
  refine AllReadyH.cons rfl (fun K hK => ?_) AllReadyH.nil
  go_simp
  refine (C120 _).out.mono ?_; rintro e x3 ⟨rfl, hb⟩
  have hS4 := hS3.next hb
  clear hb
  refine hK.out _ _ hS4 (fun hS4 => ?_)
  clear hK K
  try simp only [lay]
  refine wpAnyH_ready (rs := [4]) (by kernel_rfl) (by simp) ?_
  refine AllReadyH.cons rfl (fun K hK => ?_) AllReadyH.nil
  go_simp
  refine (C240 _).out.mono ?_; rintro e x4 ⟨rfl, hb⟩
  have hS5 := hS4.next hb
  clear hb
  refine hK.out _ _ hS5 (fun hS5 => ?_)
  clear hK K
  try simp only [lay]
  refine wpAnyH_ready (rs := [6]) (by kernel_rfl) (by simp) ?_
  refine AllReadyH.cons rfl (fun K hK => ?_) AllReadyH.nil
  go_simp
  refine (C252 _).out.mono ?_; rintro e x5 ⟨rfl, hb⟩
  have hS6 := hS5.next hb
  clear hb
  refine hK.out _ _ hS6 (fun hS6 => ?_)
  clear hK K
  try simp only [lay]
  refine wpAnyH_ready (rs := [8]) (by kernel_rfl) (by simp) ?_
  refine AllReadyH.cons rfl (fun K hK => ?_) AllReadyH.nil
  go_simp
  refine (C254 _).out.mono ?_; rintro e x6 ⟨rfl, hb⟩
  have hS7 := hS6.next hb
  clear hb
  refine hK.out _ _ hS7 (fun hS7 => ?_)
  clear hK K
  try simp only [lay]
  obtain ⟨Z, hZ, hCZ⟩ := hS7.2.2.2.1
  have hzz : Z.size = P254.size := by rw [hZ, ← z254]; rfl
  have MS := hCZ.row P254
  have MB := below_setRow hS7.2.2.2.2 (show w.heap.size ≤ w.heap.size + 1 by omega) P254
  have f15 := D15.out
  have f12 := D12.out
  have f2 := D2.out
  have M1 : RQ (x6.setRow (w.heap.size + 1) P254) v15.heap.size 135 P15 := (setRow_other x6 (w.heap.size + 1) v15.heap.size _ (by omega)).trans hS7.1
  have M2 : RQ (x6.setRow (w.heap.size + 1) P254) v12.heap.size 135 P12 := (setRow_other x6 (w.heap.size + 1) v12.heap.size _ (by omega)).trans hS7.2.1
  have M3 : RQ (x6.setRow (w.heap.size + 1) P254) v2.heap.size 135 P2 := (setRow_other x6 (w.heap.size + 1) v2.heap.size _ (by omega)).trans hS7.2.2.1
  have hP8 : P254.size = 8 := by rw [← z254]; rfl
  refine wpAnyH_ready (rs := [9]) (by kernel_rfl) (by simp) ?_
  refine AllReadyH.cons rfl (fun K hK => ?_) AllReadyH.nil
  refine wp_store_row 135 _ _ rfl (w.heap.size + 1) P254 rfl rfl 135 Z hCZ i254 hzz o254 ?_
  refine hK.out _ _ ⟨M1, M2, M3, ⟨_, hP8, MS⟩, MB⟩ (fun _ => ?_)
  clear hK K
  try simp only [lay]
  refine wpAnyH_done (by kernel_rfl) ?_ _
  have MS2 := Lib.hid MS
  have MB2 := Lib.hid MB
  clear MS MB M1 M2 M3 hS0 hS1 hS2 hS3 hS4 hS5 hS6 hS7 hCZ hzz f15 f12 f2
  go_wp2
  refine bodyPost_ret (v := .agg P254) ?_ rfl ⟨rfl, MB2.out⟩
  exact results_cell_row rfl _ _ (w.heap.size + 1) 135 _ (0, 0) _ rfl MS2.out Tryz.underlying135 rfl i254
end Go.Proofs.YtbfmbdohebdbaaaGreatDoor
set_option linter.unusedVariables false
set_option linter.unusedSimpArgs false
namespace Go.Proofs.YtbfmbdohebdbaaaGreatDoor
open Go Go.RowKit

theorem plc_new5 (w : World) : PlcAt (w.alloc (.cells #[.int .i64 0, .int .i64 4, .int .i64 5, .int .i64 6, .int .i64 7] 3)) w.heap.size [0, 4, 5, 6, 7] :=
  ⟨by simp, fun j hj => by
    have h : j = 0 ∨ j = 1 ∨ j = 2 ∨ j = 3 ∨ j = 4 := by simp at hj; omega
    rcases h with rfl | rfl | rfl | rfl | rfl
    · exact (cell_of_row _ w.heap.size 0 _ _ _ (heap_alloc_new w _)).trans rfl
    · exact (cell_of_row _ w.heap.size 1 _ _ _ (heap_alloc_new w _)).trans rfl
    · exact (cell_of_row _ w.heap.size 2 _ _ _ (heap_alloc_new w _)).trans rfl
    · exact (cell_of_row _ w.heap.size 3 _ _ _ (heap_alloc_new w _)).trans rfl
    · exact (cell_of_row _ w.heap.size 4 _ _ _ (heap_alloc_new w _)).trans rfl⟩
theorem plc_new3 (w : World) : PlcAt (w.alloc (.cells #[.int .i64 2, .int .i64 5, .int .i64 7] 3)) w.heap.size [2, 5, 7] :=
  ⟨by simp, fun j hj => by
    have h : j = 0 ∨ j = 1 ∨ j = 2 := by simp at hj; omega
    rcases h with rfl | rfl | rfl
    · exact (cell_of_row _ w.heap.size 0 _ _ _ (heap_alloc_new w _)).trans rfl
    · exact (cell_of_row _ w.heap.size 1 _ _ _ (heap_alloc_new w _)).trans rfl
    · exact (cell_of_row _ w.heap.size 2 _ _ _ (heap_alloc_new w _)).trans rfl⟩
theorem turns5 (s : Nat → UInt8) (g : Nat) (w : World) (hg : PlcAt w g [0, 4, 5, 6, 7]) :
    Calls Tryz.prog 136 #[.agg (pc s), .slice (some ⟨g, 0, none⟩) 5 5] w fun e w' => e = .returned (.agg (pc (fun i => turns (s i) [0, 4, 5, 6, 7] 5))) ∧ Below w.heap.size w w' :=
  turnsP s [0, 4, 5, 6, 7] (by decide) 5 rfl (by omega) g w hg
theorem turns3 (s : Nat → UInt8) (g : Nat) (w : World) (hg : PlcAt w g [2, 5, 7]) :
    Calls Tryz.prog 136 #[.agg (pc s), .slice (some ⟨g, 0, none⟩) 3 3] w fun e w' => e = .returned (.agg (pc (fun i => turns (s i) [2, 5, 7] 3))) ∧ Below w.heap.size w w' :=
  turnsP s [2, 5, 7] (by decide) 3 rfl (by omega) g w hg
theorem same99 (w : World) : Calls Tryz.prog 138 #[.int .u8 99] w fun e w' => e = .returned (.agg (pc (fun _ => 99))) ∧ Below w.heap.size w w' := sameP 99 w
set_option maxRecDepth 100000 in
set_option maxHeartbeats 3200000 in
theorem affineP (s : Nat → UInt8) (w : World) :
    Calls Tryz.prog 93 #[.agg (pc s)] w fun e w' => e = .returned (.agg (pc (fun i => aff (s i)))) ∧ Below w.heap.size w w' := by
  obtain ⟨u, hu⟩ : ∃ f : Nat → UInt8, f = fun i => turns (s i) [0, 4, 5, 6, 7] 5 := ⟨_, rfl⟩
  obtain ⟨r, hr⟩ : ∃ f : Nat → UInt8, f = fun i => u i ^^^ 99 := ⟨_, rfl⟩
  have hlast : (fun i => aff (s i)) = r := by rw [hr, hu]; funext i; exact (turns_aff (s i)).symm
  have C1 := fun g W hg => Lib.hid (turns5 s g W hg)
  have C2 := fun W => Lib.hid (same99 W)
  have C3 := fun W => Lib.hid (xorP u (fun _ => 99) W)
  rw [hlast]
  rw [← hu] at C1
  rw [← hr] at C3
  clear hu hr hlast
  have i1 := planes_info s
  have hsi := planes_info r
  have hone := pc_one r
  have hz : zeroQ.size = (pc r).size := by rw [pc_size]; rfl
  generalize pc s = P1 at *
  generalize pc u = P2 at *
  generalize pc (fun _ => 99) = P3 at *
  generalize pc r = R at *
  obtain ⟨W0, hW⟩ : ∃ W0, (w.alloc (.cells P1 135)).alloc (.cells zeroQ 135) = W0 := ⟨_, rfl⟩
  obtain ⟨a1, az, hb0⟩ := newQ2 w _ _ _ _ hW
  have hsz : W0.heap.size = w.heap.size + 1 + 1 := by rw [← hW, alQ_sz, alQ_sz]
  have pn := plc_new5 W0
  rw [hsz] at pn
  have PN := Lib.hid pn
  have HW := Lib.hid hW
  have A1 := Lib.hid a1
  have AZ := Lib.hid (az.alloc (.cells #[.int .i64 0, .int .i64 4, .int .i64 5, .int .i64 6, .int .i64 7] 3))
  have B0 := Lib.hid (hb0.trans ((alQ_up W0 (.cells #[.int .i64 0, .int .i64 4, .int .i64 5, .int .i64 6, .int .i64 7] 3)).mono hb0.size))
  clear hW a1 az hb0 hsz pn
  unfold zeroQ at HW
  go_enter Tryz.func93, Tryz.ntmps93
  go_wp2_with (refine wpList_load_row rfl 135 _ rfl w.heap.size rfl 135 P1 (0, 0) _ (by rw [HW.out]; exact A1.out) Tryz.underlying135 rfl i1 ?_)
  rw [HW.out]
  refine (C1 _ _ PN.out).out.mono ?_; rintro e w1 ⟨rfl, hb1⟩
  have AZ1 := Lib.hid (AZ.out.up hb1)
  have B1 := Lib.hid (B0.out.trans (hb1.mono B0.out.size))
  clear hb1 AZ B0 PN A1 HW
  go_wp2_with fail
  refine (C2 _).out.mono ?_; rintro e w2 ⟨rfl, hb2⟩
  have AZ2 := Lib.hid (AZ1.out.up hb2)
  have B2 := Lib.hid (B1.out.trans (hb2.mono B1.out.size))
  clear hb2 AZ1 B1
  go_wp2_with fail
  refine (C3 _).out.mono ?_; rintro e w3 ⟨rfl, hb3⟩
  have AZ3 := Lib.hid (AZ2.out.up hb3)
  have B3 := Lib.hid (B2.out.trans (hb3.mono B2.out.size))
  have HSR := Lib.hid (AZ3.out.row R)
  have HB := Lib.hid (below_setRow B3.out (show w.heap.size ≤ w.heap.size + 1 by omega) R)
  clear hb3 AZ2 B2
  go_wp2_with (refine wpList_store_row rfl 135 _ _ rfl (w.heap.size + 1) R rfl rfl 135 _ (by have h := AZ3.out; exact h) hsi hz hone ?_)
  refine bodyPost_ret (v := .agg R) ?_ rfl ⟨rfl, HB.out⟩
  exact results_cell_row rfl _ _ (w.heap.size + 1) 135 R (0, 0) _ rfl (by have h := HSR.out; exact h) Tryz.underlying135 rfl hsi
/-- what stays while the calls of a function of planes are made: its argument, its answer's place. -/
def HoldP (w : World) (P1 : Array Value) (V : World) : Prop := RQ V w.heap.size 135 P1 ∧ (∃ Z : Array Value, Z.size = 8 ∧ RQ V (w.heap.size + 1) 135 Z) ∧ Below w.heap.size w V
theorem HoldP.next {w V V' : World} {P1 : Array Value} (h : HoldP w P1 V) (hb : Below V.heap.size V V') : HoldP w P1 V' :=
  ⟨h.1.up hb, h.2.1.elim (fun Z hZ => ⟨Z, hZ.1, hZ.2.up hb⟩), h.2.2.trans (hb.mono h.2.2.size)⟩
set_option maxRecDepth 100000 in
set_option maxHeartbeats 6400000 in
theorem unaffineP (s : Nat → UInt8) (w : World) :
    Calls Tryz.prog 106 #[.agg (pc s)] w fun e w' => e = .returned (.agg (pc (fun i => unaff (s i)))) ∧ Below w.heap.size w w' := by
  obtain ⟨u, hu⟩ : ∃ f : Nat → UInt8, f = fun i => s i ^^^ 99 := ⟨_, rfl⟩
  obtain ⟨r, hr⟩ : ∃ f : Nat → UInt8, f = fun i => turns (u i) [2, 5, 7] 3 := ⟨_, rfl⟩
  have hlast : (fun i => unaff (s i)) = r := by rw [hr, hu]; funext i; exact (turns_unaff (s i)).symm
  have C1 := fun W => Lib.hid (same99 W)
  have C2 := fun W => Lib.hid (xorP s (fun _ => 99) W)
  have C3 := fun g W hg => Lib.hid (turns3 u g W hg)
  rw [hlast]
  rw [← hu] at C2
  rw [← hr] at C3
  clear hu hr hlast
  have i1 := planes_info s
  have hsi := planes_info r
  have hone := pc_one r
  have hz : zeroQ.size = (pc r).size := by rw [pc_size]; rfl
  generalize pc s = P1 at *
  generalize pc u = P2 at *
  generalize pc (fun _ => 99) = P3 at *
  generalize pc r = R at *
  obtain ⟨W0, hW⟩ : ∃ W0, (w.alloc (.cells P1 135)).alloc (.cells zeroQ 135) = W0 := ⟨_, rfl⟩
  obtain ⟨a1, az, hb0⟩ := newQ2 w _ _ _ _ hW
  have hS0 : HoldP w P1 W0.drew := ⟨a1, ⟨zeroQ, rfl, az⟩, hb0.drew⟩
  have HW := Lib.hid hW
  clear hW a1 az hb0
  unfold zeroQ at HW
  go_enter Tryz.func106, Tryz.ntmps106
  go_wp2
  rw [HW.out]
  refine wp_region_held_drew (S := HoldP w P1) (by kernel_rfl) hS0 (fun hS1 => ?_)
  refine wpAnyH_take (i := 0) (v := .agg P1) rfl (by kernel_rfl) (by kernel_rfl) (by kernel_rfl) (fun _ _ _ h => h) (Or.inl ⟨by kernel_rfl, fun V hV => exec_load_row 135 _ rfl w.heap.size rfl 135 P1 _ hV.1 Tryz.underlying135 rfl i1⟩) (by assumption) ?_
  try simp only [lay]
  refine wpAnyH_ready (rs := [1, 3]) (by kernel_rfl) (by simp) ?_
  refine AllReadyH.cons rfl (fun K hK => ?_) (AllReadyH.cons rfl (fun K hK => ?_) AllReadyH.nil)
  · go_simp
    refine (C1 _).out.mono ?_; rintro e x1 ⟨rfl, hb⟩
    have hS2 := hS1.next hb
    clear hb
    refine hK.out _ _ hS2 (fun hS2 => ?_)
    clear hK K
    try simp only [lay]
    refine wpAnyH_ready (rs := [2, 3]) (by kernel_rfl) (by simp) ?_
    refine AllReadyH.cons rfl (fun K hK => ?_) (AllReadyH.cons rfl (fun K hK => ?_) AllReadyH.nil)
    · go_simp
      refine (C2 _).out.mono ?_; rintro e x2 ⟨rfl, hb⟩
      have hS3 := hS2.next hb
      clear hb
      refine hK.out _ _ hS3 (fun hS3 => ?_)
      clear hK K
      try simp only [lay]
      refine wpAnyH_ready (rs := [3]) (by kernel_rfl) (by simp) ?_
      refine AllReadyH.cons rfl (fun K hK => ?_) AllReadyH.nil
      go_simp
      have hS4 := hS3.next (alQ_up x2 (.cells #[.int .i64 2, .int .i64 5, .int .i64 7] 3))
      have PL := Lib.hid (plc_new3 x2)
      refine hK.out _ _ hS4 (fun hS4 => ?_)
      clear hK K
      try simp only [lay]
      refine wpAnyH_ready (rs := [4]) (by kernel_rfl) (by simp) ?_
      refine AllReadyH.cons rfl (fun K hK => ?_) AllReadyH.nil
      go_simp
      refine (C3 _ _ PL.out).out.mono ?_; rintro e x5 ⟨rfl, hb⟩
      have hS5 := hS4.next hb
      clear hb
      refine hK.out _ _ hS5 (fun hS5 => ?_)
      clear hK K
      try simp only [lay]
      obtain ⟨Z, hZ, hCZ⟩ := hS5.2.1
      have hzz : Z.size = R.size := by rw [hZ, ← hz]; rfl
      have MS := hCZ.row R
      have MB := below_setRow hS5.2.2 (show w.heap.size ≤ w.heap.size + 1 by omega) R
      have M1 : RQ (x5.setRow (w.heap.size + 1) R) w.heap.size 135 P1 := (setRow_other x5 (w.heap.size + 1) w.heap.size _ (by omega)).trans hS5.1
      have hR8 : R.size = 8 := by rw [← hz]; rfl
      refine wpAnyH_ready (rs := [5]) (by kernel_rfl) (by simp) ?_
      refine AllReadyH.cons rfl (fun K hK => ?_) AllReadyH.nil
      refine wp_store_row 135 _ _ rfl (w.heap.size + 1) R rfl rfl 135 Z hCZ hsi hzz hone ?_
      refine hK.out _ _ ⟨M1, ⟨_, hR8, MS⟩, MB⟩ (fun _ => ?_)
      clear hK K
      try simp only [lay]
      refine wpAnyH_done (by kernel_rfl) ?_ _
      have MS2 := Lib.hid MS
      have MB2 := Lib.hid MB
      clear MS MB M1 hS0 hS1 hS5 hCZ hzz
      go_wp2
      refine bodyPost_ret (v := .agg R) ?_ rfl ⟨rfl, MB2.out⟩
      exact results_cell_row rfl _ _ (w.heap.size + 1) 135 _ (0, 0) _ rfl MS2.out Tryz.underlying135 rfl hsi
    · go_simp
      have hS3 := hS2.next (alQ_up x1 (.cells #[.int .i64 2, .int .i64 5, .int .i64 7] 3))
      have PL := Lib.hid (plc_new3 x1)
      refine hK.out _ _ hS3 (fun hS3 => ?_)
      clear hK K
      try simp only [lay]
      refine wpAnyH_ready (rs := [2]) (by kernel_rfl) (by simp) ?_
      refine AllReadyH.cons rfl (fun K hK => ?_) AllReadyH.nil
      go_simp
      refine (C2 _).out.mono ?_; rintro e x2 ⟨rfl, hb⟩
      have hS4 := hS3.next hb
      have PM := Lib.hid (PL.out.up hb)
      clear hb
      refine hK.out _ _ hS4 (fun hS4 => ?_)
      clear hK K
      try simp only [lay]
      refine wpAnyH_ready (rs := [4]) (by kernel_rfl) (by simp) ?_
      refine AllReadyH.cons rfl (fun K hK => ?_) AllReadyH.nil
      go_simp
      refine (C3 _ _ PM.out).out.mono ?_; rintro e x5 ⟨rfl, hb⟩
      have hS5 := hS4.next hb
      clear hb
      refine hK.out _ _ hS5 (fun hS5 => ?_)
      clear hK K
      try simp only [lay]
      obtain ⟨Z, hZ, hCZ⟩ := hS5.2.1
      have hzz : Z.size = R.size := by rw [hZ, ← hz]; rfl
      have MS := hCZ.row R
      have MB := below_setRow hS5.2.2 (show w.heap.size ≤ w.heap.size + 1 by omega) R
      have M1 : RQ (x5.setRow (w.heap.size + 1) R) w.heap.size 135 P1 := (setRow_other x5 (w.heap.size + 1) w.heap.size _ (by omega)).trans hS5.1
      have hR8 : R.size = 8 := by rw [← hz]; rfl
      refine wpAnyH_ready (rs := [5]) (by kernel_rfl) (by simp) ?_
      refine AllReadyH.cons rfl (fun K hK => ?_) AllReadyH.nil
      refine wp_store_row 135 _ _ rfl (w.heap.size + 1) R rfl rfl 135 Z hCZ hsi hzz hone ?_
      refine hK.out _ _ ⟨M1, ⟨_, hR8, MS⟩, MB⟩ (fun _ => ?_)
      clear hK K
      try simp only [lay]
      refine wpAnyH_done (by kernel_rfl) ?_ _
      have MS2 := Lib.hid MS
      have MB2 := Lib.hid MB
      clear MS MB M1 hS0 hS1 hS5 hCZ hzz
      go_wp2
      refine bodyPost_ret (v := .agg R) ?_ rfl ⟨rfl, MB2.out⟩
      exact results_cell_row rfl _ _ (w.heap.size + 1) 135 _ (0, 0) _ rfl MS2.out Tryz.underlying135 rfl hsi
  · go_simp
    have hS2 := hS1.next (alQ_up W0.drew (.cells #[.int .i64 2, .int .i64 5, .int .i64 7] 3))
    have PL := Lib.hid (plc_new3 W0.drew)
    refine hK.out _ _ hS2 (fun hS2 => ?_)
    clear hK K
    try simp only [lay]
    refine wpAnyH_ready (rs := [1]) (by kernel_rfl) (by simp) ?_
    refine AllReadyH.cons rfl (fun K hK => ?_) AllReadyH.nil
    go_simp
    refine (C1 _).out.mono ?_; rintro e x1 ⟨rfl, hb⟩
    have hS3 := hS2.next hb
    have PM := Lib.hid (PL.out.up hb)
    clear hb
    refine hK.out _ _ hS3 (fun hS3 => ?_)
    clear hK K
    try simp only [lay]
    refine wpAnyH_ready (rs := [2]) (by kernel_rfl) (by simp) ?_
    refine AllReadyH.cons rfl (fun K hK => ?_) AllReadyH.nil
    go_simp
    refine (C2 _).out.mono ?_; rintro e x2 ⟨rfl, hb⟩
    have hS4 := hS3.next hb
    have PN := Lib.hid (PM.out.up hb)
    clear hb
    refine hK.out _ _ hS4 (fun hS4 => ?_)
    clear hK K
    try simp only [lay]
    refine wpAnyH_ready (rs := [4]) (by kernel_rfl) (by simp) ?_
    refine AllReadyH.cons rfl (fun K hK => ?_) AllReadyH.nil
    go_simp
    refine (C3 _ _ PN.out).out.mono ?_; rintro e x5 ⟨rfl, hb⟩
    have hS5 := hS4.next hb
    clear hb
    refine hK.out _ _ hS5 (fun hS5 => ?_)
    clear hK K
    try simp only [lay]
    obtain ⟨Z, hZ, hCZ⟩ := hS5.2.1
    have hzz : Z.size = R.size := by rw [hZ, ← hz]; rfl
    have MS := hCZ.row R
    have MB := below_setRow hS5.2.2 (show w.heap.size ≤ w.heap.size + 1 by omega) R
    have M1 : RQ (x5.setRow (w.heap.size + 1) R) w.heap.size 135 P1 := (setRow_other x5 (w.heap.size + 1) w.heap.size _ (by omega)).trans hS5.1
    have hR8 : R.size = 8 := by rw [← hz]; rfl
    refine wpAnyH_ready (rs := [5]) (by kernel_rfl) (by simp) ?_
    refine AllReadyH.cons rfl (fun K hK => ?_) AllReadyH.nil
    refine wp_store_row 135 _ _ rfl (w.heap.size + 1) R rfl rfl 135 Z hCZ hsi hzz hone ?_
    refine hK.out _ _ ⟨M1, ⟨_, hR8, MS⟩, MB⟩ (fun _ => ?_)
    clear hK K
    try simp only [lay]
    refine wpAnyH_done (by kernel_rfl) ?_ _
    have MS2 := Lib.hid MS
    have MB2 := Lib.hid MB
    clear MS MB M1 hS0 hS1 hS5 hCZ hzz
    go_wp2
    refine bodyPost_ret (v := .agg R) ?_ rfl ⟨rfl, MB2.out⟩
    exact results_cell_row rfl _ _ (w.heap.size + 1) 135 _ (0, 0) _ rfl MS2.out Tryz.underlying135 rfl hsi
end Go.Proofs.YtbfmbdohebdbaaaGreatDoor
set_option linter.unusedVariables false
set_option linter.unusedSimpArgs false
namespace Go.Proofs.YtbfmbdohebdbaaaGreatDoor
open Go Go.RowKit

set_option maxRecDepth 100000 in
set_option maxHeartbeats 1600000 in
theorem PlaneXor_impl (s t : Nat → UInt8) (w : World) :
    Calls Tryz.prog 233 #[.agg (pc s), .agg (pc t)] w fun e w' => e = .returned (.agg (pc (fun i => s i ^^^ t i))) ∧ Below w.heap.size w w' := by
  have C := fun W => Lib.hid (xorP s t W)
  have i1 := planes_info s
  have i2 := planes_info t
  have hsi := planes_info (fun i => s i ^^^ t i)
  have hone := pc_one (fun i => s i ^^^ t i)
  have hz : zeroQ.size = (pc (fun i => s i ^^^ t i)).size := by rw [pc_size]; rfl
  generalize pc (fun i => s i ^^^ t i) = R at *
  generalize pc s = P1 at *
  generalize pc t = P2 at *
  obtain ⟨W0, hW⟩ : ∃ W0, ((w.alloc (.cells P1 135)).alloc (.cells P2 135)).alloc (.cells zeroQ 135) = W0 := ⟨_, rfl⟩
  obtain ⟨a1, a2, az, hb0⟩ := newQ3 w _ _ _ _ _ _ hW
  have HW := Lib.hid hW
  have A1 := Lib.hid a1
  have A2 := Lib.hid a2
  have AZ := Lib.hid az
  have B0 := Lib.hid hb0
  clear hW a1 a2 az hb0
  unfold zeroQ at HW
  go_enter Tryz.func233, Tryz.ntmps233
  go_wp2_with (first
    | (refine wpList_load_row rfl 135 _ rfl w.heap.size rfl 135 P1 (0, 0) _ (by rw [HW.out]; exact A1.out) Tryz.underlying135 rfl i1 ?_)
    | (refine wpList_load_row rfl 135 _ rfl (w.heap.size + 1) rfl 135 P2 (0, 0) _ (by rw [HW.out]; exact A2.out) Tryz.underlying135 rfl i2 ?_))
  rw [HW.out]
  refine (C _).out.mono ?_; rintro e w1 ⟨rfl, hb1⟩
  have AZ1 := Lib.hid (AZ.out.up hb1)
  have B1 := Lib.hid (B0.out.trans (hb1.mono B0.out.size))
  have HSR := Lib.hid (AZ1.out.row R)
  have HB := Lib.hid (below_setRow B1.out (show w.heap.size ≤ w.heap.size + 1 + 1 by omega) R)
  clear hb1 AZ B0 A1 A2 HW C
  go_wp2_with (refine wpList_store_row rfl 135 _ _ rfl (w.heap.size + 1 + 1) R rfl rfl 135 _ (by have h := AZ1.out; exact h) hsi hz hone ?_)
  refine bodyPost_ret (v := .agg R) ?_ rfl ⟨rfl, HB.out⟩
  exact results_cell_row rfl _ _ (w.heap.size + 1 + 1) 135 R (0, 0) _ rfl (by have h := HSR.out; exact h) Tryz.underlying135 rfl hsi
set_option maxRecDepth 100000 in
set_option maxHeartbeats 1600000 in
theorem PlaneSub_impl (s : Nat → UInt8) (w : World) :
    Calls Tryz.prog 60 #[.agg (pc s)] w fun e w' => e = .returned (.agg (pc (fun i => sbox (s i)))) ∧ Below w.heap.size w w' := by
  have C1 := fun W => Lib.hid (inverseP s W)
  have C2 := fun W => Lib.hid (affineP (fun i => inv (s i)) W)
  have he : ∀ x : Nat, True := fun _ => trivial
  have i1 := planes_info s
  have hsi := planes_info (fun i => sbox (s i))
  have hone := pc_one (fun i => sbox (s i))
  have hz : zeroQ.size = (pc (fun i => sbox (s i))).size := by rw [pc_size]; rfl
  have e1 : (fun i => aff (inv (s i))) = fun i => sbox (s i) := rfl
  rw [e1] at C2
  obtain ⟨R, hR⟩ : ∃ R, pc (fun i => sbox (s i)) = R := ⟨_, rfl⟩
  rw [hR] at C2 hsi hone hz ⊢
  clear hR he
  generalize pc (fun i => inv (s i)) = P2 at *
  generalize pc s = P1 at *
  obtain ⟨W0, hW⟩ : ∃ W0, (w.alloc (.cells P1 135)).alloc (.cells zeroQ 135) = W0 := ⟨_, rfl⟩
  obtain ⟨a1, az, hb0⟩ := newQ2 w _ _ _ _ hW
  have HW := Lib.hid hW
  have A1 := Lib.hid a1
  have AZ := Lib.hid az
  have B0 := Lib.hid hb0
  clear hW a1 az hb0
  unfold zeroQ at HW
  go_enter Tryz.func60, Tryz.ntmps60
  go_wp2_with (refine wpList_load_row rfl 135 _ rfl w.heap.size rfl 135 P1 (0, 0) _ (by rw [HW.out]; exact A1.out) Tryz.underlying135 rfl i1 ?_)
  rw [HW.out]
  refine (C1 _).out.mono ?_; rintro e w1 ⟨rfl, hb1⟩
  have AZ1 := Lib.hid (AZ.out.up hb1)
  have B1 := Lib.hid (B0.out.trans (hb1.mono B0.out.size))
  clear hb1 AZ B0 A1 HW C1
  go_wp2_with fail
  refine (C2 _).out.mono ?_; rintro e w2 ⟨rfl, hb2⟩
  have AZ2 := Lib.hid (AZ1.out.up hb2)
  have B2 := Lib.hid (B1.out.trans (hb2.mono B1.out.size))
  have HSR := Lib.hid (AZ2.out.row R)
  have HB := Lib.hid (below_setRow B2.out (show w.heap.size ≤ w.heap.size + 1 by omega) R)
  clear hb2 AZ1 B1 C2
  go_wp2_with (refine wpList_store_row rfl 135 _ _ rfl (w.heap.size + 1) R rfl rfl 135 _ (by have h := AZ2.out; exact h) hsi hz hone ?_)
  refine bodyPost_ret (v := .agg R) ?_ rfl ⟨rfl, HB.out⟩
  exact results_cell_row rfl _ _ (w.heap.size + 1) 135 R (0, 0) _ rfl (by have h := HSR.out; exact h) Tryz.underlying135 rfl hsi
set_option maxRecDepth 100000 in
set_option maxHeartbeats 1600000 in
theorem PlaneUnsub_impl (s : Nat → UInt8) (w : World) :
    Calls Tryz.prog 77 #[.agg (pc s)] w fun e w' => e = .returned (.agg (pc (fun i => ubox (s i)))) ∧ Below w.heap.size w w' := by
  have C1 := fun W => Lib.hid (unaffineP s W)
  have C2 := fun W => Lib.hid (inverseP (fun i => unaff (s i)) W)
  have he : ∀ x : Nat, True := fun _ => trivial
  have i1 := planes_info s
  have hsi := planes_info (fun i => ubox (s i))
  have hone := pc_one (fun i => ubox (s i))
  have hz : zeroQ.size = (pc (fun i => ubox (s i))).size := by rw [pc_size]; rfl
  have e1 : (fun i => inv (unaff (s i))) = fun i => ubox (s i) := rfl
  rw [e1] at C2
  obtain ⟨R, hR⟩ : ∃ R, pc (fun i => ubox (s i)) = R := ⟨_, rfl⟩
  rw [hR] at C2 hsi hone hz ⊢
  clear hR he
  generalize pc (fun i => unaff (s i)) = P2 at *
  generalize pc s = P1 at *
  obtain ⟨W0, hW⟩ : ∃ W0, (w.alloc (.cells P1 135)).alloc (.cells zeroQ 135) = W0 := ⟨_, rfl⟩
  obtain ⟨a1, az, hb0⟩ := newQ2 w _ _ _ _ hW
  have HW := Lib.hid hW
  have A1 := Lib.hid a1
  have AZ := Lib.hid az
  have B0 := Lib.hid hb0
  clear hW a1 az hb0
  unfold zeroQ at HW
  go_enter Tryz.func77, Tryz.ntmps77
  go_wp2_with (refine wpList_load_row rfl 135 _ rfl w.heap.size rfl 135 P1 (0, 0) _ (by rw [HW.out]; exact A1.out) Tryz.underlying135 rfl i1 ?_)
  rw [HW.out]
  refine (C1 _).out.mono ?_; rintro e w1 ⟨rfl, hb1⟩
  have AZ1 := Lib.hid (AZ.out.up hb1)
  have B1 := Lib.hid (B0.out.trans (hb1.mono B0.out.size))
  clear hb1 AZ B0 A1 HW C1
  go_wp2_with fail
  refine (C2 _).out.mono ?_; rintro e w2 ⟨rfl, hb2⟩
  have AZ2 := Lib.hid (AZ1.out.up hb2)
  have B2 := Lib.hid (B1.out.trans (hb2.mono B1.out.size))
  have HSR := Lib.hid (AZ2.out.row R)
  have HB := Lib.hid (below_setRow B2.out (show w.heap.size ≤ w.heap.size + 1 by omega) R)
  clear hb2 AZ1 B1 C2
  go_wp2_with (refine wpList_store_row rfl 135 _ _ rfl (w.heap.size + 1) R rfl rfl 135 _ (by have h := AZ2.out; exact h) hsi hz hone ?_)
  refine bodyPost_ret (v := .agg R) ?_ rfl ⟨rfl, HB.out⟩
  exact results_cell_row rfl _ _ (w.heap.size + 1) 135 R (0, 0) _ rfl (by have h := HSR.out; exact h) Tryz.underlying135 rfl hsi
end Go.Proofs.YtbfmbdohebdbaaaGreatDoor
