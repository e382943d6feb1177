/-
  What impl's planes answer: the same byte at all places, sums of turns.
-/
import Derived.Test.YtbbjcgnoialidaaDoorPlI
import Derived.Deep.QuietTactic
set_option linter.unusedVariables false
set_option linter.unusedSimpArgs false
namespace Go.Proofs.YtbbjcgnoialidaaDoor
open Go Go.RowKit

set_option maxRecDepth 100000 in
set_option maxHeartbeats 1600000 in
theorem sameP (b : UInt8) (w : World) :
    Calls Tryd.prog 56 #[.int .u8 b.toNat] w fun e w' => e = .returned (.agg (pc (fun _ => b))) ∧ Below w.heap.size w w' := by
  obtain ⟨r, hr⟩ : ∃ r : Nat → UInt8, (fun _ => b) = r := ⟨_, rfl⟩
  have HX : Hid (∀ k, IntKind.u64.wrap (-((b.toNat : Int) / 2 ^ k % 2)) = (plW r k : Int)) := Lib.hid (fun k => by
    have e : (b.toNat : Int) / 2 ^ k % 2 = ((b.toNat / 2 ^ k % 2 : Nat) : Int) := by rw [Int.natCast_emod, Int.natCast_ediv, Int.natCast_pow]; rfl
    rw [← hr, plW_neg, IntKind.wrap_u64, e]
    have := Nat.mod_lt (b.toNat / 2 ^ k) (show 2 > 0 by omega)
    generalize b.toNat / 2 ^ k % 2 = m at *
    omega)
  rw [hr]
  clear hr
  obtain ⟨W, hW⟩ : ∃ W, (w.alloc (.cells zeroQ 26)).alloc (.cells zeroQ 26) = W := ⟨_, rfl⟩
  obtain ⟨h1, h3, hb⟩ := newQ2 w _ _ _ _ hW
  have h3 : RQ W (w.heap.size + 1) 26 (pcTo r (fun _ => 0) 0) := by rw [pcTo_0, ← zeroQ_pc]; exact h3
  have HW := Lib.hid hW
  clear hW
  have hbl : (b.toNat : Int) < 256 := by have := b.toNat_lt; omega
  unfold zeroQ at HW
  go_enter Tryd.func56, Tryd.ntmps56
  go_wp2
  rw [HW.out]
  go_loopw [5] (fun v wr => ∃ k : Nat, k ≤ 8 ∧ v = .int .i64 k ∧ RQ wr w.heap.size 26 zeroQ ∧ RQ wr (w.heap.size + 1) 26 (pcTo r (fun _ => 0) k) ∧ Below w.heap.size w wr) (fun v _ => 8 - (intOf v).toNat)
  case atStart => exact ⟨0, by omega, rfl, h1, h3, hb⟩
  case round =>
    obtain ⟨k, hk, rfl, g1, g3, hbel⟩ := hrel
    by_cases hlt : k < 8
    · have hk1 : (k : Int) < 8 := by omega
      have hk0 : (0 : Int) ≤ (k : Int) := by omega
      have hc1 := g3.cell (pcTo_hi r _ k k hlt (Nat.le_refl _))
      have hfz := g3.fz k
      have hbit := bit_of b k
      have hx := HX.out k
      have N1 := fun v hv => Lib.hid (g3.setP (v := v) hv)
      have N3 := fun v => Lib.hid (g1.far (b := w.heap.size + 1) k v (by omega))
      have NB := fun v => Lib.hid (hbel.setCell (p := ⟨w.heap.size + 1, k, none⟩) (by simp) v)
      clear g1 g3 hbel h1 h3 hb
      go_wp2
      go_roundw
      case rel => exact ⟨k + 1, by omega, by go_num, (N3 _).out, (N1 _ (by first | rfl | rw [HX.out])).out, (NB _).out⟩
      case measure => simp [intOf]; omega
    · obtain rfl : k = 8 := by omega
      rw [pcTo_8] at g3
      have hone := pc_one r
      have hsi := planes_info r
      have hz : zeroQ.size = (pc r).size := by rw [pc_size]; rfl
      have hsr := g1.row (pc r)
      have hbs : Hid (Below w.heap.size w (wr.setRow (w.heap.size) (pc r))) := Lib.hid (below_setRow hbel (by omega) _)
      generalize hR : pc r = R at *
      generalize zeroQ = Z at *
      have HR := Lib.hid hR
      clear hR
      have G1 := Lib.hid g3
      have G3 := Lib.hid g1
      have HSR := Lib.hid hsr
      clear g1 g3 hsr hbel h1 h3 hb HX
      unfold RQ at G1 G3 HSR
      go_wp2_with (first
        | (refine wpList_load_row rfl 26 _ rfl (w.heap.size + 1) rfl 26 R (0, 0) _ G1.out Tryd.underlying26 rfl hsi ?_)
        | (refine wpList_store_row rfl 26 _ _ rfl (w.heap.size) R rfl rfl 26 Z G3.out hsi hz hone ?_))
      refine bodyPost_ret (v := .agg R) ?_ rfl ⟨by rw [HR.out], hbs.out⟩
      exact results_cell_row rfl _ _ (w.heap.size) 26 R (0, 0) _ rfl HSR.out Tryd.underlying26 rfl hsi
/-- places in memory. -/
def PlcAt (w : World) (g : Nat) (l : List Nat) : Prop := g < w.heap.size ∧ ∀ j, j < l.length → w.cell? ⟨g, j, none⟩ = some (.int .i64 ((l.getD j 0 : Nat) : Int))
theorem PlcAt.up {w w' : World} {g : Nat} {l : List Nat} (h : PlcAt w g l) (hb : Below w.heap.size w w') : PlcAt w' g l :=
  ⟨Nat.lt_of_lt_of_le h.1 hb.size, fun j hj => (hb.cell (p := ⟨g, j, none⟩) h.1).trans (h.2 j hj)⟩
theorem tuP_x (s : Nat → UInt8) (l : List Nat) (hl : ∀ x ∈ l, x < 8) (k j p : Nat) (hk : k < 8) (hp : (k + l.getD j 0) % 8 = p) :
    bits .xor .u64 (plW (fun i => turns (s i) (l.map (fun (x : Nat) => (x : Int))) j) k : Int) (plW s p : Int) = (plW (fun i => turns (s i) (l.map (fun (x : Nat) => (x : Int))) (j + 1)) k : Int) := by
  subst hp
  rw [u64_xor_nat _ _ (plW_lt' _ _) (plW_lt' _ _), ← plW_turns s l hl k j hk, ← plW_turns s l hl k (j + 1) hk]
  rfl
theorem pcTo_at (s z : Nat → UInt8) (k i : Nat) (hi : i < 8) : (pcTo s z k)[i]? = some (.int .u64 ((if i < k then plW s i else plW z i : Nat) : Int)) := by
  unfold pcTo arToQ
  rw [List.getElem?_toArray, List.getElem?_map, rowTo_at _ _ _ _ _ hi]; rfl
/-- planes of which plane k is told by x. -/
def pcAt (s z : Nat → UInt8) (k : Nat) (x : Nat) : Array Value := (pcTo s z k).setIfInBounds k (.int .u64 (x : Int))
theorem pcAt_size (s z : Nat → UInt8) (k x : Nat) : (pcAt s z k x).size = 8 := by unfold pcAt; rw [Array.size_setIfInBounds, pcTo_size]
theorem pcAt_k (s z : Nat → UInt8) (k x : Nat) (hk : k < 8) : (pcAt s z k x)[k]? = some (.int .u64 (x : Int)) := by
  unfold pcAt; rw [Array.getElem?_setIfInBounds_self_of_lt (by rw [pcTo_size]; exact hk)]
theorem pcAt_set (s z : Nat → UInt8) (k x y : Nat) : (pcAt s z k x).setIfInBounds k (.int .u64 (y : Int)) = pcAt s z k y := by
  unfold pcAt; rw [Array.setIfInBounds_setIfInBounds]
theorem pcAt_z (s z : Nat → UInt8) (k : Nat) (hk : k < 8) : pcAt s z k (plW z k) = pcTo s z k := by
  unfold pcAt
  apply Array.ext_getElem?
  intro i
  rw [Array.getElem?_setIfInBounds]
  split
  · rename_i h; subst h
    rw [if_pos (by rw [pcTo_size]; exact hk), pcTo_hi s z k k hk (Nat.le_refl _)]
  · rfl
theorem pcAt_s (s z : Nat → UInt8) (k : Nat) : pcAt s z k (plW s k) = pcTo s z (k + 1) := arToQ_set _ _ _ _
theorem RQ.setA {w : World} {g k x y : Nat} {t : TypeId} {s z : Nat → UInt8} (hr : RQ w g t (pcAt s z k x)) {v : Value} (hv : v = .int .u64 (y : Int)) : RQ (w.setCell ⟨g, k, none⟩ v) g t (pcAt s z k y) := by
  subst hv
  have h2 := hr.set (k := k) (.int .u64 (y : Int))
  rwa [pcAt_set] at h2
set_option maxRecDepth 100000 in
set_option maxHeartbeats 3200000 in
theorem turnsP (s : Nat → UInt8) (l : List Nat) (hl : ∀ x ∈ l, x < 8) (n : Nat) (hn : l.length = n) (hn8 : n ≤ 8) (g : Nat) (w : World) (hg : PlcAt w g l) :
    Calls Tryd.prog 70 #[.agg (pc s), .slice (some ⟨g, 0, none⟩) n n] w fun e w' => e = .returned (.agg (pc (fun i => turns (s i) (l.map (fun (x : Nat) => (x : Int))) n))) ∧ Below w.heap.size w w' := by
  have HX0 := fun k j p hk hp => Lib.hid (tuP_x s l hl k j p hk hp)
  obtain ⟨tt, htt⟩ : ∃ tt : Nat → Nat → UInt8, (fun j i => turns (s i) (l.map (fun (x : Nat) => (x : Int))) j) = tt := ⟨_, rfl⟩
  have e0 : ∀ j, (fun i => turns (s i) (l.map (fun (x : Nat) => (x : Int))) j) = tt j := fun j => congrFun htt j
  have HT0 : Hid (∀ k, plW (tt 0) k = plW (fun _ => 0) k) := Lib.hid (fun k => by rw [← htt]; rfl)
  simp only [e0] at HX0 ⊢
  have HD : Hid (∀ j, j < n → l.getD j 0 < 8) := Lib.hid (fun j hj => by
    rw [List.getD_eq_getElem?_getD, List.getElem?_eq_getElem (by omega)]
    exact hl _ (List.getElem_mem _))
  clear htt e0 hl
  have HG := Lib.hid hg
  rw [← hn] at *
  obtain ⟨W, hW⟩ : ∃ W, ((w.alloc (.cells (pc s) 26)).alloc (.cells zeroQ 26)).alloc (.cells zeroQ 26) = W := ⟨_, rfl⟩
  obtain ⟨h1, h2, h3, hb⟩ := newQ3 w _ _ _ _ _ _ hW
  have h3 : RQ W (w.heap.size + 1 + 1) 26 (pcTo (tt l.length) (fun _ => 0) 0) := by rw [pcTo_0, ← zeroQ_pc]; exact h3
  have HW := Lib.hid hW
  clear hW hg
  unfold zeroQ at HW
  go_enter Tryd.func70, Tryd.ntmps70
  go_wp2
  rw [HW.out]
  go_loopw [9] (fun v wr => ∃ k : Nat, k ≤ 8 ∧ v = .int .i64 k ∧ RQ wr w.heap.size 26 (pc s) ∧ RQ wr (w.heap.size + 1) 26 zeroQ ∧ RQ wr (w.heap.size + 1 + 1) 26 (pcTo (tt l.length) (fun _ => 0) k) ∧ Below w.heap.size w wr) (fun v _ => 8 - (intOf v).toNat)
  case atStart => exact ⟨0, by omega, rfl, h1, h2, h3, hb⟩
  case round =>
    obtain ⟨k, hk, rfl, g1, g2, g3, hbel⟩ := hrel
    by_cases hlt : k < 8
    · have hk1 : (k : Int) < 8 := by omega
      have hk0 : (0 : Int) ≤ (k : Int) := by omega
      have g3 : RQ wr (w.heap.size + 1 + 1) 26 (pcAt (tt l.length) (fun _ => 0) k (plW (tt 0) k)) := by rw [HT0.out, pcAt_z _ _ _ hlt]; exact g3
      clear h1 h2 h3 hb HT0
      go_wp2
      obtain ⟨wk, rfl⟩ : ∃ x, x = wr := ⟨_, rfl⟩
      go_loopw [14] (fun v wr => ∃ j : Nat, j ≤ l.length ∧ v = .int .i64 j ∧ RQ wr w.heap.size 26 (pc s) ∧ RQ wr (w.heap.size + 1) 26 zeroQ ∧ RQ wr (w.heap.size + 1 + 1) 26 (pcAt (tt l.length) (fun _ => 0) k (plW (tt j) k)) ∧ Below w.heap.size w wr) (fun v _ => l.length - (intOf v).toNat)
      case atStart => exact ⟨0, by omega, rfl, g1, g2, g3, hbel⟩
      case round =>
        obtain ⟨j, hj, rfl, i1, i2, i3, ibel⟩ := hrel
        by_cases hjt : j < l.length
        · have hj1 : (j : Int) < (l.length : Int) := by omega
          have hj0 : (0 : Int) ≤ (j : Int) := by omega
          have hcp := (HG.out.up ibel).2 j hjt
          have hd8 := HD.out j hjt
          obtain ⟨d, hd⟩ : ∃ d, l.getD j 0 = d := ⟨_, rfl⟩
          obtain ⟨p, hp⟩ : ∃ p, (k + d) % 8 = p := ⟨_, rfl⟩
          have hp8 : p < 8 := by omega
          have hx := (HX0 k j p hlt (by rw [hd]; exact hp)).out
          rw [hd] at hcp hd8
          have q1 : IntKind.i64.wrap ((k : Int) + (d : Int)) = (k : Int) + (d : Int) := IntWalk.i64_in _ (by omega)
          have e1 : ((k : Int) + (d : Int)).tmod 8 = (p : Int) := by rw [Int.tmod_eq_emod_of_nonneg (by omega)]; omega
          have hp1 : (p : Int) < 8 := by omega
          have hp0 : (0 : Int) ≤ (p : Int) := by omega
          have hc1 := i1.cell (pc_at s p hp8)
          have hc3 := i3.cell (pcAt_k _ _ _ _ hlt)
          have hfz := i3.fz k
          have d1 : RQ wr.drew w.heap.size 26 (pc s) := i1
          have d2 : RQ wr.drew (w.heap.size + 1) 26 zeroQ := i2
          have d3 : RQ wr.drew (w.heap.size + 1 + 1) 26 (pcAt (tt l.length) (fun _ => 0) k (plW (tt j) k)) := i3
          have N1 := fun v => Lib.hid (d1.far (b := w.heap.size + 1 + 1) k v (by omega))
          have N2 := fun v => Lib.hid (d2.far (b := w.heap.size + 1 + 1) k v (by omega))
          have N3 := fun v (hv : v = .int .u64 (plW (tt (j + 1)) k : Int)) => Lib.hid (d3.setA (v := v) hv)
          have NB := fun v => Lib.hid (ibel.drew.setCell (p := ⟨w.heap.size + 1 + 1, k, none⟩) (by simp; omega) v)
          clear i1 i2 i3 ibel g1 g2 g3 hbel d1 d2 d3 hd hp HX0
          go_wp2
          go_still_tail 11, (by kernel_rfl)
          change wpList _ _ _ _ _ wr.drew
          go_wp2
          go_roundw
          case rel => exact ⟨j + 1, by omega, by go_num, (N1 _).out, (N2 _).out, (N3 _ (by first | rfl | rw [hx])).out, (NB _).out⟩
          case measure => simp [intOf]; omega
        · obtain rfl : l.length = j := by omega
          rw [pcAt_s] at i3
          clear g1 g2 g3 hbel
          go_wp2
          go_roundw
          case rel => exact ⟨k + 1, by omega, by go_num, i1, i2, i3, ibel⟩
          case measure => simp [intOf]; omega
    · obtain rfl : k = 8 := by omega
      rw [pcTo_8] at g3
      have hone := pc_one (tt l.length)
      have hsi := planes_info (tt l.length)
      have hz : zeroQ.size = (pc (tt l.length)).size := by rw [pc_size]; rfl
      have hsr := g2.row (pc (tt l.length))
      have hbs : Hid (Below w.heap.size w (wr.setRow (w.heap.size + 1) (pc (tt l.length)))) := Lib.hid (below_setRow hbel (by omega) _)
      generalize hR : pc (tt l.length) = R at *
      generalize zeroQ = Z at *
      have HR := Lib.hid hR
      clear hR
      have G1 := Lib.hid g3
      have G3 := Lib.hid g2
      have HSR := Lib.hid hsr
      clear g1 g2 g3 hsr hbel h1 h2 h3 hb HX0 HT0
      unfold RQ at G1 G3 HSR
      go_wp2_with (first
        | (refine wpList_load_row rfl 26 _ rfl (w.heap.size + 1 + 1) rfl 26 R (0, 0) _ G1.out Tryd.underlying26 rfl hsi ?_)
        | (refine wpList_store_row rfl 26 _ _ rfl (w.heap.size + 1) R rfl rfl 26 Z G3.out hsi hz hone ?_))
      refine bodyPost_ret (v := .agg R) ?_ rfl ⟨by rw [HR.out], hbs.out⟩
      exact results_cell_row rfl _ _ (w.heap.size + 1) 26 R (0, 0) _ rfl HSR.out Tryd.underlying26 rfl hsi
end Go.Proofs.YtbbjcgnoialidaaDoor
