/-
  What impl's blocks of planes answer: bytes that are turned in their runs.
-/
import Derived.Test.YtbbjcgnoialidaaDoorPlK
import Derived.Deep.RegionHeld3
set_option linter.unusedVariables false
set_option linter.unusedSimpArgs false
namespace Go.Proofs.YtbbjcgnoialidaaDoor
open Go Go.RowKit

set_option maxRecDepth 100000 in
theorem fst4 (w : World) : Calls Tryd.prog 53 #[.int .i64 4] w fun e w' => e = .returned (.int .u64 1229782938247303441) ∧ w = w' := by
  go_enter Tryd.func53, Tryd.ntmps53
  go_wp2
  go_ret
  exact ⟨rfl, rfl⟩
set_option maxRecDepth 100000 in
theorem fst16 (w : World) : Calls Tryd.prog 53 #[.int .i64 16] w fun e w' => e = .returned (.int .u64 281479271743489) ∧ w = w' := by
  go_enter Tryd.func53, Tryd.ntmps53
  go_wp2
  go_ret
  exact ⟨rfl, rfl⟩
theorem fst_lits : fstW 4 = 1229782938247303441 ∧ fstW 16 = 281479271743489 := by decide +kernel
theorem fst_is (run : Nat) (h : run = 4 ∨ run = 16) (w : World) : Calls Tryd.prog 53 #[.int .i64 (run : Int)] w fun e w' => e = .returned (.int .u64 (fstW run : Int)) ∧ w = w' := by
  rcases h with rfl | rfl
  · rw [fst_lits.1]; exact fst4 w
  · rw [fst_lits.2]; exact fst16 w
theorem arQ_info (h : Nat → Nat) : (Tryd.prog.info? 26).map (·.size) = some (arQ h 8).size := by rw [arQ_size]; kernel_rfl
theorem blocks_info (s : Nat → UInt8) : (Tryd.prog.info? 47).map (·.size) = some (pc s).size := by rw [pc_size]; kernel_rfl
theorem unb_num (run k : Nat) (hr : run ≤ 16) : IntKind.u64.wrap ((fstW run : Int) * IntKind.u64.wrap (IntKind.u64.wrap (2 ^ (run - k)) - 1)) = (unbW run k : Int) := by
  have h1 : 2 ^ (run - k) ≤ 2 ^ 16 := Nat.pow_le_pow_right (by omega) (by omega)
  have h0 : 0 < 2 ^ (run - k) := Nat.two_pow_pos _
  have e : ((2 : Int) ^ (run - k)) = ((2 ^ (run - k) : Nat) : Int) := by rw [Int.natCast_pow]; rfl
  unfold unbW
  rw [e]
  generalize 2 ^ (run - k) = y at *
  generalize fstW run = F
  have e1 : IntKind.u64.wrap (y : Int) = (y : Int) := wrapQ y (by omega)
  rw [e1]
  have e2 : IntKind.u64.wrap ((y : Int) - 1) = ((y - 1 : Nat) : Int) := by
    have e3 : (y : Int) - 1 = ((y - 1 : Nat) : Int) := by omega
    rw [e3, wrapQ _ (by omega)]
  rw [e2, IntKind.wrap_u64, Int.natCast_emod, Int.natCast_mul]; rfl
theorem unbW_lt (run k : Nat) : unbW run k < 18446744073709551616 := Nat.mod_lt _ (by omega)
theorem tuQ_i (x run k m : Nat) (hx : x < 18446744073709551616) (hm : m < 18446744073709551616) :
    bits .xor .u64 (bits .and .u64 ((x : Int) / 2 ^ k) (m : Int)) (bits .andNot .u64 (IntKind.u64.wrap ((x : Int) * 2 ^ (run - k))) (m : Int)) = (tuW x run k m : Int) := by
  rw [← tuQ x run k m hx hm, shlQ, Int.natCast_ediv, Int.natCast_pow]; rfl
set_option maxRecDepth 100000 in
set_option maxHeartbeats 3200000 in
theorem turnedQ (s : Nat → UInt8) (run k : Nat) (hr : run = 4 ∨ run = 16) (hk : k ≤ run) (w : World) :
    Calls Tryd.prog 54 #[.agg (pc s), .int .i64 (run : Int), .int .i64 (k : Int)] w fun e w' => e = .returned (.agg (arQ (fun j => tuW (plW s j) run k (unbW run k)) 8)) ∧ Below w.heap.size w w' := by
  have HF := fun W => Lib.hid (fst_is run hr W)
  have hr16 : (run : Int) ≤ 16 := by omega
  have hk0 : (k : Int) ≤ (run : Int) := by omega
  have q1 : IntKind.i64.wrap ((run : Int) - (k : Int)) = (run : Int) - (k : Int) := IntWalk.i64_in _ (by omega)
  have hm := unb_num run k (by omega)
  obtain ⟨h, hh⟩ : ∃ h : Nat → Nat, (fun j => tuW (plW s j) run k (unbW run k)) = h := ⟨_, rfl⟩
  have HX : Hid (∀ j, bits .xor .u64 (bits .and .u64 ((plW s j : Int) / 2 ^ k) (unbW run k : Int)) (bits .andNot .u64 (IntKind.u64.wrap ((plW s j : Int) * 2 ^ (run - k))) (unbW run k : Int)) = (h j : Int)) := Lib.hid (fun j => by rw [tuQ_i _ _ _ _ (plW_lt' _ _) (unbW_lt _ _), ← hh])
  have HIX := fun k hk W => Lib.hid (index_pc s k hk W)
  rw [hh]
  obtain ⟨W, hW⟩ : ∃ W, ((w.alloc (.cells (pc s) 47)).alloc (.cells zeroQ 26)).alloc (.cells zeroQ 26) = W := ⟨_, rfl⟩
  obtain ⟨h1, h2, h3, hb⟩ := newQ3 w _ _ _ _ _ _ hW
  have z0 : zeroQ = arToQ h (fun _ => 0) 8 0 := by rw [arToQ_0]; rfl
  rw [z0] at h3
  have HW := Lib.hid hW
  have H1 := Lib.hid h1
  have hst := planes_info s
  obtain ⟨A, hA⟩ : ∃ A, pc s = A := ⟨_, rfl⟩
  rw [hA] at HW H1 hst HIX ⊢
  clear hr hk hh hW h1 hA
  unfold zeroQ at HW
  unfold RQ at H1
  generalize fstW run = F at *
  generalize unbW run k = M at *
  go_enter Tryd.func54, Tryd.ntmps54
  go_wp2
  go_region_held3 (fun _ => True) (trivial)
    (first
      | (with_reducible refine (HF _).out.mono ?_; rintro e w' ⟨rfl, rfl⟩))
  go_wp2_with (refine wpList_load_row rfl 26 _ rfl w.heap.size rfl 47 A (0, 0) _ (by rw [HW.out]; exact H1.out) Tryd.underlying26 rfl hst ?_)
  rw [HW.out]
  go_loopw [21] (fun v wr => ∃ j : Nat, j ≤ 8 ∧ v = .int .i64 j ∧ RQ wr (w.heap.size + 1) 26 zeroQ ∧ RQ wr (w.heap.size + 1 + 1) 26 (arToQ h (fun _ => 0) 8 j) ∧ Below w.heap.size w wr) (fun v _ => 8 - (intOf v).toNat)
  case atStart => exact ⟨0, by omega, rfl, h2, h3, hb.drew⟩
  case round =>
    obtain ⟨j, hj, rfl, g2, g3, hbel⟩ := hrel
    by_cases hlt : j < 8
    · have hj1 : (j : Int) < 8 := by omega
      have hj0 : (0 : Int) ≤ (j : Int) := by omega
      have hx := HX.out j
      have hix := fun W => (HIX j hlt W).out
      have hc3 := g3.cell (arToQ_hi h _ 8 j j hlt (Nat.le_refl _))
      have hfz := g3.fz j
      have d2 : RQ wr.drew (w.heap.size + 1) 26 zeroQ := g2
      have d3 : RQ wr.drew (w.heap.size + 1 + 1) 26 (arToQ h (fun _ => 0) 8 j) := g3
      have N2 := fun v => Lib.hid (d2.far (b := w.heap.size + 1 + 1) j v (by omega))
      have N3 := fun v hv => Lib.hid (d3.setQ (v := v) hv)
      have NB := fun v => Lib.hid (hbel.drew.setCell (p := ⟨w.heap.size + 1 + 1, j, none⟩) (by simp; omega) v)
      clear g2 g3 hbel h2 h3 hb d2 d3 H1 HIX HF
      go_wp2
      go_still_tail 15, (by kernel_rfl)
      change wpList _ _ _ _ _ wr.drew
      go_wp2
      go_roundw
      case rel => exact ⟨j + 1, by omega, by go_num, (N2 _).out, (N3 _ (by first | rfl | rw [HX.out])).out, (NB _).out⟩
      case measure => simp [intOf]; omega
    · obtain rfl : j = 8 := by omega
      rw [arToQ_all] at g3
      have hone := arQ_one h 8
      have hsi := arQ_info h
      have hz : zeroQ.size = (arQ h 8).size := by rw [arQ_size]; rfl
      have hsr := g2.row (arQ h 8)
      have hbs : Hid (Below w.heap.size w (wr.setRow (w.heap.size + 1) (arQ h 8))) := Lib.hid (below_setRow hbel (by omega) _)
      generalize hR : arQ h 8 = R at *
      generalize zeroQ = Z at *
      have HR := Lib.hid hR
      clear hR
      have G1 := Lib.hid g3
      have G3 := Lib.hid g2
      have HSR := Lib.hid hsr
      clear g2 g3 hsr hbel h2 h3 hb HX HIX H1 HF
      unfold RQ at G1 G3 HSR
      go_wp2_with (first
        | (refine wpList_load_row rfl 26 _ rfl (w.heap.size + 1 + 1) rfl 26 R (0, 0) _ G1.out Tryd.underlying26 rfl hsi ?_)
        | (refine wpList_store_row rfl 26 _ _ rfl (w.heap.size + 1) R rfl rfl 26 Z G3.out hsi hz hone ?_))
      refine bodyPost_ret (v := .agg R) ?_ rfl ⟨by rw [HR.out], hbs.out⟩
      exact results_cell_row rfl _ _ (w.heap.size + 1) 26 R (0, 0) _ rfl HSR.out Tryd.underlying26 rfl hsi
theorem turned16 (s : Nat → UInt8) (k : Nat) (hk : k < 4) (w : World) :
    Calls Tryd.prog 54 #[.agg (pc s), .int .i64 16, .int .i64 ((4 * k : Nat) : Int)] w fun e w' => e = .returned (.agg (pc (fun i => s (onAt 16 (4 * k) i)))) ∧ Below w.heap.size w w' := by
  have h := turnedQ s 16 (4 * k) (Or.inr rfl) (by omega) w
  have e : arQ (fun j => tuW (plW s j) 16 (4 * k) (unbW 16 (4 * k))) 8 = pc (fun i => s (onAt 16 (4 * k) i)) := arQ_congr fun j _ => plW_on16 s k j hk
  rwa [e] at h
theorem turned4 (s : Nat → UInt8) (b : Nat) (hb : b < 4) (w : World) :
    Calls Tryd.prog 54 #[.agg (pc s), .int .i64 4, .int .i64 ((4 - b : Nat) : Int)] w fun e w' => e = .returned (.agg (pc (fun i => s (onAt 4 (4 - b) i)))) ∧ Below w.heap.size w w' := by
  have h := turnedQ s 4 (4 - b) (Or.inl rfl) (by omega) w
  have e : arQ (fun j => tuW (plW s j) 4 (4 - b) (unbW 4 (4 - b))) 8 = pc (fun i => s (onAt 4 (4 - b) i)) := arQ_congr fun j _ => plW_on4 s b j hb
  rwa [e] at h
end Go.Proofs.YtbbjcgnoialidaaDoor
