/-
  What impl.tablesOf answers: four tables of 256 words.
-/
import Derived.Test.YtkbnnlhilnnpeaaGreatDoorStoreAt
import Derived.Test.YtkbnnlhilnnpeaaGreatDoorRndI
import Derived.Test.YtkbnnlhilnnpeaaGreatDoorTabI
import Derived.Great.Walk
import Derived.Deep.WholeRow
set_option linter.unusedVariables false
set_option linter.unusedSimpArgs false
namespace Go.Proofs.YtkbnnlhilnnpeaaGreatDoor
open Go Go.RowKit

def z256 : Array Value := Array.replicate 256 (.int .u32 0)
def z1024 : Array Value := Array.replicate 1024 (.int .u32 0)
theorem z_ar (n : Nat) : Array.replicate n (Value.int .u32 0) = ar32 (fun _ => 0) n := by
  unfold ar32 cells32
  rw [upTo_const, List.map_replicate]
  rw [List.toArray_replicate]; rfl
theorem z256_ar (h : Nat → UInt32) : z256 = arTo32 h 256 0 := by rw [arTo32_0]; exact z_ar 256
theorem z1024_ar (h : Nat → UInt32) : z1024 = arTo32 h 1024 0 := by rw [arTo32_0]; exact z_ar 1024
theorem t256_info (h : Nat → UInt32) : (Tryz.prog.info? 90).map (·.size) = some (ar32 h 256).size := by rw [ar32_size]; kernel_rfl
theorem t1024_info (h : Nat → UInt32) : (Tryz.prog.info? 91).map (·.size) = some (ar32 h 1024).size := by rw [ar32_size]; kernel_rfl
theorem u32_infos : (Tryz.prog.info? 77).map (·.size) = some 1 := by kernel_rfl
theorem index_256 (h : Nat → UInt32) (k : Nat) (hk : k < 256) (W : World) : (Instr.index 90 (.agg (ar32 h 256)) (.int .i64 (k : Int))).run Tryz.prog W = .ok (.int .u32 ((h k).toNat : Int)) W := by
  cases hq : Tryz.prog.info? 77 with
  | none => have := u32_infos; rw [hq] at this; cases this
  | some i =>
    have h1 : i.size = 1 := by have := u32_infos; rw [hq] at this; simpa using this
    exact run_index_ar _ 77 256 k _ _ _ i W Tryz.underlying90 Tryz.underlying77 rfl hq h1 hk (ar32_at h 256 k hk)
set_option maxRecDepth 100000 in
set_option maxHeartbeats 3200000 in
theorem tab1_impl (h : Nat → UInt32) (g k : Nat) (hk : k < 4) (w : World) (hg : RAt w g 90 (ar32 h 256)) :
    Calls Tryz.prog 111 #[.int .i64 (k : Int), .pointer (some ⟨g, 0, none⟩)] w fun e w' => e = .returned (.agg (ar32 (fun i => rot (h i) (upBy k)) 256)) ∧ Below w.heap.size w w' := by
  obtain ⟨F, hF⟩ : ∃ F : Nat → UInt32, (fun i => rot (h i) (upBy k)) = F := ⟨_, rfl⟩
  have HP : Hid (∀ i W, Calls Tryz.prog 112 #[.int .i64 (k : Int), .int .u32 (h i).toNat] W fun e w' => e = .returned (.int .i64 (F i).toNat) ∧ W = w') := Lib.hid fun i W => by rw [← hF]; exact atPlace_at k (by omega) (h i) W
  rw [hF]
  obtain ⟨W, hW⟩ : ∃ W, (w.alloc (.cells z256 90)).alloc (.cells z256 90) = W := ⟨_, rfl⟩
  obtain ⟨n1, n2, nb, nz⟩ := two_at w _ _ _ _ hW
  have hl1 := t256_info h
  have HIX := Lib.hid (index_256 h)
  have hg2 : RAt W g 90 (ar32 h 256) := hg.below nb hg.lt
  obtain ⟨RH, hRH⟩ : ∃ RH, ar32 h 256 = RH := ⟨_, rfl⟩
  rw [hRH] at hg2 hl1 HIX
  rw [z256_ar F] at n1 n2
  have N1 := Lib.hid n1
  have N2 := Lib.hid n2
  have NB := Lib.hid nb
  have HG2 := Lib.hid hg2
  clear n1 n2 nb nz hg hF hRH hg2
  go_enter Tryz.func111, Tryz.ntmps111
  apply wp_seq
  apply wp_region_lit
  refine Great.wpList_runTo rfl (some 3) rfl (.pointer (some ⟨w.heap.size, 0, none⟩)) (w.alloc (.cells z256 90)) (by kernel_rfl) ?_
  apply wpList_nil
  simp only [Exit.then]
  apply wp_seq
  apply wp_region_lit
  refine Great.wpList_runTo rfl (some 4) rfl (.pointer (some ⟨(w.alloc (.cells z256 90)).heap.size, 0, none⟩)) ((w.alloc (.cells z256 90)).alloc (.cells z256 90)) (by kernel_rfl) ?_
  rw [al_sz, hW]
  apply wpList_nil
  simp only [Exit.then]
  clear hW
  go_wp2_with (refine wpList_load_row rfl 90 _ rfl g rfl 90 RH (0, 0) _ HG2.out Tryz.underlying90 rfl hl1 ?_)
  go_loopw [8] (fun v wr => ∃ j : Nat, j ≤ 256 ∧ v = .int .i64 j ∧ RAt wr w.heap.size 90 (arTo32 F 256 0) ∧ RAt wr (w.heap.size + 1) 90 (arTo32 F 256 j) ∧ Below w.heap.size w wr) (fun v _ => 256 - (intOf v).toNat)
  case atStart => exact ⟨0, by omega, rfl, N1.out, N2.out, NB.out⟩
  case round =>
    obtain ⟨j, hj, rfl, g1, g2, hbel⟩ := hrel
    by_cases hlt : j < 256
    · have hj1 : (j : Int) < 256 := by omega
      have hj0 : (0 : Int) ≤ (j : Int) := by omega
      have hix := fun W => HIX.out j hlt W
      have HC := fun W => Lib.hid (HP.out j W)
      have hfl := w32_lt (F j)
      have hf2 : ((F j).toNat : Int) < 4294967296 := by omega
      have hz := g2.cell (arTo32_at F 256 j hlt)
      have hfz := g2.fz j
      have G1 := fun v => Lib.hid (g1.far (b := w.heap.size + 1) j v (by omega))
      have G2 := fun v hv => Lib.hid (g2.set32 (v := v) hv)
      have HB := fun v => Lib.hid (hbel.setCell (p := ⟨w.heap.size + 1, j, none⟩) (by simp) v)
      obtain ⟨y, hy⟩ : ∃ y, F j = y := ⟨_, rfl⟩
      rw [hy] at hf2
      simp only [hy] at HC
      have HY := Lib.hid hy
      generalize h j = x at *
      clear g1 g2 hbel HIX HP hy hfl
      go_wp2_with fail
      refine (HC _).out.mono ?_; rintro e w' ⟨rfl, rfl⟩
      go_wp2
      go_roundw
      case rel => exact ⟨j + 1, by omega, by go_num, (G1 _).out, (G2 _ (by rw [HY.out])).out, (HB _).out⟩
      case measure => simp [intOf]; omega
    · obtain rfl : j = 256 := by omega
      rw [arTo32_all] at g2
      have hone := ar32_one F 256
      have hsi := t256_info F
      have hz : (arTo32 F 256 0).size = (ar32 F 256).size := by rw [ar32_size, arTo32_size]
      have hsr := setRow_heap wr _ _ (ar32 F 256) _ _ g1
      have hbs : Hid (Below w.heap.size w (wr.setRow w.heap.size (ar32 F 256))) := Lib.hid (below_setRow hbel (by omega) _)
      generalize hR : ar32 F 256 = R at *
      generalize arTo32 F 256 0 = Z at *
      have HR := Lib.hid hR
      clear hR hbel N1 N2 NB HP HIX
      have G1 := Lib.hid g1
      have G2 := Lib.hid g2
      have HSR := Lib.hid hsr
      clear g1 g2 hsr
      go_wp2_with (first
        | (refine wpList_load_row rfl 90 _ rfl (w.heap.size + 1) rfl 90 R (0, 0) _ G2.out Tryz.underlying90 rfl hsi ?_)
        | (refine wpList_store_row rfl 90 _ _ rfl w.heap.size R rfl rfl 90 Z G1.out hsi hz hone ?_))
      refine bodyPost_ret (v := .agg R) ?_ rfl ⟨by rw [HR.out], hbs.out⟩
      exact results_cell_row rfl _ _ w.heap.size 90 R (0, 0) _ rfl HSR.out Tryz.underlying90 rfl hsi
/-- four tables, one behind the other. -/
def ttF (T : Nat → Nat → UInt32) (i : Nat) : UInt32 := T (i / 256) (i % 256)
theorem tt_put (T : Nat → Nat → UInt32) (k : Nat) (hk : k < 4) : putAt (arTo32 (ttF T) 1024 (256 * k)) (256 * k) (ar32 (T k) 256) = arTo32 (ttF T) 1024 (256 * (k + 1)) := by
  have h1 := arTo32_size (ttF T) 1024 (256 * k)
  have h2 := ar32_size (T k) 256
  apply Array.ext_getElem?
  intro j
  rw [putAt_get _ _ _ (by rw [h1, h2]; omega), h2]
  have get : ∀ q, j < 1024 → (arTo32 (ttF T) 1024 q)[j]? = some (.int .u32 ((if j < q then ttF T j else 0).toNat : Int)) := fun q hj => by
    unfold arTo32
    rw [List.getElem?_toArray]
    exact cells32_at _ _ _ (rowTo_at (ttF T) (fun _ => 0) 1024 q j hj)
  by_cases hj : j < 1024
  · rw [get _ hj, get _ hj]
    by_cases a : j < 256 * k
    · rw [if_pos a, if_pos a, if_pos (by omega)]
    · rw [if_neg a, if_neg a]
      by_cases b : j < 256 * k + 256
      · rw [if_pos b, if_pos (by omega), ar32_at _ _ _ (by omega)]
        have e : ttF T j = T k (j - 256 * k) := by
          unfold ttF
          rw [show j / 256 = k by omega, show j % 256 = j - 256 * k by omega]
        rw [e]
      · rw [if_neg b, if_neg (by omega)]
  · have hn : ∀ q, (arTo32 (ttF T) 1024 q)[j]? = none := fun q => Array.getElem?_eq_none (by rw [arTo32_size]; omega)
    rw [hn, hn, if_neg (by omega), if_neg (by omega)]
set_option maxRecDepth 100000 in
set_option maxHeartbeats 3200000 in
theorem fourT_impl (F : FuncId) (cap : Array Value) (T : Nat → Nat → UInt32) (w : World) (HE : ∀ (args : Array Value) (W : World), (callFunc F args).run Tryz.prog W = .ok (.enter F args) W)
    (HF : ∀ k, k < 4 → ∀ W, Below w.heap.size w W → Calls Tryz.prog F (#[.int .i64 (k : Int)] ++ cap) W fun e w' => e = .returned (.agg (ar32 (T k) 256)) ∧ Below W.heap.size W w') :
    Calls Tryz.prog 110 #[.func (.func F) #[] cap] w fun e w' => e = .returned (.agg (ar32 (ttF T) 1024)) ∧ Below w.heap.size w w' := by
  have HFH := fun k hk W hW => Lib.hid (HF k hk W hW)
  obtain ⟨W, hW⟩ : ∃ W, (w.alloc (.cells z1024 91)).alloc (.cells z1024 91) = W := ⟨_, rfl⟩
  obtain ⟨n1, n2, nb, nz⟩ := two_at w _ _ _ _ hW
  rw [z1024_ar (ttF T)] at n1 n2
  have N1 := Lib.hid n1
  have N2 := Lib.hid n2
  have NB := Lib.hid nb
  clear n1 n2 nb nz HF
  go_enter Tryz.func110, Tryz.ntmps110
  apply wp_seq
  apply wp_region_lit
  refine Great.wpList_runTo rfl (some 2) rfl (.pointer (some ⟨w.heap.size, 0, none⟩)) (w.alloc (.cells z1024 91)) (by kernel_rfl) ?_
  apply wpList_nil
  simp only [Exit.then]
  apply wp_seq
  apply wp_region_lit
  refine Great.wpList_runTo rfl (some 3) rfl (.pointer (some ⟨(w.alloc (.cells z1024 91)).heap.size, 0, none⟩)) ((w.alloc (.cells z1024 91)).alloc (.cells z1024 91)) (by kernel_rfl) ?_
  rw [al_sz, hW]
  apply wpList_nil
  simp only [Exit.then]
  clear hW
  go_wp2
  go_loopw [5] (fun v wr => ∃ k : Nat, k ≤ 4 ∧ v = .int .i64 k ∧ RAt wr w.heap.size 91 (arTo32 (ttF T) 1024 0) ∧ RAt wr (w.heap.size + 1) 91 (arTo32 (ttF T) 1024 (256 * k)) ∧ Below w.heap.size w wr) (fun v _ => 4 - (intOf v).toNat)
  case atStart => exact ⟨0, by omega, rfl, N1.out, N2.out, NB.out⟩
  case round =>
    obtain ⟨k, hk, rfl, g1, g2, hbel⟩ := hrel
    by_cases hlt : k < 4
    · have hk1 : (k : Int) < 4 := by omega
      have hk0 : (0 : Int) ≤ (k : Int) := by omega
      have HC := HFH k hlt wr hbel
      have G1 := Lib.hid g1
      have G2 := Lib.hid g2
      have HB := Lib.hid hbel
      have HPU := Lib.hid (tt_put T k hlt)
      have hfit : 256 * k + (ar32 (T k) 256).size ≤ (arTo32 (ttF T) 1024 (256 * k)).size := by rw [ar32_size, arTo32_size]; omega
      have hone : ∀ v ∈ (ar32 (T k) 256).toList, v.oneCell' = true := fun v hv => cells32_one (upTo (T k) 256) v (by simpa [ar32] using hv)
      have hsi := t256_info (T k)
      have HFIT := Lib.hid hfit
      have HONE := Lib.hid hone
      generalize ar32 (T k) 256 = R at *
      clear g1 g2 hbel HFH N1 N2 NB hfit hone
      go_wp2_with fail
      refine HC.out.mono ?_; rintro e w2 ⟨rfl, hb2⟩
      have K1 := Lib.hid (G1.out.up hb2)
      have K2 := Lib.hid (G2.out.up hb2)
      have BB := Lib.hid (HB.out.trans (hb2.mono HB.out.size))
      clear hb2 G1 G2 HC HB
      have hmul : k * 256 = 256 * k := Nat.mul_comm _ _
      obtain ⟨X, hX⟩ : ∃ X, putAt (arTo32 (ttF T) 1024 (256 * k)) (256 * k) R = X := ⟨_, rfl⟩
      have P1 : Hid (RAt (w2.setRow (w.heap.size + 1) X) w.heap.size 91 (arTo32 (ttF T) 1024 0)) := Lib.hid ((setRow_other w2 (w.heap.size + 1) w.heap.size X (by omega)).trans K1.out)
      have P2 : Hid (RAt (w2.setRow (w.heap.size + 1) X) (w.heap.size + 1) 91 (arTo32 (ttF T) 1024 (256 * (k + 1)))) := Lib.hid (by rw [← HPU.out, hX]; exact K2.out.row X)
      have P3 := Lib.hid (below_setRow BB.out (show w.heap.size ≤ w.heap.size + 1 by omega) X)
      have HX := Lib.hid hX
      clear hX HPU K1 BB
      go_wp2_with (refine wpList_store_at rfl 90 _ _ rfl (w.heap.size + 1) (256 * k) R (by first | rfl | (simp [hmul]; done)) rfl 91 _ K2.out HFIT.out HONE.out hsi ?_)
      rw [HX.out]
      go_wp2
      go_roundw
      case rel => exact ⟨k + 1, by omega, by go_num, P1.out, P2.out, P3.out⟩
      case measure => simp [intOf]; omega
    · obtain rfl : k = 4 := by omega
      rw [show 256 * 4 = 1024 from rfl, arTo32_all] at g2
      have hone := ar32_one (ttF T) 1024
      have hsi := t1024_info (ttF T)
      have hz : (arTo32 (ttF T) 1024 0).size = (ar32 (ttF T) 1024).size := by rw [ar32_size, arTo32_size]
      have hsr := setRow_heap wr _ _ (ar32 (ttF T) 1024) _ _ g1
      have hbs : Hid (Below w.heap.size w (wr.setRow w.heap.size (ar32 (ttF T) 1024))) := Lib.hid (below_setRow hbel (by omega) _)
      generalize hR : ar32 (ttF T) 1024 = R at *
      generalize arTo32 (ttF T) 1024 0 = Z at *
      have HR := Lib.hid hR
      clear hR hbel N1 N2 NB HFH
      have G1 := Lib.hid g1
      have G2 := Lib.hid g2
      have HSR := Lib.hid hsr
      clear g1 g2 hsr
      go_wp2_with (first
        | (refine wpList_load_row rfl 91 _ rfl (w.heap.size + 1) rfl 91 R (0, 0) _ G2.out Tryz.underlying91 rfl hsi ?_)
        | (refine wpList_store_row rfl 91 _ _ rfl w.heap.size R rfl rfl 91 Z G1.out hsi hz hone ?_))
      refine bodyPost_ret (v := .agg R) ?_ rfl ⟨by rw [HR.out], hbs.out⟩
      exact results_cell_row rfl _ _ w.heap.size 91 R (0, 0) _ rfl HSR.out Tryz.underlying91 rfl hsi
end Go.Proofs.YtkbnnlhilnnpeaaGreatDoor
