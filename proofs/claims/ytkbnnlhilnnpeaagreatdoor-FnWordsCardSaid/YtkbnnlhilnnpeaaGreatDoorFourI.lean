/-
  What impl.four answers of words, by whatever function tells them; impl.lowWords.
-/
import Derived.Test.YtkbnnlhilnnpeaaGreatDoorArr32
import Derived.Test.YtkbnnlhilnnpeaaGreatDoorShift
import Derived.Test.YtkbnnlhilnnpeaaGreatDoorBase
import Derived.WalkKit
import Derived.LoopTactic
import Derived.OwnWalk
import Derived.WalkLawsBesides
import Derived.WalkSpells
import Derived.Outline
import Derived.Below
import Derived.Deep.WholeRow
import Derived.Great.Walk
import Derived.Laws.OwnMore
import Derived.IntWalk
set_option linter.unusedVariables false
set_option linter.unusedSimpArgs false
namespace Go.Proofs.YtkbnnlhilnnpeaaGreatDoor
open Go Go.RowKit

theorem four_info (h : Nat → UInt32) : (Tryz.prog.info? 99).map (·.size) = some (ar32 h 4).size := by rw [ar32_size]; kernel_rfl
theorem two_at (w : World) (A B : Array Value) (t u : TypeId) {W : World} (hW : (w.alloc (.cells A t)).alloc (.cells B u) = W) :
    RAt W w.heap.size t A ∧ RAt W (w.heap.size + 1) u B ∧ Below w.heap.size w W ∧ W.heap.size = w.heap.size + 1 + 1 := by
  subst hW; exact two_new w A B t u
set_option maxRecDepth 100000 in
set_option maxHeartbeats 1600000 in
theorem four_impl (F : FuncId) (cap : Array Value) (h : Nat → UInt32) (w : World) (HE : ∀ (args : Array Value) (W : World), (callFunc F args).run Tryz.prog W = .ok (.enter F args) W)
    (HF : ∀ k, k < 4 → ∀ W, Below w.heap.size w W → Calls Tryz.prog F (#[.int .i64 (k : Int)] ++ cap) W fun e w' => e = .returned (.int .u32 (h k).toNat) ∧ Below W.heap.size W w') :
    Calls Tryz.prog 104 #[.func (.func F) #[] cap] w fun e w' => e = .returned (.agg (ar32 h 4)) ∧ Below w.heap.size w w' := by
  have HFH := fun k hk W hW => Lib.hid (HF k hk W hW)
  clear HF
  go_enter Tryz.func104, Tryz.ntmps104
  go_wp2
  rw [zero4_ar h]
  obtain ⟨W, hW⟩ : ∃ W, (w.alloc (.cells (arTo32 h 4 0) 99)).alloc (.cells (arTo32 h 4 0) 99) = W := ⟨_, rfl⟩
  obtain ⟨h1, h2, hb, hsz⟩ := two_at w _ _ _ _ hW
  rw [hW]
  clear hW
  go_loopw [5] (fun v wr => ∃ k : Nat, k ≤ 4 ∧ v = .int .i64 k ∧ RAt wr w.heap.size 99 (arTo32 h 4 0) ∧ RAt wr (w.heap.size + 1) 99 (arTo32 h 4 k) ∧ Below w.heap.size w wr) (fun v _ => 4 - (intOf v).toNat)
  case atStart => exact ⟨0, by omega, rfl, h1, h2, hb⟩
  case round =>
    obtain ⟨k, hk, rfl, g1, g2, hbel⟩ := hrel
    by_cases hlt : k < 4
    · have hk1 : (k : Int) < 4 := by omega
      have hk0 : (0 : Int) ≤ (k : Int) := by omega
      have HC := HFH k hlt wr hbel
      have HL := Lib.hid (w32_lt (h k))
      obtain ⟨y, hy⟩ : ∃ y, h k = y := ⟨_, rfl⟩
      rw [hy] at HC HL
      have HY := Lib.hid hy
      have G1 := Lib.hid g1
      have G2 := Lib.hid g2
      have HB := Lib.hid hbel
      clear g1 g2 hbel HFH h1 h2 hb hy
      go_wp2_with fail
      refine HC.out.mono ?_; rintro e w2 ⟨rfl, hb2⟩
      have K1 := G1.out.up hb2
      have K2 := G2.out.up hb2
      have hz := K2.cell (arTo32_at h 4 k hlt)
      have hfz := K2.fz k
      have N1 := fun v => Lib.hid (K1.far (b := w.heap.size + 1) k v (by omega))
      have N2 := fun v hv => Lib.hid (K2.set32 (v := v) hv)
      have NB := fun v => Lib.hid ((HB.out.trans (hb2.mono HB.out.size)).setCell (p := ⟨w.heap.size + 1, k, none⟩) (by simp) v)
      clear K1 K2 hb2 HC
      go_wp2
      go_roundw
      case rel => exact ⟨k + 1, by omega, by go_num, (N1 _).out, (N2 _ (by rw [HY.out])).out, (NB _).out⟩
      case measure => simp [intOf]; omega
    · obtain rfl : k = 4 := by omega
      rw [arTo32_all] at g2
      have hone := ar32_one h 4
      have hsi := four_info h
      have hz : (arTo32 h 4 0).size = (ar32 h 4).size := by rw [ar32_size, arTo32_size]
      have hsr := setRow_heap wr _ _ (ar32 h 4) _ _ g1
      have hbs : Hid (Below w.heap.size w (wr.setRow w.heap.size (ar32 h 4))) := Lib.hid (below_setRow hbel (by omega) _)
      generalize hR : ar32 h 4 = R at *
      generalize arTo32 h 4 0 = Z at *
      have HR := Lib.hid hR
      clear hR hb hbel h1 h2 HFH
      have G1 := Lib.hid g1
      have G2 := Lib.hid g2
      have HSR := Lib.hid hsr
      clear g1 g2 hsr
      go_wp2_with (first
        | (refine wpList_load_row rfl 99 _ rfl (w.heap.size + 1) rfl 99 R (0, 0) _ G2.out Tryz.underlying99 rfl hsi ?_)
        | (refine wpList_store_row rfl 99 _ _ rfl w.heap.size R rfl rfl 99 Z G1.out hsi hz hone ?_))
      refine bodyPost_ret (v := .agg R) ?_ rfl ⟨by rw [HR.out], hbs.out⟩
      exact results_cell_row rfl _ _ w.heap.size 99 R (0, 0) _ rfl HSR.out Tryz.underlying99 rfl hsi
end Go.Proofs.YtkbnnlhilnnpeaaGreatDoor
