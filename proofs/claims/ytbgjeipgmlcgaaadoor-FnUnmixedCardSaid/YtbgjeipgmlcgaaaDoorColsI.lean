/-
  What impl's state answers of its columns: columns, state, mixed, unmixed; impl.MixColumns and impl.UnmixColumns.
-/
import Derived.Test.YtbgjeipgmlcgaaaDoorShiftI
import Derived.Test.YtbgjeipgmlcgaaaDoorUnmixI
import Derived.WalkKit
import Derived.LoopTactic
import Derived.OwnWalk
import Derived.WalkLawsBesides
import Derived.WalkSpells
import Derived.Outline
import Derived.Below
import Derived.Laws.OwnMore
import Derived.Laws.CopyOwn
import Derived.Laws.StructEq
import Derived.Deep.RegionHeld3
import Derived.Deep.QuietTactic
import Derived.BigQuiet
import Derived.IntWalk
set_option linter.unusedVariables false
set_option linter.unusedSimpArgs false
namespace Go.Proofs.YtbgjeipgmlcgaaaDoor
open Go.RowKit

/-- four words as a struct's cells. -/
def clA (c : Nat → UInt32) : Array Value := #[.int .u32 (c 0).toNat, .int .u32 (c 1).toNat, .int .u32 (c 2).toNat, .int .u32 (c 3).toNat]
def zero4 : Array Value := #[.int .u32 0, .int .u32 0, .int .u32 0, .int .u32 0]
/-- the words of a block's bytes. -/
def colH (h : Nat → UInt8) (j : Nat) : UInt32 := mkW (h (4 * j)) (h (4 * j + 1)) (h (4 * j + 2)) (h (4 * j + 3))
/-- the bytes of four words. -/
def byH (c : Nat → UInt32) (i : Nat) : UInt8 := wb (c (i / 4)) (i % 4)
theorem cl_info (c : Nat → UInt32) : (Tryd.prog.info? 73).map (·.size) = some (clA c).size := by kernel_rfl
theorem cl_one (c : Nat → UInt32) : (clA c).all (·.oneCell') = true := by kernel_rfl
def CAt (w : World) (g : Nat) (cs : Array Value) : Prop := w.heap[g]? = some (.cells cs 73 (0, 0))
theorem CAt.lt {w : World} {g : Nat} {cs : Array Value} (h : CAt w g cs) : g < w.heap.size := by
  rcases Nat.lt_or_ge g w.heap.size with h2 | h2
  · exact h2
  · rw [CAt, Array.getElem?_eq_none h2] at h; cases h
theorem CAt.below {w w' : World} {g : Nat} {cs : Array Value} (h : CAt w g cs) (hb : Below w.heap.size w w') : CAt w' g cs := (hb.block g h.lt).trans h
theorem CAt.cells {w : World} {g : Nat} {c : Nat → UInt32} (h : CAt w g (clA c)) : w.cell? ⟨g, 0, none⟩ = some (.int .u32 ((c 0).toNat : Int)) ∧ w.cell? ⟨g, 1, none⟩ = some (.int .u32 ((c 1).toNat : Int)) ∧ w.cell? ⟨g, 2, none⟩ = some (.int .u32 ((c 2).toNat : Int)) ∧ w.cell? ⟨g, 3, none⟩ = some (.int .u32 ((c 3).toNat : Int)) :=
  ⟨(cell_of_row w g 0 _ _ _ h).trans rfl, (cell_of_row w g 1 _ _ _ h).trans rfl, (cell_of_row w g 2 _ _ _ h).trans rfl, (cell_of_row w g 3 _ _ _ h).trans rfl⟩
theorem st_bytes4 {w : World} {g : Nat} {h : Nat → UInt8} (hg : StAt w g (stA h)) (j : Nat) (hj : j < 4) : Bytes4 w g (4 * j) (wb (colH h j) 0) (wb (colH h j) 1) (wb (colH h j) 2) (wb (colH h j) 3) := by
  have cell : ∀ i, i < 16 → w.cell? ⟨g, i, none⟩ = some (cell8 (h i)) := fun i hi => (cell_of_row w g i _ _ _ hg).trans (stA_at h i hi)
  unfold colH
  rw [wb0_mk, wb1_mk, wb2_mk, wb3_mk]
  exact ⟨cell _ (by omega), cell _ (by omega), cell _ (by omega), cell _ (by omega)⟩
set_option maxRecDepth 100000 in
set_option maxHeartbeats 800000 in
theorem column_impl (h : Nat → UInt8) (g : Nat) (j : Nat) (hj : j < 4) (w : World) (hg : StAt w g (stA h)) :
    Calls Tryd.prog 76 #[.int .i64 j, .pointer (some ⟨g, 0, none⟩)] w fun e w' => e = .returned (.int .u32 (colH h j).toNat) ∧ w = w' := by
  have HG := fun W hW => Lib.hid (get_impl g 16 16 (4 * j) (colH h j) W (by omega) (by omega) (by omega) hW)
  have HB := Lib.hid (st_bytes4 hg j hj)
  rw [show ((4 * j : Nat) : Int) = 4 * (j : Int) by omega] at HG
  have q : IntKind.i64.wrap (4 * (j : Int)) = 4 * (j : Int) := IntWalk.i64_in _ (by omega)
  generalize colH h j = x at *
  clear hg
  go_enter Tryd.func76, Tryd.ntmps76
  go_wp2_with fail
  refine (HG _ HB.out).out.mono ?_; rintro e w' ⟨rfl, rfl⟩
  go_wp2
  go_ret
  exact ⟨rfl, rfl⟩
theorem clit : #[.int .u32 0, .int .u32 0, .int .u32 0, .int .u32 0] = zero4 := rfl
theorem column_is (h : Nat → UInt8) (g : Nat) (j : Nat) (hj : j < 4) (x : UInt32) (hx : colH h j = x) (w : World) (hg : StAt w g (stA h)) :
    Calls Tryd.prog 76 #[.int .i64 j, .pointer (some ⟨g, 0, none⟩)] w fun e w' => e = .returned (.int .u32 x.toNat) ∧ w = w' := by
  subst hx; exact column_impl h g j hj w hg
def cl4 (x0 x1 x2 x3 : UInt32) : Array Value := #[.int .u32 x0.toNat, .int .u32 x1.toNat, .int .u32 x2.toNat, .int .u32 x3.toNat]
theorem cl4_info (x0 x1 x2 x3 : UInt32) : (Tryd.prog.info? 73).map (·.size) = some (cl4 x0 x1 x2 x3).size := by kernel_rfl
theorem cl4_one (x0 x1 x2 x3 : UInt32) : (cl4 x0 x1 x2 x3).all (·.oneCell') = true := by kernel_rfl
set_option maxRecDepth 100000 in
set_option maxHeartbeats 1600000 in
theorem columns_is (h : Nat → UInt8) (x0 x1 x2 x3 : UInt32) (e0 : colH h 0 = x0) (e1 : colH h 1 = x1) (e2 : colH h 2 = x2) (e3 : colH h 3 = x3) (w : World) :
    Calls Tryd.prog 65 #[.agg (stA h)] w fun e w' => e = .returned (.agg (cl4 x0 x1 x2 x3)) ∧ Below w.heap.size w w' := by
  have hmf : ∀ (fn : Fn) (first cap : Array Value) (w : World), (Instr.makeFunc fn first cap).run Tryd.prog w = .ok (.func fn first cap) w := fun _ _ _ _ => rfl
  obtain ⟨n1, n2, n3, n4⟩ := two_new w (stA h) zero4 55 73
  have C0 := fun W hW => Lib.hid (column_is h w.heap.size 0 (by omega) x0 e0 W hW)
  have C1 := fun W hW => Lib.hid (column_is h w.heap.size 1 (by omega) x1 e1 W hW)
  have C2 := fun W hW => Lib.hid (column_is h w.heap.size 2 (by omega) x2 e2 W hW)
  have C3 := fun W hW => Lib.hid (column_is h w.heap.size 3 (by omega) x3 e3 W hW)
  clear e0 e1 e2 e3
  have hsi := cl4_info x0 x1 x2 x3
  have hone := cl4_one x0 x1 x2 x3
  have hz : zero4.size = (cl4 x0 x1 x2 x3).size := rfl
  have ms := setRow_heap ((w.alloc (.cells (stA h) 55)).alloc (.cells zero4 73)) _ _ (cl4 x0 x1 x2 x3) _ _ n2
  have mb := below_setRow n3 (show w.heap.size ≤ w.heap.size + 1 by omega) (cl4 x0 x1 x2 x3)
  unfold StAt at C0 C1 C2 C3
  generalize stA h = A at *
  unfold zero4 at n1 n2 n3 n4 hz ms mb
  unfold cl4 at hsi hone hz ms mb ⊢
  have N1 := Lib.hid n1
  have N2 := Lib.hid n2
  have MS := Lib.hid ms
  have MB := Lib.hid mb
  clear n1 n2 n3 n4 ms mb
  go_enter Tryd.func65, Tryd.ntmps65
  go_wp2_with fail
  refine (C0 _ N1.out).out.mono ?_; rintro e w' ⟨rfl, rfl⟩
  go_wp2_with fail
  refine (C1 _ N1.out).out.mono ?_; rintro e w' ⟨rfl, rfl⟩
  go_wp2_with fail
  refine (C2 _ N1.out).out.mono ?_; rintro e w' ⟨rfl, rfl⟩
  go_wp2_with fail
  refine (C3 _ N1.out).out.mono ?_; rintro e w' ⟨rfl, rfl⟩
  go_wp2_with (refine wpList_store_row rfl 73 _ _ rfl (w.heap.size + 1) _ rfl rfl 73 _ N2.out hsi hz hone ?_)
  refine bodyPost_ret (v := .agg _) ?_ rfl ⟨rfl, MB.out⟩
  exact results_cell_row rfl _ _ (w.heap.size + 1) 73 _ (0, 0) _ rfl MS.out Tryd.underlying73 rfl hsi
theorem columns_impl (h : Nat → UInt8) (w : World) :
    Calls Tryd.prog 65 #[.agg (stA h)] w fun e w' => e = .returned (.agg (clA (colH h))) ∧ Below w.heap.size w w' :=
  columns_is h _ _ _ _ rfl rfl rfl rfl w
theorem own_heap {w : World} {base g n : Nat} {e : TypeId} {xs : List Value} (h : w.ownsRow base e 1 (.slice (some ⟨g, 0, none⟩) n n) n xs) : w.heap[g]? = some (.cells xs.toArray e (0, 0)) := by
  rcases h.2 with ⟨hv, _⟩ | ⟨g', cap, cur, hv, hb, hg, hn, hc, hs, ht⟩
  · cases hv
  · injection hv with h1 h2 h3
    injection h1 with h1
    injection h1 with h1
    subst h1 h3
    rw [hg, ← ht]
    rw [List.take_of_length_le (by simp; omega)]
theorem three_at (w : World) (A B C : Array Value) (t u v : TypeId) {W : World} (hW : ((w.alloc (.cells A t)).alloc (.cells B u)).alloc (.cells C v) = W) :
    W.heap[w.heap.size]? = some (.cells A t (0, 0)) ∧ W.heap[w.heap.size + 1]? = some (.cells B u (0, 0)) ∧ W.heap[w.heap.size + 1 + 1]? = some (.cells C v (0, 0)) ∧ Below w.heap.size w W := by
  subst hW
  refine ⟨?_, ?_, ?_, ?_⟩
  · rw [heap_alloc_old _ _ (by simp; omega), heap_alloc_old _ _ (by simp), heap_alloc_new]
  · rw [heap_alloc_old _ _ (by simp), heap_alloc2_new]
  · have := heap_alloc_new ((w.alloc (.cells A t)).alloc (.cells B u)) (.cells C v)
    simpa using this
  · exact (((Below.refl _ _).alloc (Nat.le_refl _) _).alloc (by simp) _).alloc (by simp; omega) _
theorem index_cl4 (c : Nat → UInt32) (W : World) : (Instr.index 82 (.agg (clA c)) (.int .i64 0)).run Tryd.prog W = .ok (.int .u32 ((c 0).toNat : Int)) W ∧ (Instr.index 82 (.agg (clA c)) (.int .i64 1)).run Tryd.prog W = .ok (.int .u32 ((c 1).toNat : Int)) W ∧ (Instr.index 82 (.agg (clA c)) (.int .i64 2)).run Tryd.prog W = .ok (.int .u32 ((c 2).toNat : Int)) W ∧ (Instr.index 82 (.agg (clA c)) (.int .i64 3)).run Tryd.prog W = .ok (.int .u32 ((c 3).toNat : Int)) W :=
  ⟨by kernel_rfl, by kernel_rfl, by kernel_rfl, by kernel_rfl⟩
theorem index_cl (c : Nat → UInt32) (k : Nat) (hk : k < 4) (W : World) : (Instr.index 82 (.agg (clA c)) (.int .i64 (k : Int))).run Tryd.prog W = .ok (.int .u32 ((c k).toNat : Int)) W := by
  have h4 : k = 0 ∨ k = 1 ∨ k = 2 ∨ k = 3 := by omega
  rcases h4 with rfl | rfl | rfl | rfl
  · exact (index_cl4 c W).1
  · exact (index_cl4 c W).2.1
  · exact (index_cl4 c W).2.2.1
  · exact (index_cl4 c W).2.2.2
theorem blk_st (c : Nat → UInt32) : (cells8 (blkTo c 4)).toArray = stA (byH c) := by
  rw [blkTo_4]; rfl
theorem blk_zero (c : Nat → UInt32) : zero16.toList = cells8 (blkTo c 0) := rfl
set_option maxRecDepth 100000 in
set_option maxHeartbeats 1600000 in
theorem cstate_impl (c : Nat → UInt32) (w : World) :
    Calls Tryd.prog 67 #[.agg (clA c)] w fun e w' => e = .returned (.agg (stA (byH c))) ∧ Below w.heap.size w w' := by
  obtain ⟨W, hW⟩ : ∃ W, ((w.alloc (.cells (clA c) 73)).alloc (.cells zero16 55)).alloc (.cells zero16 55) = W := ⟨_, rfl⟩
  obtain ⟨n1, n2, n3, n4⟩ := three_at w (clA c) zero16 zero16 73 55 55 hW
  obtain ⟨c0, c1, c2, c3⟩ := CAt.cells n1
  have HI := Lib.hid (index_cl c)
  have HO : Hid (W.ownsRow w.heap.size 55 1 (.slice (some ⟨w.heap.size + 1 + 1, 0, none⟩) 16 16) 16 (cells8 (blkTo c 0))) := Lib.hid ⟨by rw [← blk_zero]; rfl, .inr ⟨_, 16, zero16, rfl, by omega, n3, Nat.le_refl _, by decide, rfl, by rw [← blk_zero]; rfl⟩⟩
  have N2 := Lib.hid n2
  have N4 := Lib.hid n4
  have hsi := stA_info (byH c)
  have hz : zero16.size = (stA (byH c)).size := by rw [stA_size]; rfl
  have hone := stA_one (byH c)
  clear n1 n2 n3 n4
  unfold clA at HI hW ⊢
  unfold zero16 at hW
  go_enter Tryd.func67, Tryd.ntmps67
  go_wp2
  clear c0 c1 c2 c3 hW
  go_loopw [15] (fun v wr => ∃ k : Nat, k ≤ 4 ∧ v = .int .i64 k ∧ wr.ownsRow w.heap.size 55 1 (.slice (some ⟨w.heap.size + 1 + 1, 0, none⟩) 16 16) 16 (cells8 (blkTo c k)) ∧ wr.heap[w.heap.size + 1]? = some (.cells zero16 55 (0, 0)) ∧ Below w.heap.size w wr) (fun v _ => 4 - (intOf v).toNat)
  case atStart => exact ⟨0, by omega, rfl, HO.out, N2.out, N4.out⟩
  case round =>
    obtain ⟨k, hk, rfl, hown, hz1, hbel⟩ := hrel
    by_cases hlt : k < 4
    · have hk1 : (k : Int) < 4 := by omega
      have hk0 : (0 : Int) ≤ (k : Int) := by omega
      have hix := HI.out k hlt
      have HP := Lib.hid (put_impl (t := 55) (w.heap.size + 1 + 1) 16 16 (4 * k) (blkTo c k) (c k) w.heap.size wr (by omega) (by omega) (by omega) hown)
      rw [show ((4 * k : Nat) : Int) = 4 * (k : Int) by omega, blkTo_put c k hlt] at HP
      have hg2 := (hown.lt _ rfl).2
      have HZ1 := Lib.hid hz1
      have HBL := Lib.hid hbel
      have q : IntKind.i64.wrap (4 * (k : Int)) = 4 * (k : Int) := IntWalk.i64_in _ (by omega)
      clear hown hz1 hbel HI HO
      go_wp2_with fail
      refine HP.out.mono ?_; rintro e w2 ⟨rfl, hown2, hgr2⟩
      have HZ2 : Hid (w2.heap[w.heap.size + 1]? = some (.cells zero16 55 (0, 0))) := Lib.hid ((hgr2.block _ (by omega) (by simp)).trans HZ1.out)
      have HB2 : Hid (Below w.heap.size w w2) := Lib.hid (below_only HBL.out hgr2 (by omega) HBL.out.size)
      have HO2 := Lib.hid hown2
      clear hown2 hgr2 HP HZ1 HBL
      go_wp2
      go_roundw
      case rel => exact ⟨k + 1, by omega, by go_num, HO2.out, HZ2.out, HB2.out⟩
      case measure => simp [intOf]; omega
    · obtain rfl : k = 4 := by omega
      have G3 := Lib.hid (own_heap hown)
      rw [blk_st] at G3
      have HSR := Lib.hid (setRow_heap wr _ _ (stA (byH c)) _ _ hz1)
      have hbs : Hid (Below w.heap.size w (wr.setRow (w.heap.size + 1) (stA (byH c)))) := Lib.hid (below_setRow hbel (by omega) _)
      have G2 := Lib.hid hz1
      clear hown hz1 hbel HI HO N2 N4
      generalize hR : stA (byH c) = R at *
      have HR := Lib.hid hR
      clear hR
      generalize zero16 = Z at *
      go_wp2_with (first
        | (refine wpList_load_row rfl 55 _ rfl (w.heap.size + 1 + 1) rfl 55 R (0, 0) _ G3.out Tryd.underlying55 rfl hsi ?_)
        | (refine wpList_store_row rfl 55 _ _ rfl (w.heap.size + 1) R rfl rfl 55 Z G2.out hsi hz hone ?_))
      refine bodyPost_ret (v := .agg R) ?_ rfl ⟨by rw [HR.out], hbs.out⟩
      exact results_cell_row rfl _ _ (w.heap.size + 1) 55 R (0, 0) _ rfl HSR.out Tryd.underlying55 rfl hsi
end Go.Proofs.YtbgjeipgmlcgaaaDoor
