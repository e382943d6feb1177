/-
  Contracts and facts that the laws of this seat use: ColsI, ColsJ, ColsK, ColsS.
-/
import Derived.Test.YtbfmbdohebdbaaaGreatDoorShift
import Derived.Test.YtbfmbdohebdbaaaGreatDoorUnmix
import Derived.WalkKit
import Derived.LoopTactic
import Derived.OwnWalk
import Derived.WalkLawsBesides
import Derived.WalkSpells
import Derived.Outline
import Derived.Below
import Derived.Laws.OwnMore
import Derived.Laws.CopyOwn
import Derived.Laws.StructEq
import Derived.Deep.RegionHeld3
import Derived.Deep.QuietTactic
import Derived.BigQuiet
import Derived.IntWalk
import Derived.Test.YtbfmbdohebdbaaaGreatDoorPure
set_option linter.unusedVariables false
set_option linter.unusedSimpArgs false
namespace Go.Proofs.YtbfmbdohebdbaaaGreatDoor
open Go.RowKit

/-- four words as a struct's cells. -/
def clA (c : Nat → UInt32) : Array Value := #[.int .u32 (c 0).toNat, .int .u32 (c 1).toNat, .int .u32 (c 2).toNat, .int .u32 (c 3).toNat]
def zero4 : Array Value := #[.int .u32 0, .int .u32 0, .int .u32 0, .int .u32 0]
/-- the words of a block's bytes. -/
def colH (h : Nat → UInt8) (j : Nat) : UInt32 := mkW (h (4 * j)) (h (4 * j + 1)) (h (4 * j + 2)) (h (4 * j + 3))
/-- the bytes of four words. -/
def byH (c : Nat → UInt32) (i : Nat) : UInt8 := wb (c (i / 4)) (i % 4)
theorem cl_info (c : Nat → UInt32) : (Tryz.prog.info? 226).map (·.size) = some (clA c).size := by kernel_rfl
theorem cl_one (c : Nat → UInt32) : (clA c).all (·.oneCell') = true := by kernel_rfl
def CAt (w : World) (g : Nat) (cs : Array Value) : Prop := w.heap[g]? = some (.cells cs 226 (0, 0))
theorem CAt.lt {w : World} {g : Nat} {cs : Array Value} (h : CAt w g cs) : g < w.heap.size := by
  rcases Nat.lt_or_ge g w.heap.size with h2 | h2
  · exact h2
  · rw [CAt, Array.getElem?_eq_none h2] at h; cases h
theorem CAt.below {w w' : World} {g : Nat} {cs : Array Value} (h : CAt w g cs) (hb : Below w.heap.size w w') : CAt w' g cs := (hb.block g h.lt).trans h
theorem CAt.cells {w : World} {g : Nat} {c : Nat → UInt32} (h : CAt w g (clA c)) : w.cell? ⟨g, 0, none⟩ = some (.int .u32 ((c 0).toNat : Int)) ∧ w.cell? ⟨g, 1, none⟩ = some (.int .u32 ((c 1).toNat : Int)) ∧ w.cell? ⟨g, 2, none⟩ = some (.int .u32 ((c 2).toNat : Int)) ∧ w.cell? ⟨g, 3, none⟩ = some (.int .u32 ((c 3).toNat : Int)) :=
  ⟨(cell_of_row w g 0 _ _ _ h).trans rfl, (cell_of_row w g 1 _ _ _ h).trans rfl, (cell_of_row w g 2 _ _ _ h).trans rfl, (cell_of_row w g 3 _ _ _ h).trans rfl⟩
theorem st_bytes4 {w : World} {g : Nat} {h : Nat → UInt8} (hg : StAt w g (stA h)) (j : Nat) (hj : j < 4) : Bytes4 w g (4 * j) (wb (colH h j) 0) (wb (colH h j) 1) (wb (colH h j) 2) (wb (colH h j) 3) := by
  have cell : ∀ i, i < 16 → w.cell? ⟨g, i, none⟩ = some (cell8 (h i)) := fun i hi => (cell_of_row w g i _ _ _ hg).trans (stA_at h i hi)
  unfold colH
  rw [wb0_mk, wb1_mk, wb2_mk, wb3_mk]
  exact ⟨cell _ (by omega), cell _ (by omega), cell _ (by omega), cell _ (by omega)⟩
set_option maxRecDepth 100000 in
set_option maxHeartbeats 800000 in
theorem column_impl (h : Nat → UInt8) (g : Nat) (j : Nat) (hj : j < 4) (w : World) (hg : StAt w g (stA h)) :
    Calls Tryz.prog 196 #[.int .i64 j, .pointer (some ⟨g, 0, none⟩)] w fun e w' => e = .returned (.int .u32 (colH h j).toNat) ∧ w = w' := by
  have HG := fun W hW => Lib.hid (get_impl g 16 16 (4 * j) (colH h j) W (by omega) (by omega) (by omega) hW)
  have HB := Lib.hid (st_bytes4 hg j hj)
  rw [show ((4 * j : Nat) : Int) = 4 * (j : Int) by omega] at HG
  have q : IntKind.i64.wrap (4 * (j : Int)) = 4 * (j : Int) := IntWalk.i64_in _ (by omega)
  generalize colH h j = x at *
  clear hg
  go_enter Tryz.func196, Tryz.ntmps196
  go_wp2_with fail
  refine (HG _ HB.out).out.mono ?_; rintro e w' ⟨rfl, rfl⟩
  go_wp2
  go_ret
  exact ⟨rfl, rfl⟩
theorem clit : #[.int .u32 0, .int .u32 0, .int .u32 0, .int .u32 0] = zero4 := rfl
theorem column_is (h : Nat → UInt8) (g : Nat) (j : Nat) (hj : j < 4) (x : UInt32) (hx : colH h j = x) (w : World) (hg : StAt w g (stA h)) :
    Calls Tryz.prog 196 #[.int .i64 j, .pointer (some ⟨g, 0, none⟩)] w fun e w' => e = .returned (.int .u32 x.toNat) ∧ w = w' := by
  subst hx; exact column_impl h g j hj w hg
def cl4 (x0 x1 x2 x3 : UInt32) : Array Value := #[.int .u32 x0.toNat, .int .u32 x1.toNat, .int .u32 x2.toNat, .int .u32 x3.toNat]
theorem cl4_info (x0 x1 x2 x3 : UInt32) : (Tryz.prog.info? 226).map (·.size) = some (cl4 x0 x1 x2 x3).size := by kernel_rfl
theorem cl4_one (x0 x1 x2 x3 : UInt32) : (cl4 x0 x1 x2 x3).all (·.oneCell') = true := by kernel_rfl
set_option maxRecDepth 100000 in
set_option maxHeartbeats 1600000 in
theorem columns_is (h : Nat → UInt8) (x0 x1 x2 x3 : UInt32) (e0 : colH h 0 = x0) (e1 : colH h 1 = x1) (e2 : colH h 2 = x2) (e3 : colH h 3 = x3) (w : World) :
    Calls Tryz.prog 191 #[.agg (stA h)] w fun e w' => e = .returned (.agg (cl4 x0 x1 x2 x3)) ∧ Below w.heap.size w w' := by
  have hmf : ∀ (fn : Fn) (first cap : Array Value) (w : World), (Instr.makeFunc fn first cap).run Tryz.prog w = .ok (.func fn first cap) w := fun _ _ _ _ => rfl
  obtain ⟨n1, n2, n3, n4⟩ := two_new w (stA h) zero4 146 226
  have C0 := fun W hW => Lib.hid (column_is h w.heap.size 0 (by omega) x0 e0 W hW)
  have C1 := fun W hW => Lib.hid (column_is h w.heap.size 1 (by omega) x1 e1 W hW)
  have C2 := fun W hW => Lib.hid (column_is h w.heap.size 2 (by omega) x2 e2 W hW)
  have C3 := fun W hW => Lib.hid (column_is h w.heap.size 3 (by omega) x3 e3 W hW)
  clear e0 e1 e2 e3
  have hsi := cl4_info x0 x1 x2 x3
  have hone := cl4_one x0 x1 x2 x3
  have hz : zero4.size = (cl4 x0 x1 x2 x3).size := rfl
  have ms := setRow_heap ((w.alloc (.cells (stA h) 146)).alloc (.cells zero4 226)) _ _ (cl4 x0 x1 x2 x3) _ _ n2
  have mb := below_setRow n3 (show w.heap.size ≤ w.heap.size + 1 by omega) (cl4 x0 x1 x2 x3)
  unfold StAt at C0 C1 C2 C3
  generalize stA h = A at *
  unfold zero4 at n1 n2 n3 n4 hz ms mb
  unfold cl4 at hsi hone hz ms mb ⊢
  have N1 := Lib.hid n1
  have N2 := Lib.hid n2
  have MS := Lib.hid ms
  have MB := Lib.hid mb
  clear n1 n2 n3 n4 ms mb
  go_enter Tryz.func191, Tryz.ntmps191
  go_wp2_with fail
  refine (C0 _ N1.out).out.mono ?_; rintro e w' ⟨rfl, rfl⟩
  go_wp2_with fail
  refine (C1 _ N1.out).out.mono ?_; rintro e w' ⟨rfl, rfl⟩
  go_wp2_with fail
  refine (C2 _ N1.out).out.mono ?_; rintro e w' ⟨rfl, rfl⟩
  go_wp2_with fail
  refine (C3 _ N1.out).out.mono ?_; rintro e w' ⟨rfl, rfl⟩
  go_wp2_with (refine wpList_store_row rfl 226 _ _ rfl (w.heap.size + 1) _ rfl rfl 226 _ N2.out hsi hz hone ?_)
  refine bodyPost_ret (v := .agg _) ?_ rfl ⟨rfl, MB.out⟩
  exact results_cell_row rfl _ _ (w.heap.size + 1) 226 _ (0, 0) _ rfl MS.out Tryz.underlying226 rfl hsi
theorem columns_impl (h : Nat → UInt8) (w : World) :
    Calls Tryz.prog 191 #[.agg (stA h)] w fun e w' => e = .returned (.agg (clA (colH h))) ∧ Below w.heap.size w w' :=
  columns_is h _ _ _ _ rfl rfl rfl rfl w
theorem own_heap {w : World} {base g n : Nat} {e : TypeId} {xs : List Value} (h : w.ownsRow base e 1 (.slice (some ⟨g, 0, none⟩) n n) n xs) : w.heap[g]? = some (.cells xs.toArray e (0, 0)) := by
  rcases h.2 with ⟨hv, _⟩ | ⟨g', cap, cur, hv, hb, hg, hn, hc, hs, ht⟩
  · cases hv
  · injection hv with h1 h2 h3
    injection h1 with h1
    injection h1 with h1
    subst h1 h3
    rw [hg, ← ht]
    rw [List.take_of_length_le (by simp; omega)]
theorem three_at (w : World) (A B C : Array Value) (t u v : TypeId) {W : World} (hW : ((w.alloc (.cells A t)).alloc (.cells B u)).alloc (.cells C v) = W) :
    W.heap[w.heap.size]? = some (.cells A t (0, 0)) ∧ W.heap[w.heap.size + 1]? = some (.cells B u (0, 0)) ∧ W.heap[w.heap.size + 1 + 1]? = some (.cells C v (0, 0)) ∧ Below w.heap.size w W := by
  subst hW
  refine ⟨?_, ?_, ?_, ?_⟩
  · rw [heap_alloc_old _ _ (by simp; omega), heap_alloc_old _ _ (by simp), heap_alloc_new]
  · rw [heap_alloc_old _ _ (by simp), heap_alloc2_new]
  · have := heap_alloc_new ((w.alloc (.cells A t)).alloc (.cells B u)) (.cells C v)
    simpa using this
  · exact (((Below.refl _ _).alloc (Nat.le_refl _) _).alloc (by simp) _).alloc (by simp; omega) _
theorem index_cl4 (c : Nat → UInt32) (W : World) : (Instr.index 131 (.agg (clA c)) (.int .i64 0)).run Tryz.prog W = .ok (.int .u32 ((c 0).toNat : Int)) W ∧ (Instr.index 131 (.agg (clA c)) (.int .i64 1)).run Tryz.prog W = .ok (.int .u32 ((c 1).toNat : Int)) W ∧ (Instr.index 131 (.agg (clA c)) (.int .i64 2)).run Tryz.prog W = .ok (.int .u32 ((c 2).toNat : Int)) W ∧ (Instr.index 131 (.agg (clA c)) (.int .i64 3)).run Tryz.prog W = .ok (.int .u32 ((c 3).toNat : Int)) W :=
  ⟨by kernel_rfl, by kernel_rfl, by kernel_rfl, by kernel_rfl⟩
theorem index_cl (c : Nat → UInt32) (k : Nat) (hk : k < 4) (W : World) : (Instr.index 131 (.agg (clA c)) (.int .i64 (k : Int))).run Tryz.prog W = .ok (.int .u32 ((c k).toNat : Int)) W := by
  have h4 : k = 0 ∨ k = 1 ∨ k = 2 ∨ k = 3 := by omega
  rcases h4 with rfl | rfl | rfl | rfl
  · exact (index_cl4 c W).1
  · exact (index_cl4 c W).2.1
  · exact (index_cl4 c W).2.2.1
  · exact (index_cl4 c W).2.2.2
theorem blk_st (c : Nat → UInt32) : (cells8 (blkTo c 4)).toArray = stA (byH c) := by
  rw [blkTo_4]; rfl
theorem blk_zero (c : Nat → UInt32) : zero16.toList = cells8 (blkTo c 0) := rfl
set_option maxRecDepth 100000 in
set_option maxHeartbeats 1600000 in
theorem cstate_impl (c : Nat → UInt32) (w : World) :
    Calls Tryz.prog 188 #[.agg (clA c)] w fun e w' => e = .returned (.agg (stA (byH c))) ∧ Below w.heap.size w w' := by
  obtain ⟨W, hW⟩ : ∃ W, ((w.alloc (.cells (clA c) 226)).alloc (.cells zero16 146)).alloc (.cells zero16 146) = W := ⟨_, rfl⟩
  obtain ⟨n1, n2, n3, n4⟩ := three_at w (clA c) zero16 zero16 226 146 146 hW
  obtain ⟨c0, c1, c2, c3⟩ := CAt.cells n1
  have HI := Lib.hid (index_cl c)
  have HO : Hid (W.ownsRow w.heap.size 146 1 (.slice (some ⟨w.heap.size + 1 + 1, 0, none⟩) 16 16) 16 (cells8 (blkTo c 0))) := Lib.hid ⟨by rw [← blk_zero]; rfl, .inr ⟨_, 16, zero16, rfl, by omega, n3, Nat.le_refl _, by decide, rfl, by rw [← blk_zero]; rfl⟩⟩
  have N2 := Lib.hid n2
  have N4 := Lib.hid n4
  have hsi := stA_info (byH c)
  have hz : zero16.size = (stA (byH c)).size := by rw [stA_size]; rfl
  have hone := stA_one (byH c)
  clear n1 n2 n3 n4
  unfold clA at HI hW ⊢
  unfold zero16 at hW
  go_enter Tryz.func188, Tryz.ntmps188
  go_wp2
  clear c0 c1 c2 c3 hW
  go_loopw [15] (fun v wr => ∃ k : Nat, k ≤ 4 ∧ v = .int .i64 k ∧ wr.ownsRow w.heap.size 146 1 (.slice (some ⟨w.heap.size + 1 + 1, 0, none⟩) 16 16) 16 (cells8 (blkTo c k)) ∧ wr.heap[w.heap.size + 1]? = some (.cells zero16 146 (0, 0)) ∧ Below w.heap.size w wr) (fun v _ => 4 - (intOf v).toNat)
  case atStart => exact ⟨0, by omega, rfl, HO.out, N2.out, N4.out⟩
  case round =>
    obtain ⟨k, hk, rfl, hown, hz1, hbel⟩ := hrel
    by_cases hlt : k < 4
    · have hk1 : (k : Int) < 4 := by omega
      have hk0 : (0 : Int) ≤ (k : Int) := by omega
      have hix := HI.out k hlt
      have HP := Lib.hid (put_impl (t := 146) (w.heap.size + 1 + 1) 16 16 (4 * k) (blkTo c k) (c k) w.heap.size wr (by omega) (by omega) (by omega) hown)
      rw [show ((4 * k : Nat) : Int) = 4 * (k : Int) by omega, blkTo_put c k hlt] at HP
      have hg2 := (hown.lt _ rfl).2
      have HZ1 := Lib.hid hz1
      have HBL := Lib.hid hbel
      have q : IntKind.i64.wrap (4 * (k : Int)) = 4 * (k : Int) := IntWalk.i64_in _ (by omega)
      clear hown hz1 hbel HI HO
      go_wp2_with fail
      refine HP.out.mono ?_; rintro e w2 ⟨rfl, hown2, hgr2⟩
      have HZ2 : Hid (w2.heap[w.heap.size + 1]? = some (.cells zero16 146 (0, 0))) := Lib.hid ((hgr2.block _ (by omega) (by simp)).trans HZ1.out)
      have HB2 : Hid (Below w.heap.size w w2) := Lib.hid (below_only HBL.out hgr2 (by omega) HBL.out.size)
      have HO2 := Lib.hid hown2
      clear hown2 hgr2 HP HZ1 HBL
      go_wp2
      go_roundw
      case rel => exact ⟨k + 1, by omega, by go_num, HO2.out, HZ2.out, HB2.out⟩
      case measure => simp [intOf]; omega
    · obtain rfl : k = 4 := by omega
      have G3 := Lib.hid (own_heap hown)
      rw [blk_st] at G3
      have HSR := Lib.hid (setRow_heap wr _ _ (stA (byH c)) _ _ hz1)
      have hbs : Hid (Below w.heap.size w (wr.setRow (w.heap.size + 1) (stA (byH c)))) := Lib.hid (below_setRow hbel (by omega) _)
      have G2 := Lib.hid hz1
      clear hown hz1 hbel HI HO N2 N4
      generalize hR : stA (byH c) = R at *
      have HR := Lib.hid hR
      clear hR
      generalize zero16 = Z at *
      go_wp2_with (first
        | (refine wpList_load_row rfl 146 _ rfl (w.heap.size + 1 + 1) rfl 146 R (0, 0) _ G3.out Tryz.underlying146 rfl hsi ?_)
        | (refine wpList_store_row rfl 146 _ _ rfl (w.heap.size + 1) R rfl rfl 146 Z G2.out hsi hz hone ?_))
      refine bodyPost_ret (v := .agg R) ?_ rfl ⟨by rw [HR.out], hbs.out⟩
      exact results_cell_row rfl _ _ (w.heap.size + 1) 146 R (0, 0) _ rfl HSR.out Tryz.underlying146 rfl hsi
end Go.Proofs.YtbfmbdohebdbaaaGreatDoor
set_option linter.unusedVariables false
set_option linter.unusedSimpArgs false
namespace Go.Proofs.YtbfmbdohebdbaaaGreatDoor
open Go.RowKit

/-- what the package's other table of factors holds. -/
def MxF (w : World) : Prop := Fac4 w 1 mxF
theorem MxF.below {w w' : World} {B : Nat} (h : MxF w) (hb : Below B w w') (hB : w.heap.size ≤ B) : MxF w' := Fac4.below h hb (Nat.lt_of_lt_of_le h.1 hB)
set_option maxRecDepth 100000 in
set_option maxHeartbeats 800000 in
theorem mixcol_impl (x y : UInt32) (hy : mxW x = y) (w : World) (hf : MxF w) :
    Calls Tryz.prog 197 #[.int .u32 x.toNat] w fun e w' => e = .returned (.int .u32 y.toNat) ∧ Below w.heap.size w w' := by
  have HM : ∀ W, Hid (Calls Tryz.prog 153 #[.int .u32 x.toNat, .agg (fac mxF)] W fun e w' => e = .returned (.int .u32 y.toNat) ∧ Below W.heap.size W w') := fun W => Lib.hid (by rw [← hy]; exact mix_impl x mxF W)
  obtain ⟨_, c0, c1, c2, c3⟩ := hf
  unfold fac at HM
  generalize mxF = f at *
  clear hy
  go_enter Tryz.func197, Tryz.ntmps197
  go_wp2_with fail
  refine (HM _).out.mono ?_; rintro e w' ⟨rfl, hb⟩
  go_wp2
  go_ret
  exact ⟨rfl, hb⟩
theorem CAt.cells4 {w : World} {g : Nat} {x0 x1 x2 x3 : UInt32} (h : CAt w g (cl4 x0 x1 x2 x3)) : w.cell? ⟨g, 0, none⟩ = some (.int .u32 (x0.toNat : Int)) ∧ w.cell? ⟨g, 1, none⟩ = some (.int .u32 (x1.toNat : Int)) ∧ w.cell? ⟨g, 2, none⟩ = some (.int .u32 (x2.toNat : Int)) ∧ w.cell? ⟨g, 3, none⟩ = some (.int .u32 (x3.toNat : Int)) :=
  ⟨(cell_of_row w g 0 _ _ _ h).trans rfl, (cell_of_row w g 1 _ _ _ h).trans rfl, (cell_of_row w g 2 _ _ _ h).trans rfl, (cell_of_row w g 3 _ _ _ h).trans rfl⟩
/-- what stays while the columns are mixed one by one. -/
def Mixing (w : World) (x0 x1 x2 x3 : UInt32) (W : World) : Prop := CAt W w.heap.size (cl4 x0 x1 x2 x3) ∧ (∃ Z : Array Value, Z.size = 4 ∧ CAt W (w.heap.size + 1) Z) ∧ Below w.heap.size w W
theorem Mixing.next {w W W' : World} {x0 x1 x2 x3 : UInt32} (h : Mixing w x0 x1 x2 x3 W) (hb : Below W.heap.size W W') : Mixing w x0 x1 x2 x3 W' := ⟨h.1.below hb, h.2.1.elim (fun Z hZ => ⟨Z, hZ.1, hZ.2.below hb⟩), h.2.2.trans (hb.mono h.2.2.size)⟩
theorem Mixing.new (w : World) (x0 x1 x2 x3 : UInt32) : Mixing w x0 x1 x2 x3 (((w.alloc (.cells (cl4 x0 x1 x2 x3) 226)).alloc (.cells zero4 226)).drew) := by
  obtain ⟨n1, n2, n3, _⟩ := two_new w (cl4 x0 x1 x2 x3) zero4 226 226
  exact ⟨n1, ⟨zero4, rfl, n2⟩, n3.drew⟩
set_option maxRecDepth 100000 in
set_option maxHeartbeats 3200000 in
theorem cmixed_is (x0 x1 x2 x3 y0 y1 y2 y3 : UInt32) (e0 : mxW x0 = y0) (e1 : mxW x1 = y1) (e2 : mxW x2 = y2) (e3 : mxW x3 = y3) (w : World) (hf : MxF w) :
    Calls Tryz.prog 192 #[.agg (cl4 x0 x1 x2 x3)] w fun e w' => e = .returned (.agg (cl4 y0 y1 y2 y3)) ∧ Below w.heap.size w w' := by
  have C0 := fun W hW => Lib.hid (mixcol_impl x0 y0 e0 W hW)
  have C1 := fun W hW => Lib.hid (mixcol_impl x1 y1 e1 W hW)
  have C2 := fun W hW => Lib.hid (mixcol_impl x2 y2 e2 W hW)
  have C3 := fun W hW => Lib.hid (mixcol_impl x3 y3 e3 W hW)
  clear e0 e1 e2 e3
  have HF : Hid (∀ W, Below w.heap.size w W → MxF W) := Lib.hid (fun W hW => hf.below hW (Nat.le_refl _))
  have hsi := cl4_info y0 y1 y2 y3
  have hone := cl4_one y0 y1 y2 y3
  have hS0 := Lib.hid (Mixing.new w x0 x1 x2 x3)
  clear hf
  unfold cl4 zero4 at hS0
  unfold cl4
  go_enter Tryz.func192, Tryz.ntmps192
  go_wp2
  refine wp_region_held_drew (S := Mixing w x0 x1 x2 x3) (by kernel_rfl) hS0.out (fun hS1 => ?_)
  refine tk 0 (v := ?_) ?_ (by assumption) ?_
  rotate_left
  · intro w hSw
    go_simp
    first | done | with_reducible rfl
  try simp only [lay]
  refine tk 1 (v := ?_) ?_ (by assumption) ?_
  rotate_left
  · intro w hSw
    obtain ⟨s0, _, _⟩ := hSw
    obtain ⟨d0, d1, d2, d3⟩ := s0.cells4
    clear s0
    go_simp
    first | done | with_reducible rfl
  try simp only [lay]
  refine tk 3 (v := ?_) ?_ (by assumption) ?_
  rotate_left
  · intro w hSw
    go_simp
    first | done | with_reducible rfl
  try simp only [lay]
  refine tk 4 (v := ?_) ?_ (by assumption) ?_
  rotate_left
  · intro w hSw
    obtain ⟨s0, _, _⟩ := hSw
    obtain ⟨d0, d1, d2, d3⟩ := s0.cells4
    clear s0
    go_simp
    first | done | with_reducible rfl
  try simp only [lay]
  refine tk 6 (v := ?_) ?_ (by assumption) ?_
  rotate_left
  · intro w hSw
    go_simp
    first | done | with_reducible rfl
  try simp only [lay]
  refine tk 7 (v := ?_) ?_ (by assumption) ?_
  rotate_left
  · intro w hSw
    obtain ⟨s0, _, _⟩ := hSw
    obtain ⟨d0, d1, d2, d3⟩ := s0.cells4
    clear s0
    go_simp
    first | done | with_reducible rfl
  try simp only [lay]
  refine tk 9 (v := ?_) ?_ (by assumption) ?_
  rotate_left
  · intro w hSw
    go_simp
    first | done | with_reducible rfl
  try simp only [lay]
  refine tk 10 (v := ?_) ?_ (by assumption) ?_
  rotate_left
  · intro w hSw
    obtain ⟨s0, _, _⟩ := hSw
    obtain ⟨d0, d1, d2, d3⟩ := s0.cells4
    clear s0
    go_simp
    first | done | with_reducible rfl
  try simp only [lay]
  refine wpAnyH_ready (rs := [2]) (by kernel_rfl) (by simp) ?_
  refine AllReadyH.cons rfl (fun K hK => ?_) AllReadyH.nil
  go_simp
  refine (C0 _ (HF.out _ hS1.2.2)).out.mono ?_; rintro e w2 ⟨rfl, hb⟩
  have hS2 := hS1.next hb
  clear hb
  refine hK.out _ _ hS2 (fun hS2 => ?_)
  clear hK K
  try simp only [lay]
  refine wpAnyH_ready (rs := [5]) (by kernel_rfl) (by simp) ?_
  refine AllReadyH.cons rfl (fun K hK => ?_) AllReadyH.nil
  go_simp
  refine (C1 _ (HF.out _ hS2.2.2)).out.mono ?_; rintro e w3 ⟨rfl, hb⟩
  have hS3 := hS2.next hb
  clear hb
  refine hK.out _ _ hS3 (fun hS3 => ?_)
  clear hK K
  try simp only [lay]
  refine wpAnyH_ready (rs := [8]) (by kernel_rfl) (by simp) ?_
  refine AllReadyH.cons rfl (fun K hK => ?_) AllReadyH.nil
  go_simp
  refine (C2 _ (HF.out _ hS3.2.2)).out.mono ?_; rintro e w4 ⟨rfl, hb⟩
  have hS4 := hS3.next hb
  clear hb
  refine hK.out _ _ hS4 (fun hS4 => ?_)
  clear hK K
  try simp only [lay]
  refine wpAnyH_ready (rs := [11]) (by kernel_rfl) (by simp) ?_
  refine AllReadyH.cons rfl (fun K hK => ?_) AllReadyH.nil
  go_simp
  refine (C3 _ (HF.out _ hS4.2.2)).out.mono ?_; rintro e w5 ⟨rfl, hb⟩
  have hS5 := hS4.next hb
  clear hb
  refine hK.out _ _ hS5 (fun hS5 => ?_)
  clear hK K
  try simp only [lay]
  refine tk 12 (v := ?_) ?_ (by assumption) ?_
  rotate_left
  · intro w hSw
    go_simp
    first | done | with_reducible rfl
  try simp only [lay]
  obtain ⟨Z, hZ, hCZ⟩ := hS5.2.1
  have hz : Z.size = (cl4 y0 y1 y2 y3).size := by rw [hZ]; rfl
  have MS := setRow_heap w5 _ _ (cl4 y0 y1 y2 y3) _ _ hCZ
  have MB := below_setRow hS5.2.2 (show w.heap.size ≤ w.heap.size + 1 by omega) (cl4 y0 y1 y2 y3)
  have MC : CAt (w5.setRow (w.heap.size + 1) (cl4 y0 y1 y2 y3)) w.heap.size (cl4 x0 x1 x2 x3) := (setRow_other w5 (w.heap.size + 1) w.heap.size _ (by omega)).trans hS5.1
  refine wpAnyH_ready (rs := [13]) (by kernel_rfl) (by simp) ?_
  refine AllReadyH.cons rfl (fun K hK => ?_) AllReadyH.nil
  refine wp_store_row 226 _ _ rfl (w.heap.size + 1) (cl4 y0 y1 y2 y3) rfl rfl 226 Z hCZ hsi hz hone ?_
  refine hK.out _ _ ⟨MC, ⟨_, rfl, MS⟩, MB⟩ (fun hS6 => ?_)
  clear hK K
  try simp only [lay]
  refine wpAnyH_done (by kernel_rfl) ?_ _
  have MS2 := Lib.hid MS
  have MB2 := Lib.hid MB
  clear MS MB MC hS6 hCZ hz hS1 hS2 hS3 hS4 hS5 hS0 HF C0 C1 C2 C3
  go_wp2
  refine bodyPost_ret (v := .agg _) ?_ rfl ⟨rfl, MB2.out⟩
  exact results_cell_row rfl _ _ (w.heap.size + 1) 226 _ (0, 0) _ rfl MS2.out Tryz.underlying226 rfl hsi
end Go.Proofs.YtbfmbdohebdbaaaGreatDoor
set_option linter.unusedVariables false
set_option linter.unusedSimpArgs false
namespace Go.Proofs.YtbfmbdohebdbaaaGreatDoor
open Go.RowKit

theorem cl_size (c : Nat → UInt32) : (clA c).size = 4 := rfl
def mxC (c : Nat → UInt32) : Nat → UInt32 := fun j => mxW (c j)
theorem cmixed_impl (c : Nat → UInt32) (w : World) (hf : MxF w) :
    Calls Tryz.prog 192 #[.agg (clA c)] w fun e w' => e = .returned (.agg (clA (mxC c))) ∧ Below w.heap.size w w' :=
  cmixed_is (c 0) (c 1) (c 2) (c 3) _ _ _ _ rfl rfl rfl rfl w hf
set_option maxRecDepth 100000 in
set_option maxHeartbeats 800000 in
theorem smixed_of (A B C R : Array Value) (hsA : (Tryz.prog.info? 146).map (·.size) = some A.size) (hsR : (Tryz.prog.info? 146).map (·.size) = some R.size) (hz : zero16.size = R.size) (hone : R.all (·.oneCell') = true) (w : World)
    (K1 : ∀ W, Hid (Calls Tryz.prog 191 #[.agg A] W fun e w' => e = .returned (.agg B) ∧ Below W.heap.size W w'))
    (K2 : ∀ W, Below w.heap.size w W → Hid (Calls Tryz.prog 192 #[.agg B] W fun e w' => e = .returned (.agg C) ∧ Below W.heap.size W w'))
    (K3 : ∀ W, Hid (Calls Tryz.prog 188 #[.agg C] W fun e w' => e = .returned (.agg R) ∧ Below W.heap.size W w')) :
    Calls Tryz.prog 180 #[.agg A] w fun e w' => e = .returned (.agg R) ∧ Below w.heap.size w w' := by
  obtain ⟨n1, n2, n3, n4⟩ := two_new w A zero16 146 146
  unfold zero16 at n1 n2 n3 n4 hz
  have N1 := Lib.hid n1
  have N2 := Lib.hid n2
  have N3 := Lib.hid n3
  have N4 := Lib.hid n4
  clear n1 n2 n3 n4
  go_enter Tryz.func180, Tryz.ntmps180
  go_wp2_with (refine wpList_load_row rfl 146 _ rfl w.heap.size rfl 146 A (0, 0) _ N1.out Tryz.underlying146 rfl hsA ?_)
  refine (K1 _).out.mono ?_; rintro e w1 ⟨rfl, hb1⟩
  have B1 := Lib.hid (N3.out.trans (hb1.mono (by rw [N4.out]; omega)))
  have M1 := Lib.hid ((hb1.block (w.heap.size + 1) (by rw [N4.out]; omega)).trans N2.out)
  have S1 : Hid (w.heap.size + 1 + 1 ≤ w1.heap.size) := Lib.hid (by have := hb1.size; rw [N4.out] at this; exact this)
  clear hb1 N1 N2 N3 N4
  go_wp2_with fail
  refine (K2 _ B1.out).out.mono ?_; rintro e w2 ⟨rfl, hb2⟩
  have S1' := S1.out
  have B2 := Lib.hid (B1.out.trans (hb2.mono B1.out.size))
  have M2 := Lib.hid ((hb2.block (w.heap.size + 1) (by omega)).trans M1.out)
  have S2 : Hid (w.heap.size + 1 + 1 ≤ w2.heap.size) := Lib.hid (by have := hb2.size; omega)
  clear hb2 B1 M1 S1 S1'
  go_wp2_with fail
  refine (K3 _).out.mono ?_; rintro e w3 ⟨rfl, hb3⟩
  have S2' := S2.out
  have M3 := Lib.hid ((hb3.block (w.heap.size + 1) (by omega)).trans M2.out)
  have MS := Lib.hid (setRow_heap w3 _ _ R _ _ M3.out)
  have MB : Hid (Below w.heap.size w (w3.setRow (w.heap.size + 1) R)) := Lib.hid (below_setRow (B2.out.trans (hb3.mono B2.out.size)) (by omega) _)
  clear hb3 B2 M2 S2 S2'
  go_wp2_with (refine wpList_store_row rfl 146 _ _ rfl (w.heap.size + 1) R rfl rfl 146 _ M3.out hsR hz hone ?_)
  refine bodyPost_ret (v := .agg R) ?_ rfl ⟨rfl, MB.out⟩
  exact results_cell_row rfl _ _ (w.heap.size + 1) 146 R (0, 0) _ rfl MS.out Tryz.underlying146 rfl hsR
/-- the bytes of a block whose columns are mixed. -/
def mxH (h : Nat → UInt8) : Nat → UInt8 := byH (mxC (colH h))
theorem smixed_impl (h : Nat → UInt8) (w : World) (hf : MxF w) :
    Calls Tryz.prog 180 #[.agg (stA h)] w fun e w' => e = .returned (.agg (stA (mxH h))) ∧ Below w.heap.size w w' :=
  smixed_of (stA h) (clA (colH h)) (clA (mxC (colH h))) (stA (mxH h)) (stA_info h) (stA_info _) (by rw [stA_size]; rfl) (stA_one _) w
    (fun W => Lib.hid (columns_impl h W)) (fun W hW => Lib.hid (cmixed_impl _ W (hf.below hW (Nat.le_refl _)))) (fun W => Lib.hid (cstate_impl _ W))
/-- four words are those four words. -/
def same4 (x y : Nat → UInt32) : Prop := x 0 = y 0 ∧ x 1 = y 1 ∧ x 2 = y 2 ∧ x 3 = y 3
instance (x y : Nat → UInt32) : Decidable (same4 x y) := inferInstanceAs (Decidable (x 0 = y 0 ∧ x 1 = y 1 ∧ x 2 = y 2 ∧ x 3 = y 3))
theorem neq_cl (x y : Nat → UInt32) (W : World) : (binOp .neq 226 (.agg (clA x)) (.agg (clA y))).run Tryz.prog W = .ok (.bool (!decide (same4 x y))) W := by
  have e : ∀ a b : UInt32, ((a.toNat : Int) = (b.toNat : Int)) = (a = b) := fun a b => by rw [Int.natCast_inj, UInt32.toNat_inj]
  unfold clA
  go_simp
  unfold same4
  by_cases h0 : x 0 = y 0 <;> by_cases h1 : x 1 = y 1 <;> by_cases h2 : x 2 = y 2 <;> by_cases h3 : x 3 = y 3 <;> simp [h0, h1, h2, h3]
theorem exec_neq (x y : Nat → UInt32) (ρ : Operand → Value) (o : Oper) (W : World) (p q : Operand) (b : Bool) (hb : (!decide (same4 x y)) = b) (ho : o.op = .binOp .neq 226 p q 226) (hp : ρ p = .agg (clA x)) (hq : ρ q = .agg (clA y)) :
    (execOp ρ o).run Tryz.prog W = .ok (.value (.bool b)) W := by
  subst hb
  have hm : Tryz.prog.eqGuardType Tryz.prog.depth 226 = false := by kernel_rfl
  have h := neq_cl x y W
  unfold execOp
  simp only [ho, hp, hq, Sem.run_bind, run_eqGuard_agg _ _ _ _ _ _ _ hm, Result.andThen_ok, h, Sem.run_pure]
/-- how often four words must still be mixed until they are s. -/
def away (s n : Nat → UInt32) : Nat := if same4 n s then 0 else if same4 (mxC n) s then 1 else if same4 (mxC (mxC n)) s then 2 else 3
def reach (s n : Nat → UInt32) : Prop := same4 n s ∨ same4 (mxC n) s ∨ same4 (mxC (mxC n)) s ∨ same4 (mxC (mxC (mxC n))) s
theorem reach_next {s n : Nat → UInt32} (r : reach s n) (h : ¬ same4 n s) : reach s (mxC n) := by
  rcases r with r | r | r | r
  · exact absurd r h
  · exact .inl r
  · exact .inr (.inl r)
  · exact .inr (.inr (.inl r))
theorem away_less {s n : Nat → UInt32} (r : reach s n) (h : ¬ same4 n s) : away s (mxC n) < away s n := by
  unfold away
  rw [if_neg h]
  by_cases h1 : same4 (mxC n) s
  · rw [if_pos h1, if_pos h1]; omega
  · rw [if_neg h1, if_neg h1]
    by_cases h2 : same4 (mxC (mxC n)) s
    · rw [if_pos h2, if_pos h2]; omega
    · rw [if_neg h2, if_neg h2]
      have h3 : same4 (mxC (mxC (mxC n))) s := by
        rcases r with r | r | r | r
        · exact absurd r h
        · exact absurd r h1
        · exact absurd r h2
        · exact r
      rw [if_pos h3]; omega
theorem reach_first (s : Nat → UInt32) : reach s (mxC s) := by
  have h : ∀ j, mxC (mxC (mxC (mxC s))) j = s j := fun j => by show mxW (mxW (mxW (mxW (s j)))) = s j; exact mx_four (s j)
  exact .inr (.inr (.inr ⟨h 0, h 1, h 2, h 3⟩))
theorem away_congr (s n m : Nat → UInt32) (h0 : n 0 = m 0) (h1 : n 1 = m 1) (h2 : n 2 = m 2) (h3 : n 3 = m 3) : away s n = away s m := by
  have i0 : same4 n s ↔ same4 m s := by unfold same4; rw [h0, h1, h2, h3]
  have k0 : ∀ (a b : Nat → UInt32), a 0 = b 0 → a 1 = b 1 → a 2 = b 2 → a 3 = b 3 → mxC a 0 = mxC b 0 ∧ mxC a 1 = mxC b 1 ∧ mxC a 2 = mxC b 2 ∧ mxC a 3 = mxC b 3 := fun a b p0 p1 p2 p3 => ⟨congrArg mxW p0, congrArg mxW p1, congrArg mxW p2, congrArg mxW p3⟩
  obtain ⟨a0, a1, a2, a3⟩ := k0 n m h0 h1 h2 h3
  obtain ⟨b0, b1, b2, b3⟩ := k0 _ _ a0 a1 a2 a3
  have i1 : same4 (mxC n) s ↔ same4 (mxC m) s := by unfold same4; rw [a0, a1, a2, a3]
  have i2 : same4 (mxC (mxC n)) s ↔ same4 (mxC (mxC m)) s := by unfold same4; rw [b0, b1, b2, b3]
  unfold away
  simp only [i0, i1, i2]
/-- the cells of the block that a pointer stands at. -/
def ptrAt (w : World) (v : Value) : Array Value := match v with
  | .pointer (some p) => match w.heap[p.block]? with
    | some (.cells cs _ _) => cs
    | _ => #[]
  | _ => #[]
theorem ptrAt_c {w : World} {g : Nat} {cs : Array Value} (h : CAt w g cs) : ptrAt w (.pointer (some ⟨g, 0, none⟩)) = cs := by
  unfold ptrAt
  simp only []
  rw [h]
def dec4 (cs : Array Value) : Nat → UInt32 := fun j => w32 (intOf (cs.getD j undef))
theorem away_at {w : World} {g : Nat} {n s : Nat → UInt32} (h : CAt w g (clA n)) : away s (dec4 (ptrAt w (.pointer (some ⟨g, 0, none⟩)))) = away s n := by
  rw [ptrAt_c h]
  have d0 : dec4 (clA n) 0 = n 0 := by show w32 ((n 0).toNat : Int) = n 0; exact w32_of _
  have d1 : dec4 (clA n) 1 = n 1 := by show w32 ((n 1).toNat : Int) = n 1; exact w32_of _
  have d2 : dec4 (clA n) 2 = n 2 := by show w32 ((n 2).toNat : Int) = n 2; exact w32_of _
  have d3 : dec4 (clA n) 3 = n 3 := by show w32 ((n 3).toNat : Int) = n 3; exact w32_of _
  exact away_congr s _ _ d0 d1 d2 d3
theorem alloc_set (w : World) (Z B : Array Value) (T : TypeId) : (((w.alloc (.cells Z T)).setRow w.heap.size B)).heap[w.heap.size]? = some (.cells B T (0, 0)) ∧ Below w.heap.size w ((w.alloc (.cells Z T)).setRow w.heap.size B) ∧ ((w.alloc (.cells Z T)).setRow w.heap.size B).heap.size = w.heap.size + 1 :=
  ⟨setRow_heap _ _ _ _ _ _ (heap_alloc_new w _), below_setRow ((Below.refl _ _).alloc (Nat.le_refl _) _) (Nat.le_refl _) _, by simp⟩
set_option maxRecDepth 100000 in
set_option maxHeartbeats 3200000 in
theorem unmixed_of (A R : Array Value) (s : Nat → UInt32) (hsA : (Tryz.prog.info? 146).map (·.size) = some A.size) (hsR : (Tryz.prog.info? 146).map (·.size) = some R.size) (hz : zero16.size = R.size) (hone : R.all (·.oneCell') = true) (w : World) (hf : MxF w)
    (K1 : ∀ W, Hid (Calls Tryz.prog 191 #[.agg A] W fun e w' => e = .returned (.agg (clA s)) ∧ Below W.heap.size W w'))
    (K3 : ∀ a, same4 (mxC a) s → ∀ W, Hid (Calls Tryz.prog 188 #[.agg (clA a)] W fun e w' => e = .returned (.agg R) ∧ Below W.heap.size W w')) :
    Calls Tryz.prog 177 #[.agg A] w fun e w' => e = .returned (.agg R) ∧ Below w.heap.size w w' := by
  have HF : Hid (∀ W, Below w.heap.size w W → MxF W) := Lib.hid (fun W hW => hf.below hW (Nat.le_refl _))
  have K2 := fun a W hW => Lib.hid (cmixed_impl a W (HF.out W hW))
  obtain ⟨n1, n2, n3, n4⟩ := two_new w A zero16 146 146
  unfold zero16 at n1 n2 n3 n4 hz
  have N1 := Lib.hid n1
  have N2 := Lib.hid n2
  have N3 := Lib.hid n3
  have N4 := Lib.hid n4
  clear n1 n2 n3 n4 hf
  have hci := cl_info s
  have hco := cl_one s
  have hzc : zero4.size = (clA s).size := by rw [cl_size]; rfl
  unfold zero4 at hzc
  go_enter Tryz.func177, Tryz.ntmps177
  go_wp2_with (refine wpList_load_row rfl 146 _ rfl w.heap.size rfl 146 A (0, 0) _ N1.out Tryz.underlying146 rfl hsA ?_)
  refine (K1 _).out.mono ?_; rintro e w1 ⟨rfl, hb1⟩
  have B1 := Lib.hid (N3.out.trans (hb1.mono (by rw [N4.out]; omega)))
  have M1 := Lib.hid ((hb1.block (w.heap.size + 1) (by rw [N4.out]; omega)).trans N2.out)
  have S1 : Hid (w.heap.size + 1 + 1 ≤ w1.heap.size) := Lib.hid (by have := hb1.size; rw [N4.out] at this; exact this)
  clear hb1 N1 N2 N3 N4
  have f1 := heap_alloc_new w1 (.cells zero4 226)
  obtain ⟨f2, b2, z2⟩ := alloc_set w1 zero4 (clA s) 226
  obtain ⟨f4, b4, z4⟩ := alloc_set ((w1.alloc (.cells zero4 226)).setRow w1.heap.size (clA s)) zero4 (clA s) 226
  have f3 := heap_alloc_new ((w1.alloc (.cells zero4 226)).setRow w1.heap.size (clA s)) (.cells zero4 226)
  rw [z2] at f3 f4 b4 z4
  have f5 := (b4.block w1.heap.size (by omega)).trans f2
  have b5 := b2.trans (b4.mono (by omega))
  unfold zero4 at f1 f2 f3 f4 f5 b5 z4
  have F1 := Lib.hid f1
  have F2 := Lib.hid f2
  have F3 := Lib.hid f3
  have F4 := Lib.hid f4
  have F5 := Lib.hid f5
  have B5 := Lib.hid b5
  have Z5 := Lib.hid z4
  clear f1 f2 f3 f4 f5 b2 b4 b5 z2 z4
  go_wp2_with (first
    | (refine wpList_store_row rfl 226 _ _ rfl w1.heap.size (clA s) rfl rfl 226 _ F1.out hci hzc hco ?_)
    | (refine wpList_load_row rfl 226 _ rfl w1.heap.size rfl 226 (clA s) (0, 0) _ F2.out Tryz.underlying226 rfl hci ?_)
    | (refine wpList_store_row rfl 226 _ _ rfl (w1.heap.size + 1) (clA s) rfl rfl 226 _ F3.out hci hzc hco ?_)
    | (refine wpList_load_row rfl 226 _ rfl (w1.heap.size + 1) rfl 226 (clA s) (0, 0) _ F4.out Tryz.underlying226 rfl hci ?_))
  have BV : Hid (Below w.heap.size w ((((w1.alloc (.cells #[.int .u32 0, .int .u32 0, .int .u32 0, .int .u32 0] 226)).setRow w1.heap.size (clA s)).alloc (.cells #[.int .u32 0, .int .u32 0, .int .u32 0, .int .u32 0] 226)).setRow (w1.heap.size + 1) (clA s))) := Lib.hid (B1.out.trans (B5.out.mono B1.out.size))
  refine (K2 s _ BV.out).out.mono ?_; rintro e w2 ⟨rfl, hb2⟩
  have S1' := S1.out
  have B2 := Lib.hid (BV.out.trans (hb2.mono BV.out.size))
  have A2 := Lib.hid ((hb2.block (w1.heap.size + 1) (by rw [Z5.out]; omega)).trans F4.out)
  have D2 := Lib.hid ((hb2.block w1.heap.size (by rw [Z5.out]; omega)).trans F5.out)
  have M2 := Lib.hid ((hb2.block (w.heap.size + 1) (by rw [Z5.out]; omega)).trans ((B5.out.block (w.heap.size + 1) (by omega)).trans M1.out))
  have S2 : Hid (w1.heap.size + 1 + 1 ≤ w2.heap.size) := Lib.hid (by have := hb2.size; rw [Z5.out] at this; exact this)
  clear hb2 F1 F2 F3 F4 F5 B5 Z5 BV M1 B1 S1'
  generalize w1.heap.size = gs at *
  have h1 := heap_alloc_new w2 (.cells zero4 226)
  obtain ⟨h2, b2, z2⟩ := alloc_set w2 zero4 (clA (mxC s)) 226
  unfold zero4 at h1 h2 b2 z2
  have H1 := Lib.hid h1
  have H2 := Lib.hid h2
  have H3 := Lib.hid b2
  have H4 := Lib.hid z2
  clear h1 h2 b2 z2
  have hcm := cl_info (mxC s)
  have hcn := cl_one (mxC s)
  have hcz : #[Value.int .u32 0, .int .u32 0, .int .u32 0, .int .u32 0].size = (clA (mxC s)).size := by rw [cl_size]; rfl
  go_wp2_with (refine wpList_store_row rfl 226 _ _ rfl w2.heap.size (clA (mxC s)) rfl rfl 226 _ H1.out hcm hcz hcn ?_)
  clear hcm hcn hcz
  try simp only [lay]
  go_loopw [5] (fun v wr => ∃ (a n : Nat → UInt32) (gn : Nat), v = .pointer (some ⟨gn, 0, none⟩) ∧ CAt wr gs (clA s) ∧ CAt wr (gs + 1) (clA a) ∧ CAt wr gn (clA n) ∧ StAt wr (w.heap.size + 1) zero16 ∧ gs + 1 < gn ∧ Below w.heap.size w wr ∧ n = mxC a ∧ reach s n) (fun v wr => away s (dec4 (ptrAt wr v)))
  case atStart =>
    have s2 := S2.out
    have s1 := S1.out
    exact ⟨s, mxC s, w2.heap.size, rfl, (H3.out.block gs (by omega)).trans D2.out, (H3.out.block (gs + 1) (by omega)).trans A2.out, H2.out, (H3.out.block (w.heap.size + 1) (by omega)).trans M2.out, by omega, B2.out.trans (H3.out.mono B2.out.size), rfl, reach_first s⟩
  case round =>
    obtain ⟨a, n, gn, rfl, hs, ha, hn, hst, hlt, hbel, hna, hr⟩ := hrel
    have HS := Lib.hid hs
    have HA := Lib.hid ha
    have HN := Lib.hid hn
    have HT := Lib.hid hst
    have HB := Lib.hid hbel
    have HL := Lib.hid hlt
    have HR := Lib.hid hr
    have HE := Lib.hid hna
    clear H1 H2 H3 H4 A2 D2 M2 B2 S2 hs ha hn hst hbel hlt hr hna
    by_cases h4 : same4 n s
    · have HD : Hid ((!decide (same4 n s)) = false) := Lib.hid (by rw [decide_eq_true h4]; rfl)
      have K := fun W => K3 a (HE.out ▸ h4) W
      clear h4 K1 K2 K3 HE HR
      go_wp2_with (first
        | (refine Great.wpList_runTo rfl (some 13) rfl (.bool false) wr (exec_neq n s _ _ wr (.tmp 11) (.tmp 12) false HD.out rfl rfl rfl) ?_)
        | (refine wpList_load_row rfl 226 _ rfl gn rfl 226 (clA n) (0, 0) _ HN.out Tryz.underlying226 rfl (cl_info _) ?_)
        | (refine wpList_load_row rfl 226 _ rfl gs rfl 226 (clA s) (0, 0) _ HS.out Tryz.underlying226 rfl (cl_info _) ?_)
        | (refine wpList_load_row rfl 226 _ rfl (gs + 1) rfl 226 (clA a) (0, 0) _ HA.out Tryz.underlying226 rfl (cl_info _) ?_))
      refine (K _).out.mono ?_; rintro e w3 ⟨rfl, hb3⟩
      have M3 := Lib.hid ((hb3.block (w.heap.size + 1) HT.out.lt).trans HT.out)
      have MS := Lib.hid (setRow_heap w3 _ _ R _ _ M3.out)
      have MB : Hid (Below w.heap.size w (w3.setRow (w.heap.size + 1) R)) := Lib.hid (below_setRow (HB.out.trans (hb3.mono HB.out.size)) (by omega) _)
      clear hb3 HB HT HN HS HA K
      go_wp2_with (refine wpList_store_row rfl 146 _ _ rfl (w.heap.size + 1) R rfl rfl 146 _ M3.out hsR hz hone ?_)
      refine bodyPost_ret (v := .agg R) ?_ rfl ⟨rfl, MB.out⟩
      exact results_cell_row rfl _ _ (w.heap.size + 1) 146 R (0, 0) _ rfl MS.out Tryz.underlying146 rfl hsR
    · have HD : Hid ((!decide (same4 n s)) = true) := Lib.hid (by rw [decide_eq_false h4]; rfl)
      have s1 := S1.out
      have hl := HL.out
      have hnlt := HN.out.lt
      have q1 := below_setRow HB.out (show w.heap.size ≤ gs + 1 by omega) (clA n)
      have qn := (setRow_other wr (gs + 1) gn (clA n) (by omega)).trans HN.out
      have qa := setRow_heap wr (gs + 1) _ (clA n) _ _ HA.out
      have qs := (setRow_other wr (gs + 1) gs (clA n) (by omega)).trans HS.out
      have qt := (setRow_other wr (gs + 1) (w.heap.size + 1) (clA n) (by omega)).trans HT.out
      have hzn : zero4.size = (clA n).size := by rw [cl_size]; rfl
      have f1 := heap_alloc_new (wr.setRow (gs + 1) (clA n)) (.cells zero4 226)
      obtain ⟨f2, b2, z2⟩ := alloc_set (wr.setRow (gs + 1) (clA n)) zero4 (clA n) 226
      simp only [setRow_size] at f1 f2 b2
      unfold zero4 at f1 f2 b2 hzn
      clear z2
      obtain ⟨V, hV⟩ : ∃ V, V = (((wr.setRow (gs + 1) (clA n)).alloc (.cells #[.int .u32 0, .int .u32 0, .int .u32 0, .int .u32 0] 226)).setRow wr.heap.size (clA n)) := ⟨_, rfl⟩
      rw [← hV] at f2 b2
      have z2 : V.heap.size = wr.heap.size + 1 := by rw [hV]; simp
      have ra : CAt V (gs + 1) (clA n) := (b2.block (gs + 1) (by omega)).trans qa
      have rs : CAt V gs (clA s) := (b2.block gs (by omega)).trans qs
      have rt : StAt V (w.heap.size + 1) zero16 := (b2.block (w.heap.size + 1) (by omega)).trans qt
      have rb : Below w.heap.size w V := q1.trans (b2.mono (by have := HB.out.size; omega))
      have hxc : (clA n).size = (clA (mxC n)).size := by rw [cl_size, cl_size]
      have haz : (clA a).size = (clA n).size := by rw [cl_size, cl_size]
      have Q1 := Lib.hid qn
      have Q2 := Lib.hid f1
      have RA := Lib.hid ra
      have RV := Lib.hid ra
      have RS := Lib.hid rs
      have RT := Lib.hid rt
      have RB := Lib.hid rb
      have RN := Lib.hid f2
      have RZ := Lib.hid z2
      rw [hV] at RA
      clear ra rs rt rb f1 f2 b2 z2 q1 qn qa qs qt
      have HV := Lib.hid hV
      clear hV
      go_wp2_with (first
        | (refine Great.wpList_runTo rfl (some 13) rfl (.bool true) wr (exec_neq n s _ _ wr (.tmp 11) (.tmp 12) true HD.out rfl rfl rfl) ?_)
        | (refine wpList_load_row rfl 226 _ rfl gn rfl 226 (clA n) (0, 0) _ HN.out Tryz.underlying226 rfl (cl_info _) ?_)
        | (refine wpList_load_row rfl 226 _ rfl gs rfl 226 (clA s) (0, 0) _ HS.out Tryz.underlying226 rfl (cl_info _) ?_)
        | (refine wpList_store_row rfl 226 _ _ rfl (gs + 1) (clA n) rfl rfl 226 (clA a) HA.out (cl_info _) haz (cl_one _) ?_)
        | (refine wpList_load_row rfl 226 _ rfl gn rfl 226 (clA n) (0, 0) _ Q1.out Tryz.underlying226 rfl (cl_info _) ?_)
        | (refine wpList_store_row rfl 226 _ _ rfl wr.heap.size (clA n) rfl rfl 226 _ Q2.out (cl_info _) hzn (cl_one _) ?_)
        | (refine wpList_load_row rfl 226 _ rfl (gs + 1) rfl 226 (clA n) (0, 0) _ RA.out Tryz.underlying226 rfl (cl_info _) ?_))
      rw [← HV.out]
      clear HV Q1 Q2 RA
      refine (K2 n V RB.out).out.mono ?_; rintro e w3 ⟨rfl, hb3⟩
      have z2 := RZ.out
      have hnw := HN.out.lt
      have hgl := HL.out
      have sl := S1.out
      have A3 := (hb3.block (gs + 1) (by rw [z2]; omega)).trans RV.out
      have D3 := (hb3.block gs (by rw [z2]; omega)).trans RS.out
      have T3 := (hb3.block (w.heap.size + 1) (by rw [z2]; omega)).trans RT.out
      have N3 := (hb3.block wr.heap.size (by rw [z2]; omega)).trans RN.out
      have B3 := RB.out.trans (hb3.mono RB.out.size)
      have A4 := Lib.hid ((setRow_other w3 wr.heap.size (gs + 1) (clA (mxC n)) (by omega)).trans A3)
      have D4 := Lib.hid ((setRow_other w3 wr.heap.size gs (clA (mxC n)) (by omega)).trans D3)
      have T4 := Lib.hid ((setRow_other w3 wr.heap.size (w.heap.size + 1) (clA (mxC n)) (by omega)).trans T3)
      have N4 := Lib.hid (setRow_heap w3 wr.heap.size _ (clA (mxC n)) _ _ N3)
      have B4 := Lib.hid (below_setRow B3 (show w.heap.size ≤ wr.heap.size by omega) (clA (mxC n)))
      have HN3 := Lib.hid N3
      have HG : Hid (gs + 1 < wr.heap.size) := Lib.hid (by omega)
      clear A3 D3 T3 N3 B3 hb3 z2 hnw hgl sl RV RS RT RN RB RZ s1 hl hnlt K1 K2 K3
      go_wp2_with (refine wpList_store_row rfl 226 _ _ rfl wr.heap.size (clA (mxC n)) rfl rfl 226 (clA n) HN3.out (cl_info _) hxc (cl_one _) ?_)
      try simp only [lay]
      go_roundw
      case rel => exact ⟨n, mxC n, wr.heap.size, rfl, D4.out, A4.out, N4.out, T4.out, HG.out, B4.out, rfl, reach_next HR.out h4⟩
      case measure =>
        show away s (dec4 (ptrAt _ (.pointer (some ⟨wr.heap.size, 0, none⟩)))) < away s (dec4 (ptrAt wr (.pointer (some ⟨gn, 0, none⟩))))
        rw [away_at N4.out, away_at HN.out]
        exact away_less HR.out h4
/-- a block whose columns are mixed, or mixed back, or nothing. -/
def mxT (s : ByteArray) : ByteArray := if s.size = 16 then mxS s else ⟨#[]⟩
theorem mxT_yes (s : ByteArray) (h : s.size = 16) : mxT s = mxS s := if_pos h
theorem mxT_no (s : ByteArray) (h : ¬ s.size = 16) : mxT s = ⟨#[]⟩ := if_neg h
def unT (s : ByteArray) : ByteArray := if s.size = 16 then unS s else ⟨#[]⟩
theorem unT_yes (s : ByteArray) (h : s.size = 16) : unT s = unS s := if_pos h
theorem unT_no (s : ByteArray) (h : ¬ s.size = 16) : unT s = ⟨#[]⟩ := if_neg h
theorem col_bytes (s : ByteArray) (j : Nat) : colH (byteOf s) j = colW s j := rfl
theorem mx_text (s : ByteArray) : txt (mxH (byteOf s)) 16 = mxS s := rfl
theorem un_text (s : ByteArray) : txt (byH (fun j => unmixW (colH (byteOf s) j))) 16 = unS s := rfl
theorem by_same (a s : Nat → UInt32) (h : same4 (mxC a) s) : stA (byH a) = stA (byH (fun j => unmixW (s j))) := by
  obtain ⟨h0, h1, h2, h3⟩ := h
  have e : ∀ j, j < 4 → a j = unmixW (s j) := fun j hj => by
    have h4 : j = 0 ∨ j = 1 ∨ j = 2 ∨ j = 3 := by omega
    rcases h4 with rfl | rfl | rfl | rfl
    · rw [← h0]; exact (un_mx _).symm
    · rw [← h1]; exact (un_mx _).symm
    · rw [← h2]; exact (un_mx _).symm
    · rw [← h3]; exact (un_mx _).symm
  unfold stA
  rw [upTo_congr _ _ 16 fun i hi => show byH a i = byH (fun j => unmixW (s j)) i by unfold byH; rw [e (i / 4) (by omega)]]
theorem sunmixed_impl (h : Nat → UInt8) (w : World) (hf : MxF w) :
    Calls Tryz.prog 177 #[.agg (stA h)] w fun e w' => e = .returned (.agg (stA (byH (fun j => unmixW (colH h j))))) ∧ Below w.heap.size w w' :=
  unmixed_of (stA h) (stA (byH (fun j => unmixW (colH h j)))) (colH h) (stA_info h) (stA_info _) (by rw [stA_size]; rfl) (stA_one _) w hf
    (fun W => Lib.hid (columns_impl h W)) (fun a ha W => Lib.hid (by rw [← by_same a _ ha]; exact cstate_impl a W))
end Go.Proofs.YtbfmbdohebdbaaaGreatDoor
set_option linter.unusedVariables false
set_option linter.unusedSimpArgs false
namespace Go.Proofs.YtbfmbdohebdbaaaGreatDoor
open Go.RowKit

/-- a block each of whose words is changed, or nothing. -/
def eachT (f : UInt32 → UInt32) (s : ByteArray) : ByteArray := if s.size = 16 then ofW (fun j => f (colW s j)) else ⟨#[]⟩
theorem eachT_yes (f : UInt32 → UInt32) (s : ByteArray) (h : s.size = 16) : eachT f s = ofW (fun j => f (colW s j)) := if_pos h
theorem eachT_no (f : UInt32 → UInt32) (s : ByteArray) (h : ¬ s.size = 16) : eachT f s = ⟨#[]⟩ := if_neg h
theorem column_is_spec (x y : UInt32) (r : Nat → UInt8) (g : Nat) (t : ByteArray) (ht : t = putW x) (hy : putW (mkW (colTo r x 0 4) (colTo r x 1 4) (colTo r x 2 4) (colTo r x 3 4)) = putW y) (w : World) (hr : Row4 w g r) :
    Calls Tryz.prog 112 #[.string t, .slice (some ⟨g, 0, none⟩) 4 4] w fun e w' => e = .returned (.string (putW y)) ∧ Below w.heap.size w w' := by
  subst ht
  rw [← hy, ← mkW_put]
  exact column_spec x r g w hr
set_option maxRecDepth 100000 in
set_option maxHeartbeats 1600000 in
theorem Columns_yes (f : UInt32 → UInt32) (r : Nat → UInt8) (hf : ∀ x, mkW (colTo r x 0 4) (colTo r x 1 4) (colTo r x 2 4) (colTo r x 3 4) = f x) (s : ByteArray) (hs : s.size = 16) (g : Nat) (w : World) (hr : Row4 w g r) :
    Calls Tryz.prog 79 #[.string s, .slice (some ⟨g, 0, none⟩) 4 4] w fun e w' => e = .returned (.string (ofW (fun j => f (colW s j)))) ∧ Below w.heap.size w w' := by
  have hs2 : (s.size : Int) = 16 := by omega
  have HC := fun x t ht W hW => Lib.hid (column_is_spec x (f x) r g t ht (by rw [hf x]) W hW)
  have HX : Hid (∀ k, k < 4 → s.extract (4 * k) (4 * k + 4) = putW (colW s k)) := Lib.hid (fun k hk => ext4 s (4 * k) (by omega))
  obtain ⟨F, hF⟩ : ∃ F : Nat → UInt32, F = fun j => f (colW s j) := ⟨_, rfl⟩
  rw [← hF]
  have HU := Lib.hid (outW_up F)
  have HZ := Lib.hid (outW_size F)
  have H4 := Lib.hid (outW_4 F)
  have H0 := Lib.hid (outW_0 F)
  have HF : Hid (∀ k, f (colW s k) = F k) := Lib.hid (fun k => by rw [hF])
  have HR := Lib.hid hr
  have hgl := hr.1
  clear hF hf hr
  go_enter Tryz.func79, Tryz.ntmps79
  go_wp2
  go_loopw [5, 6] (fun o i wr => ∃ k : Nat, k ≤ 4 ∧ i = .int .i64 k ∧ o = .string (outW F k) ∧ Below w.heap.size w wr) (fun _ i _ => 4 - (intOf i).toNat)
  case atStart => exact ⟨0, by omega, rfl, by rw [H0.out], Below.refl _ _⟩
  case round =>
    obtain ⟨k, hk, rfl, rfl, hbel⟩ := hrel
    by_cases hlt : k < 4
    · have hk1 : (k : Int) < 4 := by omega
      have hk0 : (0 : Int) ≤ (k : Int) := by omega
      have q1 : IntKind.i64.wrap (4 * (k : Int)) = 4 * (k : Int) := IntWalk.i64_in _ (by omega)
      have q2 : IntKind.i64.wrap (4 * (k : Int) + 4) = 4 * (k : Int) + 4 := IntWalk.i64_in _ (by omega)
      have hsl : ∀ W : World, (Instr.slice 9 (.string s) (some (.int .i64 (4 * (k : Int)))) (some (.int .i64 (4 * (k : Int) + 4))) none).run Tryz.prog W = .ok (.string (s.extract (4 * k) (4 * k + 4))) W := fun W => by
        have h := run_slice_string (P := Tryz.prog) W 9 s .i64 .i64 (4 * (k : Int)) (4 * (k : Int) + 4) Tryz.underlying9 (by omega) (by omega) (by omega)
        rw [h]
        have e1 : (4 * (k : Int)).toNat = 4 * k := by omega
        have e2 : (4 * (k : Int) + 4).toNat = 4 * k + 4 := by omega
        rw [e1, e2]
      have C := fun W hW => HC (colW s k) (s.extract (4 * k) (4 * k + 4)) (HX.out k hlt) W hW
      simp only [HF.out k] at C
      have HRW := Lib.hid (HR.out.below hbel (Nat.le_refl _))
      have HB := Lib.hid hbel
      have HS := Lib.hid (HU.out k)
      have hz := HZ.out k
      have hcat := fun W => run_string_add_sum (P := Tryz.prog) (w := W) (outW F k) (putW (F k)) (by rw [hz, putW_size]; omega)
      have hcap : ((outW F k).size : Int) + ((putW (F k)).size : Int) ≤ 140737488355328 := by rw [hz, putW_size]; omega
      clear hbel HC HX HF hz
      generalize s.extract (4 * k) (4 * k + 4) = T at *
      generalize putW (F k) = D at *
      generalize outW F k = O at *
      go_wp2_with fail
      refine (C _ HRW.out).out.mono ?_; rintro e w2 ⟨rfl, hb2⟩
      have HB2 := Lib.hid (HB.out.trans (hb2.mono HB.out.size))
      clear hb2 HB HRW C
      go_wp2
      go_roundw
      case rel => exact ⟨k + 1, by omega, by go_num, by rw [HS.out], HB2.out⟩
      case measure => simp [intOf]; omega
    · obtain rfl : k = 4 := by omega
      have HB := Lib.hid hbel
      clear hbel
      go_wp2
      go_ret
      exact ⟨by rw [← H4.out]; rfl, HB.out⟩
set_option maxRecDepth 100000 in
theorem Columns_no (s : ByteArray) (hs : ¬ s.size = 16) (v : Value) (w : World) :
    Calls Tryz.prog 79 #[.string s, v] w fun e w' => e = .returned (.string ⟨#[]⟩) ∧ Below w.heap.size w w' := by
  have hs2 : ¬ (s.size : Int) = 16 := by omega
  go_enter Tryz.func79, Tryz.ntmps79
  go_wp2
  go_ret
  exact ⟨rfl, Below.refl _ _⟩
theorem Columns_any (f : UInt32 → UInt32) (r : Nat → UInt8) (hf : ∀ x, mkW (colTo r x 0 4) (colTo r x 1 4) (colTo r x 2 4) (colTo r x 3 4) = f x) (s : ByteArray) (g : Nat) (w : World) (hr : Row4 w g r) :
    Calls Tryz.prog 79 #[.string s, .slice (some ⟨g, 0, none⟩) 4 4] w fun e w' => e = .returned (.string (eachT f s)) ∧ Below w.heap.size w w' := by
  by_cases h : s.size = 16
  · rw [eachT_yes f s h]; exact Columns_yes f r hf s h g w hr
  · rw [eachT_no f s h]; exact Columns_no s h _ w
theorem row_mx (w : World) : Row4 (w.alloc (.cells #[.int .i64 2, .int .i64 3, .int .i64 1, .int .i64 1] 3)) w.heap.size mxR :=
  ⟨by simp, fun j hj => by
    have h4 : j = 0 ∨ j = 1 ∨ j = 2 ∨ j = 3 := by omega
    rcases h4 with rfl | rfl | rfl | rfl
    · exact (cell_of_row _ w.heap.size 0 _ _ _ (heap_alloc_new w _)).trans rfl
    · exact (cell_of_row _ w.heap.size 1 _ _ _ (heap_alloc_new w _)).trans rfl
    · exact (cell_of_row _ w.heap.size 2 _ _ _ (heap_alloc_new w _)).trans rfl
    · exact (cell_of_row _ w.heap.size 3 _ _ _ (heap_alloc_new w _)).trans rfl⟩
set_option maxRecDepth 100000 in
theorem MixColumns_spec (s : ByteArray) (w : World) :
    Calls Tryz.prog 73 #[.string s] w fun e w' => e = .returned (.string (eachT mxW s)) ∧ Below w.heap.size w w' := by
  have H := Columns_any mxW mxR mx_r s w.heap.size _ (row_mx w)
  have HB : Hid (Below w.heap.size w (w.alloc (.cells #[.int .i64 2, .int .i64 3, .int .i64 1, .int .i64 1] 3))) := Lib.hid ((Below.refl _ _).alloc (Nat.le_refl _) _)
  generalize eachT mxW s = r at *
  go_enter Tryz.func73, Tryz.ntmps73
  go_wp2_with fail
  refine H.mono ?_; rintro e w1 ⟨rfl, hb1⟩
  have HB2 := Lib.hid (HB.out.trans (hb1.mono HB.out.size))
  clear hb1 HB
  go_wp2
  go_ret
  exact ⟨rfl, HB2.out⟩
set_option maxRecDepth 100000 in
theorem UnmixColumns_spec (s : ByteArray) (w : World) :
    Calls Tryz.prog 48 #[.string s] w fun e w' => e = .returned (.string (eachT unmixW s)) ∧ Below w.heap.size w w' := by
  have H := Columns_any unmixW unR unmix_r s w.heap.size _ (row4_new w)
  have HB : Hid (Below w.heap.size w (w.alloc (.cells #[.int .i64 14, .int .i64 11, .int .i64 13, .int .i64 9] 3))) := Lib.hid ((Below.refl _ _).alloc (Nat.le_refl _) _)
  generalize eachT unmixW s = r at *
  go_enter Tryz.func48, Tryz.ntmps48
  go_wp2_with fail
  refine H.mono ?_; rintro e w1 ⟨rfl, hb1⟩
  have HB2 := Lib.hid (HB.out.trans (hb1.mono HB.out.size))
  clear hb1 HB
  go_wp2
  go_ret
  exact ⟨rfl, HB2.out⟩
end Go.Proofs.YtbfmbdohebdbaaaGreatDoor
