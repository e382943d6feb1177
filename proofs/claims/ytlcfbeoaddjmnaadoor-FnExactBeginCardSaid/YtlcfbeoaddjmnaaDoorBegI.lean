/-
  Streams that begin: impl.Begin and spec.Begin; the walk of laws.FnExactBegin.
-/
import Derived.Test.YtlcfbeoaddjmnaaDoorStmI
import Derived.Test.YtlcfbeoaddjmnaaDoorAsC
import Derived.Test.YtlcfbeoaddjmnaaDoorShelf
import Derived.Deep.RegionHeld3
import Derived.Deep.WholeRow
import Derived.Laws.ResultCell
import Derived.Laws.CopyOwn
import Derived.Laws.Tables
import Derived.Laws.Rows
set_option linter.unusedVariables false
set_option linter.unusedSimpArgs false
namespace Go.Proofs.YtlcfbeoaddjmnaaDoor
open Go Go.RowKit

/-- what the row lays: the handle of the type 'error'. -/
def ErrT (w : World) : Prop := w.cell? ⟨0, 0, none⟩ = some (.iface 56 (.agg #[.pointer (some ⟨1, 31, none⟩)]))
theorem ErrT.lt {w : World} (h : ErrT w) : 0 < w.heap.size := lt_of_cell (a := ⟨0, 0, none⟩) h
theorem ErrT.up {w w' : World} (h : ErrT w) (hb : Below w.heap.size w w') : ErrT w' := (hb.cell (p := ⟨0, 0, none⟩) h.lt).trans h
/-- the code of what refuses. -/
theorem codeOf_ref (c : Int) (w : World) (hg : ErrT w) :
    Calls Tryd.prog 8 #[refV c] w fun e w' => e = .returned (.int .i64 c) ∧ Below w.heap.size w w' := by
  unfold refV
  by_cases h : c = 0
  · rw [if_pos h, h]; exact codeOf_nil w
  · rw [if_neg h]; exact codeOf_hit c w hg
theorem clone_stm (s : ByteArray) (w : World) (hs : s.size ≤ 1073741824) :
    Calls Tryd.prog 17 #[.string s] w fun e w' => e = .returned (.string s) ∧ Below w.heap.size w w' := by
  go_enter Tryd.func17, Tryd.ntmps17
  go_wp2_with fail
  refine (Tryd.stringslite_Clone s _ (by omega)).mono ?_; rintro e w1 ⟨rfl, hb⟩
  go_wp2
  go_ret
  exact ⟨rfl, hb⟩
/-- the four cells of a stream. -/
def stmC (n : Int) (key blk left : ByteArray) : Array Value := #[.int .i64 n, .string key, .string blk, .string left]
theorem AtS.cells4 {w : World} {g : Nat} {t : TypeId} {n : Int} {key blk left : ByteArray} (h : AtS w g t (stmC n key blk left)) : w.cell? ⟨g, 0, none⟩ = some (.int .i64 n) ∧ w.cell? ⟨g, 1, none⟩ = some (.string key) ∧ w.cell? ⟨g, 2, none⟩ = some (.string blk) ∧ w.cell? ⟨g, 3, none⟩ = some (.string left) :=
  ⟨(cell_of_row w g 0 _ _ _ h).trans rfl, (cell_of_row w g 1 _ _ _ h).trans rfl, (cell_of_row w g 2 _ _ _ h).trans rfl, (cell_of_row w g 3 _ _ _ h).trans rfl⟩
theorem stm_info (n : Int) (key blk left : ByteArray) : (Tryd.prog.info? 23).map (·.size) = some (stmC n key blk left).size := by kernel_rfl
theorem stm_one (n : Int) (key blk left : ByteArray) : (stmC n key blk left).all (·.oneCell') = true := by simp [stmC, Value.oneCell']
theorem stmZ_one : (#[.int .i64 0, .string ⟨#[]⟩, .string ⟨#[]⟩, .string ⟨#[]⟩] : Array Value).all (·.oneCell') = true := by simp [Value.oneCell']
def stmZ : Array Value := #[.int .i64 0, .string ⟨#[]⟩, .string ⟨#[]⟩, .string ⟨#[]⟩]
/-- what stays while a stream is copied text by text. -/
def Copying (w : World) (n : Int) (key blk left : ByteArray) (W : World) : Prop := AtS W w.heap.size 23 (stmC n key blk left) ∧ (∃ Z : Array Value, Z.size = 4 ∧ AtS W (w.heap.size + 1) 23 Z) ∧ Below w.heap.size w W
theorem Copying.next {w W W' : World} {n : Int} {key blk left : ByteArray} (h : Copying w n key blk left W) (hb : Below W.heap.size W W') : Copying w n key blk left W' := ⟨h.1.up hb, h.2.1.elim (fun Z hZ => ⟨Z, hZ.1, hZ.2.up hb⟩), h.2.2.trans (hb.mono h.2.2.size)⟩
theorem Copying.new (w : World) (n : Int) (key blk left : ByteArray) : Copying w n key blk left (((w.alloc (.cells (stmC n key blk left) 23)).alloc (.cells stmZ 23)).drew) :=
  ⟨heap_alloc2_old _ _ _, ⟨stmZ, rfl, heap_alloc2_new _ _ _⟩, (((Below.refl _ _).alloc (Nat.le_refl _) _).alloc (by simp) _).drew⟩
set_option maxRecDepth 100000 in
set_option maxHeartbeats 3200000 in
theorem copied_impl (n : Int) (key blk left : ByteArray) (b1 : key.size ≤ 1073741824) (b2 : blk.size ≤ 1073741824) (b3 : left.size ≤ 1073741824) (w : World) :
    Calls Tryd.prog 10 #[stmV n key blk left] w fun x w' => x = .returned (stmV n key blk left) ∧ Below w.heap.size w w' := by
  have H1 := fun W => Lib.hid (clone_stm key W b1)
  have H2 := fun W => Lib.hid (clone_stm blk W b2)
  have H3 := fun W => Lib.hid (clone_stm left W b3)
  have hsi := stm_info n key blk left
  have hone := stm_one n key blk left
  have hS0 := Lib.hid (Copying.new w n key blk left)
  clear b1 b2 b3
  unfold stmC stmZ at hS0
  unfold stmV
  go_enter Tryd.func10, Tryd.ntmps10
  go_wp2
  refine wp_region_held_drew (S := Copying w n key blk left) (by kernel_rfl) hS0.out (fun hS1 => ?_)
  refine tk 0 (v := ?_) ?_ (by assumption) ?_
  rotate_left
  · intro w hSw
    go_simp
    first | done | with_reducible rfl
  try simp only [lay]
  refine tk 1 (v := ?_) ?_ (by assumption) ?_
  rotate_left
  · intro w hSw
    obtain ⟨s0, _, _⟩ := hSw
    obtain ⟨d0, d1, d2, d3⟩ := s0.cells4
    clear s0
    go_simp
    first | done | with_reducible rfl
  try simp only [lay]
  refine tk 2 (v := ?_) ?_ (by assumption) ?_
  rotate_left
  · intro w hSw
    go_simp
    first | done | with_reducible rfl
  try simp only [lay]
  refine tk 3 (v := ?_) ?_ (by assumption) ?_
  rotate_left
  · intro w hSw
    obtain ⟨s0, _, _⟩ := hSw
    obtain ⟨d0, d1, d2, d3⟩ := s0.cells4
    clear s0
    go_simp
    first | done | with_reducible rfl
  try simp only [lay]
  refine tk 5 (v := ?_) ?_ (by assumption) ?_
  rotate_left
  · intro w hSw
    go_simp
    first | done | with_reducible rfl
  try simp only [lay]
  refine tk 6 (v := ?_) ?_ (by assumption) ?_
  rotate_left
  · intro w hSw
    obtain ⟨s0, _, _⟩ := hSw
    obtain ⟨d0, d1, d2, d3⟩ := s0.cells4
    clear s0
    go_simp
    first | done | with_reducible rfl
  try simp only [lay]
  refine tk 8 (v := ?_) ?_ (by assumption) ?_
  rotate_left
  · intro w hSw
    go_simp
    first | done | with_reducible rfl
  try simp only [lay]
  refine tk 9 (v := ?_) ?_ (by assumption) ?_
  rotate_left
  · intro w hSw
    obtain ⟨s0, _, _⟩ := hSw
    obtain ⟨d0, d1, d2, d3⟩ := s0.cells4
    clear s0
    go_simp
    first | done | with_reducible rfl
  try simp only [lay]
  refine wpAnyH_ready (rs := [4]) (by kernel_rfl) (by simp) ?_
  refine AllReadyH.cons rfl (fun K hK => ?_) AllReadyH.nil
  go_simp
  refine (H1 _).out.mono ?_; rintro e w2 ⟨rfl, hb⟩
  have hS2 := hS1.next hb
  clear hb
  refine hK.out _ _ hS2 (fun hS2 => ?_)
  clear hK K
  try simp only [lay]
  refine wpAnyH_ready (rs := [7]) (by kernel_rfl) (by simp) ?_
  refine AllReadyH.cons rfl (fun K hK => ?_) AllReadyH.nil
  go_simp
  refine (H2 _).out.mono ?_; rintro e w3 ⟨rfl, hb⟩
  have hS3 := hS2.next hb
  clear hb
  refine hK.out _ _ hS3 (fun hS3 => ?_)
  clear hK K
  try simp only [lay]
  refine wpAnyH_ready (rs := [10]) (by kernel_rfl) (by simp) ?_
  refine AllReadyH.cons rfl (fun K hK => ?_) AllReadyH.nil
  go_simp
  refine (H3 _).out.mono ?_; rintro e w4 ⟨rfl, hb⟩
  have hS4 := hS3.next hb
  clear hb
  refine hK.out _ _ hS4 (fun hS4 => ?_)
  clear hK K
  try simp only [lay]
  refine tk 11 (v := ?_) ?_ (by assumption) ?_
  rotate_left
  · intro w hSw
    go_simp
    first | done | with_reducible rfl
  try simp only [lay]
  obtain ⟨Z, hZ, hCZ⟩ := hS4.2.1
  have hz : Z.size = (stmC n key blk left).size := by rw [hZ]; rfl
  have MS := setRow_heap w4 _ _ (stmC n key blk left) _ _ hCZ
  have MB := below_setRow hS4.2.2 (show w.heap.size ≤ w.heap.size + 1 by omega) (stmC n key blk left)
  have MC : AtS (w4.setRow (w.heap.size + 1) (stmC n key blk left)) w.heap.size 23 (stmC n key blk left) := (setRow_other w4 (w.heap.size + 1) w.heap.size _ (by omega)).trans hS4.1
  refine wpAnyH_ready (rs := [12]) (by kernel_rfl) (by simp) ?_
  refine AllReadyH.cons rfl (fun K hK => ?_) AllReadyH.nil
  refine wp_store_row 23 _ _ rfl (w.heap.size + 1) (stmC n key blk left) rfl rfl 23 Z hCZ hsi hz hone ?_
  refine hK.out _ _ ⟨MC, ⟨_, rfl, MS⟩, MB⟩ (fun hS6 => ?_)
  clear hK K
  try simp only [lay]
  refine wpAnyH_done (by kernel_rfl) ?_ _
  have MS2 := Lib.hid MS
  have MB2 := Lib.hid MB
  clear MS MB MC hS6 hCZ hz hS1 hS2 hS3 hS4 hS0 H1 H2 H3
  go_wp2
  refine bodyPost_ret (v := .agg _) ?_ rfl ⟨rfl, MB2.out⟩
  exact results_cell_row rfl _ _ (w.heap.size + 1) 23 _ (0, 0) _ rfl MS2.out Tryd.underlying23 rfl hsi

/-- what begins with a code. -/
def bgC (c n : Int) (key iv : ByteArray) : Array Value := if c = 0 then stmC n key iv ⟨#[]⟩ else stmZ
theorem bgC_info (c n : Int) (key iv : ByteArray) : (Tryd.prog.info? 23).map (·.size) = some (bgC c n key iv).size := by
  unfold bgC; by_cases h : c = 0
  · rw [if_pos h]; exact stm_info _ _ _ _
  · rw [if_neg h]; exact stm_info 0 ⟨#[]⟩ ⟨#[]⟩ ⟨#[]⟩
theorem bgC_one (c n : Int) (key iv : ByteArray) : (bgC c n key iv).all (·.oneCell') = true := by
  unfold bgC; by_cases h : c = 0
  · rw [if_pos h]; exact stm_one _ _ _ _
  · rw [if_neg h]; exact stmZ_one
theorem bgC_size (c n : Int) (key iv : ByteArray) : stmZ.size = (bgC c n key iv).size := by
  unfold bgC; by_cases h : c = 0
  · rw [if_pos h]; rfl
  · rw [if_neg h]
theorem results_cell_row2 {P : Program} {fn : Func} {p u : Tmp} {ty : TypeId} (h : fn.results = #[.cell p ty, .tmp u]) (tmps : Array Value) (w : World) (g : Nat) (t : TypeId) (cs : Array Value) (fr : Nat × Nat) (d : TypeDesc) (x : Value)
    (hp : tmps.getD p undef = .pointer (some ⟨g, 0, none⟩)) (hx : tmps.getD u undef = x) (hg : w.heap[g]? = some (.cells cs t fr))
    (hu : P.underlying ty = some d) (hd : (match d with | .struct _ | .array _ _ => true | _ => false) = true) (hi : (P.info? ty).map (·.size) = some cs.size) :
    (results fn tmps).run P w = .ok (.tuple #[.agg cs, x]) w := by
  rw [results_cell_tmp h, hp, hx]
  have h0 : (asAddr (.pointer (some ⟨g, 0, none⟩))).run P w = .ok ⟨g, 0, none⟩ w := rfl
  rw [h0]
  simp only [Result.andThen, run_loadVar_row w g t ty cs fr d hg hu hd hi]
set_option maxRecDepth 100000 in
set_option maxHeartbeats 1600000 in
theorem Begin_impl (n : Int) (key iv : ByteArray) (b1 : key.size ≤ 1073741824) (b2 : iv.size ≤ 1073741824) (w : World) (hg : ErrT w) :
    Calls Tryd.prog 5 #[.int .i64 n, .string key, .string iv] w fun x w' => x = .returned (.tuple #[.agg (bgC (cdT n 2 key iv) n key iv), .int .i64 (cdT n 2 key iv)]) ∧ Below w.heap.size w w' := by
  have M0 := Lib.hid (AtS.new w 23 stmZ)
  have B0 := Lib.hid ((Below.refl w.heap.size w).alloc (Nat.le_refl _) (.cells stmZ 23))
  have HR := fun W => Lib.hid (refusal_impl n 2 key iv W)
  have HC := fun W => Lib.hid (copied_impl n key iv ⟨#[]⟩ b1 b2 (by show 0 ≤ _; omega) W)
  generalize cdT n 2 key iv = c at *
  have HO := Lib.hid (codeOf_ref c (w.alloc (.cells stmZ 23)) (hg.up ((Below.refl _ _).alloc (Nat.le_refl _) _)))
  generalize refV c = r at *
  have hsz : stmZ.size = (stmC n key iv ⟨#[]⟩).size := rfl
  have hsi := stm_info n key iv ⟨#[]⟩
  have hone := stm_one n key iv ⟨#[]⟩
  have hsi0 : (Tryd.prog.info? 23).map (·.size) = some stmZ.size := stm_info 0 ⟨#[]⟩ ⟨#[]⟩ ⟨#[]⟩
  have hone0 : stmZ.all (·.oneCell') = true := stmZ_one
  by_cases h : c = 0
  · subst h
    rw [show bgC 0 n key iv = stmC n key iv ⟨#[]⟩ from rfl]
    clear b1 b2 hg
    unfold stmV stmC stmZ at *
    go_enter Tryd.func5, Tryd.ntmps5
    go_wp2_with fail
    refine (HR _).out.mono ?_; rintro e w' ⟨rfl, rfl⟩
    go_wp2_with fail
    refine HO.out.mono ?_; rintro e w1 ⟨rfl, hb1⟩
    have B1 := Lib.hid (B0.out.trans (hb1.mono B0.out.size))
    have M1 := Lib.hid (M0.out.up hb1)
    clear hb1 B0 M0
    go_wp2_with fail
    refine (HC _).out.mono ?_; rintro e w2 ⟨rfl, hb2⟩
    have B2 := Lib.hid (B1.out.trans (hb2.mono B1.out.size))
    have M2 := Lib.hid (M1.out.up hb2)
    have B3 := Lib.hid (below_setRow B2.out (Nat.le_refl _) #[.int .i64 n, .string key, .string iv, .string ⟨#[]⟩])
    have M3 := Lib.hid (setRow_heap w2 _ _ #[.int .i64 n, .string key, .string iv, .string ⟨#[]⟩] _ _ M2.out)
    clear hb2 B1 M1 HC HR HO
    go_wp2_with (refine wpList_store_row rfl 23 _ _ rfl w.heap.size _ rfl rfl 23 _ M2.out hsi hsz hone ?_)
    refine bodyPost_ret (v := .tuple #[.agg _, _]) ?_ rfl ⟨rfl, B3.out⟩
    exact results_cell_row2 rfl _ _ w.heap.size 23 _ (0, 0) _ _ rfl rfl M3.out Tryd.underlying23 rfl hsi
  · rw [show bgC c n key iv = stmZ from if_neg h]
    clear b1 b2 hg HC
    unfold stmC stmZ at *
    go_enter Tryd.func5, Tryd.ntmps5
    go_wp2_with fail
    refine (HR _).out.mono ?_; rintro e w' ⟨rfl, rfl⟩
    go_wp2_with fail
    refine HO.out.mono ?_; rintro e w1 ⟨rfl, hb1⟩
    have B1 := Lib.hid (B0.out.trans (hb1.mono B0.out.size))
    have M1 := Lib.hid (M0.out.up hb1)
    have B2 := Lib.hid (below_setRow B1.out (Nat.le_refl _) #[.int .i64 0, .string ⟨#[]⟩, .string ⟨#[]⟩, .string ⟨#[]⟩])
    have M2 := Lib.hid (setRow_heap w1 _ _ #[.int .i64 0, .string ⟨#[]⟩, .string ⟨#[]⟩, .string ⟨#[]⟩] _ _ M1.out)
    clear hb1 B0 M0 HR HO
    go_wp2_with (refine wpList_store_row rfl 23 _ _ rfl w.heap.size _ rfl rfl 23 _ M1.out hsi0 rfl hone0 ?_)
    refine bodyPost_ret (v := .tuple #[.agg _, _]) ?_ rfl ⟨rfl, B2.out⟩
    exact results_cell_row2 rfl _ _ w.heap.size 23 _ (0, 0) _ _ rfl rfl M2.out Tryd.underlying23 rfl hsi0
set_option maxRecDepth 100000 in
theorem Begin_spec (n : Int) (key iv : ByteArray) (w : World) :
    Calls Tryd.prog 4 #[.int .i64 n, .string key, .string iv] w fun x w' => x = .returned (.tuple #[.agg (bgC (cdT n 2 key iv) n key iv), .int .i64 (cdT n 2 key iv)]) ∧ Below w.heap.size w w' := by
  have M0 := Lib.hid (AtS.new w 23 stmZ)
  have B0 := Lib.hid ((Below.refl w.heap.size w).alloc (Nat.le_refl _) (.cells stmZ 23))
  have HR := fun W => Lib.hid (l12Code_spec n 2 key iv W)
  generalize cdT n 2 key iv = c at *
  have hsz : stmZ.size = (stmC n key iv ⟨#[]⟩).size := rfl
  have hsi := stm_info n key iv ⟨#[]⟩
  have hone := stm_one n key iv ⟨#[]⟩
  have hsi0 : (Tryd.prog.info? 23).map (·.size) = some stmZ.size := stm_info 0 ⟨#[]⟩ ⟨#[]⟩ ⟨#[]⟩
  have hone0 : stmZ.all (·.oneCell') = true := stmZ_one
  by_cases h : c = 0
  · subst h
    rw [show bgC 0 n key iv = stmC n key iv ⟨#[]⟩ from rfl]
    have B3 := Lib.hid (below_setRow B0.out (Nat.le_refl _) (stmC n key iv ⟨#[]⟩))
    have M3 := Lib.hid (setRow_heap _ _ _ (stmC n key iv ⟨#[]⟩) _ _ M0.out)
    unfold stmC stmZ at *
    go_enter Tryd.func4, Tryd.ntmps4
    go_wp2_with fail
    refine (HR _).out.mono ?_; rintro e w' ⟨rfl, rfl⟩
    go_wp2_with (refine wpList_store_row rfl 23 _ _ rfl w.heap.size _ rfl rfl 23 _ M0.out hsi hsz hone ?_)
    refine bodyPost_ret (v := .tuple #[.agg _, _]) ?_ rfl ⟨rfl, B3.out⟩
    exact results_cell_row2 rfl _ _ w.heap.size 23 _ (0, 0) _ _ rfl rfl M3.out Tryd.underlying23 rfl hsi
  · rw [show bgC c n key iv = stmZ from if_neg h]
    have B3 := Lib.hid (below_setRow B0.out (Nat.le_refl _) stmZ)
    have M3 := Lib.hid (setRow_heap _ _ _ stmZ _ _ M0.out)
    unfold stmC stmZ at *
    go_enter Tryd.func4, Tryd.ntmps4
    go_wp2_with fail
    refine (HR _).out.mono ?_; rintro e w' ⟨rfl, rfl⟩
    go_wp2_with (refine wpList_store_row rfl 23 _ _ rfl w.heap.size _ rfl rfl 23 _ M0.out hsi0 rfl hone0 ?_)
    refine bodyPost_ret (v := .tuple #[.agg _, _]) ?_ rfl ⟨rfl, B3.out⟩
    exact results_cell_row2 rfl _ _ w.heap.size 23 _ (0, 0) _ _ rfl rfl M3.out Tryd.underlying23 rfl hsi0

set_option maxRecDepth 100000 in
theorem eqStream_same (n : Int) (key blk left : ByteArray) (w : World) :
    Calls Tryd.prog 6 #[.agg (stmC n key blk left), .agg (stmC n key blk left)] w fun x w' => x = .returned (.bool true) ∧ Below w.heap.size w w' := by
  unfold stmC
  go_enter Tryd.func6, Tryd.ntmps6
  go_wp2
  go_ret
  exact ⟨rfl, ((Below.refl _ _).alloc (Nat.le_refl _) _).alloc (by simp) _⟩
theorem eqStream_bg (c n : Int) (key iv : ByteArray) (w : World) :
    Calls Tryd.prog 6 #[.agg (bgC c n key iv), .agg (bgC c n key iv)] w fun x w' => x = .returned (.bool true) ∧ Below w.heap.size w w' := by
  unfold bgC
  by_cases h : c = 0
  · rw [if_pos h]; exact eqStream_same _ _ _ _ w
  · rw [if_neg h]; exact eqStream_same 0 ⟨#[]⟩ ⟨#[]⟩ ⟨#[]⟩ w
/-- a struct of the call's own that is stored whole: where it lies, and what stays. -/
theorem laid_row (w W : World) (C : Array Value) (hb : Below w.heap.size w W) (hz : stmZ.size = C.size) :
    (W.alloc (.cells stmZ 23)).heap[W.heap.size]? = some (.cells stmZ 23 (0, 0)) ∧ AtS ((W.alloc (.cells stmZ 23)).setRow W.heap.size C) W.heap.size 23 C ∧
    Below w.heap.size w ((W.alloc (.cells stmZ 23)).setRow W.heap.size C) ∧ Below W.heap.size W ((W.alloc (.cells stmZ 23)).setRow W.heap.size C) :=
  ⟨heap_alloc_new _ _, setRow_heap _ _ _ C _ _ (heap_alloc_new _ _), below_setRow (hb.alloc hb.size _) hb.size C, below_setRow ((Below.refl _ _).alloc (Nat.le_refl _) _) (Nat.le_refl _) C⟩
set_option maxRecDepth 100000 in
set_option maxHeartbeats 1600000 in
theorem walk_FnExactBegin (n : Int) (key iv : ByteArray) (w0 : (Lit.int .i64 n).wf = true) (w1 : key.size ≤ maxLen) (w2 : iv.size ≤ maxLen) (w : World) (hg : ErrT w) :
    Calls Tryd.prog 3 #[.int .i64 n, .string key, .string iv] w fun e w' => e = .returned (.bool true) ∧ Below w.heap.size w w' := by
  unfold maxLen at w1 w2
  by_cases hk : 1048576 < key.size
  · go_enter Tryd.func3, Tryd.ntmps3
    go_wp2
    go_ret
    exact ⟨rfl, Below.refl _ _⟩
  · by_cases hi : 1048576 < iv.size
    · go_enter Tryd.func3, Tryd.ntmps3
      go_wp2
      go_ret
      exact ⟨rfl, Below.refl _ _⟩
    · have HS := Lib.hid (Begin_spec n key iv w)
      have HI := fun W hW => Lib.hid (Begin_impl n key iv (by omega) (by omega) W hW)
      have HE := fun W => Lib.hid (eqStream_bg (cdT n 2 key iv) n key iv W)
      have HG := Lib.hid hg
      clear hg
      have hsi := bgC_info (cdT n 2 key iv) n key iv
      have hsz := bgC_size (cdT n 2 key iv) n key iv
      have hone := bgC_one (cdT n 2 key iv) n key iv
      generalize bgC (cdT n 2 key iv) n key iv = C at *
      generalize cdT n 2 key iv = c at *
      have LR := fun W hb => Lib.hid (laid_row w W C hb hsz)
      unfold stmZ at hsz LR
      go_enter Tryd.func3, Tryd.ntmps3
      go_wp2_with fail
      refine HS.out.mono ?_; rintro e w1 ⟨rfl, hb1⟩
      have L1 := LR w1 hb1
      have G1 := Lib.hid ((HG.out.up hb1).up L1.out.2.2.2)
      clear hb1 HS HG
      go_wp2_with (refine wpList_store_row rfl 23 _ _ rfl w1.heap.size C rfl rfl 23 _ L1.out.1 hsi hsz hone ?_)
      refine (HI _ G1.out).out.mono ?_; rintro e w2 ⟨rfl, hb2⟩
      have L2 := LR w2 (L1.out.2.2.1.trans (hb2.mono L1.out.2.2.1.size))
      have A1 := Lib.hid ((L1.out.2.1.up hb2).up L2.out.2.2.2)
      clear hb2 L1 G1 HI LR
      go_wp2_with (first
        | (refine wpList_store_row rfl 23 _ _ rfl w2.heap.size C rfl rfl 23 _ L2.out.1 hsi hsz hone ?_)
        | (refine wpList_load_row rfl 23 _ rfl w2.heap.size rfl 23 C (0, 0) _ L2.out.2.1 Tryd.underlying23 rfl hsi ?_)
        | (refine wpList_load_row rfl 23 _ rfl w1.heap.size rfl 23 C (0, 0) _ A1.out Tryd.underlying23 rfl hsi ?_))
      refine (HE _).out.mono ?_; rintro e w3 ⟨rfl, hb3⟩
      have B3 := Lib.hid (L2.out.2.2.1.trans (hb3.mono L2.out.2.2.1.size))
      clear hb3 L2 A1 HE
      go_wp2
      go_ret
      exact ⟨rfl, B3.out⟩
end Go.Proofs.YtlcfbeoaddjmnaaDoor
