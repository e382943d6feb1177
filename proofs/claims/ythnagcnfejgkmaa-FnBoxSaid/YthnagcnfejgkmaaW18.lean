/-
  The walk of laws.FnBox: it returns true at every code.
-/
import Derived.Test.YthnagcnfejgkmaaW16
import Derived.Test.YthnagcnfejgkmaaBoxMore
import Derived.WalkKit
import Derived.LoopTactic
import Derived.OwnWalk
import Derived.WalkLawsBesides
import Derived.WalkSpells
import Derived.Outline
import Derived.Below
import Derived.Laws.Rows
import Derived.Laws.Tables
import Derived.Deep.WholeRow
set_option linter.unusedVariables false
namespace Go.Proofs.Ythnagcnfejgkmaa
open Go.RowKit

/-- nothing is seen of the bytes yet. -/
def noneSeen : Array Value := Array.replicate 256 (.bool false)
theorem noneSeen_size : noneSeen.size = 256 := by simp [noneSeen]
theorem zero_none (w : World) : (zeroValue 30).run Try.prog w = .ok (.agg noneSeen) w := by kernel_rfl
theorem store_none (w : World) : (storeCells ⟨w.heap.size, 0, none⟩ noneSeen.toList).run Try.prog (w.alloc (.cells noneSeen 30)) = .ok () (w.alloc (.cells noneSeen 30)) := by
  have h := run_storeCells_from (P := Try.prog) w.heap.size 30 noneSeen.toList 0 noneSeen (w.alloc (.cells noneSeen 30)) (heap_alloc_new w _) (by simp) (fun v hv => by
    rw [noneSeen, Array.toList_replicate] at hv
    rw [List.eq_of_mem_replicate hv]; rfl)
  rw [h]
  simp only [List.take_zero, List.nil_append, Array.toArray_toList]
  rw [World.setRow_alloc_new]
/-- what is seen of the box before round i. -/
def boxed : Nat → Array Value
  | 0 => noneSeen
  | i + 1 => (boxed i).setIfInBounds (sbox (UInt8.ofNat i)).toNat (.bool true)
theorem boxed_no (i j : Nat) (hj : j < 256) (h : ∀ k, k < i → (sbox (UInt8.ofNat k)).toNat ≠ j) : (boxed i)[j]? = some (.bool false) := by
  induction i with
  | zero => simp [boxed, noneSeen, hj]
  | succ i ih =>
    rw [boxed, Array.getElem?_setIfInBounds_ne (h i (by omega))]
    exact ih fun k hk => h k (by omega)
theorem boxed_inj (i k : Nat) (hi : i < 256) (hk : k < i) : (sbox (UInt8.ofNat k)).toNat ≠ (sbox (UInt8.ofNat i)).toNat := by
  intro e
  have e1 := sbox_inj (UInt8.toNat_inj.1 e)
  have e2 := congrArg UInt8.toNat e1
  rw [UInt8.toNat_ofNat', UInt8.toNat_ofNat'] at e2
  omega
theorem b8_nat (k : Nat) (hk : k < 256) : b8 (k : Int) = UInt8.ofNat k := by
  unfold b8
  congr 1
  omega
theorem box_known : sbox (b8 0) = 99 ∧ sbox (b8 83) = 237 ∧ ubox (b8 0) = 82 := by decide +kernel
set_option maxRecDepth 100000 in
set_option maxHeartbeats 3200000 in
theorem walk_FnBox (a0 : Option Addr) (len0 cap0 : Nat) (z0 : List Int) (w : World) (w0 : IsRow .u8 w a0 len0 cap0 z0) :
    Calls Try.prog 6 #[.slice a0 len0 cap0] w fun e w' => e = .returned (.bool true) ∧ Below w.heap.size w w' := by
  obtain ⟨hcode, hlen⟩ := w0.code
  clear w0
  by_cases hl : len0 ≤ 1048576
  · have H := Lib.hid hcode
    clear hcode
    go_enter Try.func6, Try.ntmps6
    go_wp2_with fail
    refine (big_small _ _ _ _ hl).mono ?_; rintro e w' ⟨rfl, rfl⟩
    have hz := zero_none
    have hst := store_none w
    go_wp2
    clear hz hst
    go_loopw [4] (fun i wr => ∃ k : Nat, k ≤ 256 ∧ i = .int .i64 k ∧ Hid (wr.heap[w.heap.size]? = some (.cells (boxed k) 30 (0, 0))) ∧ Below w.heap.size w wr) (fun i _ => 256 - (intOf i).toNat)
    case atStart => exact ⟨0, by omega, rfl, Lib.hid (heap_alloc_new w _), (Below.refl _ _).alloc (Nat.le_refl _) _⟩
    case round =>
      obtain ⟨k, hk, rfl, HG, hbel⟩ := hrel
      by_cases hlt : k < 256
      · obtain ⟨P, hP⟩ : ∃ P, P = sbox (UInt8.ofNat k) := ⟨_, rfl⟩
        have h1 : Hid (sbox (b8 (k : Int)) = P) := Lib.hid (by rw [b8_nat k hlt, hP])
        have hq := P.toNat_lt
        have hno := boxed_no k P.toNat (by omega) (fun j hj => by rw [hP]; exact boxed_inj k j hlt hj)
        have hk1 : (k : Int) < 256 := by omega
        go_wp2_with fail
        refine (sub_is _ P h1.out _).mono ?_; rintro e w2 ⟨rfl, hb2⟩
        have hws : w.heap.size < wr.heap.size := by
          have hg := HG.out
          rcases Nat.lt_or_ge w.heap.size wr.heap.size with h | h
          · exact h
          · rw [Array.getElem?_eq_none h] at hg; cases hg
        have hg2 := (hb2.block w.heap.size hws).trans HG.out
        have hbel2 := hbel.trans (hb2.mono hbel.size)
        have hcell : w2.cell? ⟨w.heap.size, P.toNat, none⟩ = some (.bool false) := (cell_of_row w2 _ _ _ _ _ hg2).trans hno
        have hfr := frozen_of_row w2 _ P.toNat _ _ hg2
        have HG2 : Hid ((w2.setCell ⟨w.heap.size, P.toNat, none⟩ (.bool true)).heap[w.heap.size]? = some (.cells (boxed (k + 1)) 30 (0, 0))) := Lib.hid (by
          have := heap_setCell_same w2 w.heap.size P.toNat _ _ (.bool true) hg2
          rw [hP] at this ⊢
          exact this)
        have HB2 := Lib.hid (hbel2.setCell (p := ⟨w.heap.size, P.toNat, none⟩) (Nat.le_refl _) (.bool true))
        have hq' : (P.toNat : Int) < 256 := by omega
        have hq1 : ¬ (255 : Int) < (P.toNat : Int) := by omega
        clear hP hbel hbel2 hb2 hg2 hno HG hws hq
        generalize P.toNat = j at *
        go_wp2
        go_roundw
        case rel => exact ⟨k + 1, by omega, by go_num, HG2, HB2.out⟩
        case measure => simp [intOf]; omega
      · obtain rfl : k = 256 := by omega
        have HC := Lib.hid ((H.out.below hbel (Nat.le_refl _)).up hbel.size)
        go_wp2_with fail
        refine (at_any 0 (by omega) _ _ _ _ HC.out hl).mono ?_; rintro e w' ⟨⟨c, rfl, hc⟩, rfl⟩
        obtain ⟨P, hP⟩ : ∃ P, P = sbox (b8 (c : Int)) := ⟨_, rfl⟩
        have h1 := Lib.hid hP.symm
        have h2 := Lib.hid box_known
        have hbb := hbel
        clear hP hk hlt hbel
        go_wp2_with fail
        refine (sub_is _ P h1.out _).mono ?_; rintro e wq ⟨rfl, hq⟩
        replace hbb := hbb.trans (hq.mono hbb.size)
        clear hq
        go_wp2_with fail
        refine (sub_sp _ P h1.out _).mono ?_; rintro e w' ⟨rfl, rfl⟩
        go_wp2_with fail
        refine (sub_is _ _ h2.out.1 _).mono ?_; rintro e wq ⟨rfl, hq⟩
        replace hbb := hbb.trans (hq.mono hbb.size)
        clear hq
        go_wp2_with fail
        refine (sub_is _ _ h2.out.2.1 _).mono ?_; rintro e wq ⟨rfl, hq⟩
        replace hbb := hbb.trans (hq.mono hbb.size)
        clear hq
        go_wp2_with fail
        refine (unsub_is _ _ h2.out.2.2 _).mono ?_; rintro e wq ⟨rfl, hq⟩
        replace hbb := hbb.trans (hq.mono hbb.size)
        clear hq
        go_wp2
        go_ret
        exact ⟨rfl, hbb⟩
  · go_enter Try.func6, Try.ntmps6
    go_wp2_with fail
    refine (big_great _ _ _ _ (by omega) hlen).mono ?_; rintro e w' ⟨rfl, rfl⟩
    go_wp2
    go_ret
    exact ⟨rfl, Below.refl _ _⟩
end Go.Proofs.Ythnagcnfejgkmaa
