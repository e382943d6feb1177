/-
  markStringS and heldStringS of the exact laws.
-/
import Derived.Test.YtdhncpkcbeggmaaDoorProg
import Derived.Test.YtdhncpkcbeggmaaDoorDecMath
import Derived.Test.YtdhncpkcbeggmaaDoorStrs
import Derived.WalkKit
import Derived.LoopTactic
import Derived.OwnWalk
import Derived.WalkLawsBesides
import Derived.WalkSpells
import Derived.Outline
import Derived.Below
import Derived.Laws.AppendOwn
import Derived.Laws.OwnMore
import Derived.Deep.QuietTactic
import Derived.Deep.Draws
import Derived.BigQuiet
import Derived.WalkSmall
import Derived.IntWalk
import Derived.Deep.RegionHeld3
import Derived.Deep.DrawnRows
import Derived.Deep.AppendLies
import Derived.Lib.SlBytesRow
import Derived.Laws.MakeOwn
set_option linter.unusedVariables false
namespace Go.Proofs.YtdhncpkcbeggmaaDoor
open Go.RowKit
attribute [local go_sem ↓] Go.wp_at_zero Go.wp_at_succ

/-- the marks from K on. -/
def marks (K n : Nat) : List ByteArray := (List.range n).map fun j => mark (K + j)
theorem marks_length (K n : Nat) : (marks K n).length = n := by simp [marks]
theorem marks_succ (K n : Nat) : marks K (n + 1) = marks K n ++ [mark (K + n)] := by simp [marks, List.range_succ]
theorem marks_at (K n j : Nat) (h : j < (marks K n).length) : (marks K n)[j] = mark (K + j) := by simp [marks]
def mkTo (K j : Nat) (l : List ByteArray) : List ByteArray := marks K j ++ l.drop j
theorem mkTo_set (K j : Nat) (l : List ByteArray) (h : j < l.length) : (mkTo K j l).set j (mark (K + j)) = mkTo K (j + 1) l := by
  unfold mkTo
  rw [List.set_append_right _ _ (by rw [marks_length]; exact Nat.le_refl _), marks_length, Nat.sub_self, List.drop_eq_getElem_cons h, marks_succ, List.set_cons_zero, List.append_assoc]
  rfl
theorem mkTo_length (K j : Nat) (l : List ByteArray) (h : j ≤ l.length) : (mkTo K j l).length = l.length := by
  unfold mkTo; rw [List.length_append, marks_length, List.length_drop]; omega
theorem own_set {w : World} {B n c g j : Nat} {l : List ByteArray} (h : Own w B (some ⟨g, 0, none⟩) n c l) (x : ByteArray) : Own (w.setCell ⟨g, j, none⟩ (.string x)) B (some ⟨g, 0, none⟩) n c (l.set j x) := by
  refine ⟨by simpa using h.1, ?_⟩
  have := (h.2.stored j (.string x)).1
  rw [List.map_set]
  exact this

set_option maxRecDepth 100000 in
set_option maxHeartbeats 1600000 in
theorem marks_any (w : World) (B : Nat) (A : Option Addr) (n c K : Nat) (l : List ByteArray) (h : Own w B A n c l) (hB : B ≤ w.heap.size) (hn : n ≤ 4611686018427387904) (hK : 0 < K) (hK2 : K ≤ 1000) :
    Calls Tryd.prog 23 #[.slice A n c, .int .i64 K] w fun e w' => e = .returned (.int .i64 ((K + n : Nat) : Int)) ∧ Own w' B A n c (marks K n) ∧ Below B w w' := by
  have hl := h.1
  have HL := Lib.hid hl
  have H0 : Own w B A n c (mkTo K 0 l) := h
  clear h hl
  go_enter Tryd.func23, Tryd.ntmps23
  go_wp2
  go_loopw [1, 5] (fun m i wr => ∃ j : Nat, j ≤ n ∧ i = .int .i64 j ∧ m = .int .i64 ((K + j : Nat) : Int) ∧ Own wr B A n c (mkTo K j l) ∧ Below B w wr) (fun _ i _ => n - (intOf i).toNat)
  case atStart => exact ⟨0, Nat.zero_le _, rfl, rfl, H0, Below.refl _ _⟩
  case round =>
    obtain ⟨j, hj, rfl, rfl, hown, hbel⟩ := hrel
    by_cases hlt : j < n
    · obtain ⟨g, rfl, hg, hc⟩ := hown.reads.2 j (by rw [mkTo_length K j l (by have := HL.out; omega), HL.out]; exact hlt)
      have hBg := hown.block.1
      have hset := mkTo_set K j l (by have := HL.out; omega)
      have hj1 : (j : Int) < (n : Int) := by omega
      go_wp2_with fail
      refine (mark_any (K + j) _ (by omega) (by omega)).mono ?_; rintro e w1 ⟨rfl, hb1⟩
      have hown1 := hown.below hb1
      have hBs : B ≤ wr.heap.size := Nat.le_trans hB hbel.size
      have hbel1 := hbel.trans (hb1.mono hBs)
      have hc1 := (hb1.cell (p := ⟨g, j, none⟩) hg).trans hc
      have hf1 := hown1.2.frozenAt j
      have hown2 := own_set (j := j) hown1 (mark (K + j))
      rw [hset] at hown2
      have hbel2 := hbel1.setCell (p := ⟨g, j, none⟩) hBg (.string (mark (K + j)))
      have HO := Lib.hid hown2
      have HB := Lib.hid hbel2
      clear hown hown1 hown2 hbel hbel1 hbel2 hb1 hset hc
      go_wp2
      go_roundw
      case rel => exact ⟨j + 1, by omega, by go_num, by congr 1, HO.out, HB.out⟩
      case measure => simp [intOf]; omega
    · have hj1 : ¬ (j : Int) < (n : Int) := by omega
      obtain rfl : n = j := by omega
      have HO : Own wr B A n c (marks K n) := by
        have := hown
        unfold mkTo at this
        rw [List.drop_of_length_le (by have := HL.out; omega), List.append_nil] at this
        exact this
      go_wp2
      go_ret
      exact ⟨by simp, HO, hbel⟩

set_option maxRecDepth 100000 in
set_option maxHeartbeats 1600000 in
theorem held_any (w : World) (A : Option Addr) (n c K : Nat) (h : SRow w A n (marks K n)) (hn : n ≤ 4611686018427387904) (hK : 0 < K) (hK2 : K ≤ 1000) :
    Calls Tryd.prog 24 #[.slice A n c, .int .i64 K] w fun e w' => e = .returned (.int .i64 ((K + n : Nat) : Int)) ∧ Below w.heap.size w w' := by
  have H := Lib.hid h
  clear h
  go_enter Tryd.func24, Tryd.ntmps24
  go_wp2
  go_loopw [1, 5] (fun m i wr => ∃ j : Nat, j ≤ n ∧ i = .int .i64 j ∧ m = .int .i64 ((K + j : Nat) : Int) ∧ Below w.heap.size w wr) (fun _ i _ => n - (intOf i).toNat)
  case atStart => exact ⟨0, Nat.zero_le _, rfl, rfl, Below.refl _ _⟩
  case round =>
    obtain ⟨j, hj, rfl, rfl, hbel⟩ := hrel
    by_cases hlt : j < n
    · obtain ⟨g, rfl, hg, hc⟩ := (H.out.below hbel).2 j (by rw [marks_length]; exact hlt)
      rw [marks_at] at hc
      have hj0 : (0 : Int) ≤ (j : Int) := by omega
      have hj1 : (j : Int) < (n : Int) := by omega
      have CM := fun W => Lib.hid (mark_any (K + j) W (by omega) (by omega))
      generalize mark (K + j) = x at *
      go_wp2
      go_region_held3 (fun w' => w'.cell? ⟨g, j, none⟩ = some (.string x))
        (first
          | assumption
          | exact hc
          | exact (hb1.cell (p := ⟨g, j, none⟩) (by simpa using hg)).trans (by assumption))
        (first | (go_at_call 37; refine (CM _).out.mono ?_; rintro e w1 ⟨rfl, hb1⟩))
      all_goals
        have hbel1 := (hbel.drew).trans (hb1.mono hbel.size)
        clear hbel hb1
        go_wp2
        go_roundw
        case rel => exact ⟨j + 1, by omega, by go_num, by congr 1, hbel1⟩
        case measure => simp [intOf]; omega
    · have hj1 : ¬ (j : Int) < (n : Int) := by omega
      obtain rfl : n = j := by omega
      go_wp2
      go_ret
      exact ⟨by simp, hbel⟩
end Go.Proofs.YtdhncpkcbeggmaaDoor
