/-
  markIntS and heldIntS of the exact laws; sameInts.
-/
import Derived.Test.YtbgjeipgmlcgaaaDoorInts
import Derived.Test.YtbgjeipgmlcgaaaDoorKeyMath
import Derived.WalkKit
import Derived.LoopTactic
import Derived.OwnWalk
import Derived.WalkLawsBesides
import Derived.WalkSpells
import Derived.Outline
import Derived.Below
import Derived.Laws.AppendOwn
import Derived.Laws.OwnMore
import Derived.Deep.QuietTactic
import Derived.Deep.Draws
import Derived.BigQuiet
import Derived.WalkSmall
import Derived.IntWalk
set_option linter.unusedVariables false
namespace Go.Proofs.YtbgjeipgmlcgaaaDoor
open Go.RowKit
attribute [local go_sem ↓] Go.wp_at_zero Go.wp_at_succ

/-- the marks from K on. -/
def markF (K : Nat) (j : Nat) : Int := ((K + j : Nat) : Int)
def oldF (l : List Int) (j : Nat) : Int := l.getD j 0
theorem old_up (l : List Int) (n : Nat) (h : l.length = n) : upTo (oldF l) n = l := by
  apply List.ext_getElem
  · rw [upTo_length, h]
  · intro i h1 h2
    rw [upTo_get]
    unfold oldF
    rw [List.getD_eq_getElem?_getD, List.getElem?_eq_getElem h2]; rfl
theorem mark_rel {w wr : World} {B g n c K j : Nat} {l : List Int} {e : TypeId} (hown : wr.ownsRow B e 1 (.slice (some ⟨g, 0, none⟩) n c) n (cells64 (rowTo (markF K) (oldF l) n j))) (hb : Below B w wr) (hg : B ≤ g) :
    (wr.setCell ⟨g, j, none⟩ (.int .i64 ((K : Int) + (j : Int)))).ownsRow B e 1 (.slice (some ⟨g, 0, none⟩) n c) n (cells64 (rowTo (markF K) (oldF l) n (j + 1))) ∧ Below B w (wr.setCell ⟨g, j, none⟩ (.int .i64 ((K : Int) + (j : Int)))) := by
  refine ⟨?_, hb.setCell hg _⟩
  have h := (hown.stored j (.int .i64 ((K : Int) + (j : Int)))).1
  have e : (cells64 (rowTo (markF K) (oldF l) n j)).set j (.int .i64 ((K : Int) + (j : Int))) = cells64 (rowTo (markF K) (oldF l) n (j + 1)) := by
    rw [← rowTo_set]
    unfold cells64
    rw [List.map_set]
    congr 1
  rw [e] at h
  exact h
set_option maxRecDepth 100000 in
set_option maxHeartbeats 1600000 in
theorem marki_any (w : World) (B : Nat) (A : Option Addr) (n c K : Nat) (l : List Int) (h : w.ownsRow B 3 1 (.slice A n c) n (cells64 l)) (hn : n ≤ 1048576) (hK2 : K ≤ 1000) :
    Calls Tryd.prog 28 #[.slice A n c, .int .i64 K] w fun e w' => e = .returned (.int .i64 ((K + n : Nat) : Int)) ∧ w'.ownsRow B 3 1 (.slice A n c) n (cells64 (upTo (markF K) n)) ∧ Below B w w' := by
  have hl : l.length = n := by have := h.1; simpa [cells64] using this
  have H0 : w.ownsRow B 3 1 (.slice A n c) n (cells64 (rowTo (markF K) (oldF l) n 0)) := by rw [rowTo_zero, old_up l n hl]; exact h
  have HO := Lib.hid H0
  clear h H0 hl
  go_enter Tryd.func28, Tryd.ntmps28
  go_wp2
  go_loopw [1, 5] (fun m i wr => ∃ j : Nat, j ≤ n ∧ i = .int .i64 j ∧ m = .int .i64 ((K : Int) + (j : Int)) ∧ wr.ownsRow B 3 1 (.slice A n c) n (cells64 (rowTo (markF K) (oldF l) n j)) ∧ Below B w wr) (fun _ i _ => n - (intOf i).toNat)
  case atStart => exact ⟨0, Nat.zero_le _, rfl, by simp, HO.out, Below.refl _ _⟩
  case round =>
    obtain ⟨j, hj, rfl, rfl, hown, hbel⟩ := hrel
    by_cases hlt : j < n
    · obtain ⟨g, cap, hv, hgB, hg⟩ := hown.form (by omega)
      injection hv with hA _ hc2
      subst hA hc2
      have hcl : (cells64 (rowTo (markF K) (oldF l) n j)).length = n := by rw [cells64, List.length_map, rowTo_length]
      obtain ⟨u, hcell⟩ : ∃ u, wr.cell? ⟨g, j, none⟩ = some u := ⟨_, (hown.cellAt j (by omega)).trans (List.getElem?_eq_getElem (by omega))⟩
      have hfr := hown.frozenAt j
      have HX := Lib.hid (mark_rel hown hbel hgB)
      have hj0 : (0 : Int) ≤ (j : Int) := by omega
      have hj1 : (j : Int) < (n : Int) := by omega
      have hK3 : (K : Int) ≤ 1000 := by omega
      have hn3 : (n : Int) ≤ 1048576 := by omega
      clear hown hbel hcl HO
      go_wp2
      go_roundw
      case rel => exact ⟨j + 1, by omega, by go_num, by congr 1, HX.out⟩
      case measure => simp [intOf]; omega
    · have hj1 : ¬ (j : Int) < (n : Int) := by omega
      obtain rfl : n = j := by omega
      rw [rowTo_all _ _ _ _ (Nat.le_refl _)] at hown
      go_wp2
      go_ret
      exact ⟨by simp, hown, hbel⟩
set_option maxRecDepth 100000 in
set_option maxHeartbeats 1600000 in
theorem heldi_any (w : World) (A : Option Addr) (n c K : Nat) (h : IRow w A n (upTo (markF K) n)) (hn : n ≤ 1048576) (hK2 : K ≤ 1000) :
    Calls Tryd.prog 29 #[.slice A n c, .int .i64 K] w fun e w' => e = .returned (.int .i64 ((K + n : Nat) : Int)) ∧ w = w' := by
  have H := Lib.hid h
  clear h
  go_enter Tryd.func29, Tryd.ntmps29
  go_wp2
  go_loop [1, 5] (fun m i => ∃ j : Nat, j ≤ n ∧ i = .int .i64 j ∧ m = .int .i64 ((K : Int) + (j : Int))) (fun _ i => n - (intOf i).toNat)
  case atStart => exact ⟨0, Nat.zero_le _, rfl, by simp⟩
  case round =>
    obtain ⟨j, hj, rfl, rfl⟩ := hrel
    by_cases hlt : j < n
    · obtain ⟨b, o, rfl, hb, hc⟩ := H.out.2 j (by rw [upTo_length]; exact hlt)
      rw [upTo_get, markF] at hc
      have hcell : w.cell? ⟨b, o + j, none⟩ = some (.int .i64 ((K : Int) + (j : Int))) := hc
      have hj0 : (0 : Int) ≤ (j : Int) := by omega
      have hj1 : (j : Int) < (n : Int) := by omega
      have hK3 : (K : Int) ≤ 1000 := by omega
      have hn3 : (n : Int) ≤ 1048576 := by omega
      clear hc
      go_wp2
      go_round
      case rel => exact ⟨j + 1, by omega, by go_num, by congr 1⟩
      case measure => simp [intOf]; omega
    · have hj1 : ¬ (j : Int) < (n : Int) := by omega
      obtain rfl : n = j := by omega
      go_wp2
      go_ret
      exact ⟨by simp, rfl⟩
set_option maxRecDepth 100000 in
set_option maxHeartbeats 1600000 in
/-- sameInts of two lists that hold the same integers. -/
theorem samei_any (w : World) (A A' : Option Addr) (n c c' : Nat) (l : List Int) (h : IRow w A n l) (h' : IRow w A' n l) (hn : n ≤ 4611686018427387904) :
    Calls Tryd.prog 12 #[.slice A n c, .slice A' n c'] w fun e w' => e = .returned (.bool true) ∧ ∃ k, w' = w.drewN k := by
  have H := Lib.hid h
  have H' := Lib.hid h'
  clear h h'
  go_enter Tryd.func12, Tryd.ntmps12
  go_wp2
  go_loopw [5] (fun i wr => ∃ k q : Nat, k ≤ n ∧ i = .int .i64 k ∧ wr = w.drewN q) (fun i _ => n - (intOf i).toNat)
  case atStart => exact ⟨0, 0, Nat.zero_le _, rfl, rfl⟩
  case round =>
    obtain ⟨k, q, hk, rfl, rfl⟩ := hrel
    by_cases hlt : k < n
    · obtain ⟨g, o, rfl, hg, hc⟩ := H.out.2 k (by have := H.out.1; omega)
      obtain ⟨g', o', rfl, hg', hc'⟩ := H'.out.2 k (by have := H'.out.1; omega)
      have hk0 : (0 : Int) ≤ (k : Int) := by omega
      have hk1 : (k : Int) < (n : Int) := by omega
      generalize l[k]'(by have := H.out.1; omega) = x at *
      go_wp2
      go_quiet (fail)
      go_wp2
      go_roundw
      case rel => exact ⟨k + 1, _, by omega, by go_num, rfl⟩
      case measure => simp [intOf]; omega
    · have hk1 : ¬ (k : Int) < (n : Int) := by omega
      go_wp2
      go_ret
      exact ⟨rfl, q, rfl⟩
end Go.Proofs.YtbgjeipgmlcgaaaDoor
