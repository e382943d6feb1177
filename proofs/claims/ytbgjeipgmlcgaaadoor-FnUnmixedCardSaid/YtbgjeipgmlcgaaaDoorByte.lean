/-
  What spec.l01Byte answers: some byte; the cursor stays one.
-/
import Derived.Test.YtbgjeipgmlcgaaaDoorCur
import Derived.WalkKit
import Derived.LoopTactic
import Derived.OwnWalk
import Derived.WalkLawsBesides
import Derived.WalkSpells
import Derived.Outline
import Derived.Laws.Pointers
import Derived.Deep.QuietTactic
import Derived.BigQuiet
import Derived.IntWalk
set_option linter.unusedVariables false
namespace Go.Proofs.YtbgjeipgmlcgaaaDoor
open Go.RowKit

theorem cur_one {w : World} {B g : Nat} {A : Option Addr} {len cap i : Nat} {h : Int} (hg : w.heap[g]? = some (.cells #[.slice A len cap, .int .i64 i, .int .i64 h] 57 (0, 0)))
    (hB : B ≤ g) (hlen : len ≤ 1048576) (hcode : CodeAt w B A len) (hi : i ≤ len) (v : Int) (n : Nat) : CurIn ((w.setCell ⟨g, 2, none⟩ (.int .i64 v)).drewN n) B g A len cap := by
  have h1 := heap_setCell_same w g 2 _ _ (.int .i64 v) hg
  exact ⟨hB, hlen, (hcode.grown (only_setCell (g := g) (only_refl w _) (.inl rfl) _) (fun k e => by cases e; exact hB)).grown (only_drewN (only_refl _ none) n) (fun k e => by cases e), i, v, hi, h1⟩
theorem cur_two {w : World} {B g : Nat} {A : Option Addr} {len cap i : Nat} {h : Int} (hg : w.heap[g]? = some (.cells #[.slice A len cap, .int .i64 i, .int .i64 h] 57 (0, 0)))
    (hB : B ≤ g) (hlen : len ≤ 1048576) (hcode : CodeAt w B A len) (v : Int) (n : Nat) (u : Value) (hi : u = .int .i64 ((i : Int) + 1) ∧ i < len) :
    CurIn (((w.setCell ⟨g, 2, none⟩ (.int .i64 v)).drewN n).setCell ⟨g, 1, none⟩ u) B g A len cap := by
  have h1 := heap_setCell_same w g 2 _ _ (.int .i64 v) hg
  have h2 := heap_setCell_same ((w.setCell ⟨g, 2, none⟩ (.int .i64 v)).drewN n) g 1 _ _ u h1
  have hg1 : w.grownBy (((w.setCell ⟨g, 2, none⟩ (.int .i64 v)).drewN n).setCell ⟨g, 1, none⟩ u) (some g) :=
    only_setCell (p := ⟨g, 1, none⟩) (only_drewN (only_setCell (p := ⟨g, 2, none⟩) (only_refl _ (some g)) (.inl rfl) _) _) (.inl rfl) _
  obtain ⟨hu, hlt⟩ := hi
  rw [show ((i : Int) + 1) = ((i + 1 : Nat) : Int) by omega] at hu
  subst hu
  exact ⟨hB, hlen, hcode.grown hg1 (fun k e => by cases e; exact hB), i + 1, v, by omega, h2⟩

set_option maxRecDepth 100000 in
set_option maxHeartbeats 1600000 in
theorem byte_any (w : World) (B g : Nat) (A : Option Addr) (len cap : Nat) (hc : CurIn w B g A len cap) :
    Calls Tryd.prog 79 #[.pointer (some ⟨g, 0, none⟩)] w fun e w' => ∃ x : Int, e = .returned (.int .i64 x) ∧ 0 ≤ x ∧ x ≤ 255 ∧ CurIn w' B g A len cap ∧ w.grownBy w' (some g) := by
  obtain ⟨hB, hlen, hcode, i, h, hi, hg⟩ := hc
  have c0 : w.cell? ⟨g, 0, none⟩ = some (.slice A len cap) := cell_of_row w g 0 _ _ _ hg
  have c1 : w.cell? ⟨g, 1, none⟩ = some (.int .i64 i) := cell_of_row w g 1 _ _ _ hg
  have c2 : w.cell? ⟨g, 2, none⟩ = some (.int .i64 h) := cell_of_row w g 2 _ _ _ hg
  have f1 := frozen_of_row w g 1 _ _ hg
  have f2 := frozen_of_row w g 2 _ _ hg
  have HG := Lib.hid hg
  have HC := Lib.hid hcode
  clear hg hcode
  by_cases hlt : i < len
  · obtain ⟨b, o, x, rfl, hb, hx, hcell⟩ := HC.out i hlt
    have hne : ¬ b = g := by omega
    have hne2 : ¬ g = b := by omega
    have hi0 : (0 : Int) ≤ (i : Int) := by omega
    have hi1 : (i : Int) < (len : Int) := by omega
    have hx' : (x : Int) < 256 := by omega
    go_enter Tryd.func79, Tryd.ntmps79
    go_wp2
    go_quiet (fail)
    go_wp2
    go_quiet (fail)
    go_wp2
    go_quiet (fail)
    go_wp2
    go_ret
    refine ⟨_, rfl, (and255 _).1, (and255 _).2, cur_two HG.out hB hlen HC.out _ _ _ ⟨rfl, hlt⟩, ?_⟩
    exact only_setCell (p := ⟨g, 1, none⟩) (only_drewN (only_setCell (p := ⟨g, 2, none⟩) (only_refl _ (some g)) (.inl rfl) _) _) (.inl rfl) _
  · have hi1 : ¬ (i : Int) < (len : Int) := by omega
    go_enter Tryd.func79, Tryd.ntmps79
    go_wp2
    go_quiet (fail)
    go_wp2
    go_quiet (fail)
    go_wp2
    go_ret
    refine ⟨_, rfl, (and255 _).1, (and255 _).2, ?_, ?_⟩
    · exact (cur_one HG.out hB hlen HC.out hi _ _).drewN nq
    · exact only_drewN (only_drewN (only_setCell (p := ⟨g, 2, none⟩) (only_refl _ (some g)) (.inl rfl) _) _) _
end Go.Proofs.YtbgjeipgmlcgaaaDoor
