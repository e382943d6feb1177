/-
  What the draws of the small field answer.
-/
import Derived.Test.YtkbnnlhilnnpeaaDoorBase
import Derived.Deep.RegionHeld3
import Derived.Deep.DrawnRows
import Derived.Deep.AppendLies
import Derived.WalkKit
import Derived.LoopTactic
import Derived.OwnWalk
import Derived.WalkLawsBesides
import Derived.WalkSpells
import Derived.Outline
import Derived.Laws.Pointers
import Derived.Deep.QuietTactic
import Derived.BigQuiet
import Derived.IntWalk
set_option linter.unusedVariables false
namespace Go.Proofs.YtkbnnlhilnnpeaaDoor
open Go.RowKit

set_option maxRecDepth 100000 in
set_option maxHeartbeats 1600000 in
theorem byte2_any (w : World) (B g : Nat) (A : Option Addr) (len cap : Nat) (hc : CurIn w B g A len cap) :
    Calls Tryd.prog 61 #[.pointer (some ⟨g, 0, none⟩)] w fun e w' => ∃ x : Int, e = .returned (.int .i64 x) ∧ In64 x ∧ CurIn w' B g A len cap ∧ w.grownBy w' (some g) := by
  go_enter Tryd.func61, Tryd.ntmps61
  go_wp2_with fail
  refine (once_any _ (by omega) (by omega) _ _ _ _ _ _ hc).mono ?_; rintro e w1 ⟨x, rfl, hc1, hg1⟩
  cases x with
  | true =>
    go_wp2_with fail
    refine (int_any _ _ _ _ _ _ hc1).mono ?_; rintro e w2 ⟨x, rfl, hx, hc2, hg2⟩
    have HX := Lib.hid hx
    clear hx
    go_wp2
    go_ret
    exact ⟨_, rfl, HX.out, hc2, only_trans hg1 hg2⟩
  | false =>
    go_wp2_with fail
    refine (below_small _ (by omega) (by omega) _ _ _ _ _ _ hc1).mono ?_; rintro e w2 ⟨x, rfl, hx0, hx1, hc2, hg2⟩
    go_wp2_with fail
    refine (below_small _ (by omega) (by omega) _ _ _ _ _ _ hc2).mono ?_; rintro e w3 ⟨y, rfl, hy0, hy1, hc3, hg3⟩
    go_wp2_with fail
    refine (below_small _ (by omega) (by omega) _ _ _ _ _ _ hc3).mono ?_; rintro e w4 ⟨z, rfl, hz0, hz1, hc4, hg4⟩
    have hgr := only_trans (only_trans (only_trans hg1 hg2) hg3) hg4
    clear hg1 hg2 hg3 hg4 hc1 hc2 hc3
    go_wp2_with fail
    refine (pickint_any In64 10 w4.heap.size 3 _ (by omega) (by omega) _ _ _ _ _ _ (hc4.alloc _) (heap_alloc_new w4 _) hc4.lt (lits [0, 1, 2, 3, 27, 128, 255, x, y, z] (by unfold In64; simp; omega))).mono ?_
    rintro e w5 ⟨u, rfl, hu, hc5, hg5⟩
    have HU := Lib.hid hu
    clear hu
    go_wp2
    go_ret
    exact ⟨_, rfl, HU.out, hc5, only_trans (only_alloc hgr _) hg5⟩

theorem own_only64 {w w' : World} {base n size g : Nat} {e : TypeId} {v : Value} {xs : List Value} (h : w.ownsRow base e size v n xs) (hg : w.grownBy w' (some g)) (hlt : g < base) : w'.ownsRow base e size v n xs :=
  h.kept hg (.inr (fun he => by have := (h.lt g he).1; omega))
theorem ints_rel {w w4 w5 : World} {k B g : Nat} {A : Option Addr} {len cap : Nat} {e : TypeId} {u v : Value} {o : Obj} {l : List Int} {x : Int} (hgw : g < w.heap.size)
    (hown4 : w4.ownsRow w.heap.size e 1 u k (cells64 l)) (hc4 : CurIn w4 B g A len cap) (hgr4 : w.grownBy w4 (some g))
    (hown5 : w5.ownsRow w.heap.size e 1 v (k + 1) (cells64 l ++ [.int .i64 x])) (hgrow : (w4.alloc o).grownBy w5 u.ownBlock) :
    w5.ownsRow w.heap.size e 1 v (k + 1) (cells64 (l ++ [x])) ∧ CurIn w5 B g A len cap ∧ w.grownBy w5 (some g) := by
  have hr : ∀ r, u.ownBlock = some r → w.heap.size ≤ r := fun r e => (hown4.lt r e).1
  refine ⟨?_, (hc4.alloc o).grown hgrow (fun r e => Nat.lt_of_lt_of_le hgw (hr r e)), only_grown (only_alloc hgr4 o) hgrow (fun r e => .inr (hr r e))⟩
  rw [cells64, List.map_append]
  exact hown5
theorem own_slice {w : World} {base n : Nat} {e : TypeId} {v : Value} {l : List Int} (h : w.ownsRow base e 1 v n (cells64 l)) : ∃ A c, v = .slice A n c ∧ n ≤ c ∧ c ≤ 9223372036854775807 := by
  rcases h.2 with ⟨rfl, rfl⟩ | ⟨g, cap, cur, rfl, hb, hg, hn, hm, _⟩
  · exact ⟨none, 0, rfl, by omega, by omega⟩
  · exact ⟨_, _, rfl, hn, by unfold maxLen at hm; omega⟩

end Go.Proofs.YtkbnnlhilnnpeaaDoor
