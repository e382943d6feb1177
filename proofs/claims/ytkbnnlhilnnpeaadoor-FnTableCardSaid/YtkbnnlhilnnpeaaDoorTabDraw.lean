/-
  What the draws of tables answer.
-/
import Derived.Test.YtkbnnlhilnnpeaaDoorFieldDraw
import Derived.Test.YtkbnnlhilnnpeaaDoorDraws
set_option linter.unusedVariables false
namespace Go.Proofs.YtkbnnlhilnnpeaaDoor
open Go.RowKit

set_option maxRecDepth 100000 in
set_option maxHeartbeats 1600000 in
theorem draw_Table (w : World) (A : Option Addr) (len cap : Nat) (hcode : CodeAt w w.heap.size A len) (hl : len ≤ 1048576) :
    Calls Tryd.prog 19 #[.slice A len cap] w fun e w' => ∃ x y : Int, e = .returned (.tuple #[.int .i64 x, .int .i64 y]) ∧ Below w.heap.size w w' := by
  have H := Lib.hid hcode
  clear hcode
  go_enter Tryd.func19, Tryd.ntmps19
  go_wp2_with fail
  refine (new_any _ _ _ _ H.out hl).mono ?_; rintro e w1 ⟨g, rfl, hc1, hb1⟩
  go_wp2_with fail
  refine (pickint_any In64 6 w1.heap.size 3 _ (by omega) (by omega) _ _ _ _ _ _ (hc1.alloc _) (heap_alloc_new w1 _) hc1.lt (lits [0, 1, 2, 3, 4, -1] (by unfold In64; simp))).mono ?_
  rintro e w2 ⟨u, rfl, hu, hc2, hg2⟩
  clear hu
  go_wp2_with fail
  refine (byte2_any _ _ _ _ _ _ hc2).mono ?_; rintro e w3 ⟨x, rfl, hx, hc3, hg3⟩
  clear hx
  go_wp2
  go_ret2
  exact ⟨_, _, rfl, below_only hb1 (only_trans (only_trans (only_alloc (only_refl _ _) _) hg2) hg3) hc1.1 hb1.size⟩
set_option maxRecDepth 100000 in
set_option maxHeartbeats 1600000 in
theorem draw_Untable (w : World) (A : Option Addr) (len cap : Nat) (hcode : CodeAt w w.heap.size A len) (hl : len ≤ 1048576) :
    Calls Tryd.prog 20 #[.slice A len cap] w fun e w' => ∃ x y : Int, e = .returned (.tuple #[.int .i64 x, .int .i64 y]) ∧ Below w.heap.size w w' := by
  have H := Lib.hid hcode
  clear hcode
  go_enter Tryd.func20, Tryd.ntmps20
  go_wp2_with fail
  refine (new_any _ _ _ _ H.out hl).mono ?_; rintro e w1 ⟨g, rfl, hc1, hb1⟩
  go_wp2_with fail
  refine (pickint_any In64 6 w1.heap.size 3 _ (by omega) (by omega) _ _ _ _ _ _ (hc1.alloc _) (heap_alloc_new w1 _) hc1.lt (lits [0, 1, 2, 3, 4, -1] (by unfold In64; simp))).mono ?_
  rintro e w2 ⟨u, rfl, hu, hc2, hg2⟩
  clear hu
  go_wp2_with fail
  refine (byte2_any _ _ _ _ _ _ hc2).mono ?_; rintro e w3 ⟨x, rfl, hx, hc3, hg3⟩
  clear hx
  go_wp2
  go_ret2
  exact ⟨_, _, rfl, below_only hb1 (only_trans (only_trans (only_alloc (only_refl _ _) _) hg2) hg3) hc1.1 hb1.size⟩
end Go.Proofs.YtkbnnlhilnnpeaaDoor
