/-
  What impl.DecText answers; the walk of laws.FnExactDecText; what the row's list of variables gives.
-/
import Derived.Test.YtdhncpkcbeggmaaDoorRows
import Derived.Test.YtdhncpkcbeggmaaDoorDec
import Derived.Test.YtdhncpkcbeggmaaDoorItoa
import Derived.WalkKit
import Derived.OwnWalk
import Derived.WalkLawsBesides
import Derived.WalkSpells
import Derived.Outline
import Derived.Below
import Derived.Lib.LaidTab
import Derived.Stop.LaidErr
import Derived.ProofKit
import Derived.Deep.Draws
set_option linter.unusedVariables false
namespace Go.Proofs.YtdhncpkcbeggmaaDoor
open Go.RowKit

def Pow10 (w : World) : Prop := Lib.TabIs Tryd.prog w "internal/strconv.uint64pow10" .u64 Lib.pow10Tab
theorem gPow : Tryd.prog.globalNamed "internal/strconv.uint64pow10" = some 2 := by kernel_rfl
theorem pow_below {w w' : World} {B : Nat} (h : Pow10 w) (hb : Below B w w') (hB : 2 < B) : Pow10 w' :=
  var?_below hb gPow hB h
theorem below_grow (w : World) (k : Nat) (os : Array Obj) : Below w.heap.size w (Sort.grow (w.drewN k) os) := by
  refine ⟨rfl, rfl, rfl, ?_, fun j hj => ?_⟩
  · show w.heap.size ≤ (w.heap ++ os).size
    rw [Array.size_append]; omega
  · show (w.heap ++ os)[j]? = w.heap[j]?
    rw [Array.getElem?_append_left hj]
set_option maxHeartbeats 800000 in
theorem dec_impl (n : Int) (w : World) (h0 : -9223372036854775808 ≤ n) (h1 : n ≤ 9223372036854775807) (ht : Pow10 w) :
    Calls Tryd.prog 10 #[.int .i64 n] w fun e w' => e = .returned (.string (str (Lib.itoa n))) ∧ Below w.heap.size w w' := by
  have H := Lib.hid ht
  clear ht
  go_enter Tryd.func10, Tryd.ntmps10
  go_wp2_with fail
  refine (Tryd.strconv_Itoa n h0 h1 _ H.out).mono ?_; rintro e w1 ⟨rfl, k, os, rfl⟩
  have hb := Lib.hid (below_grow w k os)
  go_wp2
  go_ret
  exact ⟨rfl, hb.out⟩

set_option maxHeartbeats 800000 in
theorem walk_FnExactDecText (a0 : Int) (w0 : (Lit.int .i64 a0).wf = true) (w : World) (ht : Pow10 w) :
    Calls Tryd.prog 5 #[.int .i64 a0] w fun e w' => e = .returned (.bool true) ∧ Below w.heap.size w w' := by
  obtain ⟨h0, h1⟩ : -9223372036854775808 ≤ a0 ∧ a0 ≤ 9223372036854775807 := by
    simp [Lit.wf, IntKind.min, IntKind.max, IntKind.bits, IntKind.signed] at w0
    exact w0
  have H := Lib.hid ht
  clear ht
  go_enter Tryd.func5, Tryd.ntmps5
  go_wp2_with fail
  refine (dec_spec a0 _ h0 h1).mono ?_; rintro e w1 ⟨rfl, rfl⟩
  go_wp2_with fail
  refine (dec_impl a0 _ h0 h1 H.out).mono ?_; rintro e w2 ⟨rfl, hb⟩
  go_wp2
  go_ret
  exact ⟨rfl, hb⟩

theorem facts_FnExactDecText {W : World} (h : laidMetH Tryd.prog Rows.fnExactDecTextRow.laid W) : Pow10 W := by
  have h' : laidMet Tryd.prog Rows.fnExactDecTextRow.laid W := h
  have h3 := h'.tail.tail
  exact Lib.tabIs_of_head (rest := []) gPow (t := 84) (e := 69) (n := 20) (by kernel_rfl) Tryd.underlying84 Tryd.underlying69 (by kernel_rfl) (by kernel_rfl) h3
end Go.Proofs.YtdhncpkcbeggmaaDoor
