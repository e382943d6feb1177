/-
  The walks of laws.FnExactTable and FnExactUntable.
-/
import Derived.Test.YtkbnnlhilnnpeaaDoorTabLaid
import Derived.Test.YtkbnnlhilnnpeaaDoorTabI
import Derived.Test.YtkbnnlhilnnpeaaDoorTableS
set_option linter.unusedVariables false
namespace Go.Proofs.YtkbnnlhilnnpeaaDoor
open Go.RowKit

theorem facts_FnExactTable {W : World} (h : laidMetH Tryd.prog Rows.fnExactTableRow.laid W) : Fac4 W 0 mxF := Mx8_laid h
theorem walk_FnExactTable (a0 : Int) (a1 : Int) (w0 : (Lit.int .i64 a0).wf = true) (w1 : (Lit.int .i64 a1).wf = true) (w : World) (hf : Fac4 w 0 mxF) :
    Calls Tryd.prog 9 #[.int .i64 a0, .int .i64 a1] w fun e w' => e = .returned (.bool true) ∧ Below w.heap.size w w' := by
  clear w0 w1
  have H1 := fun W => Lib.hid (Table_spec a0 a1 W)
  have H2 := Lib.hid (Table_impl a0 a1 w hf)
  generalize tableI a0 a1 = r at *
  clear hf
  go_enter Tryd.func9, Tryd.ntmps9
  go_wp2_with fail
  refine (H1 _).out.mono ?_; rintro e w' ⟨rfl, rfl⟩
  go_wp2_with fail
  refine H2.out.mono ?_; rintro e w1 ⟨rfl, hb⟩
  go_wp2
  go_ret
  exact ⟨rfl, hb⟩
theorem facts_FnExactUntable {W : World} (h : laidMetH Tryd.prog Rows.fnExactUntableRow.laid W) : Fac4 W 1 unF := Un8_laid h
theorem walk_FnExactUntable (a0 : Int) (a1 : Int) (w0 : (Lit.int .i64 a0).wf = true) (w1 : (Lit.int .i64 a1).wf = true) (w : World) (hf : Fac4 w 1 unF) :
    Calls Tryd.prog 10 #[.int .i64 a0, .int .i64 a1] w fun e w' => e = .returned (.bool true) ∧ Below w.heap.size w w' := by
  clear w0 w1
  have H1 := fun W => Lib.hid (Untable_spec a0 a1 W)
  have H2 := Lib.hid (Untable_impl a0 a1 w hf)
  generalize untableI a0 a1 = r at *
  clear hf
  go_enter Tryd.func10, Tryd.ntmps10
  go_wp2_with fail
  refine (H1 _).out.mono ?_; rintro e w' ⟨rfl, rfl⟩
  go_wp2_with fail
  refine H2.out.mono ?_; rintro e w1 ⟨rfl, hb⟩
  go_wp2
  go_ret
  exact ⟨rfl, hb⟩
end Go.Proofs.YtkbnnlhilnnpeaaDoor
