/-
  What the row of laws.FnExactBegin lays: the handle of the type 'error'.
-/
import Derived.Test.YtlcfbeoaddjmnaaDoorBegI
import Derived.Test.YtlcfbeoaddjmnaaDoorRows
import Derived.LaidLaws
import Derived.LaidHandle
import Derived.Stop.Joined
import Derived.RowKit
import Derived.RowKitTokens
set_option linter.unusedVariables false
namespace Go.Proofs.YtlcfbeoaddjmnaaDoor
open Go Go.RowKit

theorem err_global : Tryd.prog.globalNamed "errors.errorType" = some 0 := by kernel_rfl
theorem err_rtype : (Tryd.prog.cutTypes.find? (·.1 == "internal/reflectlite.rtype")).map (·.2) = some 56 := by kernel_rfl
theorem err_oneRow : ((List.range 100).filter fun t => Tryd.prog.rowNamed t [101, 114, 114, 111, 114]) = [31] := by kernel_rfl
theorem err_size : Tryd.prog.types.size = 100 := by kernel_rfl
theorem facts_FnExactBegin {W : World} (h : laidMetH Tryd.prog Rows.fnExactBeginRow.laid W) : ErrT W := by
  have h' : laidMet Tryd.prog [] W ∧ handlesMet Tryd.prog Rows.fnExactBeginRow.laid W := h
  obtain ⟨name, u, ty, e1, e2, e3, e4, e5⟩ := h'.2 _ (List.mem_singleton.2 rfl)
  have en : name = [101, 114, 114, 111, 114] := (Option.some.inj e1).symm
  subst en
  obtain rfl := Option.some.inj (err_rtype.symm.trans e2)
  have hm : ty ∈ (List.range 100).filter fun t => Tryd.prog.rowNamed t [101, 114, 114, 111, 114] := List.mem_filter.2 ⟨List.mem_range.2 (by rw [← err_size]; exact e3), e4⟩
  rw [err_oneRow] at hm
  obtain rfl := List.mem_singleton.1 hm
  have hh : typeHandle Tryd.prog 31 = .pointer (some ⟨1, 31, none⟩) := by kernel_rfl
  rw [hh] at e5
  show W.cell? _ = _
  simpa using World.var?_cell err_global e5 0

/-- a world that holds it: the settled one, the variable's cell laid. -/
noncomputable def errWorld (os : Os) : World :=
  let w0 := World.holding Tryd.prog os ⟨#[], #[], []⟩
  { w0 with heap := w0.heap.modify 0 fun
      | .cells _ t frozen => .cells #[.iface 56 (.agg #[.pointer (some ⟨1, 31, none⟩)])] t frozen
      | o => o }
theorem errWorld_met (os : Os) (args : Array Value) : laidMetH Tryd.prog Rows.fnExactBeginRow.laid ((errWorld os).forCall (fun _ _ => 0) ⟨#[], args, []⟩).memory :=
  laidMetH_of_parts (laidMet_nil _ _) (by kernel_rfl)
end Go.Proofs.YtlcfbeoaddjmnaaDoor
