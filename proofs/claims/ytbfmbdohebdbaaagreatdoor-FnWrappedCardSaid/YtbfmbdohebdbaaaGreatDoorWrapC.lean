/-
  Contracts and facts that the laws of this seat use: W77, W78.
-/
import Derived.Test.YtbfmbdohebdbaaaGreatDoorWrapX
import Derived.Test.YtbfmbdohebdbaaaGreatDoorWrapW
import Derived.Test.YtbfmbdohebdbaaaGreatDoorTabLaid
import Derived.Test.YtbfmbdohebdbaaaGreatDoorRows
import Derived.LaidLaws
import Derived.LaidHandle
import Derived.Stop.Joined
import Derived.Stop.LaidErr
import Derived.RowKit
import Derived.RowKitTokens
set_option linter.unusedVariables false
set_option linter.unusedSimpArgs false
namespace Go.Proofs.YtbfmbdohebdbaaaGreatDoor
open Go Go.RowKit

set_option maxRecDepth 100000 in
set_option maxHeartbeats 800000 in
theorem walk_FnExactWrap (a0 : ByteArray) (a1 : ByteArray) (w0 : a0.size ≤ maxLen) (w1 : a1.size ≤ maxLen) (w : World) (hf : ∃ fa, WFac w fa) :
    Calls Tryz.prog 6 #[.string a0, .string a1] w fun e w' => e = .returned (.bool true) ∧ Below w.heap.size w w' := by
  unfold maxLen at w0 w1
  by_cases hs : 1048576 < a0.size
  · go_enter Tryz.func6, Tryz.ntmps6
    go_wp2
    go_ret
    exact ⟨rfl, Below.refl _ _⟩
  · by_cases hs1 : 1048576 < a1.size
    · go_enter Tryz.func6, Tryz.ntmps6
      go_wp2
      go_ret
      exact ⟨rfl, Below.refl _ _⟩
    · obtain ⟨fa, hf⟩ := hf
      have C1 := fun W => Lib.hid (Wrap_spec a0 a1 W)
      have C2 : ∀ W, Below w.heap.size w W → Hid (Calls Tryz.prog 10 #[.string a0, .string a1] W fun e w' => e = .returned (.tuple #[.string (wrT a0 a1), .int .i64 (wrC a0 a1)]) ∧ Below W.heap.size W w') := fun W hW => Lib.hid (Wrap_impl a0 a1 fa (by omega) W (hf.up hW))
      clear hf
      generalize wrT a0 a1 = x at *
      generalize wrC a0 a1 = y at *
      go_enter Tryz.func6, Tryz.ntmps6
      go_wp2_with fail
      refine (C1 _).out.mono ?_; rintro e w1 ⟨rfl, hb1⟩
      go_wp2_with fail
      refine (C2 _ hb1).out.mono ?_; rintro e w2 ⟨rfl, hb2⟩
      have hb := hb1.trans (hb2.mono hb1.size)
      clear hb1 hb2
      go_wp2
      go_ret
      exact ⟨rfl, hb⟩
set_option maxRecDepth 100000 in
set_option maxHeartbeats 800000 in
theorem walk_FnExactUnwrap (a0 : ByteArray) (a1 : ByteArray) (w0 : a0.size ≤ maxLen) (w1 : a1.size ≤ maxLen) (w : World) (hf : ∃ fa, WFac w fa ∧ Fac4 w 2 unF) :
    Calls Tryz.prog 7 #[.string a0, .string a1] w fun e w' => e = .returned (.bool true) ∧ Below w.heap.size w w' := by
  unfold maxLen at w0 w1
  by_cases hs : 1048576 < a0.size
  · go_enter Tryz.func7, Tryz.ntmps7
    go_wp2
    go_ret
    exact ⟨rfl, Below.refl _ _⟩
  · by_cases hs1 : 1048576 < a1.size
    · go_enter Tryz.func7, Tryz.ntmps7
      go_wp2
      go_ret
      exact ⟨rfl, Below.refl _ _⟩
    · obtain ⟨fa, hf, hu⟩ := hf
      have C1 := fun W => Lib.hid (Unwrap_spec a0 a1 W)
      have C2 : ∀ W, Below w.heap.size w W → Hid (Calls Tryz.prog 12 #[.string a0, .string a1] W fun e w' => e = .returned (.tuple #[.string (uwT a0 a1), .int .i64 (uwC a0 a1)]) ∧ Below W.heap.size W w') := fun W hW => Lib.hid (Unwrap_impl a0 a1 fa (by omega) W (hf.up hW) (hu.below hW hu.1))
      clear hf hu
      generalize uwT a0 a1 = x at *
      generalize uwC a0 a1 = y at *
      go_enter Tryz.func7, Tryz.ntmps7
      go_wp2_with fail
      refine (C1 _).out.mono ?_; rintro e w1 ⟨rfl, hb1⟩
      go_wp2_with fail
      refine (C2 _ hb1).out.mono ?_; rintro e w2 ⟨rfl, hb2⟩
      have hb := hb1.trans (hb2.mono hb1.size)
      clear hb1 hb2
      go_wp2
      go_ret
      exact ⟨rfl, hb⟩
end Go.Proofs.YtbfmbdohebdbaaaGreatDoor
set_option linter.unusedVariables false
namespace Go.Proofs.YtbfmbdohebdbaaaGreatDoor
open Go Go.RowKit

theorem err_global : Tryz.prog.globalNamed "errors.errorType" = some 3 := by kernel_rfl
theorem err_rtype : (Tryz.prog.cutTypes.find? (·.1 == "internal/reflectlite.rtype")).map (·.2) = some 108 := by kernel_rfl
theorem err_oneRow : ((List.range 276).filter fun t => Tryz.prog.rowNamed t [101, 114, 114, 111, 114]) = [41] := by kernel_rfl
theorem err_size : Tryz.prog.types.size = 276 := by kernel_rfl
theorem err_laid {W : World} (h : handlesMet Tryz.prog [("errors.errorType", Rows.laid_errors_errorType)] W) : W.cell? ⟨3, 0, none⟩ = some (.iface 108 (.agg #[.pointer (some ⟨5, 41, none⟩)])) := by
  obtain ⟨name, u, ty, e1, e2, e3, e4, e5⟩ := h _ (List.mem_singleton.2 rfl)
  have en : name = [101, 114, 114, 111, 114] := (Option.some.inj e1).symm
  subst en
  obtain rfl := Option.some.inj (err_rtype.symm.trans e2)
  have hm : ty ∈ (List.range 276).filter fun t => Tryz.prog.rowNamed t [101, 114, 114, 111, 114] := List.mem_filter.2 ⟨List.mem_range.2 (by rw [← err_size]; exact e3), e4⟩
  rw [err_oneRow] at hm
  obtain rfl := List.mem_singleton.1 hm
  have hh : typeHandle Tryz.prog 41 = .pointer (some ⟨5, 41, none⟩) := by kernel_rfl
  rw [hh] at e5
  simpa using World.var?_cell err_global e5 0
theorem fit_global : Tryz.prog.globalNamed "loop.example/g00835/impl.errNoFit" = some 0 := by kernel_rfl
theorem fit_star : "*" ++ "errors.errorString" = "*errors.errorString" := by decide
theorem fit_row (u : TypeId) (h : Tryz.prog.typeName? 3 u = some "*errors.errorString") : u = 232 :=
  typeName_ptr_named (nm := "errors.errorString") (by rw [fit_star]; kernel_rfl) (by kernel_rfl) (by decide) u (by rw [fit_star]; exact h)
theorem fit_laid {rest : List (String × DataW Unit)} {W : World} (h : laidMet Tryz.prog (("loop.example/g00835/impl.errNoFit", Rows.laid_loop_example_g00835_impl_errNoFit) :: rest) W) : ∃ fa, W.cell? ⟨0, 0, none⟩ = some (noFit fa) := by
  obtain ⟨a, s, hv, -, -, -⟩ := laid_sentinel h fit_global (by kernel_rfl) Tryz.underlying41 fit_row Tryz.underlying232 Tryz.underlying264 rfl rfl Tryz.underlying9 (by kernel_rfl) (by kernel_rfl)
  exact ⟨a, by unfold noFit; simpa using World.var?_cell fit_global hv 0⟩
theorem facts_FnExactWrap {W : World} (h : laidMetH Tryz.prog Rows.fnExactWrapRow.laid W) : ∃ fa, WFac W fa := by
  have h' : laidMet Tryz.prog [("loop.example/g00835/impl.mixFactors", Lib.tabData .u8 [2, 1, 1, 3]), ("loop.example/g00835/impl.errNoFit", Rows.laid_loop_example_g00835_impl_errNoFit)] W ∧ handlesMet Tryz.prog [("errors.errorType", Rows.laid_errors_errorType)] W := h
  obtain ⟨fa, hfit⟩ := fit_laid (laid_tail8 h'.1)
  exact ⟨fa, ⟨Mx8_laid h'.1, hfit, err_laid h'.2⟩⟩
theorem facts_FnExactUnwrap {W : World} (h : laidMetH Tryz.prog Rows.fnExactUnwrapRow.laid W) : ∃ fa, WFac W fa ∧ Fac4 W 2 unF := by
  have h' : laidMet Tryz.prog [("loop.example/g00835/impl.unmixFactors", Lib.tabData .u8 [14, 9, 13, 11]), ("loop.example/g00835/impl.mixFactors", Lib.tabData .u8 [2, 1, 1, 3]), ("loop.example/g00835/impl.errNoFit", Rows.laid_loop_example_g00835_impl_errNoFit)] W ∧ handlesMet Tryz.prog [("errors.errorType", Rows.laid_errors_errorType)] W := h
  obtain ⟨fa, hfit⟩ := fit_laid (laid_tail8 (laid_tail8 h'.1))
  exact ⟨fa, ⟨⟨Mx8_laid (laid_tail8 h'.1), hfit, err_laid h'.2⟩, Un8_laid h'.1⟩⟩
theorem facts_FnWrap {W : World} (h : laidMetH Tryz.prog Rows.fnWrapRow.laid W) : ∃ fa, WFac W fa ∧ Fac4 W 2 unF := by
  have h' : laidMet Tryz.prog [("loop.example/g00835/impl.unmixFactors", Lib.tabData .u8 [14, 9, 13, 11]), ("loop.example/g00835/impl.mixFactors", Lib.tabData .u8 [2, 1, 1, 3]), ("loop.example/g00835/impl.errNoFit", Rows.laid_loop_example_g00835_impl_errNoFit)] W ∧ handlesMet Tryz.prog [("errors.errorType", Rows.laid_errors_errorType)] W := h
  obtain ⟨fa, hfit⟩ := fit_laid (laid_tail8 (laid_tail8 h'.1))
  exact ⟨fa, ⟨⟨Mx8_laid (laid_tail8 h'.1), hfit, err_laid h'.2⟩, Un8_laid h'.1⟩⟩
theorem facts_FnUnwrap {W : World} (h : laidMetH Tryz.prog Rows.fnUnwrapRow.laid W) : ∃ fa, WFac W fa ∧ Fac4 W 2 unF := by
  have h' : laidMet Tryz.prog [("loop.example/g00835/impl.unmixFactors", Lib.tabData .u8 [14, 9, 13, 11]), ("loop.example/g00835/impl.mixFactors", Lib.tabData .u8 [2, 1, 1, 3]), ("loop.example/g00835/impl.errNoFit", Rows.laid_loop_example_g00835_impl_errNoFit)] W ∧ handlesMet Tryz.prog [("errors.errorType", Rows.laid_errors_errorType)] W := h
  obtain ⟨fa, hfit⟩ := fit_laid (laid_tail8 (laid_tail8 h'.1))
  exact ⟨fa, ⟨⟨Mx8_laid (laid_tail8 h'.1), hfit, err_laid h'.2⟩, Un8_laid h'.1⟩⟩
theorem facts_FnWrapped {W : World} (h : laidMetH Tryz.prog Rows.fnWrappedRow.laid W) : ∃ fa, WFac W fa ∧ Fac4 W 2 unF := by
  have h' : laidMet Tryz.prog [("loop.example/g00835/impl.unmixFactors", Lib.tabData .u8 [14, 9, 13, 11]), ("loop.example/g00835/impl.mixFactors", Lib.tabData .u8 [2, 1, 1, 3]), ("loop.example/g00835/impl.errNoFit", Rows.laid_loop_example_g00835_impl_errNoFit)] W ∧ handlesMet Tryz.prog [("errors.errorType", Rows.laid_errors_errorType)] W := h
  obtain ⟨fa, hfit⟩ := fit_laid (laid_tail8 (laid_tail8 h'.1))
  exact ⟨fa, ⟨⟨Mx8_laid (laid_tail8 h'.1), hfit, err_laid h'.2⟩, Un8_laid h'.1⟩⟩
/-- a world that holds them: the settled one, the cells of the variables laid, and the error's text behind. -/
noncomputable def wrapMix (os : Os) : World :=
  let w0 := World.holding Tryz.prog os ⟨#[], #[], []⟩
  let n := w0.heap.size
  { w0 with heap := ((((w0.heap.modify 3 fun
      | .cells _ t frozen => .cells #[.iface 108 (.agg #[.pointer (some ⟨5, 41, none⟩)])] t frozen
      | o => o).modify 1 fun
      | .cells _ t frozen => .cells #[.int .u8 2, .int .u8 1, .int .u8 1, .int .u8 3] t frozen
      | o => o).modify 2 fun
      | .cells _ t frozen => .cells #[.int .u8 14, .int .u8 9, .int .u8 13, .int .u8 11] t frozen
      | o => o).modify 0 fun
      | .cells _ t frozen => .cells #[.iface 232 (.pointer (some ⟨n, 0, none⟩))] t frozen
      | o => o).push (.cells #[.string ⟨#[116, 104, 101, 32, 107, 101, 121, 32, 100, 111, 101, 115, 110, 39, 116, 32, 102, 105, 116]⟩] 264) }
theorem wrapMix_met (os : Os) (args : Array Value) : laidMetH Tryz.prog Rows.fnWrapRow.laid ((wrapMix os).forCall (fun _ _ => 0) ⟨#[], args, []⟩).memory :=
  laidMetH_of_parts (laidMet_of_run' 8 (by kernel_rfl) (by kernel_rfl)) (by kernel_rfl)
noncomputable def wrapMixW (os : Os) : World := wrapMix os
theorem wrapMixW_met (os : Os) (args : Array Value) : laidMetH Tryz.prog Rows.fnExactWrapRow.laid ((wrapMixW os).forCall (fun _ _ => 0) ⟨#[], args, []⟩).memory :=
  laidMetH_of_parts (laidMet_of_run' 8 (by kernel_rfl) (by kernel_rfl)) (by kernel_rfl)
end Go.Proofs.YtbfmbdohebdbaaaGreatDoor
