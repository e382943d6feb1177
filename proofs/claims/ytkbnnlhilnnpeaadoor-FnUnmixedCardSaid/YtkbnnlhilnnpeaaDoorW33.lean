/-
  What laws.FnUnmixed's row lays: both tables of factors.
-/
import Derived.Test.YtkbnnlhilnnpeaaDoorW32
set_option linter.unusedVariables false
namespace Go.Proofs.YtkbnnlhilnnpeaaDoor
open Go.RowKit

theorem laidMet_tail {P : Program} {W : World} {x : String × DataW Unit} {rest : List (String × DataW Unit)} (h : laidMet P (x :: rest) W) : laidMet P rest W := by
  obtain ⟨n, d⟩ := x
  obtain ⟨ps, ⟨g, t, cs, fuel, p, q, h1, h2, h3, h4, hq, e⟩, hnd, hall⟩ := h
  subst e
  exact ⟨q, hq, (List.nodup_append.1 hnd).2.1, fun b off hm => hall b off (List.mem_append.2 (.inr hm))⟩
theorem unf_laid {rest : List (String × DataW Unit)} {W : World} (h : laidMet Tryd.prog (("loop.example/g00835/impl.unmixFactors", Lib.tabData .u8 [14, 9, 13, 11]) :: rest) W) : UnF W := by
  have t : Lib.TabIs Tryd.prog W "loop.example/g00835/impl.unmixFactors" .u8 [14, 9, 13, 11] := Lib.tabIs_of_head (zs := [14, 9, 13, 11]) (rest := rest) gUnF (t := 65) (e := 5) (n := 4) (by kernel_rfl) Tryd.underlying65 Tryd.underlying5 (by kernel_rfl) (by kernel_rfl) h
  have c0 : W.cell? ⟨1, 0, none⟩ = some (.int .u8 ((unF 0).toNat : Int)) := t.cell gUnF 0 (by simp)
  have c1 : W.cell? ⟨1, 1, none⟩ = some (.int .u8 ((unF 1).toNat : Int)) := t.cell gUnF 1 (by simp)
  have c2 : W.cell? ⟨1, 2, none⟩ = some (.int .u8 ((unF 2).toNat : Int)) := t.cell gUnF 2 (by simp)
  have c3 : W.cell? ⟨1, 3, none⟩ = some (.int .u8 ((unF 3).toNat : Int)) := t.cell gUnF 3 (by simp)
  exact ⟨World.block_lt_of_cell? W _ c0, c0, c1, c2, c3⟩
theorem facts_FnUnmixed {W : World} (h : laidMetH Tryd.prog Rows.fnUnmixedRow.laid W) : UnF W ∧ MxF W := by
  have h' : laidMet Tryd.prog [("loop.example/g00835/impl.unmixFactors", Lib.tabData .u8 [14, 9, 13, 11]), ("loop.example/g00835/impl.mixFactors", Lib.tabData .u8 [2, 1, 1, 3])] W := h
  exact ⟨unf_laid h', mxf_laid (laidMet_tail h')⟩
end Go.Proofs.YtkbnnlhilnnpeaaDoor
