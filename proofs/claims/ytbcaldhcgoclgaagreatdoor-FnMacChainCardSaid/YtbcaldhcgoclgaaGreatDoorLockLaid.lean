/-
  What the package's variable of factors holds, where it is laid.
-/
import Derived.Test.YtbcaldhcgoclgaaGreatDoorRows
import Derived.Test.YtbcaldhcgoclgaaGreatDoorCols
import Derived.Lib.LaidTab
set_option linter.unusedVariables false
set_option linter.unusedSimpArgs false
namespace Go.Proofs.YtbcaldhcgoclgaaGreatDoor
open Go.RowKit

theorem gMxF : Tryz.prog.globalNamed "loop.example/g00835/impl.mixFactors" = some 0 := by kernel_rfl
theorem mxf_laid {rest : List (String × DataW Unit)} {W : World} (h : laidMet Tryz.prog (("loop.example/g00835/impl.mixFactors", Lib.tabData .u8 [2, 1, 1, 3]) :: rest) W) : MxF W := by
  have t : Lib.TabIs Tryz.prog W "loop.example/g00835/impl.mixFactors" .u8 [2, 1, 1, 3] := Lib.tabIs_of_head (zs := [2, 1, 1, 3]) (rest := rest) gMxF (t := 124) (e := 5) (n := 4) (by kernel_rfl) Tryz.underlying124 Tryz.underlying5 (by kernel_rfl) (by kernel_rfl) h
  have c0 : W.cell? ⟨0, 0, none⟩ = some (.int .u8 ((mxF 0).toNat : Int)) := t.cell gMxF 0 (by simp)
  have c1 : W.cell? ⟨0, 1, none⟩ = some (.int .u8 ((mxF 1).toNat : Int)) := t.cell gMxF 1 (by simp)
  have c2 : W.cell? ⟨0, 2, none⟩ = some (.int .u8 ((mxF 2).toNat : Int)) := t.cell gMxF 2 (by simp)
  have c3 : W.cell? ⟨0, 3, none⟩ = some (.int .u8 ((mxF 3).toNat : Int)) := t.cell gMxF 3 (by simp)
  exact ⟨World.block_lt_of_cell? W _ c0, c0, c1, c2, c3⟩
end Go.Proofs.YtbcaldhcgoclgaaGreatDoor
