/-
  What the package's variables of factors hold, where they are laid.
-/
import Derived.Test.YtbfmbdohebdbaaaGreatDoorRows
import Derived.Test.YtbfmbdohebdbaaaGreatDoorUnmix
import Derived.Test.YtbfmbdohebdbaaaGreatDoorPure
import Derived.Lib.LaidTab
set_option linter.unusedVariables false
set_option linter.unusedSimpArgs false
namespace Go.Proofs.YtbfmbdohebdbaaaGreatDoor
open Go Go.RowKit

theorem gMx8 : Tryz.prog.globalNamed "loop.example/g00835/impl.mixFactors" = some 1 := by kernel_rfl
theorem Mx8_laid {rest : List (String × DataW Unit)} {W : World} (h : laidMet Tryz.prog (("loop.example/g00835/impl.mixFactors", Lib.tabData .u8 [2, 1, 1, 3]) :: rest) W) : Fac4 W 1 mxF := by
  have t : Lib.TabIs Tryz.prog W "loop.example/g00835/impl.mixFactors" .u8 [2, 1, 1, 3] := Lib.tabIs_of_head (zs := [2, 1, 1, 3]) (rest := rest) gMx8 (t := 128) (e := 5) (n := 4) (by kernel_rfl) Tryz.underlying128 Tryz.underlying5 (by kernel_rfl) (by kernel_rfl) h
  have c0 : W.cell? ⟨1, 0, none⟩ = some (.int .u8 ((mxF 0).toNat : Int)) := t.cell gMx8 0 (by simp)
  have c1 : W.cell? ⟨1, 1, none⟩ = some (.int .u8 ((mxF 1).toNat : Int)) := t.cell gMx8 1 (by simp)
  have c2 : W.cell? ⟨1, 2, none⟩ = some (.int .u8 ((mxF 2).toNat : Int)) := t.cell gMx8 2 (by simp)
  have c3 : W.cell? ⟨1, 3, none⟩ = some (.int .u8 ((mxF 3).toNat : Int)) := t.cell gMx8 3 (by simp)
  exact ⟨World.block_lt_of_cell? W _ c0, c0, c1, c2, c3⟩
theorem gUn8 : Tryz.prog.globalNamed "loop.example/g00835/impl.unmixFactors" = some 2 := by kernel_rfl
theorem Un8_laid {rest : List (String × DataW Unit)} {W : World} (h : laidMet Tryz.prog (("loop.example/g00835/impl.unmixFactors", Lib.tabData .u8 [14, 9, 13, 11]) :: rest) W) : Fac4 W 2 unF := by
  have t : Lib.TabIs Tryz.prog W "loop.example/g00835/impl.unmixFactors" .u8 [14, 9, 13, 11] := Lib.tabIs_of_head (zs := [14, 9, 13, 11]) (rest := rest) gUn8 (t := 128) (e := 5) (n := 4) (by kernel_rfl) Tryz.underlying128 Tryz.underlying5 (by kernel_rfl) (by kernel_rfl) h
  have c0 : W.cell? ⟨2, 0, none⟩ = some (.int .u8 ((unF 0).toNat : Int)) := t.cell gUn8 0 (by simp)
  have c1 : W.cell? ⟨2, 1, none⟩ = some (.int .u8 ((unF 1).toNat : Int)) := t.cell gUn8 1 (by simp)
  have c2 : W.cell? ⟨2, 2, none⟩ = some (.int .u8 ((unF 2).toNat : Int)) := t.cell gUn8 2 (by simp)
  have c3 : W.cell? ⟨2, 3, none⟩ = some (.int .u8 ((unF 3).toNat : Int)) := t.cell gUn8 3 (by simp)
  exact ⟨World.block_lt_of_cell? W _ c0, c0, c1, c2, c3⟩
theorem laid_tail8 {P : Program} {W : World} {x : String × DataW Unit} {rest : List (String × DataW Unit)} (h : laidMet P (x :: rest) W) : laidMet P rest W := by
  obtain ⟨n, d⟩ := x
  obtain ⟨ps, ⟨g, t, cs, fuel, p, q, h1, h2, h3, h4, hq, e⟩, hnd, hall⟩ := h
  subst e
  exact ⟨q, hq, (List.nodup_append.1 hnd).2.1, fun b off hm => hall b off (List.mem_append.2 (.inr hm))⟩
end Go.Proofs.YtbfmbdohebdbaaaGreatDoor
