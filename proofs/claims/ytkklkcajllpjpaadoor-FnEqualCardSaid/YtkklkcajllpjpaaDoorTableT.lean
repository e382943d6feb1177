/-
  What spec.TableRound answers.
-/
import Derived.Test.YtkklkcajllpjpaaDoorTableS
import Derived.Test.YtkklkcajllpjpaaDoorTableMath
import Derived.Test.YtkklkcajllpjpaaDoorKey
import Derived.WalkKit
import Derived.LoopTactic
import Derived.OwnWalk
import Derived.WalkLawsBesides
import Derived.WalkSpells
import Derived.Outline
import Derived.Below
import Derived.Laws.OwnMore
import Derived.Laws.AppendOwn
import Derived.Deep.AppendLies
import Derived.IntWalk
set_option linter.unusedVariables false
set_option linter.unusedSimpArgs false
namespace Go.Proofs.YtkklkcajllpjpaaDoor
open Go.RowKit
attribute [local go_sem ↓] Go.wp_at_zero Go.wp_at_succ

/-- byte k of a number's word, as it is shifted out. -/
theorem shr_and (n : Int) : bits .and .i64 (n / 16777216) 255 = ((wb (w32 n) 0).toNat : Int) ∧ bits .and .i64 (n / 65536) 255 = ((wb (w32 n) 1).toNat : Int) ∧ bits .and .i64 (n / 256) 255 = ((wb (w32 n) 2).toNat : Int) ∧ bits .and .i64 n 255 = ((wb (w32 n) 3).toNat : Int) :=
  ⟨(i64_and255 _).trans (w0_i n), (i64_and255 _).trans (w1_i n), (i64_and255 _).trans (w2_i n), (i64_and255 _).trans (w3_i n)⟩
/-- the words of a round, of the numbers that are given. -/
def rdF (a b : List Int) (i : Nat) : Int := ((tbTo (fun j => w32 (a.getD j 0)) i (w32 (b.getD i 0)) 4).toNat : Int)
theorem roundI_rd (a b : List Int) (ha : a.length = 4) (hb : b.length = 4) : roundI a b = upTo (rdF a b) 4 := by unfold roundI; rw [if_pos ⟨ha, hb⟩]; rfl
theorem irow_at {w : World} {A : Option Addr} {l : List Int} (hl : l.length = 4) (h : IRow w A 4 l) : ∃ b o, A = some ⟨b, o, none⟩ ∧ b < w.heap.size ∧ ∀ j, j < 4 → w.cell? ⟨b, o + j, none⟩ = some (.int .i64 (l.getD j 0)) := by
  obtain ⟨b, o, rfl, hb, -⟩ := h.2 0 (by omega)
  refine ⟨b, o, rfl, hb, fun j hj => ?_⟩
  obtain ⟨b2, o2, e2, -, hc2⟩ := h.2 j (by omega)
  cases e2
  rw [hc2, List.getD_eq_getElem?_getD, List.getElem?_eq_getElem (by omega)]; rfl
theorem tr_rel {F : Nat → Int} {w w2 w1 : World} {k : Nat} {e : TypeId} {u v : Value} {o : Obj} {c : Int} (hx : F k = c)
    (hown2 : w2.ownsRow w.heap.size e 1 u k (cells64 (upTo F k))) (hbel2 : Below w.heap.size w w2)
    (hown3 : w1.ownsRow w.heap.size e 1 v (k + 1) (cells64 (upTo F k) ++ [.int .i64 c]))
    (hgrow : (w2.alloc o).grownBy w1 u.ownBlock) :
    w1.ownsRow w.heap.size e 1 v (k + 1) (cells64 (upTo F (k + 1))) ∧ Below w.heap.size w w1 := by
  refine ⟨?_, ?_⟩
  · rw [upTo_succ, hx, cells64, List.map_append]
    exact hown3
  · have h1 : Below w.heap.size w (w2.alloc o) := hbel2.alloc hbel2.size _
    exact h1.grown hgrow h1.size (fun b hb => (hown2.lt b hb).1)
theorem rdI_no (a b : List Int) (h : ¬ (a.length = 4 ∧ b.length = 4)) : roundI a b = [] := if_neg h
end Go.Proofs.YtkklkcajllpjpaaDoor
