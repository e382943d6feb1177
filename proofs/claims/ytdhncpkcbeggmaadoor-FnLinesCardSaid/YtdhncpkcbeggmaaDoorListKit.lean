/-
  Small facts on lists of texts that grow by append.
-/
import Derived.Test.YtdhncpkcbeggmaaDoorStrs
set_option linter.unusedVariables false
namespace Go.Proofs.YtdhncpkcbeggmaaDoor.Lk
open Go.RowKit

def Stp (p : Prop) : Prop := p
theorem stp {p : Prop} (h : Stp p) : p := h
theorem unstp {p : Prop} (h : p) : Stp p := h
theorem infoS : (Tryd.prog.info? 9).map (fun i => (i.zero, i.size, i.bytes)) = some (some (.string ByteArray.empty), 1, 16) := by kernel_rfl
theorem own_append {w1 : World} {B n : Nat} {v : Value} {l : List ByteArray} {x : ByteArray}
    (hown3 : w1.ownsRow B 9 1 v (n + 1) (l.map Value.string ++ [.string x])) : w1.ownsRow B 9 1 v (n + 1) ((l ++ [x]).map Value.string) := by
  rw [List.map_append]
  exact hown3
theorem below_append {w w2 w1 : World} {n : Nat} {e : TypeId} {u : Value} {xs : List Value} {o : Obj} (hown2 : w2.ownsRow w.heap.size e 1 u n xs) (hbel2 : Below w.heap.size w w2)
    (hgrow : (w2.alloc o).grownBy w1 u.ownBlock) : Below w.heap.size w w1 := by
  have h1 : Below w.heap.size w (w2.alloc o) := hbel2.alloc hbel2.size _
  exact h1.grown hgrow h1.size (fun b hb => (hown2.lt b hb).1)
end Go.Proofs.YtdhncpkcbeggmaaDoor.Lk
