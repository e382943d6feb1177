/-
  Streams: impl.StreamOk and spec.StreamOk; toStream, szStream and eqStream of the exact laws.
-/
import Derived.Test.YtlcfbeoaddjmnaaDoorRefI
set_option linter.unusedVariables false
set_option linter.unusedSimpArgs false
namespace Go.Proofs.YtlcfbeoaddjmnaaDoor
open Go.RowKit

/-- a stream's value. -/
def stmV (n : Int) (key blk left : ByteArray) : Value := .agg #[.int .i64 n, .string key, .string blk, .string left]
/-- a right stream. -/
def stmO (n : Int) (key blk left : ByteArray) : Prop := (0 ≤ n ∧ n ≤ 2) ∧ kOk key ∧ blk.size = 16 ∧ left.size ≤ 15
instance (n : Int) (key blk left : ByteArray) : Decidable (stmO n key blk left) := by unfold stmO; infer_instance

theorem alloc_at1 (w : World) (a b c : Obj) : (((w.alloc a).alloc b).alloc c).heap[w.heap.size + 1]? = some b := by
  rw [Below.heap_alloc _ _ _ (by simp), ← show (w.alloc a).heap.size = w.heap.size + 1 by simp]; exact heap_alloc_new _ _
/-- a block that is known stays where what is called touches nothing that was there. -/
def AtS (w : World) (g : Nat) (t : TypeId) (cs : Array Value) : Prop := w.heap[g]? = some (.cells cs t (0, 0))
theorem AtS.lt {w : World} {g : Nat} {t : TypeId} {cs : Array Value} (h : AtS w g t cs) : g < w.heap.size := by
  rcases Nat.lt_or_ge g w.heap.size with h1 | h1
  · exact h1
  · rw [AtS, Array.getElem?_eq_none h1] at h; cases h
theorem AtS.up {w w' : World} {g : Nat} {t : TypeId} {cs : Array Value} (h : AtS w g t cs) (hb : Below w.heap.size w w') : AtS w' g t cs := (hb.block g h.lt).trans h
theorem AtS.new (w : World) (t : TypeId) (cs : Array Value) : AtS (w.alloc (.cells cs t)) w.heap.size t cs := heap_alloc_new _ _
end Go.Proofs.YtlcfbeoaddjmnaaDoor
