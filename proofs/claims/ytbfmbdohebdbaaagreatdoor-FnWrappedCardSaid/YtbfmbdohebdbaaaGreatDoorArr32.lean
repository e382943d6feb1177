/-
  Arrays of words as cells: told by a function, filled from the front; a block that holds one.
-/
import Derived.Test.YtbfmbdohebdbaaaGreatDoorKey
import Derived.Below
import Derived.Deep.WholeRow
import Derived.Deep.MidRow
import Derived.Laws.OwnMore
import Derived.Laws.CopyOwn
set_option linter.unusedVariables false
set_option linter.unusedSimpArgs false
namespace Go.Proofs.YtbfmbdohebdbaaaGreatDoor
open Go Go.RowKit

/-- n words as an array's cells. -/
def ar32 (h : Nat → UInt32) (n : Nat) : Array Value := (cells32 (upTo h n)).toArray
/-- .. of which k are filled. -/
def arTo32 (h : Nat → UInt32) (n k : Nat) : Array Value := (cells32 (rowTo h (fun _ => 0) n k)).toArray
theorem ar32_size (h : Nat → UInt32) (n : Nat) : (ar32 h n).size = n := by simp [ar32, cells32_length, upTo_length]
theorem arTo32_size (h : Nat → UInt32) (n k : Nat) : (arTo32 h n k).size = n := by simp [arTo32, cells32_length, rowTo_length]
theorem ar32_at (h : Nat → UInt32) (n i : Nat) (hi : i < n) : (ar32 h n)[i]? = some (.int .u32 ((h i).toNat : Int)) := by
  unfold ar32
  rw [List.getElem?_toArray]
  exact cells32_at _ _ _ (upTo_at h n i hi)
theorem cells32_one (l : List UInt32) : ∀ v ∈ cells32 l, v.oneCell' = true := by
  intro v hv
  obtain ⟨x, -, rfl⟩ := List.mem_map.1 hv
  rfl
theorem ar32_one (h : Nat → UInt32) (n : Nat) : (ar32 h n).all (·.oneCell') = true := by
  rw [Array.all_eq_true_iff_forall_mem]
  intro v hv
  exact cells32_one (upTo h n) v (by simpa [ar32] using hv)
theorem arTo32_set (h : Nat → UInt32) (n k : Nat) : (arTo32 h n k).setIfInBounds k (.int .u32 ((h k).toNat : Int)) = arTo32 h n (k + 1) := by
  unfold arTo32
  rw [List.setIfInBounds_toArray, ← rowTo_set]
  exact congrArg List.toArray (cells32_set _ _ _)
theorem arTo32_all (h : Nat → UInt32) (n : Nat) : arTo32 h n n = ar32 h n := by unfold arTo32 ar32; rw [rowTo_all _ _ _ _ (Nat.le_refl _)]
theorem arTo32_at (h : Nat → UInt32) (n k : Nat) (hk : k < n) : (arTo32 h n k)[k]? = some (.int .u32 0) := by
  unfold arTo32
  rw [List.getElem?_toArray]
  exact cells32_at _ _ 0 (rowTo_hi h (fun _ => 0) n k k hk (Nat.le_refl _))
theorem arTo32_0 (h : Nat → UInt32) (n : Nat) : arTo32 h n 0 = ar32 (fun _ => 0) n := by unfold arTo32 ar32; rw [rowTo_zero]
theorem ar32_congr {h g : Nat → UInt32} {n : Nat} (e : ∀ i, i < n → h i = g i) : ar32 h n = ar32 g n := by unfold ar32; rw [upTo_congr _ _ _ e]
theorem ar32_4 (h : Nat → UInt32) : ar32 h 4 = #[.int .u32 (h 0).toNat, .int .u32 (h 1).toNat, .int .u32 (h 2).toNat, .int .u32 (h 3).toNat] := rfl
theorem zero4_ar (h : Nat → UInt32) : #[.int .u32 0, .int .u32 0, .int .u32 0, .int .u32 0] = arTo32 h 4 0 := by rw [arTo32_0]; rfl
/-- A block holds these cells. -/
def RAt (w : World) (g : Nat) (t : TypeId) (cs : Array Value) : Prop := w.heap[g]? = some (.cells cs t (0, 0))
theorem RAt.lt {w : World} {g : Nat} {t : TypeId} {cs : Array Value} (h : RAt w g t cs) : g < w.heap.size := (Array.getElem?_eq_some_iff.1 h).1
theorem RAt.below {w w' : World} {B g : Nat} {t : TypeId} {cs : Array Value} (h : RAt w g t cs) (hb : Below B w w') (hg : g < B) : RAt w' g t cs := (hb.block g hg).trans h
theorem RAt.up {w w' : World} {g : Nat} {t : TypeId} {cs : Array Value} (h : RAt w g t cs) (hb : Below w.heap.size w w') : RAt w' g t cs := (hb.block g h.lt).trans h
theorem RAt.new (w : World) (t : TypeId) (cs : Array Value) : RAt (w.alloc (.cells cs t)) w.heap.size t cs := heap_alloc_new w _
theorem RAt.cell {w : World} {g j : Nat} {t : TypeId} {cs : Array Value} {v : Value} (h : RAt w g t cs) (hv : cs[j]? = some v) : w.cell? ⟨g, j, none⟩ = some v := (cell_of_row w g j _ _ _ h).trans hv
theorem RAt.fz {w : World} {g : Nat} {t : TypeId} {cs : Array Value} (h : RAt w g t cs) (j : Nat) : w.frozen? ⟨g, j, none⟩ = false := frozen_of_row w g j _ _ h
theorem RAt.set {w : World} {g k : Nat} {t : TypeId} {cs : Array Value} (h : RAt w g t cs) (v : Value) : RAt (w.setCell ⟨g, k, none⟩ v) g t (cs.setIfInBounds k v) := heap_setCell_same w g k _ _ v h
theorem RAt.far {w : World} {g b : Nat} {t : TypeId} {cs : Array Value} (h : RAt w g t cs) (k : Nat) (v : Value) (hb : g ≠ b) : RAt (w.setCell ⟨b, k, none⟩ v) g t cs := (heap_setCell_other w ⟨b, k, none⟩ g v hb).trans h
theorem RAt.set32 {w : World} {g k n : Nat} {t : TypeId} {h : Nat → UInt32} (hr : RAt w g t (arTo32 h n k)) {v : Value} (hv : v = .int .u32 ((h k).toNat : Int)) : RAt (w.setCell ⟨g, k, none⟩ v) g t (arTo32 h n (k + 1)) := by
  subst hv
  have h2 := hr.set (k := k) (.int .u32 ((h k).toNat : Int))
  rwa [arTo32_set] at h2
theorem RAt.row {w : World} {g : Nat} {t : TypeId} {old : Array Value} (h : RAt w g t old) (cs : Array Value) : RAt (w.setRow g cs) g t cs := setRow_heap w g old cs t _ h
end Go.Proofs.YtbfmbdohebdbaaaGreatDoor
