/-
  The boxes of impl: tables of 256 bytes, told by a closure; impl.Sub and impl.Unsub.
-/
import Derived.Test.YtbgjeipgmlcgaaaDoorFieldI
import Derived.Test.YtbgjeipgmlcgaaaDoorBoxMath
import Derived.Test.YtbgjeipgmlcgaaaDoorCur
import Derived.WalkKit
import Derived.LoopTactic
import Derived.OwnWalk
import Derived.WalkLawsBesides
import Derived.WalkSpells
import Derived.Outline
import Derived.Below
import Derived.Deep.WholeRow
import Derived.Great.Walk
import Derived.Great.BuildSlice
set_option linter.unusedVariables false
namespace Go.Proofs.YtbgjeipgmlcgaaaDoor
open Go.RowKit

/-- a table of what f tells of each byte. -/
def tabOf (f : UInt8 → UInt8) : Array Value := ((List.range 256).map fun i => Value.int .u8 ((f (UInt8.ofNat i)).toNat : Int)).toArray
theorem tabOf_at (f : UInt8 → UInt8) (c : UInt8) : (tabOf f)[c.toNat]? = some (.int .u8 ((f c).toNat : Int)) := by
  have hc := c.toNat_lt
  have h : ((List.range 256).map fun i => Value.int .u8 ((f (UInt8.ofNat i)).toNat : Int))[c.toNat]? = some (.int .u8 ((f (UInt8.ofNat c.toNat)).toNat : Int)) := by
    rw [List.getElem?_map, List.getElem?_range (by omega)]; rfl
  rw [UInt8.ofNat_toNat] at h
  unfold tabOf
  rw [List.getElem?_toArray]
  exact h
def zeros256 : Array Value := Array.replicate 256 (.int .u8 0)
theorem tabOf_size (f : UInt8 → UInt8) : (tabOf f).size = 256 := by simp [tabOf]
theorem box_size {f : UInt8 → UInt8} : (Tryd.prog.info? 89).map (·.size) = some (tabOf f).size := by rw [tabOf_size]; kernel_rfl
set_option maxRecDepth 100000 in
theorem subBox_impl (w : World) : Calls Tryd.prog 93 #[] w fun e w' => e = .returned (.agg (tabOf sbox)) ∧ w' = w.alloc (.cells (tabOf sbox) 89) := by
  go_enter Tryd.func93, Tryd.ntmps93
  apply wp_seq
  apply wp_region_lit
  refine Great.wpList_runTo rfl (some 0) rfl (.pointer (some ⟨w.heap.size, 0, none⟩)) (w.alloc (.cells zeros256 89)) (by kernel_rfl) ?_
  apply wpList_nil
  simp only [Exit.then]
  apply wp_seq
  apply wp_region_lit
  refine wpList_buildTo rfl 89 _ rfl (some 1) rfl (tabOf sbox) (by kernel_rfl) ?_
  refine wpList_store_rowTo rfl 89 _ _ rfl rfl w.heap.size (tabOf sbox) rfl rfl 89 zeros256 (heap_alloc_new w _) box_size (by kernel_rfl) (by kernel_rfl) ?_
  apply wpList_nil
  simp only [Exit.then]
  apply wp_ret
  rw [World.setRow_alloc_new]
  refine bodyPost_ret (v := .agg (tabOf sbox)) ?_ rfl ⟨rfl, rfl⟩
  exact results_cell_row rfl _ _ w.heap.size 89 _ (0, 0) _ rfl (heap_alloc_new w _) Tryd.underlying89 rfl box_size
theorem subBox_any (w : World) : Calls Tryd.prog 93 #[] w fun e w' => e = .returned (.agg (tabOf sbox)) ∧ Below w.heap.size w w' :=
  (subBox_impl w).mono fun e w' ⟨he, hw⟩ => ⟨he, by rw [hw]; exact (Below.refl _ _).alloc (Nat.le_refl _) _⟩
/-- the value that reads a box. -/
def reader (g : Nat) : Value := .func (.func 95) #[] #[.pointer (some ⟨g, 0, none⟩)]
theorem readerOf_impl (t : Array Value) (w : World) :
    Calls Tryd.prog 92 #[.agg t] w fun e w' => e = .returned (reader w.heap.size) ∧ w' = w.alloc (.cells t 89) := by
  have hmf : ∀ (fn : Fn) (first cap : Array Value) (w : World), (Instr.makeFunc fn first cap).run Tryd.prog w = .ok (.func fn first cap) w := fun _ _ _ _ => rfl
  go_enter Tryd.func92, Tryd.ntmps92
  go_wp2
  go_ret
  exact ⟨rfl, rfl⟩
/-- A box of f stands at block g. -/
def BoxAt (w : World) (g : Nat) (f : UInt8 → UInt8) : Prop := w.heap[g]? = some (.cells (tabOf f) 89 (0, 0))
theorem BoxAt.lt {w : World} {g : Nat} {f : UInt8 → UInt8} (h : BoxAt w g f) : g < w.heap.size := by
  rcases Nat.lt_or_ge g w.heap.size with h2 | h2
  · exact h2
  · rw [BoxAt, Array.getElem?_eq_none h2] at h; cases h
theorem BoxAt.below {w w' : World} {B g : Nat} {f : UInt8 → UInt8} (h : BoxAt w g f) (hb : Below B w w') (hg : g < B) : BoxAt w' g f := (hb.block g hg).trans h
theorem BoxAt.new (w : World) (f : UInt8 → UInt8) : BoxAt (w.alloc (.cells (tabOf f) 89)) w.heap.size f := heap_alloc_new w _
theorem BoxAt.is (w : World) {f : UInt8 → UInt8} {T : Array Value} (h : tabOf f = T) : BoxAt (w.alloc (.cells T 89)) w.heap.size f := by subst h; exact heap_alloc_new w _
theorem reads (f : UInt8 → UInt8) (b : UInt8) (w : World) (g : Nat) (h : BoxAt w g f) :
    Calls Tryd.prog 95 #[.int .u8 b.toNat, .pointer (some ⟨g, 0, none⟩)] w fun e w' => e = .returned (.int .u8 (f b).toNat) ∧ w = w' := by
  have hc : w.cell? ⟨g, b.toNat, none⟩ = some (.int .u8 ((f b).toNat : Int)) := (cell_of_row w g b.toNat _ _ _ h).trans (tabOf_at f b)
  have hb := b.toNat_lt
  have hb1 : (b.toNat : Int) < 256 := by omega
  clear h
  go_enter Tryd.func95, Tryd.ntmps95
  go_wp2
  go_ret
  exact ⟨rfl, rfl⟩
theorem reads_mod (f : UInt8 → UInt8) (a : Int) (w : World) (g : Nat) (h : BoxAt w g f) :
    Calls Tryd.prog 95 #[.int .u8 (a % 256), .pointer (some ⟨g, 0, none⟩)] w fun e w' => e = .returned (.int .u8 (f (b8 a)).toNat) ∧ w = w' := by
  rw [← b8_val]; exact reads f _ w g h
end Go.Proofs.YtbgjeipgmlcgaaaDoor
