/-
  What spec's PlaneTimes answers.
-/
import Derived.Test.YtbbjcgnoialidaaDoorPlU
set_option linter.unusedVariables false
set_option linter.unusedSimpArgs false
namespace Go.Proofs.YtbbjcgnoialidaaDoor
open Go Go.RowKit

def HoldT (w : World) (P1 P2 Z : Array Value) (V : World) : Prop := RQ V w.heap.size 26 P1 ∧ RQ V (w.heap.size + 1) 26 P2 ∧ RQ V (w.heap.size + 1 + 1) 26 Z ∧ Below w.heap.size w V
theorem HoldT.next {w V V' : World} {P1 P2 Z : Array Value} (h : HoldT w P1 P2 Z V) (hb : Below V.heap.size V V') : HoldT w P1 P2 Z V' :=
  ⟨h.1.up hb, h.2.1.up hb, h.2.2.1.up hb, h.2.2.2.trans (hb.mono h.2.2.2.size)⟩
theorem up_rel_d {s : Nat → UInt8} {w w2 w1 : World} {i : Nat} {e : TypeId} {u v : Value} {o : Obj} {x : UInt8} (hx : s i = x)
    (hown2 : w2.ownsRow w.heap.size e 1 u i (cells8 (upTo s i))) (hbel2 : Below w.heap.size w w2)
    (hown3 : w1.ownsRow w.heap.size e 1 v (i + 1) (cells8 (upTo s i) ++ cells8 [x]))
    (hgrow : (w2.alloc o).drew.grownBy w1 u.ownBlock) :
    w1.ownsRow w.heap.size e 1 v (i + 1) (cells8 (upTo s (i + 1))) ∧ Below w.heap.size w w1 := by
  refine ⟨?_, ?_⟩
  · rw [upTo_succ, cells8_append, hx]
    exact hown3
  · have h1 : Below w.heap.size w (w2.alloc o).drew := (hbel2.alloc hbel2.size _).drew
    exact h1.grown hgrow h1.size (fun b hb => (hown2.lt b hb).1)
theorem idx_txt (s : Nat → UInt8) (k : Nat) (hk : k < 64) (w : World) : (Instr.index 9 (.string (txt s 64)) (.int .i64 (k : Int))).run Tryd.prog w = .ok (.int .u8 ((s k).toNat : Int)) w := by
  rw [idx_byte (txt s 64) (k : Int) k rfl (by rw [txt_size]; exact hk) w, txt_byte s 64 k hk]
theorem mulI_at (a b : UInt8) (w : World) : Calls Tryd.prog 87 #[.int .i64 (a.toNat : Int), .int .i64 (b.toNat : Int)] w fun e w' => e = .returned (.int .i64 ((mul a b).toNat : Int)) ∧ w = w' := by
  have h := Times_spec (a.toNat : Int) (b.toNat : Int) w
  rwa [b8_of, b8_of] at h
end Go.Proofs.YtbbjcgnoialidaaDoor
