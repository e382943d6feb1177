/-
  A block that stays while another one is stored into; two blocks made at once.
-/
import Derived.Test.YtbfmbdohebdbaaaGreatDoorHold
set_option linter.unusedVariables false
set_option linter.unusedSimpArgs false
namespace Go.Proofs.YtbfmbdohebdbaaaGreatDoor
open Go Go.RowKit

theorem RQ.other {V : World} {g g2 : Nat} {t : TypeId} {cs : Array Value} (h : RQ V g2 t cs) (R : Array Value) (hne : g2 ≠ g) : RQ (V.setRow g R) g2 t cs := (setRow_other V g g2 R hne).trans h
/-- two blocks made at once, and filled. -/
theorem made2 (w V : World) (Z1 Z2 A B : Array Value) (t : TypeId) (hB : Below w.heap.size w V) {W : World} (hW : (((V.alloc (.cells Z1 t)).alloc (.cells Z2 t)).setRow V.heap.size A).setRow (V.heap.size + 1) B = W) :
    Hold w [(V.heap.size, t, A), (V.heap.size + 1, t, B)] W ∧ RQ ((V.alloc (.cells Z1 t)).alloc (.cells Z2 t)) V.heap.size t Z1 ∧ RQ (((V.alloc (.cells Z1 t)).alloc (.cells Z2 t)).setRow V.heap.size A) (V.heap.size + 1) t Z2 ∧ V.heap.size + 1 < W.heap.size := by
  have r1 : RQ ((V.alloc (.cells Z1 t)).alloc (.cells Z2 t)) V.heap.size t Z1 := (RQ.new V t Z1).alloc _
  have r2 : RQ ((V.alloc (.cells Z1 t)).alloc (.cells Z2 t)) (V.heap.size + 1) t Z2 := by
    have h := RQ.new (V.alloc (.cells Z1 t)) t Z2
    rwa [alQ_sz] at h
  have b2 : Below w.heap.size w ((V.alloc (.cells Z1 t)).alloc (.cells Z2 t)) := (hB.alloc hB.size _).alloc (by have := hB.size; simp; omega) _
  have s1 := r1.row A
  have s2 : RQ (((V.alloc (.cells Z1 t)).alloc (.cells Z2 t)).setRow V.heap.size A) (V.heap.size + 1) t Z2 := r2.other A (by omega)
  have b3 := below_setRow b2 hB.size A
  have s4 := s2.row B
  have s5 := s1.other B (g := V.heap.size + 1) (by omega)
  subst hW
  refine ⟨⟨fun x hx => ?_, below_setRow b3 (by have := hB.size; omega) B⟩, r1, s2, s4.lt⟩
  rcases List.mem_cons.1 hx with rfl | hx
  · exact s5
  · rcases List.mem_cons.1 hx with rfl | hx
    · exact s4
    · cases hx
end Go.Proofs.YtbfmbdohebdbaaaGreatDoor
