/-
  A region that draws its order in the body of a range over a function: it is walked as anywhere (by the laws of Derived/OrdersHeld.lean), if none of its operations defers. No program.
-/
import Derived.OrdersHeld
import Derived.Deep.RegionHeld
import Derived.Deep.MidRow
import Derived.OrdersIn
import Derived.RangeFuncCalls
import Derived.AtR
set_option linter.unusedVariables false
namespace Go.Proofs.YtbfmbdohebdbaaaGreatDoor
open Go Go.RowKit

/-- a region that goes on: nothing else than 'normal'. -/
def Goes (K : Act → World → Prop) : Exit → Act → World → Prop := fun e a w => e = .normal ∧ K a w
theorem goes_lets {K : Act → World → Prop} (h : LetsOut (Goes K)) : False := by obtain ⟨a, w, h, _⟩ := h; cases h
theorem rowsIn_of_rows {l n : Nat} {P : Program} {row : String} {args : Array Value} {w : World} {R : Value → World → Prop} (h : Rows P row args w R) : RowsIn (Fence.wide.inRound l) n P row args w R :=
  fun c cs _ => let ⟨v, w', r, s⟩ := h c cs; ⟨v, w', r, stepsIn_wide.2 s⟩
/-- no operation of the region defers. -/
def NoDefer (ops : Array Oper) : Prop := ∀ (i : Nat) (o : Oper) c, ops[i]? = some o → o.op ≠ .defer c
theorem wpOpsIn_of_wpOps {l n : Nat} {P : Program} {ops : Array Oper} {K : Act → World → Prop} (hnd : NoDefer ops) : ∀ (ls : List Nat) (a : Act) (w : World), wpOps P ops (Goes K) ls a w → wpOpsIn (Fence.wide.inRound l) n P ops (Goes K) ls a w
  | [], _, _, h => h
  | i :: rest, a, w, h => by
    have ih := wpOpsIn_of_wpOps (l := l) (n := n) (P := P) (ops := ops) (K := K) hnd rest
    simp only [wpOps] at h
    simp only [wpOpsIn]
    cases ho : ops[i]? with
    | none =>
      simp only [ho] at h ⊢
      exact ih _ _ h
    | some o =>
      simp only [ho] at h ⊢
      by_cases hw : Region.wanted o (yielded ops a.tmps) = true
      · simp only [hw, if_true] at h ⊢
        rcases h with h | ⟨_, h⟩
        · refine ⟨fun _ _ => trivial, ?_⟩
          rw [Oper.semAt_eq _ _ _ (fun c => hnd i o c ho)]
          unfold Oper.wp at h
          generalize (execOp a.eval o).run P w = r at *
          unfold Oper.upon at h
          unfold Oper.uponIn
          split at h
          · exact ih _ _ h
          · exact ih _ _ h
          · exact ih _ _ h
          · refine ⟨fun hd => (by cases hd), CallsIn.inRound l (callsIn_wide.2 (h.mono ?_))⟩
            intro e w' he
            cases e with
            | returned v => exact ih _ _ he
            | panicked chain => exact (by cases he.1)
            | outgrown => exact (goes_lets he).elim
          · refine ⟨fun hd => (by cases hd), rowsIn_of_rows (h.mono fun v w' he => ih _ _ he)⟩
          · exact (by cases h.1)
          · exact h.elim
        · exact (goes_lets h).elim
      · simp only [hw] at h ⊢
        exact ⟨fun _ _ => trivial, ih _ _ h⟩
theorem wpIn_region_round {l n id : Nat} {P : Program} {ops : Array Oper} {S : World → Prop} {Q : Exit → Act → World → Prop} {a : Act} {w : World} (K : Act → World → Prop) (hnd : NoDefer ops) (hm : P.follows .mixedOrders = true) (hS : S w.drew)
    (h : S w.drew → wpAnyH P .any ops (Goes K) S ops.size (Array.replicate ops.size false) a w.drew) (hK : ∀ a w, K a w → Q .normal a w) : (Code.region id ops true).wpIn (Fence.wide.inRound l) n P Q a w := by
  refine wpIn_mono (Q := Goes K) (wpIn_region_draw fun t => wpOpsIn_of_wpOps hnd _ _ _ ?_) (fun e a w he => by obtain ⟨rfl, he⟩ := he; exact hK a w he)
  simp only [Region.schedule, hm, Bool.true_or, if_true]
  exact wpAny_sound ops.size t (Array.replicate ops.size false) a { w with drawn := w.drawn + 1 } (wpAny_of_held _ _ _ _ (h hS))
end Go.Proofs.YtbfmbdohebdbaaaGreatDoor
