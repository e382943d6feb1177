/-
  What stays while a region is walked in all its orders; planes held against themselves.
-/
import Derived.Test.YtbfmbdohebdbaaaGreatDoorCirc
import Derived.ChangeKeysEq
set_option linter.unusedVariables false
set_option linter.unusedSimpArgs false
namespace Go.Proofs.YtbfmbdohebdbaaaGreatDoor
open Go Go.RowKit

/-- blocks that hold what they hold, and nothing else is touched. -/
def Hold (w : World) (l : List (Nat × TypeId × Array Value)) (V : World) : Prop := (∀ x, x ∈ l → RQ V x.1 x.2.1 x.2.2) ∧ Below w.heap.size w V
theorem Hold.next {w V V' : World} {l : List (Nat × TypeId × Array Value)} (h : Hold w l V) (hb : Below V.heap.size V V') : Hold w l V' :=
  ⟨fun x hx => (h.1 x hx).up hb, h.2.trans (hb.mono h.2.size)⟩
theorem Hold.put {w V V0 : World} {l : List (Nat × TypeId × Array Value)} (h : Hold w l V) (h0 : Hold w l V0) {g : Nat} (hg : V0.heap.size ≤ g) (R : Array Value) : Hold w l (V.setRow g R) :=
  ⟨fun x hx => (setRow_other V g x.1 R (by have := (h0.1 x hx).lt; omega)).trans (h.1 x hx), below_setRow h.2 (Nat.le_trans h0.2.size hg) R⟩
theorem Hold.add {w V : World} {l : List (Nat × TypeId × Array Value)} (h : Hold w l V) {g : Nat} {t : TypeId} {cs : Array Value} (r : RQ V g t cs) : Hold w ((g, t, cs) :: l) V :=
  ⟨fun x hx => by
    rcases List.mem_cons.1 hx with rfl | hx
    · exact r
    · exact h.1 x hx, h.2⟩
theorem Hold.nil {w V : World} (h : Below w.heap.size w V) : Hold w [] V := ⟨fun x hx => (by cases hx), h⟩
theorem Hold.drew {w V : World} {l : List (Nat × TypeId × Array Value)} (h : Hold w l V) : Hold w l V.drew := ⟨h.1, h.2.drew⟩
theorem part_pc (R : Array Value) (p : Nat → Nat) (hv : ∀ j, j < 8 → R[j]? = some (.int .u64 (p j : Int))) (j : Nat) (hj : j < 8) (W : World) : (part 133 R (j * 1)).run Tryz.prog W = .ok (.int .u64 (p j : Int)) W := by
  have hagg : (isAgg 133).run Tryz.prog W = .ok false W := by
    unfold isAgg
    rw [Sem.run_bind, run_underlying Tryz.underlying133 W]
    rfl
  have h := hv j hj
  rw [Nat.mul_one]
  simp [part, Sem.run_bind, hagg, h]
theorem items_pc (R : Array Value) (p : Nat → Nat) (hv : ∀ j, j < 8 → R[j]? = some (.int .u64 (p j : Int))) (W : World) : ∀ is : List Nat, (∀ j, j ∈ is → j < 8) → (Op.eqItems 9999 133 1 R R is).run Tryz.prog W = .ok true W
  | [], _ => by simp only [Op.eqItems, Sem.run_pure]
  | j :: is, h => by
    have hp := part_pc R p hv j (h j (by simp)) W
    have he : (Op.equalIn 9999 133 (.int .u64 (p j : Int)) (.int .u64 (p j : Int))).run Tryz.prog W = .ok ((p j : Int) == (p j : Int)) W := run_equalIn_int (P := Tryz.prog) W 9998 133 .u64 .u64 _ _ Tryz.underlying133
    have ih := items_pc R p hv W is (fun k hk => h k (by simp [hk]))
    simp only [Op.eqItems, Sem.run_bind, hp, Result.andThen_ok, he, beq_self_eq_true, Bool.not_true, Bool.false_eq_true, if_false, ih]
set_option maxRecDepth 100000 in
theorem equal_of (R : Array Value) (p : Nat → Nat) (hv : ∀ j, j < 8 → R[j]? = some (.int .u64 (p j : Int))) (W : World) : (Op.equalIn 10000 135 (.agg R) (.agg R)).run Tryz.prog W = .ok true W := by
  obtain ⟨i, hi⟩ : ∃ i : TypeInfo, Tryz.prog.info? 133 = some i := ⟨_, rfl⟩
  have hc : Tryz.prog.cellsOf 133 = 1 := by kernel_rfl
  rw [run_equalIn_array (P := Tryz.prog) W 9999 R R Tryz.underlying135 hi, hc]
  exact items_pc R p hv W _ (fun j hj => by simpa using hj)
def Same8 (R : Array Value) : Prop := ∀ W, (Op.equalIn 10000 135 (.agg R) (.agg R)).run Tryz.prog W = .ok true W
theorem same8_pc (s : Nat → UInt8) : Same8 (pc s) := equal_of (pc s) (plW s) (pc_at s)
theorem neq_pc (R : Array Value) (hR : Same8 R) (W : World) : (binOp .neq 135 (.agg R) (.agg R)).run Tryz.prog W = .ok (.bool false) W := by
  rw [run_neq_struct, hR W]; rfl
theorem eql_pc (R : Array Value) (hR : Same8 R) (W : World) : (binOp .eql 135 (.agg R) (.agg R)).run Tryz.prog W = .ok (.bool true) W := by
  rw [run_eql_struct, hR W]; rfl
theorem guard8 : Tryz.prog.eqGuardType Tryz.prog.depth 135 = false := by kernel_rfl
theorem exec_neqP {R : Array Value} (hR : Same8 R) {ρ : Operand → Value} {o : Oper} (W : World) (p q : Operand) (ho : o.op = .binOp .neq 135 p q 135) (hp : ρ p = .agg R) (hq : ρ q = .agg R) :
    (execOp ρ o).run Tryz.prog W = .ok (.value (.bool false)) W := by
  have h := neq_pc R hR W
  unfold execOp
  simp only [ho, hp, hq, Sem.run_bind, run_eqGuard_agg _ _ _ _ _ _ _ guard8, Result.andThen_ok, h, Sem.run_pure]
theorem exec_eqlP {R : Array Value} (hR : Same8 R) {ρ : Operand → Value} {o : Oper} (W : World) (p q : Operand) (ho : o.op = .binOp .eql 135 p q 135) (hp : ρ p = .agg R) (hq : ρ q = .agg R) :
    (execOp ρ o).run Tryz.prog W = .ok (.value (.bool true)) W := by
  have h := eql_pc R hR W
  unfold execOp
  simp only [ho, hp, hq, Sem.run_bind, run_eqGuard_agg _ _ _ _ _ _ _ guard8, Result.andThen_ok, h, Sem.run_pure]
end Go.Proofs.YtbfmbdohebdbaaaGreatDoor
