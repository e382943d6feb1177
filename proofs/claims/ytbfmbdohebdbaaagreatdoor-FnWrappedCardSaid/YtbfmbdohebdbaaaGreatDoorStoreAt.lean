/-
  A whole array stored into the middle of a block, told as a new row; an element read out of an array by value. No program.
-/
import Derived.Deep.MidRow
import Derived.Laws.CopyRow
import Derived.Laws.CopyOwn
import Derived.WalkKit
set_option linter.unusedVariables false
set_option linter.unusedSimpArgs false
namespace Go.Proofs.YtbfmbdohebdbaaaGreatDoor
open Go Go.RowKit

theorem run_index_ar {P : Program} (t e : TypeId) (n k : Nat) (cs : Array Value) (v : Value) (d : TypeDesc) (i : TypeInfo) (w : World) (h : P.underlying t = some (.array n e)) (hd : P.underlying e = some d) (hrow : d.isRow = false) (hi : P.info? e = some i) (h1 : i.size = 1) (hk : k < n) (hv : cs[k]? = some v) :
    (Instr.index t (.agg cs) (.int .i64 (k : Int))).run P w = .ok v w := by
  have hn : 0 ≤ (k : Int) ∧ (k : Int) < (n : Int) := by omega
  have hagg : ∀ W, (isAgg e).run P W = .ok false W := fun W => by
    unfold isAgg
    rw [Sem.run_bind, run_underlying hd W]
    cases d <;> simp_all [TypeDesc.isRow]
  simp [Instr.index, run_underlying h, asIntOf, hn, go_sem, sizeOf, typeInfo, hi, h1, part, hagg, hv]
  intro hle
  exact absurd hk (by omega)
/-- cells put in the place of others, from o on. -/
def putAt (cur : Array Value) (o : Nat) (cs : Array Value) : Array Value := (cur.toList.take o ++ cs.toList ++ cur.toList.drop (o + cs.size)).toArray
theorem putAt_size (cur : Array Value) (o : Nat) (cs : Array Value) (h : o + cs.size ≤ cur.size) : (putAt cur o cs).size = cur.size := by
  unfold putAt; simp; omega
theorem putAt_get (cur : Array Value) (o : Nat) (cs : Array Value) (h : o + cs.size ≤ cur.size) (j : Nat) : (putAt cur o cs)[j]? = if j < o then cur[j]? else if j < o + cs.size then cs[j - o]? else cur[j]? := by
  unfold putAt
  rw [List.getElem?_toArray]
  have hl : (cur.toList.take o).length = o := by simp; omega
  by_cases h1 : j < o
  · rw [if_pos h1, List.append_assoc, List.getElem?_append_left (by omega), List.getElem?_take_of_lt h1]; simp
  · rw [if_neg h1]
    by_cases h2 : j < o + cs.size
    · rw [if_pos h2, List.getElem?_append_left (by rw [List.length_append, hl]; simp; omega), List.getElem?_append_right (by omega), hl]; simp
    · rw [if_neg h2, List.getElem?_append_right (by rw [List.length_append, hl]; simp; omega), List.length_append, hl, List.getElem?_drop]
      have e : o + cs.size + (j - (o + cs.toList.length)) = j := by simp; omega
      rw [e]; simp
theorem run_store_at {P : Program} (w : World) (p o : Nat) (t : TypeId) (cur cs : Array Value) (hp : w.heap[p]? = some (.cells cur t (0, 0))) (hfit : o + cs.size ≤ cur.size) (hone : ∀ v ∈ cs.toList, v.oneCell' = true) (ty : TypeId) (hi : (P.info? ty).map (·.size) = some cs.size) :
    (storeVar ty ⟨p, o, none⟩ (.agg cs)).run P w = .ok () (w.setRow p (putAt cur o cs)) := by
  have hst := run_storeCells_at P p o t cs.toList 0 cur w hp (by simpa using hfit) hone
  simp only [Nat.add_zero, Array.length_toList] at hst
  cases hq : P.info? ty with
  | none => simp [hq] at hi
  | some i =>
    have hs : i.size = cs.size := by simpa [hq] using hi
    simp [storeVar, sizeOf, typeInfo, hq, Value.cells, hs]
    exact hst
theorem wp_store_at {P : Program} {op : Oper} {a : Act} {w : World} {K : Act → World → Prop} {Q : Exit → Act → World → Prop} (ty : TypeId) (x y : Operand) (ho : op.op = .store ty x y) (p o : Nat) (cs : Array Value) (hx : a.eval x = .pointer (some ⟨p, o, none⟩)) (hy : a.eval y = .agg cs)
    (t : TypeId) (cur : Array Value) (hp : w.heap[p]? = some (.cells cur t (0, 0))) (hfit : o + cs.size ≤ cur.size) (hone : ∀ v ∈ cs.toList, v.oneCell' = true) (hi : (P.info? ty).map (·.size) = some cs.size)
    (h : K (a.put op.dst undef) (w.setRow p (putAt cur o cs))) : op.wp P a w K Q := by
  unfold Oper.wp execOp
  simp only [ho, hx, hy, Instr.storeAt, Instr.sureAddr, Sem.run_bind, Sem.run_pure, Result.andThen_ok, run_store_at w p o t cur cs hp hfit hone ty hi]
  exact h
theorem wpList_store_at {P : Program} {ops : Array Oper} {rest : List Oper} {op : Oper} {a : Act} {w : World} {Q : Exit → Act → World → Prop} (hgd : op.guard = none) (ty : TypeId) (x y : Operand) (ho : op.op = .store ty x y) (p o : Nat) (cs : Array Value) (hx : a.eval x = .pointer (some ⟨p, o, none⟩)) (hy : a.eval y = .agg cs)
    (t : TypeId) (cur : Array Value) (hp : w.heap[p]? = some (.cells cur t (0, 0))) (hfit : o + cs.size ≤ cur.size) (hone : ∀ v ∈ cs.toList, v.oneCell' = true) (hi : (P.info? ty).map (·.size) = some cs.size)
    (h : wpList P ops Q rest (a.put op.dst undef) (w.setRow p (putAt cur o cs))) : wpList P ops Q (op :: rest) a w :=
  wpList_plain hgd fun _ hK => wp_store_at ty x y ho p o cs hx hy t cur hp hfit hone hi (hK _ _ h)
theorem fold_set (vs : List Value) (off : Nat) : ∀ (i : Nat) (cur : Array Value), ((vs.zipIdx i).foldl (fun cs (c, j) => cs.setIfInBounds (off + j) c) cur).size = cur.size ∧ ∀ q, ((vs.zipIdx i).foldl (fun cs (c, j) => cs.setIfInBounds (off + j) c) cur)[q]? = if q < off + i then cur[q]? else if q < off + i + vs.length then (if q < cur.size then vs[q - (off + i)]? else none) else cur[q]? := by
  induction vs with
  | nil =>
    intro i cur
    refine ⟨rfl, fun q => ?_⟩
    simp
    intro a b; omega
  | cons v vs ih =>
    intro i cur
    rw [List.zipIdx_cons, List.foldl_cons]
    obtain ⟨h1, h2⟩ := ih (i + 1) (cur.setIfInBounds (off + i) v)
    refine ⟨by rw [h1]; simp, fun q => ?_⟩
    rw [h2 q]
    by_cases a : q < off + i
    · rw [if_pos (by omega), if_pos a, Array.getElem?_setIfInBounds_ne (by omega)]
    · rw [if_neg a]
      by_cases b : q = off + i
      · subst b
        rw [if_pos (by omega), if_pos (by simp)]
        rw [Array.getElem?_setIfInBounds]
        simp
      · rw [if_neg (by omega)]
        by_cases c : q < off + i + (v :: vs).length
        · rw [if_pos (by simp at c; omega), if_pos c]
          have e : q - (off + i) = (q - (off + (i + 1))) + 1 := by omega
          rw [e, List.getElem?_cons_succ]; simp; try omega
        · rw [if_neg (by simp at c; omega), if_neg c, Array.getElem?_setIfInBounds_ne (by omega)]
theorem fold_put (vs : Array Value) (off : Nat) (cur : Array Value) (h : off + vs.size ≤ cur.size) : vs.zipIdx.foldl (fun cs (c, j) => cs.setIfInBounds (off + j) c) cur = putAt cur off vs := by
  obtain ⟨h1, h2⟩ := fold_set vs.toList off 0 cur
  have e : vs.zipIdx.foldl (fun cs (c, j) => cs.setIfInBounds (off + j) c) cur = (vs.toList.zipIdx 0).foldl (fun cs (c, j) => cs.setIfInBounds (off + j) c) cur := by
    rw [← Array.foldl_toList]; simp
  rw [e]
  apply Array.ext_getElem?
  intro q
  rw [h2 q, putAt_get _ _ _ h]
  by_cases a : q < off
  · rw [if_pos (by omega), if_pos a]
  · rw [if_neg (by omega), if_neg a]
    by_cases b : q < off + vs.size
    · rw [if_pos (by simpa using b), if_pos b, if_pos (by omega)]; simp
    · rw [if_neg (by simpa using b), if_neg b]
theorem fill_one (place : Nat → Option (Nat × Nat)) (cells : Array Value) (i off size : Nat) (v : Value) (rest : List (Nat × Value)) (hp : place i = some (off, size)) (hv : v.cells.size = size) (hf : off + size ≤ cells.size) :
    Instr.fill place cells ((i, v) :: rest) = Instr.fill place (putAt cells off v.cells) rest := by
  rw [Instr.fill, hp]
  simp only
  rw [if_neg (by simp [hv]; omega), fold_put _ _ _ (by omega)]
theorem fill_at (place : Nat → Option (Nat × Nat)) (cells : Array Value) (i off size : Nat) (v : Value) (cs : Array Value) (rest : List (Nat × Value)) (hp : place i = some (off, size)) (hc : v.cells = cs) (hv : cs.size = size) (hf : off + size ≤ cells.size) :
    Instr.fill place cells ((i, v) :: rest) = Instr.fill place (putAt cells off cs) rest := by
  subst hc; exact fill_one place cells i off size v rest hp hv hf
theorem run_build_struct {P : Program} (t : TypeId) (fields : Array Field) (parts : Array (Nat × Value)) (i : TypeInfo) (z : Value) (places : Array (Nat × Nat)) (cells : Array Value) (w : World) (h : P.underlying t = some (.struct fields)) (hi : P.info? t = some i) (hz : i.zero = some z)
    (hp : ((fields.mapM fun f => do pure (f.offset, ← sizeOf f.type)) : Sem (Array (Nat × Nat))).run P w = .ok places w) (hf : Instr.fill (places[·]?) z.cells parts.toList = some cells) :
    (Instr.build t parts).run P w = .ok (.agg cells) w := by
  have hzv : (zeroValue t).run P w = .ok z w := by
    unfold zeroValue
    simp [typeInfo, hi, hz, go_sem]
  unfold Instr.build
  rw [Sem.run_bind, hzv, Result.andThen_ok]
  rw [Sem.run_bind, run_underlying h w, Result.andThen_ok]
  simp only []
  rw [Sem.run_bind, hp, Result.andThen_ok, hf]
  rfl
end Go.Proofs.YtbfmbdohebdbaaaGreatDoor
