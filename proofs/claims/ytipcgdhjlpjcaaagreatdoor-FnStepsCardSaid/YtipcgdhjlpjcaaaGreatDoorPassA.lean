/-
  A passage in memory: its keys, its block, its two boxes' readers, the blocks behind each key; what a store into it leaves. What a state answers that is changed byte by byte.
-/
import Derived.Test.YtipcgdhjlpjcaaaGreatDoorPassMath
import Derived.Test.YtipcgdhjlpjcaaaGreatDoorCols
import Derived.Test.YtipcgdhjlpjcaaaGreatDoorBase
import Derived.Test.YtipcgdhjlpjcaaaGreatDoorLists
import Derived.Deep.MidRow
import Derived.Deep.AppendLies
set_option linter.unusedVariables false
set_option linter.unusedSimpArgs false
namespace Go.Proofs.YtipcgdhjlpjcaaaGreatDoor
open Go Go.RowKit

/-- the cells of a passage. -/
def psC (kv : Value) (f : Nat → UInt8) (sv uv bv : Value) : List Value := kv :: (cells8 (upTo f 16) ++ [sv, uv, bv])
theorem psC_length (kv : Value) (f : Nat → UInt8) (sv uv bv : Value) : (psC kv f sv uv bv).length = 20 := by simp [psC, cells8_length, upTo_length]
def PsAt (w : World) (p : Nat) (kv : Value) (f : Nat → UInt8) (sv uv bv : Value) : Prop := w.heap[p]? = some (.cells (psC kv f sv uv bv).toArray 71 (0, 0))
theorem PsAt.lt {w : World} {p : Nat} {kv sv uv bv : Value} {f : Nat → UInt8} (h : PsAt w p kv f sv uv bv) : p < w.heap.size := (Array.getElem?_eq_some_iff.1 h).1
theorem psC_byte (kv : Value) (f : Nat → UInt8) (sv uv bv : Value) (i : Nat) (hi : i < 16) : (psC kv f sv uv bv)[1 + i]? = some (.int .u8 ((f i).toNat : Int)) := by
  unfold psC
  rw [Nat.add_comm, List.getElem?_cons_succ, List.getElem?_append_left (by rw [cells8_length, upTo_length]; exact hi)]
  unfold cells8
  rw [List.getElem?_map, upTo_at f 16 i hi]; rfl
theorem psC_17 (kv : Value) (f : Nat → UInt8) (sv uv bv : Value) : (psC kv f sv uv bv)[17]? = some sv ∧ (psC kv f sv uv bv)[18]? = some uv ∧ (psC kv f sv uv bv)[19]? = some bv := ⟨rfl, rfl, rfl⟩
section
variable {w : World} {p : Nat} {kv sv uv bv : Value} {f : Nat → UInt8}
theorem PsAt.c0 (h : PsAt w p kv f sv uv bv) : w.cell? ⟨p, 0, none⟩ = some kv := (cell_of_row w p 0 _ _ _ h).trans (by rw [List.getElem?_toArray]; rfl)
theorem PsAt.ci (h : PsAt w p kv f sv uv bv) (i : Nat) (hi : i < 16) : w.cell? ⟨p, 1 + i, none⟩ = some (.int .u8 ((f i).toNat : Int)) := (cell_of_row w p (1 + i) _ _ _ h).trans (by rw [List.getElem?_toArray]; exact psC_byte _ _ _ _ _ i hi)
theorem PsAt.c17 (h : PsAt w p kv f sv uv bv) : w.cell? ⟨p, 17, none⟩ = some sv := (cell_of_row w p 17 _ _ _ h).trans (by rw [List.getElem?_toArray]; exact (psC_17 _ _ _ _ _).1)
theorem PsAt.c18 (h : PsAt w p kv f sv uv bv) : w.cell? ⟨p, 18, none⟩ = some uv := (cell_of_row w p 18 _ _ _ h).trans (by rw [List.getElem?_toArray]; exact (psC_17 _ _ _ _ _).2.1)
theorem PsAt.c19 (h : PsAt w p kv f sv uv bv) : w.cell? ⟨p, 19, none⟩ = some bv := (cell_of_row w p 19 _ _ _ h).trans (by rw [List.getElem?_toArray]; exact (psC_17 _ _ _ _ _).2.2)
theorem PsAt.fz (h : PsAt w p kv f sv uv bv) (j : Nat) : w.frozen? ⟨p, j, none⟩ = false := frozen_of_row w p j _ _ h
theorem PsAt.range (h : PsAt w p kv f sv uv bv) : w.rangeAt p 1 (cells8 (upTo f 16)) := fun j v hv => by
  have hj : j < 16 := by have := (List.getElem?_eq_some_iff.1 hv).1; rwa [cells8_length, upTo_length] at this
  rw [h.ci j hj, ← hv]
  unfold cells8
  rw [List.getElem?_map, upTo_at f 16 j hj]; rfl
theorem PsAt.keys (h : PsAt w p kv f sv uv bv) (v : Value) : PsAt (w.setCell ⟨p, 0, none⟩ v) p v f sv uv bv := by
  have h2 := heap_setCell_same w p 0 _ _ v h
  simpa [PsAt, psC] using h2
theorem PsAt.blocks (h : PsAt w p kv f sv uv bv) (v : Value) : PsAt (w.setCell ⟨p, 19, none⟩ v) p kv f sv uv v := by
  have h2 := heap_setCell_same w p 19 _ _ v h
  rw [PsAt, h2, List.setIfInBounds_toArray]
  congr 3
theorem PsAt.byte (h : PsAt w p kv f sv uv bv) (i : Nat) (hi : i < 16) (c : UInt8) : PsAt (w.setCell ⟨p, 1 + i, none⟩ (.int .u8 (c.toNat : Int))) p kv (fun j => if j = i then c else f j) sv uv bv := by
  have h2 := heap_setCell_same w p (1 + i) _ _ (.int .u8 (c.toNat : Int)) h
  rw [PsAt, h2, List.setIfInBounds_toArray]
  congr 3
  unfold psC
  rw [Nat.add_comm, List.set_cons_succ, List.set_append_left _ _ (by rw [cells8_length, upTo_length]; exact hi)]
  congr 2
  unfold cells8
  apply List.ext_getElem?
  intro j
  rw [List.getElem?_set, List.length_map, upTo_length]
  by_cases hj : j < 16
  · rw [List.getElem?_map, List.getElem?_map, upTo_at f 16 j hj, upTo_at _ 16 j hj]
    by_cases he : i = j
    · subst he; simp [hi, cell8]
    · rw [if_neg he, Option.map_some, Option.map_some, if_neg (fun h => he h.symm)]
  · rw [if_neg (by omega), List.getElem?_eq_none (by rw [List.length_map, upTo_length]; omega), List.getElem?_eq_none (by rw [List.length_map, upTo_length]; omega)]
theorem PsAt.congr {g : Nat → UInt8} (h : PsAt w p kv f sv uv bv) (hg : ∀ i, i < 16 → f i = g i) : PsAt w p kv g sv uv bv := by
  have e : upTo f 16 = upTo g 16 := by
    unfold upTo; exact List.map_congr_left fun i hi => hg i (List.mem_range.1 hi)
  unfold PsAt psC at *
  rw [← e]; exact h
theorem PsAt.of_block {w' : World} (h : PsAt w p kv f sv uv bv) (hb : w'.heap[p]? = w.heap[p]?) : PsAt w' p kv f sv uv bv := hb.trans h
end
/-- the store of a whole state into a passage. -/
theorem run_store_ps {P : Program} (w : World) (p : Nat) (t : TypeId) (kv : Value) (f g : Nat → UInt8) (sv uv bv : Value) (hp : w.heap[p]? = some (.cells (psC kv f sv uv bv).toArray t (0, 0))) (ty : TypeId) (hi : (P.info? ty).map (·.size) = some 16) :
    (storeVar ty ⟨p, 1, none⟩ (.agg (stA g))).run P w = .ok () (w.setRow p (psC kv g sv uv bv).toArray) := by
  have hlen : (cells8 (upTo g 16)).length = 16 := by rw [cells8_length, upTo_length]
  have hlen2 : (cells8 (upTo f 16)).length = 16 := by rw [cells8_length, upTo_length]
  have hst := run_storeCells_at P p 1 t (cells8 (upTo g 16)) 0 _ w hp (by rw [hlen, List.size_toArray, psC_length]; omega) (fun v hv => cells8_oneCell _ v hv)
  have e : (((psC kv f sv uv bv).toArray.toList.take (1 + 0) ++ cells8 (upTo g 16) ++ (psC kv f sv uv bv).toArray.toList.drop (1 + 0 + (cells8 (upTo g 16)).length)).toArray) = (psC kv g sv uv bv).toArray := by
    congr 1
  rw [e] at hst
  cases hq : P.info? ty with
  | none => simp [hq] at hi
  | some i =>
    have hs : i.size = 16 := by simpa [hq] using hi
    simp [storeVar, sizeOf, typeInfo, hq, Value.cells, hs, stA_size]
    simpa [stA] using hst
theorem wp_store_ps {P : Program} {o : Oper} {a : Act} {w : World} {K : Act → World → Prop} {Q : Exit → Act → World → Prop} (ty : TypeId) (x y : Operand) (ho : o.op = .store ty x y) (p : Nat) (g : Nat → UInt8) (hx : a.eval x = .pointer (some ⟨p, 1, none⟩)) (hy : a.eval y = .agg (stA g))
    (t : TypeId) (kv : Value) (f : Nat → UInt8) (sv uv bv : Value) (hp : w.heap[p]? = some (.cells (psC kv f sv uv bv).toArray t (0, 0))) (hi : (P.info? ty).map (·.size) = some 16)
    (h : K (a.put o.dst undef) (w.setRow p (psC kv g sv uv bv).toArray)) : o.wp P a w K Q := by
  unfold Oper.wp execOp
  simp only [ho, hx, hy, Instr.storeAt, Instr.sureAddr, Sem.run_bind, Sem.run_pure, Result.andThen_ok, run_store_ps w p t kv f g sv uv bv hp ty hi]
  exact h
theorem wpList_store_ps {P : Program} {ops : Array Oper} {rest : List Oper} {o : Oper} {a : Act} {w : World} {Q : Exit → Act → World → Prop} (hgd : o.guard = none) (ty : TypeId) (x y : Operand) (ho : o.op = .store ty x y) (p : Nat) (g : Nat → UInt8) (hx : a.eval x = .pointer (some ⟨p, 1, none⟩)) (hy : a.eval y = .agg (stA g))
    (t : TypeId) (kv : Value) (f : Nat → UInt8) (sv uv bv : Value) (hp : w.heap[p]? = some (.cells (psC kv f sv uv bv).toArray t (0, 0))) (hi : (P.info? ty).map (·.size) = some 16)
    (h : wpList P ops Q rest (a.put o.dst undef) (w.setRow p (psC kv g sv uv bv).toArray)) : wpList P ops Q (o :: rest) a w :=
  wpList_plain hgd fun _ hK => wp_store_ps ty x y ho p g hx hy t kv f sv uv bv hp hi (hK _ _ h)
/-- what a step leaves as it was: all that lies below B, but the passage. -/
structure Moved (p B : Nat) (w w' : World) : Prop where
  os : w'.os = w.os
  tape : w'.tape = w.tape
  output : w'.output = w.output
  size : w.heap.size ≤ w'.heap.size
  block : ∀ k, k < B → k ≠ p → w'.heap[k]? = w.heap[k]?
theorem Moved.refl (p B : Nat) (w : World) : Moved p B w w := ⟨rfl, rfl, rfl, Nat.le_refl _, fun _ _ _ => rfl⟩
theorem Moved.trans {p B : Nat} {a b c : World} (h : Moved p B a b) (k : Moved p B b c) : Moved p B a c :=
  ⟨k.os.trans h.os, k.tape.trans h.tape, k.output.trans h.output, Nat.le_trans h.size k.size, fun i hi hn => (k.block i hi hn).trans (h.block i hi hn)⟩
theorem Moved.of_below {p B B2 : Nat} {a b : World} (h : Below B2 a b) (hB : B ≤ B2) : Moved p B a b := ⟨h.os, h.tape, h.output, h.size, fun k hk _ => h.block k (by omega)⟩
theorem Moved.drew {p B : Nat} {a b : World} (h : Moved p B a b) : Moved p B a b.drew := ⟨h.os, h.tape, h.output, h.size, h.block⟩
theorem Moved.setRow {p B : Nat} {a b : World} (h : Moved p B a b) (cs : Array Value) : Moved p B a (b.setRow p cs) :=
  ⟨h.os, h.tape, h.output, by rw [size_setRow]; exact h.size, fun k hk hn => (setRow_other b p k cs hn).trans (h.block k hk hn)⟩
theorem Moved.setCell {p B : Nat} {a b : World} (h : Moved p B a b) (j : Nat) (v : Value) : Moved p B a (b.setCell ⟨p, j, none⟩ v) :=
  ⟨h.os, h.tape, h.output, by simpa [World.setCell] using h.size, fun k hk hn => (heap_setCell_other b ⟨p, j, none⟩ k v hn).trans (h.block k hk hn)⟩
theorem Moved.grown {p B : Nat} {a b c : World} {row : Option Nat} (h : Moved p B a b) (hg : b.grownBy c row) (hB : B ≤ b.heap.size) (hr : ∀ k, row = some k → B ≤ k) : Moved p B a c :=
  h.trans ⟨hg.os, hg.tape, hg.output, hg.size, fun k hk _ => hg.block k (by omega) (fun e => by have := hr k e.symm; omega)⟩
theorem Moved.below {p B n : Nat} {a b : World} (h : Moved p B a b) (hp : n ≤ p) (hB : n ≤ B) : Below n a b := ⟨h.os, h.tape, h.output, h.size, fun k hk => h.block k (by omega) (by omega)⟩
theorem st_info16 : (Tryz.prog.info? 48).map (·.size) = some 16 := by kernel_rfl
theorem stA_congr {f g : Nat → UInt8} (h : ∀ i, i < 16 → f i = g i) : stA f = stA g := by
  unfold stA
  congr 2
  unfold upTo; exact List.map_congr_left fun i hi => h i (List.mem_range.1 hi)
/-- a byte out of an array. -/
theorem index_st0 (h : Nat → UInt8) (W : World) : (Instr.index 48 (.agg (stA h)) (.int .i64 0)).run Tryz.prog W = .ok (.int .u8 ((h 0).toNat : Int)) W := by kernel_rfl
theorem index_st1 (h : Nat → UInt8) (W : World) : (Instr.index 48 (.agg (stA h)) (.int .i64 1)).run Tryz.prog W = .ok (.int .u8 ((h 1).toNat : Int)) W := by kernel_rfl
theorem index_st2 (h : Nat → UInt8) (W : World) : (Instr.index 48 (.agg (stA h)) (.int .i64 2)).run Tryz.prog W = .ok (.int .u8 ((h 2).toNat : Int)) W := by kernel_rfl
theorem index_st3 (h : Nat → UInt8) (W : World) : (Instr.index 48 (.agg (stA h)) (.int .i64 3)).run Tryz.prog W = .ok (.int .u8 ((h 3).toNat : Int)) W := by kernel_rfl
theorem index_st4 (h : Nat → UInt8) (W : World) : (Instr.index 48 (.agg (stA h)) (.int .i64 4)).run Tryz.prog W = .ok (.int .u8 ((h 4).toNat : Int)) W := by kernel_rfl
theorem index_st5 (h : Nat → UInt8) (W : World) : (Instr.index 48 (.agg (stA h)) (.int .i64 5)).run Tryz.prog W = .ok (.int .u8 ((h 5).toNat : Int)) W := by kernel_rfl
theorem index_st6 (h : Nat → UInt8) (W : World) : (Instr.index 48 (.agg (stA h)) (.int .i64 6)).run Tryz.prog W = .ok (.int .u8 ((h 6).toNat : Int)) W := by kernel_rfl
theorem index_st7 (h : Nat → UInt8) (W : World) : (Instr.index 48 (.agg (stA h)) (.int .i64 7)).run Tryz.prog W = .ok (.int .u8 ((h 7).toNat : Int)) W := by kernel_rfl
theorem index_st8 (h : Nat → UInt8) (W : World) : (Instr.index 48 (.agg (stA h)) (.int .i64 8)).run Tryz.prog W = .ok (.int .u8 ((h 8).toNat : Int)) W := by kernel_rfl
theorem index_st9 (h : Nat → UInt8) (W : World) : (Instr.index 48 (.agg (stA h)) (.int .i64 9)).run Tryz.prog W = .ok (.int .u8 ((h 9).toNat : Int)) W := by kernel_rfl
theorem index_st10 (h : Nat → UInt8) (W : World) : (Instr.index 48 (.agg (stA h)) (.int .i64 10)).run Tryz.prog W = .ok (.int .u8 ((h 10).toNat : Int)) W := by kernel_rfl
theorem index_st11 (h : Nat → UInt8) (W : World) : (Instr.index 48 (.agg (stA h)) (.int .i64 11)).run Tryz.prog W = .ok (.int .u8 ((h 11).toNat : Int)) W := by kernel_rfl
theorem index_st12 (h : Nat → UInt8) (W : World) : (Instr.index 48 (.agg (stA h)) (.int .i64 12)).run Tryz.prog W = .ok (.int .u8 ((h 12).toNat : Int)) W := by kernel_rfl
theorem index_st13 (h : Nat → UInt8) (W : World) : (Instr.index 48 (.agg (stA h)) (.int .i64 13)).run Tryz.prog W = .ok (.int .u8 ((h 13).toNat : Int)) W := by kernel_rfl
theorem index_st14 (h : Nat → UInt8) (W : World) : (Instr.index 48 (.agg (stA h)) (.int .i64 14)).run Tryz.prog W = .ok (.int .u8 ((h 14).toNat : Int)) W := by kernel_rfl
theorem index_st15 (h : Nat → UInt8) (W : World) : (Instr.index 48 (.agg (stA h)) (.int .i64 15)).run Tryz.prog W = .ok (.int .u8 ((h 15).toNat : Int)) W := by kernel_rfl
theorem index_st (h : Nat → UInt8) (k : Nat) (hk : k < 16) (W : World) : (Instr.index 48 (.agg (stA h)) (.int .i64 (k : Int))).run Tryz.prog W = .ok (.int .u8 ((h k).toNat : Int)) W := by
  have h16 : k = 0 ∨ k = 1 ∨ k = 2 ∨ k = 3 ∨ k = 4 ∨ k = 5 ∨ k = 6 ∨ k = 7 ∨ k = 8 ∨ k = 9 ∨ k = 10 ∨ k = 11 ∨ k = 12 ∨ k = 13 ∨ k = 14 ∨ k = 15 := by omega
  rcases h16 with rfl | rfl | rfl | rfl | rfl | rfl | rfl | rfl | rfl | rfl | rfl | rfl | rfl | rfl | rfl | rfl
  · exact index_st0 h W
  · exact index_st1 h W
  · exact index_st2 h W
  · exact index_st3 h W
  · exact index_st4 h W
  · exact index_st5 h W
  · exact index_st6 h W
  · exact index_st7 h W
  · exact index_st8 h W
  · exact index_st9 h W
  · exact index_st10 h W
  · exact index_st11 h W
  · exact index_st12 h W
  · exact index_st13 h W
  · exact index_st14 h W
  · exact index_st15 h W
/-- bytes of which k are changed. -/
def chTo (f : UInt8 → UInt8) (h : Nat → UInt8) (k : Nat) : Nat → UInt8 := fun j => if j < k then f (h j) else h j
theorem chTo_0 (f : UInt8 → UInt8) (h : Nat → UInt8) : chTo f h 0 = h := by funext j; simp [chTo]
theorem chTo_16 (f : UInt8 → UInt8) (h : Nat → UInt8) : stA (chTo f h 16) = stA (fun i => f (h i)) := stA_congr fun i hi => by unfold chTo; rw [if_pos hi]
theorem stA_set (h : Nat → UInt8) (k : Nat) (c : UInt8) (hk : k < 16) : (stA h).setIfInBounds k (.int .u8 (c.toNat : Int)) = stA (fun j => if j = k then c else h j) := by
  unfold stA
  rw [List.setIfInBounds_toArray]
  congr 1
  apply List.ext_getElem?
  intro j
  unfold cells8
  rw [List.getElem?_set, List.length_map, upTo_length]
  by_cases hj : j < 16
  · rw [List.getElem?_map, List.getElem?_map, upTo_at h 16 j hj, upTo_at _ 16 j hj]
    by_cases he : k = j
    · subst he; simp [hk, cell8]
    · rw [if_neg he, Option.map_some, Option.map_some, if_neg (fun h => he h.symm)]
  · rw [if_neg (by omega), List.getElem?_eq_none (by rw [List.length_map, upTo_length]; omega), List.getElem?_eq_none (by rw [List.length_map, upTo_length]; omega)]
theorem chTo_set (f : UInt8 → UInt8) (h : Nat → UInt8) (k : Nat) (hk : k < 16) : stA (fun j => if j = k then f (h k) else chTo f h k j) = stA (chTo f h (k + 1)) := stA_congr fun i hi => by
  unfold chTo
  by_cases he : i = k
  · subst he; rw [if_pos rfl, if_pos (by omega)]
  · rw [if_neg he]
    by_cases hl : i < k
    · rw [if_pos hl, if_pos (by omega)]
    · rw [if_neg hl, if_neg (by omega)]
theorem StAt.put {w : World} {g : Nat} {h : Nat → UInt8} (hg : StAt w g (stA h)) (k : Nat) (hk : k < 16) (c : UInt8) : StAt (w.setCell ⟨g, k, none⟩ (.int .u8 (c.toNat : Int))) g (stA (fun j => if j = k then c else h j)) := by
  have h2 := heap_setCell_same w g k _ _ (.int .u8 (c.toNat : Int)) hg
  rw [stA_set h k c hk] at h2; exact h2
theorem StAt.cell {w : World} {g : Nat} {h : Nat → UInt8} (hg : StAt w g (stA h)) (k : Nat) (hk : k < 16) : w.cell? ⟨g, k, none⟩ = some (.int .u8 ((h k).toNat : Int)) := (cell_of_row w g k _ _ _ hg).trans (stA_at h k hk)
set_option maxRecDepth 100000 in
set_option maxHeartbeats 1600000 in
theorem changed_impl (f : UInt8 → UInt8) (h : Nat → UInt8) (q : Nat) (w : World) (hq : BoxAt w q f) :
    Calls Tryz.prog 87 #[.agg (stA h), reader q] w fun e w' => e = .returned (.agg (stA (fun i => f (h i)))) ∧ Below w.heap.size w w' := by
  obtain ⟨n1, n2, n3, n4⟩ := two_new w (stA h) zero16 48 48
  have hsA := stA_info h
  have HQ : Hid (∀ W, Below w.heap.size w W → BoxAt W q f) := Lib.hid (fun W hW => hq.below hW hq.lt)
  have IX := fun k hk W => Lib.hid (index_st h k hk W)
  obtain ⟨A, hA⟩ : ∃ A, stA h = A := ⟨_, rfl⟩
  rw [hA] at n1 n2 n3 n4 hsA IX ⊢
  have HA := Lib.hid hA
  clear hA hq
  unfold reader
  go_enter Tryz.func87, Tryz.ntmps87
  unfold zero16 at n1 n2 n3 n4
  go_wp2_with (refine wpList_load_row rfl 48 _ rfl w.heap.size rfl 48 A (0, 0) _ n1 Tryz.underlying48 rfl hsA ?_)
  obtain ⟨W, hW⟩ : ∃ W, (w.alloc (.cells A 48)).alloc (.cells #[.int .u8 0, .int .u8 0, .int .u8 0, .int .u8 0, .int .u8 0, .int .u8 0, .int .u8 0, .int .u8 0, .int .u8 0, .int .u8 0, .int .u8 0, .int .u8 0, .int .u8 0, .int .u8 0, .int .u8 0, .int .u8 0] 48) = W := ⟨_, rfl⟩
  rw [hW] at n1 n2 n3 n4 ⊢
  have N1 : StAt W w.heap.size (stA (chTo f h 0)) := by rw [chTo_0, HA.out]; exact n1
  have N2 : StAt W (w.heap.size + 1) zero16 := n2
  clear n1 n2 n4 hW hsA
  go_loopw [8] (fun v wr => ∃ k : Nat, k ≤ 16 ∧ v = .int .i64 k ∧ StAt wr w.heap.size (stA (chTo f h k)) ∧ StAt wr (w.heap.size + 1) zero16 ∧ Below w.heap.size w wr) (fun v _ => 16 - (intOf v).toNat)
  case atStart => exact ⟨0, by omega, rfl, N1, N2, n3⟩
  case round =>
    obtain ⟨k, hk, rfl, g1, g2, hbel⟩ := hrel
    by_cases hlt : k < 16
    · have hk1 : (k : Int) < 16 := by omega
      have hk0 : (0 : Int) ≤ (k : Int) := by omega
      have hix := (IX k hlt wr).out
      have HR := Lib.hid (reads f (h k) wr q (HQ.out wr hbel))
      have hz := g1.cell k hlt
      have hfz := frozen_of_row wr _ k _ _ g1
      have G1 : Hid (StAt (wr.setCell ⟨w.heap.size, k, none⟩ (.int .u8 ((f (h k)).toNat : Int))) w.heap.size (stA (chTo f h (k + 1)))) := Lib.hid (by rw [← chTo_set f h k hlt]; exact g1.put k hlt _)
      have G2 := fun v => Lib.hid (g2.far (b := w.heap.size) k v (by omega))
      have HB := fun v => Lib.hid (hbel.setCell (p := ⟨w.heap.size, k, none⟩) (Nat.le_refl _) v)
      generalize h k = x at *
      generalize f x = y at *
      clear g1 g2 hbel N1 N2 n3 HA IX
      go_wp2_with fail
      refine HR.out.mono ?_; rintro e w1 ⟨rfl, rfl⟩
      go_wp2
      go_roundw
      case rel => exact ⟨k + 1, by omega, by go_num, G1.out, (G2 _).out, (HB _).out⟩
      case measure => simp [intOf]; omega
    · obtain rfl : k = 16 := by omega
      rw [chTo_16] at g1
      have hone := stA_one (fun i => f (h i))
      have hsi := stA_info (fun i => f (h i))
      have hz : zero16.size = (stA (fun i => f (h i))).size := by rw [stA_size]; rfl
      have hsr := setRow_heap wr _ _ (stA fun i => f (h i)) _ _ g2
      have hbs : Hid (Below w.heap.size w (wr.setRow (w.heap.size + 1) (stA fun i => f (h i)))) := Lib.hid (below_setRow hbel (by omega) _)
      generalize hR : stA (fun i => f (h i)) = R at *
      have HR := Lib.hid hR
      clear hR
      have G1 := Lib.hid g1
      have G2 := Lib.hid g2
      have HSR := Lib.hid hsr
      clear g1 g2 hsr N1 N2 n3 hbel IX HA HQ
      go_wp2_with (first
        | (refine wpList_load_row rfl 48 _ rfl w.heap.size rfl 48 R (0, 0) _ G1.out Tryz.underlying48 rfl hsi ?_)
        | (refine wpList_store_row rfl 48 _ _ rfl (w.heap.size + 1) R rfl rfl 48 zero16 G2.out hsi hz hone ?_))
      refine bodyPost_ret (v := .agg R) ?_ rfl ⟨by rw [HR.out], hbs.out⟩
      exact results_cell_row rfl _ _ (w.heap.size + 1) 48 R (0, 0) _ rfl HSR.out Tryz.underlying48 rfl hsi
end Go.Proofs.YtipcgdhjlpjcaaaGreatDoor
