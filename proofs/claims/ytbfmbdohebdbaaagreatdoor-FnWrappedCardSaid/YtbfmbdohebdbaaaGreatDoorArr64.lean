/-
  Arrays of words of 64 bits as cells: told by a function, partly by another one; planes of texts as cells.
-/
import Derived.Test.YtbfmbdohebdbaaaGreatDoorBits
import Derived.Test.YtbfmbdohebdbaaaGreatDoorPure
import Derived.Below
import Derived.Deep.WholeRow
import Derived.Laws.OwnMore
import Derived.Laws.CopyOwn
import Derived.Laws.BitsAllLaws
set_option linter.unusedVariables false
set_option linter.unusedSimpArgs false
namespace Go.Proofs.YtbfmbdohebdbaaaGreatDoor
open Go Go.RowKit

def cellQ (x : Nat) : Value := .int .u64 (x : Int)
/-- n words as an array's cells. -/
def arQ (h : Nat → Nat) (n : Nat) : Array Value := ((upTo h n).map cellQ).toArray
/-- .. of which the first k are told by h, the others by z. -/
def arToQ (h z : Nat → Nat) (n k : Nat) : Array Value := ((rowTo h z n k).map cellQ).toArray
theorem arQ_size (h : Nat → Nat) (n : Nat) : (arQ h n).size = n := by simp [arQ, upTo_length]
theorem arToQ_size (h z : Nat → Nat) (n k : Nat) : (arToQ h z n k).size = n := by simp [arToQ, rowTo_length]
theorem arQ_at (h : Nat → Nat) (n i : Nat) (hi : i < n) : (arQ h n)[i]? = some (.int .u64 (h i : Int)) := by
  unfold arQ
  rw [List.getElem?_toArray, List.getElem?_map, upTo_at h n i hi]; rfl
theorem arToQ_hi (h z : Nat → Nat) (n k i : Nat) (hi : i < n) (hk : k ≤ i) : (arToQ h z n k)[i]? = some (.int .u64 (z i : Int)) := by
  unfold arToQ
  rw [List.getElem?_toArray, List.getElem?_map, rowTo_hi h z n k i hi hk]; rfl
theorem cellQ_one (l : List Nat) : ∀ v ∈ l.map cellQ, v.oneCell' = true := by
  intro v hv
  obtain ⟨x, -, rfl⟩ := List.mem_map.1 hv
  rfl
theorem arQ_one (h : Nat → Nat) (n : Nat) : (arQ h n).all (·.oneCell') = true := by
  rw [Array.all_eq_true_iff_forall_mem]
  intro v hv
  exact cellQ_one (upTo h n) v (by simpa [arQ] using hv)
theorem arToQ_set (h z : Nat → Nat) (n k : Nat) : (arToQ h z n k).setIfInBounds k (.int .u64 (h k : Int)) = arToQ h z n (k + 1) := by
  unfold arToQ
  rw [List.setIfInBounds_toArray, ← rowTo_set]
  simp [List.map_set, cellQ]
theorem arToQ_all (h z : Nat → Nat) (n : Nat) : arToQ h z n n = arQ h n := by unfold arToQ arQ; rw [rowTo_all _ _ _ _ (Nat.le_refl _)]
theorem arToQ_0 (h z : Nat → Nat) (n : Nat) : arToQ h z n 0 = arQ z n := by unfold arToQ arQ; rw [rowTo_zero]
theorem arQ_congr {h g : Nat → Nat} {n : Nat} (e : ∀ i, i < n → h i = g i) : arQ h n = arQ g n := by unfold arQ; rw [upTo_congr _ _ _ e]
/-- A block holds these cells. -/
def RQ (w : World) (g : Nat) (t : TypeId) (cs : Array Value) : Prop := w.heap[g]? = some (.cells cs t (0, 0))
theorem RQ.lt {w : World} {g : Nat} {t : TypeId} {cs : Array Value} (h : RQ w g t cs) : g < w.heap.size := (Array.getElem?_eq_some_iff.1 h).1
theorem RQ.below {w w' : World} {B g : Nat} {t : TypeId} {cs : Array Value} (h : RQ w g t cs) (hb : Below B w w') (hg : g < B) : RQ w' g t cs := (hb.block g hg).trans h
theorem RQ.up {w w' : World} {g : Nat} {t : TypeId} {cs : Array Value} (h : RQ w g t cs) (hb : Below w.heap.size w w') : RQ w' g t cs := (hb.block g h.lt).trans h
theorem RQ.new (w : World) (t : TypeId) (cs : Array Value) : RQ (w.alloc (.cells cs t)) w.heap.size t cs := heap_alloc_new w _
theorem RQ.alloc {w : World} {g : Nat} {t : TypeId} {cs : Array Value} (h : RQ w g t cs) (o : Obj) : RQ (w.alloc o) g t cs := h.up ((Below.refl _ w).alloc (Nat.le_refl _) _)
theorem RQ.cell {w : World} {g j : Nat} {t : TypeId} {cs : Array Value} {v : Value} (h : RQ w g t cs) (hv : cs[j]? = some v) : w.cell? ⟨g, j, none⟩ = some v := (cell_of_row w g j _ _ _ h).trans hv
theorem RQ.fz {w : World} {g : Nat} {t : TypeId} {cs : Array Value} (h : RQ w g t cs) (j : Nat) : w.frozen? ⟨g, j, none⟩ = false := frozen_of_row w g j _ _ h
theorem RQ.set {w : World} {g k : Nat} {t : TypeId} {cs : Array Value} (h : RQ w g t cs) (v : Value) : RQ (w.setCell ⟨g, k, none⟩ v) g t (cs.setIfInBounds k v) := heap_setCell_same w g k _ _ v h
theorem RQ.far {w : World} {g b : Nat} {t : TypeId} {cs : Array Value} (h : RQ w g t cs) (k : Nat) (v : Value) (hb : g ≠ b) : RQ (w.setCell ⟨b, k, none⟩ v) g t cs := (heap_setCell_other w ⟨b, k, none⟩ g v hb).trans h
theorem RQ.setQ {w : World} {g k n : Nat} {t : TypeId} {h z : Nat → Nat} (hr : RQ w g t (arToQ h z n k)) {v : Value} (hv : v = .int .u64 (h k : Int)) : RQ (w.setCell ⟨g, k, none⟩ v) g t (arToQ h z n (k + 1)) := by
  subst hv
  have h2 := hr.set (k := k) (.int .u64 (h k : Int))
  rwa [arToQ_set] at h2
theorem RQ.row {w : World} {g : Nat} {t : TypeId} {old : Array Value} (h : RQ w g t old) (cs : Array Value) : RQ (w.setRow g cs) g t cs := setRow_heap w g old cs t _ h
/-- planes of a text as cells. -/
def pc (s : Nat → UInt8) : Array Value := arQ (plW s) 8
theorem pc_size (s : Nat → UInt8) : (pc s).size = 8 := arQ_size _ _
theorem pc_one (s : Nat → UInt8) : (pc s).all (·.oneCell') = true := arQ_one _ _
theorem pc_at (s : Nat → UInt8) (k : Nat) (hk : k < 8) : (pc s)[k]? = some (.int .u64 (plW s k : Int)) := arQ_at _ _ _ hk
theorem pc_ext {s t : Nat → UInt8} (h : ∀ i, i < 64 → s i = t i) : pc s = pc t := arQ_congr fun k _ => plW_ext h k
theorem plW_0 (k : Nat) : plW (fun _ => 0) k = 0 := by rw [plW_const, bt_0]; rfl
def zeroQ : Array Value := #[.int .u64 0, .int .u64 0, .int .u64 0, .int .u64 0, .int .u64 0, .int .u64 0, .int .u64 0, .int .u64 0]
theorem zeroQ_pc : zeroQ = pc (fun _ => 0) := by
  unfold pc
  rw [arQ_congr (g := fun _ => 0) fun k _ => plW_0 k]; rfl
theorem pc_inj {s t : Nat → UInt8} (h : pc s = pc t) (i : Nat) (hi : i < 64) : s i = t i := by
  refine plW_inj (fun k hk => ?_) i hi
  have e : (pc s)[k]? = (pc t)[k]? := by rw [h]
  rw [pc_at s k hk, pc_at t k hk] at e
  simp only [Option.some.injEq, Value.int.injEq, true_and] at e
  exact Int.ofNat_inj.1 e
/-- planes that are partly done. -/
def pcTo (s z : Nat → UInt8) (k : Nat) : Array Value := arToQ (plW s) (plW z) 8 k
theorem pcTo_0 (s z : Nat → UInt8) : pcTo s z 0 = pc z := arToQ_0 _ _ _
theorem pcTo_8 (s z : Nat → UInt8) : pcTo s z 8 = pc s := arToQ_all _ _ _
theorem pcTo_hi (s z : Nat → UInt8) (k i : Nat) (hi : i < 8) (hk : k ≤ i) : (pcTo s z k)[i]? = some (.int .u64 (plW z i : Int)) := arToQ_hi _ _ _ _ _ hi hk
theorem pcTo_size (s z : Nat → UInt8) (k : Nat) : (pcTo s z k).size = 8 := arToQ_size _ _ _ _
theorem RQ.setP {w : World} {g k : Nat} {t : TypeId} {s z : Nat → UInt8} (hr : RQ w g t (pcTo s z k)) {v : Value} (hv : v = .int .u64 (plW s k : Int)) : RQ (w.setCell ⟨g, k, none⟩ v) g t (pcTo s z (k + 1)) := RQ.setQ hr hv
/-! ### words of 64 bits -/
theorem q_xor (s t : Nat → UInt8) (k : Nat) : bits .xor .u64 (plW s k : Int) (plW t k : Int) = (plW (fun i => s i ^^^ t i) k : Int) := by
  rw [u64_xor_nat _ _ (plW_lt' s k) (plW_lt' t k), plW_x]
theorem q_and (s : Nat → UInt8) (m k : Nat) (hm : m < 18446744073709551616) : bits .and .u64 (plW s k : Int) (m : Int) = (plW (keepW m s) k : Int) := by
  rw [u64_and_nat _ _ (plW_lt' s k) hm, plW_and]
theorem wrapQ (x : Nat) (h : x < 18446744073709551616) : IntKind.u64.wrap (x : Int) = (x : Int) := by rw [IntKind.wrap_u64]; omega
theorem shlQ (x n : Nat) : IntKind.u64.wrap ((x : Int) * 2 ^ n) = ((x * 2 ^ n % 18446744073709551616 : Nat) : Int) := by
  rw [IntKind.wrap_u64, Int.natCast_emod, Int.natCast_mul, Int.natCast_pow]; rfl
theorem shrQ (x n : Nat) : (x : Int).fdiv (2 ^ n) = ((x / 2 ^ n : Nat) : Int) := by
  have e : ((2 : Int) ^ n) = ((2 ^ n : Nat) : Int) := by rw [Int.natCast_pow]; rfl
  rw [e, Int.fdiv_eq_ediv_of_nonneg _ (Int.natCast_nonneg _), Int.natCast_ediv]
theorem tuQ (x run k m : Nat) (hx : x < 18446744073709551616) (hm : m < 18446744073709551616) :
    bits .xor .u64 (bits .and .u64 ((x / 2 ^ k : Nat) : Int) (m : Int)) (bits .andNot .u64 ((x * 2 ^ (run - k) % 18446744073709551616 : Nat) : Int) (m : Int)) = (tuW x run k m : Int) := by
  have h1 : x / 2 ^ k < 18446744073709551616 := Nat.lt_of_le_of_lt (Nat.div_le_self _ _) hx
  have h2 : x * 2 ^ (run - k) % 18446744073709551616 < 18446744073709551616 := Nat.mod_lt _ (by omega)
  rw [u64_and_nat _ _ h1 hm, u64_andNot_nat _ _ h2 hm, u64_xor_nat _ _ (Nat.lt_of_le_of_lt Nat.and_le_left h1) (Nat.lt_of_le_of_lt Nat.and_le_left h2)]
  rfl
end Go.Proofs.YtbfmbdohebdbaaaGreatDoor
