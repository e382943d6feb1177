/-
  Contracts and facts that the laws of this seat use: HeapMath, HpRow, HpI, HpJ.
-/
import Derived.Test.YtbfmbdohebdbaaaGreatDoorPure
import Derived.Test.YtbfmbdohebdbaaaGreatDoorStoreAt
import Derived.Test.YtbfmbdohebdbaaaGreatDoorArr32
import Derived.Lib.AppendStr
import Derived.Deep.MidRow
import Derived.Great.BuildSlice
import Derived.Deep.AppendLies
set_option linter.unusedVariables false
set_option linter.unusedSimpArgs false
namespace Go.Proofs.YtbfmbdohebdbaaaGreatDoor

/-- two elements changed round. -/
def sw (f : Nat → Nat) (i j k : Nat) : Nat := if k = i then f j else if k = j then f i else f k
/-- the first m hold the numbers from k to n, each once. -/
structure Bag (f : Nat → Nat) (m k n : Nat) : Prop where
  rng : ∀ i, i < m → k ≤ f i ∧ f i < n
  inj : ∀ i j, i < m → j < m → f i = f j → i = j
  sur : ∀ v, k ≤ v → v < n → ∃ i, i < m ∧ f i = v
def Heap (f : Nat → Nat) (m : Nat) : Prop := ∀ i, 0 < i → i < m → f ((i - 1) / 2) ≤ f i
def HeapBut (f : Nat → Nat) (m i : Nat) : Prop :=
  (∀ j, 0 < j → j < m → (j - 1) / 2 ≠ i → f ((j - 1) / 2) ≤ f j) ∧ (∀ j, 0 < j → j < m → (j - 1) / 2 = i → 0 < i → f ((i - 1) / 2) ≤ f j)

theorem sw_l (f : Nat → Nat) (i j : Nat) : sw f i j i = f j := by simp [sw]
theorem sw_r (f : Nat → Nat) (i j : Nat) : sw f i j j = f i := by
  unfold sw; split
  · rename_i h; rw [h]
  · simp
theorem sw_o (f : Nat → Nat) (i j k : Nat) (h1 : k ≠ i) (h2 : k ≠ j) : sw f i j k = f k := by simp [sw, h1, h2]
theorem Bag.swap {f : Nat → Nat} {m k n : Nat} (h : Bag f m k n) (i j : Nat) (hi : i < m) (hj : j < m) : Bag (sw f i j) m k n := by
  refine ⟨fun q hq => ?_, fun a b ha hb e => ?_, fun v hk hv => ?_⟩
  · unfold sw; split
    · exact h.rng _ hj
    · split
      · exact h.rng _ hi
      · exact h.rng _ hq
  · unfold sw at e
    split at e <;> rename_i ha1
    · split at e <;> rename_i hb1
      · omega
      · split at e <;> rename_i hb2
        · have := h.inj _ _ hj hi e; omega
        · have := h.inj _ _ hj hb e; omega
    · split at e <;> rename_i ha2
      · split at e <;> rename_i hb1
        · have := h.inj _ _ hi hj e; omega
        · split at e <;> rename_i hb2
          · omega
          · have := h.inj _ _ hi hb e; omega
      · split at e <;> rename_i hb1
        · have := h.inj _ _ ha hj e; omega
        · split at e <;> rename_i hb2
          · have := h.inj _ _ ha hi e; omega
          · exact h.inj _ _ ha hb e
  · obtain ⟨q, hq, rfl⟩ := h.sur v hk hv
    by_cases h1 : q = i
    · subst h1; exact ⟨j, hj, sw_r _ _ _⟩
    · by_cases h2 : q = j
      · subst h2; exact ⟨i, hi, sw_l _ _ _⟩
      · exact ⟨q, hq, sw_o _ _ _ _ h1 h2⟩
theorem Heap.root {f : Nat → Nat} {m : Nat} (h : Heap f m) (i : Nat) (hi : i < m) : f 0 ≤ f i := by
  induction i using Nat.strongRecOn with
  | ind i ih =>
    by_cases h0 : i = 0
    · subst h0; exact Nat.le_refl _
    · exact Nat.le_trans (ih ((i - 1) / 2) (by omega) (by omega)) (h i (by omega) hi)
theorem Bag.first {f : Nat → Nat} {m k n : Nat} (h : Bag f m k n) (hh : Heap f m) (hk : k < n) : f 0 = k := by
  obtain ⟨i, hi, e⟩ := h.sur k (Nat.le_refl _) hk
  have h1 := hh.root i hi
  have h2 := (h.rng 0 (by omega)).1
  omega
/-- the first and the last changed round: the last is out. -/
theorem Bag.cut {f : Nat → Nat} {m k n : Nat} (h : Bag f (m + 1) k n) (hh : Heap f (m + 1)) (hk : k < n) : Bag (sw f 0 m) m (k + 1) n ∧ HeapBut (sw f 0 m) m 0 ∧ sw f 0 m m = k := by
  have h0 := h.first hh hk
  have hb := h.swap 0 m (by omega) (by omega)
  have hm : sw f 0 m m = k := by rw [sw_r, h0]
  refine ⟨⟨fun i hi => ?_, fun i j hi hj => hb.inj i j (by omega) (by omega), fun v hv1 hv2 => ?_⟩, ⟨fun j h1 h2 h3 => ?_, fun j h1 h2 h3 h4 => absurd h4 (by omega)⟩, hm⟩
  · have h1 := hb.rng i (by omega)
    have h2 : sw f 0 m i ≠ k := fun e => by have := hb.inj i m (by omega) (by omega) (e.trans hm.symm); omega
    omega
  · obtain ⟨i, hi, e⟩ := hb.sur v (by omega) hv2
    refine ⟨i, ?_, e⟩
    by_cases hm2 : i = m
    · subst hm2; omega
    · omega
  · rw [sw_o f 0 m _ h3 (by omega), sw_o f 0 m j (by omega) (by omega)]
    exact hh j h1 (by omega)
/-- one step down. -/
theorem HeapBut.step {f : Nat → Nat} {m i c : Nat} (h : HeapBut f m i) (hc : c = 2 * i + 1 ∨ c = 2 * i + 2) (hm : c < m) (ho : ∀ d, d = 2 * i + 1 ∨ d = 2 * i + 2 → d < m → f c ≤ f d) (hl : f c ≤ f i) : HeapBut (sw f i c) m c := by
  refine ⟨fun j h1 h2 h3 => ?_, fun j h1 h2 h3 h4 => ?_⟩
  · by_cases hp : (j - 1) / 2 = i
    · rw [hp, sw_l]
      by_cases hj : j = c
      · subst hj; rw [sw_r]; exact hl
      · rw [sw_o f i c j (by omega) hj]; exact ho j (by omega) h2
    · rw [sw_o f i c _ hp h3]
      by_cases hj : j = i
      · subst hj; rw [sw_l]; exact h.2 c (by omega) hm (by omega) h1
      · rw [sw_o f i c j hj (by omega)]; exact h.1 j h1 h2 hp
  · have e : (c - 1) / 2 = i := by omega
    rw [e, sw_l, sw_o f i c j (by omega) (by omega), ← h3]
    exact h.1 j h1 h2 (by omega)
theorem HeapBut.stop {f : Nat → Nat} {m i : Nat} (h : HeapBut f m i) (hc : ∀ d, d = 2 * i + 1 ∨ d = 2 * i + 2 → d < m → f i ≤ f d) : Heap f m := by
  intro j h1 h2
  by_cases hp : (j - 1) / 2 = i
  · rw [hp]; exact hc j (by omega) h2
  · exact h.1 j h1 h2 hp
/-- one more behind all others. -/
theorem Bag.push {f : Nat → Nat} {m : Nat} (h : Bag f m 0 m) (hh : Heap f m) : Bag (fun i => if i = m then m else f i) (m + 1) 0 (m + 1) ∧ Heap (fun i => if i = m then m else f i) (m + 1) := by
  refine ⟨⟨fun i hi => ?_, fun i j hi hj e => ?_, fun v h1 h2 => ?_⟩, fun i h1 h2 => ?_⟩
  · by_cases hm : i = m
    · simp only [hm, if_true]; omega
    · simp only [hm, if_false]; have := h.rng i (by omega); omega
  · by_cases hi2 : i = m <;> by_cases hj2 : j = m <;> simp only [hi2, hj2, if_true, if_false] at e
    · omega
    · have := h.rng j (by omega); omega
    · have := h.rng i (by omega); omega
    · exact h.inj i j (by omega) (by omega) e
  · by_cases hv : v = m
    · exact ⟨m, by omega, by simp [hv]⟩
    · obtain ⟨i, hi, e⟩ := h.sur v h1 (by omega)
      exact ⟨i, by omega, by simp only [show i ≠ m by omega, if_false]; exact e⟩
  · simp only [show (i - 1) / 2 ≠ m by omega, if_false]
    by_cases hm : i = m
    · simp only [hm, if_true]
      have := h.rng ((m - 1) / 2) (by omega); omega
    · simp only [hm, if_false]; exact hh i h1 (by omega)
end Go.Proofs.YtbfmbdohebdbaaaGreatDoor
set_option linter.unusedVariables false
set_option linter.unusedSimpArgs false
namespace Go.Proofs.YtbfmbdohebdbaaaGreatDoor
open Go Go.RowKit

/-- the cells of a waiting block. -/
def wbC (b : Nat → ByteArray) (v : Nat) : List Value := .int .i64 (v : Int) :: Lib.strCells (b v)
theorem wbC_len (b : Nat → ByteArray) (hb : ∀ v, (b v).size = 16) (v : Nat) : (wbC b v).length = 17 := by
  show (Lib.strCells (b v)).length + 1 = 17
  rw [Lib.strCells_length, hb]
theorem wbC_one (b : Nat → ByteArray) (v : Nat) : ∀ u ∈ wbC b v, u.oneCell' = true := by
  intro u hu
  rcases List.mem_cons.1 hu with rfl | hu
  · rfl
  · exact Lib.strCells_oneCell _ u hu
def HpIs (cur : Array Value) (b : Nat → ByteArray) (f : Nat → Nat) (m : Nat) : Prop := ∀ i, i < m → ∀ c, c < 17 → cur[17 * i + c]? = (wbC b (f i))[c]?
theorem HpIs.fewer {cur : Array Value} {b : Nat → ByteArray} {f : Nat → Nat} {m k : Nat} (h : HpIs cur b f m) (hk : k ≤ m) : HpIs cur b f k := fun i hi c hc => h i (by omega) c hc
theorem HpIs.place {cur : Array Value} {b : Nat → ByteArray} {f : Nat → Nat} {m i : Nat} (h : HpIs cur b f m) (hi : i < m) : cur[17 * i]? = some (.int .i64 (f i : Int)) := h i hi 0 (by omega)
theorem HpIs.swap {cur : Array Value} {b : Nat → ByteArray} {f : Nat → Nat} {m : Nat} (hb : ∀ v, (b v).size = 16) (h : HpIs cur b f m) (i j : Nat) (hi : i < m) (hj : j < m) (hs : 17 * m ≤ cur.size) :
    HpIs (putAt (putAt cur (17 * i) (wbC b (f j)).toArray) (17 * j) (wbC b (f i)).toArray) b (sw f i j) m := by
  have l1 : (wbC b (f j)).toArray.size = 17 := by rw [List.size_toArray, wbC_len b hb]
  have l2 : (wbC b (f i)).toArray.size = 17 := by rw [List.size_toArray, wbC_len b hb]
  have s1 : (putAt cur (17 * i) (wbC b (f j)).toArray).size = cur.size := putAt_size _ _ _ (by rw [l1]; omega)
  intro a ha c hc
  rw [putAt_get _ _ _ (by rw [s1, l2]; omega), l2]
  by_cases h1 : a = j
  · subst h1
    rw [if_neg (by omega), if_pos (by omega), sw_r, Nat.add_sub_cancel_left, List.getElem?_toArray]
  · have e : (if 17 * a + c < 17 * j then (putAt cur (17 * i) (wbC b (f j)).toArray)[17 * a + c]? else if 17 * a + c < 17 * j + 17 then (wbC b (f i)).toArray[17 * a + c - 17 * j]? else (putAt cur (17 * i) (wbC b (f j)).toArray)[17 * a + c]?) = (putAt cur (17 * i) (wbC b (f j)).toArray)[17 * a + c]? := by
      by_cases h2 : 17 * a + c < 17 * j
      · rw [if_pos h2]
      · rw [if_neg h2, if_neg (by omega)]
    rw [e, putAt_get _ _ _ (by rw [l1]; omega), l1]
    by_cases h2 : a = i
    · subst h2
      rw [if_neg (by omega), if_pos (by omega), sw_l, Nat.add_sub_cancel_left, List.getElem?_toArray]
    · have e2 : (if 17 * a + c < 17 * i then cur[17 * a + c]? else if 17 * a + c < 17 * i + 17 then (wbC b (f j)).toArray[17 * a + c - 17 * i]? else cur[17 * a + c]?) = cur[17 * a + c]? := by
        by_cases h3 : 17 * a + c < 17 * i
        · rw [if_pos h3]
        · rw [if_neg h3, if_neg (by omega)]
      rw [e2, sw_o f i j a h2 h1]
      exact h a ha c hc
theorem HpIs.range {w : World} {g : Nat} {t : TypeId} {cur : Array Value} {b : Nat → ByteArray} {f : Nat → Nat} {m i : Nat} (hr : RAt w g t cur) (h : HpIs cur b f m) (hb : ∀ v, (b v).size = 16) (hi : i < m) :
    w.rangeAt g (17 * i) (wbC b (f i)) := fun j v hv => by
  have hj : j < 17 := by have := (List.getElem?_eq_some_iff.1 hv).1; rwa [wbC_len b hb] at this
  have e := h i hi j hj
  rw [hv] at e
  exact hr.cell e
/-- what a step leaves as it was: all but two blocks. -/
structure Off (p g : Nat) (w w' : World) : Prop where
  os : w'.os = w.os
  tape : w'.tape = w.tape
  output : w'.output = w.output
  size : w.heap.size ≤ w'.heap.size
  block : ∀ k, k < w.heap.size → k ≠ p → k ≠ g → w'.heap[k]? = w.heap[k]?
theorem Off.refl (p g : Nat) (w : World) : Off p g w w := ⟨rfl, rfl, rfl, Nat.le_refl _, fun _ _ _ _ => rfl⟩
theorem Off.trans {p g : Nat} {a b c : World} (h : Off p g a b) (k : Off p g b c) : Off p g a c :=
  ⟨k.os.trans h.os, k.tape.trans h.tape, k.output.trans h.output, Nat.le_trans h.size k.size, fun i hi h1 h2 => (k.block i (Nat.lt_of_lt_of_le hi h.size) h1 h2).trans (h.block i hi h1 h2)⟩
theorem Off.of_below {p g : Nat} {a b : World} (h : Below a.heap.size a b) : Off p g a b := ⟨h.os, h.tape, h.output, h.size, fun k hk _ _ => h.block k hk⟩
theorem Off.of_grown {p g : Nat} {a b : World} (h : a.grownBy b (some g)) : Off p g a b := ⟨h.os, h.tape, h.output, h.size, fun k hk _ h2 => h.block k hk (fun e => h2 (by cases e; rfl))⟩
theorem Off.drew {p g : Nat} {a b : World} (h : Off p g a b) : Off p g a b.drew := ⟨h.os, h.tape, h.output, h.size, h.block⟩
theorem Off.setCell {p g : Nat} {a b : World} (h : Off p g a b) (j : Nat) (v : Value) : Off p g a (b.setCell ⟨p, j, none⟩ v) :=
  h.trans ⟨rfl, rfl, rfl, by simp [World.setCell], fun k hk h1 _ => heap_setCell_other b ⟨p, j, none⟩ k v h1⟩
theorem Off.below {p g B : Nat} {a b : World} (h : Off p g a b) (h1 : B ≤ p) (h2 : B ≤ g) (h3 : B ≤ a.heap.size) : Below B a b := ⟨h.os, h.tape, h.output, h.size, fun k hk => h.block k (by omega) (by omega) (by omega)⟩
theorem own_off {p g : Nat} {w w' : World} {base : Nat} {e : TypeId} {size n : Nat} {v : Value} {xs : List Value} (h : w.ownsRow base e size v n xs) (ho : Off p g w w') (h1 : v.ownBlock ≠ some p) (h2 : v.ownBlock ≠ some g) : w'.ownsRow base e size v n xs := by
  refine ⟨h.1, ?_⟩
  rcases h.2 with hn | ⟨k, cap, cur, rfl, hb, hgg, rest⟩
  · exact .inl hn
  · refine .inr ⟨k, cap, cur, rfl, hb, ?_, rest⟩
    rw [ho.block k (Array.getElem?_eq_some_iff.1 hgg).1 (fun e => h1 (by rw [Value.ownBlock, e])) (fun e => h2 (by rw [Value.ownBlock, e]))]
    exact hgg
theorem RAt.off {w w' : World} {p g k : Nat} {t : TypeId} {cs : Array Value} (h : RAt w k t cs) (ho : Off p g w w') (h1 : k ≠ p) (h2 : k ≠ g) : RAt w' k t cs := (ho.block k h.lt h1 h2).trans h
/-- a heap of m blocks at p, its row at g. -/
structure WQ (w : World) (p g c m : Nat) (b : Nat → ByteArray) (f : Nat → Nat) : Prop where
  ptr : RAt w p 143 #[.slice (some ⟨g, 0, none⟩) m c]
  row : ∃ cur, RAt w g 149 cur ∧ cur.size = 17 * c ∧ HpIs cur b f m
  le : m ≤ c
  cm : c ≤ 9223372036854775807
  ne : p ≠ g
theorem WQ.cell {w : World} {p g c m : Nat} {b : Nat → ByteArray} {f : Nat → Nat} (h : WQ w p g c m b f) : w.cell? ⟨p, 0, none⟩ = some (.slice (some ⟨g, 0, none⟩) m c) := h.ptr.cell rfl
theorem WQ.up {w w' : World} {p g c m : Nat} {b : Nat → ByteArray} {f : Nat → Nat} (h : WQ w p g c m b f) (hb : Below w.heap.size w w') : WQ w' p g c m b f :=
  ⟨h.ptr.up hb, let ⟨cur, h1, h2⟩ := h.row; ⟨cur, h1.up hb, h2⟩, h.le, h.cm, h.ne⟩
theorem WQ.drew {w : World} {p g c m : Nat} {b : Nat → ByteArray} {f : Nat → Nat} (h : WQ w p g c m b f) : WQ w.drew p g c m b f := ⟨h.ptr, h.row, h.le, h.cm, h.ne⟩
end Go.Proofs.YtbfmbdohebdbaaaGreatDoor
set_option linter.unusedVariables false
set_option linter.unusedSimpArgs false
namespace Go.Proofs.YtbfmbdohebdbaaaGreatDoor
open Go Go.RowKit
attribute [local go_sem ↓] Go.wp_at_zero Go.wp_at_succ

set_option maxRecDepth 100000 in
theorem wLen_impl (A : Option Addr) (m c : Nat) (w : World) :
    Calls Tryz.prog 62 #[.slice A m c] w fun e w' => e = .returned (.int .i64 (m : Int)) ∧ w = w' := by
  go_enter Tryz.func62, Tryz.ntmps62
  go_wp2
  go_ret
  exact ⟨rfl, rfl⟩
set_option maxRecDepth 100000 in
theorem wLess_impl (g m c i j : Nat) (x y : Int) (hi : i < m) (hj : j < m) (hmc : m ≤ c) (w : World) (h1 : w.cell? ⟨g, 17 * i, none⟩ = some (.int .i64 x)) (h2 : w.cell? ⟨g, 17 * j, none⟩ = some (.int .i64 y)) :
    Calls Tryz.prog 241 #[.slice (some ⟨g, 0, none⟩) m c, .int .i64 (i : Int), .int .i64 (j : Int)] w fun e w' => e = .returned (.bool (decide (x < y))) ∧ Below w.heap.size w w' := by
  have c1 : w.cell? ⟨g, i * 17, none⟩ = some (.int .i64 x) := by rw [Nat.mul_comm]; exact h1
  have c2 : w.cell? ⟨g, j * 17, none⟩ = some (.int .i64 y) := by rw [Nat.mul_comm]; exact h2
  have i1 : (i : Int) < (m : Int) := by omega
  have j1 : (j : Int) < (m : Int) := by omega
  have i0 : (0 : Int) ≤ (i : Int) := by omega
  have j0 : (0 : Int) ≤ (j : Int) := by omega
  have HB : Hid (Below w.heap.size w w.drew) := Lib.hid (Below.refl w.heap.size w).drew
  clear h1 h2 hi hj hmc
  go_enter Tryz.func241, Tryz.ntmps241
  go_wp2
  go_region
  go_wp2
  go_ret
  exact ⟨rfl, HB.out⟩
theorem wb_len (b : Nat → ByteArray) (hb : ∀ v, (b v).size = 16) (v : Nat) : (Tryz.prog.info? 149).map (·.size) = some (wbC b v).length := by rw [wbC_len b hb]; kernel_rfl
theorem wb_size (b : Nat → ByteArray) (hb : ∀ v, (b v).size = 16) (v : Nat) : (Tryz.prog.info? 149).map (·.size) = some (wbC b v).toArray.size := by rw [List.size_toArray]; exact wb_len b hb v
theorem setRow_szH (w : World) (g : Nat) (cs : Array Value) : (w.setRow g cs).heap.size = w.heap.size := by simp [World.setRow]
theorem Off.setRow {p g : Nat} {a b : World} (h : Off p g a b) (cs : Array Value) : Off p g a (b.setRow g cs) :=
  h.trans ⟨rfl, rfl, rfl, by rw [setRow_szH]; exact Nat.le_refl _, fun k hk _ h2 => setRow_other b g k cs h2⟩
set_option maxRecDepth 100000 in
set_option maxHeartbeats 6400000 in
theorem wSwap_impl (b : Nat → ByteArray) (hb : ∀ v, (b v).size = 16) (f : Nat → Nat) (p g c m i j : Nat) (hi : i < m) (hj : j < m) (hm : m ≤ 65536) (w : World) (hw : WQ w p g c m b f) :
    Calls Tryz.prog 244 #[.slice (some ⟨g, 0, none⟩) m c, .int .i64 (i : Int), .int .i64 (j : Int)] w fun e w' => e = .returned (.tuple #[]) ∧ WQ w' p g c m b (sw f i j) ∧ Off p g w w' := by
  obtain ⟨hp, ⟨cur1, g1, hcs, hsw⟩, hmc, hcm, hne⟩ := hw
  have hsz1 : 17 * m ≤ cur1.size := by omega
  have RA := Lib.hid (hsw.range g1 hb hj)
  have RB := Lib.hid (hsw.range g1 hb hi)
  have hNEW := hsw.swap hb i j hi hj hsz1
  have hlA := wb_len b hb (f j)
  have hlB := wb_len b hb (f i)
  have hiA := wb_size b hb (f j)
  have hiB := wb_size b hb (f i)
  have zA : (wbC b (f j)).toArray.size = 17 := by rw [List.size_toArray, wbC_len b hb]
  have zB : (wbC b (f i)).toArray.size = 17 := by rw [List.size_toArray, wbC_len b hb]
  have oneA : ∀ v ∈ (wbC b (f j)).toArray.toList, v.oneCell' = true := fun v hv => wbC_one b _ v (by simpa using hv)
  have oneB : ∀ v ∈ (wbC b (f i)).toArray.toList, v.oneCell' = true := fun v hv => wbC_one b _ v (by simpa using hv)
  have fitA : 17 * i + (wbC b (f j)).toArray.size ≤ cur1.size := by rw [zA]; omega
  have s1 : (putAt cur1 (17 * i) (wbC b (f j)).toArray).size = cur1.size := putAt_size _ _ _ fitA
  have fitB : 17 * j + (wbC b (f i)).toArray.size ≤ (putAt cur1 (17 * i) (wbC b (f j)).toArray).size := by rw [s1, zB]; omega
  have s2 := putAt_size _ _ _ fitB
  have hsz2 : (putAt (putAt cur1 (17 * i) (wbC b (f j)).toArray) (17 * j) (wbC b (f i)).toArray).size = 17 * c := by rw [s2, s1, hcs]
  generalize wbC b (f j) = LA at *
  generalize wbC b (f i) = LB at *
  have G1 : Hid (RAt w.drew g 149 cur1) := Lib.hid g1
  have R1 := Lib.hid (G1.out.row (putAt cur1 (17 * i) LA.toArray))
  have R2 := Lib.hid (R1.out.row (putAt (putAt cur1 (17 * i) LA.toArray) (17 * j) LB.toArray))
  have GO := Lib.hid (((Off.refl p g w).drew.setRow (putAt cur1 (17 * i) LA.toArray)).setRow (putAt (putAt cur1 (17 * i) LA.toArray) (17 * j) LB.toArray))
  have HP := Lib.hid ((setRow_other _ g p (putAt (putAt cur1 (17 * i) LA.toArray) (17 * j) LB.toArray) hne).trans ((setRow_other w.drew g p (putAt cur1 (17 * i) LA.toArray) hne).trans hp))
  have HNEW := Lib.hid hNEW
  have HS2 := Lib.hid hsz2
  have OA := Lib.hid oneA
  have OB := Lib.hid oneB
  have FA := Lib.hid fitA
  have FB := Lib.hid fitB
  have HC := Lib.hid (And.intro hmc (And.intro hcm hne))
  have hjm : (j : Int) < (m : Int) := by omega
  have him : (i : Int) < (m : Int) := by omega
  have hi0 : (0 : Int) ≤ (i : Int) := by omega
  have hj0 : (0 : Int) ≤ (j : Int) := by omega
  have ek : ∀ q : Nat, q * 17 = 17 * q := fun q => Nat.mul_comm _ _
  clear g1 hsw hNEW oneA oneB fitA fitB hsz2 s1 s2 zA zB hsz1 hcs hp hne hmc hcm hi hj hm
  go_enter Tryz.func244, Tryz.ntmps244
  go_wp2
  refine wp_region_held_drew (S := fun _ => True) (by kernel_rfl) trivial (fun hS => ?_)
  refine tk 0 (v := ?_) ?_ trivial ?_
  rotate_left
  · intro w hSw
    go_simp
    first | done | with_reducible rfl
  try simp only [lay]
  refine tk 1 (v := ?_) ?_ trivial ?_
  rotate_left
  · intro w hSw
    go_simp
    first | done | with_reducible rfl
  try simp only [lay]
  refine tk 2 (v := ?_) ?_ trivial ?_
  rotate_left
  · intro w hSw
    go_simp
    first | done | with_reducible rfl
  try simp only [lay]
  refine tk 3 (v := ?_) ?_ trivial ?_
  rotate_left
  · intro w hSw
    go_simp
    first | done | with_reducible rfl
  try simp only [lay]
  refine tk 4 (v := ?_) ?_ trivial ?_
  rotate_left
  · intro w hSw
    go_simp
    first | done | with_reducible rfl
  try simp only [lay]
  refine tk 5 (v := ?_) ?_ trivial ?_
  rotate_left
  · intro w hSw
    go_simp
    first | done | with_reducible rfl
  try simp only [lay]
  refine tk 6 (v := ?_) ?_ trivial ?_
  rotate_left
  · intro w hSw
    go_simp
    first | done | with_reducible rfl
  try simp only [lay]
  refine tk 8 (v := ?_) ?_ trivial ?_
  rotate_left
  · intro w hSw
    go_simp
    first | done | with_reducible rfl
  try simp only [lay]
  refine tk 9 (v := ?_) ?_ trivial ?_
  rotate_left
  · intro w hSw
    go_simp
    first | done | with_reducible rfl
  try simp only [lay]
  refine tk 10 (v := ?_) ?_ trivial ?_
  rotate_left
  · intro w hSw
    go_simp
    first | done | with_reducible rfl
  try simp only [lay]
  refine wpAnyH_ready (rs := [7, 11]) (by kernel_rfl) (by simp) ?_
  refine AllReadyH.cons rfl (fun K hK => ?_) (AllReadyH.cons rfl (fun K hK => ?_) (AllReadyH.nil))
  · refine Eq.mpr (if_pos (by rfl)) ?_
    refine wp_load_mid 149 _ rfl g _ rfl LA _ (by first | exact RA.out | (rw [ek]; exact RA.out)) Tryz.underlying149 rfl hlA ?_
    refine hK.out _ _ trivial (fun _ => ?_)
    clear hK K
    try simp only [lay]
    refine wpAnyH_ready (rs := [11]) (by kernel_rfl) (by simp) ?_
    refine AllReadyH.cons rfl (fun K hK => ?_) (AllReadyH.nil)
    refine Eq.mpr (if_pos (by rfl)) ?_
    refine wp_load_mid 149 _ rfl g _ rfl LB _ (by first | exact RB.out | (rw [ek]; exact RB.out)) Tryz.underlying149 rfl hlB ?_
    refine hK.out _ _ trivial (fun _ => ?_)
    clear hK K
    try simp only [lay]
    refine tk 12 (v := ?_) ?_ trivial ?_
    rotate_left
    · intro w hSw
      go_simp
      first | done | with_reducible rfl
    try simp only [lay]
    refine wpAnyH_ready (rs := [13]) (by kernel_rfl) (by simp) ?_
    refine AllReadyH.cons rfl (fun K hK => ?_) AllReadyH.nil
    refine Eq.mpr (if_pos (by rfl)) ?_
    refine wp_store_at 149 _ _ rfl g (17 * i) LA.toArray (by first | rfl | (simp [ek]; done)) rfl 149 cur1 G1.out FA.out OA.out hiA ?_
    refine hK.out _ _ trivial (fun _ => ?_)
    clear hK K
    try simp only [lay]
    refine tk 14 (v := ?_) ?_ trivial ?_
    rotate_left
    · intro w hSw
      go_simp
      first | done | with_reducible rfl
    try simp only [lay]
    refine wpAnyH_ready (rs := [15]) (by kernel_rfl) (by simp) ?_
    refine AllReadyH.cons rfl (fun K hK => ?_) AllReadyH.nil
    refine Eq.mpr (if_pos (by rfl)) ?_
    refine wp_store_at 149 _ _ rfl g (17 * j) LB.toArray (by first | rfl | (simp [ek]; done)) rfl 149 _ R1.out FB.out OB.out hiB ?_
    refine hK.out _ _ trivial (fun _ => ?_)
    clear hK K
    try simp only [lay]
    refine wpAnyH_done (by kernel_rfl) ?_ _
    clear hS
    go_wp2
    go_end0
    exact ⟨rfl, ⟨HP.out, ⟨_, R2.out, HS2.out, HNEW.out⟩, HC.out.1, HC.out.2.1, HC.out.2.2⟩, GO.out⟩
  · refine Eq.mpr (if_pos (by rfl)) ?_
    refine wp_load_mid 149 _ rfl g _ rfl LB _ (by first | exact RB.out | (rw [ek]; exact RB.out)) Tryz.underlying149 rfl hlB ?_
    refine hK.out _ _ trivial (fun _ => ?_)
    clear hK K
    try simp only [lay]
    refine wpAnyH_ready (rs := [7]) (by kernel_rfl) (by simp) ?_
    refine AllReadyH.cons rfl (fun K hK => ?_) (AllReadyH.nil)
    refine Eq.mpr (if_pos (by rfl)) ?_
    refine wp_load_mid 149 _ rfl g _ rfl LA _ (by first | exact RA.out | (rw [ek]; exact RA.out)) Tryz.underlying149 rfl hlA ?_
    refine hK.out _ _ trivial (fun _ => ?_)
    clear hK K
    try simp only [lay]
    refine tk 12 (v := ?_) ?_ trivial ?_
    rotate_left
    · intro w hSw
      go_simp
      first | done | with_reducible rfl
    try simp only [lay]
    refine wpAnyH_ready (rs := [13]) (by kernel_rfl) (by simp) ?_
    refine AllReadyH.cons rfl (fun K hK => ?_) AllReadyH.nil
    refine Eq.mpr (if_pos (by rfl)) ?_
    refine wp_store_at 149 _ _ rfl g (17 * i) LA.toArray (by first | rfl | (simp [ek]; done)) rfl 149 cur1 G1.out FA.out OA.out hiA ?_
    refine hK.out _ _ trivial (fun _ => ?_)
    clear hK K
    try simp only [lay]
    refine tk 14 (v := ?_) ?_ trivial ?_
    rotate_left
    · intro w hSw
      go_simp
      first | done | with_reducible rfl
    try simp only [lay]
    refine wpAnyH_ready (rs := [15]) (by kernel_rfl) (by simp) ?_
    refine AllReadyH.cons rfl (fun K hK => ?_) AllReadyH.nil
    refine Eq.mpr (if_pos (by rfl)) ?_
    refine wp_store_at 149 _ _ rfl g (17 * j) LB.toArray (by first | rfl | (simp [ek]; done)) rfl 149 _ R1.out FB.out OB.out hiB ?_
    refine hK.out _ _ trivial (fun _ => ?_)
    clear hK K
    try simp only [lay]
    refine wpAnyH_done (by kernel_rfl) ?_ _
    clear hS
    go_wp2
    go_end0
    exact ⟨rfl, ⟨HP.out, ⟨_, R2.out, HS2.out, HNEW.out⟩, HC.out.1, HC.out.2.1, HC.out.2.2⟩, GO.out⟩
end Go.Proofs.YtbfmbdohebdbaaaGreatDoor
set_option linter.unusedVariables false
set_option linter.unusedSimpArgs false
namespace Go.Proofs.YtbfmbdohebdbaaaGreatDoor
open Go Go.RowKit
attribute [local go_sem ↓] Go.wp_at_zero Go.wp_at_succ

def zero17 : Array Value := #[.int .i64 0, .int .u8 0, .int .u8 0, .int .u8 0, .int .u8 0, .int .u8 0, .int .u8 0, .int .u8 0, .int .u8 0, .int .u8 0, .int .u8 0, .int .u8 0, .int .u8 0, .int .u8 0, .int .u8 0, .int .u8 0, .int .u8 0]
theorem infoWB : (Tryz.prog.info? 149).map (fun i => (i.zero, i.size, i.bytes)) = some (some (.agg zero17), 17, 24) := by kernel_rfl
theorem putAt_whole (Z X : Array Value) (h : Z.size = X.size) : putAt Z 0 X = X := by
  apply Array.ext_getElem?
  intro i
  rw [putAt_get Z 0 X (by omega)]
  by_cases hi : i < X.size
  · rw [if_neg (by omega), if_pos (by omega), Nat.sub_zero]
  · rw [if_neg (by omega), if_neg (by omega), Array.getElem?_eq_none (by omega), Array.getElem?_eq_none (by omega)]
theorem fill_whole (n : Nat) (Z X : Array Value) (hZ : Z.size = n) (hX : X.size = n) : Instr.fill (fun i => some (i * n, n)) Z [(0, .agg X)] = some X := by
  rw [fill_at (fun i => some (i * n, n)) Z 0 (0 * n) n (.agg X) X [] rfl rfl hX (by omega), Nat.zero_mul, putAt_whole Z X (by omega)]
  rfl
theorem wb_assert (x : Value) (w : World) : (Instr.typeAssert (.iface 149 x) 20 149 false).run Tryz.prog w = .ok x w := by kernel_rfl
theorem grown_setCell (w : World) (p : Nat) (v : Value) : w.grownBy (w.setCell ⟨p, 0, none⟩ v) (some p) :=
  ⟨rfl, rfl, rfl, by simp [World.setCell], fun k hk hn => heap_setCell_other w ⟨p, 0, none⟩ k v (fun e => hn (by rw [e]))⟩
theorem push_fin {w w6 : World} {p g g2 m c c2 B : Nat} {o : Obj} {xs : List Value} {T e : TypeId} {s : Nat} (hp : RAt w p T #[.slice (some ⟨g, 0, none⟩) m c]) (hne : p ≠ g)
    (hown : w6.ownsRow B e s (.slice (some ⟨g2, 0, none⟩) (m + 1) c2) (m + 1) xs) (hgrow : (w.drew.alloc o).grownBy w6 (Value.slice (some ⟨g, 0, none⟩) m c).ownBlock) (hat : (Value.slice (some ⟨g, 0, none⟩) m c).ownBlock = some g2 ∨ g2 = w.heap.size + 1) :
    w6.cell? ⟨p, 0, none⟩ = some (.slice (some ⟨g, 0, none⟩) m c) ∧ w6.frozen? ⟨p, 0, none⟩ = false ∧
      RAt (w6.setCell ⟨p, 0, none⟩ (.slice (some ⟨g2, 0, none⟩) (m + 1) c2)) p T #[.slice (some ⟨g2, 0, none⟩) (m + 1) c2] ∧ (w6.setCell ⟨p, 0, none⟩ (.slice (some ⟨g2, 0, none⟩) (m + 1) c2)).ownsRow B e s (.slice (some ⟨g2, 0, none⟩) (m + 1) c2) (m + 1) xs ∧ (g2 = g ∨ w.heap.size ≤ g2) ∧ Off p g w (w6.setCell ⟨p, 0, none⟩ (.slice (some ⟨g2, 0, none⟩) (m + 1) c2)) := by
  have hlt := hp.lt
  have h1 : RAt (w.drew.alloc o) p T #[.slice (some ⟨g, 0, none⟩) m c] := RAt.up (w := w.drew) hp ((Below.refl _ w.drew).alloc (Nat.le_refl _) o)
  have hg : (w.drew.alloc o).grownBy w6 (some g) := hgrow
  have h6 : RAt w6 p T #[.slice (some ⟨g, 0, none⟩) m c] := (hg.block p h1.lt (fun e => hne (by cases e; rfl))).trans h1
  have h2 : g2 = g ∨ w.heap.size ≤ g2 := by
    rcases hat with h | h
    · left; have h' : some g = some g2 := h; cases h'; rfl
    · right; omega
  have hn2 : p ≠ g2 := by
    rcases h2 with h | h
    · rw [h]; exact hne
    · omega
  refine ⟨h6.cell rfl, h6.fz 0, h6.set _, hown.kept (grown_setCell w6 p _) (.inr fun e => ?_), h2, ?_⟩
  · have e2 : some g2 = some p := e
    cases e2; exact hn2 rfl
  · have o1 : Off p g w w.drew := (Off.refl p g w).drew
    exact ((o1.trans (Off.of_below ((Below.refl _ w.drew).alloc (Nat.le_refl _) o))).trans (Off.of_grown hg)).setCell 0 _
set_option maxRecDepth 100000 in
set_option maxHeartbeats 6400000 in
theorem wPush_impl (X : List Value) (hX : X.length = 17) (hX1 : ∀ u ∈ X, u.oneCell' = true) (p g c m B : Nat) (L : List Value) (hm : m ≤ 65536) (hpg : p ≠ g) (w : World) (hp : RAt w p 143 #[.slice (some ⟨g, 0, none⟩) m c]) (hB : B ≤ w.heap.size)
    (hv : w.ownsRow B 149 17 (.slice (some ⟨g, 0, none⟩) m c) m L) :
    Calls Tryz.prog 243 #[.pointer (some ⟨p, 0, none⟩), .iface 149 (.agg X.toArray)] w fun e w' => e = .returned (.tuple #[]) ∧ ∃ g' c', RAt w' p 143 #[.slice (some ⟨g', 0, none⟩) (m + 1) c'] ∧ w'.ownsRow B 149 17 (.slice (some ⟨g', 0, none⟩) (m + 1) c') (m + 1) (L ++ X) ∧ (g' = g ∨ w.heap.size ≤ g') ∧ Off p g w w' := by
  obtain ⟨i0, hi, hz0, hz1, hz2⟩ := info_parts infoWB
  have hc : w.cell? ⟨p, 0, none⟩ = some (.slice (some ⟨g, 0, none⟩) m c) := hp.cell (j := 0) rfl
  have hc2 : (w.alloc (.cells X.toArray 149)).cell? ⟨p, 0, none⟩ = some (.slice (some ⟨g, 0, none⟩) m c) := (hp.up ((Below.refl _ w).alloc (Nat.le_refl _) _)).cell (j := 0) rfl
  have HXA : Hid (X.toArray.size = 17) := Lib.hid (by rw [List.size_toArray]; exact hX)
  have HX := Lib.hid hX
  have HX1 := Lib.hid hX1
  have hta := wb_assert
  have HP := Lib.hid hp
  have HNE := Lib.hid hpg
  have HB := Lib.hid hB
  have HV : Hid (w.drew.ownsRow B 149 17 (.slice (some ⟨g, 0, none⟩) m c) m L) := Lib.hid hv
  clear hX hX1 hp hpg hB hv
  go_enter Tryz.func243, Tryz.ntmps243
  go_wp2
  refine wp_region_held_drew (S := fun _ => True) (by kernel_rfl) trivial (fun hS => ?_)
  refine tk 0 (v := ?_) ?_ trivial ?_
  rotate_left
  · intro w hSw
    go_simp
    first | done | with_reducible rfl
  try simp only [lay]
  refine tk 1 (v := ?_) ?_ trivial ?_
  rotate_left
  · intro w hSw
    go_simp
    first | done | with_reducible rfl
  try simp only [lay]
  refine tk 2 (v := ?_) ?_ trivial ?_
  rotate_left
  · intro w hSw
    go_simp
    first | done | with_reducible rfl
  try simp only [lay]
  refine tk 4 (v := ?_) ?_ trivial ?_
  rotate_left
  · intro w hSw
    go_simp
    first | done | with_reducible rfl
  try simp only [lay]
  refine tk 5 (v := ?_) ?_ trivial ?_
  rotate_left
  · intro w hSw
    go_simp
    first | done | with_reducible rfl
  try simp only [lay]
  refine wpAnyH_ready (rs := [3, 6]) (by kernel_rfl) (by simp) ?_
  refine AllReadyH.cons rfl (fun K hK => ?_) (AllReadyH.cons rfl (fun K hK => ?_) (AllReadyH.nil))
  · go_simp
    refine hK.out _ _ trivial (fun _ => ?_)
    clear hK K
    try simp only [lay]
    refine wpAnyH_ready (rs := [6]) (by kernel_rfl) (by simp) ?_
    refine AllReadyH.cons rfl (fun K hK => ?_) (AllReadyH.nil)
    refine Eq.mpr (if_pos (by rfl)) ?_
    refine wp_buildSlice 143 149 1 _ rfl X.toArray i0 (.agg zero17) Tryz.underlying143 hi hz0 (by rw [hz1]; decide) (by rw [hz1]; decide) (by rw [hz1]; exact Eq.trans (congrArg (Instr.fill _ _) (by kernel_rfl : _ = [(0, Value.agg X.toArray)])) (fill_whole 17 _ X.toArray (by kernel_rfl) HXA.out)) ?_
    refine hK.out _ _ trivial (fun _ => ?_)
    clear hK K
    try simp only [lay]
    refine wpAnyH_ready (rs := [7]) (by kernel_rfl) (by simp) ?_
    refine AllReadyH.cons rfl (fun K hK => ?_) AllReadyH.nil
    refine Eq.mpr (if_pos (by rfl)) ?_
    refine wp_append_lies (w.drew.alloc (.cells X.toArray 149)) (.tmp 7) (.tmp 10) 143 rfl B 149 i0 (.agg zero17) 17 24 Tryz.underlying143 hi hz0 hz1 hz2 rfl (by decide) (.slice (some ⟨g, 0, none⟩) m c) m L rfl (HV.out.alloc _) ⟨w.heap.size, 0, none⟩ 1 1 X rfl (by rw [HX.out]) (World.news_of_block (cs := X.toArray) (heap_alloc_new w.drew _)) HX1.out (by omega) (by unfold maxLen; omega) (by omega) (by have := HB.out; simp; omega) (w.heap.size + 1) (by simp) ?_
    intro g2 c2 w6 hown6 hgrow hat hlt6
    have FN := push_fin HP.out HNE.out hown6 hgrow hat
    have k0 := FN.1
    have k0f := FN.2.1
    have HFN := Lib.hid FN.2.2
    clear hown6 hgrow hat hlt6 FN
    refine hK.out _ _ trivial (fun _ => ?_)
    clear hK K
    try simp only [lay]
    refine tk 8 (v := ?_) ?_ trivial ?_
    rotate_left
    · intro w hSw
      go_simp
      first | done | with_reducible rfl
    try simp only [lay]
    refine wpAnyH_ready (rs := [9]) (by kernel_rfl) (by simp) ?_
    refine AllReadyH.cons rfl (fun K hK => ?_) AllReadyH.nil
    go_simp
    refine hK.out _ _ trivial (fun _ => ?_)
    clear hK K
    try simp only [lay]
    refine wpAnyH_done (by kernel_rfl) ?_ _
    clear hS k0 k0f
    go_wp2
    go_end0
    exact ⟨rfl, g2, c2, HFN.out⟩
  · refine Eq.mpr (if_pos (by rfl)) ?_
    refine wp_buildSlice 143 149 1 _ rfl X.toArray i0 (.agg zero17) Tryz.underlying143 hi hz0 (by rw [hz1]; decide) (by rw [hz1]; decide) (by rw [hz1]; exact Eq.trans (congrArg (Instr.fill _ _) (by kernel_rfl : _ = [(0, Value.agg X.toArray)])) (fill_whole 17 _ X.toArray (by kernel_rfl) HXA.out)) ?_
    refine hK.out _ _ trivial (fun _ => ?_)
    clear hK K
    try simp only [lay]
    refine wpAnyH_ready (rs := [3]) (by kernel_rfl) (by simp) ?_
    refine AllReadyH.cons rfl (fun K hK => ?_) (AllReadyH.nil)
    go_simp
    refine hK.out _ _ trivial (fun _ => ?_)
    clear hK K
    try simp only [lay]
    refine wpAnyH_ready (rs := [7]) (by kernel_rfl) (by simp) ?_
    refine AllReadyH.cons rfl (fun K hK => ?_) AllReadyH.nil
    refine Eq.mpr (if_pos (by rfl)) ?_
    refine wp_append_lies (w.drew.alloc (.cells X.toArray 149)) (.tmp 7) (.tmp 10) 143 rfl B 149 i0 (.agg zero17) 17 24 Tryz.underlying143 hi hz0 hz1 hz2 rfl (by decide) (.slice (some ⟨g, 0, none⟩) m c) m L rfl (HV.out.alloc _) ⟨w.heap.size, 0, none⟩ 1 1 X rfl (by rw [HX.out]) (World.news_of_block (cs := X.toArray) (heap_alloc_new w.drew _)) HX1.out (by omega) (by unfold maxLen; omega) (by omega) (by have := HB.out; simp; omega) (w.heap.size + 1) (by simp) ?_
    intro g2 c2 w6 hown6 hgrow hat hlt6
    have FN := push_fin HP.out HNE.out hown6 hgrow hat
    have k0 := FN.1
    have k0f := FN.2.1
    have HFN := Lib.hid FN.2.2
    clear hown6 hgrow hat hlt6 FN
    refine hK.out _ _ trivial (fun _ => ?_)
    clear hK K
    try simp only [lay]
    refine tk 8 (v := ?_) ?_ trivial ?_
    rotate_left
    · intro w hSw
      go_simp
      first | done | with_reducible rfl
    try simp only [lay]
    refine wpAnyH_ready (rs := [9]) (by kernel_rfl) (by simp) ?_
    refine AllReadyH.cons rfl (fun K hK => ?_) AllReadyH.nil
    go_simp
    refine hK.out _ _ trivial (fun _ => ?_)
    clear hK K
    try simp only [lay]
    refine wpAnyH_done (by kernel_rfl) ?_ _
    clear hS k0 k0f
    go_wp2
    go_end0
    exact ⟨rfl, g2, c2, HFN.out⟩
theorem pair_then (s : Sem Value) (k : Nat) (P : Program) (w : World) : (s >>= fun v => (pure (k, v) : Sem (Nat × Value))).run P w = (s.run P w).andThen (fun v w' => .ok (k, v) w') := by
  rw [Sem.run_bind]; rfl
theorem load_wbs (p : Nat) (v : Value) (w : World) (h : w.cell? ⟨p, 0, none⟩ = some v) : (loadVar 143 ⟨p, 0, none⟩).run Tryz.prog w = .ok v w := by
  have h1 : Tryz.prog.underlying 143 = some (.slice 149) := Tryz.underlying143
  simp [loadVar, isAgg, underlying, h1, h, Result.andThen]
set_option maxRecDepth 100000 in
theorem meth_Len0 (p : Nat) (w : World) : (method 376 88 (.pointer (some ⟨p, 0, none⟩)) "Len").run Tryz.prog w = ((receiverAt 88 (.val (.pointer (some ⟨p, 0, none⟩))) false (some "Len")) >>= fun v => (pure (62, v) : Sem (Nat × Value))).run Tryz.prog w := by kernel_rfl
set_option maxRecDepth 100000 in
theorem meth_Len1 (p : Nat) (w : World) : (receiverAt 88 (.val (.pointer (some ⟨p, 0, none⟩))) false (some "Len")).run Tryz.prog w = (loadVar 143 ⟨p, 0, none⟩).run Tryz.prog w := by kernel_rfl
theorem meth_Len (p : Nat) (v : Value) (w : World) (h : w.cell? ⟨p, 0, none⟩ = some v) : (method 376 88 (.pointer (some ⟨p, 0, none⟩)) "Len").run Tryz.prog w = .ok (62, v) w := by
  rw [meth_Len0, pair_then, meth_Len1, load_wbs p v w h]; rfl
set_option maxRecDepth 100000 in
theorem meth_Less0 (p : Nat) (w : World) : (method 376 88 (.pointer (some ⟨p, 0, none⟩)) "Less").run Tryz.prog w = ((receiverAt 88 (.val (.pointer (some ⟨p, 0, none⟩))) false (some "Less")) >>= fun v => (pure (241, v) : Sem (Nat × Value))).run Tryz.prog w := by kernel_rfl
set_option maxRecDepth 100000 in
theorem meth_Less1 (p : Nat) (w : World) : (receiverAt 88 (.val (.pointer (some ⟨p, 0, none⟩))) false (some "Less")).run Tryz.prog w = (loadVar 143 ⟨p, 0, none⟩).run Tryz.prog w := by kernel_rfl
theorem meth_Less (p : Nat) (v : Value) (w : World) (h : w.cell? ⟨p, 0, none⟩ = some v) : (method 376 88 (.pointer (some ⟨p, 0, none⟩)) "Less").run Tryz.prog w = .ok (241, v) w := by
  rw [meth_Less0, pair_then, meth_Less1, load_wbs p v w h]; rfl
set_option maxRecDepth 100000 in
theorem meth_Swap0 (p : Nat) (w : World) : (method 376 88 (.pointer (some ⟨p, 0, none⟩)) "Swap").run Tryz.prog w = ((receiverAt 88 (.val (.pointer (some ⟨p, 0, none⟩))) false (some "Swap")) >>= fun v => (pure (244, v) : Sem (Nat × Value))).run Tryz.prog w := by kernel_rfl
set_option maxRecDepth 100000 in
theorem meth_Swap1 (p : Nat) (w : World) : (receiverAt 88 (.val (.pointer (some ⟨p, 0, none⟩))) false (some "Swap")).run Tryz.prog w = (loadVar 143 ⟨p, 0, none⟩).run Tryz.prog w := by kernel_rfl
theorem meth_Swap (p : Nat) (v : Value) (w : World) (h : w.cell? ⟨p, 0, none⟩ = some v) : (method 376 88 (.pointer (some ⟨p, 0, none⟩)) "Swap").run Tryz.prog w = .ok (244, v) w := by
  rw [meth_Swap0, pair_then, meth_Swap1, load_wbs p v w h]; rfl
set_option maxRecDepth 100000 in
theorem meth_Push (p : Nat) (w : World) : (method 376 88 (.pointer (some ⟨p, 0, none⟩)) "Push").run Tryz.prog w = .ok (243, .pointer (some ⟨p, 0, none⟩)) w := by kernel_rfl
set_option maxRecDepth 100000 in
theorem meth_Pop (p : Nat) (w : World) : (method 376 88 (.pointer (some ⟨p, 0, none⟩)) "Pop").run Tryz.prog w = .ok (242, .pointer (some ⟨p, 0, none⟩)) w := by kernel_rfl
theorem own_capH {w : World} {B g m c s : Nat} {e : TypeId} {xs : List Value} (h : w.ownsRow B e s (.slice (some ⟨g, 0, none⟩) m c) m xs) : ∃ cur, RAt w g e cur ∧ m ≤ c ∧ c ≤ 9223372036854775807 ∧ cur.size = c * s ∧ cur.toList.take (m * s) = xs ∧ B ≤ g := by
  rcases h.2 with ⟨hv, _⟩ | ⟨g', cap, cur, hv, hb, hg, hn, hm, hs, ht⟩
  · cases hv
  · cases hv
    exact ⟨cur, hg, hn, by unfold maxLen at hm; omega, hs, ht, hb⟩
theorem parent_num (j : Nat) (i : Nat) (h : (j - 1) / 2 = i) : ((j : Int) - 1).tdiv 2 = (i : Int) := by
  rcases Nat.eq_zero_or_pos j with h0 | h0
  · subst h0; subst h; rfl
  · rw [Int.tdiv_eq_ediv_of_nonneg (by omega)]; omega
set_option maxRecDepth 100000 in
set_option maxHeartbeats 1600000 in
theorem up_impl (p g c m j : Nat) (x : Nat → Int) (hj : j < m) (hm : m ≤ 65537) (hmc : m ≤ c) (w : World) (hp : w.cell? ⟨p, 0, none⟩ = some (.slice (some ⟨g, 0, none⟩) m c))
    (hx : ∀ i, i < m → w.cell? ⟨g, 17 * i, none⟩ = some (.int .i64 (x i))) (hle : 0 < j → x ((j - 1) / 2) ≤ x j) :
    Calls Tryz.prog 139 #[.iface 88 (.pointer (some ⟨p, 0, none⟩)), .int .i64 (j : Int)] w fun e w' => e = .returned (.tuple #[]) ∧ Below w.heap.size w w' := by
  obtain ⟨i, hi⟩ : ∃ i, (j - 1) / 2 = i := ⟨_, rfl⟩
  have q1 : IntKind.i64.wrap ((j : Int) - 1) = (j : Int) - 1 := IntWalk.i64_in _ (by omega)
  have q2 := parent_num j i hi
  have q3 : IntKind.i64.wrap (i : Int) = (i : Int) := IntWalk.i64_in _ (by omega)
  go_enter Tryz.func139, Tryz.ntmps139
  go_wp2
  go_loopw [1, 4] (fun a b wr => a = .int .i64 (j : Int) ∧ wr = w) (fun _ _ _ => 0)
  case atStart => exact ⟨rfl, rfl⟩
  case round =>
    obtain ⟨rfl, rfl⟩ := hrel
    by_cases hz : j = 0
    · have hij : i = 0 := by omega
      subst hz; subst hij
      clear hx hle hi
      go_wp2
      go_end0
      exact ⟨rfl, Below.refl _ _⟩
    · have hne : ¬ (i : Int) = (j : Int) := by omega
      have ml := meth_Less p _ wr hp
      have hd : decide (x j < x i) = false := by
        have := hle (by omega)
        rw [hi] at this
        exact decide_eq_false (by omega)
      have CL := Lib.hid (wLess_impl g m c j i (x j) (x i) hj (by omega) hmc wr (hx j hj) (hx i (by omega)))
      rw [hd] at CL
      clear hx hle hd hp
      go_wp2_with fail
      refine CL.out.mono ?_; rintro e w2 ⟨rfl, hb2⟩
      have HB2 := Lib.hid hb2
      clear hb2 ml CL
      go_wp2
      go_end0
      exact ⟨rfl, HB2.out⟩
/-- the cells of m waiting blocks in the order of their places. -/
def hpL (b : Nat → ByteArray) (m : Nat) : List Value := (List.range m).flatMap fun i => wbC b i
theorem hpL_up (b : Nat → ByteArray) (m : Nat) : hpL b m ++ wbC b m = hpL b (m + 1) := by
  unfold hpL; rw [List.range_succ, List.flatMap_append, List.flatMap_singleton]
theorem hpL_len (b : Nat → ByteArray) (hb : ∀ v, (b v).size = 16) : ∀ m, (hpL b m).length = 17 * m
  | 0 => rfl
  | m + 1 => by rw [← hpL_up, List.length_append, hpL_len b hb m, wbC_len b hb]; omega
theorem hpL_at (b : Nat → ByteArray) (hb : ∀ v, (b v).size = 16) (i c : Nat) (hc : c < 17) : ∀ m, i < m → (hpL b m)[17 * i + c]? = (wbC b i)[c]?
  | 0, h => absurd h (by omega)
  | m + 1, h => by
    rw [← hpL_up]
    by_cases hi : i < m
    · rw [List.getElem?_append_left (by rw [hpL_len b hb]; omega)]; exact hpL_at b hb i c hc m hi
    · have e : i = m := by omega
      subst e
      rw [List.getElem?_append_right (by rw [hpL_len b hb]; omega), hpL_len b hb, Nat.add_sub_cancel_left]
set_option maxRecDepth 100000 in
set_option maxHeartbeats 1600000 in
theorem heapPush_impl (b : Nat → ByteArray) (hb : ∀ v, (b v).size = 16) (p g c m B : Nat) (hm : m ≤ 65536) (hpg : p ≠ g) (w : World) (hp : RAt w p 143 #[.slice (some ⟨g, 0, none⟩) m c]) (hB : B ≤ w.heap.size)
    (hv : w.ownsRow B 149 17 (.slice (some ⟨g, 0, none⟩) m c) m (hpL b m)) :
    Calls Tryz.prog 95 #[.iface 88 (.pointer (some ⟨p, 0, none⟩)), .iface 149 (.agg (wbC b m).toArray)] w fun e w' => e = .returned (.tuple #[]) ∧ ∃ g' c', RAt w' p 143 #[.slice (some ⟨g', 0, none⟩) (m + 1) c'] ∧ w'.ownsRow B 149 17 (.slice (some ⟨g', 0, none⟩) (m + 1) c') (m + 1) (hpL b (m + 1)) ∧ (g' = g ∨ w.heap.size ≤ g') ∧ p ≠ g' ∧ Off p g w w' := by
  have CP := Lib.hid (wPush_impl (wbC b m) (wbC_len b hb m) (wbC_one b m) p g c m B (hpL b m) hm hpg w hp hB hv)
  have mp := meth_Push p
  have HLT := Lib.hid hp.lt
  have HNE := Lib.hid hpg
  obtain ⟨M, hM⟩ : ∃ M, m + 1 = M := ⟨_, rfl⟩
  have q1 : IntKind.i64.wrap ((M : Int) - 1) = (m : Int) := by rw [show (M : Int) - 1 = (m : Int) by omega]; exact IntWalk.i64_in _ (by omega)
  have HUP := Lib.hid (hpL_up b m)
  have HAT : Hid (∀ i, i < m + 1 → (hpL b (m + 1))[17 * i]? = some (.int .i64 (i : Int))) := Lib.hid fun i hi => hpL_at b hb i 0 (by omega) (m + 1) hi
  have HM := Lib.hid hm
  have HMM := Lib.hid hM
  rw [hM] at CP HUP HAT
  rw [hM]
  clear hp hpg hB hv hm hM
  generalize (wbC b m).toArray = X at *
  generalize wbC b m = XL at *
  go_enter Tryz.func95, Tryz.ntmps95
  go_wp2_with fail
  refine CP.out.mono ?_; rintro e w1 ⟨rfl, g', c', h1, h2, h3, h4⟩
  rw [HUP.out] at h2
  have hne2 : p ≠ g' := by
    rcases h3 with h | h
    · rw [h]; exact HNE.out
    · have := HLT.out; omega
  have hc1 : w1.cell? ⟨p, 0, none⟩ = some (.slice (some ⟨g', 0, none⟩) M c') := h1.cell rfl
  have ml := meth_Len p _ w1 hc1
  obtain ⟨cur, -, hmc, -, -, -, -⟩ := own_capH h2
  have CL := Lib.hid (wLen_impl (some ⟨g', 0, none⟩) M c' w1)
  have CU := Lib.hid (up_impl p g' c' M m (fun i => (i : Int)) (by have := HMM.out; omega) (by have := HM.out; have := HMM.out; omega) hmc w1 hc1 (fun i hi => (h2.cellAt (17 * i) (by omega)).trans (HAT.out i hi)) (fun h => by omega))
  have H1 := Lib.hid h1
  have H2 := Lib.hid h2
  have H3 := Lib.hid h3
  have H4 := Lib.hid h4
  have HN2 := Lib.hid hne2
  clear h1 h2 h3 h4 hne2 hc1 CP mp hmc
  go_wp2_with fail
  refine CL.out.mono ?_; rintro e w2 ⟨rfl, rfl⟩
  clear CL ml
  go_wp2_with fail
  refine CU.out.mono ?_; rintro e w3 ⟨rfl, hb3⟩
  have HB3 := Lib.hid hb3
  clear hb3 CU
  go_wp2
  go_end0
  exact ⟨rfl, g', c', H1.out.up HB3.out, own_below H2.out HB3.out, H3.out, HN2.out, H4.out.trans (Off.of_below HB3.out)⟩
end Go.Proofs.YtbfmbdohebdbaaaGreatDoor
