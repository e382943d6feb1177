/-
  Contracts and facts that the laws of this seat use: PassMath, PassA, PassB, PassC, PassD, PassE, PassF, PassG, PassH.
-/
import Derived.Test.YtbfmbdohebdbaaaGreatDoorLockM
import Derived.Test.YtbfmbdohebdbaaaGreatDoorCols
import Derived.Test.YtbfmbdohebdbaaaGreatDoorBase
import Derived.Test.YtbfmbdohebdbaaaGreatDoorLists
import Derived.Deep.MidRow
import Derived.Deep.AppendLies
import Derived.Test.YtbfmbdohebdbaaaGreatDoorSums
import Derived.StillTailTactics
import Derived.Great.BuildSlice
import Derived.Test.YtbfmbdohebdbaaaGreatDoorChunkI
import Derived.Test.YtbfmbdohebdbaaaGreatDoorInRound
import Derived.Recover
import Derived.Lib.BufferWrite
set_option linter.unusedVariables false
namespace Go.Proofs.YtbfmbdohebdbaaaGreatDoor
open Go Go.RowKit

/-- a small step of a passage. -/
inductive PStp where
  | addF | addL | box | unbox | shift | unshift | mix | unmix
/-- what a passage holds: the keys from lo on, n of them; the block; the blocks behind each key. -/
structure Pas where
  lo : Nat
  n : Nat
  S : ByteArray
  bs : List ByteArray
def PStp.run (K : Nat → ByteArray) : PStp → Pas → Pas
  | .addF, p => ⟨p.lo + 1, p.n - 1, xorS p.S (K p.lo), p.bs ++ [xorS p.S (K p.lo)]⟩
  | .addL, p => ⟨p.lo, p.n - 1, xorS p.S (K (p.lo + (p.n - 1))), p.bs ++ [xorS p.S (K (p.lo + (p.n - 1)))]⟩
  | .box, p => ⟨p.lo, p.n, mapT sbox p.S, p.bs⟩
  | .unbox, p => ⟨p.lo, p.n, mapT ubox p.S, p.bs⟩
  | .shift, p => ⟨p.lo, p.n, shS 1 p.S, p.bs⟩
  | .unshift, p => ⟨p.lo, p.n, shS 3 p.S, p.bs⟩
  | .mix, p => ⟨p.lo, p.n, mxS p.S, p.bs⟩
  | .unmix, p => ⟨p.lo, p.n, unS p.S, p.bs⟩
/-- what a passage holds stays in its bounds: so many keys in all, as many blocks as keys are gone. -/
def Pas.fits (T : Nat) (p : Pas) : Prop := p.S.size = 16 ∧ p.lo + p.n ≤ T ∧ p.bs.length + p.n = T
def PStp.adds : PStp → Bool
  | .addF | .addL => true
  | _ => false
def PStp.ok (s : PStp) (p : Pas) : Prop := s.adds = true → 1 ≤ p.n
theorem PStp.run_fits (K : Nat → ByteArray) (T : Nat) (s : PStp) (p : Pas) (h : p.fits T) (ho : s.ok p) : (s.run K p).fits T := by
  obtain ⟨h1, h2, h3⟩ := h
  cases s with
  | addF => have := ho rfl; exact ⟨xorS_size _ _, by show p.lo + 1 + (p.n - 1) ≤ T; omega, by show (p.bs ++ [_]).length + (p.n - 1) = T; rw [List.length_append, List.length_singleton]; omega⟩
  | addL => have := ho rfl; exact ⟨xorS_size _ _, by show p.lo + (p.n - 1) ≤ T; omega, by show (p.bs ++ [_]).length + (p.n - 1) = T; rw [List.length_append, List.length_singleton]; omega⟩
  | box => exact ⟨(mapT_size _ _).trans h1, h2, h3⟩
  | unbox => exact ⟨(mapT_size _ _).trans h1, h2, h3⟩
  | shift => exact ⟨shS_size _ _, h2, h3⟩
  | unshift => exact ⟨shS_size _ _, h2, h3⟩
  | mix => exact ⟨mxS_size _, h2, h3⟩
  | unmix => exact ⟨unS_size _, h2, h3⟩
/-- all steps of a list, and that each may be done. -/
def runAll (K : Nat → ByteArray) (l : List PStp) (p : Pas) : Pas := l.foldl (fun p s => s.run K p) p
def okAll (K : Nat → ByteArray) : List PStp → Pas → Prop
  | [], _ => True
  | s :: l, p => s.ok p ∧ okAll K l (s.run K p)
theorem runAll_append (K : Nat → ByteArray) (l m : List PStp) (p : Pas) : runAll K (l ++ m) p = runAll K m (runAll K l p) := by simp [runAll]
theorem okAll_append (K : Nat → ByteArray) (l m : List PStp) (p : Pas) (h : okAll K l p) (h2 : okAll K m (runAll K l p)) : okAll K (l ++ m) p := by
  induction l generalizing p with
  | nil => exact h2
  | cons s l ih => exact ⟨h.1, ih _ h.2 h2⟩
theorem okAll_at (K : Nat → ByteArray) (l : List PStp) (p : Pas) (h : okAll K l p) (k : Nat) (s : PStp) (hs : l[k]? = some s) : s.ok (runAll K (l.take k) p) ∧ runAll K (l.take (k + 1)) p = s.run K (runAll K (l.take k) p) := by
  induction l generalizing p k with
  | nil => cases hs
  | cons x l ih =>
    cases k with
    | zero => cases hs; exact ⟨h.1, rfl⟩
    | succ k =>
      have := ih _ h.2 k (by simpa using hs)
      exact this
theorem fits_at (K : Nat → ByteArray) (T : Nat) (l : List PStp) (p : Pas) (hp : p.fits T) (h : okAll K l p) (k : Nat) : (runAll K (l.take k) p).fits T := by
  induction l generalizing p k with
  | nil => rw [List.take_nil]; exact hp
  | cons x l ih =>
    cases k with
    | zero => exact hp
    | succ k => exact ih _ (PStp.run_fits K T x p hp h.1) h.2 k
/-- the steps there. -/
def lockTo : Nat → List PStp
  | 0 => [.addF]
  | k + 1 => lockTo k ++ [.box, .shift, .mix, .addF]
def lockAll (m : Nat) : List PStp := lockTo m ++ [.box, .shift, .addF]
theorem lockTo_mem : ∀ (k : Nat) (s : PStp), s ∈ lockTo k → s = .addF ∨ s = .box ∨ s = .shift ∨ s = .mix
  | 0, s, h => by simp only [lockTo, List.mem_cons, List.not_mem_nil, or_false] at h; exact .inl h
  | k + 1, s, h => by
    rcases List.mem_append.1 h with h | h
    · exact lockTo_mem k s h
    · simp only [List.mem_cons, List.not_mem_nil, or_false] at h
      rcases h with rfl | rfl | rfl | rfl <;> simp
theorem lockAll_mem (m : Nat) (s : PStp) (h : s ∈ lockAll m) : s = .addF ∨ s = .box ∨ s = .shift ∨ s = .mix := by
  rcases List.mem_append.1 h with h | h
  · exact lockTo_mem m s h
  · simp only [List.mem_cons, List.not_mem_nil, or_false] at h
    rcases h with rfl | rfl | rfl <;> simp
/-- the steps back. -/
def unlockTo : Nat → List PStp
  | 0 => [.addL, .unshift, .unbox]
  | k + 1 => unlockTo k ++ [.addL, .unmix, .unshift, .unbox]
def unlockAll (m : Nat) : List PStp := unlockTo m ++ [.addL]
theorem unlockTo_mem : ∀ (k : Nat) (s : PStp), s ∈ unlockTo k → s = .addL ∨ s = .unshift ∨ s = .unbox ∨ s = .unmix
  | 0, s, h => by
    simp only [unlockTo, List.mem_cons, List.not_mem_nil, or_false] at h
    rcases h with rfl | rfl | rfl <;> simp
  | k + 1, s, h => by
    rcases List.mem_append.1 h with h | h
    · exact unlockTo_mem k s h
    · simp only [List.mem_cons, List.not_mem_nil, or_false] at h
      rcases h with rfl | rfl | rfl | rfl <;> simp
theorem unlockAll_mem (m : Nat) (s : PStp) (h : s ∈ unlockAll m) : s = .addL ∨ s = .unshift ∨ s = .unbox ∨ s = .unmix := by
  rcases List.mem_append.1 h with h | h
  · exact unlockTo_mem m s h
  · simp only [List.mem_cons, List.not_mem_nil, or_false] at h
    exact .inl h
theorem lockTo_length : ∀ m, (lockTo m).length = 4 * m + 1
  | 0 => rfl
  | m + 1 => by rw [lockTo, List.length_append, lockTo_length m]; simp; omega
theorem unlockTo_length : ∀ m, (unlockTo m).length = 4 * m + 3
  | 0 => rfl
  | m + 1 => by rw [unlockTo, List.length_append, unlockTo_length m]; simp; omega
theorem lockAll_length (m : Nat) : (lockAll m).length = 4 * m + 4 := by rw [lockAll, List.length_append, lockTo_length]; rfl
theorem unlockAll_length (m : Nat) : (unlockAll m).length = 4 * m + 4 := by rw [unlockAll, List.length_append, unlockTo_length]; rfl
theorem lockTo_is (K : Nat → ByteArray) (r : Nat) (s : ByteArray) : ∀ k, k < r → okAll K (lockTo k) ⟨0, r + 1, s, []⟩ ∧ runAll K (lockTo k) ⟨0, r + 1, s, []⟩ = ⟨k + 1, r - k, stepS K r s k, upTo (stepS K r s) (k + 1)⟩
  | 0, h => ⟨⟨fun _ => by show 1 ≤ r + 1; omega, trivial⟩, rfl⟩
  | k + 1, h => by
    obtain ⟨h1, h2⟩ := lockTo_is K r s k (by omega)
    refine ⟨okAll_append K _ _ _ h1 ?_, ?_⟩
    · rw [h2]
      exact ⟨fun h => (by cases h), fun h => (by cases h), fun h => (by cases h), fun _ => by show 1 ≤ r - k; omega, trivial⟩
    · rw [lockTo, runAll_append, h2]
      have e : stepS K r s (k + 1) = xorS (mxS (shS 1 (mapT sbox (stepS K r s k)))) (K (k + 1)) := by
        rw [stepS, midS, if_pos h]; rfl
      show (⟨k + 1 + 1, r - k - 1, xorS (mxS (shS 1 (mapT sbox (stepS K r s k)))) (K (k + 1)), upTo (stepS K r s) (k + 1) ++ [xorS (mxS (shS 1 (mapT sbox (stepS K r s k)))) (K (k + 1))]⟩ : Pas) = _
      rw [← e, ← upTo_succ]; rfl
theorem lockAll_is (K : Nat → ByteArray) (m : Nat) (s : ByteArray) : okAll K (lockAll m) ⟨0, m + 2, s, []⟩ ∧ runAll K (lockAll m) ⟨0, m + 2, s, []⟩ = ⟨m + 2, 0, lockS K (m + 1) s, upTo (stepS K (m + 1) s) (m + 2)⟩ := by
  obtain ⟨h1, h2⟩ := lockTo_is K (m + 1) s m (by omega)
  refine ⟨okAll_append K _ _ _ h1 ?_, ?_⟩
  · rw [h2]
    exact ⟨fun h => (by cases h), fun h => (by cases h), fun _ => by show 1 ≤ m + 1 - m; omega, trivial⟩
  · rw [lockAll, runAll_append, h2]
    have e : stepS K (m + 1) s (m + 1) = xorS (shS 1 (mapT sbox (stepS K (m + 1) s m))) (K (m + 1)) := by
      rw [stepS, midS, if_neg (Nat.lt_irrefl _)]; rfl
    show (⟨m + 1 + 1, m + 1 - m - 1, xorS (shS 1 (mapT sbox (stepS K (m + 1) s m))) (K (m + 1)), upTo (stepS K (m + 1) s) (m + 1) ++ [xorS (shS 1 (mapT sbox (stepS K (m + 1) s m))) (K (m + 1))]⟩ : Pas) = _
    rw [← e, ← upTo_succ, lockS, show m + 1 - m - 1 = 0 by omega]
theorem unlockTo_is (K : Nat → ByteArray) (r : Nat) (t : ByteArray) : ∀ k, k < r → okAll K (unlockTo k) ⟨0, r + 1, t, []⟩ ∧ ∃ bs : List ByteArray, bs.length = k + 1 ∧ runAll K (unlockTo k) ⟨0, r + 1, t, []⟩ = ⟨0, r - k, backS K r t (k + 1), bs⟩
  | 0, h => ⟨⟨fun _ => by show 1 ≤ r + 1; omega, fun h => (by cases h), fun h => (by cases h), trivial⟩, [xorS t (K r)], rfl, by
      have e : backS K r t 1 = mapT ubox (shS 3 (xorS t (K r))) := by
        show udS (dimS r (r - 0) (xorS t (K (r - 0)))) = _
        rw [Nat.sub_zero, dimS, if_neg (Nat.lt_irrefl _)]; rfl
      rw [e]
      show (⟨0, r + 1 - 1, mapT ubox (shS 3 (xorS t (K (0 + (r + 1 - 1))))), [] ++ [xorS t (K (0 + (r + 1 - 1)))]⟩ : Pas) = _
      rw [show 0 + (r + 1 - 1) = r by omega, show r + 1 - 1 = r - 0 by omega]; rfl⟩
  | k + 1, h => by
    obtain ⟨h1, bs, hl, h2⟩ := unlockTo_is K r t k (by omega)
    refine ⟨okAll_append K _ _ _ h1 ?_, bs ++ [xorS (backS K r t (k + 1)) (K (r - (k + 1)))], by rw [List.length_append, hl]; rfl, ?_⟩
    · rw [h2]
      exact ⟨fun _ => by show 1 ≤ r - k; omega, fun h => (by cases h), fun h => (by cases h), fun h => (by cases h), trivial⟩
    · rw [unlockTo, runAll_append, h2]
      have e : backS K r t (k + 2) = mapT ubox (shS 3 (unS (xorS (backS K r t (k + 1)) (K (r - (k + 1)))))) := by
        rw [backS, dimS, if_pos (by omega)]; rfl
      rw [e]
      show (⟨0, r - k - 1, mapT ubox (shS 3 (unS (xorS (backS K r t (k + 1)) (K (0 + (r - k - 1)))))), bs ++ [xorS (backS K r t (k + 1)) (K (0 + (r - k - 1)))]⟩ : Pas) = _
      rw [show 0 + (r - k - 1) = r - (k + 1) by omega, show r - k - 1 = r - (k + 1) by omega]
theorem unlockAll_is (K : Nat → ByteArray) (m : Nat) (t : ByteArray) : okAll K (unlockAll m) ⟨0, m + 2, t, []⟩ ∧ ∃ bs : List ByteArray, bs.length = m + 1 ∧ runAll K (unlockAll m) ⟨0, m + 2, t, []⟩ = ⟨0, 0, unlockS K (m + 1) t, bs ++ [unlockS K (m + 1) t]⟩ := by
  obtain ⟨h1, bs, hl, h2⟩ := unlockTo_is K (m + 1) t m (by omega)
  refine ⟨okAll_append K _ _ _ h1 ?_, bs, hl, ?_⟩
  · rw [h2]
    exact ⟨fun _ => by show 1 ≤ m + 1 - m; omega, trivial⟩
  · rw [unlockAll, runAll_append, h2]
    show (⟨0, m + 1 - m - 1, xorS (backS K (m + 1) t (m + 1)) (K (0 + (m + 1 - m - 1))), bs ++ [xorS (backS K (m + 1) t (m + 1)) (K (0 + (m + 1 - m - 1)))]⟩ : Pas) = _
    rw [show 0 + (m + 1 - m - 1) = 0 by omega, show m + 1 - m - 1 = 0 by omega]; rfl
end Go.Proofs.YtbfmbdohebdbaaaGreatDoor
set_option linter.unusedVariables false
set_option linter.unusedSimpArgs false
namespace Go.Proofs.YtbfmbdohebdbaaaGreatDoor
open Go Go.RowKit

/-- the cells of a passage. -/
def psC (kv : Value) (f : Nat → UInt8) (sv uv bv : Value) : List Value := kv :: (cells8 (upTo f 16) ++ [sv, uv, bv])
theorem psC_length (kv : Value) (f : Nat → UInt8) (sv uv bv : Value) : (psC kv f sv uv bv).length = 20 := by simp [psC, cells8_length, upTo_length]
def PsAt (w : World) (p : Nat) (kv : Value) (f : Nat → UInt8) (sv uv bv : Value) : Prop := w.heap[p]? = some (.cells (psC kv f sv uv bv).toArray 202 (0, 0))
theorem PsAt.lt {w : World} {p : Nat} {kv sv uv bv : Value} {f : Nat → UInt8} (h : PsAt w p kv f sv uv bv) : p < w.heap.size := (Array.getElem?_eq_some_iff.1 h).1
theorem psC_byte (kv : Value) (f : Nat → UInt8) (sv uv bv : Value) (i : Nat) (hi : i < 16) : (psC kv f sv uv bv)[1 + i]? = some (.int .u8 ((f i).toNat : Int)) := by
  unfold psC
  rw [Nat.add_comm, List.getElem?_cons_succ, List.getElem?_append_left (by rw [cells8_length, upTo_length]; exact hi)]
  unfold cells8
  rw [List.getElem?_map, upTo_at f 16 i hi]; rfl
theorem psC_17 (kv : Value) (f : Nat → UInt8) (sv uv bv : Value) : (psC kv f sv uv bv)[17]? = some sv ∧ (psC kv f sv uv bv)[18]? = some uv ∧ (psC kv f sv uv bv)[19]? = some bv := ⟨rfl, rfl, rfl⟩
section
variable {w : World} {p : Nat} {kv sv uv bv : Value} {f : Nat → UInt8}
theorem PsAt.c0 (h : PsAt w p kv f sv uv bv) : w.cell? ⟨p, 0, none⟩ = some kv := (cell_of_row w p 0 _ _ _ h).trans (by rw [List.getElem?_toArray]; rfl)
theorem PsAt.ci (h : PsAt w p kv f sv uv bv) (i : Nat) (hi : i < 16) : w.cell? ⟨p, 1 + i, none⟩ = some (.int .u8 ((f i).toNat : Int)) := (cell_of_row w p (1 + i) _ _ _ h).trans (by rw [List.getElem?_toArray]; exact psC_byte _ _ _ _ _ i hi)
theorem PsAt.c17 (h : PsAt w p kv f sv uv bv) : w.cell? ⟨p, 17, none⟩ = some sv := (cell_of_row w p 17 _ _ _ h).trans (by rw [List.getElem?_toArray]; exact (psC_17 _ _ _ _ _).1)
theorem PsAt.c18 (h : PsAt w p kv f sv uv bv) : w.cell? ⟨p, 18, none⟩ = some uv := (cell_of_row w p 18 _ _ _ h).trans (by rw [List.getElem?_toArray]; exact (psC_17 _ _ _ _ _).2.1)
theorem PsAt.c19 (h : PsAt w p kv f sv uv bv) : w.cell? ⟨p, 19, none⟩ = some bv := (cell_of_row w p 19 _ _ _ h).trans (by rw [List.getElem?_toArray]; exact (psC_17 _ _ _ _ _).2.2)
theorem PsAt.fz (h : PsAt w p kv f sv uv bv) (j : Nat) : w.frozen? ⟨p, j, none⟩ = false := frozen_of_row w p j _ _ h
theorem PsAt.range (h : PsAt w p kv f sv uv bv) : w.rangeAt p 1 (cells8 (upTo f 16)) := fun j v hv => by
  have hj : j < 16 := by have := (List.getElem?_eq_some_iff.1 hv).1; rwa [cells8_length, upTo_length] at this
  rw [h.ci j hj, ← hv]
  unfold cells8
  rw [List.getElem?_map, upTo_at f 16 j hj]; rfl
theorem PsAt.keys (h : PsAt w p kv f sv uv bv) (v : Value) : PsAt (w.setCell ⟨p, 0, none⟩ v) p v f sv uv bv := by
  have h2 := heap_setCell_same w p 0 _ _ v h
  simpa [PsAt, psC] using h2
theorem PsAt.blocks (h : PsAt w p kv f sv uv bv) (v : Value) : PsAt (w.setCell ⟨p, 19, none⟩ v) p kv f sv uv v := by
  have h2 := heap_setCell_same w p 19 _ _ v h
  rw [PsAt, h2, List.setIfInBounds_toArray]
  congr 3
theorem PsAt.byte (h : PsAt w p kv f sv uv bv) (i : Nat) (hi : i < 16) (c : UInt8) : PsAt (w.setCell ⟨p, 1 + i, none⟩ (.int .u8 (c.toNat : Int))) p kv (fun j => if j = i then c else f j) sv uv bv := by
  have h2 := heap_setCell_same w p (1 + i) _ _ (.int .u8 (c.toNat : Int)) h
  rw [PsAt, h2, List.setIfInBounds_toArray]
  congr 3
  unfold psC
  rw [Nat.add_comm, List.set_cons_succ, List.set_append_left _ _ (by rw [cells8_length, upTo_length]; exact hi)]
  congr 2
  unfold cells8
  apply List.ext_getElem?
  intro j
  rw [List.getElem?_set, List.length_map, upTo_length]
  by_cases hj : j < 16
  · rw [List.getElem?_map, List.getElem?_map, upTo_at f 16 j hj, upTo_at _ 16 j hj]
    by_cases he : i = j
    · subst he; simp [hi, cell8]
    · rw [if_neg he, Option.map_some, Option.map_some, if_neg (fun h => he h.symm)]
  · rw [if_neg (by omega), List.getElem?_eq_none (by rw [List.length_map, upTo_length]; omega), List.getElem?_eq_none (by rw [List.length_map, upTo_length]; omega)]
theorem PsAt.congr {g : Nat → UInt8} (h : PsAt w p kv f sv uv bv) (hg : ∀ i, i < 16 → f i = g i) : PsAt w p kv g sv uv bv := by
  have e : upTo f 16 = upTo g 16 := by
    unfold upTo; exact List.map_congr_left fun i hi => hg i (List.mem_range.1 hi)
  unfold PsAt psC at *
  rw [← e]; exact h
theorem PsAt.of_block {w' : World} (h : PsAt w p kv f sv uv bv) (hb : w'.heap[p]? = w.heap[p]?) : PsAt w' p kv f sv uv bv := hb.trans h
end
/-- the store of a whole state into a passage. -/
theorem run_store_ps {P : Program} (w : World) (p : Nat) (t : TypeId) (kv : Value) (f g : Nat → UInt8) (sv uv bv : Value) (hp : w.heap[p]? = some (.cells (psC kv f sv uv bv).toArray t (0, 0))) (ty : TypeId) (hi : (P.info? ty).map (·.size) = some 16) :
    (storeVar ty ⟨p, 1, none⟩ (.agg (stA g))).run P w = .ok () (w.setRow p (psC kv g sv uv bv).toArray) := by
  have hlen : (cells8 (upTo g 16)).length = 16 := by rw [cells8_length, upTo_length]
  have hlen2 : (cells8 (upTo f 16)).length = 16 := by rw [cells8_length, upTo_length]
  have hst := run_storeCells_at P p 1 t (cells8 (upTo g 16)) 0 _ w hp (by rw [hlen, List.size_toArray, psC_length]; omega) (fun v hv => cells8_oneCell _ v hv)
  have e : (((psC kv f sv uv bv).toArray.toList.take (1 + 0) ++ cells8 (upTo g 16) ++ (psC kv f sv uv bv).toArray.toList.drop (1 + 0 + (cells8 (upTo g 16)).length)).toArray) = (psC kv g sv uv bv).toArray := by
    congr 1
  rw [e] at hst
  cases hq : P.info? ty with
  | none => simp [hq] at hi
  | some i =>
    have hs : i.size = 16 := by simpa [hq] using hi
    simp [storeVar, sizeOf, typeInfo, hq, Value.cells, hs, stA_size]
    simpa [stA] using hst
theorem wp_store_ps {P : Program} {o : Oper} {a : Act} {w : World} {K : Act → World → Prop} {Q : Exit → Act → World → Prop} (ty : TypeId) (x y : Operand) (ho : o.op = .store ty x y) (p : Nat) (g : Nat → UInt8) (hx : a.eval x = .pointer (some ⟨p, 1, none⟩)) (hy : a.eval y = .agg (stA g))
    (t : TypeId) (kv : Value) (f : Nat → UInt8) (sv uv bv : Value) (hp : w.heap[p]? = some (.cells (psC kv f sv uv bv).toArray t (0, 0))) (hi : (P.info? ty).map (·.size) = some 16)
    (h : K (a.put o.dst undef) (w.setRow p (psC kv g sv uv bv).toArray)) : o.wp P a w K Q := by
  unfold Oper.wp execOp
  simp only [ho, hx, hy, Instr.storeAt, Instr.sureAddr, Sem.run_bind, Sem.run_pure, Result.andThen_ok, run_store_ps w p t kv f g sv uv bv hp ty hi]
  exact h
theorem wpList_store_ps {P : Program} {ops : Array Oper} {rest : List Oper} {o : Oper} {a : Act} {w : World} {Q : Exit → Act → World → Prop} (hgd : o.guard = none) (ty : TypeId) (x y : Operand) (ho : o.op = .store ty x y) (p : Nat) (g : Nat → UInt8) (hx : a.eval x = .pointer (some ⟨p, 1, none⟩)) (hy : a.eval y = .agg (stA g))
    (t : TypeId) (kv : Value) (f : Nat → UInt8) (sv uv bv : Value) (hp : w.heap[p]? = some (.cells (psC kv f sv uv bv).toArray t (0, 0))) (hi : (P.info? ty).map (·.size) = some 16)
    (h : wpList P ops Q rest (a.put o.dst undef) (w.setRow p (psC kv g sv uv bv).toArray)) : wpList P ops Q (o :: rest) a w :=
  wpList_plain hgd fun _ hK => wp_store_ps ty x y ho p g hx hy t kv f sv uv bv hp hi (hK _ _ h)
/-- what a step leaves as it was: all that lies below B, but the passage. -/
structure Moved (p B : Nat) (w w' : World) : Prop where
  os : w'.os = w.os
  tape : w'.tape = w.tape
  output : w'.output = w.output
  size : w.heap.size ≤ w'.heap.size
  block : ∀ k, k < B → k ≠ p → w'.heap[k]? = w.heap[k]?
theorem Moved.refl (p B : Nat) (w : World) : Moved p B w w := ⟨rfl, rfl, rfl, Nat.le_refl _, fun _ _ _ => rfl⟩
theorem Moved.trans {p B : Nat} {a b c : World} (h : Moved p B a b) (k : Moved p B b c) : Moved p B a c :=
  ⟨k.os.trans h.os, k.tape.trans h.tape, k.output.trans h.output, Nat.le_trans h.size k.size, fun i hi hn => (k.block i hi hn).trans (h.block i hi hn)⟩
theorem Moved.of_below {p B B2 : Nat} {a b : World} (h : Below B2 a b) (hB : B ≤ B2) : Moved p B a b := ⟨h.os, h.tape, h.output, h.size, fun k hk _ => h.block k (by omega)⟩
theorem Moved.drew {p B : Nat} {a b : World} (h : Moved p B a b) : Moved p B a b.drew := ⟨h.os, h.tape, h.output, h.size, h.block⟩
theorem Moved.setRow {p B : Nat} {a b : World} (h : Moved p B a b) (cs : Array Value) : Moved p B a (b.setRow p cs) :=
  ⟨h.os, h.tape, h.output, by rw [size_setRow]; exact h.size, fun k hk hn => (setRow_other b p k cs hn).trans (h.block k hk hn)⟩
theorem Moved.setCell {p B : Nat} {a b : World} (h : Moved p B a b) (j : Nat) (v : Value) : Moved p B a (b.setCell ⟨p, j, none⟩ v) :=
  ⟨h.os, h.tape, h.output, by simpa [World.setCell] using h.size, fun k hk hn => (heap_setCell_other b ⟨p, j, none⟩ k v hn).trans (h.block k hk hn)⟩
theorem Moved.grown {p B : Nat} {a b c : World} {row : Option Nat} (h : Moved p B a b) (hg : b.grownBy c row) (hB : B ≤ b.heap.size) (hr : ∀ k, row = some k → B ≤ k) : Moved p B a c :=
  h.trans ⟨hg.os, hg.tape, hg.output, hg.size, fun k hk _ => hg.block k (by omega) (fun e => by have := hr k e.symm; omega)⟩
theorem Moved.below {p B n : Nat} {a b : World} (h : Moved p B a b) (hp : n ≤ p) (hB : n ≤ B) : Below n a b := ⟨h.os, h.tape, h.output, h.size, fun k hk => h.block k (by omega) (by omega)⟩
theorem st_info16 : (Tryz.prog.info? 146).map (·.size) = some 16 := by kernel_rfl
theorem stA_congr {f g : Nat → UInt8} (h : ∀ i, i < 16 → f i = g i) : stA f = stA g := by
  unfold stA
  congr 2
  unfold upTo; exact List.map_congr_left fun i hi => h i (List.mem_range.1 hi)
/-- a byte out of an array. -/
theorem index_st0 (h : Nat → UInt8) (W : World) : (Instr.index 146 (.agg (stA h)) (.int .i64 0)).run Tryz.prog W = .ok (.int .u8 ((h 0).toNat : Int)) W := by kernel_rfl
theorem index_st1 (h : Nat → UInt8) (W : World) : (Instr.index 146 (.agg (stA h)) (.int .i64 1)).run Tryz.prog W = .ok (.int .u8 ((h 1).toNat : Int)) W := by kernel_rfl
theorem index_st2 (h : Nat → UInt8) (W : World) : (Instr.index 146 (.agg (stA h)) (.int .i64 2)).run Tryz.prog W = .ok (.int .u8 ((h 2).toNat : Int)) W := by kernel_rfl
theorem index_st3 (h : Nat → UInt8) (W : World) : (Instr.index 146 (.agg (stA h)) (.int .i64 3)).run Tryz.prog W = .ok (.int .u8 ((h 3).toNat : Int)) W := by kernel_rfl
theorem index_st4 (h : Nat → UInt8) (W : World) : (Instr.index 146 (.agg (stA h)) (.int .i64 4)).run Tryz.prog W = .ok (.int .u8 ((h 4).toNat : Int)) W := by kernel_rfl
theorem index_st5 (h : Nat → UInt8) (W : World) : (Instr.index 146 (.agg (stA h)) (.int .i64 5)).run Tryz.prog W = .ok (.int .u8 ((h 5).toNat : Int)) W := by kernel_rfl
theorem index_st6 (h : Nat → UInt8) (W : World) : (Instr.index 146 (.agg (stA h)) (.int .i64 6)).run Tryz.prog W = .ok (.int .u8 ((h 6).toNat : Int)) W := by kernel_rfl
theorem index_st7 (h : Nat → UInt8) (W : World) : (Instr.index 146 (.agg (stA h)) (.int .i64 7)).run Tryz.prog W = .ok (.int .u8 ((h 7).toNat : Int)) W := by kernel_rfl
theorem index_st8 (h : Nat → UInt8) (W : World) : (Instr.index 146 (.agg (stA h)) (.int .i64 8)).run Tryz.prog W = .ok (.int .u8 ((h 8).toNat : Int)) W := by kernel_rfl
theorem index_st9 (h : Nat → UInt8) (W : World) : (Instr.index 146 (.agg (stA h)) (.int .i64 9)).run Tryz.prog W = .ok (.int .u8 ((h 9).toNat : Int)) W := by kernel_rfl
theorem index_st10 (h : Nat → UInt8) (W : World) : (Instr.index 146 (.agg (stA h)) (.int .i64 10)).run Tryz.prog W = .ok (.int .u8 ((h 10).toNat : Int)) W := by kernel_rfl
theorem index_st11 (h : Nat → UInt8) (W : World) : (Instr.index 146 (.agg (stA h)) (.int .i64 11)).run Tryz.prog W = .ok (.int .u8 ((h 11).toNat : Int)) W := by kernel_rfl
theorem index_st12 (h : Nat → UInt8) (W : World) : (Instr.index 146 (.agg (stA h)) (.int .i64 12)).run Tryz.prog W = .ok (.int .u8 ((h 12).toNat : Int)) W := by kernel_rfl
theorem index_st13 (h : Nat → UInt8) (W : World) : (Instr.index 146 (.agg (stA h)) (.int .i64 13)).run Tryz.prog W = .ok (.int .u8 ((h 13).toNat : Int)) W := by kernel_rfl
theorem index_st14 (h : Nat → UInt8) (W : World) : (Instr.index 146 (.agg (stA h)) (.int .i64 14)).run Tryz.prog W = .ok (.int .u8 ((h 14).toNat : Int)) W := by kernel_rfl
theorem index_st15 (h : Nat → UInt8) (W : World) : (Instr.index 146 (.agg (stA h)) (.int .i64 15)).run Tryz.prog W = .ok (.int .u8 ((h 15).toNat : Int)) W := by kernel_rfl
theorem index_st (h : Nat → UInt8) (k : Nat) (hk : k < 16) (W : World) : (Instr.index 146 (.agg (stA h)) (.int .i64 (k : Int))).run Tryz.prog W = .ok (.int .u8 ((h k).toNat : Int)) W := by
  have h16 : k = 0 ∨ k = 1 ∨ k = 2 ∨ k = 3 ∨ k = 4 ∨ k = 5 ∨ k = 6 ∨ k = 7 ∨ k = 8 ∨ k = 9 ∨ k = 10 ∨ k = 11 ∨ k = 12 ∨ k = 13 ∨ k = 14 ∨ k = 15 := by omega
  rcases h16 with rfl | rfl | rfl | rfl | rfl | rfl | rfl | rfl | rfl | rfl | rfl | rfl | rfl | rfl | rfl | rfl
  · exact index_st0 h W
  · exact index_st1 h W
  · exact index_st2 h W
  · exact index_st3 h W
  · exact index_st4 h W
  · exact index_st5 h W
  · exact index_st6 h W
  · exact index_st7 h W
  · exact index_st8 h W
  · exact index_st9 h W
  · exact index_st10 h W
  · exact index_st11 h W
  · exact index_st12 h W
  · exact index_st13 h W
  · exact index_st14 h W
  · exact index_st15 h W
/-- bytes of which k are changed. -/
def chTo (f : UInt8 → UInt8) (h : Nat → UInt8) (k : Nat) : Nat → UInt8 := fun j => if j < k then f (h j) else h j
theorem chTo_0 (f : UInt8 → UInt8) (h : Nat → UInt8) : chTo f h 0 = h := by funext j; simp [chTo]
theorem chTo_16 (f : UInt8 → UInt8) (h : Nat → UInt8) : stA (chTo f h 16) = stA (fun i => f (h i)) := stA_congr fun i hi => by unfold chTo; rw [if_pos hi]
theorem stA_set (h : Nat → UInt8) (k : Nat) (c : UInt8) (hk : k < 16) : (stA h).setIfInBounds k (.int .u8 (c.toNat : Int)) = stA (fun j => if j = k then c else h j) := by
  unfold stA
  rw [List.setIfInBounds_toArray]
  congr 1
  apply List.ext_getElem?
  intro j
  unfold cells8
  rw [List.getElem?_set, List.length_map, upTo_length]
  by_cases hj : j < 16
  · rw [List.getElem?_map, List.getElem?_map, upTo_at h 16 j hj, upTo_at _ 16 j hj]
    by_cases he : k = j
    · subst he; simp [hk, cell8]
    · rw [if_neg he, Option.map_some, Option.map_some, if_neg (fun h => he h.symm)]
  · rw [if_neg (by omega), List.getElem?_eq_none (by rw [List.length_map, upTo_length]; omega), List.getElem?_eq_none (by rw [List.length_map, upTo_length]; omega)]
theorem chTo_set (f : UInt8 → UInt8) (h : Nat → UInt8) (k : Nat) (hk : k < 16) : stA (fun j => if j = k then f (h k) else chTo f h k j) = stA (chTo f h (k + 1)) := stA_congr fun i hi => by
  unfold chTo
  by_cases he : i = k
  · subst he; rw [if_pos rfl, if_pos (by omega)]
  · rw [if_neg he]
    by_cases hl : i < k
    · rw [if_pos hl, if_pos (by omega)]
    · rw [if_neg hl, if_neg (by omega)]
theorem StAt.put {w : World} {g : Nat} {h : Nat → UInt8} (hg : StAt w g (stA h)) (k : Nat) (hk : k < 16) (c : UInt8) : StAt (w.setCell ⟨g, k, none⟩ (.int .u8 (c.toNat : Int))) g (stA (fun j => if j = k then c else h j)) := by
  have h2 := heap_setCell_same w g k _ _ (.int .u8 (c.toNat : Int)) hg
  rw [stA_set h k c hk] at h2; exact h2
theorem StAt.cell {w : World} {g : Nat} {h : Nat → UInt8} (hg : StAt w g (stA h)) (k : Nat) (hk : k < 16) : w.cell? ⟨g, k, none⟩ = some (.int .u8 ((h k).toNat : Int)) := (cell_of_row w g k _ _ _ hg).trans (stA_at h k hk)
set_option maxRecDepth 100000 in
set_option maxHeartbeats 1600000 in
theorem changed_impl (f : UInt8 → UInt8) (h : Nat → UInt8) (q : Nat) (w : World) (hq : BoxAt w q f) :
    Calls Tryz.prog 176 #[.agg (stA h), reader q] w fun e w' => e = .returned (.agg (stA (fun i => f (h i)))) ∧ Below w.heap.size w w' := by
  obtain ⟨n1, n2, n3, n4⟩ := two_new w (stA h) zero16 146 146
  have hsA := stA_info h
  have HQ : Hid (∀ W, Below w.heap.size w W → BoxAt W q f) := Lib.hid (fun W hW => hq.below hW hq.lt)
  have IX := fun k hk W => Lib.hid (index_st h k hk W)
  obtain ⟨A, hA⟩ : ∃ A, stA h = A := ⟨_, rfl⟩
  rw [hA] at n1 n2 n3 n4 hsA IX ⊢
  have HA := Lib.hid hA
  clear hA hq
  unfold reader
  go_enter Tryz.func176, Tryz.ntmps176
  unfold zero16 at n1 n2 n3 n4
  go_wp2_with (refine wpList_load_row rfl 146 _ rfl w.heap.size rfl 146 A (0, 0) _ n1 Tryz.underlying146 rfl hsA ?_)
  obtain ⟨W, hW⟩ : ∃ W, (w.alloc (.cells A 146)).alloc (.cells #[.int .u8 0, .int .u8 0, .int .u8 0, .int .u8 0, .int .u8 0, .int .u8 0, .int .u8 0, .int .u8 0, .int .u8 0, .int .u8 0, .int .u8 0, .int .u8 0, .int .u8 0, .int .u8 0, .int .u8 0, .int .u8 0] 146) = W := ⟨_, rfl⟩
  rw [hW] at n1 n2 n3 n4 ⊢
  have N1 : StAt W w.heap.size (stA (chTo f h 0)) := by rw [chTo_0, HA.out]; exact n1
  have N2 : StAt W (w.heap.size + 1) zero16 := n2
  clear n1 n2 n4 hW hsA
  go_loopw [8] (fun v wr => ∃ k : Nat, k ≤ 16 ∧ v = .int .i64 k ∧ StAt wr w.heap.size (stA (chTo f h k)) ∧ StAt wr (w.heap.size + 1) zero16 ∧ Below w.heap.size w wr) (fun v _ => 16 - (intOf v).toNat)
  case atStart => exact ⟨0, by omega, rfl, N1, N2, n3⟩
  case round =>
    obtain ⟨k, hk, rfl, g1, g2, hbel⟩ := hrel
    by_cases hlt : k < 16
    · have hk1 : (k : Int) < 16 := by omega
      have hk0 : (0 : Int) ≤ (k : Int) := by omega
      have hix := (IX k hlt wr).out
      have HR := Lib.hid (reads f (h k) wr q (HQ.out wr hbel))
      have hz := g1.cell k hlt
      have hfz := frozen_of_row wr _ k _ _ g1
      have G1 : Hid (StAt (wr.setCell ⟨w.heap.size, k, none⟩ (.int .u8 ((f (h k)).toNat : Int))) w.heap.size (stA (chTo f h (k + 1)))) := Lib.hid (by rw [← chTo_set f h k hlt]; exact g1.put k hlt _)
      have G2 := fun v => Lib.hid (g2.far (b := w.heap.size) k v (by omega))
      have HB := fun v => Lib.hid (hbel.setCell (p := ⟨w.heap.size, k, none⟩) (Nat.le_refl _) v)
      generalize h k = x at *
      generalize f x = y at *
      clear g1 g2 hbel N1 N2 n3 HA IX
      go_wp2_with fail
      refine HR.out.mono ?_; rintro e w1 ⟨rfl, rfl⟩
      go_wp2
      go_roundw
      case rel => exact ⟨k + 1, by omega, by go_num, G1.out, (G2 _).out, (HB _).out⟩
      case measure => simp [intOf]; omega
    · obtain rfl : k = 16 := by omega
      rw [chTo_16] at g1
      have hone := stA_one (fun i => f (h i))
      have hsi := stA_info (fun i => f (h i))
      have hz : zero16.size = (stA (fun i => f (h i))).size := by rw [stA_size]; rfl
      have hsr := setRow_heap wr _ _ (stA fun i => f (h i)) _ _ g2
      have hbs : Hid (Below w.heap.size w (wr.setRow (w.heap.size + 1) (stA fun i => f (h i)))) := Lib.hid (below_setRow hbel (by omega) _)
      generalize hR : stA (fun i => f (h i)) = R at *
      have HR := Lib.hid hR
      clear hR
      have G1 := Lib.hid g1
      have G2 := Lib.hid g2
      have HSR := Lib.hid hsr
      clear g1 g2 hsr N1 N2 n3 hbel IX HA HQ
      go_wp2_with (first
        | (refine wpList_load_row rfl 146 _ rfl w.heap.size rfl 146 R (0, 0) _ G1.out Tryz.underlying146 rfl hsi ?_)
        | (refine wpList_store_row rfl 146 _ _ rfl (w.heap.size + 1) R rfl rfl 146 zero16 G2.out hsi hz hone ?_))
      refine bodyPost_ret (v := .agg R) ?_ rfl ⟨by rw [HR.out], hbs.out⟩
      exact results_cell_row rfl _ _ (w.heap.size + 1) 146 R (0, 0) _ rfl HSR.out Tryz.underlying146 rfl hsi
end Go.Proofs.YtbfmbdohebdbaaaGreatDoor
set_option linter.unusedVariables false
set_option linter.unusedSimpArgs false
namespace Go.Proofs.YtbfmbdohebdbaaaGreatDoor
open Go Go.RowKit
attribute [local go_sem] u8_xor_bytes
attribute [local go_sem ↓] Go.wp_at_zero Go.wp_at_succ

/-- bytes of which k are added to. -/
def adTo (f g : Nat → UInt8) (k : Nat) : Nat → UInt8 := fun j => if j < k then f j ^^^ g j else f j
theorem adTo_0 (f g : Nat → UInt8) : adTo f g 0 = f := by funext j; simp [adTo]
theorem adTo_at (f g : Nat → UInt8) (k : Nat) : adTo f g k k = f k := by unfold adTo; rw [if_neg (Nat.lt_irrefl _)]
theorem adTo_set (f g : Nat → UInt8) (k i : Nat) : (if i = k then f k ^^^ g k else adTo f g k i) = adTo f g (k + 1) i := by
  unfold adTo
  by_cases he : i = k
  · subst he; rw [if_pos rfl, if_pos (by omega)]
  · rw [if_neg he]
    by_cases hl : i < k
    · rw [if_pos hl, if_pos (by omega)]
    · rw [if_neg hl, if_neg (by omega)]
theorem adTo_16 (f g : Nat → UInt8) (i : Nat) (hi : i < 16) : adTo f g 16 i = f i ^^^ g i := by unfold adTo; rw [if_pos hi]
/-- the text of a state that lies in a passage. -/
theorem conv_ps {w : World} {p : Nat} {kv sv uv bv : Value} {f : Nat → UInt8} (h : PsAt w p kv f sv uv bv) :
    (convert 22 9 (.slice (some ⟨p, 1, none⟩) 16 16)).run Tryz.prog w = .ok (.string (txt f 16)) w := by
  have hB : Lib.Bytes w p 1 (txt f 16) := fun i hi => by
    have hi' : i < 16 := by rw [txt_size] at hi; exact hi
    rw [h.ci i hi', byteOf_at, txt_byte f 16 i hi']
  have := Lib.run_convert_whole (P := Tryz.prog) w 22 5 9 Tryz.underlying22 Tryz.underlying5 Tryz.underlying9 p 1 (txt f 16) hB 16
  rw [txt_size] at this
  exact this
theorem own_far {w : World} {B p e n size : Nat} {v : Value} {xs : List Value} (h : w.ownsRow B e size v n xs) (hp : p < B) (j : Nat) (u : Value) : (w.setCell ⟨p, j, none⟩ u).ownsRow B e size v n xs := by
  refine ⟨h.1, ?_⟩
  rcases h.2 with hn | ⟨g, cap, cur, hv, hB, hg, rest⟩
  · exact .inl hn
  · exact .inr ⟨g, cap, cur, hv, hB, (heap_setCell_other w ⟨p, j, none⟩ g u (by show g ≠ p; omega)).trans hg, rest⟩
/-- what the append and the store behind it leave. -/
theorem add_fin {w W : World} {p B m : Nat} {kv sv uv bv : Value} {F : Nat → UInt8} {l : List Value} {X : ByteArray} (hm : m ≤ 1000) (hpB : p < B) (hB : B ≤ W.heap.size)
    (h1 : PsAt (W.alloc (.cells #[.string X] 9)) p kv F sv uv bv) (ho : W.ownsRow B 9 1 bv m l) (hmv : Moved p B w W) (hsz : w.heap.size ≤ W.heap.size) :
    ∀ g2 cap2 w5, w5.ownsRow B 9 1 (.slice (some ⟨g2, 0, none⟩) (m + 1) cap2) (m + 1) (l ++ [.string X]) → (W.alloc (.cells #[.string X] 9)).grownBy w5 bv.ownBlock →
      Hid (PsAt w5 p kv F sv uv bv) ∧ Hid (PsAt (w5.setCell ⟨p, 19, none⟩ (.slice (some ⟨g2, 0, none⟩) (m + 1) cap2)) p kv F sv uv (.slice (some ⟨g2, 0, none⟩) (m + 1) cap2)) ∧
      Hid ((w5.setCell ⟨p, 19, none⟩ (.slice (some ⟨g2, 0, none⟩) (m + 1) cap2)).ownsRow B 9 1 (.slice (some ⟨g2, 0, none⟩) (m + 1) cap2) (m + 1) (l ++ [.string X])) ∧
      Hid (Moved p B w (w5.setCell ⟨p, 19, none⟩ (.slice (some ⟨g2, 0, none⟩) (m + 1) cap2))) ∧ Hid (w.heap.size ≤ (w5.setCell ⟨p, 19, none⟩ (.slice (some ⟨g2, 0, none⟩) (m + 1) cap2)).heap.size) := by
  intro g2 cap2 w5 hown5 hgrow
  have hr : ∀ k, bv.ownBlock = some k → B ≤ k := fun k e => (ho.lt k e).1
  have q1 : PsAt w5 p kv F sv uv bv := h1.of_block (hgrow.block p h1.lt (fun e => by have := hr p e.symm; omega))
  have hm2 : Moved p B w (W.alloc (.cells #[.string X] 9)) := hmv.trans (Moved.of_below ((Below.refl _ _).alloc (Nat.le_refl _) _) hB)
  have hm3 := hm2.grown hgrow (by simp; omega) hr
  refine ⟨Lib.hid q1, Lib.hid (q1.blocks _), Lib.hid (own_far hown5 hpB _ _), Lib.hid (hm3.setCell _ _), Lib.hid ?_⟩
  have h5 := hgrow.size
  simp [World.setCell] at h5 ⊢
  omega
set_option maxRecDepth 100000 in
set_option maxHeartbeats 1600000 in
theorem add_impl (p B : Nat) (kv sv uv bv : Value) (f g : Nat → UInt8) (m : Nat) (l : List Value) (hm : m ≤ 1000) (w : World) (hp : PsAt w p kv f sv uv bv) (ho : w.ownsRow B 9 1 bv m l) (hpB : p < B) (hB : B ≤ w.heap.size) :
    Calls Tryz.prog 174 #[.pointer (some ⟨p, 0, none⟩), .agg (stA g)] w fun e w' => e = .returned (.tuple #[]) ∧ ∃ bv', PsAt w' p kv (fun i => f i ^^^ g i) sv uv bv' ∧ w'.ownsRow B 9 1 bv' (m + 1) (l ++ [.string (txt (fun i => f i ^^^ g i) 16)]) ∧ Moved p B w w' ∧ w.heap.size ≤ w'.heap.size := by
  obtain ⟨F, hF⟩ : ∃ F : Nat → UInt8, (fun i => f i ^^^ g i) = F := ⟨_, rfl⟩
  rw [hF]
  have HF := Lib.hid hF
  obtain ⟨X, hX⟩ : ∃ X, txt F 16 = X := ⟨_, rfl⟩
  rw [hX]
  have HX := Lib.hid hX
  clear hF hX
  have hsA := stA_info g
  have n1 := heap_alloc_new w (.cells (stA g) 146)
  have hp2 : PsAt (w.alloc (.cells (stA g) 146)) p kv (adTo f g 0) sv uv bv := by rw [adTo_0]; exact hp.of_block (heap_alloc_old _ _ hp.lt)
  have ho2 := ho.alloc (.cells (stA g) 146)
  have hmv : Moved p B w (w.alloc (.cells (stA g) 146)) := Moved.of_below ((Below.refl _ _).alloc (Nat.le_refl _) _) hB
  have hsz : w.heap.size ≤ (w.alloc (.cells (stA g) 146)).heap.size := by simp
  have IX := fun k hk W => Lib.hid (index_st g k hk W)
  obtain ⟨A, hA⟩ : ∃ A, stA g = A := ⟨_, rfl⟩
  rw [hA] at n1 hp2 ho2 hmv hsz hsA IX ⊢
  clear hA hp ho
  go_enter Tryz.func174, Tryz.ntmps174
  go_wp2_with (refine wpList_load_row rfl 146 _ rfl w.heap.size rfl 146 A (0, 0) _ n1 Tryz.underlying146 rfl hsA ?_)
  generalize w.alloc (.cells A 146) = W at *
  clear n1 hsA
  go_loopw [7] (fun v wr => ∃ k : Nat, k ≤ 16 ∧ v = .int .i64 k ∧ PsAt wr p kv (adTo f g k) sv uv bv ∧ wr.ownsRow B 9 1 bv m l ∧ Moved p B w wr ∧ w.heap.size ≤ wr.heap.size) (fun v _ => 16 - (intOf v).toNat)
  case atStart => exact ⟨0, by omega, rfl, hp2, ho2, hmv, hsz⟩
  case round =>
    obtain ⟨k, hk, rfl, g1, g2, g3, g4⟩ := hrel
    by_cases hlt : k < 16
    · have hk1 : (k : Int) < 16 := by omega
      have hk0 : (0 : Int) ≤ (k : Int) := by omega
      have hix := (IX k hlt wr).out
      have hz := g1.ci k hlt
      rw [adTo_at] at hz
      have hfz := g1.fz (1 + k)
      have G1 : Hid (PsAt (wr.drew.setCell ⟨p, 1 + k, none⟩ (.int .u8 (((f k ^^^ g k)).toNat : Int))) p kv (adTo f g (k + 1)) sv uv bv) := Lib.hid (PsAt.congr (PsAt.byte (w := wr.drew) (g1.of_block rfl) k hlt (f k ^^^ g k)) (fun i hi => adTo_set f g k i))
      have G2 : Hid ((wr.drew.setCell ⟨p, 1 + k, none⟩ (.int .u8 (((f k ^^^ g k)).toNat : Int))).ownsRow B 9 1 bv m l) := Lib.hid (own_far (w := wr.drew) g2 hpB _ _)
      have G3 : Hid (Moved p B w (wr.drew.setCell ⟨p, 1 + k, none⟩ (.int .u8 (((f k ^^^ g k)).toNat : Int)))) := Lib.hid (g3.drew.setCell _ _)
      have G4 : Hid (w.heap.size ≤ (wr.drew.setCell ⟨p, 1 + k, none⟩ (.int .u8 (((f k ^^^ g k)).toNat : Int))).heap.size) := Lib.hid (by simpa [World.setCell] using g4)
      generalize f k = x at *
      generalize g k = y at *
      rw [UInt8.toNat_xor] at G1 G2 G3 G4
      clear g1 g2 g3 g4 hp2 ho2 hmv hsz IX
      go_wp2
      go_still_tail 11, (by kernel_rfl)
      change wpList _ _ _ _ _ wr.drew
      go_wp2
      go_roundw
      case rel => exact ⟨k + 1, by omega, by go_num, G1.out, G2.out, G3.out, G4.out⟩
      case measure => simp [intOf]; omega
    · obtain rfl : k = 16 := by omega
      have g1 := g1.congr (fun i hi => adTo_16 f g i hi)
      rw [HF.out] at g1
      obtain ⟨i0, hi, hz0, hz1, hz2⟩ := info_parts Lk.infoS
      have P0 : Hid (PsAt wr.drew p kv F sv uv bv) := Lib.hid (g1.of_block rfl)
      have hX := HX.out
      have P1 : Hid (PsAt (wr.drew.alloc (.cells #[.string X] 9)) p kv F sv uv bv) := Lib.hid (P0.out.of_block (heap_alloc_old _ _ P0.out.lt))
      have OW : Hid (wr.drew.ownsRow B 9 1 bv m l) := Lib.hid g2
      have HSZ : Hid (B ≤ wr.heap.size) := Lib.hid (by omega)
      have FIN := Lib.hid (add_fin (X := X) hm hpB (show B ≤ wr.drew.heap.size from HSZ.out) P1.out OW.out g3.drew (show w.heap.size ≤ wr.drew.heap.size from g4))
      have c19 := P0.out.c19
      have c19b : (wr.alloc (.cells #[.string X] 9)).cell? ⟨p, 19, none⟩ = some bv := P1.out.c19
      clear g1 g2 g3 g4 hp2 ho2 hmv hsz IX
      go_wp2
      refine wp_region_held_drew (S := fun W' => ∃ v, PsAt W' p kv F sv uv v) (by kernel_rfl) ⟨_, P0.out⟩ (fun hS0 => ?_)
      refine tk 0 (v := ?_) ?_ hS0 ?_
      rotate_left
      · intro w hSw
        go_simp
        first | done | with_reducible rfl
      try simp only [lay]
      refine tk 1 (v := ?_) ?_ hS0 ?_
      rotate_left
      · intro w hSw
        go_simp
        first | done | with_reducible rfl
      try simp only [lay]
      refine tk 2 (v := ?_) ?_ hS0 ?_
      rotate_left
      · intro w hSw
        go_simp
        first | done | with_reducible rfl
      try simp only [lay]
      refine tk 3 (v := ?_) ?_ hS0 ?_
      rotate_left
      · intro w hSw
        go_simp
        first | done | with_reducible rfl
      try simp only [lay]
      refine tk 5 (v := ?_) ?_ hS0 ?_
      rotate_left
      · intro w hSw
        go_simp
        first | done | with_reducible rfl
      try simp only [lay]
      refine tk 6 (v := ?_) ?_ hS0 ?_
      rotate_left
      · intro w hSw
        go_simp
        first | done | with_reducible rfl
      try simp only [lay]
      refine tk 7 (v := ?_) ?_ hS0 ?_
      rotate_left
      · intro w hSw
        go_simp
        first | done | with_reducible rfl
      try simp only [lay]
      refine tk 8 (v := ?_) ?_ hS0 ?_
      rotate_left
      · intro w hSw
        go_simp
        first | done | with_reducible rfl
      try simp only [lay]
      refine tk 9 (v := ?_) ?_ hS0 ?_
      rotate_left
      · intro w hSw
        obtain ⟨v, hv⟩ := hSw
        have hcv := conv_ps hv
        rw [hX] at hcv
        clear hv
        go_simp
        first | done | with_reducible rfl
      try simp only [lay]
      refine wpAnyH_ready (rs := [4, 10]) (by kernel_rfl) (by simp) ?_
      refine AllReadyH.cons rfl (fun K hK => ?_) (AllReadyH.cons rfl (fun K hK => ?_) AllReadyH.nil)
      · go_simp
        refine hK.out _ _ ⟨_, P0.out⟩ (fun hS1 => ?_)
        clear hK K
        try simp only [lay]
        refine wpAnyH_ready (rs := [10]) (by kernel_rfl) (by simp) ?_
        refine AllReadyH.cons rfl (fun K hK => ?_) AllReadyH.nil
        go_simp
        refine hK.out _ _ ⟨_, P1.out⟩ (fun hS1 => ?_)
        clear hK K
        try simp only [lay]
        refine wpAnyH_ready (rs := [11]) (by kernel_rfl) (by simp) ?_
        refine AllReadyH.cons rfl (fun K hK => ?_) AllReadyH.nil
        refine Eq.mpr (if_pos (by rfl)) ?_
        refine wp_append_lies (wr.drew.alloc (.cells #[.string X] 9)) (.tmp 27) (.tmp 33) 46 rfl B 9 i0 (.string ByteArray.empty) 1 16 Tryz.underlying46 hi hz0 hz1 hz2 rfl (by decide) bv m l rfl (OW.out.alloc _) ⟨wr.heap.size, 0, none⟩ 1 1 [.string X] rfl rfl (World.news_of_block (cs := #[.string X]) (heap_alloc_new wr.drew _)) (by simp [Value.oneCell']) (by omega) (by unfold maxLen; omega) (by omega) (by have := HSZ.out; simp; omega) (wr.heap.size + 1) (by simp) ?_
        intro g2 cap2 w5 hown5 hgrow hat hlt5
        obtain ⟨Q1, Q2, Q3, Q4, Q5⟩ := FIN.out g2 cap2 w5 hown5 hgrow
        have k19 := Q1.out.c19
        have k19f := Q1.out.fz 19
        clear hown5 hgrow hat hlt5
        refine hK.out _ _ ⟨_, Q1.out⟩ (fun hS2 => ?_)
        clear hK K
        try simp only [lay]
        refine tk 12 (v := ?_) ?_ hS2 ?_
        rotate_left
        · intro w hSw
          go_simp
          first | done | with_reducible rfl
        try simp only [lay]
        refine tk 13 (v := ?_) ?_ hS2 ?_
        rotate_left
        · intro w hSw
          go_simp
          first | done | with_reducible rfl
        try simp only [lay]
        refine wpAnyH_ready (rs := [14]) (by kernel_rfl) (by simp) ?_
        refine AllReadyH.cons rfl (fun K hK => ?_) AllReadyH.nil
        go_simp
        refine hK.out _ _ ⟨_, Q2.out⟩ (fun hS3 => ?_)
        clear hK K
        try simp only [lay]
        refine wpAnyH_done (by kernel_rfl) ?_ _
        clear hS0 hS1 hS2 hS3
        go_wp2
        go_end0
        exact ⟨rfl, _, Q2.out, Q3.out, Q4.out, Q5.out⟩
      · go_simp
        refine hK.out _ _ ⟨_, P1.out⟩ (fun hS1 => ?_)
        clear hK K
        try simp only [lay]
        refine wpAnyH_ready (rs := [4]) (by kernel_rfl) (by simp) ?_
        refine AllReadyH.cons rfl (fun K hK => ?_) AllReadyH.nil
        go_simp
        refine hK.out _ _ ⟨_, P1.out⟩ (fun hS1 => ?_)
        clear hK K
        try simp only [lay]
        refine wpAnyH_ready (rs := [11]) (by kernel_rfl) (by simp) ?_
        refine AllReadyH.cons rfl (fun K hK => ?_) AllReadyH.nil
        refine Eq.mpr (if_pos (by rfl)) ?_
        refine wp_append_lies (wr.drew.alloc (.cells #[.string X] 9)) (.tmp 27) (.tmp 33) 46 rfl B 9 i0 (.string ByteArray.empty) 1 16 Tryz.underlying46 hi hz0 hz1 hz2 rfl (by decide) bv m l rfl (OW.out.alloc _) ⟨wr.heap.size, 0, none⟩ 1 1 [.string X] rfl rfl (World.news_of_block (cs := #[.string X]) (heap_alloc_new wr.drew _)) (by simp [Value.oneCell']) (by omega) (by unfold maxLen; omega) (by omega) (by have := HSZ.out; simp; omega) (wr.heap.size + 1) (by simp) ?_
        intro g2 cap2 w5 hown5 hgrow hat hlt5
        obtain ⟨Q1, Q2, Q3, Q4, Q5⟩ := FIN.out g2 cap2 w5 hown5 hgrow
        have k19 := Q1.out.c19
        have k19f := Q1.out.fz 19
        clear hown5 hgrow hat hlt5
        refine hK.out _ _ ⟨_, Q1.out⟩ (fun hS2 => ?_)
        clear hK K
        try simp only [lay]
        refine tk 12 (v := ?_) ?_ hS2 ?_
        rotate_left
        · intro w hSw
          go_simp
          first | done | with_reducible rfl
        try simp only [lay]
        refine tk 13 (v := ?_) ?_ hS2 ?_
        rotate_left
        · intro w hSw
          go_simp
          first | done | with_reducible rfl
        try simp only [lay]
        refine wpAnyH_ready (rs := [14]) (by kernel_rfl) (by simp) ?_
        refine AllReadyH.cons rfl (fun K hK => ?_) AllReadyH.nil
        go_simp
        refine hK.out _ _ ⟨_, Q2.out⟩ (fun hS3 => ?_)
        clear hK K
        try simp only [lay]
        refine wpAnyH_done (by kernel_rfl) ?_ _
        clear hS0 hS1 hS2 hS3
        go_wp2
        go_end0
        exact ⟨rfl, _, Q2.out, Q3.out, Q4.out, Q5.out⟩
end Go.Proofs.YtbfmbdohebdbaaaGreatDoor
set_option linter.unusedVariables false
set_option linter.unusedSimpArgs false
namespace Go.Proofs.YtbfmbdohebdbaaaGreatDoor
open Go Go.RowKit
attribute [local go_sem ↓] Go.wp_at_zero Go.wp_at_succ

set_option maxRecDepth 100000 in
set_option maxHeartbeats 1600000 in
theorem shiftRows_step (p B : Nat) (kv sv uv bv : Value) (f g : Nat → UInt8) (w : World) (hp : PsAt w p kv f sv uv bv) (hB : B ≤ w.heap.size)
    (HC : Hid (Calls Tryz.prog 179 #[.agg (stA f)] w fun e w' => e = .returned (.agg (stA g)) ∧ Below w.heap.size w w')) :
    Calls Tryz.prog 161 #[.pointer (some ⟨p, 0, none⟩)] w fun e w' => e = .returned (.tuple #[]) ∧ PsAt w' p kv g sv uv bv ∧ Moved p B w w' ∧ w.heap.size ≤ w'.heap.size := by
  have hi := st_info16
  have hr := Lib.hid hp.range
  have hlen : (Tryz.prog.info? 146).map (·.size) = some (cells8 (upTo f 16)).length := by rw [cells8_length, upTo_length]; exact hi
  have hps : Hid (∀ w1, Below w.heap.size w w1 → PsAt w1 p kv f sv uv bv) := Lib.hid (fun w1 h => hp.of_block (h.block p hp.lt))
  unfold stA at HC
  obtain ⟨L, hL⟩ : ∃ L, cells8 (upTo f 16) = L := ⟨_, rfl⟩
  rw [hL] at hr hlen HC
  clear hL hp
  go_enter Tryz.func161, Tryz.ntmps161
  go_wp2_with (refine wpList_load_mid rfl 146 _ rfl p 1 rfl L _ hr.out Tryz.underlying146 rfl hlen ?_)
  refine HC.out.mono ?_; rintro e w1 ⟨rfl, hb1⟩
  have q1 := Lib.hid (hps.out w1 hb1)
  have M1 := Lib.hid ((Moved.of_below (p := p) hb1 hB).setRow (psC kv g sv uv bv).toArray)
  have M2 : Hid (PsAt (w1.setRow p (psC kv g sv uv bv).toArray) p kv g sv uv bv) := Lib.hid (setRow_heap w1 p _ _ _ _ q1.out)
  have M3 : Hid (w.heap.size ≤ (w1.setRow p (psC kv g sv uv bv).toArray).heap.size) := Lib.hid (by rw [size_setRow]; exact hb1.size)
  clear hb1 hps HC hr hlen
  go_wp2_with (refine wpList_store_ps rfl 146 _ _ rfl p g rfl rfl 202 kv f sv uv bv q1.out hi ?_)
  go_end0
  exact ⟨rfl, M2.out, M1.out, M3.out⟩
set_option maxRecDepth 100000 in
set_option maxHeartbeats 1600000 in
theorem unshiftRows_step (p B : Nat) (kv sv uv bv : Value) (f g : Nat → UInt8) (w : World) (hp : PsAt w p kv f sv uv bv) (hB : B ≤ w.heap.size)
    (HC : Hid (Calls Tryz.prog 175 #[.agg (stA f)] w fun e w' => e = .returned (.agg (stA g)) ∧ Below w.heap.size w w')) :
    Calls Tryz.prog 149 #[.pointer (some ⟨p, 0, none⟩)] w fun e w' => e = .returned (.tuple #[]) ∧ PsAt w' p kv g sv uv bv ∧ Moved p B w w' ∧ w.heap.size ≤ w'.heap.size := by
  have hi := st_info16
  have hr := Lib.hid hp.range
  have hlen : (Tryz.prog.info? 146).map (·.size) = some (cells8 (upTo f 16)).length := by rw [cells8_length, upTo_length]; exact hi
  have hps : Hid (∀ w1, Below w.heap.size w w1 → PsAt w1 p kv f sv uv bv) := Lib.hid (fun w1 h => hp.of_block (h.block p hp.lt))
  unfold stA at HC
  obtain ⟨L, hL⟩ : ∃ L, cells8 (upTo f 16) = L := ⟨_, rfl⟩
  rw [hL] at hr hlen HC
  clear hL hp
  go_enter Tryz.func149, Tryz.ntmps149
  go_wp2_with (refine wpList_load_mid rfl 146 _ rfl p 1 rfl L _ hr.out Tryz.underlying146 rfl hlen ?_)
  refine HC.out.mono ?_; rintro e w1 ⟨rfl, hb1⟩
  have q1 := Lib.hid (hps.out w1 hb1)
  have M1 := Lib.hid ((Moved.of_below (p := p) hb1 hB).setRow (psC kv g sv uv bv).toArray)
  have M2 : Hid (PsAt (w1.setRow p (psC kv g sv uv bv).toArray) p kv g sv uv bv) := Lib.hid (setRow_heap w1 p _ _ _ _ q1.out)
  have M3 : Hid (w.heap.size ≤ (w1.setRow p (psC kv g sv uv bv).toArray).heap.size) := Lib.hid (by rw [size_setRow]; exact hb1.size)
  clear hb1 hps HC hr hlen
  go_wp2_with (refine wpList_store_ps rfl 146 _ _ rfl p g rfl rfl 202 kv f sv uv bv q1.out hi ?_)
  go_end0
  exact ⟨rfl, M2.out, M1.out, M3.out⟩
set_option maxRecDepth 100000 in
set_option maxHeartbeats 1600000 in
theorem mixColumns_step (p B : Nat) (kv sv uv bv : Value) (f g : Nat → UInt8) (w : World) (hp : PsAt w p kv f sv uv bv) (hB : B ≤ w.heap.size)
    (HC : Hid (Calls Tryz.prog 180 #[.agg (stA f)] w fun e w' => e = .returned (.agg (stA g)) ∧ Below w.heap.size w w')) :
    Calls Tryz.prog 162 #[.pointer (some ⟨p, 0, none⟩)] w fun e w' => e = .returned (.tuple #[]) ∧ PsAt w' p kv g sv uv bv ∧ Moved p B w w' ∧ w.heap.size ≤ w'.heap.size := by
  have hi := st_info16
  have hr := Lib.hid hp.range
  have hlen : (Tryz.prog.info? 146).map (·.size) = some (cells8 (upTo f 16)).length := by rw [cells8_length, upTo_length]; exact hi
  have hps : Hid (∀ w1, Below w.heap.size w w1 → PsAt w1 p kv f sv uv bv) := Lib.hid (fun w1 h => hp.of_block (h.block p hp.lt))
  unfold stA at HC
  obtain ⟨L, hL⟩ : ∃ L, cells8 (upTo f 16) = L := ⟨_, rfl⟩
  rw [hL] at hr hlen HC
  clear hL hp
  go_enter Tryz.func162, Tryz.ntmps162
  go_wp2_with (refine wpList_load_mid rfl 146 _ rfl p 1 rfl L _ hr.out Tryz.underlying146 rfl hlen ?_)
  refine HC.out.mono ?_; rintro e w1 ⟨rfl, hb1⟩
  have q1 := Lib.hid (hps.out w1 hb1)
  have M1 := Lib.hid ((Moved.of_below (p := p) hb1 hB).setRow (psC kv g sv uv bv).toArray)
  have M2 : Hid (PsAt (w1.setRow p (psC kv g sv uv bv).toArray) p kv g sv uv bv) := Lib.hid (setRow_heap w1 p _ _ _ _ q1.out)
  have M3 : Hid (w.heap.size ≤ (w1.setRow p (psC kv g sv uv bv).toArray).heap.size) := Lib.hid (by rw [size_setRow]; exact hb1.size)
  clear hb1 hps HC hr hlen
  go_wp2_with (refine wpList_store_ps rfl 146 _ _ rfl p g rfl rfl 202 kv f sv uv bv q1.out hi ?_)
  go_end0
  exact ⟨rfl, M2.out, M1.out, M3.out⟩
set_option maxRecDepth 100000 in
set_option maxHeartbeats 1600000 in
theorem unmixColumns_step (p B : Nat) (kv sv uv bv : Value) (f g : Nat → UInt8) (w : World) (hp : PsAt w p kv f sv uv bv) (hB : B ≤ w.heap.size)
    (HC : Hid (Calls Tryz.prog 177 #[.agg (stA f)] w fun e w' => e = .returned (.agg (stA g)) ∧ Below w.heap.size w w')) :
    Calls Tryz.prog 152 #[.pointer (some ⟨p, 0, none⟩)] w fun e w' => e = .returned (.tuple #[]) ∧ PsAt w' p kv g sv uv bv ∧ Moved p B w w' ∧ w.heap.size ≤ w'.heap.size := by
  have hi := st_info16
  have hr := Lib.hid hp.range
  have hlen : (Tryz.prog.info? 146).map (·.size) = some (cells8 (upTo f 16)).length := by rw [cells8_length, upTo_length]; exact hi
  have hps : Hid (∀ w1, Below w.heap.size w w1 → PsAt w1 p kv f sv uv bv) := Lib.hid (fun w1 h => hp.of_block (h.block p hp.lt))
  unfold stA at HC
  obtain ⟨L, hL⟩ : ∃ L, cells8 (upTo f 16) = L := ⟨_, rfl⟩
  rw [hL] at hr hlen HC
  clear hL hp
  go_enter Tryz.func152, Tryz.ntmps152
  go_wp2_with (refine wpList_load_mid rfl 146 _ rfl p 1 rfl L _ hr.out Tryz.underlying146 rfl hlen ?_)
  refine HC.out.mono ?_; rintro e w1 ⟨rfl, hb1⟩
  have q1 := Lib.hid (hps.out w1 hb1)
  have M1 := Lib.hid ((Moved.of_below (p := p) hb1 hB).setRow (psC kv g sv uv bv).toArray)
  have M2 : Hid (PsAt (w1.setRow p (psC kv g sv uv bv).toArray) p kv g sv uv bv) := Lib.hid (setRow_heap w1 p _ _ _ _ q1.out)
  have M3 : Hid (w.heap.size ≤ (w1.setRow p (psC kv g sv uv bv).toArray).heap.size) := Lib.hid (by rw [size_setRow]; exact hb1.size)
  clear hb1 hps HC hr hlen
  go_wp2_with (refine wpList_store_ps rfl 146 _ _ rfl p g rfl rfl 202 kv f sv uv bv q1.out hi ?_)
  go_end0
  exact ⟨rfl, M2.out, M1.out, M3.out⟩
set_option maxRecDepth 100000 in
set_option maxHeartbeats 1600000 in
theorem boxBytes_step (p B q : Nat) (kv uv bv : Value) (f g : Nat → UInt8) (w : World) (hp : PsAt w p kv f (reader q) uv bv) (hB : B ≤ w.heap.size)
    (HC : Hid (Calls Tryz.prog 176 #[.agg (stA f), reader q] w.drew fun e w' => e = .returned (.agg (stA g)) ∧ Below w.drew.heap.size w.drew w')) :
    Calls Tryz.prog 160 #[.pointer (some ⟨p, 0, none⟩)] w fun e w' => e = .returned (.tuple #[]) ∧ PsAt w' p kv g (reader q) uv bv ∧ Moved p B w w' ∧ w.heap.size ≤ w'.heap.size := by
  have hi := st_info16
  have P0 : Hid (PsAt w.drew p kv f (reader q) uv bv) := Lib.hid (hp.of_block rfl)
  have hr := Lib.hid P0.out.range
  have hlen : (Tryz.prog.info? 146).map (·.size) = some (cells8 (upTo f 16)).length := by rw [cells8_length, upTo_length]; exact hi
  have hps : Hid (∀ w1, Below w.drew.heap.size w.drew w1 → PsAt w1 p kv f (reader q) uv bv) := Lib.hid (fun w1 h => hp.of_block (h.block p hp.lt))
  unfold stA reader at HC
  obtain ⟨L, hL⟩ : ∃ L, cells8 (upTo f 16) = L := ⟨_, rfl⟩
  rw [hL] at hr hlen HC
  clear hL hp
  go_enter Tryz.func160, Tryz.ntmps160
  refine wp_region_held_drew (S := fun W' => ∃ h, PsAt W' p kv h (reader q) uv bv) (by kernel_rfl) ⟨_, P0.out⟩ (fun hS0 => ?_)
  refine tk 0 (v := ?_) ?_ hS0 ?_
  rotate_left
  · intro w hSw
    go_simp
    first | done | with_reducible rfl
  try simp only [lay]
  refine tk 1 (v := ?_) ?_ hS0 ?_
  rotate_left
  · intro w hSw
    go_simp
    first | done | with_reducible rfl
  try simp only [lay]
  refine tk 2 (v := ?_) ?_ hS0 ?_
  rotate_left
  · intro w hSw
    go_simp
    first | done | with_reducible rfl
  try simp only [lay]
  refine tk 3 (v := ?_) ?_ hS0 ?_
  rotate_left
  · intro w hSw
    go_simp
    first | done | with_reducible rfl
  try simp only [lay]
  refine tk 5 (v := ?_) ?_ hS0 ?_
  rotate_left
  · intro w hSw
    go_simp
    first | done | with_reducible rfl
  try simp only [lay]
  refine tk 6 (v := ?_) ?_ hS0 ?_
  rotate_left
  · intro w hSw
    go_simp
    first | done | with_reducible rfl
  try simp only [lay]
  refine tk 7 (v := ?_) ?_ hS0 ?_
  rotate_left
  · intro w hSw
    go_simp
    first | done | with_reducible rfl
  try simp only [lay]
  refine tk 8 (v := ?_) ?_ hS0 ?_
  rotate_left
  · intro w hSw
    obtain ⟨h, hh⟩ := hSw
    have hc := hh.c17
    unfold reader at hc
    clear hh
    go_simp
    first | done | with_reducible rfl
  try simp only [lay]
  refine wpAnyH_ready (rs := [4]) (by kernel_rfl) (by simp) ?_
  refine AllReadyH.cons rfl (fun K hK => ?_) AllReadyH.nil
  refine wp_load_mid 146 _ rfl p 1 rfl L _ hr.out Tryz.underlying146 rfl hlen ?_
  refine hK.out _ _ ⟨_, P0.out⟩ (fun hS1 => ?_)
  clear hK K
  try simp only [lay]
  refine wpAnyH_ready (rs := [9]) (by kernel_rfl) (by simp) ?_
  refine AllReadyH.cons rfl (fun K hK => ?_) AllReadyH.nil
  go_simp
  refine HC.out.mono ?_; rintro e w1 ⟨rfl, hb1⟩
  have q1 := Lib.hid (hps.out w1 hb1)
  have M1 := Lib.hid (((Moved.refl p B w).drew.trans (Moved.of_below (p := p) hb1 hB)).setRow (psC kv g (reader q) uv bv).toArray)
  have M2 : Hid (PsAt (w1.setRow p (psC kv g (reader q) uv bv).toArray) p kv g (reader q) uv bv) := Lib.hid (setRow_heap w1 p _ _ _ _ q1.out)
  have M3 : Hid (w.heap.size ≤ (w1.setRow p (psC kv g (reader q) uv bv).toArray).heap.size) := Lib.hid (by rw [size_setRow]; exact hb1.size)
  clear hb1
  refine hK.out _ _ ⟨_, q1.out⟩ (fun hS2 => ?_)
  clear hK K
  try simp only [lay]
  refine tk 10 (v := ?_) ?_ hS2 ?_
  rotate_left
  · intro w hSw
    go_simp
    first | done | with_reducible rfl
  try simp only [lay]
  refine tk 11 (v := ?_) ?_ hS2 ?_
  rotate_left
  · intro w hSw
    go_simp
    first | done | with_reducible rfl
  try simp only [lay]
  refine wpAnyH_ready (rs := [12]) (by kernel_rfl) (by simp) ?_
  refine AllReadyH.cons rfl (fun K hK => ?_) AllReadyH.nil
  refine wp_store_ps 146 _ _ rfl p g rfl rfl 202 kv f (reader q) uv bv q1.out hi ?_
  refine hK.out _ _ ⟨_, M2.out⟩ (fun hS3 => ?_)
  clear hK K
  try simp only [lay]
  refine wpAnyH_done (by kernel_rfl) ?_ _
  clear hS0 hS1 hS2 hS3
  go_wp2
  go_end0
  exact ⟨rfl, M2.out, M1.out, M3.out⟩
set_option maxRecDepth 100000 in
set_option maxHeartbeats 1600000 in
theorem unboxBytes_step (p B q : Nat) (kv sv bv : Value) (f g : Nat → UInt8) (w : World) (hp : PsAt w p kv f sv (reader q) bv) (hB : B ≤ w.heap.size)
    (HC : Hid (Calls Tryz.prog 176 #[.agg (stA f), reader q] w.drew fun e w' => e = .returned (.agg (stA g)) ∧ Below w.drew.heap.size w.drew w')) :
    Calls Tryz.prog 150 #[.pointer (some ⟨p, 0, none⟩)] w fun e w' => e = .returned (.tuple #[]) ∧ PsAt w' p kv g sv (reader q) bv ∧ Moved p B w w' ∧ w.heap.size ≤ w'.heap.size := by
  have hi := st_info16
  have P0 : Hid (PsAt w.drew p kv f sv (reader q) bv) := Lib.hid (hp.of_block rfl)
  have hr := Lib.hid P0.out.range
  have hlen : (Tryz.prog.info? 146).map (·.size) = some (cells8 (upTo f 16)).length := by rw [cells8_length, upTo_length]; exact hi
  have hps : Hid (∀ w1, Below w.drew.heap.size w.drew w1 → PsAt w1 p kv f sv (reader q) bv) := Lib.hid (fun w1 h => hp.of_block (h.block p hp.lt))
  unfold stA reader at HC
  obtain ⟨L, hL⟩ : ∃ L, cells8 (upTo f 16) = L := ⟨_, rfl⟩
  rw [hL] at hr hlen HC
  clear hL hp
  go_enter Tryz.func150, Tryz.ntmps150
  refine wp_region_held_drew (S := fun W' => ∃ h, PsAt W' p kv h sv (reader q) bv) (by kernel_rfl) ⟨_, P0.out⟩ (fun hS0 => ?_)
  refine tk 0 (v := ?_) ?_ hS0 ?_
  rotate_left
  · intro w hSw
    go_simp
    first | done | with_reducible rfl
  try simp only [lay]
  refine tk 1 (v := ?_) ?_ hS0 ?_
  rotate_left
  · intro w hSw
    go_simp
    first | done | with_reducible rfl
  try simp only [lay]
  refine tk 2 (v := ?_) ?_ hS0 ?_
  rotate_left
  · intro w hSw
    go_simp
    first | done | with_reducible rfl
  try simp only [lay]
  refine tk 3 (v := ?_) ?_ hS0 ?_
  rotate_left
  · intro w hSw
    go_simp
    first | done | with_reducible rfl
  try simp only [lay]
  refine tk 5 (v := ?_) ?_ hS0 ?_
  rotate_left
  · intro w hSw
    go_simp
    first | done | with_reducible rfl
  try simp only [lay]
  refine tk 6 (v := ?_) ?_ hS0 ?_
  rotate_left
  · intro w hSw
    go_simp
    first | done | with_reducible rfl
  try simp only [lay]
  refine tk 7 (v := ?_) ?_ hS0 ?_
  rotate_left
  · intro w hSw
    go_simp
    first | done | with_reducible rfl
  try simp only [lay]
  refine tk 8 (v := ?_) ?_ hS0 ?_
  rotate_left
  · intro w hSw
    obtain ⟨h, hh⟩ := hSw
    have hc := hh.c18
    unfold reader at hc
    clear hh
    go_simp
    first | done | with_reducible rfl
  try simp only [lay]
  refine wpAnyH_ready (rs := [4]) (by kernel_rfl) (by simp) ?_
  refine AllReadyH.cons rfl (fun K hK => ?_) AllReadyH.nil
  refine wp_load_mid 146 _ rfl p 1 rfl L _ hr.out Tryz.underlying146 rfl hlen ?_
  refine hK.out _ _ ⟨_, P0.out⟩ (fun hS1 => ?_)
  clear hK K
  try simp only [lay]
  refine wpAnyH_ready (rs := [9]) (by kernel_rfl) (by simp) ?_
  refine AllReadyH.cons rfl (fun K hK => ?_) AllReadyH.nil
  go_simp
  refine HC.out.mono ?_; rintro e w1 ⟨rfl, hb1⟩
  have q1 := Lib.hid (hps.out w1 hb1)
  have M1 := Lib.hid (((Moved.refl p B w).drew.trans (Moved.of_below (p := p) hb1 hB)).setRow (psC kv g sv (reader q) bv).toArray)
  have M2 : Hid (PsAt (w1.setRow p (psC kv g sv (reader q) bv).toArray) p kv g sv (reader q) bv) := Lib.hid (setRow_heap w1 p _ _ _ _ q1.out)
  have M3 : Hid (w.heap.size ≤ (w1.setRow p (psC kv g sv (reader q) bv).toArray).heap.size) := Lib.hid (by rw [size_setRow]; exact hb1.size)
  clear hb1
  refine hK.out _ _ ⟨_, q1.out⟩ (fun hS2 => ?_)
  clear hK K
  try simp only [lay]
  refine tk 10 (v := ?_) ?_ hS2 ?_
  rotate_left
  · intro w hSw
    go_simp
    first | done | with_reducible rfl
  try simp only [lay]
  refine tk 11 (v := ?_) ?_ hS2 ?_
  rotate_left
  · intro w hSw
    go_simp
    first | done | with_reducible rfl
  try simp only [lay]
  refine wpAnyH_ready (rs := [12]) (by kernel_rfl) (by simp) ?_
  refine AllReadyH.cons rfl (fun K hK => ?_) AllReadyH.nil
  refine wp_store_ps 146 _ _ rfl p g rfl rfl 202 kv f sv (reader q) bv q1.out hi ?_
  refine hK.out _ _ ⟨_, M2.out⟩ (fun hS3 => ?_)
  clear hK K
  try simp only [lay]
  refine wpAnyH_done (by kernel_rfl) ?_ _
  clear hS0 hS1 hS2 hS3
  go_wp2
  go_end0
  exact ⟨rfl, M2.out, M1.out, M3.out⟩
end Go.Proofs.YtbfmbdohebdbaaaGreatDoor
set_option linter.unusedVariables false
set_option linter.unusedSimpArgs false
namespace Go.Proofs.YtbfmbdohebdbaaaGreatDoor
open Go Go.RowKit
attribute [local go_sem ↓] Go.wp_at_zero Go.wp_at_succ

/-- the keys from lo on, n of them, lie where kv points. -/
def KeysIn (w : World) (kv : Value) (K : Nat → ByteArray) (lo n B p : Nat) : Prop :=
  ∃ g o c, kv = .slice (some ⟨g, o, none⟩) n c ∧ n ≤ c ∧ c ≤ 9223372036854775807 ∧ g < B ∧ g ≠ p ∧ ∀ i, i < n → w.rangeAt g (o + 16 * i) (cells8 (upTo (byteOf (K (lo + i))) 16))
theorem rangeAt_block {w w' : World} {b o : Nat} {cs : List Value} (h : w.rangeAt b o cs) (hb : w'.heap[b]? = w.heap[b]?) : w'.rangeAt b o cs := fun j v hv => (World.cell?_of_block (a := ⟨b, o + j, none⟩) hb).trans (h j v hv)
theorem KeysIn.moved {w w' : World} {kv : Value} {K : Nat → ByteArray} {lo n B p : Nat} (h : KeysIn w kv K lo n B p) (hm : Moved p B w w') : KeysIn w' kv K lo n B p := by
  obtain ⟨g, o, c, h1, h2, h3, h4, h5, h6⟩ := h
  exact ⟨g, o, c, h1, h2, h3, h4, h5, fun i hi => rangeAt_block (h6 i hi) (hm.block g h4 h5)⟩
set_option maxRecDepth 100000 in
set_option maxHeartbeats 1600000 in
theorem addFirst_step (p B : Nat) (g o n c : Nat) (sv uv bv : Value) (f k : Nat → UInt8) (m : Nat) (l : List Value) (hm : m ≤ 1000) (w : World) (hp : PsAt w p (.slice (some ⟨g, o, none⟩) (n + 1) c) f sv uv bv) (ho : w.ownsRow B 9 1 bv m l) (hpB : p < B) (hB : B ≤ w.heap.size)
    (hc : n + 1 ≤ c) (hc2 : c ≤ 9223372036854775807) (hr : w.rangeAt g o (cells8 (upTo k 16))) :
    Calls Tryz.prog 159 #[.pointer (some ⟨p, 0, none⟩)] w fun e w' => e = .returned (.tuple #[]) ∧ ∃ bv' o' c', PsAt w' p (.slice (some ⟨g, o', none⟩) n c') (fun i => f i ^^^ k i) sv uv bv' ∧ n ≤ c' ∧ c' ≤ 9223372036854775807 ∧ (0 < n → o' = o + 16) ∧ w'.ownsRow B 9 1 bv' (m + 1) (l ++ [.string (txt (fun i => f i ^^^ k i) 16)]) ∧ Moved p B w w' ∧ w.heap.size ≤ w'.heap.size := by
  have hi := st_info16
  have hlen : (Tryz.prog.info? 146).map (·.size) = some (cells8 (upTo k 16)).length := by rw [cells8_length, upTo_length]; exact hi
  have HA := Lib.hid (add_impl p B _ sv uv bv f k m l hm w hp ho hpB hB)
  have c0 := hp.c0
  have z0 := hp.fz 0
  unfold stA at HA
  obtain ⟨L, hL⟩ : ∃ L, cells8 (upTo k 16) = L := ⟨_, rfl⟩
  rw [hL] at hr hlen HA
  have hn1 : ((n + 1 : Nat) : Int) ≤ (c : Int) := by omega
  have hn2 : (c : Int) ≤ 9223372036854775807 := by omega
  clear hL hp ho
  go_enter Tryz.func159, Tryz.ntmps159
  go_wp2_with (refine wpList_load_mid rfl 146 _ rfl g o rfl L _ hr Tryz.underlying146 rfl hlen ?_)
  refine HA.out.mono ?_; rintro e w1 ⟨rfl, bv', q1, q2, q3, q4⟩
  have d0 := q1.c0
  have dz := q1.fz 0
  have G1 := fun v => Lib.hid (q1.keys v)
  have G2 := fun v => Lib.hid (own_far q2 hpB 0 v)
  have G3 := fun v => Lib.hid (q3.setCell 0 v)
  have G4 : ∀ v, Hid (w.heap.size ≤ (w1.setCell ⟨p, 0, none⟩ v).heap.size) := fun v => Lib.hid (by simpa [World.setCell] using q4)
  clear q1 q2 q3 q4 HA hr hlen c0 z0
  go_wp2
  all_goals go_end0
  all_goals exact ⟨rfl, bv', _, _, (G1 _).out, by omega, by omega, by omega, (G2 _).out, (G3 _).out, (G4 _).out⟩
set_option maxRecDepth 100000 in
set_option maxHeartbeats 1600000 in
theorem addLast_step (p B : Nat) (g o n c : Nat) (sv uv bv : Value) (f k : Nat → UInt8) (m : Nat) (l : List Value) (hm : m ≤ 1000) (w : World) (hp : PsAt w p (.slice (some ⟨g, o, none⟩) (n + 1) c) f sv uv bv) (ho : w.ownsRow B 9 1 bv m l) (hpB : p < B) (hB : B ≤ w.heap.size)
    (hn : n ≤ 1000) (hc : n + 1 ≤ c) (hc2 : c ≤ 9223372036854775807) (hr : w.rangeAt g (o + n * 16) (cells8 (upTo k 16))) :
    Calls Tryz.prog 148 #[.pointer (some ⟨p, 0, none⟩)] w fun e w' => e = .returned (.tuple #[]) ∧ ∃ bv', PsAt w' p (.slice (some ⟨g, o, none⟩) n c) (fun i => f i ^^^ k i) sv uv bv' ∧ w'.ownsRow B 9 1 bv' (m + 1) (l ++ [.string (txt (fun i => f i ^^^ k i) 16)]) ∧ Moved p B w w' ∧ w.heap.size ≤ w'.heap.size := by
  have hi := st_info16
  have hlen : (Tryz.prog.info? 146).map (·.size) = some (cells8 (upTo k 16)).length := by rw [cells8_length, upTo_length]; exact hi
  have HA := Lib.hid (add_impl p B _ sv uv bv f k m l hm w hp ho hpB hB)
  have c0 := hp.c0
  have z0 := hp.fz 0
  unfold stA at HA
  obtain ⟨L, hL⟩ : ∃ L, cells8 (upTo k 16) = L := ⟨_, rfl⟩
  rw [hL] at hr hlen HA
  have hn1 : ((n + 1 : Nat) : Int) ≤ (c : Int) := by omega
  have hn3 : (n : Int) ≤ (c : Int) := by omega
  have hn4 : (n : Int) ≤ 1000 := by omega
  have hn5 : n ≤ c := by omega
  have hn2 : (c : Int) ≤ 9223372036854775807 := by omega
  clear hL hp ho
  go_enter Tryz.func148, Tryz.ntmps148
  go_wp2_with (refine wpList_load_mid rfl 146 _ rfl g (o + n * 16) rfl L _ hr Tryz.underlying146 rfl hlen ?_)
  refine HA.out.mono ?_; rintro e w1 ⟨rfl, bv', q1, q2, q3, q4⟩
  have d0 := q1.c0
  have dz := q1.fz 0
  have G1 := fun v => Lib.hid (q1.keys v)
  have G2 := fun v => Lib.hid (own_far q2 hpB 0 v)
  have G3 := fun v => Lib.hid (q3.setCell 0 v)
  have G4 : ∀ v, Hid (w.heap.size ≤ (w1.setCell ⟨p, 0, none⟩ v).heap.size) := fun v => Lib.hid (by simpa [World.setCell] using q4)
  clear q1 q2 q3 q4 HA hr hlen c0 z0
  go_wp2
  all_goals go_end0
  all_goals exact ⟨rfl, bv', (G1 _).out, (G2 _).out, (G3 _).out, (G4 _).out⟩

theorem mapT_byte (f : UInt8 → UInt8) (s : ByteArray) (i : Nat) (h : i < s.size) : byteOf (mapT f s) i = f (byteOf s i) := by
  have hl : i < s.data.toList.length := by simpa using h
  unfold byteOf mapT
  rw [List.getD_eq_getElem?_getD, List.getD_eq_getElem?_getD]
  simp only [List.getElem?_map, List.getElem?_eq_getElem hl, Option.map_some, Option.getD_some]
theorem own_moved {w w' : World} {B p e n size : Nat} {v : Value} {xs : List Value} (h : w.ownsRow B e size v n xs) (hp : p < B) (hm : Moved p w.heap.size w w') : w'.ownsRow B e size v n xs := by
  refine ⟨h.1, ?_⟩
  rcases h.2 with hn | ⟨g, cap, cur, hv, hB, hg, rest⟩
  · exact .inl hn
  · exact .inr ⟨g, cap, cur, hv, hB, (hm.block g (Array.getElem?_eq_some_iff.1 hg).1 (by omega)).trans hg, rest⟩
theorem Moved.down {p B B2 : Nat} {w w' : World} (h : Moved p B2 w w') (hB : B ≤ B2) : Moved p B w w' := ⟨h.os, h.tape, h.output, h.size, fun k hk hn => h.block k (by omega) hn⟩
theorem MxF.moved {p B : Nat} {w w' : World} (h : MxF w) (hm : Moved p B w w') (hp : 1 < p) (hB : p < B) : MxF w' := by
  have hb := hm.block 1 (by omega) (by omega)
  exact ⟨Nat.lt_of_lt_of_le h.1 hm.size, (World.cell?_of_block (a := ⟨_, 0, none⟩) hb).trans h.2.1, (World.cell?_of_block (a := ⟨_, 1, none⟩) hb).trans h.2.2.1, (World.cell?_of_block (a := ⟨_, 2, none⟩) hb).trans h.2.2.2.1, (World.cell?_of_block (a := ⟨_, 3, none⟩) hb).trans h.2.2.2.2⟩
/-- a passage on its way: what it holds lies in memory. -/
def PIn (K : Nat → ByteArray) (p B : Nat) (w : World) (q : Pas) : Prop :=
  ∃ kv bv q1 q2, PsAt w p kv (byteOf q.S) (reader q1) (reader q2) bv ∧ KeysIn w kv K q.lo q.n B p ∧ (BoxAt w q1 sbox ∧ q1 < B ∧ q1 ≠ p) ∧ (BoxAt w q2 ubox ∧ q2 < B ∧ q2 ≠ p) ∧ w.ownsRow B 9 1 bv q.bs.length (q.bs.map .string) ∧ (p < B ∧ B ≤ w.heap.size) ∧ (MxF w ∧ 1 < p)
theorem pin_moved {K : Nat → ByteArray} {p B : Nat} {w w' : World} {kv bv : Value} {q1 q2 lo n : Nat} (S : ByteArray) (bs : List ByteArray) (hps : PsAt w' p kv (byteOf S) (reader q1) (reader q2) bv) (hm : Moved p B w w') (hk : KeysIn w' kv K lo n B p) (hb1 : BoxAt w q1 sbox ∧ q1 < B ∧ q1 ≠ p) (hb2 : BoxAt w q2 ubox ∧ q2 < B ∧ q2 ≠ p)
    (ho : w'.ownsRow B 9 1 bv bs.length (bs.map .string)) (hB : p < B ∧ B ≤ w.heap.size) (hf : MxF w ∧ 1 < p) : PIn K p B w' ⟨lo, n, S, bs⟩ :=
  ⟨kv, bv, q1, q2, hps, hk, ⟨(hm.block q1 hb1.2.1 hb1.2.2).trans hb1.1, hb1.2⟩, ⟨(hm.block q2 hb2.2.1 hb2.2.2).trans hb2.1, hb2.2⟩, ho, ⟨hB.1, Nat.le_trans hB.2 hm.size⟩, hf.1.moved hm hf.2 hB.1, hf.2⟩
def PStp.fn : PStp → Nat
  | .addF => 159
  | .addL => 148
  | .box => 160
  | .unbox => 150
  | .shift => 161
  | .unshift => 149
  | .mix => 162
  | .unmix => 152
/-- the program has this step. -/
def PStp.here : PStp → Prop
  | .addF => True
  | .addL => True
  | .box => True
  | .unbox => True
  | .shift => True
  | .unshift => True
  | .mix => True
  | .unmix => True
theorem pstep (K : Nat → ByteArray) (T p B : Nat) (s : PStp) (q : Pas) (hT : T ≤ 1000) (hq : q.fits T) (hok : s.ok q) (hh : s.here) (w : World) (h : PIn K p B w q) :
    Calls Tryz.prog s.fn #[.pointer (some ⟨p, 0, none⟩)] w fun e w' => e = .returned (.tuple #[]) ∧ PIn K p B w' (s.run K q) ∧ Moved p B w w' := by
  obtain ⟨kv, bv, q1, q2, hps, hk, hb1, hb2, ho, hB, hf⟩ := h
  obtain ⟨f1, f2, f3⟩ := hq
  have same : ∀ (S : ByteArray) (w' : World), PsAt w' p kv (byteOf S) (reader q1) (reader q2) bv → Moved p w.heap.size w w' → PIn K p B w' ⟨q.lo, q.n, S, q.bs⟩ ∧ Moved p B w w' := fun S w' g1 g2 =>
    ⟨pin_moved S q.bs g1 (g2.down hB.2) (hk.moved (g2.down hB.2)) hb1 hb2 (own_moved ho hB.1 g2) hB hf, g2.down hB.2⟩
  cases s with
  | addF =>
    have hn := hok rfl
    obtain ⟨n, hn2⟩ : ∃ n, q.n = n + 1 := ⟨q.n - 1, by omega⟩
    obtain ⟨g, o, c, rfl, e1, e2, e3, e4, e5⟩ := hk
    rw [hn2] at hps e1 e5
    have h0 := e5 0 (by omega)
    refine (addFirst_step p B g o n c (reader q1) (reader q2) bv (byteOf q.S) (byteOf (K q.lo)) q.bs.length _ (by omega) w hps ho hB.1 hB.2 e1 e2 (by simpa using h0)).mono ?_
    rintro e w1 ⟨rfl, bv', o', c', r1, r2, r3, r4, r5, r6, r7⟩
    refine ⟨rfl, ?_, r6⟩
    have hn3 : q.n - 1 = n := by omega
    show PIn K p B w1 ⟨q.lo + 1, q.n - 1, xorS q.S (K q.lo), q.bs ++ [xorS q.S (K q.lo)]⟩
    rw [hn3]
    refine pin_moved _ _ (r1.congr fun i hi => (xorS_byte _ _ i hi).symm) r6 ⟨g, o', c', rfl, r2, r3, e3, e4, fun i hi => ?_⟩ hb1 hb2 ?_ hB hf
    · rw [r4 (by omega)]
      have := rangeAt_block (e5 (i + 1) (by omega)) (r6.block g e3 e4)
      rw [show o + 16 * (i + 1) = o + 16 + 16 * i by omega, show q.lo + (i + 1) = q.lo + 1 + i by omega] at this
      exact this
    · rw [List.length_append, List.map_append]; exact r5
  | addL =>
    have hn := hok rfl
    obtain ⟨n, hn2⟩ : ∃ n, q.n = n + 1 := ⟨q.n - 1, by omega⟩
    obtain ⟨g, o, c, rfl, e1, e2, e3, e4, e5⟩ := hk
    rw [hn2] at hps e1 e5
    have h0 := e5 n (by omega)
    refine (addLast_step p B g o n c (reader q1) (reader q2) bv (byteOf q.S) (byteOf (K (q.lo + n))) q.bs.length _ (by omega) w hps ho hB.1 hB.2 (by omega) e1 e2 (by rw [Nat.mul_comm]; exact h0)).mono ?_
    rintro e w1 ⟨rfl, bv', r1, r5, r6, r7⟩
    refine ⟨rfl, ?_, r6⟩
    have hn3 : q.n - 1 = n := by omega
    show PIn K p B w1 ⟨q.lo, q.n - 1, xorS q.S (K (q.lo + (q.n - 1))), q.bs ++ [xorS q.S (K (q.lo + (q.n - 1)))]⟩
    rw [hn3]
    refine pin_moved _ _ (r1.congr fun i hi => (xorS_byte _ _ i hi).symm) r6 ⟨g, o, c, rfl, by omega, e2, e3, e4, fun i hi => ?_⟩ hb1 hb2 ?_ hB hf
    · exact rangeAt_block (e5 i (by omega)) (r6.block g e3 e4)
    · rw [List.length_append, List.map_append]; exact r5
  | box =>
    refine (boxBytes_step p w.heap.size q1 kv (reader q2) bv (byteOf q.S) _ w hps (Nat.le_refl _) (Lib.hid (changed_impl sbox (byteOf q.S) q1 w.drew hb1.1))).mono ?_
    rintro e w1 ⟨rfl, r1, r2, r3⟩
    exact ⟨rfl, same _ w1 (r1.congr fun i hi => (mapT_byte _ _ i (by omega)).symm) r2⟩
  | unbox =>
    refine (unboxBytes_step p w.heap.size q2 kv (reader q1) bv (byteOf q.S) _ w hps (Nat.le_refl _) (Lib.hid (changed_impl ubox (byteOf q.S) q2 w.drew hb2.1))).mono ?_
    rintro e w1 ⟨rfl, r1, r2, r3⟩
    exact ⟨rfl, same _ w1 (r1.congr fun i hi => (mapT_byte _ _ i (by omega)).symm) r2⟩
  | shift =>
    refine (shiftRows_step p w.heap.size kv (reader q1) (reader q2) bv (byteOf q.S) _ w hps (Nat.le_refl _) (Lib.hid (shifted_impl (byteOf q.S) w))).mono ?_
    rintro e w1 ⟨rfl, r1, r2, r3⟩
    exact ⟨rfl, same _ w1 (r1.congr fun i hi => (shS_byte 1 _ i hi).symm) r2⟩
  | unshift =>
    refine (unshiftRows_step p w.heap.size kv (reader q1) (reader q2) bv (byteOf q.S) _ w hps (Nat.le_refl _) (Lib.hid (unshifted_impl (byteOf q.S) w))).mono ?_
    rintro e w1 ⟨rfl, r1, r2, r3⟩
    exact ⟨rfl, same _ w1 (r1.congr fun i hi => (shS_byte 3 _ i hi).symm) r2⟩
  | mix =>
    refine (mixColumns_step p w.heap.size kv (reader q1) (reader q2) bv (byteOf q.S) _ w hps (Nat.le_refl _) (Lib.hid (smixed_impl (byteOf q.S) w hf.1))).mono ?_
    rintro e w1 ⟨rfl, r1, r2, r3⟩
    exact ⟨rfl, same _ w1 (r1.congr fun i hi => (ofW_byte (fun j => mxW (colW q.S j)) i hi).symm) r2⟩
  | unmix =>
    refine (unmixColumns_step p w.heap.size kv (reader q1) (reader q2) bv (byteOf q.S) _ w hps (Nat.le_refl _) (Lib.hid (sunmixed_impl (byteOf q.S) w hf.1))).mono ?_
    rintro e w1 ⟨rfl, r1, r2, r3⟩
    exact ⟨rfl, same _ w1 (r1.congr fun i hi => (ofW_byte (fun j => unmixW (colW q.S j)) i hi).symm) r2⟩
end Go.Proofs.YtbfmbdohebdbaaaGreatDoor
set_option linter.unusedVariables false
set_option linter.unusedSimpArgs false
namespace Go.Proofs.YtbfmbdohebdbaaaGreatDoor
open Go Go.RowKit Go.Shelf
attribute [local go_sem] Oper.semAt_some
attribute [local go_sem ↓] Go.wp_at_zero Go.wp_at_succ

theorem noDefer_of {ops : Array Oper} (h : ops.all (fun o => match o.op with | .defer _ => false | _ => true) = true) : NoDefer ops := by
  intro i o c ho he
  obtain ⟨hi, e⟩ := Array.getElem?_eq_some_iff.1 ho
  have h1 := (Array.all_eq_true.1 h) i hi
  rw [e, he] at h1
  cases h1
theorem infoSt : (Tryz.prog.info? 146).map (fun i => (i.zero, i.size, i.bytes)) = some (some (.agg zero16), 16, 16) := by kernel_rfl
theorem fill_state (g : Nat → UInt8) : Instr.fill (fun i => some (i * 16, 16)) ((Array.range (1 * 16)).map ((Value.agg zero16).cells[· % (Value.agg zero16).cells.size]!)) [(0, Value.agg (stA g))] = some (stA g) := by kernel_rfl
/-- the keys of a list, one behind the other, as cells. -/
def keyC (K : Nat → ByteArray) (l : List Nat) : List Value := l.flatMap fun i => cells8 (upTo (byteOf (K i)) 16)
theorem keyC_snoc (K : Nat → ByteArray) (l : List Nat) (x : Nat) : keyC K (l ++ [x]) = keyC K l ++ cells8 (upTo (byteOf (K x)) 16) := by
  unfold keyC; rw [List.flatMap_append, List.flatMap_singleton]
theorem keyC_length (K : Nat → ByteArray) (l : List Nat) : (keyC K l).length = l.length * 16 := by
  induction l with
  | nil => rfl
  | cons x l ih => show (cells8 _ ++ keyC K l).length = _; rw [List.length_append, ih, cells8_length, upTo_length, List.length_cons]; omega
theorem keyC_congr (K K2 : Nat → ByteArray) (l : List Nat) (h : ∀ i ∈ l, K i = K2 i) : keyC K l = keyC K2 l := by
  unfold keyC
  induction l with
  | nil => rfl
  | cons x l ih => rw [List.flatMap_cons, List.flatMap_cons, h x List.mem_cons_self, ih fun i hi => h i (List.mem_cons_of_mem _ hi)]
theorem keyC_at (K : Nat → ByteArray) (m i j : Nat) (hi : i < m) (hj : j < 16) : (keyC K (List.range m))[16 * i + j]? = (cells8 (upTo (byteOf (K i)) 16))[j]? := by
  induction m with
  | zero => omega
  | succ m ih =>
    rw [List.range_succ, keyC_snoc]
    have hl : (keyC K (List.range m)).length = m * 16 := by rw [keyC_length, List.length_range]
    by_cases h : i < m
    · rw [List.getElem?_append_left (by rw [hl]; omega)]; exact ih h
    · have : i = m := by omega
      subst this
      rw [List.getElem?_append_right (by rw [hl]; omega), hl]
      congr 1; omega
theorem others_below {w w' : World} (h : Below w.heap.size w w') : KeepsOthers w w' :=
  ⟨h.size, fun l o hl _ => (h.block l (by have := (Array.getElem?_eq_some_iff.1 hl).1; exact this)).trans hl⟩
theorem owns_down {w : World} {B C e size n : Nat} {v : Value} {xs : List Value} (h : w.ownsRow C e size v n xs) (hBC : B ≤ C) : w.ownsRow B e size v n xs := by
  refine ⟨h.1, ?_⟩
  rcases h.2 with hn | ⟨g, cap, cur, hv, hB, rest⟩
  · exact .inl hn
  · exact .inr ⟨g, cap, cur, hv, Nat.le_trans hBC hB, rest⟩
theorem owns_below {w w' : World} {B e size n : Nat} {v : Value} {xs : List Value} (h : w.ownsRow B e size v n xs) (hb : Below w.heap.size w w') : w'.ownsRow B e size v n xs := by
  refine ⟨h.1, ?_⟩
  rcases h.2 with hn | ⟨g, cap, cur, hv, hB, hg, rest⟩
  · exact .inl hn
  · exact .inr ⟨g, cap, cur, hv, hB, (hb.block g (Array.getElem?_eq_some_iff.1 hg).1).trans hg, rest⟩
theorem ownFrom_moved {β : Type} {H Bw B' : Nat} {w2 : World} (hB : Bw ≤ B') (h2 : Bw ≤ w2.heap.size) : OwnFrom B' (fun (_ : β) W => Moved H Bw w2 W) :=
  fun _ X Y row hs hg hr => ⟨hg.os.trans hs.os, hg.tape.trans hs.tape, hg.output.trans hs.output, Nat.le_trans hs.size hg.size, fun k hk hn => (hg.block k (by have h3 := hs.size; omega) (fun e => by have h1 := (hr k e.symm).1; omega)).trans (hs.block k hk hn)⟩
/-- what a round leaves: the append's new row, the store behind it. -/
theorem key_fin {w2 W W2 w4 : World} {H Bw k g cap : Nat} {v : Value} {L L2 : List Value} {o : Obj}
    (hv : Boxed W H 90 v) (hm : Moved H Bw w2 W) (hb2 : Below W.heap.size W W2) (hHB : H < Bw) (hBw : Bw ≤ W.heap.size) (hrow : W.ownsRow Bw 146 16 v k L)
    (hown : w4.ownsRow Bw 146 16 (.slice (some ⟨g, 0, none⟩) (k + 1) cap) (k + 1) L2) (hgrow : (W2.alloc o).grownBy w4 v.ownBlock) :
    w4.cell? ⟨H, 0, none⟩ = some v ∧ w4.frozen? ⟨H, 0, none⟩ = false ∧ Hid (Moved H Bw W w4) ∧ Hid (KeepsOthers W (w4.setCell ⟨H, 0, none⟩ (.slice (some ⟨g, 0, none⟩) (k + 1) cap)) ∧ Boxed (w4.setCell ⟨H, 0, none⟩ (.slice (some ⟨g, 0, none⟩) (k + 1) cap)) H 90 (.slice (some ⟨g, 0, none⟩) (k + 1) cap) ∧
      (w4.setCell ⟨H, 0, none⟩ (.slice (some ⟨g, 0, none⟩) (k + 1) cap)).ownsRow Bw 146 16 (.slice (some ⟨g, 0, none⟩) (k + 1) cap) (k + 1) L2 ∧ Moved H Bw W (w4.setCell ⟨H, 0, none⟩ (.slice (some ⟨g, 0, none⟩) (k + 1) cap)) ∧ Moved H Bw w2 (w4.setCell ⟨H, 0, none⟩ (.slice (some ⟨g, 0, none⟩) (k + 1) cap))) := by
  have hv2 : Boxed W2 H 90 v := (hb2.block _ hv.lt).trans hv
  have hrow2 := owns_below hrow hb2
  have hW2 := hb2.size
  obtain ⟨hv3, hv4, hr4, hk4, hb4⟩ := hv2.appended (by decide) (owns_down hrow2 (show H ≤ Bw by omega)) (by omega) (Nat.le_refl _) (owns_down hown (show H ≤ Bw by omega)) hgrow
  have hM4 : Moved H Bw W w4 :=
    (((Moved.of_below (p := H) hb2 hBw).trans (Moved.of_below ((Below.refl W2.heap.size _).alloc (Nat.le_refl _) o) (by omega))).grown hgrow (by simp; omega) (fun j e => (hrow2.lt j e).1))
  have hM := hM4.setCell 0 (.slice (some ⟨g, 0, none⟩) (k + 1) cap)
  exact ⟨hv3.cell, hv3.frozen, Lib.hid hM4, Lib.hid ⟨(others_below hb2).trans hk4, hv4, own_far hown hHB _ _, hM, hm.trans hM⟩⟩
set_option maxRecDepth 100000 in
set_option maxHeartbeats 3200000 in
theorem roundKeys_impl (s : ByteArray) (n : Nat) (h : kOf s n) (w : World) :
    Calls Tryz.prog 172 #[.string s] w fun e w' => ∃ g c, e = .returned (.slice (some ⟨g, 0, none⟩) (n + 7) c) ∧ w'.ownsRow w.heap.size 146 16 (.slice (some ⟨g, 0, none⟩) (n + 7) c) (n + 7) (keyC (rkS s n) (List.range (n + 7))) ∧ Below w.heap.size w w' := by
  refine (callsIn_wide (n := 3)).1 ?_
  have hle := h.le
  have hL : kL n = 4 * (n + 7) := rfl
  obtain ⟨i0, hi, hz0, hz1, hz2⟩ := info_parts infoSt
  have h3 : Fence.wide.fn 127 := trivial
  have h4 : Fence.wide.fn 91 := trivial
  have HE := fun W => Lib.hid (expanded_yes s n h W)
  obtain ⟨L, hL2⟩ : ∃ L, kL n = L := ⟨_, rfl⟩
  rw [hL2] at HE hL
  have HL := Lib.hid hL
  clear hL hL2
  refine callsIn_of_wp_marks Tryz.func172 rfl trivial ?_ rfl
  simp only [Tryz.ntmps172, List.size_toArray, List.length_cons, List.length_nil, Nat.reduceAdd, Nat.reduceSub, Array.replicate_succ, Array.replicate_zero, List.push_toArray, List.append_toArray, List.nil_append, List.cons_append]
  gi_wp2_with (first
    | (gi_at_call 91; refine (callsIn_wide.2 (HE _).out).mono ?_; rintro e w1 ⟨rfl, hw, hb1⟩)
    | (gi_at_call 127; refine (chunk_in _ _ _ _ _).mono ?_; rintro e w' ⟨rfl, rfl⟩))
  have bH0 := Boxed.new w 90 (.slice none 0 0)
  have bH1 : Boxed w1 w.heap.size 90 (.slice none 0 0) := (hb1.block _ bH0.lt).trans bH0
  have bS := Boxed.new w1 138 (.slice (some ⟨w.heap.size + 1, 0, none⟩) L L)
  have bN := Boxed.new (w1.alloc (.cells #[.slice (some ⟨w.heap.size + 1, 0, none⟩) L L] 138)) 3 (.int .i64 4)
  rw [World.size_alloc] at bN
  have hbw : Below w.heap.size w w1 := ((Below.refl _ w).alloc (Nat.le_refl _) _).trans (hb1.mono (by simp))
  have hb2 : Below w1.heap.size w1 ((w1.alloc (.cells #[.slice (some ⟨w.heap.size + 1, 0, none⟩) L L] 138)).alloc (.cells #[.int .i64 4] 3)) := ((Below.refl _ w1).alloc (Nat.le_refl _) _).alloc (by simp) _
  have hsz := hb1.size
  rw [World.size_alloc] at hsz hw
  have hw2 := owns_below hw hb2
  have bS2 := bS.alloc (.cells #[.int .i64 4] 3)
  have bH2 := (bH1.alloc (.cells #[.slice (some ⟨w.heap.size + 1, 0, none⟩) L L] 138)).alloc (.cells #[.int .i64 4] 3)
  have hbw2 := hbw.trans (hb2.mono hbw.size)
  have hszW : ((w1.alloc (.cells #[.slice (some ⟨w.heap.size + 1, 0, none⟩) L L] 138)).alloc (.cells #[.int .i64 4] 3)).heap.size = w1.heap.size + 2 := by simp
  generalize (w1.alloc (.cells #[.slice (some ⟨w.heap.size + 1, 0, none⟩) L L] 138)).alloc (.cells #[.int .i64 4] 3) = w2 at *
  clear bS bH0 bH1 hw hb1 hb2
  refine wpIn_rangeFunc_ownG rfl (by omega) (gf := 168) (lb := #[.pointer (some ⟨w1.heap.size, 0, none⟩), .pointer (some ⟨w1.heap.size + 1, 0, none⟩)]) rfl trivial (enters_of Tryz.func168 (by kernel_rfl) rfl)
    (chunk_stops 2 (by omega) w1.heap.size (w1.heap.size + 1) (w.heap.size + 1) L (n + 7) HL.out (by have := HL.out; omega) w2 bS2 bN) keepC_t keepC_b (Below.refl _ _) (fun _ => rfl)
    (fun pre W => (∃ v, Boxed W w.heap.size 90 v ∧ W.ownsRow w2.heap.size 146 16 v pre.length (keyC (fun i => rkS s n (i % (n + 7))) pre) ∧ True) ∧ Moved w.heap.size w2.heap.size w2 W)
    (fun _ _ _ => False)
    (OwnFrom.and (_root_.Go.Own.from (holdsRow_own w2.heap.size w.heap.size 90 146 16 (fun pre : List Nat => pre.length) (fun pre => keyC (fun i => rkS s n (i % (n + 7))) pre) (fun _ _ => True)) _) (ownFrom_moved (Nat.le_refl _) (Nat.le_refl _)))
    (fun _ _ _ _ _ hs _ _ => hs)
    ⟨⟨_, bH2, World.ownsRow_nil _ _ _ _, trivial⟩, Moved.refl _ _ _⟩
    (fun x => { tmps := #[.string s, undef, .slice none 0 0, .pointer (some ⟨w.heap.size, 0, none⟩), chk (w.heap.size + 1) (x % (n + 7)), .string s, .slice (some ⟨w.heap.size + 1, 0, none⟩) L L, .func (.func 168) #[] #[.pointer (some ⟨w1.heap.size, 0, none⟩), .pointer (some ⟨w1.heap.size + 1, 0, none⟩)], chk (w.heap.size + 1) (x % (n + 7)), undef, undef, undef, undef, undef, undef, undef, undef, undef, undef, undef, undef, undef, undef, undef, undef, undef, undef], defers := [] }) ?assign ?body ?done ?stop
  case assign =>
    intro l x W K hK
    gi_wp2
    exact hK
  case body =>
    rintro l pre x W ⟨⟨v, hv, hrow, -⟩, hm⟩ hlt
    have hx : x % (n + 7) < n + 7 := Nat.mod_lt _ (by omega)
    obtain ⟨y, hy⟩ : ∃ y, x % (n + 7) = y := ⟨_, rfl⟩
    have hkey : keyC (fun i => rkS s n (i % (n + 7))) (pre ++ [x]) = keyC (fun i => rkS s n (i % (n + 7))) pre ++ cells8 (upTo (byteOf (rkS s n y)) 16) := by rw [keyC_snoc, hy]
    rw [hy] at hx ⊢
    obtain ⟨i, hi4⟩ : ∃ i, 4 * y = i := ⟨_, rfl⟩
    obtain ⟨c, hc⟩ : ∃ c, c = fun j => ew s n (i + j) := ⟨_, rfl⟩
    have hcell : ∀ j, j < 4 → W.cell? ⟨w.heap.size + 1, i + j, none⟩ = some (.int .u32 ((c j).toNat : Int)) := fun j hj => by
      rw [hc]
      exact (World.cell?_of_block (a := ⟨w.heap.size + 1, i + j, none⟩) (hm.block (w.heap.size + 1) (by omega) (by simp))).trans ((hw2.cellAt (i + j) (by have := HL.out; omega)).trans (cells32_at _ _ _ (upTo_at _ _ _ (by have := HL.out; omega))))
    have c0 : W.cell? ⟨w.heap.size + 1, i, none⟩ = _ := hcell 0 (by omega)
    have c1 := hcell 1 (by omega)
    have c2 := hcell 2 (by omega)
    have c3 := hcell 3 (by omega)
    have hst : cells8 (upTo (byH c) 16) = cells8 (upTo (byteOf (rkS s n y)) 16) := by
      congr 1
      refine upTo_congr _ _ _ fun j hj => ?_
      rw [hc, ← hi4]; exact (ofW_byte (fun j => ew s n (4 * y + j)) j hj).symm
    have hlen : W.heap.size < 9223372036854775807 ∨ True := .inr trivial
    have HK := Lib.hid hkey
    have HS := Lib.hid hst
    have HM := Lib.hid hm
    have HR := Lib.hid hrow
    have HV := Lib.hid hv
    have HCS := fun W => Lib.hid (cstate_impl c W)
    have HW2 : Hid (w2.heap.size ≤ W.heap.size) := Lib.hid hm.size
    have HN : Hid (w.heap.size + 1 < w2.heap.size) := Lib.hid (by omega)
    have hpl : pre.length ≤ 1000 := by omega
    have G0 : Hid (∀ W', Below W.heap.size W W' → W'.cell? ⟨w.heap.size, 0, none⟩ = some v) := Lib.hid fun W' hW' => (World.cell?_of_block (a := ⟨w.heap.size, 0, none⟩) (hW'.block _ hv.lt)).trans hv.cell
    have SM : Hid (∀ W', Moved w.heap.size w2.heap.size W W' → W'.cell? ⟨w.heap.size + 1, i, none⟩ = some (.int .u32 ((c 0).toNat : Int)) ∧ W'.cell? ⟨w.heap.size + 1, i + 1, none⟩ = some (.int .u32 ((c 1).toNat : Int)) ∧ W'.cell? ⟨w.heap.size + 1, i + 2, none⟩ = some (.int .u32 ((c 2).toNat : Int)) ∧ W'.cell? ⟨w.heap.size + 1, i + 3, none⟩ = some (.int .u32 ((c 3).toNat : Int))) := Lib.hid fun W' hW' => by
      have hb := hW'.block (w.heap.size + 1) (by omega) (by simp)
      exact ⟨(World.cell?_of_block (a := ⟨w.heap.size + 1, i, none⟩) hb).trans c0, (World.cell?_of_block (a := ⟨w.heap.size + 1, i + 1, none⟩) hb).trans c1, (World.cell?_of_block (a := ⟨w.heap.size + 1, i + 2, none⟩) hb).trans c2, (World.cell?_of_block (a := ⟨w.heap.size + 1, i + 3, none⟩) hb).trans c3⟩
    unfold clA at HCS
    unfold chk
    rw [hi4]
    have hS0 := SM.out W.drew (Moved.refl _ _ _).drew
    clear hc hcell hkey hst hlen hrow hv hm hlt hx hy hi4 c0 c1 c2 c3 hw2 bS2 bN bH2
    gi_wp2
    refine wpIn_region_round _ (noDefer_of (by kernel_rfl)) (by kernel_rfl) (S := fun W' => W'.cell? ⟨w.heap.size + 1, i, none⟩ = some (.int .u32 ((c 0).toNat : Int)) ∧ W'.cell? ⟨w.heap.size + 1, i + 1, none⟩ = some (.int .u32 ((c 1).toNat : Int)) ∧ W'.cell? ⟨w.heap.size + 1, i + 2, none⟩ = some (.int .u32 ((c 2).toNat : Int)) ∧ W'.cell? ⟨w.heap.size + 1, i + 3, none⟩ = some (.int .u32 ((c 3).toNat : Int))) hS0 (fun hS => ?_) (fun a w h => h)
    refine tk 1 (v := ?_) ?_ hS ?_
    rotate_left
    · intro w hSw
      obtain ⟨s0, s1, s2, s3⟩ := hSw
      go_simp
      first | done | with_reducible rfl
    try simp only [lay]
    refine tk 2 (v := ?_) ?_ hS ?_
    rotate_left
    · intro w hSw
      obtain ⟨s0, s1, s2, s3⟩ := hSw
      go_simp
      first | done | with_reducible rfl
    try simp only [lay]
    refine tk 3 (v := ?_) ?_ hS ?_
    rotate_left
    · intro w hSw
      obtain ⟨s0, s1, s2, s3⟩ := hSw
      go_simp
      first | done | with_reducible rfl
    try simp only [lay]
    refine tk 4 (v := ?_) ?_ hS ?_
    rotate_left
    · intro w hSw
      obtain ⟨s0, s1, s2, s3⟩ := hSw
      go_simp
      first | done | with_reducible rfl
    try simp only [lay]
    refine tk 5 (v := ?_) ?_ hS ?_
    rotate_left
    · intro w hSw
      obtain ⟨s0, s1, s2, s3⟩ := hSw
      go_simp
      first | done | with_reducible rfl
    try simp only [lay]
    refine tk 6 (v := ?_) ?_ hS ?_
    rotate_left
    · intro w hSw
      obtain ⟨s0, s1, s2, s3⟩ := hSw
      go_simp
      first | done | with_reducible rfl
    try simp only [lay]
    refine tk 7 (v := ?_) ?_ hS ?_
    rotate_left
    · intro w hSw
      obtain ⟨s0, s1, s2, s3⟩ := hSw
      go_simp
      first | done | with_reducible rfl
    try simp only [lay]
    refine tk 8 (v := ?_) ?_ hS ?_
    rotate_left
    · intro w hSw
      obtain ⟨s0, s1, s2, s3⟩ := hSw
      go_simp
      first | done | with_reducible rfl
    try simp only [lay]
    refine tk 9 (v := ?_) ?_ hS ?_
    rotate_left
    · intro w hSw
      obtain ⟨s0, s1, s2, s3⟩ := hSw
      go_simp
      first | done | with_reducible rfl
    try simp only [lay]
    refine tk 10 (v := ?_) ?_ hS ?_
    rotate_left
    · intro w hSw
      obtain ⟨s0, s1, s2, s3⟩ := hSw
      go_simp
      first | done | with_reducible rfl
    try simp only [lay]
    refine tk 11 (v := ?_) ?_ hS ?_
    rotate_left
    · intro w hSw
      obtain ⟨s0, s1, s2, s3⟩ := hSw
      go_simp
      first | done | with_reducible rfl
    try simp only [lay]
    refine tk 12 (v := ?_) ?_ hS ?_
    rotate_left
    · intro w hSw
      obtain ⟨s0, s1, s2, s3⟩ := hSw
      go_simp
      first | done | with_reducible rfl
    try simp only [lay]
    refine tk 13 (v := ?_) ?_ hS ?_
    rotate_left
    · intro w hSw
      obtain ⟨s0, s1, s2, s3⟩ := hSw
      go_simp
      first | done | with_reducible rfl
    try simp only [lay]
    refine wpAnyH_ready (rs := [0, 14]) (by kernel_rfl) (by simp) ?_
    refine AllReadyH.cons rfl (fun K hK => ?_) (AllReadyH.cons rfl (fun K hK => ?_) (AllReadyH.nil))
    · have k0 := G0.out W.drew ((Below.refl _ W).drew)
      go_simp
      refine hK.out _ _ hS (fun hS1 => ?_)
      clear hK K k0
      try simp only [lay]
      refine wpAnyH_ready (rs := [14]) (by kernel_rfl) (by simp) ?_
      refine AllReadyH.cons rfl (fun K hK => ?_) (AllReadyH.nil)
      go_simp
      refine (HCS _).out.mono ?_; rintro e w5 ⟨rfl, hb5⟩
      have HB5 : Hid (Below W.heap.size W w5) := Lib.hid (((Below.refl W.heap.size W).drew).trans hb5)
      have HR5 := Lib.hid (owns_below HR.out HB5.out)
      have hS5 := SM.out w5 (Moved.of_below HB5.out HW2.out)
      clear hb5
      refine hK.out _ _ hS5 (fun hS2 => ?_)
      clear hK K
      try simp only [lay]
      refine wpAnyH_ready (rs := [15]) (by kernel_rfl) (by simp) ?_
      refine AllReadyH.cons rfl (fun K hK => ?_) (AllReadyH.nil)
      refine Eq.mpr (if_pos (by rfl)) ?_
      refine wp_buildSlice 90 146 1 _ rfl (stA (byH c)) i0 (.agg zero16) Tryz.underlying90 hi hz0 (by rw [hz1]; decide) (by rw [hz1]; decide) (by rw [hz1]; exact Eq.trans (congrArg (Instr.fill _ _) (by kernel_rfl : _ = [(0, Value.agg (stA (byH c)))])) (fill_state (byH c))) ?_
      have hS5b := SM.out (w5.alloc (.cells (stA (byH c)) 146)) ((Moved.of_below HB5.out HW2.out).trans (Moved.of_below ((Below.refl w5.heap.size _).alloc (Nat.le_refl _) _) (by have := HW2.out; have := HB5.out.size; omega)))
      refine hK.out _ _ hS5b (fun hS3 => ?_)
      clear hK K
      try simp only [lay]
      refine wpAnyH_ready (rs := [16]) (by kernel_rfl) (by simp) ?_
      refine AllReadyH.cons rfl (fun K hK => ?_) AllReadyH.nil
      refine Eq.mpr (if_pos (by rfl)) ?_
      refine wp_append_lies (w5.alloc (.cells (stA (byH c)) 146)) (.tmp 9) (.tmp 24) 90 rfl w2.heap.size 146 i0 (.agg zero16) 16 16 Tryz.underlying90 hi hz0 hz1 hz2 rfl (by decide) v pre.length (keyC (fun i => rkS s n (i % (n + 7))) pre) rfl (HR5.out.alloc _) ⟨w5.heap.size, 0, none⟩ 1 1 (cells8 (upTo (byH c) 16)) rfl (by rw [cells8_length, upTo_length]) (World.news_of_block (cs := stA (byH c)) (heap_alloc_new w5 _)) (fun u hu => cells8_oneCell _ u hu) (by omega) (by unfold maxLen; omega) (by omega) (by have := HW2.out; have := HB5.out.size; simp; omega) (w5.heap.size + 1) (by simp) ?_
      intro g2 cap2 w6 hown6 hgrow hat hlt6
      obtain ⟨k0, k0f, M4, FIN⟩ := key_fin HV.out HM.out HB5.out (by have := HN.out; omega) HW2.out HR.out hown6 hgrow
      clear hown6 hgrow hat hlt6
      refine hK.out _ _ (SM.out _ M4.out) (fun hS6 => ?_)
      clear hK K
      try simp only [lay]
      refine wpAnyH_ready (rs := [17]) (by kernel_rfl) (by simp) ?_
      refine AllReadyH.cons rfl (fun K hK => ?_) AllReadyH.nil
      go_simp
      refine hK.out _ _ (SM.out _ FIN.out.2.2.2.1) (fun hS7 => ?_)
      clear hK K
      try simp only [lay]
      refine wpAnyH_done (by kernel_rfl) ?_ _
      obtain ⟨f1, f2, f3, f4, f5⟩ := FIN.out
      refine ⟨rfl, f1.from _, ⟨fun e => ?_, fun e => ?_⟩, ⟨⟨_, f2, ?_, trivial⟩, f5⟩⟩
      · exact (f4.block _ (by have := HN.out; omega) (by omega)).trans e
      · exact (f4.block _ (by have := HN.out; omega) (by omega)).trans e
      · rw [List.length_append, HK.out, ← HS.out]; exact f3
    · go_simp
      refine (HCS _).out.mono ?_; rintro e w5 ⟨rfl, hb5⟩
      have HB5 : Hid (Below W.heap.size W w5) := Lib.hid (((Below.refl W.heap.size W).drew).trans hb5)
      have HR5 := Lib.hid (owns_below HR.out HB5.out)
      have hS5 := SM.out w5 (Moved.of_below HB5.out HW2.out)
      clear hb5
      refine hK.out _ _ hS5 (fun hS2 => ?_)
      clear hK K
      try simp only [lay]
      refine wpAnyH_ready (rs := [0, 15]) (by kernel_rfl) (by simp) ?_
      refine AllReadyH.cons rfl (fun K hK => ?_) (AllReadyH.cons rfl (fun K hK => ?_) (AllReadyH.nil))
      · have k0 := G0.out w5 HB5.out
        go_simp
        refine hK.out _ _ hS5 (fun hS3 => ?_)
        clear hK K k0
        try simp only [lay]
        refine wpAnyH_ready (rs := [15]) (by kernel_rfl) (by simp) ?_
        refine AllReadyH.cons rfl (fun K hK => ?_) (AllReadyH.nil)
        refine Eq.mpr (if_pos (by rfl)) ?_
        refine wp_buildSlice 90 146 1 _ rfl (stA (byH c)) i0 (.agg zero16) Tryz.underlying90 hi hz0 (by rw [hz1]; decide) (by rw [hz1]; decide) (by rw [hz1]; exact Eq.trans (congrArg (Instr.fill _ _) (by kernel_rfl : _ = [(0, Value.agg (stA (byH c)))])) (fill_state (byH c))) ?_
        have hS5b := SM.out (w5.alloc (.cells (stA (byH c)) 146)) ((Moved.of_below HB5.out HW2.out).trans (Moved.of_below ((Below.refl w5.heap.size _).alloc (Nat.le_refl _) _) (by have := HW2.out; have := HB5.out.size; omega)))
        refine hK.out _ _ hS5b (fun hS4 => ?_)
        clear hK K
        try simp only [lay]
        refine wpAnyH_ready (rs := [16]) (by kernel_rfl) (by simp) ?_
        refine AllReadyH.cons rfl (fun K hK => ?_) AllReadyH.nil
        refine Eq.mpr (if_pos (by rfl)) ?_
        refine wp_append_lies (w5.alloc (.cells (stA (byH c)) 146)) (.tmp 9) (.tmp 24) 90 rfl w2.heap.size 146 i0 (.agg zero16) 16 16 Tryz.underlying90 hi hz0 hz1 hz2 rfl (by decide) v pre.length (keyC (fun i => rkS s n (i % (n + 7))) pre) rfl (HR5.out.alloc _) ⟨w5.heap.size, 0, none⟩ 1 1 (cells8 (upTo (byH c) 16)) rfl (by rw [cells8_length, upTo_length]) (World.news_of_block (cs := stA (byH c)) (heap_alloc_new w5 _)) (fun u hu => cells8_oneCell _ u hu) (by omega) (by unfold maxLen; omega) (by omega) (by have := HW2.out; have := HB5.out.size; simp; omega) (w5.heap.size + 1) (by simp) ?_
        intro g2 cap2 w6 hown6 hgrow hat hlt6
        obtain ⟨k0, k0f, M4, FIN⟩ := key_fin HV.out HM.out HB5.out (by have := HN.out; omega) HW2.out HR.out hown6 hgrow
        clear hown6 hgrow hat hlt6
        refine hK.out _ _ (SM.out _ M4.out) (fun hS6 => ?_)
        clear hK K
        try simp only [lay]
        refine wpAnyH_ready (rs := [17]) (by kernel_rfl) (by simp) ?_
        refine AllReadyH.cons rfl (fun K hK => ?_) AllReadyH.nil
        go_simp
        refine hK.out _ _ (SM.out _ FIN.out.2.2.2.1) (fun hS7 => ?_)
        clear hK K
        try simp only [lay]
        refine wpAnyH_done (by kernel_rfl) ?_ _
        obtain ⟨f1, f2, f3, f4, f5⟩ := FIN.out
        refine ⟨rfl, f1.from _, ⟨fun e => ?_, fun e => ?_⟩, ⟨⟨_, f2, ?_, trivial⟩, f5⟩⟩
        · exact (f4.block _ (by have := HN.out; omega) (by omega)).trans e
        · exact (f4.block _ (by have := HN.out; omega) (by omega)).trans e
        · rw [List.length_append, HK.out, ← HS.out]; exact f3
      · refine Eq.mpr (if_pos (by rfl)) ?_
        refine wp_buildSlice 90 146 1 _ rfl (stA (byH c)) i0 (.agg zero16) Tryz.underlying90 hi hz0 (by rw [hz1]; decide) (by rw [hz1]; decide) (by rw [hz1]; exact Eq.trans (congrArg (Instr.fill _ _) (by kernel_rfl : _ = [(0, Value.agg (stA (byH c)))])) (fill_state (byH c))) ?_
        have hS5b := SM.out (w5.alloc (.cells (stA (byH c)) 146)) ((Moved.of_below HB5.out HW2.out).trans (Moved.of_below ((Below.refl w5.heap.size _).alloc (Nat.le_refl _) _) (by have := HW2.out; have := HB5.out.size; omega)))
        refine hK.out _ _ hS5b (fun hS3 => ?_)
        clear hK K
        try simp only [lay]
        refine wpAnyH_ready (rs := [0]) (by kernel_rfl) (by simp) ?_
        refine AllReadyH.cons rfl (fun K hK => ?_) (AllReadyH.nil)
        have k0 := G0.out (w5.alloc (.cells (stA (byH c)) 146)) (HB5.out.alloc (by have := HB5.out.size; omega) _)
        go_simp
        refine hK.out _ _ hS5b (fun hS4 => ?_)
        clear hK K k0
        try simp only [lay]
        refine wpAnyH_ready (rs := [16]) (by kernel_rfl) (by simp) ?_
        refine AllReadyH.cons rfl (fun K hK => ?_) AllReadyH.nil
        refine Eq.mpr (if_pos (by rfl)) ?_
        refine wp_append_lies (w5.alloc (.cells (stA (byH c)) 146)) (.tmp 9) (.tmp 24) 90 rfl w2.heap.size 146 i0 (.agg zero16) 16 16 Tryz.underlying90 hi hz0 hz1 hz2 rfl (by decide) v pre.length (keyC (fun i => rkS s n (i % (n + 7))) pre) rfl (HR5.out.alloc _) ⟨w5.heap.size, 0, none⟩ 1 1 (cells8 (upTo (byH c) 16)) rfl (by rw [cells8_length, upTo_length]) (World.news_of_block (cs := stA (byH c)) (heap_alloc_new w5 _)) (fun u hu => cells8_oneCell _ u hu) (by omega) (by unfold maxLen; omega) (by omega) (by have := HW2.out; have := HB5.out.size; simp; omega) (w5.heap.size + 1) (by simp) ?_
        intro g2 cap2 w6 hown6 hgrow hat hlt6
        obtain ⟨k0, k0f, M4, FIN⟩ := key_fin HV.out HM.out HB5.out (by have := HN.out; omega) HW2.out HR.out hown6 hgrow
        clear hown6 hgrow hat hlt6
        refine hK.out _ _ (SM.out _ M4.out) (fun hS6 => ?_)
        clear hK K
        try simp only [lay]
        refine wpAnyH_ready (rs := [17]) (by kernel_rfl) (by simp) ?_
        refine AllReadyH.cons rfl (fun K hK => ?_) AllReadyH.nil
        go_simp
        refine hK.out _ _ (SM.out _ FIN.out.2.2.2.1) (fun hS7 => ?_)
        clear hK K
        try simp only [lay]
        refine wpAnyH_done (by kernel_rfl) ?_ _
        obtain ⟨f1, f2, f3, f4, f5⟩ := FIN.out
        refine ⟨rfl, f1.from _, ⟨fun e => ?_, fun e => ?_⟩, ⟨⟨_, f2, ?_, trivial⟩, f5⟩⟩
        · exact (f4.block _ (by have := HN.out; omega) (by omega)).trans e
        · exact (f4.block _ (by have := HN.out; omega) (by omega)).trans e
        · rw [List.length_append, HK.out, ← HS.out]; exact f3
  case done =>
    rintro D ys W hD hys ⟨⟨v, hv, hrow, -⟩, hm⟩ hK
    have hc := hv.cell
    subst hys
    rw [List.length_range, keyC_congr _ (rkS s n) _ (fun i hi => by rw [Nat.mod_eq_of_lt (List.mem_range.1 hi)])] at hrow
    have hown2 := owns_down (ownsRow_putObj hrow (.deferred none) hK rfl) (show w.heap.size ≤ w2.heap.size by omega)
    obtain ⟨g, cap, rfl⟩ := ownsRow_succ (k := n + 6) hrow
    gi_wp2
    refine ⟨by simp, .inl ⟨_, _, rfl, run_takeDeferred hK, ?_⟩⟩
    exact ⟨_, results_tmp rfl _ _ _, g, cap, rfl, hown2, (hbw2.trans (hm.below (Nat.le_refl _) (by omega))).trans (belowK_b (w := w) (Nat.le_refl _) W D _ _ (by omega) hK rfl rfl)⟩
  case stop =>
    rintro D c pre W _ _ h _
    exact h.elim
end Go.Proofs.YtbfmbdohebdbaaaGreatDoor
set_option linter.unusedVariables false
set_option linter.unusedSimpArgs false
namespace Go.Proofs.YtbfmbdohebdbaaaGreatDoor
open Go Go.RowKit Go.Proofs.YtbfmbdohebdbaaaGreatDoor.Lk
attribute [local go_sem ↓] Go.wp_at_zero Go.wp_at_succ

theorem infoF : (Tryz.prog.info? 1).map (fun i => (i.zero, i.size, i.bytes)) = some (some .nilFunc, 1, 8) := by kernel_rfl
/-- a step of the passage at p, as a value. -/
def stF (p : Nat) (s : PStp) : Value := .func (.func s.fn) #[.pointer (some ⟨p, 0, none⟩)] #[]
def stV (p : Nat) (l : List PStp) : List Value := l.map (stF p)
theorem stV_append (p : Nat) (l m : List PStp) : stV p (l ++ m) = stV p l ++ stV p m := List.map_append
theorem stV_length (p : Nat) (l : List PStp) : (stV p l).length = l.length := List.length_map _
set_option maxRecDepth 100000 in
theorem mixedRounds_impl (p g o m c : Nat) (f : Nat → UInt8) (sv uv bv : Value) (w : World) (hp : PsAt w p (.slice (some ⟨g, o, none⟩) (m + 2) c) f sv uv bv) (hm : m ≤ 1000) :
    Calls Tryz.prog 151 #[.pointer (some ⟨p, 0, none⟩)] w fun e w' => e = .returned (.int .i64 (m : Int)) ∧ w = w' := by
  have c0 := hp.c0
  have hm2 : (m : Int) ≤ 1000 := by omega
  clear hp
  go_enter Tryz.func151, Tryz.ntmps151
  go_wp2
  go_ret
  exact ⟨by go_num, rfl⟩
set_option maxRecDepth 100000 in
set_option maxHeartbeats 1600000 in
theorem lockSteps_impl (p g o m c : Nat) (f : Nat → UInt8) (sv uv bv : Value) (w : World) (hp : PsAt w p (.slice (some ⟨g, o, none⟩) (m + 2) c) f sv uv bv) (hm : m ≤ 1000) :
    Calls Tryz.prog 120 #[.pointer (some ⟨p, 0, none⟩)] w fun e w' => ∃ v, e = .returned v ∧ w'.ownsRow w.heap.size 1 1 v (4 * m + 4) (stV p (lockAll m)) ∧ Below w.heap.size w w' := by
  obtain ⟨i0, hi, hz0, hz1, hz2⟩ := info_parts infoF
  have hmf : ∀ (fn : Fn) (first cap : Array Value) (w : World), (Instr.makeFunc fn first cap).run Tryz.prog w = .ok (.func fn first cap) w := fun _ _ _ _ => rfl
  have HM : Hid (∀ W, Below w.heap.size w W → Calls Tryz.prog 151 #[.pointer (some ⟨p, 0, none⟩)] W fun e w' => e = .returned (.int .i64 (m : Int)) ∧ W = w') := Lib.hid fun W hW => mixedRounds_impl p g o m c f sv uv bv W (hp.of_block (hW.block p hp.lt)) hm
  have N1 : Hid ((w.alloc (.cells #[.func (.func 159) #[.pointer (some ⟨p, 0, none⟩)] #[]] 1)).ownsRow w.heap.size 1 1 (.slice (some ⟨w.heap.size, 0, none⟩) 1 1) 1 (stV p (lockTo 0))) := Lib.hid ⟨rfl, .inr ⟨_, _, _, rfl, Nat.le_refl _, heap_alloc_new w _, Nat.le_refl _, by unfold maxLen; omega, rfl, rfl⟩⟩
  have N2 : Hid (Below w.heap.size w (w.alloc (.cells #[.func (.func 159) #[.pointer (some ⟨p, 0, none⟩)] #[]] 1))) := Lib.hid ((Below.refl _ _).alloc (Nat.le_refl _) _)
  clear hp
  go_enter Tryz.func120, Tryz.ntmps120
  go_wp2_with fail
  refine (HM.out _ N2.out).mono ?_; rintro e w' ⟨rfl, rfl⟩
  go_wp2
  go_loopw [3, 9] (fun v i wr => ∃ k : Nat, k ≤ m ∧ i = .int .i64 k ∧ wr.ownsRow w.heap.size 1 1 v (4 * k + 1) (stV p (lockTo k)) ∧ Below w.heap.size w wr) (fun _ i _ => m - (intOf i).toNat)
  case atStart => exact ⟨0, Nat.zero_le _, rfl, N1.out, N2.out⟩
  case round =>
    obtain ⟨k, hk, rfl, hown, hbel⟩ := hrel
    by_cases hlt : k < m
    · have hk1 : (k : Int) < (m : Int) := by omega
      have hk0 : (0 : Int) ≤ (k : Int) := by omega
      have hm2 : (m : Int) ≤ 1000 := by omega
      go_wp2_with (at_builtin; refine stp ?_)
      refine unstp ?_
      refine wpList_append_lies _ rfl (.tmp 11) (.tmp 20) 199 rfl w.heap.size 1 i0 .nilFunc 1 8 Tryz.underlying199 hi hz0 hz1 hz2 rfl (by decide) u3 (4 * k + 1) (stV p (lockTo k)) rfl (hown.alloc _) ⟨wr.heap.size, 0, none⟩ 4 4 [.func (.func 160) #[.pointer (some ⟨p, 0, none⟩)] #[], .func (.func 161) #[.pointer (some ⟨p, 0, none⟩)] #[], .func (.func 162) #[.pointer (some ⟨p, 0, none⟩)] #[], .func (.func 159) #[.pointer (some ⟨p, 0, none⟩)] #[]] rfl rfl (World.news_of_block (cs := #[.func (.func 160) #[.pointer (some ⟨p, 0, none⟩)] #[], .func (.func 161) #[.pointer (some ⟨p, 0, none⟩)] #[], .func (.func 162) #[.pointer (some ⟨p, 0, none⟩)] #[], .func (.func 159) #[.pointer (some ⟨p, 0, none⟩)] #[]]) (heap_alloc_new wr _)) (by simp [Value.oneCell']) (by omega) (by unfold maxLen; omega) (by omega) (by have := hbel.size; simp; omega) (wr.heap.size + 1) (by simp) ?_
      intro g2 cap2 w5 hown5 hgrow hat hlt5
      have hrel : w5.ownsRow w.heap.size 1 1 (.slice (some ⟨g2, 0, none⟩) (4 * k + 1 + 4) cap2) (4 * (k + 1) + 1) (stV p (lockTo (k + 1))) ∧ Below w.heap.size w w5 := by
        refine ⟨?_, below_append hown hbel hgrow⟩
        have e : 4 * (k + 1) + 1 = 4 * k + 1 + 4 := by omega
        rw [e, lockTo, stV_append]; exact hown5
      clear hown hbel hown5 hgrow hat hlt5
      go_wp2
      go_roundw
      case rel => exact ⟨k + 1, by omega, by go_num, hrel.1, hrel.2⟩
      case measure => simp [intOf]; omega
    · have hk1 : ¬ (k : Int) < (m : Int) := by omega
      obtain rfl : k = m := by omega
      go_wp2_with (at_builtin; refine stp ?_)
      refine unstp ?_
      refine wpList_append_lies _ rfl (.tmp 23) (.tmp 30) 199 rfl w.heap.size 1 i0 .nilFunc 1 8 Tryz.underlying199 hi hz0 hz1 hz2 rfl (by decide) u3 (4 * k + 1) (stV p (lockTo k)) rfl (hown.alloc _) ⟨wr.heap.size, 0, none⟩ 3 3 [.func (.func 160) #[.pointer (some ⟨p, 0, none⟩)] #[], .func (.func 161) #[.pointer (some ⟨p, 0, none⟩)] #[], .func (.func 159) #[.pointer (some ⟨p, 0, none⟩)] #[]] rfl rfl (World.news_of_block (cs := #[.func (.func 160) #[.pointer (some ⟨p, 0, none⟩)] #[], .func (.func 161) #[.pointer (some ⟨p, 0, none⟩)] #[], .func (.func 159) #[.pointer (some ⟨p, 0, none⟩)] #[]]) (heap_alloc_new wr _)) (by simp [Value.oneCell']) (by omega) (by unfold maxLen; omega) (by omega) (by have := hbel.size; simp; omega) (wr.heap.size + 1) (by simp) ?_
      intro g2 cap2 w5 hown5 hgrow hat hlt5
      have hrel : w5.ownsRow w.heap.size 1 1 (.slice (some ⟨g2, 0, none⟩) (4 * k + 1 + 3) cap2) (4 * k + 4) (stV p (lockAll k)) ∧ Below w.heap.size w w5 := by
        refine ⟨?_, below_append hown hbel hgrow⟩
        have e : 4 * k + 4 = 4 * k + 1 + 3 := by omega
        rw [e, lockAll, stV_append]; exact hown5
      clear hown hbel hown5 hgrow hat hlt5
      go_wp2
      go_ret
      exact ⟨_, rfl, hrel.1, hrel.2⟩
set_option maxRecDepth 100000 in
set_option maxHeartbeats 1600000 in
theorem unlockSteps_impl (p g o m c : Nat) (f : Nat → UInt8) (sv uv bv : Value) (w : World) (hp : PsAt w p (.slice (some ⟨g, o, none⟩) (m + 2) c) f sv uv bv) (hm : m ≤ 1000) :
    Calls Tryz.prog 102 #[.pointer (some ⟨p, 0, none⟩)] w fun e w' => ∃ v, e = .returned v ∧ w'.ownsRow w.heap.size 1 1 v (4 * m + 4) (stV p (unlockAll m)) ∧ Below w.heap.size w w' := by
  obtain ⟨i0, hi, hz0, hz1, hz2⟩ := info_parts infoF
  have hmf : ∀ (fn : Fn) (first cap : Array Value) (w : World), (Instr.makeFunc fn first cap).run Tryz.prog w = .ok (.func fn first cap) w := fun _ _ _ _ => rfl
  have HM : Hid (∀ W, Below w.heap.size w W → Calls Tryz.prog 151 #[.pointer (some ⟨p, 0, none⟩)] W fun e w' => e = .returned (.int .i64 (m : Int)) ∧ W = w') := Lib.hid fun W hW => mixedRounds_impl p g o m c f sv uv bv W (hp.of_block (hW.block p hp.lt)) hm
  have N1 : Hid ((w.alloc (.cells #[.func (.func 148) #[.pointer (some ⟨p, 0, none⟩)] #[], .func (.func 149) #[.pointer (some ⟨p, 0, none⟩)] #[], .func (.func 150) #[.pointer (some ⟨p, 0, none⟩)] #[]] 1)).ownsRow w.heap.size 1 1 (.slice (some ⟨w.heap.size, 0, none⟩) 3 3) 3 (stV p (unlockTo 0))) := Lib.hid ⟨rfl, .inr ⟨_, _, _, rfl, Nat.le_refl _, heap_alloc_new w _, Nat.le_refl _, by unfold maxLen; omega, rfl, rfl⟩⟩
  have N2 : Hid (Below w.heap.size w (w.alloc (.cells #[.func (.func 148) #[.pointer (some ⟨p, 0, none⟩)] #[], .func (.func 149) #[.pointer (some ⟨p, 0, none⟩)] #[], .func (.func 150) #[.pointer (some ⟨p, 0, none⟩)] #[]] 1))) := Lib.hid ((Below.refl _ _).alloc (Nat.le_refl _) _)
  clear hp
  go_enter Tryz.func102, Tryz.ntmps102
  go_wp2_with fail
  refine (HM.out _ N2.out).mono ?_; rintro e w' ⟨rfl, rfl⟩
  go_wp2
  go_loopw [3, 13] (fun v i wr => ∃ k : Nat, k ≤ m ∧ i = .int .i64 k ∧ wr.ownsRow w.heap.size 1 1 v (4 * k + 3) (stV p (unlockTo k)) ∧ Below w.heap.size w wr) (fun _ i _ => m - (intOf i).toNat)
  case atStart => exact ⟨0, Nat.zero_le _, rfl, N1.out, N2.out⟩
  case round =>
    obtain ⟨k, hk, rfl, hown, hbel⟩ := hrel
    by_cases hlt : k < m
    · have hk1 : (k : Int) < (m : Int) := by omega
      have hk0 : (0 : Int) ≤ (k : Int) := by omega
      have hm2 : (m : Int) ≤ 1000 := by omega
      go_wp2_with (at_builtin; refine stp ?_)
      refine unstp ?_
      refine wpList_append_lies _ rfl (.tmp 15) (.tmp 24) 199 rfl w.heap.size 1 i0 .nilFunc 1 8 Tryz.underlying199 hi hz0 hz1 hz2 rfl (by decide) u3 (4 * k + 3) (stV p (unlockTo k)) rfl (hown.alloc _) ⟨wr.heap.size, 0, none⟩ 4 4 [.func (.func 148) #[.pointer (some ⟨p, 0, none⟩)] #[], .func (.func 152) #[.pointer (some ⟨p, 0, none⟩)] #[], .func (.func 149) #[.pointer (some ⟨p, 0, none⟩)] #[], .func (.func 150) #[.pointer (some ⟨p, 0, none⟩)] #[]] rfl rfl (World.news_of_block (cs := #[.func (.func 148) #[.pointer (some ⟨p, 0, none⟩)] #[], .func (.func 152) #[.pointer (some ⟨p, 0, none⟩)] #[], .func (.func 149) #[.pointer (some ⟨p, 0, none⟩)] #[], .func (.func 150) #[.pointer (some ⟨p, 0, none⟩)] #[]]) (heap_alloc_new wr _)) (by simp [Value.oneCell']) (by omega) (by unfold maxLen; omega) (by omega) (by have := hbel.size; simp; omega) (wr.heap.size + 1) (by simp) ?_
      intro g2 cap2 w5 hown5 hgrow hat hlt5
      have hrel : w5.ownsRow w.heap.size 1 1 (.slice (some ⟨g2, 0, none⟩) (4 * k + 3 + 4) cap2) (4 * (k + 1) + 3) (stV p (unlockTo (k + 1))) ∧ Below w.heap.size w w5 := by
        refine ⟨?_, below_append hown hbel hgrow⟩
        have e : 4 * (k + 1) + 3 = 4 * k + 3 + 4 := by omega
        rw [e, unlockTo, stV_append]; exact hown5
      clear hown hbel hown5 hgrow hat hlt5
      go_wp2
      go_roundw
      case rel => exact ⟨k + 1, by omega, by go_num, hrel.1, hrel.2⟩
      case measure => simp [intOf]; omega
    · have hk1 : ¬ (k : Int) < (m : Int) := by omega
      obtain rfl : k = m := by omega
      go_wp2_with (at_builtin; refine stp ?_)
      refine unstp ?_
      refine wpList_append_lies _ rfl (.tmp 27) (.tmp 30) 199 rfl w.heap.size 1 i0 .nilFunc 1 8 Tryz.underlying199 hi hz0 hz1 hz2 rfl (by decide) u3 (4 * k + 3) (stV p (unlockTo k)) rfl (hown.alloc _) ⟨wr.heap.size, 0, none⟩ 1 1 [.func (.func 148) #[.pointer (some ⟨p, 0, none⟩)] #[]] rfl rfl (World.news_of_block (cs := #[.func (.func 148) #[.pointer (some ⟨p, 0, none⟩)] #[]]) (heap_alloc_new wr _)) (by simp [Value.oneCell']) (by omega) (by unfold maxLen; omega) (by omega) (by have := hbel.size; simp; omega) (wr.heap.size + 1) (by simp) ?_
      intro g2 cap2 w5 hown5 hgrow hat hlt5
      have hrel : w5.ownsRow w.heap.size 1 1 (.slice (some ⟨g2, 0, none⟩) (4 * k + 3 + 1) cap2) (4 * k + 4) (stV p (unlockAll k)) ∧ Below w.heap.size w w5 := by
        refine ⟨?_, below_append hown hbel hgrow⟩
        have e : 4 * k + 4 = 4 * k + 3 + 1 := by omega
        rw [e, unlockAll, stV_append]; exact hown5
      clear hown hbel hown5 hgrow hat hlt5
      go_wp2
      go_ret
      exact ⟨_, rfl, hrel.1, hrel.2⟩
end Go.Proofs.YtbfmbdohebdbaaaGreatDoor
set_option linter.unusedVariables false
set_option linter.unusedSimpArgs false
namespace Go.Proofs.YtbfmbdohebdbaaaGreatDoor
open Go Go.RowKit Go.Proofs.YtbfmbdohebdbaaaGreatDoor.Lk
attribute [local go_sem ↓] Go.wp_at_zero Go.wp_at_succ

theorem up_data (s : ByteArray) (hs : s.size = 16) : upTo (byteOf s) 16 = s.data.toList := by
  have h2 := congrArg (fun b => b.data.toList) (txt_own s 16 hs)
  simpa [txt] using h2
theorem copied_ps (w : World) (p : Nat) (kv : Value) (f : Nat → UInt8) (sv uv bv : Value) (s : ByteArray) (hs : s.size = 16) (hp : PsAt w p kv f sv uv bv) :
    (Builtin.copy_ #[22, 9] 3 #[.slice (some ⟨p, 1, none⟩) 16 16, .string s]).run Tryz.prog w = .ok (.int .i64 16) (w.setRow p (psC kv (byteOf s) sv uv bv).toArray) := by
  have h := Lib.run_copy_row_string (P := Tryz.prog) w 22 9 3 5 p 1 16 16 s (psC kv f sv uv bv).toArray 202 Tryz.underlying22 (by kernel_rfl) hp (by omega) (by rw [hs, List.size_toArray, psC_length]; decide)
  rw [h]
  have e : ((psC kv f sv uv bv).toArray.toList.take 1 ++ Lib.byteCells s.data.toList ++ (psC kv f sv uv bv).toArray.toList.drop (1 + s.size)).toArray = (psC kv (byteOf s) sv uv bv).toArray := by
    have h1 : (psC kv f sv uv bv).take 1 = [kv] := rfl
    have h2 : (psC kv f sv uv bv).drop (1 + s.size) = [sv, uv, bv] := by
      rw [hs]; unfold psC
      show List.drop 16 (cells8 (upTo f 16) ++ [sv, uv, bv]) = _
      rw [List.drop_left' (by rw [cells8_length, upTo_length])]
    have h3 : Lib.byteCells s.data.toList = cells8 (upTo (byteOf s) 16) := by rw [up_data s hs]; rfl
    show ((psC kv f sv uv bv).take 1 ++ _ ++ (psC kv f sv uv bv).drop (1 + s.size)).toArray = _
    rw [h1, h2, h3]; unfold psC
    rw [List.append_assoc, List.singleton_append]
  rw [e, hs]; rfl
theorem passage_fin {w w1 w2 w3 : World} {T U X R : Array Value} {t : TypeId} (hT : tabOf sbox = T) (hU : tabOf ubox = U) (hb1 : Below w.heap.size w w1) (hb2 : Below w1.heap.size w1 w2) (hb3 : Below (w2.alloc (.cells T 126)).heap.size (w2.alloc (.cells T 126)) w3) :
    Below w1.heap.size w1 (((w3.alloc (.cells U 126)).alloc (.cells X t)).setRow (w3.heap.size + 1) R) ∧ BoxAt (((w3.alloc (.cells U 126)).alloc (.cells X t)).setRow (w3.heap.size + 1) R) w2.heap.size sbox ∧ BoxAt (((w3.alloc (.cells U 126)).alloc (.cells X t)).setRow (w3.heap.size + 1) R) w3.heap.size ubox ∧ w1.heap.size ≤ w2.heap.size ∧ w2.heap.size < w3.heap.size ∧ Below w.heap.size w (((w3.alloc (.cells U 126)).alloc (.cells X t)).setRow (w3.heap.size + 1) R) := by
  have s2 := hb2.size
  have s3 := hb3.size
  rw [World.size_alloc] at s3 hb3
  have e3 : Below (w3.heap.size + 1) (w3.alloc (.cells U 126)) (((w3.alloc (.cells U 126)).alloc (.cells X t)).setRow (w3.heap.size + 1) R) :=
    below_setRow ((Below.refl _ _).alloc (by rw [World.size_alloc]; exact Nat.le_refl _) _) (Nat.le_refl _) R
  have e2 : Below (w2.heap.size + 1) (w2.alloc (.cells T 126)) (((w3.alloc (.cells U 126)).alloc (.cells X t)).setRow (w3.heap.size + 1) R) :=
    (hb3.alloc s3 _).trans (e3.mono (by omega))
  have e1 : Below w1.heap.size w1 (((w3.alloc (.cells U 126)).alloc (.cells X t)).setRow (w3.heap.size + 1) R) :=
    (hb2.alloc s2 _).trans (e2.mono (by omega))
  exact ⟨e1, (BoxAt.is w2 hT).below e2 (by omega), (BoxAt.is w3 hU).below e3 (by omega), s2, by omega, hb1.trans (e1.mono hb1.size)⟩
set_option maxRecDepth 100000 in
set_option maxHeartbeats 1600000 in
theorem passageOf_yes (key s : ByteArray) (n : Nat) (h : kOf key n) (hs : s.size = 16) (w : World) :
    Calls Tryz.prog 147 #[.string key, .string s] w fun e w' => ∃ p g c q1 q2, e = .returned (.pointer (some ⟨p, 0, none⟩)) ∧ PsAt w' p (.slice (some ⟨g, 0, none⟩) (n + 7) c) (byteOf s) (reader q1) (reader q2) (.slice none 0 0) ∧
      w'.ownsRow w.heap.size 146 16 (.slice (some ⟨g, 0, none⟩) (n + 7) c) (n + 7) (keyC (rkS key n) (List.range (n + 7))) ∧ BoxAt w' q1 sbox ∧ BoxAt w' q2 ubox ∧ (g < p ∧ q1 < p ∧ q2 < p ∧ w.heap.size ≤ p) ∧ Below w.heap.size w w' := by
  have hs2 : (s.size : Int) = 16 := by omega
  have HR := Lib.hid (roundKeys_impl key n h w)
  obtain ⟨T, hT⟩ : ∃ T, tabOf sbox = T := ⟨_, rfl⟩
  have HT := Lib.hid hT
  have HS := fun w => Lib.hid (subBox_any w)
  obtain ⟨U, hU⟩ : ∃ U, tabOf ubox = U := ⟨_, rfl⟩
  have HU := Lib.hid hU
  have HV := fun w => Lib.hid (unsubBox_any w)
  simp only [hT] at HS
  simp only [hU] at HV
  have HS16 := Lib.hid hs
  clear hT hU h hs
  go_enter Tryz.func147, Tryz.ntmps147
  go_wp2_with fail
  refine HR.out.mono ?_; rintro e w1 ⟨g, c, rfl, ho1, hb1⟩
  have HO1 := Lib.hid ho1
  have HB1 := Lib.hid hb1
  clear ho1 hb1 HR
  go_wp2_with fail
  refine (HS _).out.mono ?_; rintro e w2 ⟨rfl, hb2⟩
  have HB2 := Lib.hid hb2
  clear hb2
  go_wp2_with fail
  refine (readerOf_impl T w2).mono ?_; rintro e w' ⟨rfl, rfl⟩
  go_wp2_with fail
  refine (HV _).out.mono ?_; rintro e w3 ⟨rfl, hb3⟩
  have HB3 := Lib.hid hb3
  clear hb3
  go_wp2_with fail
  refine (readerOf_impl U w3).mono ?_; rintro e w' ⟨rfl, rfl⟩
  have P1 : Hid (PsAt ((w3.alloc (.cells U 126)).alloc (.cells #[.slice (some ⟨g, 0, none⟩) (n + 7) c, .int .u8 0, .int .u8 0, .int .u8 0, .int .u8 0, .int .u8 0, .int .u8 0, .int .u8 0, .int .u8 0, .int .u8 0, .int .u8 0, .int .u8 0, .int .u8 0, .int .u8 0, .int .u8 0, .int .u8 0, .int .u8 0, reader w2.heap.size, reader w3.heap.size, .slice none 0 0] 202)) (w3.heap.size + 1) (.slice (some ⟨g, 0, none⟩) (n + 7) c) (fun _ => 0) (reader w2.heap.size) (reader w3.heap.size) (.slice none 0 0)) := by
    refine Lib.hid ?_
    have := heap_alloc_new (w3.alloc (.cells U 126)) (.cells #[.slice (some ⟨g, 0, none⟩) (n + 7) c, .int .u8 0, .int .u8 0, .int .u8 0, .int .u8 0, .int .u8 0, .int .u8 0, .int .u8 0, .int .u8 0, .int .u8 0, .int .u8 0, .int .u8 0, .int .u8 0, .int .u8 0, .int .u8 0, .int .u8 0, .int .u8 0, reader w2.heap.size, reader w3.heap.size, .slice none 0 0] 202)
    rw [World.size_alloc] at this
    exact this
  have hcp := copied_ps _ _ _ _ _ _ _ s HS16.out P1.out
  have Q1 := Lib.hid (setRow_heap _ _ _ (psC (.slice (some ⟨g, 0, none⟩) (n + 7) c) (byteOf s) (reader w2.heap.size) (reader w3.heap.size) (.slice none 0 0)).toArray _ _ P1.out)
  have F1 := fun X R t => Lib.hid (passage_fin (X := X) (R := R) (t := t) HT.out HU.out HB1.out HB2.out HB3.out)
  unfold reader at hcp Q1 ⊢
  clear P1 HT HU HS HV HS16
  go_wp2
  go_ret
  obtain ⟨f1, f2, f3, f4, f5, f6⟩ := (F1 _ _ _).out
  refine ⟨_, g, c, w2.heap.size, w3.heap.size, rfl, Q1.out, owns_below HO1.out f1, f2, f3, ⟨?_, by omega, by omega, ?_⟩, f6⟩
  · have := HO1.out.lt g rfl; omega
  · have := HB1.out.size; omega
set_option maxRecDepth 100000 in
theorem passageOf_no (key s : ByteArray) (hs : ¬ s.size = 16) (w : World) :
    Calls Tryz.prog 147 #[.string key, .string s] w fun e w' => ∃ u pv, e = .panicked [{ v := .iface u pv, recovered := false }] ∧ w = w' := by
  have hs2 : ¬ (s.size : Int) = 16 := by omega
  clear hs
  go_enter Tryz.func147, Tryz.ntmps147
  go_wp2
  exact ⟨rfl, _, _, rfl, rfl⟩
/-- the deferred function: of a passage that panics it takes the panic, and the blocks are none; else it does nothing. -/
theorem catch_panicking (p : Addr) (x : Value) (u : TypeId) (pv : Value) (older : List PanicEntry) (w : World) (hc : w.cell? p = some x) (hz : w.frozen? p = false) :
    CallsD Tryz.prog 146 #[.pointer (some p)] (.panicking ({ v := .iface u pv, recovered := false } :: older)) w fun e u' w' =>
      e = .returned (.tuple #[]) ∧ u' = .panicking ({ v := .iface u pv, recovered := true } :: older) ∧ w' = w.setCell p (.slice none 0 0) := by
  refine callsD_of_wpS Tryz.func146 rfl fun c₀ cs hu => ?_
  apply wpS_seq
  apply wpS_region
  simp [wpOpsS, go_sem, recoverD, hu, Tryz.ntmps146, Exit.thenS]
  refine wpS_cond (t := true) (by simp [Act.eval, Array.replicate]) ?_
  simp only [if_true]
  apply wpS_region
  simp [wpOpsS, go_sem, hc, hz, bodyPostS, results, Tryz.results146]
theorem catch_idle (p : Addr) (w : World) :
    CallsD Tryz.prog 146 #[.pointer (some p)] .returning w fun e u' w' => e = .returned (.tuple #[]) ∧ u' = .returning ∧ w' = w := by
  refine callsD_of_wpS Tryz.func146 rfl fun c₀ cs hu => ?_
  apply wpS_seq
  apply wpS_region
  simp [wpOpsS, go_sem, recoverD, hu, Tryz.ntmps146, Exit.thenS]
  refine wpS_cond (t := false) (by simp [Act.eval, Array.replicate]) ?_
  simp only [Bool.false_eq_true, if_false]
  refine wpS_of_wp (wp_skip ?_)
  cases c₀
  simp_all [bodyPostS, results, Tryz.results146]
set_option maxRecDepth 100000 in
theorem passed_nokey (key s : ByteArray) (h : ¬ kOk key) (v : Value) (w : World) :
    Calls Tryz.prog 101 #[.string key, .string s, v] w fun e w' => e = .returned (.slice none 0 0) ∧ Below w.heap.size w w' := by
  have hmf : ∀ (fn : Fn) (first cap : Array Value) (w : World), (Instr.makeFunc fn first cap).run Tryz.prog w = .ok (.func fn first cap) w := fun _ _ _ _ => rfl
  have HK := fun w => Lib.hid (KeyOk_impl key w)
  rw [decide_eq_false h] at HK
  clear h
  go_enter_defers Tryz.func101, Tryz.ntmps101
  go_wp2_with fail
  refine (HK _).out.mono ?_; rintro e w' ⟨rfl, rfl⟩
  go_wp2
  refine leaves_cons (f := 146) (args := #[.pointer (some ⟨w.heap.size, 0, none⟩)]) (by simp) (by simp [go_sem]) ?_
  refine (catch_idle ⟨w.heap.size, 0, none⟩ _).mono ?_
  rintro e u' w'' ⟨rfl, rfl, rfl⟩
  simp [Leaves, settle, results, Tryz.results101, go_sem]
  exact (Below.refl _ _).alloc (Nat.le_refl _) _
set_option maxRecDepth 100000 in
theorem passed_noblock (key s : ByteArray) (h : kOk key) (hs : ¬ s.size = 16) (v : Value) (w : World) :
    Calls Tryz.prog 101 #[.string key, .string s, v] w fun e w' => e = .returned (.slice none 0 0) ∧ Below w.heap.size w w' := by
  have hmf : ∀ (fn : Fn) (first cap : Array Value) (w : World), (Instr.makeFunc fn first cap).run Tryz.prog w = .ok (.func fn first cap) w := fun _ _ _ _ => rfl
  have HK := fun w => Lib.hid (KeyOk_impl key w)
  have HP := fun w => Lib.hid (passageOf_no key s hs w)
  rw [decide_eq_true h] at HK
  clear h hs
  go_enter_defers Tryz.func101, Tryz.ntmps101
  go_wp2_with fail
  refine (HK _).out.mono ?_; rintro e w' ⟨rfl, rfl⟩
  go_wp2_with fail
  refine (HP _).out.mono ?_; rintro e w' ⟨u, pv, rfl, rfl⟩
  go_wp2
  refine leaves_cons (f := 146) (args := #[.pointer (some ⟨w.heap.size, 0, none⟩)]) (by simp) (by simp [go_sem]) ?_
  refine (catch_panicking ⟨w.heap.size, 0, none⟩ (.slice none 0 0) u pv [] _ ?_ ?_).mono ?_
  · simp [go_sem]
  · simp [go_sem]
  rintro e u' w'' ⟨rfl, rfl, rfl⟩
  simp [Leaves, settle, results, Tryz.results101, go_sem]
  exact (Below.refl _ _).alloc (Nat.le_refl _) _
/-- what the keys' row holds. -/
theorem keysIn_of {w : World} {H g c m B p : Nat} {K : Nat → ByteArray} (ho : w.ownsRow H 146 16 (.slice (some ⟨g, 0, none⟩) m c) m (keyC K (List.range m))) (hg : g < B) (hn : g ≠ p) : KeysIn w (.slice (some ⟨g, 0, none⟩) m c) K 0 m B p := by
  have hc : m ≤ c ∧ c ≤ 9223372036854775807 := by
    rcases ho.2 with ⟨e, _⟩ | ⟨g', cap, cur, e, _, _, h1, h2, _⟩
    · cases e
    · injection e with e1 e2 e3; subst e3; exact ⟨h1, h2⟩
  refine ⟨g, 0, c, rfl, hc.1, hc.2, hg, hn, fun i hi j v hv => ?_⟩
  have hj : j < 16 := by have := (List.getElem?_eq_some_iff.1 hv).1; rwa [cells8_length, upTo_length] at this
  show w.cell? ⟨g, 0 + 16 * i + j, none⟩ = some v
  rw [Nat.zero_add, ho.cellAt (16 * i + j) (by omega), keyC_at K m i j hi hj, ← hv, Nat.zero_add]
theorem stV_at (p : Nat) (l : List PStp) (k : Nat) (s : PStp) (h : l[k]? = some s) : (stV p l)[k]? = some (stF p s) := by unfold stV; rw [List.getElem?_map, h]; rfl
theorem enters_step (s : PStp) (hh : s.here) (args : Array Value) (w : World) : (callFunc s.fn args).run Tryz.prog w = .ok (.enter s.fn args) w := by
  cases s
  · exact enters_of Tryz.func159 (by kernel_rfl) rfl args w
  · exact enters_of Tryz.func148 (by kernel_rfl) rfl args w
  · exact enters_of Tryz.func160 (by kernel_rfl) rfl args w
  · exact enters_of Tryz.func150 (by kernel_rfl) rfl args w
  · exact enters_of Tryz.func161 (by kernel_rfl) rfl args w
  · exact enters_of Tryz.func149 (by kernel_rfl) rfl args w
  · exact enters_of Tryz.func162 (by kernel_rfl) rfl args w
  · exact enters_of Tryz.func152 (by kernel_rfl) rfl args w
set_option maxRecDepth 100000 in
set_option maxHeartbeats 1600000 in
theorem passed_yes (key s : ByteArray) (n : Nat) (h : kOf key n) (hs : s.size = 16) (F : FuncId) (l : List PStp) (N : Nat) (hN : l.length = N) (hN2 : N ≤ 1000) (hN1 : 1 ≤ N) (w : World) (hf : MxF w)
    (HE : ∀ (args : Array Value) (W : World), (callFunc F args).run Tryz.prog W = .ok (.enter F args) W)
    (HF : ∀ (p g o c : Nat) (f : Nat → UInt8) (sv uv bv : Value) (W : World), PsAt W p (.slice (some ⟨g, o, none⟩) (n + 7) c) f sv uv bv →
      Calls Tryz.prog F #[.pointer (some ⟨p, 0, none⟩)] W fun e w' => ∃ v, e = .returned v ∧ w'.ownsRow W.heap.size 1 1 v N (stV p l) ∧ Below W.heap.size W w')
    (q0 : Pas) (hq0 : q0 = ⟨0, n + 7, s, []⟩) (hok : okAll (rkS key n) l q0) (hhere : ∀ s ∈ l, s.here) :
    Calls Tryz.prog 101 #[.string key, .string s, fnV F] w fun e w' => ∃ v, e = .returned v ∧ w'.ownsRow w.heap.size 9 1 v (runAll (rkS key n) l q0).bs.length ((runAll (rkS key n) l q0).bs.map .string) ∧ Below w.heap.size w w' := by
  have hmf : ∀ (fn : Fn) (first cap : Array Value) (w : World), (Instr.makeFunc fn first cap).run Tryz.prog w = .ok (.func fn first cap) w := fun _ _ _ _ => rfl
  have HK := fun w => Lib.hid (KeyOk_impl key w)
  have HP := fun w => Lib.hid (passageOf_yes key s n h hs w)
  rw [decide_eq_true h.ok] at HK
  have hfit : q0.fits (n + 7) := by subst hq0; exact ⟨hs, by show 0 + (n + 7) ≤ n + 7; omega, by show 0 + (n + 7) = n + 7; omega⟩
  have hle := h.le
  have HFIT := Lib.hid hfit
  have HOK := Lib.hid hok
  have HHERE := Lib.hid hhere
  have HQ0 := Lib.hid hq0
  have HMX := Lib.hid hf
  have HFF := fun p g o c f sv uv bv W hW => Lib.hid (HF p g o c f sv uv bv W hW)
  have HLE := Lib.hid hle
  clear h hs hok hhere hq0 hf HF hfit hle
  unfold fnV
  go_enter_defers Tryz.func101, Tryz.ntmps101
  go_wp2_with fail
  refine (HK _).out.mono ?_; rintro e w' ⟨rfl, rfl⟩
  go_wp2_with fail
  refine (HP _).out.mono ?_; rintro e w1 ⟨p, g, c, q1, q2, rfl, p1, p2, p3, p4, p5, p6⟩
  have P1 := Lib.hid p1
  have P2 := Lib.hid p2
  have P3 := Lib.hid p3
  have P4 := Lib.hid p4
  have P5 := Lib.hid p5
  have P6 := Lib.hid p6
  clear p1 p2 p3 p4 p5 p6
  go_wp2_with fail
  refine (HFF _ _ _ _ _ _ _ _ _ P1.out).out.mono ?_; rintro e w2 ⟨v, rfl, hv, hb2⟩
  have hv0 := hv
  obtain ⟨g2, cap2, rfl, hgB, hg2⟩ := hv.form (by omega)
  have H0 : Hid (Below w.heap.size w w1) := Lib.hid (((Below.refl _ w).alloc (Nat.le_refl _) _).trans (P6.out.mono (by simp)))
  have H2 : Hid (Below w.heap.size w w2) := Lib.hid (H0.out.trans (hb2.mono H0.out.size))
  have hsz1 := P6.out.size
  have hsz2 := hb2.size
  have hp5 := P5.out
  have hp1 := P1.out.lt
  rw [World.size_alloc] at hsz1 hp5
  have HH : Hid (w2.heap[w.heap.size]? = some (.cells #[.slice none 0 0] 46 (0, 0))) := Lib.hid ((hb2.block _ (by omega)).trans ((P6.out.block _ (by rw [World.size_alloc]; omega)).trans (heap_alloc_new w _)))
  have HS : Hid (∀ k s, l[k]? = some s → w2.cell? ⟨g2, k, none⟩ = some (stF p s)) := Lib.hid fun k s hk => by
    have hkl : k < N := by rw [← hN]; exact (List.getElem?_eq_some_iff.1 hk).1
    exact (hv.cellAt k (by omega)).trans (stV_at p l k s hk)
  have PI : Hid (PIn (rkS key n) p w2.heap.size w2 q0) := Lib.hid (by
    rw [HQ0.out]
    have k1 := owns_below P2.out (hb2.mono (Nat.le_refl _))
    have hgw := P2.out.lt g rfl
    refine ⟨_, .slice none 0 0, q1, q2, P1.out.of_block (hb2.block p hp1), keysIn_of k1 (by omega) (by omega), ⟨P3.out.below hb2 P3.out.lt, ?_, by omega⟩, ⟨P4.out.below hb2 P4.out.lt, ?_, by omega⟩, World.ownsRow_nil _ _ _ _, ⟨by omega, Nat.le_refl _⟩, Fac4.below HMX.out H2.out HMX.out.1, ?_⟩
    · omega
    · omega
    · have := HMX.out.1; omega)
  have hgp : g2 ≠ p := by omega
  have hHB : w.heap.size < w2.heap.size := by omega
  have hHp : w.heap.size ≠ p := by omega
  have hHp2 : w.heap.size ≤ p := by omega
  have hT : n + 7 ≤ 1000 := by have := HLE.out; omega
  clear hv hv0 hb2 hsz1 hsz2 hp5 hp1 P1 P2 P3 P4 P5 P6 H0 HK HP HFF HE HQ0 HLE HMX
  go_wp2
  go_loopw [21] (fun v wr => ∃ k : Nat, k ≤ N ∧ v = .int .i64 k ∧ PIn (rkS key n) p w2.heap.size wr (runAll (rkS key n) (l.take k) q0) ∧ Moved p w2.heap.size w2 wr) (fun v _ => N - (intOf v).toNat)
  case atStart => exact ⟨0, Nat.zero_le _, rfl, PI.out, Moved.refl _ _ _⟩
  case round =>
    obtain ⟨k, hk, rfl, hpi, hmv⟩ := hrel
    by_cases hlt : k < N
    · obtain ⟨st, hst⟩ : ∃ st, l[k]? = some st := ⟨_, List.getElem?_eq_getElem (by omega)⟩
      have hcell : wr.cell? ⟨g2, k, none⟩ = some (stF p st) := (World.cell?_of_block (a := ⟨g2, k, none⟩) (hmv.block g2 hg2 hgp)).trans (HS.out k st hst)
      have hat := okAll_at (rkS key n) l q0 HOK.out k st hst
      have PC := Lib.hid (pstep (rkS key n) (n + 7) p w2.heap.size st _ hT (fits_at (rkS key n) (n + 7) l q0 HFIT.out HOK.out k) hat.1 (HHERE.out st (List.mem_of_getElem? hst)) wr hpi)
      have HAT := Lib.hid hat.2
      have ent := enters_step st (HHERE.out st (List.mem_of_getElem? hst))
      have HMV := Lib.hid hmv
      have hk0 : (0 : Int) ≤ (k : Int) := by omega
      have hk1 : (k : Int) < (N : Int) := by omega
      unfold stF at hcell
      generalize st.fn = fn at *
      clear hpi hmv hat hst HS PI HH
      go_wp2_with fail
      refine PC.out.mono ?_; rintro e w3 ⟨rfl, r1, r2⟩
      have R1 := Lib.hid r1
      have R2 := Lib.hid (HMV.out.trans r2)
      clear r1 r2 PC
      go_wp2
      go_roundw
      case rel => exact ⟨k + 1, by omega, by go_num, by rw [HAT.out]; exact R1.out, R2.out⟩
      case measure => simp [intOf]; omega
    · obtain rfl : k = N := by omega
      rw [List.take_of_length_le (by omega)] at hpi
      obtain ⟨kv, bv, x1, x2, hps, -, -, -, hob, -, -⟩ := hpi
      have c19 := hps.c19
      have hbl := (hmv.block w.heap.size hHB hHp).trans HH.out
      have hcc := cell_of_row wr w.heap.size 0 _ _ _ hbl
      have hz := frozen_of_row wr w.heap.size 0 _ _ hbl
      obtain ⟨A, nn, cc, rfl⟩ : ∃ A nn cc, bv = .slice A nn cc := by
        rcases hob.2 with ⟨rfl, _⟩ | ⟨g, cap, cur, rfl, _⟩
        · exact ⟨_, _, _, rfl⟩
        · exact ⟨_, _, _, rfl⟩
      have G1 := fun u => Lib.hid (owns_down (own_far hob hHB 0 u) (Nat.le_of_lt hHB))
      have G2 := fun u => Lib.hid ((H2.out.trans (hmv.below hHp2 (Nat.le_of_lt hHB))).setCell (p := ⟨w.heap.size, 0, none⟩) (Nat.le_refl _) u)
      clear hps hob hmv hbl HS PI HH HOK HFIT
      simp at hcc
      go_wp2
      refine leaves_cons (f := 146) (args := #[.pointer (some ⟨w.heap.size, 0, none⟩)]) (by simp) (by simp [go_sem]) ?_
      refine (catch_idle ⟨w.heap.size, 0, none⟩ _).mono ?_
      rintro e u' w'' ⟨rfl, rfl, rfl⟩
      simp [Leaves, settle, results, Tryz.results101, go_sem, hcc, hz]
      exact ⟨(G1 _).out, (G2 _).out⟩
end Go.Proofs.YtbfmbdohebdbaaaGreatDoor
set_option linter.unusedVariables false
set_option linter.unusedSimpArgs false
namespace Go.Proofs.YtbfmbdohebdbaaaGreatDoor
open Go Go.RowKit Go.Proofs.YtbfmbdohebdbaaaGreatDoor.Lk

theorem lastOf_nil (A : Option Addr) (c : Nat) (w : World) : Calls Tryz.prog 84 #[.slice A 0 c] w fun e w' => e = .returned (.string ⟨#[]⟩) ∧ w = w' := by
  go_enter Tryz.func84, Tryz.ntmps84
  go_wp2
  go_ret
  exact ⟨rfl, rfl⟩
theorem lastOf_some (g n c : Nat) (x : ByteArray) (w : World) (hc : w.cell? ⟨g, n, none⟩ = some (.string x)) (hn : n ≤ 1000) : Calls Tryz.prog 84 #[.slice (some ⟨g, 0, none⟩) (n + 1) c] w fun e w' => e = .returned (.string x) ∧ w = w' := by
  have h1 : (n : Int) ≤ 1000 := by omega
  have h2 : (0 : Int) ≤ (n : Int) := by omega
  go_enter Tryz.func84, Tryz.ntmps84
  go_wp2
  go_ret
  exact ⟨rfl, rfl⟩
theorem texts_last {w : World} {B : Nat} {v : Value} {bs : List ByteArray} {x : ByteArray} (h : w.ownsRow B 9 1 v (bs ++ [x]).length ((bs ++ [x]).map .string)) :
    ∃ g c, v = .slice (some ⟨g, 0, none⟩) (bs.length + 1) c ∧ w.cell? ⟨g, bs.length, none⟩ = some (.string x) := by
  rw [List.length_append, List.length_singleton] at h
  obtain ⟨g, c, rfl⟩ := ownsRow_succ h
  refine ⟨g, c, rfl, ?_⟩
  rw [h.cellAt bs.length (by omega), List.map_append, List.getElem?_append_right (by rw [List.length_map]; exact Nat.le_refl _), List.length_map, Nat.sub_self]; rfl
theorem texts_none {w : World} {B : Nat} {v : Value} (h : w.ownsRow B 9 1 v 0 []) : ∃ A c, v = .slice A 0 c := by
  rcases h.2 with ⟨rfl, _⟩ | ⟨g, cap, cur, rfl, _⟩
  · exact ⟨_, _, rfl⟩
  · exact ⟨_, _, rfl⟩
/-- the contract of a list of texts. -/
def OwnTexts (w : World) (l : List ByteArray) (e : Ending) (w' : World) : Prop := ∃ v, e = .returned v ∧ w'.ownsRow w.heap.size 9 1 v l.length (l.map .string) ∧ Below w.heap.size w w'
theorem own_none {w : World} {e : Ending} {w' : World} (h : e = .returned (.slice none 0 0) ∧ Below w.heap.size w w') : OwnTexts w [] e w' := ⟨_, h.1, World.ownsRow_nil _ _ _ _, h.2⟩
theorem lockAll_here (m : Nat) : ∀ s ∈ lockAll m, s.here := fun s h => by rcases lockAll_mem m s h with rfl | rfl | rfl | rfl <;> exact trivial
theorem unlockAll_here (m : Nat) : ∀ s ∈ unlockAll m, s.here := fun s h => by rcases unlockAll_mem m s h with rfl | rfl | rfl | rfl <;> exact trivial
theorem passed_lock (key s : ByteArray) (w : World) (hf : MxF w) :
    Calls Tryz.prog 101 #[.string key, .string s, fnV 120] w fun e w' => OwnTexts w (stepsT key s) e w' := by
  by_cases hk : kOk key
  · by_cases hs : s.size = 16
    · obtain ⟨n, hn⟩ := hk.of
      have hle := hn.le
      obtain ⟨h1, h2⟩ := lockAll_is (rkS key n) (n + 5) s
      have e : (runAll (rkS key n) (lockAll (n + 5)) ⟨0, n + 7, s, []⟩).bs = stepsT key s := by
        rw [stepsT_yes key s hk hs, hn.div]; exact congrArg Pas.bs h2
      have H := passed_yes key s n hn hs 120 (lockAll (n + 5)) (4 * (n + 5) + 4) (lockAll_length _) (by omega) (by omega) w hf (enters_of Tryz.func120 (by kernel_rfl) rfl)
        (fun p g o c f sv uv bv W hW => lockSteps_impl p g o (n + 5) c f sv uv bv W hW (by omega)) _ rfl h1 (lockAll_here _)
      rw [e] at H; exact H
    · rw [stepsT_no key s (fun h => hs h.2)]
      exact (passed_noblock key s hk hs _ w).mono fun e w' h => own_none h
  · rw [stepsT_no key s (fun h => hk h.1)]
    exact (passed_nokey key s hk _ w).mono fun e w' h => own_none h
theorem passed_unlock (key s : ByteArray) (w : World) (hf : MxF w) :
    Calls Tryz.prog 101 #[.string key, .string s, fnV 102] w fun e w' => ∃ bs, OwnTexts w bs e w' ∧ (bs = [] ∧ unlockT key s = ⟨#[]⟩ ∨ ∃ bs', bs = bs' ++ [unlockT key s] ∧ bs'.length ≤ 1000) := by
  by_cases hk : kOk key
  · by_cases hs : s.size = 16
    · obtain ⟨n, hn⟩ := hk.of
      have hle := hn.le
      obtain ⟨h1, bs, hl, h2⟩ := unlockAll_is (rkS key n) (n + 5) s
      have e : (runAll (rkS key n) (unlockAll (n + 5)) ⟨0, n + 7, s, []⟩).bs = bs ++ [unlockT key s] := by
        rw [unlockT_yes key s hk hs, hn.div]; exact congrArg Pas.bs h2
      have H := passed_yes key s n hn hs 102 (unlockAll (n + 5)) (4 * (n + 5) + 4) (unlockAll_length _) (by omega) (by omega) w hf (enters_of Tryz.func102 (by kernel_rfl) rfl)
        (fun p g o c f sv uv bv W hW => unlockSteps_impl p g o (n + 5) c f sv uv bv W hW (by omega)) _ rfl h1 (unlockAll_here _)
      rw [e] at H
      exact H.mono fun e w' h => ⟨_, h, .inr ⟨bs, rfl, by omega⟩⟩
    · exact (passed_noblock key s hk hs _ w).mono fun e w' h => ⟨[], own_none h, .inl ⟨rfl, unlockT_no key s (fun h => hs h.2)⟩⟩
  · exact (passed_nokey key s hk _ w).mono fun e w' h => ⟨[], own_none h, .inl ⟨rfl, unlockT_no key s (fun h => hk h.1)⟩⟩
set_option maxRecDepth 100000 in
theorem Steps_impl (key s : ByteArray) (w : World) (hf : MxF w) :
    Calls Tryz.prog 85 #[.string key, .string s] w fun e w' => OwnTexts w (stepsT key s) e w' := by
  have H := Lib.hid (passed_lock key s w hf)
  clear hf
  generalize stepsT key s = l at *
  unfold fnV at H
  go_enter Tryz.func85, Tryz.ntmps85
  go_wp2_with fail
  refine H.out.mono ?_; rintro e w1 ⟨v, rfl, ho, hb1⟩
  go_wp2
  go_ret
  exact ⟨_, rfl, ho, hb1⟩
theorem steps_last (key s : ByteArray) : (stepsT key s = [] ∧ lockT key s = ⟨#[]⟩) ∨ ∃ l, stepsT key s = l ++ [lockT key s] ∧ l.length ≤ 1000 := by
  by_cases h : kOk key ∧ s.size = 16
  · refine .inr ?_
    obtain ⟨n, hn⟩ := h.1.of
    have hle := hn.le
    rw [stepsT_yes key s h.1 h.2, lockT_yes key s h.1 h.2, hn.div]
    exact ⟨upTo (stepS (rkS key n) (n + 6) s) (n + 6), upTo_succ _ _, by rw [upTo_length]; omega⟩
  · exact .inl ⟨stepsT_no key s h, lockT_no key s h⟩
set_option maxRecDepth 100000 in
theorem Lock_impl (key s : ByteArray) (w : World) (hf : MxF w) :
    Calls Tryz.prog 56 #[.string key, .string s] w fun e w' => e = .returned (.string (lockT key s)) ∧ Below w.heap.size w w' := by
  have H := Lib.hid (Steps_impl key s w hf)
  have hl := steps_last key s
  clear hf
  generalize lockT key s = x at *
  generalize stepsT key s = l at *
  have H2 : Calls Tryz.prog 85 #[.string key, .string s] w fun e w' => ∃ A n c, e = .returned (.slice A n c) ∧ Hid (∀ w'', w'' = w' → Calls Tryz.prog 84 #[.slice A n c] w'' fun e w3 => e = .returned (.string x) ∧ w'' = w3) ∧ Hid (Below w.heap.size w w') := by
    refine H.out.mono ?_; rintro e w1 ⟨v, rfl, ho, hb1⟩
    rcases hl with ⟨rfl, rfl⟩ | ⟨l, rfl, hl⟩
    · obtain ⟨A, c, rfl⟩ := texts_none ho
      exact ⟨A, 0, c, rfl, Lib.hid fun w2 h => lastOf_nil A c w2, Lib.hid hb1⟩
    · obtain ⟨g, c, rfl, hc⟩ := texts_last ho
      exact ⟨_, _, c, rfl, Lib.hid fun w2 h => lastOf_some g l.length c x w2 (by rw [h]; exact hc) hl, Lib.hid hb1⟩
  clear H hl
  go_enter Tryz.func56, Tryz.ntmps56
  go_wp2_with fail
  refine H2.mono ?_; rintro e w1 ⟨A, n, c, rfl, hc, hb1⟩
  go_wp2_with fail
  refine (hc.out _ rfl).mono ?_; rintro e w' ⟨rfl, rfl⟩
  go_wp2
  go_ret
  exact ⟨rfl, hb1.out⟩
set_option maxRecDepth 100000 in
theorem Unlock_impl (key s : ByteArray) (w : World) (hf : MxF w) :
    Calls Tryz.prog 74 #[.string key, .string s] w fun e w' => e = .returned (.string (unlockT key s)) ∧ Below w.heap.size w w' := by
  have H := Lib.hid (passed_unlock key s w hf)
  clear hf
  generalize unlockT key s = x at *
  have H2 : Calls Tryz.prog 101 #[.string key, .string s, fnV 102] w fun e w' => ∃ A n c, e = .returned (.slice A n c) ∧ Hid (∀ w'', w'' = w' → Calls Tryz.prog 84 #[.slice A n c] w'' fun e w3 => e = .returned (.string x) ∧ w'' = w3) ∧ Hid (Below w.heap.size w w') := by
    refine H.out.mono ?_; rintro e w1 ⟨bs, ⟨v, rfl, ho, hb1⟩, hl⟩
    rcases hl with ⟨rfl, rfl⟩ | ⟨l, rfl, hl⟩
    · obtain ⟨A, c, rfl⟩ := texts_none ho
      exact ⟨A, 0, c, rfl, Lib.hid fun w2 h => lastOf_nil A c w2, Lib.hid hb1⟩
    · obtain ⟨g, c, rfl, hc⟩ := texts_last ho
      exact ⟨_, _, c, rfl, Lib.hid fun w2 h => lastOf_some g l.length c x w2 (by rw [h]; exact hc) hl, Lib.hid hb1⟩
  clear H
  unfold fnV at H2
  go_enter Tryz.func74, Tryz.ntmps74
  go_wp2_with fail
  refine H2.mono ?_; rintro e w1 ⟨A, n, c, rfl, hc, hb1⟩
  go_wp2_with fail
  refine (hc.out _ rfl).mono ?_; rintro e w' ⟨rfl, rfl⟩
  go_wp2
  go_ret
  exact ⟨rfl, hb1.out⟩
end Go.Proofs.YtbfmbdohebdbaaaGreatDoor
