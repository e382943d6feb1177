/-
  Contracts and facts that the laws of this seat use: ShiftI, ShiftS.
-/
import Derived.Test.YtbbjcgnoialidaaDoorPure
import Derived.Test.YtbbjcgnoialidaaDoorBase
import Derived.WalkKit
import Derived.LoopTactic
import Derived.OwnWalk
import Derived.WalkLawsBesides
import Derived.WalkSpells
import Derived.Outline
import Derived.Below
import Derived.Deep.WholeRow
import Derived.Great.Walk
import Derived.Laws.OwnMore
import Derived.Laws.CopyOwn
import Derived.Lib.BufferWrite
import Derived.IntWalk
set_option linter.unusedVariables false
set_option linter.unusedSimpArgs false
namespace Go.Proofs.YtbbjcgnoialidaaDoor
open Go.RowKit

/-- the bytes of a block as an array's cells. -/
def stA (h : Nat → UInt8) : Array Value := (cells8 (upTo h 16)).toArray
theorem stA_size (h : Nat → UInt8) : (stA h).size = 16 := by simp [stA, cells8_length, upTo_length]
theorem stA_at (h : Nat → UInt8) (i : Nat) (hi : i < 16) : (stA h)[i]? = some (.int .u8 ((h i).toNat : Int)) := by
  unfold stA cells8
  rw [List.getElem?_toArray, List.getElem?_map, upTo_at h 16 i hi]; rfl
theorem stA_one (h : Nat → UInt8) : (stA h).all (·.oneCell') = true := by
  rw [Array.all_eq_true_iff_forall_mem]
  intro v hv
  exact cells8_oneCell (upTo h 16) v (by simpa [stA] using hv)
/-- the bytes of a block of which k are turned. -/
def tuA (f : Nat → UInt8) (k : Nat) : Array Value := (cells8 (rowTo f (fun _ => 0) 16 k)).toArray
theorem tuA_size (f : Nat → UInt8) (k : Nat) : (tuA f k).size = 16 := by simp [tuA, cells8_length, rowTo_length]
theorem tuA_set (f : Nat → UInt8) (k : Nat) : (tuA f k).setIfInBounds k (.int .u8 ((f k).toNat : Int)) = tuA f (k + 1) := by
  unfold tuA
  rw [List.setIfInBounds_toArray, ← rowTo_set]
  simp [cells8, cell8, List.map_set]
theorem tuA_all (f : Nat → UInt8) : tuA f 16 = stA f := by unfold tuA stA; rw [rowTo_all _ _ _ _ (Nat.le_refl _)]
theorem tuA_at (f : Nat → UInt8) (k : Nat) (hk : k < 16) : (tuA f k)[k]? = some (.int .u8 0) := by
  unfold tuA cells8
  rw [List.getElem?_toArray, List.getElem?_map, rowTo_hi f (fun _ => 0) 16 k k hk (Nat.le_refl _)]; rfl
def zero16 : Array Value := #[.int .u8 0, .int .u8 0, .int .u8 0, .int .u8 0, .int .u8 0, .int .u8 0, .int .u8 0, .int .u8 0, .int .u8 0, .int .u8 0, .int .u8 0, .int .u8 0, .int .u8 0, .int .u8 0, .int .u8 0, .int .u8 0]
theorem zero16_tu (f : Nat → UInt8) : zero16 = tuA f 0 := by unfold tuA; rw [rowTo_zero]; rfl
theorem sh_num (k d : Nat) (hk : k < 16) (hd : d ≤ 3) (x : Int) (hx : x = (k : Int) + 4 * (d : Int) * ((k % 4 : Nat) : Int)) : x.tmod 16 = ((shAt d k : Nat) : Int) := by
  unfold shAt
  rw [Int.tmod_eq_emod_of_nonneg (by have : (0 : Int) ≤ 4 * (d : Int) * ((k % 4 : Nat) : Int) := Int.mul_nonneg (by omega) (by omega); omega), hx]
  have h : (k : Int) + 4 * (d : Int) * ((k % 4 : Nat) : Int) = ((k + 4 * d * (k % 4) : Nat) : Int) := by rw [Int.natCast_add, Int.natCast_mul, Int.natCast_mul]; rfl
  rw [h]; omega
theorem zero16_lit : #[.int .u8 0, .int .u8 0, .int .u8 0, .int .u8 0, .int .u8 0, .int .u8 0, .int .u8 0, .int .u8 0, .int .u8 0, .int .u8 0, .int .u8 0, .int .u8 0, .int .u8 0, .int .u8 0, .int .u8 0, .int .u8 0] = zero16 := rfl
theorem two_new (w : World) (A B : Array Value) (t u : TypeId) : ((w.alloc (.cells A t)).alloc (.cells B u)).heap[w.heap.size]? = some (.cells A t (0, 0)) ∧ ((w.alloc (.cells A t)).alloc (.cells B u)).heap[w.heap.size + 1]? = some (.cells B u (0, 0)) ∧ Below w.heap.size w ((w.alloc (.cells A t)).alloc (.cells B u)) ∧ ((w.alloc (.cells A t)).alloc (.cells B u)).heap.size = w.heap.size + 1 + 1 :=
  ⟨heap_alloc2_old _ _ _, heap_alloc2_new _ _ _, ((Below.refl _ _).alloc (Nat.le_refl _) _).alloc (by simp) _, by simp⟩
/-- a function that changes a block, as a value. -/
def fnV (f : FuncId) : Value := .func (.func f) #[] #[]
/-- a block whose rows are shifted, or nothing. -/
def shT (d : Nat) (s : ByteArray) : ByteArray := if s.size = 16 then shS d s else ⟨#[]⟩
theorem shT_yes (d : Nat) (s : ByteArray) (h : s.size = 16) : shT d s = shS d s := if_pos h
theorem shT_no (d : Nat) (s : ByteArray) (h : ¬ s.size = 16) : shT d s = ⟨#[]⟩ := if_neg h
end Go.Proofs.YtbbjcgnoialidaaDoor
set_option linter.unusedVariables false
set_option linter.unusedSimpArgs false
namespace Go.Proofs.YtbbjcgnoialidaaDoor
open Go.RowKit

theorem idx_byte (s : ByteArray) (i : Int) (j : Nat) (h : i = (j : Int)) (hj : j < s.size) (w : World) : (Instr.index 9 (.string s) (.int .i64 i)).run Tryd.prog w = .ok (.int .u8 ((byteOf s j).toNat : Int)) w := by
  have hi : 0 ≤ i ∧ i < (s.size : Int) := by omega
  subst h
  rw [run_index_string w 9 s .i64 j Tryd.underlying9, dif_pos hi, ← byteOf_at s j hj]
  rfl
theorem mk8_sixteen : (mk8 16).toList = cells8 (List.replicate 16 0) := mk8_list 16
theorem sh_spec (k d q r m : Nat) (hk : k < 16) (hd : d ≤ 3) (hq : k / 4 = q) (hr : k % 4 = r) (hm : (q + d * r) % 4 = m) : m * 4 + r = shAt d k := by
  unfold shAt
  have hd4 : d = 0 ∨ d = 1 ∨ d = 2 ∨ d = 3 := by omega
  rcases hd4 with rfl | rfl | rfl | rfl <;> omega
set_option maxRecDepth 100000 in
set_option maxHeartbeats 1600000 in
theorem Rows_yes (d : Nat) (hd : d ≤ 3) (s : ByteArray) (hs : s.size = 16) (w : World) :
    Calls Tryd.prog 57 #[.string s, .int .i64 d] w fun e w' => e = .returned (.string (shS d s)) ∧ Below w.heap.size w w' := by
  obtain ⟨i0, hi, hz0, hz1, hz2⟩ := info_parts Tryd.info5
  have hmk : ∀ W : World, (Instr.makeSlice 22 (.int .i64 16) (.int .i64 16)).run Tryd.prog W = .ok (.slice (some ⟨W.heap.size, 0, none⟩) 16 16) (W.alloc (.cells (mk8 16) 5)) := fun W => run_make8 Tryd.underlying22 hi hz0 hz1 hz2 16 16 (by omega) (by omega) W
  have hs2 : (s.size : Int) = 16 := by omega
  have h0 := World.ownsRow_lit w (e := 5) (size := 1) (mk8 16) 16 (Nat.le_refl w.heap.size) (by unfold maxLen; omega) (by rw [mk8_size])
  rw [mk8_sixteen, ← upTo_const (0 : UInt8) 16, ← rowTo_zero (fun i => byteOf s (shAt d i))] at h0
  have HO := Lib.hid h0
  clear h0
  go_enter Tryd.func57, Tryd.ntmps57
  go_wp2
  clear hmk
  go_loopw [6] (fun i wr => ∃ k : Nat, k ≤ 16 ∧ i = .int .i64 k ∧ wr.ownsRow w.heap.size 5 1 (.slice (some ⟨w.heap.size, 0, none⟩) 16 16) 16 (cells8 (rowTo (fun i => byteOf s (shAt d i)) (fun _ => 0) 16 k)) ∧ Below w.heap.size w wr) (fun i _ => 16 - (intOf i).toNat)
  case atStart => exact ⟨0, by omega, rfl, HO.out, (Below.refl _ _).alloc (Nat.le_refl _) _⟩
  case round =>
    obtain ⟨k, hk, rfl, hown, hbel⟩ := hrel
    by_cases hlt : k < 16
    · obtain ⟨q, hq⟩ : ∃ q, k / 4 = q := ⟨_, rfl⟩
      obtain ⟨r, hr⟩ : ∃ r, k % 4 = r := ⟨_, rfl⟩
      obtain ⟨m, hm⟩ : ∃ m, (q + d * r) % 4 = m := ⟨_, rfl⟩
      have hp := sh_spec k d q r m hlt hd hq hr hm
      have e1 : (k : Int).tdiv 4 = (q : Int) := by rw [Int.tdiv_eq_ediv_of_nonneg (by omega)]; omega
      have e2 : (k : Int).tmod 4 = (r : Int) := by rw [Int.tmod_eq_emod_of_nonneg (by omega)]; omega
      have hdr : (d : Int) * (r : Int) = ((d * r : Nat) : Int) := by rw [Int.natCast_mul]
      have hdr2 : d * r ≤ 3 * 3 := Nat.mul_le_mul hd (by omega)
      have e3 : ((q : Int) + (d : Int) * (r : Int)).tmod 4 = (m : Int) := by rw [hdr, Int.tmod_eq_emod_of_nonneg (by omega)]; omega
      have q0 : IntKind.i64.wrap (q : Int) = (q : Int) := IntWalk.i64_in _ (by omega)
      have q1 : IntKind.i64.wrap ((d : Int) * (r : Int)) = (d : Int) * (r : Int) := IntWalk.i64_in _ (by rw [hdr]; omega)
      have q2 : IntKind.i64.wrap ((q : Int) + (d : Int) * (r : Int)) = (q : Int) + (d : Int) * (r : Int) := IntWalk.i64_in _ (by rw [hdr]; omega)
      have q3 : IntKind.i64.wrap ((m : Int) * 4) = (m : Int) * 4 := IntWalk.i64_in _ (by omega)
      have q4 : IntKind.i64.wrap ((m : Int) * 4 + (r : Int)) = (m : Int) * 4 + (r : Int) := IntWalk.i64_in _ (by omega)
      have hix := fun W => idx_byte s ((m : Int) * 4 + (r : Int)) (shAt d k) (by omega) (by have := shAt_lt d k; omega) W
      have hk1 : (k : Int) < 16 := by omega
      have hk0 : (0 : Int) ≤ (k : Int) := by omega
      obtain ⟨u, hcell⟩ : ∃ u, wr.cell? ⟨w.heap.size, k, none⟩ = some u := ⟨_, (hown.cellAt k (by omega)).trans (List.getElem?_eq_getElem (by rw [cells8_length, rowTo_length]; exact hlt))⟩
      have hfr := hown.frozenAt k
      have hown2 := (hown.stored k (cell8 (byteOf s (shAt d k)))).1
      have hcs : (cells8 (rowTo (fun i => byteOf s (shAt d i)) (fun _ => 0) 16 k)).set k (cell8 (byteOf s (shAt d k))) = cells8 (rowTo (fun i => byteOf s (shAt d i)) (fun _ => 0) 16 (k + 1)) := by rw [← rowTo_set]; simp [cells8, List.map_set]
      rw [hcs] at hown2
      have HB := Lib.hid (hbel.setCell (p := ⟨w.heap.size, k, none⟩) (Nat.le_refl _) (cell8 (byteOf s (shAt d k))))
      unfold cell8 at hown2 HB
      have HO2 := Lib.hid hown2
      clear hown hown2 hbel hcs hp HO hdr hdr2 hq hr hm
      generalize byteOf s (shAt d k) = c at *
      go_wp2
      go_roundw
      case rel => exact ⟨k + 1, by omega, by go_num, HO2.out, HB.out⟩
      case measure => simp [intOf]; omega
    · obtain rfl : k = 16 := by omega
      rw [rowTo_all _ _ _ _ (Nat.le_refl _)] at hown
      have hconv := run_string_own Tryd.underlying22 Tryd.underlying5 Tryd.underlying9 hown
      have HB := Lib.hid hbel
      clear hown hbel HO
      go_wp2
      go_ret
      exact ⟨rfl, HB.out⟩
set_option maxRecDepth 100000 in
theorem Rows_no (d : Int) (s : ByteArray) (hs : ¬ s.size = 16) (w : World) :
    Calls Tryd.prog 57 #[.string s, .int .i64 d] w fun e w' => e = .returned (.string ⟨#[]⟩) ∧ Below w.heap.size w w' := by
  have hs2 : ¬ (s.size : Int) = 16 := by omega
  go_enter Tryd.func57, Tryd.ntmps57
  go_wp2
  go_ret
  exact ⟨rfl, Below.refl _ _⟩
theorem Rows_any (d : Nat) (hd : d ≤ 3) (s : ByteArray) (w : World) :
    Calls Tryd.prog 57 #[.string s, .int .i64 d] w fun e w' => e = .returned (.string (shT d s)) ∧ Below w.heap.size w w' := by
  by_cases h : s.size = 16
  · rw [shT_yes d s h]; exact Rows_yes d hd s h w
  · rw [shT_no d s h]; exact Rows_no d s h w
set_option maxRecDepth 100000 in
theorem ShiftRows_spec (s : ByteArray) (w : World) :
    Calls Tryd.prog 34 #[.string s] w fun e w' => e = .returned (.string (shT 1 s)) ∧ Below w.heap.size w w' := by
  have H : Calls Tryd.prog 57 #[.string s, .int .i64 1] w fun e w' => e = .returned (.string (shT 1 s)) ∧ Below w.heap.size w w' := Rows_any 1 (by omega) s w
  generalize shT 1 s = r at *
  go_enter Tryd.func34, Tryd.ntmps34
  go_wp2_with fail
  refine H.mono ?_; rintro e w1 ⟨rfl, hb1⟩
  go_wp2
  go_ret
  exact ⟨rfl, hb1⟩
set_option maxRecDepth 100000 in
theorem UnshiftRows_spec (s : ByteArray) (w : World) :
    Calls Tryd.prog 33 #[.string s] w fun e w' => e = .returned (.string (shT 3 s)) ∧ Below w.heap.size w w' := by
  have H : Calls Tryd.prog 57 #[.string s, .int .i64 3] w fun e w' => e = .returned (.string (shT 3 s)) ∧ Below w.heap.size w w' := Rows_any 3 (by omega) s w
  generalize shT 3 s = r at *
  go_enter Tryd.func33, Tryd.ntmps33
  go_wp2_with fail
  refine H.mono ?_; rintro e w1 ⟨rfl, hb1⟩
  go_wp2
  go_ret
  exact ⟨rfl, hb1⟩
end Go.Proofs.YtbbjcgnoialidaaDoor
