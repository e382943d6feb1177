/-
  Contracts and facts that the laws of this seat use: WordI, WordJ, WordS.
-/
import Derived.Test.YtbfmbdohebdbaaaGreatDoorPure
import Derived.Test.YtbfmbdohebdbaaaGreatDoorBase
import Derived.WalkKit
import Derived.LoopTactic
import Derived.OwnWalk
import Derived.WalkLawsBesides
import Derived.WalkSpells
import Derived.Outline
import Derived.Below
import Derived.Laws.OwnMore
import Derived.Laws.IdiomStrings
import Derived.Deep.QuietTactic
import Derived.BigQuiet
import Derived.IntWalk
set_option linter.unusedVariables false
namespace Go.Proofs.YtbfmbdohebdbaaaGreatDoor
open Go.RowKit

theorem cut_impl (g n c i : Nat) (h1 : i + 4 ≤ n) (h2 : n ≤ c) (h3 : c ≤ 9223372036854775807) (w : World) :
    Calls Tryz.prog 141 #[.slice (some ⟨g, 0, none⟩) n c, .int .i64 i] w fun e w' => e = .returned (.slice (some ⟨g, i, none⟩) 4 4) ∧ w = w' := by
  go_enter Tryz.func141, Tryz.ntmps141
  have e : i + 4 - i = 4 := by omega
  go_wp2
  go_ret
  rw [e]
  exact ⟨rfl, rfl⟩
/-- a row in which the first k bytes of a word are put from place i on. -/
def putRow (l : List UInt8) (i : Nat) (x : UInt32) : Nat → List UInt8
  | 0 => l
  | k + 1 => (putRow l i x k).set (i + k) (wb x k)
theorem putRow_length (l : List UInt8) (i : Nat) (x : UInt32) (k : Nat) : (putRow l i x k).length = l.length := by
  induction k with
  | zero => rfl
  | succ k ih => rw [putRow, List.length_set, ih]
theorem putRow_4 (x : UInt32) : putRow [0, 0, 0, 0] 0 x 4 = [wb x 0, wb x 1, wb x 2, wb x 3] := rfl
theorem wb0_c (x : UInt32) : cell8 (wb x 0) = .int .u8 ((x.toNat : Int) / 16777216) := by unfold cell8; rw [wb0]; rfl
theorem wb1_c (x : UInt32) : cell8 (wb x 1) = .int .u8 ((x.toNat : Int) / 65536 % 256) := by unfold cell8; rw [wb1]; rfl
theorem wb2_c (x : UInt32) : cell8 (wb x 2) = .int .u8 ((x.toNat : Int) / 256 % 256) := by unfold cell8; rw [wb2]; rfl
theorem wb3_c (x : UInt32) : cell8 (wb x 3) = .int .u8 ((x.toNat : Int) % 256) := by unfold cell8; rw [wb3]; rfl
theorem put_rel {e : TypeId} {w wr : World} {base g n c i k : Nat} {l : List UInt8} {x : UInt32} {v : Value} (hv : cell8 (wb x k) = v)
    (hown : wr.ownsRow base e 1 (.slice (some ⟨g, 0, none⟩) n c) n (cells8 (putRow l i x k))) (hgr : w.grownBy wr (some g)) :
    (wr.setCell ⟨g, i + k, none⟩ v).ownsRow base e 1 (.slice (some ⟨g, 0, none⟩) n c) n (cells8 (putRow l i x (k + 1))) ∧ w.grownBy (wr.setCell ⟨g, i + k, none⟩ v) (some g) := by
  subst hv
  refine ⟨?_, only_setCell (p := ⟨g, i + k, none⟩) hgr (.inl rfl) _⟩
  have h := (hown.stored (i + k) (cell8 (wb x k))).1
  rwa [show (cells8 (putRow l i x k)).set (i + k) (cell8 (wb x k)) = cells8 (putRow l i x (k + 1)) by rw [putRow]; simp [cells8, List.map_set]] at h
set_option maxRecDepth 100000 in
theorem byteOf_impl (x : UInt32) (k : Nat) (hk : k < 4) (w : World) :
    Calls Tryz.prog 142 #[.int .u32 x.toNat, .int .i64 k] w fun e w' => e = .returned (.int .u8 (wb x k).toNat) ∧ w = w' := by
  have hx := w32_lt x
  have hx2 : (x.toNat : Int) < 4294967296 := by omega
  have h4 : k = 0 ∨ k = 1 ∨ k = 2 ∨ k = 3 := by omega
  rcases h4 with rfl | rfl | rfl | rfl
  · have HC := Lib.hid (wb0_c x)
    go_enter Tryz.func142, Tryz.ntmps142
    go_wp2
    go_ret
    exact ⟨congrArg Ending.returned HC.out.symm, rfl⟩
  · have HC := Lib.hid (wb1_c x)
    go_enter Tryz.func142, Tryz.ntmps142
    go_wp2
    go_ret
    exact ⟨congrArg Ending.returned HC.out.symm, rfl⟩
  · have HC := Lib.hid (wb2_c x)
    go_enter Tryz.func142, Tryz.ntmps142
    go_wp2
    go_ret
    exact ⟨congrArg Ending.returned HC.out.symm, rfl⟩
  · have HC := Lib.hid (wb3_c x)
    go_enter Tryz.func142, Tryz.ntmps142
    go_wp2
    go_ret
    exact ⟨congrArg Ending.returned HC.out.symm, rfl⟩
set_option maxHeartbeats 1600000 in
theorem put_impl {t : TypeId} (g n c i : Nat) (l : List UInt8) (x : UInt32) (base : Nat) (w : World) (h1 : i + 4 ≤ n) (h2 : n ≤ c) (h3 : c ≤ 9223372036854775807)
    (ho : w.ownsRow base t 1 (.slice (some ⟨g, 0, none⟩) n c) n (cells8 l)) :
    Calls Tryz.prog 97 #[.slice (some ⟨g, 0, none⟩) n c, .int .i64 i, .int .u32 x.toNat] w fun e w' => e = .returned (.tuple #[]) ∧ w'.ownsRow base t 1 (.slice (some ⟨g, 0, none⟩) n c) n (cells8 (putRow l i x 4)) ∧ w.grownBy w' (some g) := by
  have HO := Lib.hid ho
  have HC := fun k hk W => Lib.hid (byteOf_impl x k hk W)
  clear ho
  go_enter Tryz.func97, Tryz.ntmps97
  go_wp2_with fail
  refine (cut_impl g n c i h1 h2 h3 _).mono ?_; rintro e w' ⟨rfl, rfl⟩
  go_wp2
  go_loopw [13] (fun v wr => ∃ k : Nat, k ≤ 4 ∧ v = .int .i64 k ∧ wr.ownsRow base t 1 (.slice (some ⟨g, 0, none⟩) n c) n (cells8 (putRow l i x k)) ∧ w.grownBy wr (some g)) (fun v _ => 4 - (intOf v).toNat)
  case atStart => exact ⟨0, by omega, rfl, HO.out, only_refl _ _⟩
  case round =>
    obtain ⟨k, hk, rfl, hown, hgr⟩ := hrel
    by_cases hlt : k < 4
    · have hlen : (cells8 (putRow l i x k)).length = n := by have := hown.1; omega
      obtain ⟨u, hcell⟩ : ∃ u, wr.cell? ⟨g, i + k, none⟩ = some u := ⟨_, (hown.cellAt (i + k) (by omega)).trans (List.getElem?_eq_getElem (by omega))⟩
      have hfr := hown.frozenAt (i + k)
      have HR := Lib.hid (put_rel (i := i) (k := k) (v := .int .u8 ((wb x k).toNat : Int)) rfl hown hgr)
      have HX := Lib.hid (HC k hlt)
      have hb := (wb x k).toNat_lt
      have hb2 : ((wb x k).toNat : Int) < 256 := by omega
      generalize wb x k = y at *
      have hk1 : (k : Int) < 4 := by omega
      clear hown hgr hlen hb HC
      go_wp2_with fail
      refine (HX.out _).out.mono ?_; rintro e w' ⟨rfl, rfl⟩
      go_wp2
      go_roundw
      case rel => exact ⟨k + 1, by omega, by go_num, HR.out⟩
      case measure => simp [intOf]; omega
    · obtain rfl : k = 4 := by omega
      go_wp2
      go_end0
      exact ⟨rfl, hown, hgr⟩
/-- the bytes of a row can be read from an address on. -/
def Bytes4 (w : World) (g i : Nat) (a b c d : UInt8) : Prop :=
  w.cell? ⟨g, i, none⟩ = some (cell8 a) ∧ w.cell? ⟨g, i + 1, none⟩ = some (cell8 b) ∧ w.cell? ⟨g, i + 2, none⟩ = some (cell8 c) ∧ w.cell? ⟨g, i + 3, none⟩ = some (cell8 d)
/-- a word whose first k bytes are read. -/
def gotW (x : UInt32) (k : Nat) : Nat := x.toNat / 2 ^ (32 - 8 * k)
theorem gotW_up (x : UInt32) (k : Nat) (hk : k < 4) (c : UInt8) (hc : wb x k = c) : bits .or .u32 ((gotW x k : Int) * 256 % 4294967296) (c.toNat : Int) = ((gotW x (k + 1) : Nat) : Int) := by
  have hx := w32_lt x
  have hcl := c.toNat_lt
  have h : gotW x k * 256 + c.toNat = gotW x (k + 1) ∧ gotW x k * 256 < 4294967296 := by
    subst hc
    have h4 : k = 0 ∨ k = 1 ∨ k = 2 ∨ k = 3 := by omega
    rcases h4 with rfl | rfl | rfl | rfl
    · rw [wb0]; simp only [gotW, Nat.reduceMul, Nat.reduceSub, Nat.reducePow, Nat.reduceAdd]; omega
    · rw [wb1]; simp only [gotW, Nat.reduceMul, Nat.reduceSub, Nat.reducePow, Nat.reduceAdd]; omega
    · rw [wb2]; simp only [gotW, Nat.reduceMul, Nat.reduceSub, Nat.reducePow, Nat.reduceAdd]; omega
    · rw [wb3]; simp only [gotW, Nat.reduceMul, Nat.reduceSub, Nat.reducePow, Nat.reduceAdd]; omega
  have e : (gotW x k : Int) * 256 % 4294967296 = ((gotW x k * 256 : Nat) : Int) := by omega
  have h2 := nat_or_add (gotW x k) c.toNat 8 (by omega)
  rw [show (2 : Nat) ^ 8 = 256 by rfl] at h2
  rw [e, u32_or_nat _ _ (by omega) (by omega), h2, h.1]
theorem gotW_4 (x : UInt32) : gotW x 4 = x.toNat := by simp [gotW]
theorem gotW_0 (x : UInt32) : gotW x 0 = 0 := by have := w32_lt x; simp only [gotW, Nat.reduceMul, Nat.reduceSub, Nat.reducePow]; omega
set_option maxRecDepth 100000 in
set_option maxHeartbeats 1600000 in
theorem get_impl (g n c i : Nat) (x : UInt32) (w : World) (h1 : i + 4 ≤ n) (h2 : n ≤ c) (h3 : c ≤ 9223372036854775807) (hb : Bytes4 w g i (wb x 0) (wb x 1) (wb x 2) (wb x 3)) :
    Calls Tryz.prog 132 #[.slice (some ⟨g, 0, none⟩) n c, .int .i64 i] w fun e w' => e = .returned (.int .u32 x.toNat) ∧ w = w' := by
  have HB := Lib.hid hb
  clear hb
  go_enter Tryz.func132, Tryz.ntmps132
  go_wp2_with fail
  refine (cut_impl g n c i h1 h2 h3 _).mono ?_; rintro e w' ⟨rfl, rfl⟩
  go_wp2
  go_loop [5, 12] (fun v i => ∃ k : Nat, k ≤ 4 ∧ i = .int .i64 k ∧ v = .int .u32 (gotW x k)) (fun _ i => 4 - (intOf i).toNat)
  case atStart => exact ⟨0, by omega, rfl, val_i (by rw [gotW_0]; rfl)⟩
  case round =>
    obtain ⟨k, hk, rfl, rfl⟩ := hrel
    by_cases hlt : k < 4
    · obtain ⟨b0, b1, b2, b3⟩ := HB.out
      have hcell : w.cell? ⟨g, i + k, none⟩ = some (cell8 (wb x k)) := by
        have h4 : k = 0 ∨ k = 1 ∨ k = 2 ∨ k = 3 := by omega
        rcases h4 with rfl | rfl | rfl | rfl <;> assumption
      obtain ⟨y, hy⟩ : ∃ y, wb x k = y := ⟨_, rfl⟩
      have HU := Lib.hid (gotW_up x k hlt y hy)
      rw [hy] at hcell
      unfold cell8 at hcell
      have hyl := y.toNat_lt
      have hyi : (y.toNat : Int) < 256 := by omega
      clear b0 b1 b2 b3 hy hyl
      go_wp2
      go_round
      case rel => exact ⟨k + 1, by omega, by go_num, val_i HU.out⟩
      case measure => simp [intOf]; omega
    · obtain rfl : k = 4 := by omega
      go_wp2
      go_ret
      exact ⟨ret_i (by rw [gotW_4]), rfl⟩
theorem row4 (w : World) : ((w.alloc (.cells (mk8 4) 5)).ownsRow w.heap.size 5 1 (.slice (some ⟨w.heap.size, 0, none⟩) 4 4) 4 (cells8 [0, 0, 0, 0])) := by
  have h0 := World.ownsRow_lit w (e := 5) (size := 1) (mk8 4) 4 (Nat.le_refl w.heap.size) (by unfold maxLen; omega) (by rw [mk8_size])
  rw [mk8_list] at h0
  exact h0
theorem PutWord_impl (n : Int) (w : World) :
    Calls Tryz.prog 67 #[.int .i64 n] w fun e w' => e = .returned (.string (putW (w32 n))) ∧ Below w.heap.size w w' := by
  obtain ⟨i0, hi, hz0, hz1, hz2⟩ := info_parts Tryz.info5
  have hmk : (Instr.makeSlice 22 (.int .i64 4) (.int .i64 4)).run Tryz.prog w = .ok (.slice (some ⟨w.heap.size, 0, none⟩) 4 4) (w.alloc (.cells (mk8 4) 5)) := run_make8 Tryz.underlying22 hi hz0 hz1 hz2 4 4 (by omega) (by omega) w
  obtain ⟨W, hW⟩ : ∃ W, w.alloc (.cells (mk8 4) 5) = W := ⟨_, rfl⟩
  have HR := Lib.hid (row4 w)
  have HB : Hid (Below w.heap.size w W) := Lib.hid (hW ▸ (Below.refl _ _).alloc (Nat.le_refl _) _)
  have HP := fun W x h => Lib.hid (put_impl (t := 5) w.heap.size 4 4 0 [0, 0, 0, 0] x w.heap.size W (by omega) (by omega) (by omega) h)
  rw [hW] at hmk HR
  replace HP := Lib.hid ((HP W (w32 n) HR.out).out)
  rw [w32_val] at HP
  clear hW
  go_enter Tryz.func67, Tryz.ntmps67
  go_wp2_with fail
  refine HP.out.mono ?_; rintro e w1 ⟨rfl, hown, hgr⟩
  have HG : Hid (Below w.heap.size w w1) := Lib.hid (HB.out.grown hgr HB.out.size (fun r e => by cases e; omega))
  have hconv := run_string_own Tryz.underlying22 Tryz.underlying5 Tryz.underlying9 hown
  clear hown hgr HR HP
  go_wp2
  go_ret
  exact ⟨rfl, HG.out⟩
end Go.Proofs.YtbfmbdohebdbaaaGreatDoor
set_option linter.unusedVariables false
namespace Go.Proofs.YtbfmbdohebdbaaaGreatDoor
open Go.RowKit

theorem bytes_made (s : ByteArray) (hs : s.size ≤ 1073741824) (w : World) :
    ∃ cap w2, (convert 9 22 (.string s)).run Tryz.prog w = .ok (.slice (some ⟨w.heap.size, 0, none⟩) s.size cap) w2 ∧ s.size ≤ cap ∧ cap ≤ 9223372036854775807 ∧ Below w.heap.size w w2 ∧ (∀ j (h : j < s.size), w2.cell? ⟨w.heap.size, j, none⟩ = some (cell8 s[j])) := by
  refine ⟨_, _, run_bytes_of_string (P := Tryz.prog) w 9 22 5 s Tryz.underlying9 Tryz.underlying22 Tryz.underlying5, grownCap_ge _ _ _ _, ?_, ?_, ?_⟩
  · have := grownCap_le_maxLen w s.size 0 5 (by unfold maxLen; omega)
    unfold maxLen at this; omega
  · exact ((Below.refl _ _).drew).alloc (Nat.le_refl _) _
  · intro j hj
    rw [cell_of_row _ w.heap.size j _ _ _ (heap_alloc_new w.drew _), bytesRow_at _ _ _ (by exact hj)]
    rfl
/-- the word that stands in s from a place on, or -1. -/
def getWi (s : ByteArray) (i : Int) : Int := if 0 ≤ i ∧ i + 4 ≤ (s.size : Int) then ((getW s i.toNat).toNat : Int) else -1
theorem getWi_no (s : ByteArray) (i : Int) (h : ¬ (0 ≤ i ∧ i + 4 ≤ (s.size : Int))) : getWi s i = -1 := if_neg h
theorem getWi_at (s : ByteArray) (i : Nat) (h : i + 4 ≤ s.size) : getWi s i = ((getW s i).toNat : Int) := by
  unfold getWi; rw [if_pos (by omega)]; simp
theorem extract_at (s : ByteArray) (i j : Nat) (h : i + 4 ≤ s.size) (hj : j < 4) (hx : j < (s.extract i (i + 4)).size) : (s.extract i (i + 4))[j] = byteOf s (i + j) := by
  rw [ByteArray.getElem_extract, byteOf_at]
theorem getW_at (s : ByteArray) (i j : Nat) (hj : j < 4) : wb (getW s i) j = byteOf s (i + j) := by
  have h4 : j = 0 ∨ j = 1 ∨ j = 2 ∨ j = 3 := by omega
  unfold getW
  rcases h4 with rfl | rfl | rfl | rfl
  · exact wb0_mk _ _ _ _
  · exact wb1_mk _ _ _ _
  · exact wb2_mk _ _ _ _
  · exact wb3_mk _ _ _ _
set_option maxRecDepth 100000 in
set_option maxHeartbeats 1600000 in
theorem GetWord_at (s : ByteArray) (i : Nat) (h : i + 4 ≤ s.size) (hs : s.size ≤ 140737488355328) (w : World) :
    Calls Tryz.prog 193 #[.string s, .int .i64 i] w fun e w' => e = .returned (.int .i64 (getW s i).toNat) ∧ Below w.heap.size w w' := by
  have hsz : (s.extract i (i + 4)).size = 4 := by simp; omega
  obtain ⟨cap, W, hconv, hc1, hc2, hbel, hcells⟩ := bytes_made (s.extract i (i + 4)) (by omega) w
  rw [hsz] at hc1 hconv
  have hB : Bytes4 W w.heap.size 0 (wb (getW s i) 0) (wb (getW s i) 1) (wb (getW s i) 2) (wb (getW s i) 3) := by
    refine ⟨?_, ?_, ?_, ?_⟩
    · rw [getW_at s i 0 (by omega), hcells 0 (by omega), extract_at s i 0 h (by omega)]
    · rw [getW_at s i 1 (by omega), hcells 1 (by omega), extract_at s i 1 h (by omega)]
    · rw [getW_at s i 2 (by omega), hcells 2 (by omega), extract_at s i 2 h (by omega)]
    · rw [getW_at s i 3 (by omega), hcells 3 (by omega), extract_at s i 3 h (by omega)]
  have HG := Lib.hid (get_impl w.heap.size 4 cap 0 (getW s i) W (by omega) hc1 hc2 hB)
  have HL := Lib.hid hbel
  obtain ⟨y, hy⟩ : ∃ y, getW s i = y := ⟨_, rfl⟩
  rw [hy] at HG
  have hyl := w32_lt y
  have h0 : (0 : Int) ≤ (i : Int) := by omega
  have h1 : ¬ ((s.size : Int) - 4 < (i : Int)) := by omega
  have h2 : (i : Int) + 4 ≤ (s.size : Int) := by omega
  clear hsz hB hcells hbel
  go_enter Tryz.func193, Tryz.ntmps193
  go_wp2_with fail
  refine HG.out.mono ?_; rintro e w' ⟨rfl, rfl⟩
  go_wp2
  go_ret
  exact ⟨ret_i (by rw [hy]), HL.out⟩
set_option maxRecDepth 100000 in
set_option maxHeartbeats 1600000 in
theorem GetWord_no (s : ByteArray) (i : Int) (h : ¬ (0 ≤ i ∧ i + 4 ≤ (s.size : Int))) (hs : s.size ≤ 140737488355328) (w : World) :
    Calls Tryz.prog 193 #[.string s, .int .i64 i] w fun e w' => e = .returned (.int .i64 (-1)) ∧ w = w' := by
  by_cases h0 : i < 0
  · clear h
    go_enter Tryz.func193, Tryz.ntmps193
    go_wp2
    go_ret
    exact ⟨rfl, rfl⟩
  · have h1 : (s.size : Int) - 4 < i := by omega
    clear h
    go_enter Tryz.func193, Tryz.ntmps193
    go_wp2
    go_ret
    exact ⟨rfl, rfl⟩
theorem GetWord_impl (s : ByteArray) (i : Int) (hs : s.size ≤ 140737488355328) (w : World) :
    Calls Tryz.prog 193 #[.string s, .int .i64 i] w fun e w' => e = .returned (.int .i64 (getWi s i)) ∧ Below w.heap.size w w' := by
  by_cases h : 0 ≤ i ∧ i + 4 ≤ (s.size : Int)
  · obtain ⟨k, rfl⟩ := Int.eq_ofNat_of_zero_le h.1
    rw [getWi_at s k (by omega)]
    exact GetWord_at s k (by omega) hs w
  · rw [getWi_no s i h]
    exact (GetWord_no s i h hs w).mono fun e w' ⟨h1, h2⟩ => ⟨h1, h2 ▸ Below.refl _ _⟩

theorem rot_u32 (x : UInt32) (k : Nat) (hk : k ≤ 32) : bits .or .u32 ((x.toNat : Int) * 2 ^ k % 4294967296) ((x.toNat : Int) / 2 ^ (32 - k)) = ((rot x k).toNat : Int) := by
  have hx := w32_lt x
  have e1 : (x.toNat : Int) * 2 ^ k % 4294967296 = ((x.toNat * 2 ^ k % 4294967296 : Nat) : Int) := by rw [Int.natCast_emod, Int.natCast_mul, Int.natCast_pow]; rfl
  have e2 : (x.toNat : Int) / 2 ^ (32 - k) = ((x.toNat / 2 ^ (32 - k) : Nat) : Int) := by rw [Int.natCast_ediv, Int.natCast_pow]; rfl
  have e3 : x.toNat / 2 ^ (32 - k) < 4294967296 := Nat.lt_of_le_of_lt (Nat.div_le_self _ _) hx
  rw [e1, e2, u32_or_nat _ _ (Nat.mod_lt _ (by omega)) e3, rot_or _ _ hk hx, rot_nat _ _ hk]
theorem and31 : ∀ n : Fin 32, bits .and .u64 (n.val : Int) 31 = (n.val : Int) := by decide +kernel
set_option maxRecDepth 100000 in
theorem rot32 (x : UInt32) (k : Nat) (hk : k < 32) (w : World) :
    Calls Tryz.prog 164 #[.int .u32 x.toNat, .int .i64 k] w fun e w' => e = .returned (.int .u32 (rot x k).toNat) ∧ w = w' := by
  have HV := Lib.hid (rot_u32 x k (by omega))
  have hA := and31 ⟨k, hk⟩
  simp only at hA
  have hk1 : (k : Int) < 32 := by omega
  go_enter Tryz.func164, Tryz.ntmps164
  go_wp2
  go_ret
  exact ⟨ret_i HV.out, rfl⟩
theorem rot_mod (n : Int) (k : Nat) (hk : k < 32) (w : World) :
    Calls Tryz.prog 164 #[.int .u32 (n % 4294967296), .int .i64 k] w fun e w' => e = .returned (.int .u32 (rot (w32 n) k).toNat) ∧ w = w' := by
  rw [← w32_val]; exact rot32 _ k hk w
/-- Turn as the document tells it. -/
def turnI (n k : Int) : Int := if 0 ≤ k ∧ k ≤ 31 then ((rot (w32 n) k.toNat).toNat : Int) else -1
theorem turnI_no (n k : Int) (h : ¬ (0 ≤ k ∧ k ≤ 31)) : turnI n k = -1 := if_neg h
theorem turnI_at (n : Int) (k : Nat) (h : k < 32) : turnI n k = ((rot (w32 n) k).toNat : Int) := by
  unfold turnI; rw [if_pos (by omega)]; simp
set_option maxRecDepth 100000 in
theorem Turn_impl (n k : Int) (w : World) :
    Calls Tryz.prog 186 #[.int .i64 n, .int .i64 k] w fun e w' => e = .returned (.int .i64 (turnI n k)) ∧ w = w' := by
  by_cases h0 : k < 0
  · have HT := Lib.hid (turnI_no n k (by omega))
    go_enter Tryz.func186, Tryz.ntmps186
    go_wp2
    go_ret
    exact ⟨ret_i HT.out.symm, rfl⟩
  · by_cases h1 : 32 ≤ k
    · have HT := Lib.hid (turnI_no n k (by omega))
      go_enter Tryz.func186, Tryz.ntmps186
      go_wp2
      go_ret
      exact ⟨ret_i HT.out.symm, rfl⟩
    · obtain ⟨j, rfl⟩ := Int.eq_ofNat_of_zero_le (Int.not_lt.1 h0)
      have HT := Lib.hid (turnI_at n j (by omega))
      have HR := Lib.hid (rot_mod n j (by omega) w)
      have hl := w32_lt (rot (w32 n) j)
      have h3 : (j : Int) < 32 := by omega
      have h4 : (0 : Int) ≤ (j : Int) := by omega
      clear h0 h1
      go_enter Tryz.func186, Tryz.ntmps186
      go_wp2_with fail
      refine HR.out.mono ?_; rintro e w' ⟨rfl, rfl⟩
      go_wp2
      go_ret
      exact ⟨ret_i HT.out.symm, rfl⟩
theorem mapT_putW (f : UInt8 → UInt8) (x : UInt32) : mapT f (putW x) = putW (mapW f x) := by
  unfold mapT putW mapW
  simp [wb0_mk, wb1_mk, wb2_mk, wb3_mk]
theorem SubWord_impl (n : Int) (w : World) :
    Calls Tryz.prog 185 #[.int .i64 n] w fun e w' => e = .returned (.int .i64 (subW (w32 n)).toNat) ∧ Below w.heap.size w w' := by
  have H1 := Lib.hid (PutWord_impl n w)
  have H2 := fun W => Lib.hid (SubText_impl (putW (w32 n)) W (by rw [putW_size]; omega))
  have H3 := fun W => Lib.hid (GetWord_at (mapT sbox (putW (w32 n))) 0 (by rw [mapT_size, putW_size]; omega) (by rw [mapT_size, putW_size]; omega) W)
  simp only [mapT_putW, getW_putW] at H2 H3
  go_enter Tryz.func185, Tryz.ntmps185
  go_wp2_with fail
  refine H1.out.mono ?_; rintro e w1 ⟨rfl, hb1⟩
  go_wp2_with fail
  refine (H2 _).out.mono ?_; rintro e w2 ⟨rfl, hb2⟩
  go_wp2_with fail
  refine (H3 _).out.mono ?_; rintro e w3 ⟨rfl, hb3⟩
  have hb := (hb1.trans (hb2.mono hb1.size)).trans (hb3.mono (Nat.le_trans hb1.size hb2.size))
  clear hb1 hb2 hb3
  go_wp2
  go_ret
  exact ⟨rfl, hb⟩
/-- Rcon as the document tells it. -/
def rconI (i : Int) : Int := if i < 1 then 0 else ((rcon i.toNat).toNat : Int)
theorem rconI_no (i : Int) (h : i < 1) : rconI i = 0 := if_pos h
theorem rconI_at (i : Int) (h : ¬ i < 1) : rconI i = ((Pow (b8 2) (i - 1)).toNat : Int) * 16777216 := by
  unfold rconI rcon
  rw [if_neg h, mkW_nat]
  have e : Pow (b8 2) (i - 1) = power 2 (i.toNat - 1) := by
    rw [show i - 1 = ((i.toNat - 1 : Nat) : Int) by omega, Pow_nat]
    rfl
  rw [e]
  simp
set_option maxRecDepth 100000 in
theorem Rcon_impl (i : Int) (h1 : -9223372036854775808 ≤ i) (h2 : i ≤ 9223372036854775807) (w : World) :
    Calls Tryz.prog 187 #[.int .i64 i] w fun e w' => e = .returned (.int .i64 (rconI i)) ∧ w = w' := by
  by_cases h0 : i < 1
  · have HT := Lib.hid (rconI_no i h0)
    go_enter Tryz.func187, Tryz.ntmps187
    go_wp2
    go_ret
    exact ⟨ret_i HT.out.symm, rfl⟩
  · have HT := Lib.hid (rconI_at i h0)
    have HP := Lib.hid (Power_impl 2 (i - 1) (by omega) (by omega) w)
    obtain ⟨y, hy⟩ : ∃ y, Pow (b8 2) (i - 1) = y := ⟨_, rfl⟩
    rw [hy] at HT HP
    have hyl := y.toNat_lt
    clear hy
    go_enter Tryz.func187, Tryz.ntmps187
    go_wp2_with fail
    refine HP.out.mono ?_; rintro e w' ⟨rfl, rfl⟩
    go_wp2
    go_ret
    exact ⟨ret_i HT.out.symm, rfl⟩
end Go.Proofs.YtbfmbdohebdbaaaGreatDoor
set_option linter.unusedVariables false
namespace Go.Proofs.YtbfmbdohebdbaaaGreatDoor
open Go.RowKit

theorem w0_i (n : Int) : n / 16777216 % 256 = ((wb (w32 n) 0).toNat : Int) := by have := w32_val n; rw [wb0]; omega
theorem w1_i (n : Int) : n / 65536 % 256 = ((wb (w32 n) 1).toNat : Int) := by have := w32_val n; rw [wb1]; omega
theorem w2_i (n : Int) : n / 256 % 256 = ((wb (w32 n) 2).toNat : Int) := by have := w32_val n; rw [wb2]; omega
theorem w3_i (n : Int) : n % 256 = ((wb (w32 n) 3).toNat : Int) := by have := w32_val n; rw [wb3]; omega
theorem lit4 (n : Int) (w : World) :
    (convert 22 9 (.slice (some ⟨w.heap.size, 0, none⟩) 4 4)).run Tryz.prog (w.alloc (.cells #[.int .u8 (n / 16777216 % 256), .int .u8 (n / 65536 % 256), .int .u8 (n / 256 % 256), .int .u8 (n % 256)] 5))
      = .ok (.string (putW (w32 n))) (w.alloc (.cells #[.int .u8 (n / 16777216 % 256), .int .u8 (n / 65536 % 256), .int .u8 (n / 256 % 256), .int .u8 (n % 256)] 5)) := by
  rw [w0_i, w1_i, w2_i, w3_i]
  have h : (w.alloc (.cells #[cell8 (wb (w32 n) 0), cell8 (wb (w32 n) 1), cell8 (wb (w32 n) 2), cell8 (wb (w32 n) 3)] 5)).ownsRow w.heap.size 5 1 (.slice (some ⟨w.heap.size, 0, none⟩) 4 4) 4 (cells8 [wb (w32 n) 0, wb (w32 n) 1, wb (w32 n) 2, wb (w32 n) 3]) :=
    World.ownsRow_lit w (e := 5) (size := 1) #[cell8 (wb (w32 n) 0), cell8 (wb (w32 n) 1), cell8 (wb (w32 n) 2), cell8 (wb (w32 n) 3)] 4 (Nat.le_refl w.heap.size) (by unfold maxLen; omega) rfl
  exact run_string_own Tryz.underlying22 Tryz.underlying5 Tryz.underlying9 h
set_option maxRecDepth 100000 in
theorem PutWord_spec (n : Int) (w : World) :
    Calls Tryz.prog 44 #[.int .i64 n] w fun e w' => e = .returned (.string (putW (w32 n))) ∧ Below w.heap.size w w' := by
  have HC := lit4 n w
  go_enter Tryz.func44, Tryz.ntmps44
  go_wp2
  go_ret
  exact ⟨rfl, (Below.refl _ _).alloc (Nat.le_refl _) _⟩
theorem or4 (a b c d : UInt8) : bits .or .i64 (bits .or .i64 (bits .or .i64 ((a.toNat : Int) * 16777216) ((b.toNat : Int) * 65536)) ((c.toNat : Int) * 256)) (d.toNat : Int) = ((mkW a b c d).toNat : Int) := by
  have ha := a.toNat_lt; have hb := b.toNat_lt; have hc := c.toNat_lt; have hd := d.toNat_lt
  have e1 := nat_or_add (a.toNat * 256) (b.toNat * 65536) 16
  have o1 : (a.toNat * 16777216 ||| b.toNat * 65536) = a.toNat * 16777216 + b.toNat * 65536 := by
    have := nat_or_add a.toNat (b.toNat * 65536) 24 (by omega)
    exact this
  have o2 : (a.toNat * 16777216 + b.toNat * 65536 ||| c.toNat * 256) = a.toNat * 16777216 + b.toNat * 65536 + c.toNat * 256 := by
    have := nat_or_add (a.toNat * 256 + b.toNat) (c.toNat * 256) 16 (by omega)
    rw [show (a.toNat * 256 + b.toNat) * 2 ^ 16 = a.toNat * 16777216 + b.toNat * 65536 by omega] at this
    exact this
  have o3 : (a.toNat * 16777216 + b.toNat * 65536 + c.toNat * 256 ||| d.toNat) = a.toNat * 16777216 + b.toNat * 65536 + c.toNat * 256 + d.toNat := by
    have := nat_or_add (a.toNat * 65536 + b.toNat * 256 + c.toNat) d.toNat 8 (by omega)
    rw [show (a.toNat * 65536 + b.toNat * 256 + c.toNat) * 2 ^ 8 = a.toNat * 16777216 + b.toNat * 65536 + c.toNat * 256 by omega] at this
    exact this
  rw [show (a.toNat : Int) * 16777216 = ((a.toNat * 16777216 : Nat) : Int) by omega, show (b.toNat : Int) * 65536 = ((b.toNat * 65536 : Nat) : Int) by omega, show (c.toNat : Int) * 256 = ((c.toNat * 256 : Nat) : Int) by omega,
    i64_or_nat _ _ (by omega) (by omega), o1, i64_or_nat _ _ (by omega) (by omega), o2, i64_or_nat _ _ (by omega) (by omega), o3, mkW_nat]
theorem index_byte (s : ByteArray) (i : Int) (j : Nat) (h : i = (j : Int)) (hj : j < s.size) (w : World) : (Instr.index 9 (.string s) (.int .i64 i)).run Tryz.prog w = .ok (.int .u8 ((byteOf s j).toNat : Int)) w := by
  subst h
  have hi : 0 ≤ (j : Int) ∧ (j : Int) < (s.size : Int) := by omega
  rw [run_index_string w 9 s .i64 j Tryz.underlying9, dif_pos hi, ← byteOf_at s j hj]
  rfl
theorem wrap_byte (c : UInt8) : wrap64 (c.toNat : Int) = (c.toNat : Int) := by have := c.toNat_lt; simp only [wrap64]; omega
theorem or4w (a b c d : UInt8) : bits .or .i64 (bits .or .i64 (bits .or .i64 (wrap64 (wrap64 (a.toNat : Int) * 16777216)) (wrap64 (wrap64 (b.toNat : Int) * 65536))) (wrap64 (wrap64 (c.toNat : Int) * 256))) (wrap64 (d.toNat : Int)) = ((mkW a b c d).toNat : Int) := by
  have ha := a.toNat_lt; have hb := b.toNat_lt; have hc := c.toNat_lt
  rw [← or4, wrap_byte, wrap_byte, wrap_byte, wrap_byte]
  have e1 : wrap64 ((a.toNat : Int) * 16777216) = (a.toNat : Int) * 16777216 := by simp only [wrap64]; omega
  have e2 : wrap64 ((b.toNat : Int) * 65536) = (b.toNat : Int) * 65536 := by simp only [wrap64]; omega
  have e3 : wrap64 ((c.toNat : Int) * 256) = (c.toNat : Int) * 256 := by simp only [wrap64]; omega
  rw [e1, e2, e3]
theorem below_drewN {B : Nat} {a w : World} (h : Below B a w) (n : Nat) : Below B a (w.drewN n) := ⟨h.os, h.tape, h.output, h.size, h.block⟩
set_option maxRecDepth 100000 in
set_option maxHeartbeats 1600000 in
theorem GetWord_at_spec (s : ByteArray) (i : Nat) (h : i + 4 ≤ s.size) (hs : s.size ≤ 140737488355328) (w : World) :
    Calls Tryz.prog 107 #[.string s, .int .i64 i] w fun e w' => e = .returned (.int .i64 (getW s i).toNat) ∧ Below w.heap.size w w' := by
  have HO := Lib.hid (or4w (byteOf s i) (byteOf s (i + 1)) (byteOf s (i + 2)) (byteOf s (i + 3)))
  have h0 : (0 : Int) ≤ (i : Int) := by omega
  have h1 : ¬ ((s.size : Int) - 4 < (i : Int)) := by omega
  have h2 : (i : Int) + 4 ≤ (s.size : Int) := by omega
  have i0 := fun W => index_byte s i i rfl (by omega) W
  have i1 := fun W => index_byte s ((i : Int) + 1) (i + 1) (by omega) (by omega) W
  have i2 := fun W => index_byte s ((i : Int) + 2) (i + 2) (by omega) (by omega) W
  have i3 := fun W => index_byte s ((i : Int) + 3) (i + 3) (by omega) (by omega) W
  have q1 : IntKind.i64.wrap ((i : Int) + 1) = (i : Int) + 1 := IntWalk.i64_in _ (by omega)
  have q2 : IntKind.i64.wrap ((i : Int) + 2) = (i : Int) + 2 := IntWalk.i64_in _ (by omega)
  have q3 : IntKind.i64.wrap ((i : Int) + 3) = (i : Int) + 3 := IntWalk.i64_in _ (by omega)
  go_enter Tryz.func107, Tryz.ntmps107
  go_wp2
  go_quiet (fail)
  go_wp2
  go_ret
  exact ⟨ret_i HO.out, below_drewN (Below.refl _ _) _⟩
set_option maxRecDepth 100000 in
set_option maxHeartbeats 1600000 in
theorem GetWord_no_spec (s : ByteArray) (i : Int) (h : ¬ (0 ≤ i ∧ i + 4 ≤ (s.size : Int))) (hs : s.size ≤ 140737488355328) (w : World) :
    Calls Tryz.prog 107 #[.string s, .int .i64 i] w fun e w' => e = .returned (.int .i64 (-1)) ∧ w = w' := by
  by_cases h0 : i < 0
  · clear h
    go_enter Tryz.func107, Tryz.ntmps107
    go_wp2
    go_ret
    exact ⟨rfl, rfl⟩
  · have h1 : (s.size : Int) - 4 < i := by omega
    clear h
    go_enter Tryz.func107, Tryz.ntmps107
    go_wp2
    go_ret
    exact ⟨rfl, rfl⟩
theorem GetWord_spec (s : ByteArray) (i : Int) (hs : s.size ≤ 140737488355328) (w : World) :
    Calls Tryz.prog 107 #[.string s, .int .i64 i] w fun e w' => e = .returned (.int .i64 (getWi s i)) ∧ Below w.heap.size w w' := by
  by_cases h : 0 ≤ i ∧ i + 4 ≤ (s.size : Int)
  · obtain ⟨k, rfl⟩ := Int.eq_ofNat_of_zero_le h.1
    rw [getWi_at s k (by omega)]
    exact GetWord_at_spec s k (by omega) hs w
  · rw [getWi_no s i h]
    exact (GetWord_no_spec s i h hs w).mono fun e w' ⟨h1, h2⟩ => ⟨h1, h2 ▸ Below.refl _ _⟩
theorem i64_or_nat63 (a b : Nat) (ha : a < 9223372036854775808) (hb : b < 9223372036854775808) : bits .or .i64 (a : Int) (b : Int) = ((a ||| b : Nat) : Int) := by
  have h : a ||| b < 2 ^ 63 := Nat.or_lt_two_pow (n := 63) (by omega) (by omega)
  show IntKind.i64.wrap ((BitVec.ofInt 64 (a : Int) ||| BitVec.ofInt 64 (b : Int)).toNat : Int) = _
  rw [BitVec.toNat_or, ofInt_nat a ha, ofInt_nat b hb, IntKind.wrap_i64]
  omega
theorem and32 (n : Int) : bits .and .i64 n 4294967295 = ((w32 n).toNat : Int) := by
  rw [w32_val]; exact i64_mask n 32 (by omega)
theorem turn32_val (n : Int) (k : Nat) (h : k ≤ 31) : bits .and .i64 (bits .or .i64 (wrap64 (bits .and .i64 n 4294967295 * 2 ^ k)) (bits .and .i64 n 4294967295 / 2 ^ (32 - k))) 4294967295 = ((rot (w32 n) k).toNat : Int) := by
  have hx := w32_lt (w32 n)
  rw [rot_nat _ _ (by omega), and32 n]
  generalize (w32 n).toNat = x at *
  have hp : 2 ^ k ≤ 2 ^ 31 := Nat.pow_le_pow_right (by omega) h
  have hm : x * 2 ^ k ≤ 4294967295 * 2 ^ 31 := Nat.mul_le_mul (by omega) hp
  have e1 : wrap64 ((x : Int) * 2 ^ k) = ((x * 2 ^ k : Nat) : Int) := by
    have e0 : (x : Int) * 2 ^ k = ((x * 2 ^ k : Nat) : Int) := by rw [Int.natCast_mul, Int.natCast_pow]; rfl
    rw [e0]
    simp only [wrap64]
    omega
  have e2 : (x : Int) / 2 ^ (32 - k) = ((x / 2 ^ (32 - k) : Nat) : Int) := by rw [Int.natCast_ediv, Int.natCast_pow]; rfl
  have e3 : x / 2 ^ (32 - k) < 4294967296 := Nat.lt_of_le_of_lt (Nat.div_le_self _ _) hx
  rw [e1, e2, i64_or_nat63 _ _ (by omega) (by omega), and32, w32_val]
  have h1 : (x * 2 ^ k ||| x / 2 ^ (32 - k)) % 2 ^ 32 = (x * 2 ^ k % 2 ^ 32 ||| x / 2 ^ (32 - k) % 2 ^ 32) := Nat.or_mod_two_pow
  have h2 : x / 2 ^ (32 - k) % 2 ^ 32 = x / 2 ^ (32 - k) := Nat.mod_eq_of_lt e3
  rw [h2] at h1
  have h3 := rot_or x k (by omega) hx
  rw [show (4294967296 : Int) = ((2 ^ 32 : Nat) : Int) by rfl, ← Int.natCast_emod, h1, ← h3]
set_option maxRecDepth 100000 in
theorem in_any (x a b : Int) (w : World) : Calls Tryz.prog 27 #[.int .i64 x, .int .i64 a, .int .i64 b] w fun e w' => e = .returned (.bool (decide (a ≤ x ∧ x ≤ b))) ∧ w = w' := by
  by_cases h : a ≤ x
  · go_enter Tryz.func27, Tryz.ntmps27
    go_wp2
    go_ret
    exact ⟨by simp [h], rfl⟩
  · go_enter Tryz.func27, Tryz.ntmps27
    go_wp2
    go_ret
    exact ⟨by simp; omega, rfl⟩
theorem in_yes (x a b : Int) (h : a ≤ x ∧ x ≤ b) (w : World) : Calls Tryz.prog 27 #[.int .i64 x, .int .i64 a, .int .i64 b] w fun e w' => e = .returned (.bool true) ∧ w = w' := by
  have := in_any x a b w; rwa [decide_eq_true h] at this
theorem in_no (x a b : Int) (h : ¬ (a ≤ x ∧ x ≤ b)) (w : World) : Calls Tryz.prog 27 #[.int .i64 x, .int .i64 a, .int .i64 b] w fun e w' => e = .returned (.bool false) ∧ w = w' := by
  have := in_any x a b w; rwa [decide_eq_false h] at this
set_option maxRecDepth 100000 in
theorem Turn_spec (n k : Int) (w : World) :
    Calls Tryz.prog 110 #[.int .i64 n, .int .i64 k] w fun e w' => e = .returned (.int .i64 (turnI n k)) ∧ w = w' := by
  by_cases h : 0 ≤ k ∧ k ≤ 31
  · obtain ⟨j, rfl⟩ := Int.eq_ofNat_of_zero_le h.1
    have HV := Lib.hid (turn32_val n j (by omega))
    have HT := Lib.hid (turnI_at n j (by omega))
    have HI := Lib.hid (in_yes (j : Int) 0 31 h w)
    have h3 : (j : Int) ≤ 31 := by omega
    have h4 : (0 : Int) ≤ (j : Int) := by omega
    clear h
    go_enter Tryz.func110, Tryz.ntmps110
    go_wp2_with fail
    refine HI.out.mono ?_; rintro e w' ⟨rfl, rfl⟩
    go_wp2
    go_ret
    exact ⟨ret_i (HV.out.trans HT.out.symm), rfl⟩
  · have HT := Lib.hid (turnI_no n k h)
    have HI := Lib.hid (in_no k 0 31 h w)
    clear h
    go_enter Tryz.func110, Tryz.ntmps110
    go_wp2_with fail
    refine HI.out.mono ?_; rintro e w' ⟨rfl, rfl⟩
    go_wp2
    go_ret
    exact ⟨ret_i HT.out.symm, rfl⟩
theorem SubWord_spec (n : Int) (w : World) :
    Calls Tryz.prog 109 #[.int .i64 n] w fun e w' => e = .returned (.int .i64 (subW (w32 n)).toNat) ∧ Below w.heap.size w w' := by
  have H1 := Lib.hid (PutWord_spec n w)
  have H2 := fun W => Lib.hid (SubText_spec (putW (w32 n)) W (by rw [putW_size]; omega))
  have H3 := fun W => Lib.hid (GetWord_at_spec (mapT sbox (putW (w32 n))) 0 (by rw [mapT_size, putW_size]; omega) (by rw [mapT_size, putW_size]; omega) W)
  simp only [mapT_putW, getW_putW] at H2 H3
  go_enter Tryz.func109, Tryz.ntmps109
  go_wp2_with fail
  refine H1.out.mono ?_; rintro e w1 ⟨rfl, hb1⟩
  go_wp2_with fail
  refine (H2 _).out.mono ?_; rintro e w2 ⟨rfl, hb2⟩
  go_wp2_with fail
  refine (H3 _).out.mono ?_; rintro e w3 ⟨rfl, hb3⟩
  have hb := (hb1.trans (hb2.mono hb1.size)).trans (hb3.mono (Nat.le_trans hb1.size hb2.size))
  clear hb1 hb2 hb3
  go_wp2
  go_ret
  exact ⟨rfl, hb⟩
set_option maxRecDepth 100000 in
theorem Rcon_spec (i : Int) (h1 : -9223372036854775808 ≤ i) (h2 : i ≤ 9223372036854775807) (w : World) :
    Calls Tryz.prog 111 #[.int .i64 i] w fun e w' => e = .returned (.int .i64 (rconI i)) ∧ w = w' := by
  by_cases h0 : i < 1
  · have HT := Lib.hid (rconI_no i h0)
    go_enter Tryz.func111, Tryz.ntmps111
    go_wp2
    go_ret
    exact ⟨ret_i HT.out.symm, rfl⟩
  · have HT := Lib.hid (rconI_at i h0)
    have HP := Lib.hid (Power_spec 2 (i - 1) (by omega) (by omega) w)
    obtain ⟨y, hy⟩ : ∃ y, Pow (b8 2) (i - 1) = y := ⟨_, rfl⟩
    rw [hy] at HT HP
    have hyl := y.toNat_lt
    clear hy
    go_enter Tryz.func111, Tryz.ntmps111
    go_wp2_with fail
    refine HP.out.mono ?_; rintro e w' ⟨rfl, rfl⟩
    go_wp2
    go_ret
    exact ⟨ret_i HT.out.symm, rfl⟩
end Go.Proofs.YtbfmbdohebdbaaaGreatDoor
