/-
  What impl.GetWord, Turn, SubWord and Rcon answer.
-/
import Derived.Test.YtbgjeipgmlcgaaaDoorWordI
import Derived.WalkKit
import Derived.LoopTactic
import Derived.OwnWalk
import Derived.WalkLawsBesides
import Derived.WalkSpells
import Derived.Outline
import Derived.Below
import Derived.Laws.OwnMore
import Derived.Laws.IdiomStrings
set_option linter.unusedVariables false
namespace Go.Proofs.YtbgjeipgmlcgaaaDoor
open Go.RowKit

theorem bytes_made (s : ByteArray) (hs : s.size ≤ 1073741824) (w : World) :
    ∃ cap w2, (convert 9 22 (.string s)).run Tryd.prog w = .ok (.slice (some ⟨w.heap.size, 0, none⟩) s.size cap) w2 ∧ s.size ≤ cap ∧ cap ≤ 9223372036854775807 ∧ Below w.heap.size w w2 ∧ (∀ j (h : j < s.size), w2.cell? ⟨w.heap.size, j, none⟩ = some (cell8 s[j])) := by
  refine ⟨_, _, run_bytes_of_string (P := Tryd.prog) w 9 22 5 s Tryd.underlying9 Tryd.underlying22 Tryd.underlying5, grownCap_ge _ _ _ _, ?_, ?_, ?_⟩
  · have := grownCap_le_maxLen w s.size 0 5 (by unfold maxLen; omega)
    unfold maxLen at this; omega
  · exact ((Below.refl _ _).drew).alloc (Nat.le_refl _) _
  · intro j hj
    rw [cell_of_row _ w.heap.size j _ _ _ (heap_alloc_new w.drew _), bytesRow_at _ _ _ (by exact hj)]
    rfl
/-- the word that stands in s from a place on, or -1. -/
def getWi (s : ByteArray) (i : Int) : Int := if 0 ≤ i ∧ i + 4 ≤ (s.size : Int) then ((getW s i.toNat).toNat : Int) else -1
theorem getWi_no (s : ByteArray) (i : Int) (h : ¬ (0 ≤ i ∧ i + 4 ≤ (s.size : Int))) : getWi s i = -1 := if_neg h
theorem getWi_at (s : ByteArray) (i : Nat) (h : i + 4 ≤ s.size) : getWi s i = ((getW s i).toNat : Int) := by
  unfold getWi; rw [if_pos (by omega)]; simp
theorem extract_at (s : ByteArray) (i j : Nat) (h : i + 4 ≤ s.size) (hj : j < 4) (hx : j < (s.extract i (i + 4)).size) : (s.extract i (i + 4))[j] = byteOf s (i + j) := by
  rw [ByteArray.getElem_extract, byteOf_at]
theorem getW_at (s : ByteArray) (i j : Nat) (hj : j < 4) : wb (getW s i) j = byteOf s (i + j) := by
  have h4 : j = 0 ∨ j = 1 ∨ j = 2 ∨ j = 3 := by omega
  unfold getW
  rcases h4 with rfl | rfl | rfl | rfl
  · exact wb0_mk _ _ _ _
  · exact wb1_mk _ _ _ _
  · exact wb2_mk _ _ _ _
  · exact wb3_mk _ _ _ _
set_option maxRecDepth 100000 in
set_option maxHeartbeats 1600000 in
theorem GetWord_at (s : ByteArray) (i : Nat) (h : i + 4 ≤ s.size) (hs : s.size ≤ 140737488355328) (w : World) :
    Calls Tryd.prog 86 #[.string s, .int .i64 i] w fun e w' => e = .returned (.int .i64 (getW s i).toNat) ∧ Below w.heap.size w w' := by
  have hsz : (s.extract i (i + 4)).size = 4 := by simp; omega
  obtain ⟨cap, W, hconv, hc1, hc2, hbel, hcells⟩ := bytes_made (s.extract i (i + 4)) (by omega) w
  rw [hsz] at hc1 hconv
  have hB : Bytes4 W w.heap.size 0 (wb (getW s i) 0) (wb (getW s i) 1) (wb (getW s i) 2) (wb (getW s i) 3) := by
    refine ⟨?_, ?_, ?_, ?_⟩
    · rw [getW_at s i 0 (by omega), hcells 0 (by omega), extract_at s i 0 h (by omega)]
    · rw [getW_at s i 1 (by omega), hcells 1 (by omega), extract_at s i 1 h (by omega)]
    · rw [getW_at s i 2 (by omega), hcells 2 (by omega), extract_at s i 2 h (by omega)]
    · rw [getW_at s i 3 (by omega), hcells 3 (by omega), extract_at s i 3 h (by omega)]
  have HG := Lib.hid (get_impl w.heap.size 4 cap 0 (getW s i) W (by omega) hc1 hc2 hB)
  have HL := Lib.hid hbel
  obtain ⟨y, hy⟩ : ∃ y, getW s i = y := ⟨_, rfl⟩
  rw [hy] at HG
  have hyl := w32_lt y
  have h0 : (0 : Int) ≤ (i : Int) := by omega
  have h1 : ¬ ((s.size : Int) - 4 < (i : Int)) := by omega
  have h2 : (i : Int) + 4 ≤ (s.size : Int) := by omega
  clear hsz hB hcells hbel
  go_enter Tryd.func86, Tryd.ntmps86
  go_wp2_with fail
  refine HG.out.mono ?_; rintro e w' ⟨rfl, rfl⟩
  go_wp2
  go_ret
  exact ⟨ret_i (by rw [hy]), HL.out⟩
set_option maxRecDepth 100000 in
set_option maxHeartbeats 1600000 in
theorem GetWord_no (s : ByteArray) (i : Int) (h : ¬ (0 ≤ i ∧ i + 4 ≤ (s.size : Int))) (hs : s.size ≤ 140737488355328) (w : World) :
    Calls Tryd.prog 86 #[.string s, .int .i64 i] w fun e w' => e = .returned (.int .i64 (-1)) ∧ w = w' := by
  by_cases h0 : i < 0
  · clear h
    go_enter Tryd.func86, Tryd.ntmps86
    go_wp2
    go_ret
    exact ⟨rfl, rfl⟩
  · have h1 : (s.size : Int) - 4 < i := by omega
    clear h
    go_enter Tryd.func86, Tryd.ntmps86
    go_wp2
    go_ret
    exact ⟨rfl, rfl⟩
theorem GetWord_impl (s : ByteArray) (i : Int) (hs : s.size ≤ 140737488355328) (w : World) :
    Calls Tryd.prog 86 #[.string s, .int .i64 i] w fun e w' => e = .returned (.int .i64 (getWi s i)) ∧ Below w.heap.size w w' := by
  by_cases h : 0 ≤ i ∧ i + 4 ≤ (s.size : Int)
  · obtain ⟨k, rfl⟩ := Int.eq_ofNat_of_zero_le h.1
    rw [getWi_at s k (by omega)]
    exact GetWord_at s k (by omega) hs w
  · rw [getWi_no s i h]
    exact (GetWord_no s i h hs w).mono fun e w' ⟨h1, h2⟩ => ⟨h1, h2 ▸ Below.refl _ _⟩

theorem rot_u32 (x : UInt32) (k : Nat) (hk : k ≤ 32) : bits .or .u32 ((x.toNat : Int) * 2 ^ k % 4294967296) ((x.toNat : Int) / 2 ^ (32 - k)) = ((rot x k).toNat : Int) := by
  have hx := w32_lt x
  have e1 : (x.toNat : Int) * 2 ^ k % 4294967296 = ((x.toNat * 2 ^ k % 4294967296 : Nat) : Int) := by rw [Int.natCast_emod, Int.natCast_mul, Int.natCast_pow]; rfl
  have e2 : (x.toNat : Int) / 2 ^ (32 - k) = ((x.toNat / 2 ^ (32 - k) : Nat) : Int) := by rw [Int.natCast_ediv, Int.natCast_pow]; rfl
  have e3 : x.toNat / 2 ^ (32 - k) < 4294967296 := Nat.lt_of_le_of_lt (Nat.div_le_self _ _) hx
  rw [e1, e2, u32_or_nat _ _ (Nat.mod_lt _ (by omega)) e3, rot_or _ _ hk hx, rot_nat _ _ hk]
theorem and31 : ∀ n : Fin 32, bits .and .u64 (n.val : Int) 31 = (n.val : Int) := by decide +kernel
set_option maxRecDepth 100000 in
theorem rot32 (x : UInt32) (k : Nat) (hk : k < 32) (w : World) :
    Calls Tryd.prog 58 #[.int .u32 x.toNat, .int .i64 k] w fun e w' => e = .returned (.int .u32 (rot x k).toNat) ∧ w = w' := by
  have HV := Lib.hid (rot_u32 x k (by omega))
  have hA := and31 ⟨k, hk⟩
  simp only at hA
  have hk1 : (k : Int) < 32 := by omega
  go_enter Tryd.func58, Tryd.ntmps58
  go_wp2
  go_ret
  exact ⟨ret_i HV.out, rfl⟩
theorem rot_mod (n : Int) (k : Nat) (hk : k < 32) (w : World) :
    Calls Tryd.prog 58 #[.int .u32 (n % 4294967296), .int .i64 k] w fun e w' => e = .returned (.int .u32 (rot (w32 n) k).toNat) ∧ w = w' := by
  rw [← w32_val]; exact rot32 _ k hk w
/-- Turn as the document tells it. -/
def turnI (n k : Int) : Int := if 0 ≤ k ∧ k ≤ 31 then ((rot (w32 n) k.toNat).toNat : Int) else -1
theorem turnI_no (n k : Int) (h : ¬ (0 ≤ k ∧ k ≤ 31)) : turnI n k = -1 := if_neg h
theorem turnI_at (n : Int) (k : Nat) (h : k < 32) : turnI n k = ((rot (w32 n) k).toNat : Int) := by
  unfold turnI; rw [if_pos (by omega)]; simp
set_option maxRecDepth 100000 in
theorem Turn_impl (n k : Int) (w : World) :
    Calls Tryd.prog 81 #[.int .i64 n, .int .i64 k] w fun e w' => e = .returned (.int .i64 (turnI n k)) ∧ w = w' := by
  by_cases h0 : k < 0
  · have HT := Lib.hid (turnI_no n k (by omega))
    go_enter Tryd.func81, Tryd.ntmps81
    go_wp2
    go_ret
    exact ⟨ret_i HT.out.symm, rfl⟩
  · by_cases h1 : 32 ≤ k
    · have HT := Lib.hid (turnI_no n k (by omega))
      go_enter Tryd.func81, Tryd.ntmps81
      go_wp2
      go_ret
      exact ⟨ret_i HT.out.symm, rfl⟩
    · obtain ⟨j, rfl⟩ := Int.eq_ofNat_of_zero_le (Int.not_lt.1 h0)
      have HT := Lib.hid (turnI_at n j (by omega))
      have HR := Lib.hid (rot_mod n j (by omega) w)
      have hl := w32_lt (rot (w32 n) j)
      have h3 : (j : Int) < 32 := by omega
      have h4 : (0 : Int) ≤ (j : Int) := by omega
      clear h0 h1
      go_enter Tryd.func81, Tryd.ntmps81
      go_wp2_with fail
      refine HR.out.mono ?_; rintro e w' ⟨rfl, rfl⟩
      go_wp2
      go_ret
      exact ⟨ret_i HT.out.symm, rfl⟩
theorem mapT_putW (f : UInt8 → UInt8) (x : UInt32) : mapT f (putW x) = putW (mapW f x) := by
  unfold mapT putW mapW
  simp [wb0_mk, wb1_mk, wb2_mk, wb3_mk]
theorem SubWord_impl (n : Int) (w : World) :
    Calls Tryd.prog 80 #[.int .i64 n] w fun e w' => e = .returned (.int .i64 (subW (w32 n)).toNat) ∧ Below w.heap.size w w' := by
  have H1 := Lib.hid (PutWord_impl n w)
  have H2 := fun W => Lib.hid (SubText_impl (putW (w32 n)) W (by rw [putW_size]; omega))
  have H3 := fun W => Lib.hid (GetWord_at (mapT sbox (putW (w32 n))) 0 (by rw [mapT_size, putW_size]; omega) (by rw [mapT_size, putW_size]; omega) W)
  simp only [mapT_putW, getW_putW] at H2 H3
  go_enter Tryd.func80, Tryd.ntmps80
  go_wp2_with fail
  refine H1.out.mono ?_; rintro e w1 ⟨rfl, hb1⟩
  go_wp2_with fail
  refine (H2 _).out.mono ?_; rintro e w2 ⟨rfl, hb2⟩
  go_wp2_with fail
  refine (H3 _).out.mono ?_; rintro e w3 ⟨rfl, hb3⟩
  have hb := (hb1.trans (hb2.mono hb1.size)).trans (hb3.mono (Nat.le_trans hb1.size hb2.size))
  clear hb1 hb2 hb3
  go_wp2
  go_ret
  exact ⟨rfl, hb⟩
/-- Rcon as the document tells it. -/
def rconI (i : Int) : Int := if i < 1 then 0 else ((rcon i.toNat).toNat : Int)
theorem rconI_no (i : Int) (h : i < 1) : rconI i = 0 := if_pos h
theorem rconI_at (i : Int) (h : ¬ i < 1) : rconI i = ((Pow (b8 2) (i - 1)).toNat : Int) * 16777216 := by
  unfold rconI rcon
  rw [if_neg h, mkW_nat]
  have e : Pow (b8 2) (i - 1) = power 2 (i.toNat - 1) := by
    rw [show i - 1 = ((i.toNat - 1 : Nat) : Int) by omega, Pow_nat]
    rfl
  rw [e]
  simp
set_option maxRecDepth 100000 in
theorem Rcon_impl (i : Int) (h1 : -9223372036854775808 ≤ i) (h2 : i ≤ 9223372036854775807) (w : World) :
    Calls Tryd.prog 82 #[.int .i64 i] w fun e w' => e = .returned (.int .i64 (rconI i)) ∧ w = w' := by
  by_cases h0 : i < 1
  · have HT := Lib.hid (rconI_no i h0)
    go_enter Tryd.func82, Tryd.ntmps82
    go_wp2
    go_ret
    exact ⟨ret_i HT.out.symm, rfl⟩
  · have HT := Lib.hid (rconI_at i h0)
    have HP := Lib.hid (Power_impl 2 (i - 1) (by omega) (by omega) w)
    obtain ⟨y, hy⟩ : ∃ y, Pow (b8 2) (i - 1) = y := ⟨_, rfl⟩
    rw [hy] at HT HP
    have hyl := y.toNat_lt
    clear hy
    go_enter Tryd.func82, Tryd.ntmps82
    go_wp2_with fail
    refine HP.out.mono ?_; rintro e w' ⟨rfl, rfl⟩
    go_wp2
    go_ret
    exact ⟨ret_i HT.out.symm, rfl⟩
end Go.Proofs.YtbgjeipgmlcgaaaDoor
