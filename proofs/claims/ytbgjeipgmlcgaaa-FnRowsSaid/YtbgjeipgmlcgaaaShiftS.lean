/-
  What spec's ShiftRows and UnshiftRows answer.
-/
import Derived.Test.YtbgjeipgmlcgaaaShiftI
set_option linter.unusedVariables false
set_option linter.unusedSimpArgs false
namespace Go.Proofs.Ytbgjeipgmlcgaaa
open Go.RowKit

theorem idx_byte (s : ByteArray) (i : Int) (j : Nat) (h : i = (j : Int)) (hj : j < s.size) (w : World) : (Instr.index 9 (.string s) (.int .i64 i)).run Try.prog w = .ok (.int .u8 ((byteOf s j).toNat : Int)) w := by
  have hi : 0 ≤ i ∧ i < (s.size : Int) := by omega
  subst h
  rw [run_index_string w 9 s .i64 j Try.underlying9, dif_pos hi, ← byteOf_at s j hj]
  rfl
theorem mk8_sixteen : (mk8 16).toList = cells8 (List.replicate 16 0) := mk8_list 16
theorem sh_spec (k d q r m : Nat) (hk : k < 16) (hd : d ≤ 3) (hq : k / 4 = q) (hr : k % 4 = r) (hm : (q + d * r) % 4 = m) : m * 4 + r = shAt d k := by
  unfold shAt
  have hd4 : d = 0 ∨ d = 1 ∨ d = 2 ∨ d = 3 := by omega
  rcases hd4 with rfl | rfl | rfl | rfl <;> omega
set_option maxRecDepth 100000 in
set_option maxHeartbeats 1600000 in
theorem Rows_yes (d : Nat) (hd : d ≤ 3) (s : ByteArray) (hs : s.size = 16) (w : World) :
    Calls Try.prog 18 #[.string s, .int .i64 d] w fun e w' => e = .returned (.string (shS d s)) ∧ Below w.heap.size w w' := by
  obtain ⟨i0, hi, hz0, hz1, hz2⟩ := info_parts Try.info5
  have hmk : ∀ W : World, (Instr.makeSlice 22 (.int .i64 16) (.int .i64 16)).run Try.prog W = .ok (.slice (some ⟨W.heap.size, 0, none⟩) 16 16) (W.alloc (.cells (mk8 16) 5)) := fun W => run_make8 Try.underlying22 hi hz0 hz1 hz2 16 16 (by omega) (by omega) W
  have hs2 : (s.size : Int) = 16 := by omega
  have h0 := World.ownsRow_lit w (e := 5) (size := 1) (mk8 16) 16 (Nat.le_refl w.heap.size) (by unfold maxLen; omega) (by rw [mk8_size])
  rw [mk8_sixteen, ← upTo_const (0 : UInt8) 16, ← rowTo_zero (fun i => byteOf s (shAt d i))] at h0
  have HO := Lib.hid h0
  clear h0
  go_enter Try.func18, Try.ntmps18
  go_wp2
  clear hmk
  go_loopw [6] (fun i wr => ∃ k : Nat, k ≤ 16 ∧ i = .int .i64 k ∧ wr.ownsRow w.heap.size 5 1 (.slice (some ⟨w.heap.size, 0, none⟩) 16 16) 16 (cells8 (rowTo (fun i => byteOf s (shAt d i)) (fun _ => 0) 16 k)) ∧ Below w.heap.size w wr) (fun i _ => 16 - (intOf i).toNat)
  case atStart => exact ⟨0, by omega, rfl, HO.out, (Below.refl _ _).alloc (Nat.le_refl _) _⟩
  case round =>
    obtain ⟨k, hk, rfl, hown, hbel⟩ := hrel
    by_cases hlt : k < 16
    · obtain ⟨q, hq⟩ : ∃ q, k / 4 = q := ⟨_, rfl⟩
      obtain ⟨r, hr⟩ : ∃ r, k % 4 = r := ⟨_, rfl⟩
      obtain ⟨m, hm⟩ : ∃ m, (q + d * r) % 4 = m := ⟨_, rfl⟩
      have hp := sh_spec k d q r m hlt hd hq hr hm
      have e1 : (k : Int).tdiv 4 = (q : Int) := by rw [Int.tdiv_eq_ediv_of_nonneg (by omega)]; omega
      have e2 : (k : Int).tmod 4 = (r : Int) := by rw [Int.tmod_eq_emod_of_nonneg (by omega)]; omega
      have hdr : (d : Int) * (r : Int) = ((d * r : Nat) : Int) := by rw [Int.natCast_mul]
      have hdr2 : d * r ≤ 3 * 3 := Nat.mul_le_mul hd (by omega)
      have e3 : ((q : Int) + (d : Int) * (r : Int)).tmod 4 = (m : Int) := by rw [hdr, Int.tmod_eq_emod_of_nonneg (by omega)]; omega
      have q0 : IntKind.i64.wrap (q : Int) = (q : Int) := IntWalk.i64_in _ (by omega)
      have q1 : IntKind.i64.wrap ((d : Int) * (r : Int)) = (d : Int) * (r : Int) := IntWalk.i64_in _ (by rw [hdr]; omega)
      have q2 : IntKind.i64.wrap ((q : Int) + (d : Int) * (r : Int)) = (q : Int) + (d : Int) * (r : Int) := IntWalk.i64_in _ (by rw [hdr]; omega)
      have q3 : IntKind.i64.wrap ((m : Int) * 4) = (m : Int) * 4 := IntWalk.i64_in _ (by omega)
      have q4 : IntKind.i64.wrap ((m : Int) * 4 + (r : Int)) = (m : Int) * 4 + (r : Int) := IntWalk.i64_in _ (by omega)
      have hix := fun W => idx_byte s ((m : Int) * 4 + (r : Int)) (shAt d k) (by omega) (by have := shAt_lt d k; omega) W
      have hk1 : (k : Int) < 16 := by omega
      have hk0 : (0 : Int) ≤ (k : Int) := by omega
      obtain ⟨u, hcell⟩ : ∃ u, wr.cell? ⟨w.heap.size, k, none⟩ = some u := ⟨_, (hown.cellAt k (by omega)).trans (List.getElem?_eq_getElem (by rw [cells8_length, rowTo_length]; exact hlt))⟩
      have hfr := hown.frozenAt k
      have hown2 := (hown.stored k (cell8 (byteOf s (shAt d k)))).1
      have hcs : (cells8 (rowTo (fun i => byteOf s (shAt d i)) (fun _ => 0) 16 k)).set k (cell8 (byteOf s (shAt d k))) = cells8 (rowTo (fun i => byteOf s (shAt d i)) (fun _ => 0) 16 (k + 1)) := by rw [← rowTo_set]; simp [cells8, List.map_set]
      rw [hcs] at hown2
      have HB := Lib.hid (hbel.setCell (p := ⟨w.heap.size, k, none⟩) (Nat.le_refl _) (cell8 (byteOf s (shAt d k))))
      unfold cell8 at hown2 HB
      have HO2 := Lib.hid hown2
      clear hown hown2 hbel hcs hp HO hdr hdr2 hq hr hm
      generalize byteOf s (shAt d k) = c at *
      go_wp2
      go_roundw
      case rel => exact ⟨k + 1, by omega, by go_num, HO2.out, HB.out⟩
      case measure => simp [intOf]; omega
    · obtain rfl : k = 16 := by omega
      rw [rowTo_all _ _ _ _ (Nat.le_refl _)] at hown
      have hconv := run_string_own Try.underlying22 Try.underlying5 Try.underlying9 hown
      have HB := Lib.hid hbel
      clear hown hbel HO
      go_wp2
      go_ret
      exact ⟨rfl, HB.out⟩
set_option maxRecDepth 100000 in
theorem Rows_no (d : Int) (s : ByteArray) (hs : ¬ s.size = 16) (w : World) :
    Calls Try.prog 18 #[.string s, .int .i64 d] w fun e w' => e = .returned (.string ⟨#[]⟩) ∧ Below w.heap.size w w' := by
  have hs2 : ¬ (s.size : Int) = 16 := by omega
  go_enter Try.func18, Try.ntmps18
  go_wp2
  go_ret
  exact ⟨rfl, Below.refl _ _⟩
theorem Rows_any (d : Nat) (hd : d ≤ 3) (s : ByteArray) (w : World) :
    Calls Try.prog 18 #[.string s, .int .i64 d] w fun e w' => e = .returned (.string (shT d s)) ∧ Below w.heap.size w w' := by
  by_cases h : s.size = 16
  · rw [shT_yes d s h]; exact Rows_yes d hd s h w
  · rw [shT_no d s h]; exact Rows_no d s h w
set_option maxRecDepth 100000 in
theorem ShiftRows_spec (s : ByteArray) (w : World) :
    Calls Try.prog 11 #[.string s] w fun e w' => e = .returned (.string (shT 1 s)) ∧ Below w.heap.size w w' := by
  have H : Calls Try.prog 18 #[.string s, .int .i64 1] w fun e w' => e = .returned (.string (shT 1 s)) ∧ Below w.heap.size w w' := Rows_any 1 (by omega) s w
  generalize shT 1 s = r at *
  go_enter Try.func11, Try.ntmps11
  go_wp2_with fail
  refine H.mono ?_; rintro e w1 ⟨rfl, hb1⟩
  go_wp2
  go_ret
  exact ⟨rfl, hb1⟩
set_option maxRecDepth 100000 in
theorem UnshiftRows_spec (s : ByteArray) (w : World) :
    Calls Try.prog 12 #[.string s] w fun e w' => e = .returned (.string (shT 3 s)) ∧ Below w.heap.size w w' := by
  have H : Calls Try.prog 18 #[.string s, .int .i64 3] w fun e w' => e = .returned (.string (shT 3 s)) ∧ Below w.heap.size w w' := Rows_any 3 (by omega) s w
  generalize shT 3 s = r at *
  go_enter Try.func12, Try.ntmps12
  go_wp2_with fail
  refine H.mono ?_; rintro e w1 ⟨rfl, hb1⟩
  go_wp2
  go_ret
  exact ⟨rfl, hb1⟩
end Go.Proofs.Ytbgjeipgmlcgaaa
