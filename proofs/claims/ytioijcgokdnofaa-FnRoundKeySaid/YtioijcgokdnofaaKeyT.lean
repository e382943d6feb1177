/-
  What spec.RoundKey answers.
-/
import Derived.Test.YtioijcgokdnofaaKeyS
import Derived.WalkKit
import Derived.LoopTactic
import Derived.OwnWalk
import Derived.WalkLawsBesides
import Derived.WalkSpells
import Derived.Outline
import Derived.Below
import Derived.Laws.OwnMore
import Derived.Laws.IdiomStrings
import Derived.Deep.QuietTactic
import Derived.BigQuiet
import Derived.IntWalk
set_option linter.unusedVariables false
namespace Go.Proofs.Ytioijcgokdnofaa
open Go.RowKit

theorem rowW_size (f : Nat → UInt32) (k : Nat) : (⟨(rowW f k).toArray⟩ : ByteArray).size = 4 * k := by
  show (rowW f k).toArray.size = 4 * k
  induction k with
  | zero => rfl
  | succ k ih => rw [rowW_succ]; simp at ih ⊢; omega
theorem rowW_put (f : Nat → UInt32) (k : Nat) : (⟨(rowW f k).toArray⟩ : ByteArray) ++ putW (f k) = ⟨(rowW f (k + 1)).toArray⟩ := by
  rw [rowW_succ]
  apply ByteArray.ext
  simp [putW]
set_option maxRecDepth 100000 in
set_option maxHeartbeats 1600000 in
theorem RoundKey_at_spec (s : ByteArray) (n : Nat) (h : kOf s n) (i : Nat) (hi : i ≤ n + 6) (w : World) :
    Calls Try.prog 40 #[.string s, .int .i64 i] w fun e w' => e = .returned (.string (blkW (fun j => ew s n (4 * i + j)))) ∧ Below w.heap.size w w' := by
  have H1 := Lib.hid (Expand_yes_spec s n h w)
  have H2 := fun W => Lib.hid (rounds_yes_spec s n h W)
  have H3 := fun W => Lib.hid (in_yes (i : Int) 0 ((n : Int) + 6) (by omega) W)
  have hle := h.le
  obtain ⟨L, hL⟩ : ∃ L, kL n = L := ⟨_, rfl⟩
  have hLn : L = 4 * (n + 7) := by rw [← hL]; rfl
  have hi4 : (i : Int) ≤ 14 := by omega
  have hi5 : 4 * (i : Int) + 4 ≤ (L : Int) := by omega
  have hL60 : (L : Int) ≤ 60 := by omega
  have hL0 : ((L : Int) == 0) = false := beq_eq_false_iff_ne.2 (by omega)
  have HLN := Lib.hid hLn
  rw [hL] at H1
  clear hL hLn h
  go_enter Try.func40, Try.ntmps40
  go_wp2_with fail
  refine H1.out.mono ?_; rintro e w1 ⟨v, rfl, hown, hb1⟩
  obtain ⟨g, cap, rfl, hgB, hg⟩ := hown.form (by have := HLN.out; omega)
  obtain ⟨f, hf⟩ : ∃ f : Nat → UInt32, f = fun j => ew s n (4 * i + j) := ⟨_, rfl⟩
  have hcells : ∀ j, j < 4 → w1.cell? ⟨g, 4 * i + j, none⟩ = some (.int .i64 ((f j).toNat : Int)) := fun j hj => by
    rw [hf]
    exact (hown.cellAt (4 * i + j) (by have := HLN.out; omega)).trans (cells64_at _ _ _ (by have := HLN.out; omega))
  have HF := Lib.hid hf
  have HC := Lib.hid hcells
  have HB1 := Lib.hid hb1
  clear hcells hf hown hb1
  go_wp2_with fail
  refine (H2 _).out.mono ?_; rintro e w' ⟨rfl, rfl⟩
  go_wp2_with fail
  refine (H3 _).out.mono ?_; rintro e w' ⟨rfl, rfl⟩
  clear H2 H3
  go_wp2
  go_loopw [6, 7] (fun o v wr => ∃ k : Nat, k ≤ 4 ∧ v = .int .i64 k ∧ o = .string ⟨(rowW f k).toArray⟩ ∧ Below w1.heap.size w1 wr) (fun _ v _ => 4 - (intOf v).toNat)
  case atStart => exact ⟨0, by omega, rfl, rfl, Below.refl _ _⟩
  case round =>
    obtain ⟨k, hk, rfl, rfl, hbel⟩ := hrel
    by_cases hlt : k < 4
    · have hcell : wr.cell? ⟨g, 4 * i + k, none⟩ = some (.int .i64 ((f k).toNat : Int)) := (hbel.cell (p := ⟨g, 4 * i + k, none⟩) hg).trans (HC.out k hlt)
      have HP := fun W => Lib.hid (PutWord_spec ((f k).toNat : Int) W)
      simp only [w32_of] at HP
      have HS := Lib.hid (rowW_put f k)
      have hsz := rowW_size f k
      have hcat := fun W => run_string_add_sum (P := Try.prog) (w := W) (⟨(rowW f k).toArray⟩ : ByteArray) (putW (f k)) (by rw [hsz, putW_size]; omega)
      have HB := Lib.hid hbel
      have hxl := w32_lt (f k)
      have hx2 : ((f k).toNat : Int) < 4294967296 := by omega
      have hk0 : (0 : Int) ≤ (k : Int) := by omega
      have hk1 : (k : Int) < 4 := by omega
      generalize (⟨(rowW f k).toArray⟩ : ByteArray) = A at *
      generalize putW (f k) = B at *
      generalize f k = x at *
      clear hbel hxl hsz
      go_wp2_with fail
      refine (HP _).out.mono ?_; rintro e w2 ⟨rfl, hb2⟩
      have hbel2 := HB.out.trans (hb2.mono HB.out.size)
      clear hb2 hcell HP
      go_wp2
      go_roundw
      case rel => exact ⟨k + 1, by omega, by go_num, by rw [HS.out], hbel2⟩
      case measure => simp [intOf]; omega
    · obtain rfl : k = 4 := by omega
      have hb := HB1.out.trans (hbel.mono HB1.out.size)
      clear hbel
      go_wp2
      go_ret
      exact ⟨by rw [← HF.out]; rfl, hb⟩
set_option maxRecDepth 100000 in
theorem RoundKey_no_spec (s : ByteArray) (i : Int) (h : ¬ (kOk s ∧ 0 ≤ i ∧ i ≤ kRi s)) (w : World) :
    Calls Try.prog 40 #[.string s, .int .i64 i] w fun e w' => e = .returned (.string ⟨#[]⟩) ∧ Below w.heap.size w w' := by
  have H1 := Lib.hid (Expand_spec s w)
  have H2 := fun W => Lib.hid (Rounds_spec s W)
  by_cases hk : 0 ≤ i ∧ i ≤ kRi s
  · have H3 := fun W => Lib.hid (in_yes i 0 (kRi s) hk W)
    have hno : ¬ kOk s := fun h2 => h ⟨h2, hk⟩
    rw [exInts_no s hno] at H1
    generalize kRi s = r at *
    clear h hk hno
    go_enter Try.func40, Try.ntmps40
    go_wp2_with fail
    refine H1.out.mono ?_; rintro e w1 ⟨v, rfl, hown, hb1⟩
    obtain ⟨A', c', rfl, hnc, hcm⟩ := own_slice64 hown
    have HB1 := Lib.hid hb1
    clear hown hb1
    go_wp2_with fail
    refine (H2 _).out.mono ?_; rintro e w' ⟨rfl, rfl⟩
    go_wp2_with fail
    refine (H3 _).out.mono ?_; rintro e w' ⟨rfl, rfl⟩
    go_wp2
    go_ret
    exact ⟨rfl, HB1.out⟩
  · have H3 := fun W => Lib.hid (in_no i 0 (kRi s) hk W)
    generalize kRi s = r at *
    generalize exInts s = l at *
    clear h hk
    go_enter Try.func40, Try.ntmps40
    go_wp2_with fail
    refine H1.out.mono ?_; rintro e w1 ⟨v, rfl, hown, hb1⟩
    obtain ⟨A', c', rfl, hnc, hcm⟩ := own_slice64 hown
    have HB1 := Lib.hid hb1
    clear hown hb1
    go_wp2_with fail
    refine (H2 _).out.mono ?_; rintro e w' ⟨rfl, rfl⟩
    go_wp2_with fail
    refine (H3 _).out.mono ?_; rintro e w' ⟨rfl, rfl⟩
    go_wp2
    go_ret
    exact ⟨rfl, HB1.out⟩
theorem RoundKey_spec (s : ByteArray) (i : Int) (w : World) :
    Calls Try.prog 40 #[.string s, .int .i64 i] w fun e w' => e = .returned (.string (rkT s i)) ∧ Below w.heap.size w w' := by
  by_cases h : kOk s ∧ 0 ≤ i ∧ i ≤ kRi s
  · obtain ⟨n, hn⟩ := h.1.of
    obtain ⟨j, rfl⟩ := Int.eq_ofNat_of_zero_le h.2.1
    have h2 := h.2.2
    rw [kRi_of s n hn] at h2
    rw [rkT_of s n hn j (by omega)]
    exact RoundKey_at_spec s n hn j (by omega) w
  · rw [rkT_no s i h]
    exact RoundKey_no_spec s i h w
end Go.Proofs.Ytioijcgokdnofaa
