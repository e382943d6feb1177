/-
  Draws of keys and texts that are wrapped, and of wraps; bytes of the call's own, one of which is changed.
-/
import Derived.Test.YtbfmbdohebdbaaaGreatDoorBent
import Derived.Test.YtbfmbdohebdbaaaGreatDoorDraws
import Derived.Test.YtbfmbdohebdbaaaGreatDoorWrapW
import Derived.Test.YtbfmbdohebdbaaaGreatDoorSums
set_option linter.unusedVariables false
set_option linter.unusedSimpArgs false
namespace Go.Proofs.YtbfmbdohebdbaaaGreatDoor
open Go Go.RowKit
attribute [local go_sem ↓] Go.wp_at_zero Go.wp_at_succ

theorem wrT_le (k s : ByteArray) : (wrT k s).size ≤ 72 := by
  by_cases h : wrOk k s
  · rw [wrT_size k s h]; have := h.2.2.1; omega
  · rw [wrT_no k s h]; show 0 ≤ 72; omega
set_option maxRecDepth 100000 in
set_option maxHeartbeats 1600000 in
theorem draw_Wrap (w : World) (A : Option Addr) (len cap : Nat) (hcode : CodeAt w w.heap.size A len) (hl : len ≤ 1048576) :
    Calls Tryz.prog 9 #[.slice A len cap] w fun e w' => ∃ k s : ByteArray, e = .returned (.tuple #[.string k, .string s]) ∧ s.size ≤ 1000 ∧ Below w.heap.size w w' := by
  have H := Lib.hid hcode
  clear hcode
  go_enter Tryz.func9, Tryz.ntmps9
  go_wp2_with fail
  refine (new_any _ _ _ _ H.out hl).mono ?_; rintro e w1 ⟨g, rfl, hc1, hb1⟩
  go_wp2_with fail
  refine (odd_any _ _ _ _ _ _ hc1).mono ?_; rintro e w2 ⟨k, rfl, hk, hc2, hg2⟩
  clear hk
  go_wp2_with fail
  refine (pickint_any (fun u => 0 ≤ u ∧ u ≤ 72) 8 w2.heap.size 3 _ (by omega) (by omega) _ _ _ _ _ _ (hc2.alloc _) (heap_alloc_new w2 _) hc2.lt (lits [16, 24, 32, 64, 8, 17, 72, 0] (by simp))).mono ?_
  rintro e w3 ⟨u, rfl, ⟨hu0, hu1⟩, hc3, hg3⟩
  obtain ⟨n, rfl⟩ := Int.eq_ofNat_of_zero_le hu0
  go_wp2_with fail
  refine (bytes_any n (by omega) _ _ _ _ _ _ hc3).mono ?_; rintro e w4 ⟨s, rfl, hs, hc4, hg4⟩
  have HK : Hid (s.size ≤ 1000) := Lib.hid (by omega)
  have HB := Lib.hid (below_only hb1 (only_trans (only_trans (only_alloc hg2 _) hg3) hg4) hc1.1 hb1.size)
  clear hs hg2 hg3 hg4 hb1
  go_wp2
  go_ret2
  exact ⟨_, _, rfl, HK.out, HB.out⟩
set_option maxRecDepth 100000 in
set_option maxHeartbeats 1600000 in
theorem draw_Unwrap (w : World) (A : Option Addr) (len cap : Nat) (hcode : CodeAt w w.heap.size A len) (hl : len ≤ 1048576) :
    Calls Tryz.prog 13 #[.slice A len cap] w fun e w' => ∃ k s : ByteArray, e = .returned (.tuple #[.string k, .string s]) ∧ s.size ≤ 1000 ∧ Below w.heap.size w w' := by
  have H := Lib.hid hcode
  clear hcode
  go_enter Tryz.func13, Tryz.ntmps13
  go_wp2_with fail
  refine (new_any _ _ _ _ H.out hl).mono ?_; rintro e w1 ⟨g, rfl, hc1, hb1⟩
  go_wp2_with fail
  refine (odd_any _ _ _ _ _ _ hc1).mono ?_; rintro e w2 ⟨k, rfl, hk, hc2, hg2⟩
  clear hk
  go_wp2_with fail
  refine (pickint_any (fun u => 0 ≤ u ∧ u ≤ 72) 3 w2.heap.size 3 _ (by omega) (by omega) _ _ _ _ _ _ (hc2.alloc _) (heap_alloc_new w2 _) hc2.lt (lits [16, 24, 32] (by simp))).mono ?_
  rintro e w3 ⟨u, rfl, ⟨hu0, hu1⟩, hc3, hg3⟩
  obtain ⟨n, rfl⟩ := Int.eq_ofNat_of_zero_le hu0
  go_wp2_with fail
  refine (bytes_any n (by omega) _ _ _ _ _ _ hc3).mono ?_; rintro e w4 ⟨s, rfl, hs, hc4, hg4⟩
  have HL := Lib.hid hc1.1
  have hb4 := below_only hb1 (only_trans (only_trans (only_alloc hg2 _) hg3) hg4) hc1.1 hb1.size
  have HW := Lib.hid (Wrap_spec k s w4)
  have hts := wrT_le k s
  clear hs hg2 hg3 hg4 hb1 hc1 hc2 hc3
  generalize wrT k s = t at *
  generalize wrC k s = co at *
  go_wp2_with fail
  refine HW.out.mono ?_; rintro e w5 ⟨rfl, hb5⟩
  have hc5 : CurIn w5 _ _ _ _ _ := hc4.grown ⟨hb5.os, hb5.tape, hb5.output, hb5.size, fun k hk _ => hb5.block k hk⟩ (row := none) (fun _ e => by cases e)
  have hb6 := hb4.trans (hb5.mono hb4.size)
  clear hb5 hb4 hc4 HW
  go_wp2_with fail
  refine (once_any _ (by omega) (by omega) _ _ _ _ _ _ hc5).mono ?_; rintro e w6 ⟨x, rfl, hc6, hg6⟩
  have hb7 := below_only hb6 hg6 HL.out hb6.size
  clear hg6 hb6 hc5
  cases x with
  | true =>
    go_wp2_with fail
    refine (pickint_any (fun u => 0 ≤ u ∧ u ≤ 100) 5 w6.heap.size 3 _ (by omega) (by omega) _ _ _ _ _ _ (hc6.alloc _) (heap_alloc_new w6 _) hc6.lt (lits [0, 16, 24, 72, 80] (by simp))).mono ?_
    rintro e w7 ⟨u, rfl, ⟨hv0, hv1⟩, hc7, hg7⟩
    obtain ⟨m, rfl⟩ := Int.eq_ofNat_of_zero_le hv0
    go_wp2_with fail
    refine (bytes_any m (by omega) _ _ _ _ _ _ hc7).mono ?_; rintro e w8 ⟨r, rfl, hr, hc8, hg8⟩
    have hb8 := below_only (hb7.alloc hb7.size _) (only_trans hg7 hg8) HL.out (by simp; have := hb7.size; omega)
    clear hg7 hg8 hb7 hc6 hc7
    go_wp2_with fail
    refine (bent_any r (by omega) _ _ _ _ _ _ hc8).mono ?_; rintro e w9 ⟨q, rfl, hq, hc9, hg9⟩
    have HK : Hid (q.size ≤ 1000) := Lib.hid (by omega)
    have HB := Lib.hid (below_only hb8 hg9 HL.out hb8.size)
    clear hq hr hg9 hb8
    go_wp2
    go_ret2
    exact ⟨_, _, rfl, HK.out, HB.out⟩
  | false =>
    go_wp2_with fail
    refine (bent_any t (by omega) _ _ _ _ _ _ hc6).mono ?_; rintro e w9 ⟨q, rfl, hq, hc9, hg9⟩
    have HK : Hid (q.size ≤ 1000) := Lib.hid (by omega)
    have HB := Lib.hid (below_only hb7 hg9 HL.out hb7.size)
    clear hq hg9 hb7 hts
    go_wp2
    go_ret2
    exact ⟨_, _, rfl, HK.out, HB.out⟩
theorem bytes_int (from_ n : Nat) (x : Int) (hx : x = (n : Int)) (hf : from_ + n ≤ 1000) (w : World) (A : Option Addr) (len cap : Nat) (h : CodeAt w w.heap.size A len) (hl : len ≤ 1048576) :
    Calls Tryz.prog 16 #[.slice A len cap, .int .i64 from_, .int .i64 x] w fun e w' => ∃ s : ByteArray, e = .returned (.string s) ∧ s.size = n ∧ Below w.heap.size w w' := by
  subst hx
  exact bytes_law from_ n hf w A len cap h hl
theorem toList_dt (a : ByteArray) : a.toList = a.data.toList := ByteArray.toList_eq a
theorem tx_ne {a b : ByteArray} (h : a ≠ b) : (a.toList == b.toList) = false := by
  rw [beq_eq_false_iff_ne]
  intro e
  apply h
  rw [toList_dt, toList_dt] at e
  exact ByteArray.ext (Array.ext' e)
theorem tx_full (a : ByteArray) (h : 0 < a.size) : a.toList.isEmpty = false := by
  rw [toList_dt, List.isEmpty_eq_false_iff]
  intro e
  have h2 := congrArg List.length e
  have e1 : a.data.toList.length = a.size := rfl
  rw [e1, List.length_nil] at h2
  omega
end Go.Proofs.YtbfmbdohebdbaaaGreatDoor
