/-
  What impl's filled answers: bytes 0 behind a text, to whole blocks.
-/
import Derived.Test.YtbcaldhcgoclgaaPadW
import Derived.Test.YtbcaldhcgoclgaaGf
import Derived.Test.YtbcaldhcgoclgaaGfS
set_option linter.unusedVariables false
set_option linter.unusedSimpArgs false
namespace Go.Proofs.Ytbcaldhcgoclgaa
open Go.RowKit

theorem pieces_impl (n : Nat) (hn : n ≤ 1073741824) (w : World) :
    Calls Try.prog 40 #[.int .i64 (n : Int), .int .i64 16] w fun e w' => e = .returned (.int .i64 (((n + 15) / 16 : Nat) : Int)) ∧ w = w' := by
  have h1 : (n : Int) ≤ 1073741824 := by omega
  have h0 : (0 : Int) ≤ (n : Int) := by omega
  have hd : ((n : Int) + 16 - 1).tdiv 16 = (((n + 15) / 16 : Nat) : Int) := by rw [Int.tdiv_eq_ediv_of_nonneg (by omega)]; omega
  have hq : (((n + 15) / 16 : Nat) : Int) ≤ 1073741824 := by omega
  have hq0 : (0 : Int) ≤ (((n + 15) / 16 : Nat) : Int) := by omega
  generalize (n + 15) / 16 = q at *
  go_enter Try.func40, Try.ntmps40
  go_wp2
  go_ret
  exact ⟨rfl, rfl⟩
theorem copy_none (g gb cb : Nat) (W : World) : (Builtin.copy_ #[22, 22] 3 #[.slice (some ⟨g, 0, none⟩) 0 0, .slice (some ⟨gb, 0, none⟩) 0 cb]).run Try.prog W = .ok (.int .i64 0) W := by
  simp [Builtin.copy_, go_sem, run_underlying Try.underlying22]
set_option maxRecDepth 100000 in
set_option maxHeartbeats 1600000 in
theorem withBytes_none (s : ByteArray) (hs : s.size ≤ 1073741824) (gb cb : Nat) (w : World) :
    Calls Try.prog 39 #[.string s, .slice (some ⟨gb, 0, none⟩) 0 cb] w fun e w' => e = .returned (.string s) ∧ Below w.heap.size w w' := by
  obtain ⟨i0, hi, hz0, hz1, hz2⟩ := info_parts Try.info5
  have hmk := run_make8 Try.underlying22 hi hz0 hz1 hz2 s.size s.size (by omega) (by omega) w
  obtain ⟨W1, hW1⟩ : ∃ W1, w.alloc (.cells (mk8 s.size) 5) = W1 := ⟨_, rfl⟩
  have hg1 : W1.heap[w.heap.size]? = some (.cells (mk8 s.size) 5 (0, 0)) := by rw [← hW1]; exact heap_alloc_new w _
  have hb1 : Below w.heap.size w W1 := by rw [← hW1]; exact (Below.refl _ _).alloc (Nat.le_refl _) _
  rw [hW1] at hmk
  have hcp := Lib.run_copy_row_string (P := Try.prog) W1 22 9 3 5 w.heap.size 0 s.size s.size s (mk8 s.size) 5 Try.underlying22 size1 hg1 (by omega) (by rw [mk8_size]; omega)
  have hrt := row_text s 0
  rw [Nat.add_zero] at hrt
  rw [hrt] at hcp
  have hg2 := setRow_heap W1 w.heap.size _ (cells8 (s.data.toList ++ List.replicate 0 0)).toArray _ _ hg1
  have hb2 := below_setRow hb1 (Nat.le_refl w.heap.size) (cells8 (s.data.toList ++ List.replicate 0 0)).toArray
  obtain ⟨W2, hW2⟩ : ∃ W2, W1.setRow w.heap.size (cells8 (s.data.toList ++ List.replicate 0 0)).toArray = W2 := ⟨_, rfl⟩
  rw [hW2] at hcp hg2 hb2
  have hN : (cells8 (s.data.toList ++ List.replicate 0 0)).length = s.size := by simp [cells8_length]
  have hown : W2.ownsRow w.heap.size 5 1 (.slice (some ⟨w.heap.size, 0, none⟩) s.size s.size) s.size (cells8 (s.data.toList ++ List.replicate 0 0)) :=
    ⟨by rw [hN]; omega, .inr ⟨w.heap.size, s.size, _, rfl, Nat.le_refl _, hg2, Nat.le_refl _, by unfold maxLen; omega, by simp [cells8_length], List.take_of_length_le (by show (cells8 _).length ≤ _; rw [hN]; omega)⟩⟩
  have hconv := run_string_own Try.underlying22 Try.underlying5 Try.underlying9 hown
  rw [moreT_list, moreT_0] at hconv
  have HB := Lib.hid hb2
  have hs2 : (s.size : Int) ≤ 1073741824 := by omega
  have hs0 : (0 : Int) ≤ (s.size : Int) := by omega
  clear hW1 hW2 hg1 hb1 hg2 hb2 hown hN hrt hs hi hz0 hz1 hz2
  go_enter Try.func39, Try.ntmps39
  have hcn := copy_none w.heap.size gb cb W2
  go_wp2
  go_ret
  exact ⟨rfl, HB.out⟩
set_option maxRecDepth 100000 in
set_option maxHeartbeats 1600000 in
theorem filled_impl (s : ByteArray) (hs : s.size ≤ 1073741824) (w : World) :
    Calls Try.prog 28 #[.string s] w fun e w' => e = .returned (.string (zpT s)) ∧ Below w.heap.size w w' := by
  obtain ⟨i0, hi, hz0, hz1, hz2⟩ := info_parts Try.info5
  have HP := fun W => Lib.hid (pieces_impl s.size hs W)
  have hlt := zpN_lt s
  have hsub : (16 : Int) * (((s.size + 15) / 16 : Nat) : Int) - (s.size : Int) = ((zpN s : Nat) : Int) := by unfold zpN; omega
  have hmk := fun W => run_make8 Try.underlying22 hi hz0 hz1 hz2 (zpN s) (zpN s) (Nat.le_refl _) (by omega) W
  have HW : ∀ (g : Nat) (W : World), W.heap[g]? = some (.cells (mk8 (zpN s)) 5 (0, 0)) → Hid (Calls Try.prog 39 #[.string s, .slice (some ⟨g, 0, none⟩) (zpN s) (zpN s)] W fun e w' => e = .returned (.string (zpT s)) ∧ Below W.heap.size W w') := fun g W hg => Lib.hid (by
    by_cases h0 : zpN s = 0
    · have hz : zpT s = s := by unfold zpT; rw [h0, txt_nil, app_nil]
      rw [hz, h0]
      exact withBytes_none s hs g 0 W
    · exact withBytes_impl s 0 (zpN s) hs (by omega) (by omega) g (zpN s) W (fun j hj => by
        rw [cell_of_row W g j _ _ _ hg]
        have : (mk8 (zpN s))[j]? = some (cell8 0) := by
          rw [← Array.getElem?_toList, mk8_list]
          unfold cells8
          rw [List.getElem?_map, List.getElem?_replicate, if_pos hj]; rfl
        exact this) (Array.getElem?_eq_some_iff.1 hg).1)
  have hq : (((s.size + 15) / 16 : Nat) : Int) ≤ 1073741824 := by omega
  have hq0 : (0 : Int) ≤ (((s.size + 15) / 16 : Nat) : Int) := by omega
  have hs2 : (s.size : Int) ≤ 1073741824 := by omega
  have hs0 : (0 : Int) ≤ (s.size : Int) := by omega
  have hn1 : ((zpN s : Nat) : Int) < 16 := by omega
  have hn0 : (0 : Int) ≤ ((zpN s : Nat) : Int) := by omega
  have hnat : zpN s < 16 := hlt
  generalize (s.size + 15) / 16 = q at *
  generalize zpT s = r at *
  generalize zpN s = n at *
  clear hlt hi hz0 hz1 hz2 hs
  go_enter Try.func28, Try.ntmps28
  go_wp2_with fail
  refine (HP _).out.mono ?_; rintro e w1 ⟨rfl, rfl⟩
  go_wp2_with fail
  have hb0 : Below w.heap.size w (w.alloc (.cells (mk8 n) 5)) := (Below.refl _ _).alloc (Nat.le_refl _) _
  refine (HW _ _ (heap_alloc_new w _)).out.mono ?_; rintro e w2 ⟨rfl, hb2⟩
  have HB := Lib.hid (hb0.trans (hb2.mono hb0.size))
  clear hb0 hb2
  go_wp2
  go_ret
  exact ⟨rfl, HB.out⟩
set_option maxRecDepth 100000 in
set_option maxHeartbeats 1600000 in
theorem l14Whole_spec (s : ByteArray) (hs : s.size ≤ 1073741824) (w : World) :
    Calls Try.prog 29 #[.string s] w fun e w' => e = .returned (.string (zpT s)) ∧ Below w.heap.size w w' := by
  have hlt := zpN_lt s
  have hmod := zpN_mod s
  have hr : (s.size : Int).tmod 16 = ((s.size % 16 : Nat) : Int) := by rw [Int.tmod_eq_emod_of_nonneg (by omega)]; omega
  have hr2 : ((16 : Int) - ((s.size % 16 : Nat) : Int)).tmod 16 = ((zpN s : Nat) : Int) := by rw [Int.tmod_eq_emod_of_nonneg (by omega), hmod]; omega
  have HZ := fun W => Lib.hid (l14Zero_spec (zpN s) (by omega) W)
  have hcat : s ++ txt (fun _ => 0) (zpN s) = zpT s := rfl
  have hz : (txt (fun _ => 0) (zpN s)).size = zpN s := txt_size _ _
  have htot : s.size + (txt (fun _ => 0) (zpN s)).size ≤ maxLen := by rw [hz]; unfold maxLen; omega
  have hs2 : (s.size : Int) ≤ 1073741824 := by omega
  have hs0 : (0 : Int) ≤ (s.size : Int) := by omega
  have hm1 : ((s.size % 16 : Nat) : Int) < 16 := by omega
  have hm0 : (0 : Int) ≤ ((s.size % 16 : Nat) : Int) := by omega
  have htot2 : ¬ 9223372036854775807 < s.size + zpN s := by omega
  clear hmod hlt hs
  generalize txt (fun _ => 0) (zpN s) = z at *
  generalize zpN s = n at *
  generalize s.size % 16 = r at *
  go_enter Try.func29, Try.ntmps29
  go_wp2_with fail
  refine (HZ _).out.mono ?_; rintro e w1 ⟨rfl, hb1⟩
  go_wp2
  go_ret
  exact ⟨rfl, hb1⟩
end Go.Proofs.Ytbcaldhcgoclgaa
