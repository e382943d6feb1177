/-
  The walk of laws.FnTurn: it returns true at every code.
-/
import Derived.Test.YtgfcbbijjdjijaaWordDraw
import Derived.Test.YtgfcbbijjdjijaaWordJ
import Derived.Test.YtgfcbbijjdjijaaWordMore
import Derived.Test.YtgfcbbijjdjijaaW23
import Derived.WalkKit
import Derived.LoopTactic
import Derived.OwnWalk
import Derived.WalkLawsBesides
import Derived.WalkSpells
import Derived.Outline
import Derived.Below
import Derived.Deep.RegionHeld3
import Derived.Deep.DrawnRows
import Derived.Deep.AppendLies
import Derived.Deep.QuietTactic
import Derived.BigQuiet
import Derived.IntWalk
set_option linter.unusedVariables false
set_option linter.unusedSimpArgs false
namespace Go.Proofs.Ytgfcbbijjdjijaa
open Go.RowKit

theorem turn_no (n k : Int) (h : ¬ (0 ≤ k ∧ k ≤ 31)) (w : World) :
    Calls Try.prog 20 #[.int .i64 n, .int .i64 k] w fun e w' => e = .returned (.int .i64 (-1)) ∧ w = w' := by
  have := Turn_impl n k w
  rwa [turnI_no n k h] at this
theorem turn_no_sp (n k : Int) (h : ¬ (0 ≤ k ∧ k ≤ 31)) (w : World) :
    Calls Try.prog 21 #[.int .i64 n, .int .i64 k] w fun e w' => e = .returned (.int .i64 (-1)) ∧ w = w' := by
  have := Turn_spec n k w
  rwa [turnI_no n k h] at this
theorem turn_sp (n k : Int) (j : Nat) (hk : k = (j : Int)) (hj : j < 32) (v : UInt32) (h : rot (w32 n) j = v) (w : World) :
    Calls Try.prog 21 #[.int .i64 n, .int .i64 k] w fun e w' => e = .returned (.int .i64 v.toNat) ∧ w = w' := by
  subst hk h
  have := Turn_spec n (j : Int) w
  rwa [turnI_at n j hj] at this
theorem putw_sp (n : Int) (v : ByteArray) (h : putW (w32 n) = v) (w : World) :
    Calls Try.prog 17 #[.int .i64 n] w fun e w' => e = .returned (.string v) ∧ Below w.heap.size w w' := by
  subst h; exact PutWord_spec n w
theorem getw_is (s : ByteArray) (v : UInt32) (h : getW s 0 = v) (hs : s.size = 4) (w : World) :
    Calls Try.prog 16 #[.string s, .int .i64 0] w fun e w' => e = .returned (.int .i64 v.toNat) ∧ Below w.heap.size w w' := by
  subst h; exact GetWord_at s 0 (by omega) (by omega) w
theorem cut_from1 (t : ByteArray) (h : t.size = 4) (W : World) : (Instr.slice 9 (.string t) (some (.int .i64 1)) none none).run Try.prog W = .ok (.string (t.extract 1 4)) W := by
  rw [run_slice_string_from_if W 9 t .i64 1 Try.underlying9, if_pos (by omega), h]
  rfl
theorem cut_to1 (t : ByteArray) (h : t.size = 4) (W : World) : (Instr.slice 9 (.string t) none (some (.int .i64 1)) none).run Try.prog W = .ok (.string (t.extract 0 1)) W := by
  rw [run_slice_string_to_if W 9 t .i64 1 Try.underlying9, if_pos (by omega)]
  rfl
set_option maxRecDepth 100000 in
set_option maxHeartbeats 1600000 in
theorem walk_FnTurn (a0 : Option Addr) (len0 cap0 : Nat) (z0 : List Int) (w : World) (w0 : IsRow .u8 w a0 len0 cap0 z0) :
    Calls Try.prog 4 #[.slice a0 len0 cap0] w fun e w' => e = .returned (.bool true) ∧ Below w.heap.size w w' := by
  obtain ⟨hcode, hlen⟩ := w0.code
  clear w0
  by_cases hl : len0 ≤ 1048576
  · have H := Lib.hid hcode
    clear hcode
    go_enter Try.func4, Try.ntmps4
    go_wp2_with fail
    refine (big_small _ _ _ _ hl).mono ?_; rintro e w' ⟨rfl, rfl⟩
    go_wp2_with fail
    refine (draw_Turn _ _ _ _ H.out hl).mono ?_; rintro e w1 ⟨n, k, rfl, hn, hk, hbb⟩
    clear hn hlen
    by_cases hv : 0 ≤ k ∧ k ≤ 31
    · obtain ⟨j, rfl⟩ := Int.eq_ofNat_of_zero_le hv.1
      have hj : j < 32 := by omega
      have hk0 : (0 : Int) ≤ (j : Int) := hv.1
      have hk1 : (j : Int) ≤ 31 := hv.2
      obtain ⟨X, hX⟩ : ∃ X, w32 n = X := ⟨_, rfl⟩
      obtain ⟨R, hR⟩ : ∃ R, rot X j = R := ⟨_, rfl⟩
      obtain ⟨E, hE⟩ : ∃ E, rot X 8 = E := ⟨_, rfl⟩
      obtain ⟨F, hF⟩ : ∃ F, rot E j = F := ⟨_, rfl⟩
      obtain ⟨t, ht⟩ : ∃ t, putW X = t := ⟨_, rfl⟩
      obtain ⟨u, hu⟩ : ∃ u, t.extract 1 4 ++ t.extract 0 1 = u := ⟨_, rfl⟩
      have h1 : Hid (rot (w32 n) j = R) := Lib.hid (by rw [hX, hR])
      have h2 : Hid (rot (w32 (R.toNat : Int)) ((32 - j) % 32) = X) := Lib.hid (by rw [w32_of, ← hR, rot_back X j hj])
      have h3 : Hid (rot (w32 n) 8 = E) := Lib.hid (by rw [hX, hE])
      have h4 : Hid (rot (w32 (E.toNat : Int)) j = F) := Lib.hid (by rw [w32_of, hF])
      have h5 : Hid (rot (w32 n) ((8 + j) % 32) = F) := Lib.hid (by rw [hX, ← hF, ← hE, rot_rot X 8 j (by omega) hj])
      have h6 : Hid (putW (w32 n) = t) := Lib.hid (by rw [hX, ht])
      have h7 : Hid (getW u 0 = E) := Lib.hid (by rw [← hu, ← ht, turned_8, hE, getW_putW])
      have hsz : t.size = 4 := by rw [← ht]; rfl
      have husz : u.size = 4 := by rw [← hu, ← ht, turned_8]; rfl
      have hs0 : (0 : Int) ≤ 32 - (j : Int) := by omega
      have hs1 : (0 : Int) ≤ 8 + (j : Int) := by omega
      have q1 : IntKind.i64.wrap (32 - (j : Int)) = 32 - (j : Int) := IntWalk.i64_in _ (by omega)
      have q2 : IntKind.i64.wrap (8 + (j : Int)) = 8 + (j : Int) := IntWalk.i64_in _ (by omega)
      obtain ⟨p, hp⟩ : ∃ p, (32 - j) % 32 = p := ⟨_, rfl⟩
      obtain ⟨q, hq⟩ : ∃ q, (8 + j) % 32 = q := ⟨_, rfl⟩
      have r1 : (32 - (j : Int)).tmod 32 = (p : Int) := by rw [Int.tmod_eq_emod_of_nonneg hs0]; omega
      have r2 : (8 + (j : Int)).tmod 32 = (q : Int) := by rw [Int.tmod_eq_emod_of_nonneg hs1]; omega
      rw [hp] at h2
      rw [hq] at h5
      have c2 := fun W => Lib.hid (turn_is (R.toNat : Int) (p : Int) p rfl (by omega) X h2.out W)
      have c3 := fun W => Lib.hid (turn_is n 8 8 rfl (by omega) E h3.out W)
      have c4 := fun W => Lib.hid (turn_is (E.toNat : Int) (j : Int) j rfl hj F h4.out W)
      have c5 := fun W => Lib.hid (turn_is n (q : Int) q rfl (by omega) F h5.out W)
      have c6 := fun W => Lib.hid (putw_sp n t h6.out W)
      have c7 := fun W => Lib.hid (getw_is u E h7.out husz W)
      have hf1 := fun W => cut_from1 t hsz W
      have hf2 := fun W => cut_to1 t hsz W
      have hcat := fun W => run_string_add_sum (P := Try.prog) (w := W) (t.extract 1 4) (t.extract 0 1) (by simp; omega)
      rw [hu] at hcat
      have hm : bits .and .i64 n 4294967295 = (X.toNat : Int) := by rw [and32, hX]
      clear hv hk hX hR hE hF ht hp hq h2 h3 h4 h5 h6 h7
      go_wp2_with fail
      refine (turn_is _ _ j rfl hj R h1.out _).mono ?_; rintro e w' ⟨rfl, rfl⟩
      go_wp2_with fail
      refine (turn_sp _ _ j rfl hj R h1.out _).mono ?_; rintro e w' ⟨rfl, rfl⟩
      clear h1 hs0 hs1
      go_wp2_with fail
      go_region_held3 (fun _ => True) (trivial) (first
        | (go_at_call 17; refine (c6 _).out.mono ?_; rintro e y3 ⟨rfl, d3⟩)
        | (go_at_call 16; refine (c7 _).out.mono ?_; rintro e y5 ⟨rfl, d5⟩)
        | (go_at_call 20; first
          | (with_reducible refine (c2 _).out.mono ?_; rintro e w' ⟨rfl, rfl⟩)
          | (with_reducible refine (c3 _).out.mono ?_; rintro e w' ⟨rfl, rfl⟩)
          | (with_reducible refine (c4 _).out.mono ?_; rintro e w' ⟨rfl, rfl⟩)
          | (with_reducible refine (c5 _).out.mono ?_; rintro e w' ⟨rfl, rfl⟩)))
      rename_i yA dA hA
      have b1 := (hbb.drew).trans (dA.mono hbb.size)
      have b2 := b1.trans (d3.mono b1.size)
      have b3 := b2.trans (d5.mono b2.size)
      clear b1 b2 q1 q2 r1 r2
      go_wp2
      go_ret
      exact ⟨rfl, b3⟩
    · clear hk
      go_wp2_with fail
      refine (turn_no _ _ hv _).mono ?_; rintro e w' ⟨rfl, rfl⟩
      go_wp2_with fail
      refine (turn_no_sp _ _ hv _).mono ?_; rintro e w' ⟨rfl, rfl⟩
      by_cases hk0 : k < 0
      · clear hv
        go_wp2
        go_ret
        exact ⟨rfl, hbb⟩
      · have hk1 : (31 : Int) < k := by omega
        clear hv
        go_wp2
        go_ret
        exact ⟨rfl, hbb⟩
  · go_enter Try.func4, Try.ntmps4
    go_wp2_with fail
    refine (big_great _ _ _ _ (by omega) hlen).mono ?_; rintro e w' ⟨rfl, rfl⟩
    go_wp2
    go_ret
    exact ⟨rfl, Below.refl _ _⟩
end Go.Proofs.Ytgfcbbijjdjijaa
