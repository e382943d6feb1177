/-
  What spec.Table, Untable and TableRound answer.
-/
import Derived.Test.YtkbnnlhilnnpeaaDoorTableMath
import Derived.Test.YtkbnnlhilnnpeaaDoorWord
import Derived.Test.YtkbnnlhilnnpeaaDoorBase
import Derived.IntWalk
set_option linter.unusedVariables false
set_option linter.unusedSimpArgs false
namespace Go.Proofs.YtkbnnlhilnnpeaaDoor
open Go Go.RowKit
attribute [local go_sem ↓] Go.wp_at_zero Go.wp_at_succ

set_option maxRecDepth 100000 in
theorem turned_0 (a b c d : UInt8) (w : World) :
    Calls Tryd.prog 66 #[.int .i64 0, .int .i64 a.toNat, .int .i64 b.toNat, .int .i64 c.toNat, .int .i64 d.toNat] w fun e w' => e = .returned (.int .i64 (rot (mkW a b c d) (upBy 0)).toNat) ∧ w = w' := by
  have HI := Lib.hid (in_yes 0 0 3 (by omega) w)
  have HO := or4 a b c d
  have HT : Hid (Calls Tryd.prog 56 #[.int .i64 (mkW a b c d).toNat, .int .i64 0] w fun e w' => e = .returned (.int .i64 (rot (mkW a b c d) (upBy 0)).toNat) ∧ w = w') := Lib.hid (by
    have h := Turn_spec ((mkW a b c d).toNat : Int) 0 w
    have e := turnI_at ((mkW a b c d).toNat : Int) 0 (by omega)
    rw [w32_of] at e
    rw [show ((0 : Nat) : Int) = (0 : Int) by rfl] at e
    rw [e] at h
    exact h)
  have ha := a.toNat_lt; have hb := b.toNat_lt; have hc := c.toNat_lt; have hd := d.toNat_lt
  generalize (rot (mkW a b c d) (upBy 0)).toNat = r at *
  generalize (mkW a b c d).toNat = m at *
  go_enter Tryd.func66, Tryd.ntmps66
  go_wp2_with fail
  refine HI.out.mono ?_; rintro e w' ⟨rfl, rfl⟩
  go_wp2_with fail
  refine HT.out.mono ?_; rintro e w' ⟨rfl, rfl⟩
  go_wp2
  go_ret
  exact ⟨rfl, rfl⟩
set_option maxRecDepth 100000 in
theorem turned_1 (a b c d : UInt8) (w : World) :
    Calls Tryd.prog 66 #[.int .i64 1, .int .i64 a.toNat, .int .i64 b.toNat, .int .i64 c.toNat, .int .i64 d.toNat] w fun e w' => e = .returned (.int .i64 (rot (mkW a b c d) (upBy 1)).toNat) ∧ w = w' := by
  have HI := Lib.hid (in_yes 1 0 3 (by omega) w)
  have HO := or4 a b c d
  have HT : Hid (Calls Tryd.prog 56 #[.int .i64 (mkW a b c d).toNat, .int .i64 24] w fun e w' => e = .returned (.int .i64 (rot (mkW a b c d) (upBy 1)).toNat) ∧ w = w') := Lib.hid (by
    have h := Turn_spec ((mkW a b c d).toNat : Int) 24 w
    have e := turnI_at ((mkW a b c d).toNat : Int) 24 (by omega)
    rw [w32_of] at e
    rw [show ((24 : Nat) : Int) = (24 : Int) by rfl] at e
    rw [e] at h
    exact h)
  have ha := a.toNat_lt; have hb := b.toNat_lt; have hc := c.toNat_lt; have hd := d.toNat_lt
  generalize (rot (mkW a b c d) (upBy 1)).toNat = r at *
  generalize (mkW a b c d).toNat = m at *
  go_enter Tryd.func66, Tryd.ntmps66
  go_wp2_with fail
  refine HI.out.mono ?_; rintro e w' ⟨rfl, rfl⟩
  go_wp2_with fail
  refine HT.out.mono ?_; rintro e w' ⟨rfl, rfl⟩
  go_wp2
  go_ret
  exact ⟨rfl, rfl⟩
set_option maxRecDepth 100000 in
theorem turned_2 (a b c d : UInt8) (w : World) :
    Calls Tryd.prog 66 #[.int .i64 2, .int .i64 a.toNat, .int .i64 b.toNat, .int .i64 c.toNat, .int .i64 d.toNat] w fun e w' => e = .returned (.int .i64 (rot (mkW a b c d) (upBy 2)).toNat) ∧ w = w' := by
  have HI := Lib.hid (in_yes 2 0 3 (by omega) w)
  have HO := or4 a b c d
  have HT : Hid (Calls Tryd.prog 56 #[.int .i64 (mkW a b c d).toNat, .int .i64 16] w fun e w' => e = .returned (.int .i64 (rot (mkW a b c d) (upBy 2)).toNat) ∧ w = w') := Lib.hid (by
    have h := Turn_spec ((mkW a b c d).toNat : Int) 16 w
    have e := turnI_at ((mkW a b c d).toNat : Int) 16 (by omega)
    rw [w32_of] at e
    rw [show ((16 : Nat) : Int) = (16 : Int) by rfl] at e
    rw [e] at h
    exact h)
  have ha := a.toNat_lt; have hb := b.toNat_lt; have hc := c.toNat_lt; have hd := d.toNat_lt
  generalize (rot (mkW a b c d) (upBy 2)).toNat = r at *
  generalize (mkW a b c d).toNat = m at *
  go_enter Tryd.func66, Tryd.ntmps66
  go_wp2_with fail
  refine HI.out.mono ?_; rintro e w' ⟨rfl, rfl⟩
  go_wp2_with fail
  refine HT.out.mono ?_; rintro e w' ⟨rfl, rfl⟩
  go_wp2
  go_ret
  exact ⟨rfl, rfl⟩
set_option maxRecDepth 100000 in
theorem turned_3 (a b c d : UInt8) (w : World) :
    Calls Tryd.prog 66 #[.int .i64 3, .int .i64 a.toNat, .int .i64 b.toNat, .int .i64 c.toNat, .int .i64 d.toNat] w fun e w' => e = .returned (.int .i64 (rot (mkW a b c d) (upBy 3)).toNat) ∧ w = w' := by
  have HI := Lib.hid (in_yes 3 0 3 (by omega) w)
  have HO := or4 a b c d
  have HT : Hid (Calls Tryd.prog 56 #[.int .i64 (mkW a b c d).toNat, .int .i64 8] w fun e w' => e = .returned (.int .i64 (rot (mkW a b c d) (upBy 3)).toNat) ∧ w = w') := Lib.hid (by
    have h := Turn_spec ((mkW a b c d).toNat : Int) 8 w
    have e := turnI_at ((mkW a b c d).toNat : Int) 8 (by omega)
    rw [w32_of] at e
    rw [show ((8 : Nat) : Int) = (8 : Int) by rfl] at e
    rw [e] at h
    exact h)
  have ha := a.toNat_lt; have hb := b.toNat_lt; have hc := c.toNat_lt; have hd := d.toNat_lt
  generalize (rot (mkW a b c d) (upBy 3)).toNat = r at *
  generalize (mkW a b c d).toNat = m at *
  go_enter Tryd.func66, Tryd.ntmps66
  go_wp2_with fail
  refine HI.out.mono ?_; rintro e w' ⟨rfl, rfl⟩
  go_wp2_with fail
  refine HT.out.mono ?_; rintro e w' ⟨rfl, rfl⟩
  go_wp2
  go_ret
  exact ⟨rfl, rfl⟩
theorem turned_at (k : Nat) (hk : k ≤ 3) (a b c d : UInt8) (w : World) :
    Calls Tryd.prog 66 #[.int .i64 (k : Int), .int .i64 a.toNat, .int .i64 b.toNat, .int .i64 c.toNat, .int .i64 d.toNat] w fun e w' => e = .returned (.int .i64 (rot (mkW a b c d) (upBy k)).toNat) ∧ w = w' := by
  have h4 : k = 0 ∨ k = 1 ∨ k = 2 ∨ k = 3 := by omega
  rcases h4 with rfl | rfl | rfl | rfl
  · exact turned_0 a b c d w
  · exact turned_1 a b c d w
  · exact turned_2 a b c d w
  · exact turned_3 a b c d w
set_option maxRecDepth 100000 in
theorem turned_no (k a b c d : Int) (h : ¬ (0 ≤ k ∧ k ≤ 3)) (w : World) :
    Calls Tryd.prog 66 #[.int .i64 k, .int .i64 a, .int .i64 b, .int .i64 c, .int .i64 d] w fun e w' => e = .returned (.int .i64 (-1)) ∧ w = w' := by
  have HI := Lib.hid (in_no k 0 3 h w)
  clear h
  go_enter Tryd.func66, Tryd.ntmps66
  go_wp2_with fail
  refine HI.out.mono ?_; rintro e w' ⟨rfl, rfl⟩
  go_wp2
  go_ret
  exact ⟨rfl, rfl⟩
set_option maxRecDepth 100000 in
theorem Table_spec (k b : Int) (w : World) :
    Calls Tryd.prog 23 #[.int .i64 k, .int .i64 b] w fun e w' => e = .returned (.int .i64 (tableI k b)) ∧ w = w' := by
  have H1 := Lib.hid (Sub_spec b w)
  obtain ⟨x, hx⟩ : ∃ x, sbox (b8 b) = x := ⟨_, rfl⟩
  rw [hx] at H1
  have M2 : Hid (Calls Tryd.prog 28 #[.int .i64 2, .int .i64 x.toNat] w fun e w' => e = .returned (.int .i64 (mul 2 x).toNat) ∧ w = w') := Lib.hid (Times_spec8 2 x w)
  have M3 : Hid (Calls Tryd.prog 28 #[.int .i64 3, .int .i64 x.toNat] w fun e w' => e = .returned (.int .i64 (mul 3 x).toNat) ∧ w = w') := Lib.hid (Times_spec8 3 x w)
  have HT : Hid (Calls Tryd.prog 66 #[.int .i64 k, .int .i64 (mul 2 x).toNat, .int .i64 x.toNat, .int .i64 x.toNat, .int .i64 (mul 3 x).toNat] w fun e w' => e = .returned (.int .i64 (tableI k b)) ∧ w = w') := Lib.hid (by
    by_cases h : 0 ≤ k ∧ k ≤ 3
    · obtain ⟨j, rfl⟩ := Int.eq_ofNat_of_zero_le h.1
      have e : tableI (j : Int) b = ((rot (mkW (mul 2 x) x x (mul 3 x)) (upBy j)).toNat : Int) := by
        unfold tableI tab spr
        rw [if_pos h, hx]
        simp only [mxF, unF, mul_1l]
        rfl
      rw [e]; exact turned_at j (by omega) _ _ _ _ w
    · have e : tableI k b = -1 := if_neg h
      rw [e]; exact turned_no k _ _ _ _ h w)
  generalize tableI k b = r at *
  generalize mul 2 x = y2 at *
  generalize mul 3 x = y3 at *
  clear hx
  go_enter Tryd.func23, Tryd.ntmps23
  go_wp2_with fail
  refine H1.out.mono ?_; rintro e w' ⟨rfl, rfl⟩
  go_wp2_with fail
  refine M2.out.mono ?_; rintro e w' ⟨rfl, rfl⟩
  go_wp2_with fail
  refine M3.out.mono ?_; rintro e w' ⟨rfl, rfl⟩
  go_wp2_with fail
  refine HT.out.mono ?_; rintro e w' ⟨rfl, rfl⟩
  go_wp2
  go_ret
  exact ⟨rfl, rfl⟩
set_option maxRecDepth 100000 in
theorem Untable_spec (k b : Int) (w : World) :
    Calls Tryd.prog 24 #[.int .i64 k, .int .i64 b] w fun e w' => e = .returned (.int .i64 (untableI k b)) ∧ w = w' := by
  have H1 := Lib.hid (Unsub_spec b w)
  obtain ⟨x, hx⟩ : ∃ x, ubox (b8 b) = x := ⟨_, rfl⟩
  rw [hx] at H1
  have M14 : Hid (Calls Tryd.prog 28 #[.int .i64 14, .int .i64 x.toNat] w fun e w' => e = .returned (.int .i64 (mul 14 x).toNat) ∧ w = w') := Lib.hid (Times_spec8 14 x w)
  have M9 : Hid (Calls Tryd.prog 28 #[.int .i64 9, .int .i64 x.toNat] w fun e w' => e = .returned (.int .i64 (mul 9 x).toNat) ∧ w = w') := Lib.hid (Times_spec8 9 x w)
  have M13 : Hid (Calls Tryd.prog 28 #[.int .i64 13, .int .i64 x.toNat] w fun e w' => e = .returned (.int .i64 (mul 13 x).toNat) ∧ w = w') := Lib.hid (Times_spec8 13 x w)
  have M11 : Hid (Calls Tryd.prog 28 #[.int .i64 11, .int .i64 x.toNat] w fun e w' => e = .returned (.int .i64 (mul 11 x).toNat) ∧ w = w') := Lib.hid (Times_spec8 11 x w)
  have HT : Hid (Calls Tryd.prog 66 #[.int .i64 k, .int .i64 (mul 14 x).toNat, .int .i64 (mul 9 x).toNat, .int .i64 (mul 13 x).toNat, .int .i64 (mul 11 x).toNat] w fun e w' => e = .returned (.int .i64 (untableI k b)) ∧ w = w') := Lib.hid (by
    by_cases h : 0 ≤ k ∧ k ≤ 3
    · obtain ⟨j, rfl⟩ := Int.eq_ofNat_of_zero_le h.1
      have e : untableI (j : Int) b = ((rot (mkW (mul 14 x) (mul 9 x) (mul 13 x) (mul 11 x)) (upBy j)).toNat : Int) := by
        unfold untableI utab spr
        rw [if_pos h, hx]
        simp only [mxF, unF, mul_1l]
        rfl
      rw [e]; exact turned_at j (by omega) _ _ _ _ w
    · have e : untableI k b = -1 := if_neg h
      rw [e]; exact turned_no k _ _ _ _ h w)
  generalize untableI k b = r at *
  generalize mul 14 x = y14 at *
  generalize mul 9 x = y9 at *
  generalize mul 13 x = y13 at *
  generalize mul 11 x = y11 at *
  clear hx
  go_enter Tryd.func24, Tryd.ntmps24
  go_wp2_with fail
  refine H1.out.mono ?_; rintro e w' ⟨rfl, rfl⟩
  go_wp2_with fail
  refine M14.out.mono ?_; rintro e w' ⟨rfl, rfl⟩
  go_wp2_with fail
  refine M9.out.mono ?_; rintro e w' ⟨rfl, rfl⟩
  go_wp2_with fail
  refine M13.out.mono ?_; rintro e w' ⟨rfl, rfl⟩
  go_wp2_with fail
  refine M11.out.mono ?_; rintro e w' ⟨rfl, rfl⟩
  go_wp2_with fail
  refine HT.out.mono ?_; rintro e w' ⟨rfl, rfl⟩
  go_wp2
  go_ret
  exact ⟨rfl, rfl⟩
end Go.Proofs.YtkbnnlhilnnpeaaDoor
