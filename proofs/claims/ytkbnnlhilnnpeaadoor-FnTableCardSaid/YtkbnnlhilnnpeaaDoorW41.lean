/-
  The walk of laws.FnTable: it returns true at every code.
-/
import Derived.Test.YtkbnnlhilnnpeaaDoorTabLaid
import Derived.Test.YtkbnnlhilnnpeaaDoorTabI
import Derived.Test.YtkbnnlhilnnpeaaDoorTableS
import Derived.Test.YtkbnnlhilnnpeaaDoorTabDraw
import Derived.Test.YtkbnnlhilnnpeaaDoorWord
set_option linter.unusedVariables false
set_option linter.unusedSimpArgs false
namespace Go.Proofs.YtkbnnlhilnnpeaaDoor
open Go.RowKit

theorem facts_FnTable {W : World} (h : laidMetH Tryd.prog Rows.fnTableRow.laid W) : Fac4 W 0 mxF ∧ Fac4 W 1 unF := by
  have h' : laidMet Tryd.prog [("loop.example/g00835/impl.unmixFactors", Lib.tabData .u8 [14, 9, 13, 11]), ("loop.example/g00835/impl.mixFactors", Lib.tabData .u8 [2, 1, 1, 3])] W := h
  exact ⟨Mx8_laid (laid_tail8 h'), Un8_laid h'⟩
theorem turn_tab (b : UInt8) (k : Nat) (hk : k < 4) (w : World) :
    Calls Tryd.prog 26 #[.int .i64 (tab 0 b).toNat, .int .i64 ((upBy k : Nat) : Int)] w fun e w' => e = .returned (.int .i64 (tab k b).toNat) ∧ w = w' := by
  have h := Turn_impl ((tab 0 b).toNat : Int) ((upBy k : Nat) : Int) w
  rw [turnI_at _ _ (show upBy k < 32 by unfold upBy; omega), w32_of, tab_up b k hk] at h
  exact h
theorem turn_utab (b : UInt8) (k : Nat) (hk : k < 4) (w : World) :
    Calls Tryd.prog 26 #[.int .i64 (utab 0 b).toNat, .int .i64 ((upBy k : Nat) : Int)] w fun e w' => e = .returned (.int .i64 (utab k b).toNat) ∧ w = w' := by
  have h := Turn_impl ((utab 0 b).toNat : Int) ((upBy k : Nat) : Int) w
  rw [turnI_at _ _ (show upBy k < 32 by unfold upBy; omega), w32_of, utab_up b k hk] at h
  exact h
theorem parts_nat (y x z m : Nat) (hx : x < 256) (hz : z < 256) (hm : y * 16777216 + x * 65536 + x * 256 + z = m) : m / 65536 % 256 = x ∧ m / 256 % 256 = x ∧ m / 16777216 = y := by
  have e1 : m / 65536 = y * 256 + x := by omega
  have e2 : m / 256 = y * 65536 + x * 256 + x := by omega
  have e3 : m / 16777216 = y := by omega
  rw [e1, e2, e3]
  exact ⟨by omega, by omega, rfl⟩
theorem cast_parts (m x y : Nat) (h : m / 65536 % 256 = x ∧ m / 256 % 256 = x ∧ m / 16777216 = y) : (m : Int) / 65536 % 256 = (x : Int) ∧ (m : Int) / 256 % 256 = (x : Int) ∧ (m : Int) / 16777216 = (y : Int) := by
  obtain ⟨h1, h2, h3⟩ := h
  subst h3
  exact ⟨by rw [← h1]; rfl, by rw [← h2]; rfl, rfl⟩
theorem tab0_parts (b : UInt8) : ((tab 0 b).toNat : Int) / 65536 % 256 = ((sbox b).toNat : Int) ∧ ((tab 0 b).toNat : Int) / 256 % 256 = ((sbox b).toNat : Int) ∧ ((tab 0 b).toNat : Int) / 16777216 = ((mul 2 (sbox b)).toNat : Int) := by
  have e : tab 0 b = mkW (mul 2 (sbox b)) (sbox b) (sbox b) (mul 3 (sbox b)) := by
    rw [tab_0]; unfold spr; simp only [mxF, mul_1l]
  rw [e]
  exact cast_parts _ _ _ (parts_nat _ _ _ _ (sbox b).toNat_lt (mul 3 (sbox b)).toNat_lt (mkW_nat (mul 2 (sbox b)) (sbox b) (sbox b) (mul 3 (sbox b))).symm)
theorem utab0_parts (b : UInt8) : ((utab 0 b).toNat : Int) % 256 = ((mul 11 (ubox b)).toNat : Int) := by
  have e : utab 0 b = mkW (mul 14 (ubox b)) (mul 9 (ubox b)) (mul 13 (ubox b)) (mul 11 (ubox b)) := by
    rw [utab_0]; rfl
  have h := mkW_nat (mul 14 (ubox b)) (mul 9 (ubox b)) (mul 13 (ubox b)) (mul 11 (ubox b))
  rw [e, h]
  have h1 := (mul 14 (ubox b)).toNat_lt; have h2 := (mul 9 (ubox b)).toNat_lt; have h3 := (mul 13 (ubox b)).toNat_lt; have h4 := (mul 11 (ubox b)).toNat_lt
  generalize (mul 14 (ubox b)).toNat = x at *
  generalize (mul 9 (ubox b)).toNat = y at *
  generalize (mul 13 (ubox b)).toNat = z at *
  generalize (mul 11 (ubox b)).toNat = u at *
  omega
theorem spec_times2 (x : UInt8) (w : World) : Calls Tryd.prog 28 #[.int .i64 2, .int .i64 x.toNat] w fun e w' => e = .returned (.int .i64 (mul 2 x).toNat) ∧ w = w' := Times_spec8 2 x w
theorem spec_times11 (x : UInt8) (w : World) : Calls Tryd.prog 28 #[.int .i64 11, .int .i64 x.toNat] w fun e w' => e = .returned (.int .i64 (mul 11 x).toNat) ∧ w = w' := Times_spec8 11 x w
set_option maxRecDepth 100000 in
set_option maxHeartbeats 3200000 in
theorem walk_FnTable (a0 : Option Addr) (len0 cap0 : Nat) (z0 : List Int) (w : World) (w0 : IsRow .u8 w a0 len0 cap0 z0) (hf : Fac4 w 0 mxF ∧ Fac4 w 1 unF) :
    Calls Tryd.prog 4 #[.slice a0 len0 cap0] w fun e w' => e = .returned (.bool true) ∧ Below w.heap.size w w' := by
  obtain ⟨hcode, hlen⟩ := w0.code
  clear w0
  by_cases hl : len0 ≤ 1048576
  · have H := Lib.hid hcode
    have HF : Hid (∀ W, Below w.heap.size w W → Fac4 W 0 mxF) := Lib.hid (fun W hW => hf.1.below hW hf.1.1)
    have HU : Hid (∀ W, Below w.heap.size w W → Fac4 W 1 unF) := Lib.hid (fun W hW => hf.2.below hW hf.2.1)
    clear hcode hf
    go_enter Tryd.func4, Tryd.ntmps4
    go_wp2_with fail
    refine (big_small _ _ _ _ hl).mono ?_; rintro e w' ⟨rfl, rfl⟩
    go_wp2_with fail
    refine (draw_Table _ _ _ _ H.out hl).mono ?_; rintro e w1 ⟨k, b, rfl, hb1⟩
    have HC := Lib.hid ((H.out.below hb1 (Nat.le_refl _)).up hb1.size)
    have HB1 := Lib.hid hb1
    clear hb1
    go_wp2_with fail
    refine (draw_Untable _ _ _ _ HC.out hl).mono ?_; rintro e w2 ⟨m, c, rfl, hb2⟩
    have HC2 := Lib.hid ((HC.out.below hb2 (Nat.le_refl _)).up hb2.size)
    have HB2 := Lib.hid (HB1.out.trans (hb2.mono HB1.out.size))
    clear hb2 HC
    go_wp2_with fail
    refine (Table_impl k b _ (HF.out _ HB2.out)).mono ?_; rintro e w3 ⟨rfl, hb3⟩
    have HC3 := Lib.hid ((HC2.out.below hb3 (Nat.le_refl _)).up hb3.size)
    have HB3 := Lib.hid (HB2.out.trans (hb3.mono HB2.out.size))
    clear hb3 HC2
    go_wp2_with fail
    refine (Untable_impl m c _ (HU.out _ HB3.out)).mono ?_; rintro e w4 ⟨rfl, hb4⟩
    have HC4 := Lib.hid ((HC3.out.below hb4 (Nat.le_refl _)).up hb4.size)
    have HB4 := Lib.hid (HB3.out.trans (hb4.mono HB3.out.size))
    have S1 := fun W => Lib.hid (Table_spec k b W)
    have S2 := fun W => Lib.hid (Untable_spec m c W)
    clear hb4 HC3
    generalize tableI k b = r1 at *
    generalize untableI m c = r2 at *
    go_wp2_with fail
    refine (S1 _).out.mono ?_; rintro e w' ⟨rfl, rfl⟩
    go_wp2_with fail
    refine (S2 _).out.mono ?_; rintro e w' ⟨rfl, rfl⟩
    go_wp2_with fail
    refine (at_any 0 (by omega) _ _ _ _ HC4.out hl).mono ?_; rintro e w' ⟨⟨x, rfl, hx⟩, rfl⟩
    obtain ⟨y, hy⟩ : ∃ y : UInt8, y.toNat = x := ⟨UInt8.ofNat x, by rw [UInt8.toNat_ofNat']; omega⟩
    subst hy
    clear S1 S2
    have T0 := fun W hW => Lib.hid (table_at 0 (by omega) y W hW)
    have U0 := fun W hW => Lib.hid (untable_at 0 (by omega) y W hW)
    go_wp2_with fail
    refine (T0 _ (HF.out _ HB4.out)).out.mono ?_; rintro e w5 ⟨rfl, hb5⟩
    have HB5 := Lib.hid (HB4.out.trans (hb5.mono HB4.out.size))
    clear hb5
    go_wp2_with fail
    refine (U0 _ (HU.out _ HB5.out)).out.mono ?_; rintro e w6 ⟨rfl, hb6⟩
    have HB6 := Lib.hid (HB5.out.trans (hb6.mono HB5.out.size))
    clear hb6 T0 U0
    obtain ⟨t1, t2, t3⟩ := tab0_parts y
    have t4 := utab0_parts y
    have TT := fun k hk W => Lib.hid (turn_tab y k hk W)
    have UT := fun k hk W => Lib.hid (turn_utab y k hk W)
    have l1 := w32_lt (tab 0 y)
    have l2 := w32_lt (utab 0 y)
    obtain ⟨q, hq⟩ : ∃ q, (tab 0 y).toNat = q := ⟨_, rfl⟩
    obtain ⟨v, hv⟩ : ∃ v, (utab 0 y).toNat = v := ⟨_, rfl⟩
    rw [hq] at t1 t2 t3 l1
    rw [hv] at t4 l2
    simp only [hq] at TT
    simp only [hv] at UT
    rw [hq, hv]
    have q1 : (q : Int) < 4294967296 := by omega
    have v1 : (v : Int) < 4294967296 := by omega
    have P1 := Lib.hid t1
    have P2 := Lib.hid t2
    have P3 := Lib.hid t3
    have P4 := Lib.hid t4
    have HX := Lib.hid hx
    clear t1 t2 t3 t4 l1 l2 hq hv hx
    go_wp2
    go_loopw [12] (fun j wr => ∃ k : Nat, 1 ≤ k ∧ k ≤ 4 ∧ j = .int .i64 k ∧ Below w.heap.size w wr) (fun j _ => 4 - (intOf j).toNat)
    case atStart => exact ⟨1, by omega, by omega, rfl, HB6.out⟩
    case round =>
      obtain ⟨k, hk0, hk, rfl, hbel⟩ := hrel
      have HB := Lib.hid hbel
      have HK := Lib.hid hk0
      by_cases hlt : k < 4
      · have hk1 : (k : Int) < 4 := by omega
        have hu : 32 - 8 * (k : Int) = ((upBy k : Nat) : Int) := by unfold upBy; omega
        have C1 := fun W hW => Lib.hid (table_at k (by omega) y W hW)
        have C2 := fun W hW => Lib.hid (untable_at k (by omega) y W hW)
        have D1 := fun W => TT k hlt W
        have D2 := fun W => UT k hlt W
        have g1 : IntKind.i64.wrap (8 * (k : Int)) = 8 * (k : Int) := IntWalk.i64_in _ (by omega)
        have g2 : IntKind.i64.wrap (32 - 8 * (k : Int)) = 32 - 8 * (k : Int) := IntWalk.i64_in _ (by omega)
        rw [← hu] at D1 D2
        generalize (tab k y).toNat = z1 at *
        generalize (utab k y).toNat = z2 at *
        clear hbel hk0 TT UT hu
        go_wp2_with fail
        refine (C1 _ (HF.out _ HB.out)).out.mono ?_; rintro e w7 ⟨rfl, hb7⟩
        have HB7 := Lib.hid (HB.out.trans (hb7.mono HB.out.size))
        clear hb7
        go_wp2_with fail
        refine (D1 _).out.mono ?_; rintro e w' ⟨rfl, rfl⟩
        go_wp2_with fail
        refine (C2 _ (HU.out _ HB7.out)).out.mono ?_; rintro e w8 ⟨rfl, hb8⟩
        have HB8 := Lib.hid (HB7.out.trans (hb8.mono HB7.out.size))
        clear hb8
        go_wp2_with fail
        refine (D2 _).out.mono ?_; rintro e w' ⟨rfl, rfl⟩
        clear C1 C2 D1 D2 g1 g2
        go_wp2
        go_roundw
        case rel => exact ⟨k + 1, by omega, by omega, by go_num, HB8.out⟩
        case measure => simp [intOf]; omega
      · obtain rfl : k = 4 := by omega
        have A1 := fun W => Lib.hid (Sub_spec8 y W)
        have A2 := fun W => Lib.hid (spec_times2 (sbox y) W)
        have A3 := fun W => Lib.hid (Unsub_spec8 y W)
        have A4 := fun W => Lib.hid (spec_times11 (ubox y) W)
        have p1 := (i64_and255 ((q : Int) / 65536)).trans P1.out
        have p2 := (i64_and255 ((q : Int) / 256)).trans P2.out
        have p3 := P3.out
        have p4 := (i64_and255 (v : Int)).trans P4.out
        clear hbel hk0 TT UT P1 P2 P3 P4
        generalize mul 2 (sbox y) = m2 at *
        generalize mul 11 (ubox y) = m11 at *
        generalize sbox y = sb at *
        generalize ubox y = ub at *
        go_wp2_with fail
        refine (A1 _).out.mono ?_; rintro e w' ⟨rfl, rfl⟩
        go_wp2_with fail
        refine (A2 _).out.mono ?_; rintro e w' ⟨rfl, rfl⟩
        go_wp2_with fail
        refine (A3 _).out.mono ?_; rintro e w' ⟨rfl, rfl⟩
        go_wp2_with fail
        refine (A4 _).out.mono ?_; rintro e w' ⟨rfl, rfl⟩
        go_wp2
        go_ret
        exact ⟨rfl, HB.out⟩
  · have hl2 : 1048576 < len0 := by omega
    clear hcode hf
    go_enter Tryd.func4, Tryd.ntmps4
    go_wp2_with fail
    refine (big_great _ _ _ _ hl2 hlen).mono ?_; rintro e w' ⟨rfl, rfl⟩
    go_wp2
    go_ret
    exact ⟨rfl, Below.refl _ _⟩
end Go.Proofs.YtkbnnlhilnnpeaaDoor
