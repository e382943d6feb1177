/-
  The walk of laws.FnRound: it returns true at every code.
-/
import Derived.Test.YtkbnnlhilnnpeaaDoorLockLaid
import Derived.Test.YtkbnnlhilnnpeaaDoorBlk16
import Derived.Test.YtkbnnlhilnnpeaaDoorTabR
import Derived.Test.YtkbnnlhilnnpeaaDoorTableT
import Derived.Test.YtkbnnlhilnnpeaaDoorRoundDraw
import Derived.Test.YtkbnnlhilnnpeaaDoorKey
import Derived.Test.YtkbnnlhilnnpeaaDoorW24
set_option linter.unusedVariables false
set_option linter.unusedSimpArgs false
namespace Go.Proofs.YtkbnnlhilnnpeaaDoor
open Go.RowKit

theorem facts_FnRound {W : World} (h : laidMetH Tryd.prog Rows.fnRoundRow.laid W) : MxF W := mxf_laid h
/-- a text of the first k words. -/
def wtx (f : Nat → UInt32) (k : Nat) : ByteArray := ⟨(rowW f k).toArray⟩
theorem wtx_put (f : Nat → UInt32) (k : Nat) : wtx f k ++ putW (f k) = wtx f (k + 1) := rowW_put f k
theorem wtx_size (f : Nat → UInt32) (k : Nat) : (wtx f k).size = 4 * k := rowW_size f k
theorem wtx_4 (f : Nat → UInt32) : wtx f 4 = ofW f := blk_ofW f
theorem rnd_law (f g : Nat → UInt32) : xorS (mxS (shS 1 (mapT sbox (ofW f)))) (ofW g) = ofW (rndW tab 1 f g) := by
  rw [ofW_ext (rndW tab 1 f g) (fun i => tbTo f i (g i) 4) (fun i _ => rnd_tab f g i), tb_round]; rfl
set_option maxRecDepth 100000 in
set_option maxHeartbeats 6400000 in
theorem walk_FnRound (a0 : Option Addr) (len0 cap0 : Nat) (z0 : List Int) (w : World) (w0 : IsRow .u8 w a0 len0 cap0 z0) (hf : MxF w) :
    Calls Tryd.prog 5 #[.slice a0 len0 cap0] w fun e w' => e = .returned (.bool true) ∧ Below w.heap.size w w' := by
  obtain ⟨hcode, hlen⟩ := w0.code
  clear w0
  by_cases hl : len0 ≤ 1048576
  · have H := Lib.hid hcode
    have HF : Hid (∀ W, Below w.heap.size w W → MxF W) := Lib.hid (fun W hW => hf.below hW (Nat.le_refl _))
    clear hcode hf
    go_enter Tryd.func5, Tryd.ntmps5
    go_wp2_with fail
    refine (big_small _ _ _ _ hl).mono ?_; rintro e w' ⟨rfl, rfl⟩
    go_wp2_with fail
    refine (draw_TableRound _ _ _ _ H.out hl).mono ?_; rintro e w1 ⟨A1, A2, n1, c1, n2, c2, l1, l2, rfl, i1, i2, n19, n29, h1c, h1m, h2c, h2m, hb1⟩
    have HB1 := Lib.hid hb1
    have I1 := Lib.hid i1
    have I2 := Lib.hid i2
    have C1 := fun W hA hB hW => Lib.hid (TableRound_impl A1 A2 n1 n2 c1 c2 l1 l2 W hA hB (HF.out W hW))
    have C2 := fun W hA hB => Lib.hid (TableRound_spec_any A1 A2 n1 n2 c1 c2 l1 l2 W hA hB)
    have hn19 : (n1 : Int) ≤ 9 := by omega
    have hn29 : (n2 : Int) ≤ 9 := by omega
    by_cases h4 : n1 = 4 ∧ n2 = 4
    · obtain ⟨rfl, rfl⟩ := h4
      have L1 := i1.1
      have L2 := i2.1
      rw [roundI_yes l1 l2 L1 L2] at C1 C2
      obtain ⟨b1, o1, hA1, hbb1, hc1⟩ := irow_at L1 i1
      obtain ⟨b2, o2, hA2, hbb2, hc2⟩ := irow_at L2 i2
      subst hA1 hA2
      have HC1 : Hid (∀ W, Below w1.heap.size w1 W → ∀ j, j < 4 → ∃ x, W.cell? ⟨b1, o1 + j, none⟩ = some (.int .i64 x) ∧ w32 x = lowF l1 j) := Lib.hid fun W hW j hj => ⟨_, (hW.cell (p := ⟨b1, o1 + j, none⟩) hbb1).trans (hc1 j hj), rfl⟩
      have HC2 : Hid (∀ W, Below w1.heap.size w1 W → ∀ j, j < 4 → ∃ x, W.cell? ⟨b2, o2 + j, none⟩ = some (.int .i64 x) ∧ w32 x = lowF l2 j) := Lib.hid fun W hW j hj => ⟨_, (hW.cell (p := ⟨b2, o2 + j, none⟩) hbb2).trans (hc2 j hj), rfl⟩
      have HLAW := Lib.hid (rnd_law (lowF l1) (lowF l2))
      generalize lowF l1 = f at *
      generalize lowF l2 = g at *
      obtain ⟨F, hF⟩ : ∃ F, rndW tab 1 f g = F := ⟨_, rfl⟩
      rw [hF] at C1 C2 HLAW
      have hll : (nums (upTo F 4)).length = 4 := by rw [nums_length, upTo_length]
      have HWD : Hid (∀ w' A, IRow w' A 4 (nums (upTo F 4)) → ∃ b o, A = some ⟨b, o, none⟩ ∧ b < w'.heap.size ∧ ∀ j, j < 4 → w'.cell? ⟨b, o + j, none⟩ = some (.int .i64 ((F j).toNat : Int))) := Lib.hid (fun w' A h => by
        obtain ⟨b, o, hA, hb, hc⟩ := irow_at hll h
        refine ⟨b, o, hA, hb, fun j hj => ?_⟩
        rw [hc j hj, List.getD_eq_getElem?_getD]
        have : (nums (upTo F 4))[j]? = some ((F j).toNat : Int) := by unfold nums; rw [List.getElem?_map, upTo_at F 4 j hj]; rfl
        rw [this]; rfl)
      generalize nums (upTo F 4) = l at *
      have O1 : Hid (∀ {e : Ending} {W W' : World}, OwnInts W l e W' → ∃ A c, e = .returned (.slice A 4 c) ∧ W'.ownsRow W.heap.size 3 1 (.slice A 4 c) 4 (cells64 l) ∧ IRow W' A 4 l ∧ 4 ≤ c ∧ c ≤ 9223372036854775807 ∧ Below W.heap.size W W') := Lib.hid (fun h => by have := OwnInts.open h; rwa [hll] at this)
      clear hb1 i1 i2 hc1 hc2 hbb1 hbb2 L1 L2 hF hll n19 n29 hn19 hn29
      go_wp2_with fail
      refine (C1 _ I1.out I2.out HB1.out).out.mono ?_; rintro e w2 ho2
      obtain ⟨A3, c3, rfl, hown3, hr3, hc3, hcm3, hb3⟩ := O1.out ho2
      have R3 := Lib.hid hr3
      have HB2 := Lib.hid (HB1.out.trans (hb3.mono HB1.out.size))
      have HU := Lib.hid hb3
      clear ho2 hown3 hr3 hb3
      go_wp2_with fail
      refine (C2 _ (I1.out.below HU.out) (I2.out.below HU.out)).out.mono ?_; rintro e w3 ho3
      obtain ⟨A4, c4, rfl, hown4, hr4, hc4, hcm4, hb4⟩ := O1.out ho3
      have R4 := Lib.hid hr4
      have R34 := Lib.hid (R3.out.below hb4)
      have HB3 := Lib.hid (HB2.out.trans (hb4.mono HB2.out.size))
      have HU3 := Lib.hid (HU.out.trans (hb4.mono HU.out.size))
      clear ho3 hown4 hr4 hb4 R3 HU
      go_wp2_with fail
      refine (samei_any _ _ _ _ _ _ _ R34.out R4.out (by omega)).mono ?_; rintro e w4 ⟨rfl, k4, rfl⟩
      have R5 := Lib.hid (R34.out.drewN k4)
      have HB4 := Lib.hid (below_drewN HB3.out k4)
      have HU4 := Lib.hid (below_drewN HU3.out k4)
      obtain ⟨b5, o5, rfl, hb5, hc5⟩ := HWD.out _ _ R5.out
      have HB5 := Lib.hid hb5
      have HC5 := Lib.hid hc5
      clear R34 R4 R5 HB3 HU3 HWD O1 C1 C2 I1 I2 HB1 HB2 hb5 hc5
      generalize w3.drewN k4 = w4 at *
      go_wp2
      go_loopw [6, 7, 8, 9] (fun s k x i wr => ∃ j : Nat, j ≤ 4 ∧ i = .int .i64 j ∧ s = .string (wtx f j) ∧ k = .string (wtx g j) ∧ x = .string (wtx F j) ∧ Below w4.heap.size w4 wr) (fun _ _ _ i _ => 4 - (intOf i).toNat)
      case atStart => exact ⟨0, by omega, rfl, rfl, rfl, rfl, Below.refl _ _⟩
      case round =>
        obtain ⟨j, hj, rfl, rfl, rfl, rfl, hbel⟩ := hrel
        have HB := Lib.hid hbel
        by_cases hlt : j < 4
        · have hj1 : (j : Int) < 4 := by omega
          have hj0 : (0 : Int) ≤ (j : Int) := by omega
          have HZ1 := fun W hW => Lib.hid (HC1.out W hW j hlt)
          have HZ2 := fun W hW => Lib.hid (HC2.out W hW j hlt)
          have HZ5 : Hid (∀ W, Below w4.heap.size w4 W → W.cell? ⟨b5, o5 + j, none⟩ = some (.int .i64 ((F j).toNat : Int))) := Lib.hid fun W hW => (hW.cell (p := ⟨b5, o5 + j, none⟩) HB5.out).trans (HC5.out j hlt)
          have P3 := fun W => Lib.hid (PutWord_spec ((F j).toNat : Int) W)
          simp only [w32_of] at P3
          have S1 := Lib.hid (wtx_put f j)
          have S2 := Lib.hid (wtx_put g j)
          have S3 := Lib.hid (wtx_put F j)
          have z1 := wtx_size f j
          have z2 := wtx_size g j
          have z3 := wtx_size F j
          have hcat1 := fun W => run_string_add_sum (P := Tryd.prog) (w := W) (wtx f j) (putW (f j)) (by rw [z1, putW_size]; omega)
          have hcat2 := fun W => run_string_add_sum (P := Tryd.prog) (w := W) (wtx g j) (putW (g j)) (by rw [z2, putW_size]; omega)
          have hcat3 := fun W => run_string_add_sum (P := Tryd.prog) (w := W) (wtx F j) (putW (F j)) (by rw [z3, putW_size]; omega)
          have hxl := w32_lt (F j)
          have hx2 : ((F j).toNat : Int) < 4294967296 := by omega
          obtain ⟨x1, hcell, hx1⟩ := (HZ1 wr (HU4.out.trans (HB.out.mono HU4.out.size))).out
          have P1 := fun W => Lib.hid (PutWord_spec x1 W)
          simp only [hx1] at P1
          generalize wtx f j = T1 at *
          generalize wtx g j = T2 at *
          generalize wtx F j = T3 at *
          generalize putW (f j) = D1 at *
          generalize putW (F j) = D3 at *
          obtain ⟨D2, hD2⟩ : ∃ D2, putW (g j) = D2 := ⟨_, rfl⟩
          rw [hD2] at S2 hcat2
          have HD2 := Lib.hid hD2
          generalize (F j).toNat = y3 at *
          clear hbel hxl z1 z2 z3 HZ1 hx1 hD2
          go_wp2_with fail
          refine (P1 _).out.mono ?_; rintro e w5 ⟨rfl, hb5⟩
          have HB6 := Lib.hid (HB.out.trans (hb5.mono HB.out.size))
          obtain ⟨x2, hcell2, hx2'⟩ := (HZ2 w5 (HU4.out.trans (HB6.out.mono HU4.out.size))).out
          have P2 := fun W => Lib.hid (PutWord_spec x2 W)
          simp only [hx2', HD2.out] at P2
          clear hb5 hcell P1 HZ2 hx2'
          go_wp2_with fail
          refine (P2 _).out.mono ?_; rintro e w6 ⟨rfl, hb6⟩
          have HB7 := Lib.hid (HB6.out.trans (hb6.mono HB6.out.size))
          have hcell3 := HZ5.out w6 HB7.out
          clear hb6 hcell2 P2
          go_wp2_with fail
          refine (P3 _).out.mono ?_; rintro e w7 ⟨rfl, hb7⟩
          have HB8 := Lib.hid (HB7.out.trans (hb7.mono HB7.out.size))
          clear hb7 hcell3 P3
          go_wp2
          go_roundw
          case rel => exact ⟨j + 1, by omega, by go_num, by rw [S1.out], by rw [S2.out], by rw [S3.out], HB8.out⟩
          case measure => simp [intOf]; omega
        · obtain rfl : j = 4 := by omega
          simp only [wtx_4]
          have HBW := Lib.hid (HB4.out.trans (HB.out.mono HB4.out.size))
          have z1 : (ofW f).size = 16 := txt_size _ _
          have z2 : (ofW g).size = 16 := txt_size _ _
          have Q1 := fun W => Lib.hid (SubText_impl (ofW f) W (by omega))
          have Q2 := fun W => Lib.hid (shift16_impl (mapT sbox (ofW f)) _ (by rw [mapT_size]; exact z1) rfl W)
          have Q3 := fun W hW => Lib.hid (mix16_impl (shS 1 (mapT sbox (ofW f))) _ (shS_size _ _) rfl W hW)
          have Q4 := fun W => Lib.hid (xor16_impl (mxS (shS 1 (mapT sbox (ofW f)))) (ofW g) _ (mxS_size _) z2 HLAW.out W)
          generalize mxS (shS 1 (mapT sbox (ofW f))) = M at *
          generalize shS 1 (mapT sbox (ofW f)) = S at *
          generalize mapT sbox (ofW f) = B at *
          generalize ofW f = X at *
          generalize ofW g = Y at *
          generalize ofW F = Z at *
          clear hbel HB HLAW z1 z2 HC1 HC2 HC5 HU4 HB4
          go_wp2_with fail
          refine (Q1 _).out.mono ?_; rintro e w5 ⟨rfl, hb5⟩
          have HB5 := Lib.hid (HBW.out.trans (hb5.mono HBW.out.size))
          clear hb5
          go_wp2_with fail
          refine (Q2 _).out.mono ?_; rintro e w6 ⟨rfl, hb6⟩
          have HB6 := Lib.hid (HB5.out.trans (hb6.mono HB5.out.size))
          clear hb6
          go_wp2_with fail
          refine (Q3 _ (HF.out _ HB6.out)).out.mono ?_; rintro e w7 ⟨rfl, hb7⟩
          have HB7 := Lib.hid (HB6.out.trans (hb7.mono HB6.out.size))
          clear hb7
          go_wp2_with fail
          refine (Q4 _).out.mono ?_; rintro e w8 ⟨rfl, hb8⟩
          have HB8 := Lib.hid (HB7.out.trans (hb8.mono HB7.out.size))
          clear hb8
          go_wp2
          go_ret
          exact ⟨rfl, HB8.out⟩
    · have hno : ¬ (l1.length = 4 ∧ l2.length = 4) := by rw [i1.1, i2.1]; exact h4
      rw [roundI_no l1 l2 hno] at C1 C2
      have O1 : Hid (∀ {e : Ending} {W W' : World}, OwnInts W [] e W' → ∃ A c, e = .returned (.slice A 0 c) ∧ W'.ownsRow W.heap.size 3 1 (.slice A 0 c) 0 (cells64 []) ∧ IRow W' A 0 [] ∧ 0 ≤ c ∧ c ≤ 9223372036854775807 ∧ Below W.heap.size W W') := Lib.hid (fun h => OwnInts.open h)
      have hn : (n1 : Int) = 4 ∧ ¬ (n2 : Int) = 4 ∨ ¬ (n1 : Int) = 4 := by omega
      clear hb1 i1 i2 hno h4
      go_wp2_with fail
      refine (C1 _ I1.out I2.out HB1.out).out.mono ?_; rintro e w2 ho2
      obtain ⟨A3, c3, rfl, hown3, hr3, hc3, hcm3, hb3⟩ := O1.out ho2
      have R3 := Lib.hid hr3
      have HB2 := Lib.hid (HB1.out.trans (hb3.mono HB1.out.size))
      have HU := Lib.hid hb3
      clear ho2 hown3 hr3 hb3
      go_wp2_with fail
      refine (C2 _ (I1.out.below HU.out) (I2.out.below HU.out)).out.mono ?_; rintro e w3 ho3
      obtain ⟨A4, c4, rfl, hown4, hr4, hc4, hcm4, hb4⟩ := O1.out ho3
      have R4 := Lib.hid hr4
      have R34 := Lib.hid (R3.out.below hb4)
      have HB3 := Lib.hid (HB2.out.trans (hb4.mono HB2.out.size))
      clear ho3 hown4 hr4 hb4 R3 HU
      go_wp2_with fail
      refine (samei_any _ _ _ _ _ _ _ R34.out R4.out (by omega)).mono ?_; rintro e w4 ⟨rfl, k4, rfl⟩
      have HB4 := Lib.hid (below_drewN HB3.out k4)
      clear R34 R4 HB3 C1 C2 I1 I2 O1
      rcases hn with ⟨h1, h2⟩ | h1
      · go_wp2
        go_ret
        exact ⟨rfl, HB4.out⟩
      · go_wp2
        go_ret
        exact ⟨rfl, HB4.out⟩
  · clear hcode hf
    go_enter Tryd.func5, Tryd.ntmps5
    go_wp2_with fail
    refine (big_great _ _ _ _ (by omega) hlen).mono ?_; rintro e w' ⟨rfl, rfl⟩
    go_wp2
    go_ret
    exact ⟨rfl, Below.refl _ _⟩
end Go.Proofs.YtkbnnlhilnnpeaaDoor
