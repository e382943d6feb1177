/-
  The walk of laws.FnLines.
-/
import Derived.Test.YtdhncpkcbeggmaaDoorW5
import Derived.Test.YtdhncpkcbeggmaaDoorShaped
import Derived.Test.YtdhncpkcbeggmaaDoorWords
import Derived.Test.YtdhncpkcbeggmaaDoorWordsJ
import Derived.Test.YtdhncpkcbeggmaaDoorJoinMath
import Derived.Test.YtdhncpkcbeggmaaDoorDrawTexts
import Derived.Test.YtdhncpkcbeggmaaDoorTold
set_option linter.unusedVariables false
namespace Go.Proofs.YtdhncpkcbeggmaaDoor
open Go.RowKit
attribute [local go_sem ↓] Go.wp_at_zero Go.wp_at_succ

theorem facts_FnLines {p : Prop} {W : World} (_ : p) (hsh : W.ShapedOpen Tryd.prog) : SomeMax W ∧ 3 < W.heap.size := some_max_of hsh
theorem joinB_take (L : List ByteArray) (k : Nat) (h : k < L.length) (h0 : 0 < k) : joinB (L.take (k + 1)) = (joinB (L.take k) ++ ⟨#[10]⟩) ++ L[k] := by
  rw [List.take_succ_eq_append_getElem h, joinB_snoc _ _ (by intro e; have := congrArg List.length e; rw [List.length_take] at this; simp only [List.length_nil] at this; omega)]
  rfl
theorem joinB_take0 (L : List ByteArray) (h : 0 < L.length) : joinB (L.take (0 + 1)) = joinB (L.take 0) ++ L[0] := by
  rw [List.take_succ_eq_append_getElem h]
  show joinB ([] ++ [L[0]]) = joinB [] ++ L[0]
  rw [List.nil_append, joinB_one, joinB_nil]
  conv => lhs; rw [← str_of L[0], ← List.nil_append L[0].data.toList, ← str_append, str_of]
theorem spreadB_take (L : List ByteArray) (k : Nat) (h : k < L.length) : spreadB (L.take (k + 1)) = (spreadB (L.take k) ++ L[k]) ++ ⟨#[32]⟩ := by
  rw [List.take_succ_eq_append_getElem h, spreadB_snoc, ByteArray.append_assoc]
  rfl

set_option maxRecDepth 100000 in
set_option maxHeartbeats 3200000 in
theorem walk_FnLines (a0 : Option Addr) (len0 cap0 : Nat) (z0 : List Int) (w : World) (w0 : IsRow .u8 w a0 len0 cap0 z0) (hf : SomeMax w ∧ 3 < w.heap.size) :
    Calls Tryd.prog 4 #[.slice a0 len0 cap0] w fun e w' => e = .returned (.bool true) ∧ Below w.heap.size w w' := by
  obtain ⟨hcode, hlen⟩ := w0.code
  clear w0
  have HF := Lib.hid hf
  clear hf
  by_cases hl : len0 ≤ 1048576
  · obtain ⟨z, hz⟩ := hcode.told
    have HC := Lib.hid hcode
    have HZ := Lib.hid hz
    clear hcode hz
    go_enter Tryd.func4, Tryd.ntmps4
    go_wp2_with fail
    refine (big_le _ _ _ _ hl).mono ?_; rintro e w' ⟨rfl, rfl⟩
    go_wp2_with fail
    refine (draw_lines _ _ _ _ HC.out hl).mono ?_; rintro e w1 ⟨s, rfl, hs, hb1⟩
    have HJ := Lib.hid (joinB_lines s)
    have hLle := linesR_le s
    have HSZ := Lib.hid (show ∀ x ∈ linesR s, x.size ≤ 14 from fun x hx => by
      unfold linesR at hx
      split at hx
      · cases hx
      · have := linesB_size s x hx; omega)
    have CS := fun W => Lib.hid (lines_spec s W (by omega))
    have CI := fun W hm => Lib.hid (lines_impl s W (by omega) hm)
    generalize linesR s = L1 at *
    obtain ⟨n1, hn1⟩ : ∃ n, L1.length = n := ⟨_, rfl⟩
    have HN1 := Lib.hid hn1
    rw [hn1] at hLle CS CI
    clear hn1
    go_wp2_with fail
    refine (CI _ (some_below HF.out.1 hb1 HF.out.2)).out.mono ?_; rintro e w2 ⟨A1, c1, rfl, ho1, hb2⟩
    have hb12 := hb1.trans (hb2.mono hb1.size)
    clear hb1 hb2 CI
    go_wp2
    go_loopw [5, 6] (fun sv i wr => ∃ (k : Nat) (t : ByteArray), k ≤ n1 ∧ i = .int .i64 k ∧ sv = .string t ∧ Hid (t = joinB (L1.take k)) ∧ t.size ≤ 16 * k ∧ wr = w2) (fun _ i _ => n1 - (intOf i).toNat)
    case atStart => exact ⟨0, ⟨#[]⟩, Nat.zero_le _, rfl, rfl, Lib.hid rfl, by decide, by first | rfl | trivial⟩
    case round =>
      obtain ⟨k, t, hk, rfl, rfl, ht, hts, rfl⟩ := hrel
      by_cases hlt : k < n1
      · obtain ⟨g, rfl, hg, hc⟩ := ho1.reads.2 k (by rw [HN1.out]; exact hlt)
        have hsz := HSZ.out (L1[k]'(by rw [HN1.out]; exact hlt)) (List.getElem_mem _)
        have hk0 : (0 : Int) ≤ (k : Int) := by omega
        have hk1 : (k : Int) < (n1 : Int) := by omega
        rcases Nat.eq_zero_or_pos k with h0 | h0
        · subst h0
          have hstep := Lib.hid (joinB_take0 L1 (by rw [HN1.out]; exact hlt))
          generalize L1[0]'(by rw [HN1.out]; exact hlt) = x at *
          have hsz2 : (t ++ x).size = t.size + x.size := ByteArray.size_append
          go_wp2
          go_roundw
          case rel => exact ⟨0 + 1, _, by omega, by go_num, rfl, Lib.hid (by rw [hstep.out, ht.out]), by omega, by first | rfl | trivial⟩
          case measure => simp [intOf] <;> omega
        · have hstep := Lib.hid (joinB_take L1 k (by rw [HN1.out]; exact hlt) h0)
          generalize L1[k]'(by rw [HN1.out]; exact hlt) = x at *
          have hk2 : (0 : Int) < (k : Int) := by omega
          have hsz1 : (t ++ ⟨#[10]⟩ : ByteArray).size = t.size + 1 := ByteArray.size_append
          have hsz2 : ((t ++ ⟨#[10]⟩ : ByteArray) ++ x).size = t.size + 1 + x.size := by rw [ByteArray.size_append, hsz1]
          go_wp2
          go_roundw
          case rel => exact ⟨k + 1, _, by omega, by go_num, rfl, Lib.hid (by rw [hstep.out, ht.out]), by omega, by first | rfl | trivial⟩
          case measure => simp [intOf] <;> omega
      · have hk1 : ¬ (k : Int) < (n1 : Int) := by omega
        obtain rfl : s = t := by
          rw [ht.out, List.take_of_length_le (by rw [HN1.out]; omega)]
          exact HJ.out.symm
        have hzs := drawnWords_size z len0
        have CW := fun W hc => Lib.hid (words_told z W a0 len0 cap0 hc hl)
        generalize drawnWords z len0 = s2 at *
        have hL2 := wordsR_le s2
        have HS2 := Lib.hid (show ∀ x ∈ wordsR s2, x.size ≤ 14 from fun x hx => by have := wordsR_size s2 x hx; omega)
        have CS2 := fun W => Lib.hid (words_spec s2 W (by omega))
        have CI2 := fun W => Lib.hid (words_impl s2 W (by omega))
        have HW2 := Lib.hid (words_spread s2)
        generalize wordsR s2 = L2 at *
        obtain ⟨n2, hn2⟩ : ∃ n, L2.length = n := ⟨_, rfl⟩
        have HN2 := Lib.hid hn2
        rw [hn2] at hL2 CS2 CI2
        clear hn2 ht hts
        go_wp2_with fail
        refine (CW _ ((HZ.out.below hb12 (Nat.le_refl _)).up hb12.size)).out.mono ?_; rintro e w3 ⟨rfl, hb3⟩
        have ho1 := ho1.below hb3
        have hb13 := hb12.trans (hb3.mono hb12.size)
        clear hb12 hb3
        go_wp2_with fail
        refine (CI2 _).out.mono ?_; rintro e w4 ⟨A2, c2, rfl, ho2, hb4⟩
        have ho1 := ho1.below hb4
        have hb14 := hb13.trans (hb4.mono hb13.size)
        clear hb13 hb4
        have HX := Lib.hid ho1
        clear ho1
        go_wp2
        go_loopw [8, 9] (fun sv i wr => ∃ (k : Nat) (t : ByteArray), k ≤ n2 ∧ i = .int .i64 k ∧ sv = .string t ∧ Hid (t = spreadB (L2.take k)) ∧ t.size ≤ 16 * k ∧ wr = w4) (fun _ i _ => n2 - (intOf i).toNat)
        case atStart => exact ⟨0, ⟨#[]⟩, Nat.zero_le _, rfl, rfl, Lib.hid rfl, by decide, by first | rfl | trivial⟩
        case round =>
          obtain ⟨k, t, hk, rfl, rfl, ht, hts, rfl⟩ := hrel
          by_cases hlt : k < n2
          · obtain ⟨g, rfl, hg, hc⟩ := ho2.reads.2 k (by rw [HN2.out]; exact hlt)
            have hsz := HS2.out (L2[k]'(by rw [HN2.out]; exact hlt)) (List.getElem_mem _)
            have hk0 : (0 : Int) ≤ (k : Int) := by omega
            have hk1 : (k : Int) < (n2 : Int) := by omega
            have hstep := Lib.hid (spreadB_take L2 k (by rw [HN2.out]; exact hlt))
            generalize L2[k]'(by rw [HN2.out]; exact hlt) = x at *
            have hsz1 : (t ++ x).size = t.size + x.size := ByteArray.size_append
            have hsz2 : ((t ++ x) ++ ⟨#[32]⟩ : ByteArray).size = t.size + x.size + 1 := by rw [ByteArray.size_append, hsz1]; rfl
            go_wp2
            go_roundw
            case rel => exact ⟨k + 1, _, by omega, by go_num, rfl, Lib.hid (by rw [hstep.out, ht.out]), by omega, by first | rfl | trivial⟩
            case measure => simp [intOf] <;> omega
          · have hk1 : ¬ (k : Int) < (n2 : Int) := by omega
            have ht2 : wordsR t = L2 := by
              rw [ht.out, List.take_of_length_le (by rw [HN2.out]; omega)]
              exact HW2.out
            have CI3 := fun W => Lib.hid (words_impl t W (by omega))
            rw [ht2, HN2.out] at CI3
            have HB := Lib.hid hb14
            have HO2 := Lib.hid ho2
            clear ht ht2 hts hb14 ho2
            go_wp2_with fail
            refine (CS _).out.mono ?_; rintro e w5 ⟨A3, c3, rfl, ho3, hb5⟩
            have ho1 := HX.out.below hb5
            have ho2 := HO2.out.below hb5
            have hb15 := HB.out.trans (hb5.mono HB.out.size)
            clear HX HO2 HB hb5
            go_wp2_with fail
            refine (sames_any _ _ _ _ _ _ L1 ho1.reads ho3.reads (by omega)).mono ?_; rintro e w6 ⟨rfl, q1, rfl⟩
            have ho2 := ho2.drewN q1
            have hb16 := below_drewN hb15 q1
            clear ho1 ho3 hb15
            go_wp2_with fail
            refine (CI3 _).out.mono ?_; rintro e w7 ⟨A4, c4, rfl, ho4, hb7⟩
            have ho2 := ho2.below hb7
            have hb17 := hb16.trans (hb7.mono hb16.size)
            clear hb16 hb7
            go_wp2_with fail
            refine (sames_any _ _ _ _ _ _ L2 ho4.reads ho2.reads (by omega)).mono ?_; rintro e w8 ⟨rfl, q2, rfl⟩
            have ho2 := ho2.drewN q2
            have hb18 := below_drewN hb17 q2
            clear ho4 hb17
            go_wp2_with fail
            refine (CW _ ((HZ.out.below hb18 (Nat.le_refl _)).up hb18.size)).out.mono ?_; rintro e w9 ⟨rfl, hb9⟩
            have ho2 := ho2.below hb9
            have hb19 := hb18.trans (hb9.mono hb18.size)
            clear hb18 hb9
            go_wp2_with fail
            refine (CS2 _).out.mono ?_; rintro e w10 ⟨A5, c5, rfl, ho5, hb10⟩
            have ho2 := ho2.below hb10
            have hb20 := hb19.trans (hb10.mono hb19.size)
            clear hb19 hb10
            go_wp2_with fail
            refine (sames_any _ _ _ _ _ _ L2 ho2.reads ho5.reads (by omega)).mono ?_; rintro e w11 ⟨rfl, q3, rfl⟩
            have hb21 := below_drewN hb20 q3
            clear ho2 ho5 hb20
            go_wp2
            go_ret
            exact ⟨rfl, hb21⟩
  · have hl' : 1048576 < len0 := by omega
    go_enter Tryd.func4, Tryd.ntmps4
    go_wp2_with fail
    refine (big_gt _ _ _ _ hl' hlen).mono ?_; rintro e w' ⟨rfl, rfl⟩
    go_wp2
    go_ret
    exact ⟨rfl, Below.refl _ _⟩
end Go.Proofs.YtdhncpkcbeggmaaDoor
