/-
  The walk of laws.FnExpand: it returns true at every code.
-/
import Derived.Test.YtioijcgokdnofaaW24
import Derived.Test.YtioijcgokdnofaaKeyDraw
import Derived.Test.YtioijcgokdnofaaApartKey
import Derived.WalkKit
import Derived.LoopTactic
import Derived.OwnWalk
import Derived.WalkLawsBesides
import Derived.WalkSpells
import Derived.Outline
import Derived.Below
import Derived.Deep.RegionHeld3
import Derived.Deep.QuietTactic
import Derived.BigQuiet
import Derived.IntWalk
set_option linter.unusedVariables false
namespace Go.Proofs.Ytioijcgokdnofaa
open Go.RowKit

theorem nums_at (s : ByteArray) (n L j : Nat) (h : j < (nums (upTo (ew s n) L)).length) : (nums (upTo (ew s n) L))[j] = ((ew s n j).toNat : Int) := by
  simp only [nums, List.getElem_map, upTo_get]
/-- the cells of a list of words that can be read. -/
theorem irow_word {w : World} {A : Option Addr} {s : ByteArray} {n L j : Nat} (h : IRow w A L (nums (upTo (ew s n) L))) (hj : j < L) : ∃ b o, A = some ⟨b, o, none⟩ ∧ b < w.heap.size ∧ w.cell? ⟨b, o + j, none⟩ = some (.int .i64 ((ew s n j).toNat : Int)) := by
  obtain ⟨b, o, hA, hb, hc⟩ := h.2 j (by rw [nums_length, upTo_length]; exact hj)
  rw [nums_at] at hc
  exact ⟨b, o, hA, hb, hc⟩
set_option maxRecDepth 100000 in
set_option maxHeartbeats 1600000 in
theorem walk_FnExpand (a0 : Option Addr) (len0 cap0 : Nat) (z0 : List Int) (w : World) (w0 : IsRow .u8 w a0 len0 cap0 z0) :
    Calls Try.prog 5 #[.slice a0 len0 cap0] w fun e w' => e = .returned (.bool true) ∧ Below w.heap.size w w' := by
  obtain ⟨hcode, hlen⟩ := w0.code
  clear w0
  by_cases hl : len0 ≤ 1048576
  · have H := Lib.hid hcode
    clear hcode
    go_enter Try.func5, Try.ntmps5
    go_wp2_with fail
    refine (big_small _ _ _ _ hl).mono ?_; rintro e w' ⟨rfl, rfl⟩
    go_wp2_with fail
    refine (draw_Expand _ _ _ _ H.out hl).mono ?_; rintro e w1 ⟨s, rfl, hs, hb1⟩
    have hlen2 := exInts_len s
    have C1 := fun W => Lib.hid (KeyOk_impl s W)
    have C2 := fun W => Lib.hid (KeyOk_spec s W)
    have C3 := fun W => Lib.hid (Rounds_impl s W)
    have C4 := fun W => Lib.hid (Rounds_spec s W)
    have C5 := fun W => Lib.hid (Expand_impl s W)
    have C6 := fun W => Lib.hid (Expand_spec s W)
    have HB1 := Lib.hid hb1
    clear hb1
    by_cases hk : kOk s
    · obtain ⟨n, hn⟩ := hk.of
      rw [decide_eq_true hk] at C1 C2
      simp only [kRi_of s n hn] at C3 C4
      rw [exInts_of s n hn] at C5 C6 hlen2
      obtain ⟨L, hL⟩ : ∃ L, kL n = L := ⟨_, rfl⟩
      have hLn : L = 4 * (n + 7) := by rw [← hL]; rfl
      rw [hL] at C5 C6 hlen2
      have hll : (nums (upTo (ew s n) L)).length = L := by rw [nums_length, upTo_length]
      have HWD : Hid (∀ w' A j, IRow w' A L (nums (upTo (ew s n) L)) → j < L → ∃ b o, A = some ⟨b, o, none⟩ ∧ b < w'.heap.size ∧ w'.cell? ⟨b, o + j, none⟩ = some (.int .i64 ((ew s n j).toNat : Int))) := Lib.hid (fun w' A j => irow_word)
      generalize nums (upTo (ew s n) L) = l at *
      have O1 : Hid (∀ {e : Ending} {W W' : World}, OwnInts W l e W' → ∃ A c, e = .returned (.slice A L c) ∧ W'.ownsRow W.heap.size 3 1 (.slice A L c) L (cells64 l) ∧ IRow W' A L l ∧ L ≤ c ∧ c ≤ 9223372036854775807 ∧ Below W.heap.size W W') := Lib.hid (fun h => by rw [← hll]; exact OwnInts.open h)
      have HLN := Lib.hid hLn
      have hL60 : (L : Int) ≤ 60 := by have := hn.le; omega
      clear hll hL hLn
      go_wp2_with fail
      refine (C5 _).out.mono ?_; rintro e w2 ho2
      obtain ⟨A2, c2, rfl, hown2, hr2, hc2, hcm2, hb2⟩ := O1.out ho2
      have R2 := Lib.hid hr2
      have HB2 := Lib.hid (HB1.out.trans (hb2.mono HB1.out.size))
      clear ho2 hown2 hr2 hb2
      go_wp2_with fail
      refine (C6 _).out.mono ?_; rintro e w3 ho3
      obtain ⟨A3, c3, rfl, hown3, hr3, hc3, hcm3, hb3⟩ := O1.out ho3
      have R23 := Lib.hid (R2.out.below hb3)
      have R3 := Lib.hid hr3
      have HB3 := Lib.hid (HB2.out.trans (hb3.mono HB2.out.size))
      clear ho3 hown3 hr3 hb3
      go_wp2_with fail
      refine (samei_any _ _ _ _ _ _ _ R23.out R3.out (by omega)).mono ?_; rintro e w4 ⟨rfl, k4, rfl⟩
      have R4 := Lib.hid (R23.out.drewN k4)
      have HB4 := Lib.hid (below_drewN HB3.out k4)
      clear R23 R3 HB3 R2
      generalize w3.drewN k4 = w4 at *
      go_wp2_with fail
      refine (C1 _).out.mono ?_; rintro e w' ⟨rfl, rfl⟩
      go_wp2_with fail
      refine (C2 _).out.mono ?_; rintro e w' ⟨rfl, rfl⟩
      go_wp2_with fail
      refine (C3 _).out.mono ?_; rintro e w' ⟨rfl, rfl⟩
      go_wp2_with fail
      refine (C4 _).out.mono ?_; rintro e w' ⟨rfl, rfl⟩
      go_wp2_with fail
      refine (C2 _).out.mono ?_; rintro e w' ⟨rfl, rfl⟩
      have hle := hn.le
      have hsz := hn.1
      have hv : (s.size : Int) / 4 = (n : Int) := by omega
      have hz : (s.size : Int) ≤ 32 := by omega
      have h8 : (n : Int) ≤ 8 := by omega
      have h4 : (4 : Int) ≤ (n : Int) := by omega
      have HSZ := Lib.hid hsz
      clear hsz hlen2 C1 C2 C4 C5 C6
      go_wp2
      go_loopw [6] (fun v wr => ∃ k : Nat, k ≤ n ∧ v = .int .i64 k ∧ IRow wr A2 L l ∧ Below w.heap.size w wr) (fun v _ => n - (intOf v).toNat)
      case atStart => exact ⟨0, by omega, rfl, R4.out, HB4.out⟩
      case round =>
        obtain ⟨k, hk2, rfl, hir, hbel⟩ := hrel
        by_cases hlt : k < n
        · obtain ⟨b, o, rfl, hb, hc⟩ := HWD.out _ _ _ hir (show k < L by have := HLN.out; omega)
          rw [ew_lo s n k hlt] at hc
          have HG := fun W => Lib.hid (GetWord_at_spec s (4 * k) (by have := HSZ.out; omega) (by omega) W)
          rw [show ((4 * k : Nat) : Int) = 4 * (k : Int) by omega] at HG
          have hgl := w32_lt (getW s (4 * k))
          generalize getW s (4 * k) = y at *
          have hk0 : (0 : Int) ≤ (k : Int) := by omega
          have hk1 : (k : Int) < (n : Int) := by omega
          have hkL : (k : Int) < (L : Int) := by have := HLN.out; omega
          have q4 : IntKind.i64.wrap (4 * (k : Int)) = 4 * (k : Int) := IntWalk.i64_in _ (by omega)
          have HI := Lib.hid hir
          have HB := Lib.hid hbel
          clear hir hbel
          go_wp2
          go_region_held3 (fun w' => w'.cell? ⟨b, o + k, none⟩ = some (.int .i64 (y.toNat : Int)))
            (first
              | assumption
              | exact hc
              | exact (hb5.cell (p := ⟨b, o + k, none⟩) (by simpa using hb)).trans hc)
            (first | (go_at_call 21; refine (HG _).out.mono ?_; rintro e w5 ⟨rfl, hb5⟩))
          have hI5 := (show IRow wr.drew _ _ _ from HI.out).below hb5
          have hB5 := (HB.out.drew).trans (hb5.mono HB.out.size)
          have HI5 := Lib.hid hI5
          have HB5 := Lib.hid hB5
          clear hb5 hI5 hB5 HG q4
          go_wp2
          go_roundw
          case rel => exact ⟨k + 1, by omega, by go_num, HI5.out, HB5.out⟩
          case measure => simp [intOf]; omega
        · obtain rfl : n = k := by omega
          have HI := Lib.hid hir
          have HB := Lib.hid hbel
          clear hir hbel R4 HB4
          go_wp2
          go_loopw [7] (fun v wr => ∃ k : Nat, n + 1 ≤ k ∧ k ≤ L ∧ v = .int .i64 k ∧ IRow wr A2 L l ∧ Below w.heap.size w wr) (fun v _ => L - (intOf v).toNat)
          case atStart => exact ⟨n + 1, by omega, by have := HLN.out; omega, by go_num, HI.out, HB.out⟩
          case round =>
            obtain ⟨k, hnk, hk3, rfl, hir, hbel⟩ := hrel
            have HI := Lib.hid hir
            have HB := Lib.hid hbel
            have HNK := Lib.hid hnk
            by_cases hlt : k < L
            · obtain ⟨b, o, rfl, hb, hc⟩ := HWD.out _ _ _ hir hlt
              obtain ⟨a, ha⟩ : ∃ a, k = a + n := ⟨k - n, by omega⟩
              obtain ⟨d, hd⟩ : ∃ d, k = d + 1 := ⟨k - 1, by omega⟩
              have hkL : (k : Int) < (L : Int) := by omega
              have hk0 : (0 : Int) ≤ (k : Int) := by omega
              obtain ⟨b1, o1, e1, hb1, hca⟩ := HWD.out _ _ a hir (by omega)
              obtain ⟨b2, o2, e2, hb2, hcd⟩ := HWD.out _ _ d hir (by omega)
              injection e1 with e1; injection e1 with e1 e1'; subst e1 e1'
              injection e2 with e2; injection e2 with e2 e2'; subst e2 e2'
              have hnx : ew s n k = ew s n a ^^^ growW n k (ew s n d) := by
                rw [ew_hi s n k (by omega) (by omega), show k - n = a by omega, show k - 1 = d by omega]
              obtain ⟨m, hm⟩ : ∃ m, k % n = m := ⟨_, rfl⟩
              obtain ⟨m8, hm8⟩ : ∃ m, k % 8 = m := ⟨_, rfl⟩
              have em : (k : Int).tmod (n : Int) = (m : Int) := by rw [Int.tmod_eq_emod_of_nonneg (by omega), ← hm]; rfl
              have em8 : (k : Int).tmod 8 = (m8 : Int) := by rw [Int.tmod_eq_emod_of_nonneg (by omega)]; omega
              have hml : m ≤ 8 := by have := Nat.mod_lt k (show 0 < n by omega); omega
              have hmi : (m : Int) ≤ 8 := by omega
              have hmi8 : (m8 : Int) ≤ 8 := by omega
              have hn0 : ¬ (n : Int) = 0 := by omega
              have hnn : ¬ n = 0 := by omega
              clear hir hbel
              have q1 : IntKind.i64.wrap ((k : Int) - (n : Int)) = (a : Int) := by rw [show (k : Int) - (n : Int) = (a : Int) by omega]; exact IntWalk.i64_in _ (by omega)
              have q2 : IntKind.i64.wrap ((k : Int) - 1) = (d : Int) := by rw [show (k : Int) - 1 = (d : Int) by omega]; exact IntWalk.i64_in _ (by omega)
              have ha0 : (0 : Int) ≤ (a : Int) := by omega
              have haL : (a : Int) < (L : Int) := by omega
              have hd0 : (0 : Int) ≤ (d : Int) := by omega
              have hdL : (d : Int) < (L : Int) := by omega
              by_cases hm0 : m = 0
              · have g1 : ((m : Int) != 0) = false := by rw [hm0]; rfl
                clear hm0 hm hm8 ha hd hnx hca hcd hc q1 q2 em8 hmi8 hnk hml
                go_wp2
                go_quiet (fail)
                go_wp2
                go_roundw
                case rel => exact ⟨k + 1, by have := HNK.out; omega, by omega, by go_num, HI.out.drewN _, below_drewN HB.out _⟩
                case measure => simp [intOf]; omega
              · have g1 : ((m : Int) != 0) = true := bne_iff_ne.2 (by omega)
                by_cases hb8 : n = 8 ∧ k % 8 = 4
                · have g2 : ((n : Int) != 8) = false := by rw [hb8.1]; rfl
                  have g3 : ((m8 : Int) != 4) = false := by rw [show m8 = 4 by omega]; rfl
                  clear hm0 hm hm8 ha hd hnx hca hcd hc q1 q2 hnk hml hb8
                  go_wp2
                  go_quiet (fail)
                  go_wp2
                  go_roundw
                  case rel => exact ⟨k + 1, by have := HNK.out; omega, by omega, by go_num, HI.out.drewN _, below_drewN HB.out _⟩
                  case measure => simp [intOf]; omega
                · have hg : growW n k (ew s n d) = ew s n d := growW_x n k _ (by omega) hb8
                  rw [hg] at hnx
                  have hX := i64_xor32 (ew s n a) (ew s n d)
                  rw [← hnx] at hX
                  generalize ew s n a = x at *
                  generalize ew s n d = y at *
                  generalize ew s n k = t at *
                  by_cases hn8 : n = 8
                  · have g2 : ((n : Int) != 8) = false := by rw [hn8]; rfl
                    have g3 : ((m8 : Int) != 4) = true := bne_iff_ne.2 (by omega)
                    clear hm0 hm hm8 ha hd hnx hnk hml hb8 hg hn8
                    go_wp2
                    go_quiet (fail)
                    go_wp2
                    go_roundw
                    case rel => exact ⟨k + 1, by have := HNK.out; omega, by omega, by go_num, HI.out.drewN _, below_drewN HB.out _⟩
                    case measure => simp [intOf]; omega
                  · have g2 : ((n : Int) != 8) = true := bne_iff_ne.2 (by omega)
                    clear hm0 hm hm8 ha hd hnx hnk hml hb8 hg hn8 em8 hmi8
                    go_wp2
                    go_quiet (fail)
                    go_wp2
                    go_roundw
                    case rel => exact ⟨k + 1, by have := HNK.out; omega, by omega, by go_num, HI.out.drewN _, below_drewN HB.out _⟩
                    case measure => simp [intOf]; omega
            · obtain rfl : L = k := by omega
              have hr : 4 * ((n : Int) + 6) + 4 = (L : Int) := by have := HLN.out; omega
              have hr2 : ((L : Int) == 4 * ((n : Int) + 6) + 4) = true := beq_iff_eq.2 hr.symm
              clear hr
              go_wp2_with fail
              refine (C3 _).out.mono ?_; rintro e w' ⟨rfl, rfl⟩
              go_wp2
              go_ret
              exact ⟨rfl, HB.out⟩
    · rw [decide_eq_false hk] at C1 C2
      simp only [kRi_no s hk] at C3 C4
      simp only [exInts_no s hk] at C5 C6
      clear hk hlen2
      go_wp2_with fail
      refine (C5 _).out.mono ?_; rintro e w2 ho2
      obtain ⟨A2, c2, rfl, hown2, hr2, hc2, hcm2, hb2⟩ := ho2.open
      have R2 := Lib.hid hr2
      have HB2 := Lib.hid (HB1.out.trans (hb2.mono HB1.out.size))
      clear ho2 hown2 hr2 hb2
      go_wp2_with fail
      refine (C6 _).out.mono ?_; rintro e w3 ho3
      obtain ⟨A3, c3, rfl, hown3, hr3, hc3, hcm3, hb3⟩ := ho3.open
      have R23 := Lib.hid (R2.out.below hb3)
      have R3 := Lib.hid hr3
      have HB3 := Lib.hid (HB2.out.trans (hb3.mono HB2.out.size))
      clear ho3 hown3 hr3 hb3
      go_wp2_with fail
      refine (samei_any _ _ _ _ _ _ _ R23.out R3.out (by simp)).mono ?_; rintro e w4 ⟨rfl, k4, rfl⟩
      go_wp2_with fail
      refine (C1 _).out.mono ?_; rintro e w' ⟨rfl, rfl⟩
      go_wp2_with fail
      refine (C2 _).out.mono ?_; rintro e w' ⟨rfl, rfl⟩
      go_wp2_with fail
      refine (C3 _).out.mono ?_; rintro e w' ⟨rfl, rfl⟩
      go_wp2_with fail
      refine (C4 _).out.mono ?_; rintro e w' ⟨rfl, rfl⟩
      go_wp2_with fail
      refine (C2 _).out.mono ?_; rintro e w' ⟨rfl, rfl⟩
      go_wp2_with fail
      refine (C3 _).out.mono ?_; rintro e w' ⟨rfl, rfl⟩
      go_wp2
      go_ret
      exact ⟨rfl, below_drewN HB3.out _⟩
  · go_enter Try.func5, Try.ntmps5
    go_wp2_with fail
    refine (big_great _ _ _ _ (by omega) hlen).mono ?_; rintro e w' ⟨rfl, rfl⟩
    go_wp2
    go_ret
    exact ⟨rfl, Below.refl _ _⟩
end Go.Proofs.Ytioijcgokdnofaa
