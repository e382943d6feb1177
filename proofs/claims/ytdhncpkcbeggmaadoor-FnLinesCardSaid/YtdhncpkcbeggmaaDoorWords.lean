/-
  What spec.Words answers: what lies between blanks.
-/
import Derived.Test.YtdhncpkcbeggmaaDoorProg
import Derived.Test.YtdhncpkcbeggmaaDoorDecMath
import Derived.Test.YtdhncpkcbeggmaaDoorStrs
import Derived.Test.YtdhncpkcbeggmaaDoorWordsMath
import Derived.Test.YtdhncpkcbeggmaaDoorListKit
import Derived.WalkKit
import Derived.LoopTactic
import Derived.OwnWalk
import Derived.WalkLawsBesides
import Derived.WalkSpells
import Derived.Outline
import Derived.Below
import Derived.Laws.AppendOwn
import Derived.Laws.OwnMore
import Derived.Deep.QuietTactic
import Derived.Deep.Draws
import Derived.BigQuiet
import Derived.WalkSmall
import Derived.IntWalk
import Derived.Deep.RegionHeld3
import Derived.Deep.DrawnRows
import Derived.Deep.AppendLies
import Derived.Lib.SlBytesRow
import Derived.Laws.MakeOwn
set_option linter.unusedVariables false
namespace Go.Proofs.YtdhncpkcbeggmaaDoor
open Go.RowKit
attribute [local go_sem ↓] Go.wp_at_zero Go.wp_at_succ

theorem gap_int (b : UInt8) : gap b = (((b.toNat : Int) == 32) || ((b.toNat : Int) == 9)) := by
  unfold gap
  have e (c : UInt8) : (b == c) = ((b.toNat : Int) == (c.toNat : Int)) := by
    rw [Bool.eq_iff_iff, beq_iff_eq, beq_iff_eq, ← UInt8.toNat_inj]; omega
  rw [e 32, e 9]; rfl
/-- l01Blank. -/
theorem blank_any (b : UInt8) (w : World) :
    Calls Tryd.prog 36 #[.int .u8 (b.toNat : Int)] w fun e w' => e = .returned (.bool (gap b)) ∧ w' = w := by
  have h := gap_int b
  go_enter Tryd.func36, Tryd.ntmps36
  go_wp2
  all_goals go_ret
  all_goals refine ⟨?_, rfl⟩
  all_goals (rw [h]; simp_all)

/-- the inner loop has begun at a letter. -/
def Letter (s : ByteArray) (k : Nat) : Prop := ∃ h : k < s.size, gap (s[k]'h) = false

set_option maxRecDepth 100000 in
set_option maxHeartbeats 1600000 in
theorem words_spec (s : ByteArray) (w : World) (hs : s.size ≤ 1073741824) :
    Calls Tryd.prog 21 #[.string s] w fun e w' => ∃ A c, e = .returned (.slice A (wordsR s).length c) ∧ Own w' w.heap.size A (wordsR s).length c (wordsR s) ∧ Below w.heap.size w w' := by
  obtain ⟨i0, hi, hz0, hz1, hz2⟩ := info_parts Lk.infoS
  go_enter Tryd.func21, Tryd.ntmps21
  go_wp2
  go_loopw [3, 4, 5] (fun v i _ wr => ∃ (k n : Nat) (pre : List ByteArray), k ≤ s.size ∧ n ≤ k ∧ i = .int .i64 k ∧ Hid (pre.length = n) ∧ wr.ownsRow w.heap.size 9 1 v n (pre.map Value.string) ∧ WordsAt s pre k k ∧ Below w.heap.size w wr) (fun _ i _ _ => s.size - (intOf i).toNat)
  case atStart => exact ⟨0, 0, [], Nat.zero_le _, Nat.le_refl _, rfl, Lib.hid rfl, World.ownsRow_lit w #[] 0 (Nat.le_refl _) (by simp [maxLen]) rfl, WordsAt.start s, (Below.refl _ _).alloc (Nat.le_refl _) _⟩
  case round =>
    obtain ⟨k, n, pre, hk, hn, rfl, hpl, hown, hat0, hbel⟩ := hrel
    by_cases hlt : k < s.size
    · have hk1 : (k : Int) < (s.size : Int) := by omega
      have hk0 : (0 : Int) ≤ (k : Int) := by omega
      by_cases hc : gap (s[k]'hlt) = true
      · have hstep := Lib.hid (hat0.blank hlt hc)
        have hb := blank_any (s[k]'hlt) wr
        rw [hc] at hb
        clear hc hat0
        go_wp2_with fail
        refine hb.mono ?_; rintro e w1 ⟨rfl, rfl⟩
        go_wp2
        go_roundw
        case rel => exact ⟨k + 1, n, pre, by omega, by omega, by go_num, hpl, hown, hstep.out, hbel⟩
        case measure => simp [intOf]; omega
      · have hc := Bool.eq_false_iff.2 hc
        have hL : Hid (Letter s k) := Lib.hid ⟨hlt, hc⟩
        have hb := blank_any (s[k]'hlt) wr
        rw [hc] at hb
        clear hc
        go_wp2_with fail
        refine hb.mono ?_; rintro e w1 ⟨rfl, rfl⟩
        go_wp2
        clear hb
        go_loopw [5] (fun e wq => ∃ j : Nat, k ≤ j ∧ j ≤ s.size ∧ e = .int .i64 j ∧ wq = w1 ∧ WordsAt s pre k j) (fun e _ => s.size - (intOf e).toNat)
        case atStart => exact ⟨k, Nat.le_refl _, hk, by first | rfl | trivial, by first | rfl | trivial, hat0⟩
        case round =>
          obtain ⟨j, hkj, hj, rfl, rfl, hat⟩ := hrel
          have hj0 : (0 : Int) ≤ (j : Int) := by omega
          by_cases hend : j < s.size ∧ ∃ h : j < s.size, gap (s[j]'h) = false
          · obtain ⟨hjl, _, hg⟩ := hend
            have hj1 : (j : Int) < (s.size : Int) := by omega
            have hstep := Lib.hid (hat.other hkj hjl hg)
            have hb := blank_any (s[j]'hjl) wr
            rw [hg] at hb
            clear hg hat
            go_wp2_with fail
            refine hb.mono ?_; rintro e w2 ⟨rfl, rfl⟩
            clear hb
            go_wp2
            go_roundw
            case rel => exact ⟨j + 1, by omega, by omega, by go_num, by first | rfl | trivial, hstep.out⟩
            case measure => simp [intOf]; omega
          · have hkj1 : k < j := by
              rcases Nat.lt_or_eq_of_le hkj with h | rfl
              · exact h
              · exact absurd ⟨hlt, hL.out⟩ hend
            have hki : (k : Int) ≤ (j : Int) := by omega
            have hji : (j : Int) ≤ (s.size : Int) := by omega
            have hstep : Hid (WordsAt s (pre ++ [s.extract k j]) j j) := by
              by_cases hjl : j < s.size
              · have hg : gap (s[j]'hjl) = true := by
                  rw [← Bool.not_eq_false]
                  exact fun h => hend ⟨hjl, hjl, h⟩
                exact Lib.hid (hat.ended hkj1 hjl hg)
              · obtain rfl : j = s.size := by omega
                exact Lib.hid (hat.last hkj1 _ (Nat.le_refl _))
            have HPL : Hid ((pre ++ [s.extract k j]).length = n + 1) := Lib.hid (by have := hpl.out; simp; omega)
            have hcall : Hid (∀ h : j < s.size, gap (s[j]'h) = true) := Lib.hid (fun h => by
              rw [← Bool.not_eq_false]
              exact fun g => hend ⟨h, h, g⟩)
            clear hat hend hat0
            rcases Nat.lt_or_eq_of_le hj with hjl | rfl
            · have hj1 : (j : Int) < (s.size : Int) := by omega
              have hb := blank_any (s[j]'hjl) wr
              rw [hcall.out hjl] at hb
              clear hcall
              go_wp2_with fail
              refine hb.mono ?_; rintro e w2 ⟨rfl, rfl⟩
              clear hb
              go_wp2_with (at_builtin; refine Lk.stp ?_)
              refine Lk.unstp ?_
              refine wpList_append_lies _ rfl (.tmp 31) (.tmp 36) 28 rfl w.heap.size 9 i0 (.string ByteArray.empty) 1 16 Tryd.underlying28 hi hz0 hz1 hz2 rfl (by decide) u3 n (pre.map Value.string) rfl (hown.alloc _) ⟨w2.heap.size, 0, none⟩ 1 1 [.string (s.extract k j)] rfl rfl (World.news_of_block (cs := #[.string (s.extract k j)]) (heap_alloc_new w2 _)) (by simp [Value.oneCell']) (by omega) (by unfold maxLen; omega) (by omega) (by have := hbel.size; simp; omega) (w2.heap.size + 1) (by simp) ?_
              intro g cap w3 hown3 hgrow hat hlt3
              have hb1 := Lk.below_append hown hbel hgrow
              have hown4 := Lk.own_append hown3
              clear hown hbel hown3 hgrow hat hlt3
              go_wp2
              go_roundw
              case rel => exact ⟨j, n + 1, _, by omega, by omega, rfl, HPL, hown4, hstep.out, hb1⟩
              case measure => simp [intOf]; omega
            · clear hcall
              go_wp2_with (at_builtin; refine Lk.stp ?_)
              refine Lk.unstp ?_
              refine wpList_append_lies _ rfl (.tmp 31) (.tmp 36) 28 rfl w.heap.size 9 i0 (.string ByteArray.empty) 1 16 Tryd.underlying28 hi hz0 hz1 hz2 rfl (by decide) u3 n (pre.map Value.string) rfl (hown.alloc _) ⟨wr.heap.size, 0, none⟩ 1 1 [.string (s.extract k s.size)] rfl rfl (World.news_of_block (cs := #[.string (s.extract k s.size)]) (heap_alloc_new wr _)) (by simp [Value.oneCell']) (by omega) (by unfold maxLen; omega) (by omega) (by have := hbel.size; simp; omega) (wr.heap.size + 1) (by simp) ?_
              intro g cap w3 hown3 hgrow hat hlt3
              have hb1 := Lk.below_append hown hbel hgrow
              have hown4 := Lk.own_append hown3
              clear hown hbel hown3 hgrow hat hlt3
              go_wp2
              go_roundw
              case rel => exact ⟨s.size, n + 1, _, by omega, by omega, rfl, HPL, hown4, hstep.out, hb1⟩
              case measure => simp [intOf]; omega
    · have hk1 : ¬ (k : Int) < (s.size : Int) := by omega
      obtain rfl : pre = wordsR s := hat0.done (by omega)
      obtain rfl := hpl.out
      obtain ⟨A, c, rfl, ho⟩ := own_of hown
      go_wp2
      go_ret
      exact ⟨_, _, rfl, ho, hbel⟩
end Go.Proofs.YtdhncpkcbeggmaaDoor
