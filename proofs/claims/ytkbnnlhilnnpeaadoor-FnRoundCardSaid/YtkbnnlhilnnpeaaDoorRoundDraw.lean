/-
  What the draw of a round by tables answers: two lists of numbers.
-/
import Derived.Test.YtkbnnlhilnnpeaaDoorFieldDraw
import Derived.Test.YtkbnnlhilnnpeaaDoorDraws
import Derived.Deep.AppendLies
set_option linter.unusedVariables false
namespace Go.Proofs.YtkbnnlhilnnpeaaDoor
open Go.RowKit

/-- A list of the call's own, behind a cursor. -/
def WordsDrawn (w : World) (B g : Nat) (A : Option Addr) (len cap : Nat) (e : Ending) (w' : World) : Prop := ∃ (A' : Option Addr) (n c : Nat) (l : List Int), e = .returned (.slice A' n c) ∧ w'.ownsRow w.heap.size 3 1 (.slice A' n c) n (cells64 l) ∧ n ≤ 9 ∧ n ≤ c ∧ c ≤ 9223372036854775807 ∧ CurIn w' B g A len cap ∧ w.grownBy w' (some g)
def Stp8 (p : Prop) : Prop := p
theorem stp8 {p : Prop} (h : Stp8 p) : p := h
theorem unstp8 {p : Prop} (h : p) : Stp8 p := h
set_option maxRecDepth 100000 in
set_option maxHeartbeats 1600000 in
theorem words8_any (w : World) (B g : Nat) (A : Option Addr) (len cap : Nat) (hc : CurIn w B g A len cap) :
    Calls Tryd.prog 72 #[.pointer (some ⟨g, 0, none⟩)] w fun e w' => WordsDrawn w B g A len cap e w' := by
  obtain ⟨i0, hi, hz0, hz1, hz2⟩ := info_parts info64
  have hgw := hc.lt
  have HC := Lib.hid hc
  clear hc
  go_enter Tryd.func72, Tryd.ntmps72
  go_wp2_with fail
  refine (pickint_any (fun u => 0 ≤ u ∧ u ≤ 9) 8 (w.heap.size + 1) 3 _ (by omega) (by omega) _ _ _ _ _ _ ((HC.out.alloc _).alloc _) (by simpa using heap_alloc_new (w.alloc _) _) (by omega) (lits [4, 4, 4, 4, 4, 3, 5, 0] (by simp))).mono ?_
  rintro e w3 ⟨n, rfl, ⟨hn0, hn1⟩, hc3, hg3⟩
  obtain ⟨n, rfl⟩ := Int.eq_ofNat_of_zero_le hn0
  have hown3 := own_only64 (((World.ownsRow_lit w (e := 3) (size := 1) #[] 0 (Nat.le_refl _) (by simp [maxLen]) rfl).alloc _ : ((w.alloc _).alloc _).ownsRow w.heap.size 3 1 (.slice (some ⟨w.heap.size, 0, none⟩) 0 0) 0 (cells64 []))) hg3 hgw
  go_wp2
  have hg23 : w.grownBy w3 (some g) := only_trans (only_alloc (only_alloc (only_refl w _) _) _) hg3
  clear hg3
  go_loopw [3, 5] (fun v i wr => ∃ (k : Nat) (l : List Int), k ≤ n ∧ Hid (l.length = k) ∧ i = .int .i64 k ∧ wr.ownsRow w.heap.size 3 1 v k (cells64 l) ∧ CurIn wr B g A len cap ∧ w.grownBy wr (some g)) (fun _ i _ => n - (intOf i).toNat)
  case atStart => exact ⟨0, [], Nat.zero_le _, Lib.hid rfl, rfl, hown3, hc3, hg23⟩
  case round =>
    obtain ⟨k, l, hk, hl, rfl, hown, hcr, hgr⟩ := hrel
    by_cases hlt : k < n
    · have hk1 : (k : Int) < (n : Int) := by omega
      go_wp2_with fail
      refine (word4_any _ _ _ _ _ _ hcr).mono ?_; rintro e w4 ⟨u, rfl, hu, hc4, hg4⟩
      have hown4 := own_only64 hown hg4 hgw
      have hgr4 := only_trans hgr hg4
      clear hown hgr hcr hg4 hu
      go_wp2_with (at_builtin; refine stp8 ?_)
      refine unstp8 ?_
      refine wpList_append_lies _ rfl (.tmp 15) (.tmp 18) 25 rfl w.heap.size 3 i0 (.int .i64 0) 1 8 Tryd.underlying25 hi hz0 hz1 hz2 rfl (by decide) u3 k (cells64 l) rfl (hown4.alloc _) ⟨w4.heap.size, 0, none⟩ 1 1 [.int .i64 u] rfl rfl (World.news_of_block (cs := #[.int .i64 u]) (heap_alloc_new w4 _)) (by simp [Value.oneCell']) (by omega) (by unfold maxLen; omega) (by omega) (by have := hgr4.size; simp; omega) (w4.heap.size + 1) (by simp) ?_
      intro g2 cap2 w5 hown5 hgrow hat hlt5
      have hrel := ints_rel hgw hown4 hc4 hgr4 hown5 hgrow
      have HL : Hid ((l ++ [u]).length = k + 1) := Lib.hid (by have := hl.out; simp; omega)
      clear hown4 hc4 hgr4 hown5 hgrow hat hlt5
      go_wp2
      go_roundw
      case rel => exact ⟨k + 1, _, by omega, HL, by go_num, hrel.1, hrel.2.1, hrel.2.2⟩
      case measure => simp [intOf]; omega
    · have hk1 : ¬ (k : Int) < (n : Int) := by omega
      obtain rfl : n = k := by omega
      obtain ⟨A', c', rfl, hnc, hcm⟩ := own_slice hown
      have HO := Lib.hid hown
      have HCR := Lib.hid hcr
      have HG := Lib.hid hgr
      clear hown hcr hgr
      go_wp2
      go_ret
      exact ⟨_, _, _, _, rfl, HO.out, by omega, hnc, hcm, HCR.out, HG.out⟩
/-- two lists are drawn. -/
def RoundDrawn (w : World) (e : Ending) (w' : World) : Prop := ∃ (A1 A2 : Option Addr) (n1 c1 n2 c2 : Nat) (l1 l2 : List Int), e = .returned (.tuple #[.slice A1 n1 c1, .slice A2 n2 c2]) ∧ IRow w' A1 n1 l1 ∧ IRow w' A2 n2 l2 ∧ n1 ≤ 9 ∧ n2 ≤ 9 ∧ n1 ≤ c1 ∧ c1 ≤ 9223372036854775807 ∧ n2 ≤ c2 ∧ c2 ≤ 9223372036854775807 ∧ Below w.heap.size w w'
set_option maxRecDepth 100000 in
set_option maxHeartbeats 1600000 in
theorem draw_TableRound (w : World) (A : Option Addr) (len cap : Nat) (hcode : CodeAt w w.heap.size A len) (hl : len ≤ 1048576) :
    Calls Tryd.prog 30 #[.slice A len cap] w fun e w' => RoundDrawn w e w' := by
  have H := Lib.hid hcode
  clear hcode
  go_enter Tryd.func30, Tryd.ntmps30
  go_wp2_with fail
  refine (new_any _ _ _ _ H.out hl).mono ?_; rintro e w1 ⟨g, rfl, hc1, hb1⟩
  have hgw := hc1.lt
  go_wp2_with fail
  refine (words8_any _ _ _ _ _ _ hc1).mono ?_; rintro e w2 ⟨A1, n1, c1, l1, rfl, hown1, h19, h1c, h1m, hc2, hg2⟩
  go_wp2_with fail
  refine (words8_any _ _ _ _ _ _ hc2).mono ?_; rintro e w3 ⟨A2, n2, c2, l2, rfl, hown2, h29, h2c, h2m, hc3, hg3⟩
  have I1 := Lib.hid (own_irow (own_only64 hown1 hg3 hgw))
  have I2 := Lib.hid (own_irow hown2)
  have HB := Lib.hid (below_only hb1 (only_trans hg2 hg3) hc1.1 hb1.size)
  clear hown1 hown2 hc1 hc2 hc3 hg2 hg3 hb1
  go_wp2
  go_ret2
  exact ⟨_, _, _, _, _, _, _, _, rfl, I1.out, I2.out, h19, h29, h1c, h1m, h2c, h2m, HB.out⟩
end Go.Proofs.YtkbnnlhilnnpeaaDoor
