/-
  What spec.Lines answers: the parts of a text between newlines.
-/
import Derived.Test.YtdhncpkcbeggmaaDoorProg
import Derived.Test.YtdhncpkcbeggmaaDoorDecMath
import Derived.Test.YtdhncpkcbeggmaaDoorStrs
import Derived.Test.YtdhncpkcbeggmaaDoorLinesMath
import Derived.WalkKit
import Derived.LoopTactic
import Derived.OwnWalk
import Derived.WalkLawsBesides
import Derived.WalkSpells
import Derived.Outline
import Derived.Below
import Derived.Laws.AppendOwn
import Derived.Laws.OwnMore
import Derived.Deep.QuietTactic
import Derived.Deep.Draws
import Derived.BigQuiet
import Derived.WalkSmall
import Derived.IntWalk
import Derived.Deep.RegionHeld3
import Derived.Deep.DrawnRows
import Derived.Deep.AppendLies
import Derived.Lib.SlBytesRow
import Derived.Laws.MakeOwn
set_option linter.unusedVariables false
namespace Go.Proofs.YtdhncpkcbeggmaaDoor
open Go.RowKit
attribute [local go_sem ↓] Go.wp_at_zero Go.wp_at_succ

def Stp (p : Prop) : Prop := p
theorem stp {p : Prop} (h : Stp p) : p := h
theorem unstp {p : Prop} (h : p) : Stp p := h
theorem mt_iff (s : ByteArray) : s.toList.isEmpty = true ↔ s.size = 0 := by
  rw [ByteArray.toList_eq, List.isEmpty_iff, ← List.length_eq_zero_iff, Array.length_toList]
  exact Iff.rfl
theorem mt_no (s : ByteArray) (h : 0 < s.size) : s.toList.isEmpty = false := by
  rw [← Bool.not_eq_true, mt_iff]
  omega
/-- the lines of a text. -/
def linesR (s : ByteArray) : List ByteArray := if s.size = 0 then [] else linesB s
theorem linesR_le (s : ByteArray) : (linesR s).length ≤ s.size + 1 := by
  unfold linesR
  split
  · simp
  · rw [← linesB_count]
    have := Lib.countB_le nl (by decide) s.size s (Nat.le_refl _)
    omega
theorem Tryd.infoS : (Tryd.prog.info? 9).map (fun i => (i.zero, i.size, i.bytes)) = some (some (.string ByteArray.empty), 1, 16) := by kernel_rfl
theorem own_append {w1 : World} {B n : Nat} {v : Value} {l : List ByteArray} {x : ByteArray}
    (hown3 : w1.ownsRow B 9 1 v (n + 1) (l.map Value.string ++ [.string x])) : w1.ownsRow B 9 1 v (n + 1) ((l ++ [x]).map Value.string) := by
  rw [List.map_append]
  exact hown3
theorem below_append {w w2 w1 : World} {n : Nat} {e : TypeId} {u : Value} {xs : List Value} {o : Obj} (hown2 : w2.ownsRow w.heap.size e 1 u n xs) (hbel2 : Below w.heap.size w w2)
    (hgrow : (w2.alloc o).grownBy w1 u.ownBlock) : Below w.heap.size w w1 := by
  have h1 : Below w.heap.size w (w2.alloc o) := hbel2.alloc hbel2.size _
  exact h1.grown hgrow h1.size (fun b hb => (hown2.lt b hb).1)

set_option maxRecDepth 100000 in
set_option maxHeartbeats 1600000 in
theorem lines_spec (s : ByteArray) (w : World) (hs : s.size ≤ 1073741824) :
    Calls Tryd.prog 20 #[.string s] w fun e w' => ∃ A c, e = .returned (.slice A (linesR s).length c) ∧ Own w' w.heap.size A (linesR s).length c (linesR s) ∧ Below w.heap.size w w' := by
  obtain ⟨i0, hi, hz0, hz1, hz2⟩ := info_parts Tryd.infoS
  rcases Nat.eq_zero_or_pos s.size with hz | hz
  · have hemp := (mt_iff s).2 hz
    have hr : linesR s = [] := by unfold linesR; rw [if_pos hz]
    rw [hr]
    clear hz hr
    go_enter Tryd.func20, Tryd.ntmps20
    go_wp2
    go_ret
    exact ⟨_, _, rfl, ⟨rfl, World.ownsRow_lit w #[] 0 (Nat.le_refl _) (by simp [maxLen]) rfl⟩, (Below.refl _ _).alloc (Nat.le_refl _) _⟩
  · have hemp := mt_no s hz
    have hr := Lib.hid (show linesR s = linesB s by unfold linesR; rw [if_neg (by omega)])
    go_enter Tryd.func20, Tryd.ntmps20
    go_wp2
    go_loopw [3, 4, 5] (fun v f i wr => ∃ (k j n : Nat) (pre : List ByteArray), k ≤ s.size ∧ j ≤ k ∧ n ≤ k ∧ i = .int .i64 k ∧ f = .int .i64 j ∧ Hid (pre.length = n) ∧ wr.ownsRow w.heap.size 9 1 v n (pre.map Value.string) ∧ LinesAt s pre j k ∧ Below w.heap.size w wr) (fun _ _ i _ => s.size - (intOf i).toNat)
    case atStart => exact ⟨0, 0, 0, [], Nat.zero_le _, Nat.le_refl _, Nat.le_refl _, rfl, rfl, Lib.hid rfl, World.ownsRow_lit w #[] 0 (Nat.le_refl _) (by simp [maxLen]) rfl, LinesAt.start s, (Below.refl _ _).alloc (Nat.le_refl _) _⟩
    case round =>
      obtain ⟨k, j, n, pre, hk, hj, hn, rfl, rfl, hpl, hown, hat0, hbel⟩ := hrel
      by_cases hlt : k < s.size
      · have hk1 : (k : Int) < (s.size : Int) := by omega
        have hk2 : (k : Int) ≤ (s.size : Int) := by omega
        have hj1 : (j : Int) ≤ (k : Int) := by omega
        by_cases hc : (s[k]'hlt) = 10
        · have hstep := hat0.newline hj hlt hc
          have hb : (((s[k]'hlt).toNat : Int) == 10) = true := by rw [hc]; rfl
          clear hc
          have HPL : Hid ((pre ++ [s.extract j k]).length = n + 1) := Lib.hid (by have := hpl.out; simp; omega)
          go_wp2_with (at_builtin; refine stp ?_)
          refine unstp ?_
          refine wpList_append_lies _ rfl (.tmp 20) (.tmp 25) 28 rfl w.heap.size 9 i0 (.string ByteArray.empty) 1 16 Tryd.underlying28 hi hz0 hz1 hz2 rfl (by decide) u3 n (pre.map Value.string) rfl (hown.alloc _) ⟨wr.heap.size, 0, none⟩ 1 1 [.string (s.extract j k)] rfl rfl (World.news_of_block (cs := #[.string (s.extract j k)]) (heap_alloc_new wr _)) (by simp [Value.oneCell']) (by omega) (by unfold maxLen; omega) (by omega) (by have := hbel.size; simp; omega) (wr.heap.size + 1) (by simp) ?_
          intro g cap w1 hown3 hgrow hat hlt3
          have hb1 := below_append hown hbel hgrow
          have hown4 := own_append hown3
          clear hown hbel hown3 hgrow hat hlt3
          go_wp2
          go_roundw
          case rel => exact ⟨k + 1, k + 1, n + 1, _, by omega, by omega, by omega, by go_num, by go_num, HPL, hown4, hstep, hb1⟩
          case measure => simp [intOf]; omega
        · have hstep := hat0.other hj hlt hc
          have hb : (((s[k]'hlt).toNat : Int) == 10) = false := by
            simp only [beq_eq_false_iff_ne]
            intro h
            exact hc (UInt8.toNat_inj.1 (by show (s[k]'hlt).toNat = 10; omega))
          clear hc
          go_wp2
          go_roundw
          case rel => exact ⟨k + 1, j, n, pre, by omega, by omega, by omega, by go_num, rfl, hpl, hown, hstep, hbel⟩
          case measure => simp [intOf]; omega
      · have hk1 : ¬ (k : Int) < (s.size : Int) := by omega
        have hj1 : (j : Int) ≤ (s.size : Int) := by omega
        have hdone := Lib.hid (hat0.done (by omega))
        go_wp2_with (at_builtin; refine stp ?_)
        refine unstp ?_
        refine wpList_append_lies _ rfl (.tmp 29) (.tmp 33) 28 rfl w.heap.size 9 i0 (.string ByteArray.empty) 1 16 Tryd.underlying28 hi hz0 hz1 hz2 rfl (by decide) u3 n (pre.map Value.string) rfl (hown.alloc _) ⟨wr.heap.size, 0, none⟩ 1 1 [.string (s.extract j s.size)] rfl rfl (World.news_of_block (cs := #[.string (s.extract j s.size)]) (heap_alloc_new wr _)) (by simp [Value.oneCell']) (by omega) (by unfold maxLen; omega) (by omega) (by have := hbel.size; simp; omega) (wr.heap.size + 1) (by simp) ?_
        intro g cap w1 hown3 hgrow hat hlt3
        have hb1 := below_append hown hbel hgrow
        have hown4 := own_append hown3
        rw [hdone.out, ← hr.out] at hown4
        have hlen : n + 1 = (linesR s).length := by
          have := hown4.1
          simp at this
          omega
        clear hown hbel hown3 hgrow hat hlt3
        go_wp2
        go_ret
        rw [hlen] at hown4
        exact ⟨_, _, rfl, ⟨rfl, hown4⟩, hb1⟩
end Go.Proofs.YtdhncpkcbeggmaaDoor
