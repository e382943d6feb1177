/-
  What impl.Words answers: the words that its iterator hands out, collected.
-/
import Derived.RangeFuncBox
import Derived.RangeFuncNested
import Derived.RangeFuncBound
import Derived.RangeFuncCalls
import Derived.RangeFuncLeaves
import Derived.Shelf.Abstract
import Derived.WalkKit
import Derived.OwnWalkIn
import Derived.TacticsInMore
import Derived.LoopNIn
import Derived.LoopIn
import Derived.Maps.AppendAt
import Derived.WalkMore
import Derived.Test.YtdhncpkcbeggmaaDoorProg
import Derived.Test.YtdhncpkcbeggmaaDoorSplit
import Derived.Test.YtdhncpkcbeggmaaDoorWordsMath
import Derived.Test.YtdhncpkcbeggmaaDoorStrs
import Derived.Test.YtdhncpkcbeggmaaDoorListKit
set_option linter.unusedVariables false
namespace Go.Proofs.YtdhncpkcbeggmaaDoor
open Go.RowKit Go.Shelf
attribute [local go_sem] Oper.semAt_some

/-- a text that can be copied. -/
abbrev Txt := { x : ByteArray // x.size ≤ 1073741824 }
theorem gap_int' (b : UInt8) : gap b = (((b.toNat : Int) == 32) || ((b.toNat : Int) == 9)) := by
  unfold gap
  have e (c : UInt8) : (b == c) = ((b.toNat : Int) == (c.toNat : Int)) := by
    rw [Bool.eq_iff_iff, beq_iff_eq, beq_iff_eq, ← UInt8.toNat_inj]; omega
  rw [e 32, e 9]; rfl
/-- isGap. -/
theorem isGap_in (n : Nat) (b : UInt8) (w : World) :
    CallsIn Fence.wide n Tryd.prog 47 #[.int .u8 (b.toNat : Int)] w fun e w' => e = .returned (.bool (gap b)) ∧ w' = w := by
  refine callsIn_wide.2 ?_
  have h := gap_int' b
  go_enter Tryd.func47, Tryd.ntmps47
  go_wp2
  all_goals go_ret
  all_goals refine ⟨?_, rfl⟩
  all_goals (rw [h]; simp_all)
theorem clone_in (n : Nat) (s : ByteArray) (w : World) (hs : s.size ≤ 1073741824) :
    CallsIn Fence.wide n Tryd.prog 34 #[.string s] w fun e w' => e = .returned (.string s) ∧ Below w.heap.size w w' := by
  refine callsIn_wide.2 ?_
  go_enter Tryd.func34, Tryd.ntmps34
  go_wp2_with fail
  refine (Tryd.stringslite_Clone s _ (by omega)).mono ?_; rintro e w1 ⟨rfl, hb⟩
  go_wp2
  go_ret
  exact ⟨rfl, hb⟩

set_option maxHeartbeats 1000000 in
theorem wordsOf_in (n : Nat) (s : ByteArray) (w : World) :
    CallsIn Fence.wide n Tryd.prog 35 #[.string s] w fun e w' => e = .returned (.func (.func 46) #[] #[.pointer (some ⟨w.heap.size, 0, none⟩)]) ∧ w' = w.alloc (.cells #[.string s] 9) := by
  refine callsIn_of_wp Tryd.func35 rfl trivial ?_ rfl
  simp only [Tryd.ntmps35, List.size_toArray, List.length_cons, List.length_nil, Nat.reduceAdd, Nat.reduceSub, Array.replicate_succ, Array.replicate_zero, List.push_toArray, List.append_toArray, List.nil_append, List.cons_append]
  gi_wp2
  go_ret
  exact ⟨rfl, rfl⟩

/-- what a round keeps: what lay below n₀, and the iterator's own box. -/
def Keep (n₀ Bn : Nat) (s : ByteArray) (W W' : World) : Prop := Below n₀ W W' ∧ (W.cell? ⟨Bn, 0, none⟩ = some (.string s) → W'.cell? ⟨Bn, 0, none⟩ = some (.string s))

set_option maxRecDepth 100000 in
set_option maxHeartbeats 1600000 in
theorem wordsOf1_in (n : Nat) (hn : 1 ≤ n) (l Bn n₀ : Nat) (s : ByteArray) (hs : s.size ≤ 1073741824) (J Jx : List Txt → World → Prop)
    (hY : ∀ pre x W, J pre W → pre.length < s.size + 1 → YieldAt Fence.wide (n - 1) Tryd.prog l #[.string x.1] W fun e W' =>
      (e = .returned (.bool true) ∧ J (pre ++ [x]) W' ∧ Keep n₀ Bn s W W') ∨ (e = .returned (.bool false) ∧ Jx (pre ++ [x]) W'))
    (W : World) (hBn : W.cell? ⟨Bn, 0, none⟩ = some (.string s)) (h0 : J [] W) :
    CallsIn Fence.wide n Tryd.prog 46 #[.func (.yield l) #[] #[], .pointer (some ⟨Bn, 0, none⟩)] W fun e W' => (∃ v, e = .returned v) ∧
      ((∃ ys : List Txt, ys.map (·.1) = wordsR s ∧ J ys W') ∨ (∃ pre : List Txt, True ∧ Jx pre W')) := by
  refine callsIn_of_wp Tryd.func46 rfl trivial ?_ rfl
  simp only [Tryd.ntmps46, List.size_toArray, List.length_cons, List.length_nil, Nat.reduceAdd, Nat.reduceSub, Array.replicate_succ, Array.replicate_zero, List.push_toArray, List.append_toArray, List.nil_append, List.cons_append]
  refine wpIn_wide.2 (wp_scope_straight ((wpIn_wide (n := n)).1 ?_))
  gi_wp2
  apply wpIn_label
  gi_wp2
  gi_loopw [3, 4, 8] (fun f _ i wr => ∃ (k j : Nat) (pre : List Txt), k ≤ s.size + 1 ∧ j ≤ k ∧ (k = s.size + 1 → j = k) ∧ pre.length ≤ k ∧ f = .int .i64 j ∧ i = .int .i64 k ∧ WordsAt s (pre.map fun x => x.1) j k ∧ wr.cell? ⟨Bn, 0, none⟩ = some (.string s) ∧ J pre wr) (fun _ _ i _ => s.size + 1 - (intOf i).toNat)
  case atStart => exact ⟨0, 0, [], Nat.zero_le _, Nat.le_refl _, by omega, Nat.le_refl _, rfl, rfl, WordsAt.start s, hBn, h0⟩
  case round =>
    obtain ⟨k, j, pre, hk, hj, hjk, hpl, rfl, rfl, hat, hc, hJs⟩ := hrel
    by_cases hlt : k < s.size + 1
    · have hk1 : (k : Int) < (s.size : Int) + 1 := by omega
      have hk0 : (0 : Int) ≤ (k : Int) := by omega
      have h47 : Fence.wide.fn 47 := trivial
      have hcall := fun (h : k < s.size) => isGap_in (n - 1) (s[k]'h) wr
      rcases Nat.lt_or_eq_of_le (Nat.le_of_lt_succ hlt) with hks | rfl
      · have hk2 : (k : Int) < (s.size : Int) := by omega
        have hcall := hcall hks
        by_cases hg : gap (s[k]'hks) = true
        · rw [hg] at hcall
          rcases Nat.lt_or_eq_of_le hj with hjk1 | rfl
          · have hw := hat.word hjk1 hks hg
            clear hg hat
            have hj1 : (j : Int) < (k : Int) := by omega
            have hj2 : (j : Int) ≤ (k : Int) := by omega
            have hk3 : (k : Int) ≤ (s.size : Int) := by omega
            have hxs : (s.extract j k).size ≤ 1073741824 := by rw [ByteArray.size_extract]; omega
            obtain ⟨fn, tmps, assign, body, hy, hR⟩ := hY pre ⟨s.extract j k, hxs⟩ wr hJs (by omega)
            dsimp only at hy
            have hstep : Hid (WordsAt s ((pre ++ [(⟨s.extract j k, hxs⟩ : Txt)]).map fun x => x.1) (k + 1) (k + 1)) := Lib.hid (by rw [List.map_append]; exact hw)
            clear hw
            gi_wp2_with (gi_at_call 47; refine hcall.mono ?_; clear hcall; rintro e w' ⟨rfl, rfl⟩)
            refine hR.mono ?_
            rintro e W3 (⟨rfl, hJ3, hk3'⟩ | ⟨rfl, hJx3⟩)
            · have hc3 := hk3'.2 hc
              gi_wp2
              go_roundw
              case rel => exact ⟨k + 1, k + 1, _, by omega, by omega, by omega, by simp <;> omega, by go_num, by go_num, hstep.out, hc3, hJ3⟩
              case measure => simp [intOf] <;> omega
            · gi_wp2
              rw [Exit.noGoto_normal]
              go_end0
              exact ⟨⟨_, rfl⟩, .inr ⟨_, trivial, hJx3⟩⟩
          · have hw := hat.blank hks hg
            clear hg hat
            gi_wp2_with (gi_at_call 47; refine hcall.mono ?_; clear hcall; rintro e w' ⟨rfl, rfl⟩)
            refine ⟨fun _ h => (by cases h), ?_⟩
            gi_wp2
            go_roundw
            case rel => exact ⟨j + 1, j + 1, pre, by omega, by omega, by omega, by omega, by go_num, by go_num, hw, hc, hJs⟩
            case measure => simp [intOf] <;> omega
        · have hg := Bool.eq_false_iff.2 hg
          rw [hg] at hcall
          have hw := hat.other hj hks hg
          clear hg hat
          gi_wp2_with (gi_at_call 47; refine hcall.mono ?_; clear hcall; rintro e w' ⟨rfl, rfl⟩)
          go_roundw
          case rel => exact ⟨k + 1, j, pre, by omega, by omega, by omega, by omega, rfl, by go_num, hw, hc, hJs⟩
          case measure => simp [intOf] <;> omega
      · clear hcall
        rcases Nat.lt_or_eq_of_le hj with hjk1 | rfl
        · have hw := hat.last hjk1 (s.size + 1) (by omega)
          clear hat
          have hj1 : (j : Int) < (s.size : Int) := by omega
          have hj2 : (j : Int) ≤ (s.size : Int) := by omega
          have hxs : (s.extract j s.size).size ≤ 1073741824 := by rw [ByteArray.size_extract]; omega
          obtain ⟨fn, tmps, assign, body, hy, hR⟩ := hY pre ⟨s.extract j s.size, hxs⟩ wr hJs (by omega)
          dsimp only at hy
          have hstep : Hid (WordsAt s ((pre ++ [(⟨s.extract j s.size, hxs⟩ : Txt)]).map fun x => x.1) (s.size + 1) (s.size + 1)) := Lib.hid (by rw [List.map_append]; exact hw)
          clear hw
          gi_wp2
          refine hR.mono ?_
          rintro e W3 (⟨rfl, hJ3, hk3'⟩ | ⟨rfl, hJx3⟩)
          · have hc3 := hk3'.2 hc
            gi_wp2
            go_roundw
            case rel => exact ⟨s.size + 1, s.size + 1, _, by omega, by omega, by omega, by simp <;> omega, by go_num, by go_num, hstep.out, hc3, hJ3⟩
            case measure => simp [intOf] <;> omega
          · gi_wp2
            rw [Exit.noGoto_normal]
            go_end0
            exact ⟨⟨_, rfl⟩, .inr ⟨_, trivial, hJx3⟩⟩
        · have hw := hat.past (j := s.size + 1) (Nat.le_refl _) (by omega)
          clear hat
          gi_wp2
          refine ⟨fun _ h => (by cases h), ?_⟩
          gi_wp2
          go_roundw
          case rel => exact ⟨s.size + 1, s.size + 1, pre, by omega, by omega, by omega, by omega, by go_num, by go_num, hw, hc, hJs⟩
          case measure => simp [intOf] <;> omega
    · have hk1 : ¬ (k : Int) < (s.size : Int) + 1 := by omega
      obtain rfl : k = s.size + 1 := by omega
      obtain rfl : j = s.size + 1 := hjk rfl
      have hdone := hat.done (by omega)
      gi_wp2
      go_end0
      exact ⟨⟨_, rfl⟩, .inl ⟨pre, hdone, hJs⟩⟩

/-- the iterator's value, for every loop body that keeps what lay below n₀ and the iterator's own box. -/
theorem words_stops (n : Nat) (hn : 1 ≤ n) (Bn n₀ : Nat) (s : ByteArray) (hs : s.size ≤ 1073741824) (w : World) (hB : Bn < w.heap.size) (hc : w.cell? ⟨Bn, 0, none⟩ = some (.string s)) :
    SeqStopsK Fence.wide n Tryd.prog 46 #[.pointer (some ⟨Bn, 0, none⟩)] (fun x : Txt => #[Value.string x.1]) (Keep n₀ Bn s) (fun ys => ys.map (·.1) = wordsR s) (fun _ => True) (s.size + 1) w := fun l J Jx W hW _ _ hY h0 =>
  wordsOf1_in n hn l Bn n₀ s hs J Jx hY W ((hW.cell (p := ⟨Bn, 0, none⟩) hB).trans hc) h0
theorem keep_t {n₀ Bn : Nat} {s : ByteArray} {A B C : World} (h : Keep n₀ Bn s A B) (k : Keep n₀ Bn s B C) : Keep n₀ Bn s A C := ⟨h.1.trans k.1, fun e => k.2 (h.2 e)⟩
theorem keep_b {n₀ Bn : Nat} {s : ByteArray} {w : World} (hn : n₀ ≤ w.heap.size) (W : World) (l : Nat) (o o' : Obj) (hl : w.heap.size ≤ l) (h : W.heap[l]? = some o) (hc : o.isCells = false) (hw : o.isWalk = false) : Keep n₀ Bn s W (W.putObj l o') :=
  ⟨belowK_b hn W l o o' hl h hc hw, fun e => cell_kept e (grownBy_putObj' W l o') (fun r e => by cases e; exact ⟨o, h, hc⟩)⟩
theorem others_of_below {w w' : World} (h : Below w.heap.size w w') : KeepsOthers w w' :=
  ⟨h.size, fun l o hl _ => (h.block l (by have := (Array.getElem?_eq_some_iff.1 hl).1; exact this)).trans hl⟩
end Go.Proofs.YtdhncpkcbeggmaaDoor
