/-
  What impl.Lines answers: the parts of a text between newlines.
-/
import Derived.Test.YtdhncpkcbeggmaaDoorProg
import Derived.Test.YtdhncpkcbeggmaaDoorDecMath
import Derived.Test.YtdhncpkcbeggmaaDoorStrs
import Derived.Test.YtdhncpkcbeggmaaDoorMarks
import Derived.Test.YtdhncpkcbeggmaaDoorLinesMath
import Derived.Test.YtdhncpkcbeggmaaDoorLines
import Derived.Test.YtdhncpkcbeggmaaDoorSplit
import Derived.WalkKit
import Derived.LoopTactic
import Derived.OwnWalk
import Derived.WalkLawsBesides
import Derived.WalkSpells
import Derived.Outline
import Derived.Below
import Derived.Laws.AppendOwn
import Derived.Laws.OwnMore
import Derived.Deep.QuietTactic
import Derived.Deep.Draws
import Derived.BigQuiet
import Derived.WalkSmall
import Derived.IntWalk
import Derived.Deep.RegionHeld3
import Derived.Deep.DrawnRows
import Derived.Deep.AppendLies
import Derived.Lib.SlBytesRow
import Derived.Laws.MakeOwn
set_option linter.unusedVariables false
namespace Go.Proofs.YtdhncpkcbeggmaaDoor
open Go.RowKit
attribute [local go_sem ↓] Go.wp_at_zero Go.wp_at_succ

/-- internal/bytealg.MaxLen holds some int. -/
def SomeMax (w : World) : Prop := ∃ m : Int, w.cell? ⟨3, 0, none⟩ = some (.int .i64 m)
set_option maxHeartbeats 800000 in
theorem clone_any (s : ByteArray) (w : World) (hs : s.size ≤ 1073741824) :
    Calls Tryd.prog 34 #[.string s] w fun e w' => e = .returned (.string s) ∧ Below w.heap.size w w' := by
  go_enter Tryd.func34, Tryd.ntmps34
  go_wp2_with fail
  refine (Tryd.stringslite_Clone s _ (by omega)).mono ?_; rintro e w1 ⟨rfl, hb⟩
  go_wp2
  go_ret
  exact ⟨rfl, hb⟩
theorem split_any (s : ByteArray) (w : World) (hs : s.size ≤ 1073741824) (hm : SomeMax w) :
    Calls Tryd.prog 33 #[.string s, .string ⟨#[10]⟩] w fun e w' => e = .returned (.slice (some ⟨w.heap.size, 0, none⟩) (linesB s).length (linesB s).length) ∧ w' = w.alloc (.cells ((linesB s).map Value.string).toArray 9) := by
  obtain ⟨m, hm⟩ := hm
  refine (Tryd.strings_Split s nl m w (by omega) hm (by decide)).mono fun e w' ⟨he, hw⟩ => ?_
  rw [linesB_count] at he
  rw [split_linesB] at hw
  exact ⟨he, hw⟩
theorem linesL_size (c : UInt8) : ∀ (l p : List UInt8), p ∈ linesL c l → p.length ≤ l.length
  | [], p, h => by
    simp [linesL] at h
    subst h
    simp
  | b :: l, p, h => by
    have ih := linesL_size c l
    unfold linesL at h
    split at h
    · rcases List.mem_cons.1 h with rfl | h
      · simp
      · have := ih p h
        simp; omega
    · cases hx : linesL c l with
      | nil => exact absurd hx (linesL_ne c l)
      | cons q qs =>
        rw [hx] at h ih
        unfold consHead at h
        rcases List.mem_cons.1 h with rfl | h
        · have := ih q (by simp)
          simp; omega
        · have := ih p (by simp [h])
          simp; omega
theorem linesB_size (s : ByteArray) (x : ByteArray) (h : x ∈ linesB s) : x.size ≤ s.size := by
  unfold linesB at h
  obtain ⟨p, hp, rfl⟩ := List.mem_map.1 h
  have := linesL_size 10 _ p hp
  have hl : s.data.toList.length = s.size := by simp
  rw [str_size]
  omega
theorem own_lit {w : World} {L : List ByteArray} {N : Nat} (h : L.length = N) (hN : N ≤ 4611686018427387904) :
    (w.alloc (.cells (L.map Value.string).toArray 9)).ownsRow w.heap.size 9 1 (.slice (some ⟨w.heap.size, 0, none⟩) N N) N (L.map Value.string) := by
  have := World.ownsRow_lit w (e := 9) (size := 1) (L.map Value.string).toArray N (Nat.le_refl w.heap.size) (by unfold maxLen; omega) (by simp [h])
  simpa using this

set_option maxRecDepth 100000 in
set_option maxHeartbeats 1600000 in
theorem lines_impl (s : ByteArray) (w : World) (hs : s.size ≤ 1073741824) (hm : SomeMax w) :
    Calls Tryd.prog 16 #[.string s] w fun e w' => ∃ A c, e = .returned (.slice A (linesR s).length c) ∧ Own w' w.heap.size A (linesR s).length c (linesR s) ∧ Below w.heap.size w w' := by
  have HM := Lib.hid hm
  clear hm
  rcases Nat.eq_zero_or_pos s.size with hz | hz
  · have hemp := (mt_iff s).2 hz
    have hr : linesR s = [] := by unfold linesR; rw [if_pos hz]
    rw [hr]
    clear hz hr
    go_enter Tryd.func16, Tryd.ntmps16
    go_wp2
    go_ret
    exact ⟨_, _, rfl, ⟨rfl, World.ownsRow_nil w _ _ _⟩, Below.refl _ _⟩
  · have hemp := mt_no s hz
    have hr : linesR s = linesB s := by unfold linesR; rw [if_neg (by omega)]
    have hle := linesR_le s
    rw [hr] at hle ⊢
    clear hr hz
    have HSZ := Lib.hid (linesB_size s)
    have SP := Lib.hid (split_any s w hs HM.out)
    generalize linesB s = L at *
    obtain ⟨N, hN⟩ : ∃ N, L.length = N := ⟨_, rfl⟩
    rw [hN] at hle SP ⊢
    have HN := Lib.hid hN
    clear hN
    go_enter Tryd.func16, Tryd.ntmps16
    go_wp2_with fail
    refine SP.out.mono ?_; rintro e w1 ⟨rfl, rfl⟩
    go_wp2
    go_loopw [4, 5, 12] (fun _ _ i wr => ∃ k : Nat, k ≤ N ∧ i = .int .i64 k ∧ Own wr w.heap.size (some ⟨w.heap.size, 0, none⟩) N N L ∧ Below w.heap.size w wr) (fun _ _ i _ => N - (intOf i).toNat)
    case atStart => exact ⟨0, Nat.zero_le _, rfl, ⟨HN.out, own_lit HN.out (by omega)⟩, (Below.refl _ _).alloc (Nat.le_refl _) _⟩
    case round =>
      obtain ⟨k, hk, rfl, hown, hbel⟩ := hrel
      by_cases hlt : k < N
      · obtain ⟨g, hA, hg, hc⟩ := hown.reads.2 k (by rw [HN.out]; exact hlt)
        obtain rfl : w.heap.size = g := by injection hA with hA; injection hA
        have hsz := HSZ.out (L[k]'(by rw [HN.out]; exact hlt)) (List.getElem_mem _)
        have hset : L.set k (L[k]'(by rw [HN.out]; exact hlt)) = L := List.set_getElem_self _
        generalize L[k]'(by rw [HN.out]; exact hlt) = x at *
        have hk0 : (0 : Int) ≤ (k : Int) := by omega
        have hk1 : (k : Int) < (N : Int) := by omega
        clear hA
        go_wp2_with fail
        refine (clone_any x _ (by omega)).mono ?_; rintro e w1 ⟨rfl, hb1⟩
        have hown1 := hown.below hb1
        have hbel1 := hbel.trans (hb1.mono hbel.size)
        have hc1 := (hb1.cell (p := ⟨w.heap.size, k, none⟩) hg).trans hc
        have hf1 := hown1.2.frozenAt k
        have hown2 := own_set (j := k) hown1 x
        rw [hset] at hown2
        have hbel2 := hbel1.setCell (p := ⟨w.heap.size, k, none⟩) (Nat.le_refl _) (.string x)
        have HO := Lib.hid hown2
        have HB := Lib.hid hbel2
        clear hown hown1 hown2 hbel hbel1 hbel2 hb1 hset hc
        go_wp2
        go_roundw
        case rel => exact ⟨k + 1, by omega, by go_num, HO.out, HB.out⟩
        case measure => simp [intOf]; omega
      · have hk1 : ¬ (k : Int) < (N : Int) := by omega
        go_wp2
        go_ret
        exact ⟨_, _, rfl, hown, hbel⟩
end Go.Proofs.YtdhncpkcbeggmaaDoor
