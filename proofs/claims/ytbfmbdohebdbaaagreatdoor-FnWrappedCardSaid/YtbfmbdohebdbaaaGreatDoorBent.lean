/-
  What spec.l01Bent answers: some text, longer by at most one byte.
-/
import Derived.Test.YtbfmbdohebdbaaaGreatDoorBase
import Derived.Deep.RegionHeld3
import Derived.Deep.DrawnRows
import Derived.Deep.AppendLies
import Derived.WalkKit
import Derived.LoopTactic
import Derived.OwnWalk
import Derived.WalkLawsBesides
import Derived.WalkSpells
import Derived.Outline
import Derived.Laws.Pointers
import Derived.Deep.QuietTactic
import Derived.BigQuiet
import Derived.IntWalk
set_option linter.unusedVariables false
namespace Go.Proofs.YtbfmbdohebdbaaaGreatDoor
open Go.RowKit

theorem six (a b c d e f : ByteArray) (ha : a.size ≤ 1) (hb : b.size ≤ 1) (hc : c.size ≤ 1) (hd : d.size ≤ 1) (he : e.size ≤ 1) (hf : f.size ≤ 1) :
    ∀ j, j < 6 → ∃ u : ByteArray, (#[Value.string a, .string b, .string c, .string d, .string e, .string f] : Array Value)[j]? = some (.string u) ∧ u.size ≤ 1 := by
  intro j hj
  match j, hj with
  | 0, _ => exact ⟨_, rfl, ha⟩
  | 1, _ => exact ⟨_, rfl, hb⟩
  | 2, _ => exact ⟨_, rfl, hc⟩
  | 3, _ => exact ⟨_, rfl, hd⟩
  | 4, _ => exact ⟨_, rfl, he⟩
  | 5, _ => exact ⟨_, rfl, hf⟩

set_option maxRecDepth 100000 in
set_option maxHeartbeats 3200000 in
theorem bent_any (s : ByteArray) (hs : s.size ≤ 65536) (w : World) (B g : Nat) (A : Option Addr) (len cap : Nat) (hc : CurIn w B g A len cap) :
    Calls Tryz.prog 32 #[.pointer (some ⟨g, 0, none⟩), .string s] w fun e w' => ∃ t : ByteArray, e = .returned (.string t) ∧ t.size ≤ s.size + 1 ∧ CurIn w' B g A len cap ∧ w.grownBy w' (some g) := by
  go_enter Tryz.func32, Tryz.ntmps32
  go_wp2_with fail
  refine (below_any _ (by omega) (by omega) _ _ _ _ _ _ hc).mono ?_; rintro e w1 ⟨x, rfl, hx0, hx1, hc1, hg1⟩
  obtain ⟨i, rfl⟩ := Int.eq_ofNat_of_zero_le hx0
  have hi : i ≤ s.size := by omega
  have hi2 : (i : Int) ≤ (s.size : Int) := by omega
  go_wp2_with fail
  refine (below_small _ (by omega) (by omega) _ _ _ _ _ _ hc1).mono ?_; rintro e w2 ⟨r, rfl, hr0, hr1, hc2, hg2⟩
  have hgr2 := only_trans hg1 hg2
  clear hc1 hg1 hg2
  by_cases h0 : r = 0
  · subst h0
    go_wp2
    go_ret
    exact ⟨_, rfl, by simp; omega, hc2, hgr2⟩
  · by_cases h1 : r = 1
    · subst h1
      clear h0
      go_wp2
      go_region_with ((go_at_call 46; refine (pick_any (fun t => t.size ≤ 1) 6 w2.heap.size 9 _ (by omega) (by omega) _ _ _ _ _ _ (hc2.alloc _).drew (heap_alloc_new w2 _) hc2.lt (six _ _ _ _ _ _ (by decide) (by decide) (by decide) (by decide) (by decide) (by decide))).mono ?_; rintro e w3 ⟨t, rfl, ht, hc3, hg3⟩))
      all_goals
        go_wp2
        go_ret
        exact ⟨_, rfl, by simp only [ByteArray.size_append, ByteArray.size_extract]; omega, hc3, only_trans (only_drew (only_alloc hgr2 _)) hg3⟩
    · by_cases h2 : r = 2
      · subst h2
        clear h0 h1
        by_cases hlt : i < s.size
        · have hlt2 : (i : Int) < (s.size : Int) := by omega
          have hw : IntKind.i64.wrap ((i : Int) + 1) = (i : Int) + 1 := IntWalk.i64_in _ (by omega)
          have hs0 : (0 : Int) ≤ (i : Int) + 1 := by omega
          have hs1 : (i : Int) + 1 ≤ (s.size : Int) := by omega
          go_wp2
          go_region_with ((go_at_call 46; refine (pick_any (fun t => t.size ≤ 1) 6 w2.heap.size 9 _ (by omega) (by omega) _ _ _ _ _ _ (hc2.alloc _).drew (heap_alloc_new w2 _) hc2.lt (six _ _ _ _ _ _ (by decide) (by decide) (by decide) (by decide) (by decide) (by decide))).mono ?_; rintro e w3 ⟨t, rfl, ht, hc3, hg3⟩))
          all_goals
            clear hw
            go_wp2
            go_ret
            exact ⟨_, rfl, by simp only [ByteArray.size_append, ByteArray.size_extract]; omega, hc3, only_trans (only_drew (only_alloc hgr2 _)) hg3⟩
        · have hlt2 : ¬ (i : Int) < (s.size : Int) := by omega
          go_wp2
          go_ret
          exact ⟨_, rfl, by omega, hc2, hgr2⟩
      · go_wp2
        go_ret
        exact ⟨_, rfl, by omega, hc2, hgr2⟩
end Go.Proofs.YtbfmbdohebdbaaaGreatDoor
