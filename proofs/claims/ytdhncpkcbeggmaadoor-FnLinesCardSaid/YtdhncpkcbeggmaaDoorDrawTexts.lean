/-
  What the draws of lines and of words answer; big; sameTexts.
-/
import Derived.Test.YtdhncpkcbeggmaaDoorCur
import Derived.Test.YtdhncpkcbeggmaaDoorByte
import Derived.Test.YtdhncpkcbeggmaaDoorDraw
import Derived.Test.YtdhncpkcbeggmaaDoorStrs
import Derived.Deep.RegionHeld3
import Derived.Deep.DrawnRows
import Derived.Deep.AppendLies
import Derived.WalkKit
import Derived.LoopTactic
import Derived.OwnWalk
import Derived.WalkLawsBesides
import Derived.WalkSpells
import Derived.Outline
import Derived.Laws.Pointers
import Derived.Deep.QuietTactic
import Derived.BigQuiet
import Derived.IntWalk
set_option linter.unusedVariables false
namespace Go.Proofs.YtdhncpkcbeggmaaDoor
open Go.RowKit
attribute [local go_sem ↓] Go.wp_at_zero Go.wp_at_succ

namespace Dt
theorem six (a b c d e f : ByteArray) (ha : a.size ≤ 2) (hb : b.size ≤ 2) (hc : c.size ≤ 2) (hd : d.size ≤ 2) (he : e.size ≤ 2) (hf : f.size ≤ 2) :
    ∀ j, j < 6 → ∃ u : ByteArray, (#[Value.string a, .string b, .string c, .string d, .string e, .string f] : Array Value)[j]? = some (.string u) ∧ u.size ≤ 2 := by
  intro j hj
  match j, hj with
  | 0, _ => exact ⟨_, rfl, ha⟩
  | 1, _ => exact ⟨_, rfl, hb⟩
  | 2, _ => exact ⟨_, rfl, hc⟩
  | 3, _ => exact ⟨_, rfl, hd⟩
  | 4, _ => exact ⟨_, rfl, he⟩
  | 5, _ => exact ⟨_, rfl, hf⟩
theorem five (a b c d e : ByteArray) (ha : a.size ≤ 2) (hb : b.size ≤ 2) (hc : c.size ≤ 2) (hd : d.size ≤ 2) (he : e.size ≤ 2) :
    ∀ j, j < 5 → ∃ u : ByteArray, (#[Value.string a, .string b, .string c, .string d, .string e] : Array Value)[j]? = some (.string u) ∧ u.size ≤ 2 := by
  intro j hj
  match j, hj with
  | 0, _ => exact ⟨_, rfl, ha⟩
  | 1, _ => exact ⟨_, rfl, hb⟩
  | 2, _ => exact ⟨_, rfl, hc⟩
  | 3, _ => exact ⟨_, rfl, hd⟩
  | 4, _ => exact ⟨_, rfl, he⟩
end Dt

set_option maxRecDepth 100000 in
set_option maxHeartbeats 1600000 in
theorem draw_lines (w : World) (A : Option Addr) (len cap : Nat) (hcode : CodeAt w w.heap.size A len) (hl : len ≤ 1048576) :
    Calls Tryd.prog 15 #[.slice A len cap] w fun e w' => ∃ s : ByteArray, e = .returned (.string s) ∧ s.size ≤ 14 ∧ Below w.heap.size w w' := by
  have H := Lib.hid hcode
  clear hcode
  go_enter Tryd.func15, Tryd.ntmps15
  go_wp2_with fail
  refine (new_any _ _ _ _ H.out hl).mono ?_; rintro e w1 ⟨g, rfl, hc1, hb1⟩
  go_wp2_with fail
  refine (below_small _ (by omega) (by omega) _ _ _ _ _ _ hc1).mono ?_; rintro e w2 ⟨x, rfl, hx0, hx1, hc2, hg2⟩
  obtain ⟨n, rfl⟩ := Int.eq_ofNat_of_zero_le hx0
  have hb2 := below_only hb1 hg2 hc1.1 hb1.size
  clear hg2 hc1 hb1
  go_wp2
  go_loopw [4, 6] (fun sv i wr => ∃ (k : Nat) (t : ByteArray), k ≤ n ∧ i = .int .i64 k ∧ sv = .string t ∧ t.size ≤ 2 * k ∧ CurIn wr w.heap.size g A len cap ∧ Below w.heap.size w wr) (fun _ i _ => n - (intOf i).toNat)
  case atStart => exact ⟨0, ⟨#[]⟩, Nat.zero_le _, rfl, rfl, by decide, hc2, hb2⟩
  case round =>
    obtain ⟨k, t, hk, rfl, rfl, ht, hc, hb⟩ := hrel
    by_cases hlt : k < n
    · have hk1 : (k : Int) < (n : Int) := by omega
      go_wp2_with fail
      refine (pick_any (fun t => t.size ≤ 2) 5 wr.heap.size 9 _ (by omega) (by omega) _ _ _ _ _ _ (hc.alloc _) (heap_alloc_new wr _) hc.lt (Dt.five _ _ _ _ _ (by decide) (by decide) (by decide) (by decide) (by decide))).mono ?_
      rintro e w3 ⟨y, rfl, hy, hc3, hg3⟩
      have hb3 := below_only (hb.alloc hb.size _) hg3 hc.1 (hb.alloc hb.size _).size
      have hsz : (t ++ y).size = t.size + y.size := ByteArray.size_append
      go_wp2
      go_roundw
      case rel => exact ⟨k + 1, _, by omega, by go_num, rfl, by omega, hc3, hb3⟩
      case measure => simp [intOf]; omega
    · have hk1 : ¬ (k : Int) < (n : Int) := by omega
      go_wp2
      go_ret
      exact ⟨_, rfl, by omega, hb⟩

set_option maxRecDepth 100000 in
set_option maxHeartbeats 1600000 in
theorem draw_words (w : World) (A : Option Addr) (len cap : Nat) (hcode : CodeAt w w.heap.size A len) (hl : len ≤ 1048576) :
    Calls Tryd.prog 18 #[.slice A len cap] w fun e w' => ∃ s : ByteArray, e = .returned (.string s) ∧ s.size ≤ 14 ∧ Below w.heap.size w w' := by
  have H := Lib.hid hcode
  clear hcode
  go_enter Tryd.func18, Tryd.ntmps18
  go_wp2_with fail
  refine (new_any _ _ _ _ H.out hl).mono ?_; rintro e w1 ⟨g, rfl, hc1, hb1⟩
  go_wp2_with fail
  refine (below_small _ (by omega) (by omega) _ _ _ _ _ _ hc1).mono ?_; rintro e w2 ⟨x, rfl, hx0, hx1, hc2, hg2⟩
  obtain ⟨n, rfl⟩ := Int.eq_ofNat_of_zero_le hx0
  have hb2 := below_only hb1 hg2 hc1.1 hb1.size
  clear hg2 hc1 hb1
  go_wp2
  go_loopw [4, 6] (fun sv i wr => ∃ (k : Nat) (t : ByteArray), k ≤ n ∧ i = .int .i64 k ∧ sv = .string t ∧ t.size ≤ 2 * k ∧ CurIn wr w.heap.size g A len cap ∧ Below w.heap.size w wr) (fun _ i _ => n - (intOf i).toNat)
  case atStart => exact ⟨0, ⟨#[]⟩, Nat.zero_le _, rfl, rfl, by decide, hc2, hb2⟩
  case round =>
    obtain ⟨k, t, hk, rfl, rfl, ht, hc, hb⟩ := hrel
    by_cases hlt : k < n
    · have hk1 : (k : Int) < (n : Int) := by omega
      go_wp2_with fail
      refine (pick_any (fun t => t.size ≤ 2) 6 wr.heap.size 9 _ (by omega) (by omega) _ _ _ _ _ _ (hc.alloc _) (heap_alloc_new wr _) hc.lt (Dt.six _ _ _ _ _ _ (by decide) (by decide) (by decide) (by decide) (by decide) (by decide))).mono ?_
      rintro e w3 ⟨y, rfl, hy, hc3, hg3⟩
      have hb3 := below_only (hb.alloc hb.size _) hg3 hc.1 (hb.alloc hb.size _).size
      have hsz : (t ++ y).size = t.size + y.size := ByteArray.size_append
      go_wp2
      go_roundw
      case rel => exact ⟨k + 1, _, by omega, by go_num, rfl, by omega, hc3, hb3⟩
      case measure => simp [intOf]; omega
    · have hk1 : ¬ (k : Int) < (n : Int) := by omega
      go_wp2
      go_ret
      exact ⟨_, rfl, by omega, hb⟩

set_option maxHeartbeats 800000 in
theorem big_le (w : World) (A : Option Addr) (len cap : Nat) (h : len ≤ 1048576) :
    Calls Tryd.prog 8 #[.slice A len cap] w fun e w' => e = .returned (.bool false) ∧ w = w' := by
  have h1 : ¬ (1048576 : Int) < (len : Int) := by omega
  go_enter Tryd.func8, Tryd.ntmps8
  go_wp2
  go_ret
  exact ⟨by first | (simp; done) | (simp; omega), rfl⟩
set_option maxHeartbeats 800000 in
theorem big_gt (w : World) (A : Option Addr) (len cap : Nat) (h : 1048576 < len) (h2 : len ≤ 9223372036854775807) :
    Calls Tryd.prog 8 #[.slice A len cap] w fun e w' => e = .returned (.bool true) ∧ w = w' := by
  have h1 : (1048576 : Int) < (len : Int) := by omega
  go_enter Tryd.func8, Tryd.ntmps8
  go_wp2
  go_ret
  exact ⟨by first | (simp; done) | (simp; omega), rfl⟩

set_option maxRecDepth 100000 in
set_option maxHeartbeats 1600000 in
/-- sameTexts of two lists that hold the same texts. -/
theorem sames_any (w : World) (A A' : Option Addr) (n c c' : Nat) (l : List ByteArray) (h : SRow w A n l) (h' : SRow w A' n l) (hn : n ≤ 4611686018427387904) :
    Calls Tryd.prog 19 #[.slice A n c, .slice A' n c'] w fun e w' => e = .returned (.bool true) ∧ ∃ k, w' = w.drewN k := by
  have H := Lib.hid h
  have H' := Lib.hid h'
  clear h h'
  go_enter Tryd.func19, Tryd.ntmps19
  go_wp2
  go_loopw [5] (fun i wr => ∃ k q : Nat, k ≤ n ∧ i = .int .i64 k ∧ wr = w.drewN q) (fun i _ => n - (intOf i).toNat)
  case atStart => exact ⟨0, 0, Nat.zero_le _, rfl, rfl⟩
  case round =>
    obtain ⟨k, q, hk, rfl, rfl⟩ := hrel
    by_cases hlt : k < n
    · obtain ⟨g, rfl, hg, hc⟩ := H.out.2 k (by have := H.out.1; omega)
      obtain ⟨g', rfl, hg', hc'⟩ := H'.out.2 k (by have := H'.out.1; omega)
      have hk0 : (0 : Int) ≤ (k : Int) := by omega
      have hk1 : (k : Int) < (n : Int) := by omega
      generalize l[k]'(by have := H.out.1; omega) = x at *
      go_wp2
      go_quiet (fail)
      go_wp2
      go_roundw
      case rel => exact ⟨k + 1, _, by omega, by go_num, rfl⟩
      case measure => simp [intOf]; omega
    · have hk1 : ¬ (k : Int) < (n : Int) := by omega
      go_wp2
      go_ret
      exact ⟨rfl, q, rfl⟩
end Go.Proofs.YtdhncpkcbeggmaaDoor
