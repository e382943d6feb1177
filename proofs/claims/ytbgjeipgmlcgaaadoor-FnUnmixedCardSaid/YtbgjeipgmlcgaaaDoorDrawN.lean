/-
  What the draws of numbers answer (no draw of texts); big and at of the laws.
-/
import Derived.Test.YtbgjeipgmlcgaaaDoorCur
import Derived.Test.YtbgjeipgmlcgaaaDoorByte
import Derived.Deep.RegionHeld3
import Derived.Deep.DrawnRows
import Derived.Deep.AppendLies
import Derived.WalkKit
import Derived.LoopTactic
import Derived.OwnWalk
import Derived.WalkLawsBesides
import Derived.WalkSpells
import Derived.Outline
import Derived.Laws.Pointers
import Derived.Deep.QuietTactic
import Derived.BigQuiet
import Derived.IntWalk
set_option linter.unusedVariables false
namespace Go.Proofs.YtbgjeipgmlcgaaaDoor
open Go.RowKit

set_option maxHeartbeats 800000 in
theorem below_small (n : Int) (h0 : 0 < n) (h1 : n ≤ 256) (w : World) (B g : Nat) (A : Option Addr) (len cap : Nat) (hc : CurIn w B g A len cap) :
    Calls Tryd.prog 69 #[.pointer (some ⟨g, 0, none⟩), .int .i64 n] w fun e w' => ∃ x : Int, e = .returned (.int .i64 x) ∧ 0 ≤ x ∧ x < n ∧ CurIn w' B g A len cap ∧ w.grownBy w' (some g) := by
  go_enter Tryd.func69, Tryd.ntmps69
  go_wp2_with (go_at_call 79; refine (byte_any _ _ _ _ _ _ hc).mono ?_; rintro e w1 ⟨x, rfl, hx0, hx1, hc1, hg1⟩)
  go_ret
  exact ⟨_, rfl, Int.emod_nonneg _ (by omega), Int.emod_lt_of_pos _ h0, hc1, hg1⟩

set_option maxHeartbeats 800000 in
theorem below_big (n : Int) (h0 : 256 < n) (h1 : n ≤ 1099511627776) (w : World) (B g : Nat) (A : Option Addr) (len cap : Nat) (hc : CurIn w B g A len cap) :
    Calls Tryd.prog 69 #[.pointer (some ⟨g, 0, none⟩), .int .i64 n] w fun e w' => ∃ x : Int, e = .returned (.int .i64 x) ∧ 0 ≤ x ∧ x < n ∧ CurIn w' B g A len cap ∧ w.grownBy w' (some g) := by
  have hn0 : ¬ n ≤ 0 := by omega
  have hn1 : ¬ n ≤ 256 := by omega
  go_enter Tryd.func69, Tryd.ntmps69
  go_wp2_with fail
  refine (byte_any _ _ _ _ _ _ hc).mono ?_; rintro e w1 ⟨x, rfl, hx0, hx1, hc1, hg1⟩
  go_wp2_with fail
  refine (byte_any _ _ _ _ _ _ hc1).mono ?_; rintro e w2 ⟨y, rfl, hy0, hy1, hc2, hg2⟩
  go_wp2_with fail
  refine (byte_any _ _ _ _ _ _ hc2).mono ?_; rintro e w3 ⟨z, rfl, hz0, hz1, hc3, hg3⟩
  go_wp2_with fail
  refine (byte_any _ _ _ _ _ _ hc3).mono ?_; rintro e w4 ⟨u, rfl, hu0, hu1, hc4, hg4⟩
  go_wp2
  go_ret
  exact ⟨_, rfl, Int.emod_nonneg _ (by omega), Int.emod_lt_of_pos _ (by omega), hc4, only_trans (only_trans (only_trans hg1 hg2) hg3) hg4⟩

theorem below_any (n : Int) (h0 : 0 < n) (h1 : n ≤ 1099511627776) (w : World) (B g : Nat) (A : Option Addr) (len cap : Nat) (hc : CurIn w B g A len cap) :
    Calls Tryd.prog 69 #[.pointer (some ⟨g, 0, none⟩), .int .i64 n] w fun e w' => ∃ x : Int, e = .returned (.int .i64 x) ∧ 0 ≤ x ∧ x < n ∧ CurIn w' B g A len cap ∧ w.grownBy w' (some g) := by
  rcases Int.lt_or_le 256 n with h | h
  · exact below_big n h h1 w B g A len cap hc
  · exact below_small n h0 h w B g A len cap hc

set_option maxHeartbeats 800000 in
theorem once_any (n : Int) (h0 : 0 < n) (h1 : n ≤ 256) (w : World) (B g : Nat) (A : Option Addr) (len cap : Nat) (hc : CurIn w B g A len cap) :
    Calls Tryd.prog 48 #[.pointer (some ⟨g, 0, none⟩), .int .i64 n] w fun e w' => ∃ x : Bool, e = .returned (.bool x) ∧ CurIn w' B g A len cap ∧ w.grownBy w' (some g) := by
  go_enter Tryd.func48, Tryd.ntmps48
  go_wp2_with (go_at_call 69; refine (below_small _ h0 h1 _ _ _ _ _ _ hc).mono ?_; rintro e w1 ⟨x, rfl, hx0, hx1, hc1, hg1⟩)
  go_ret
  exact ⟨_, rfl, hc1, hg1⟩

set_option maxHeartbeats 800000 in
theorem pickint_any (P : Int → Prop) (n b : Nat) (T : TypeId) (cs : Array Value) (h0 : 0 < n) (h1 : n ≤ 256) (w : World) (B g : Nat) (A : Option Addr) (len cap : Nat) (hc : CurIn w B g A len cap)
    (hb : w.heap[b]? = some (.cells cs T (0, 0))) (hbg : g < b) (hcs : ∀ j, j < n → ∃ x : Int, cs[j]? = some (.int .i64 x) ∧ P x) :
    Calls Tryd.prog 50 #[.pointer (some ⟨g, 0, none⟩), .slice (some ⟨b, 0, none⟩) n n] w fun e w' => ∃ x : Int, e = .returned (.int .i64 x) ∧ P x ∧ CurIn w' B g A len cap ∧ w.grownBy w' (some g) := by
  have hn0 : (0 : Int) < (n : Int) := by omega
  have hn1 : (n : Int) ≤ 256 := by omega
  have HB := Lib.hid hb
  have HC := Lib.hid hcs
  clear hb hcs
  go_enter Tryd.func50, Tryd.ntmps50
  go_wp2_with fail
  refine (below_small _ hn0 hn1 _ _ _ _ _ _ hc).mono ?_; rintro e w1 ⟨x, rfl, hx0, hx1, hc1, hg1⟩
  have hlt := World.block_lt_of_cell? w ⟨b, 0, none⟩ ((cell_of_row w b 0 cs T (0, 0) HB.out).trans (HC.out 0 h0).choose_spec.1)
  have hb1 := (hg1.block b hlt (by intro e; cases e; omega)).trans HB.out
  obtain ⟨j, rfl⟩ := Int.eq_ofNat_of_zero_le hx0
  obtain ⟨y, hy, hP⟩ := HC.out j (by omega)
  have hcell : w1.cell? ⟨b, j, none⟩ = some (.int .i64 y) := (cell_of_row w1 b j cs T (0, 0) hb1).trans hy
  clear hb1 hy hlt
  go_wp2
  go_ret
  exact ⟨_, rfl, hP, hc1, hg1⟩

theorem new_cur {w : World} {A : Option Addr} {len cap : Nat} (hcode : CodeAt w w.heap.size A len) (hl : len ≤ 1048576) (y : Int) :
    CurIn (w.alloc (.cells #[.slice A len cap, .int .i64 0, .int .i64 y] 57)) w.heap.size w.heap.size A len cap :=
  ⟨Nat.le_refl _, hl, hcode.below ((Below.refl w.heap.size w).alloc (Nat.le_refl _) _) (Nat.le_refl _), 0, y, Nat.zero_le _, heap_alloc_new w _⟩

set_option maxRecDepth 100000 in
set_option maxHeartbeats 800000 in
theorem new_any (w : World) (A : Option Addr) (len cap : Nat) (hcode : CodeAt w w.heap.size A len) (hl : len ≤ 1048576) :
    Calls Tryd.prog 30 #[.slice A len cap] w fun e w' => ∃ g, e = .returned (.pointer (some ⟨g, 0, none⟩)) ∧ CurIn w' w.heap.size g A len cap ∧ Below w.heap.size w w' := by
  have H := Lib.hid hcode
  clear hcode
  go_enter Tryd.func30, Tryd.ntmps30
  go_wp2
  go_loop [3, 4] (fun h i => ∃ (k : Nat) (y : Int), k ≤ len ∧ 0 ≤ y ∧ y ≤ 1073741823 ∧ i = .int .i64 k ∧ h = .int .i64 y) (fun _ i => len - (intOf i).toNat)
  case atStart => exact ⟨0, _, Nat.zero_le _, by omega, by omega, rfl, rfl⟩
  case round =>
    obtain ⟨k, y, hk, hy0, hy1, rfl, rfl⟩ := hrel
    by_cases hlt : k < len
    · by_cases h4 : k < 4000
      · obtain ⟨b, o, x, rfl, hb, hx, hcell⟩ := H.out k hlt
        have hk0 : (0 : Int) ≤ (k : Int) := by omega
        have hk1 : (k : Int) < (len : Int) := by omega
        have hx' : (x : Int) < 256 := by omega
        go_wp2
        go_round
        case rel => exact ⟨k + 1, _, by omega, (andMask _).1, (andMask _).2, by go_num, rfl⟩
        case measure => simp [intOf]; omega
      · have hk1 : (k : Int) < (len : Int) := by omega
        have hk4 : ¬ (k : Int) < 4000 := by omega
        go_wp2
        go_ret
        exact ⟨_, rfl, new_cur H.out hl _, (Below.refl _ _).alloc (Nat.le_refl _) _⟩
    · have hk1 : ¬ (k : Int) < (len : Int) := by omega
      go_wp2
      go_ret
      exact ⟨_, rfl, new_cur H.out hl _, (Below.refl _ _).alloc (Nat.le_refl _) _⟩
def In64 (x : Int) : Prop := -9223372036854775808 ≤ x ∧ x ≤ 9223372036854775807
/-- what holds of each of a literal's numbers. -/
theorem lits {P : Int → Prop} (l : List Int) (h : ∀ u ∈ l, P u) : ∀ j, j < l.length → ∃ u : Int, (l.map (Value.int .i64)).toArray[j]? = some (.int .i64 u) ∧ P u := by
  intro j hj
  refine ⟨l[j], ?_, h _ (List.getElem_mem hj)⟩
  simp [List.getElem?_eq_getElem hj]
set_option maxHeartbeats 800000 in
theorem big_small (w : World) (A : Option Addr) (len cap : Nat) (h : len ≤ 1048576) :
    Calls Tryd.prog 9 #[.slice A len cap] w fun e w' => e = .returned (.bool false) ∧ w = w' := by
  have h1 : ¬ (1048576 : Int) < (len : Int) := by omega
  go_enter Tryd.func9, Tryd.ntmps9
  go_wp2
  go_ret
  exact ⟨by first | (simp; done) | (simp; omega), rfl⟩
set_option maxHeartbeats 800000 in
theorem big_great (w : World) (A : Option Addr) (len cap : Nat) (h : 1048576 < len) (h2 : len ≤ 9223372036854775807) :
    Calls Tryd.prog 9 #[.slice A len cap] w fun e w' => e = .returned (.bool true) ∧ w = w' := by
  have h1 : (1048576 : Int) < (len : Int) := by omega
  go_enter Tryd.func9, Tryd.ntmps9
  go_wp2
  go_ret
  exact ⟨by first | (simp; done) | (simp; omega), rfl⟩
theorem CodeAt.up {w : World} {B C : Nat} {A : Option Addr} {len : Nat} (h : CodeAt w B A len) (hB : B ≤ C) : CodeAt w C A len := fun j hj => by
  obtain ⟨b, o, x, hA, hb, hx, hc⟩ := h j hj
  exact ⟨b, o, x, hA, Nat.lt_of_lt_of_le hb hB, hx, hc⟩

/-- a byte of the code, or a number told by its place and the code's length. -/
theorem at_any (i : Nat) (hi : i ≤ 1000) (w : World) (A : Option Addr) (len cap : Nat) (h : CodeAt w w.heap.size A len) (hl : len ≤ 1048576) :
    Calls Tryd.prog 24 #[.slice A len cap, .int .i64 i] w fun e w' => (∃ x : Nat, e = .returned (.int .i64 x) ∧ x < 256) ∧ w = w' := by
  have H := Lib.hid h
  clear h
  by_cases hlt : i < len
  · obtain ⟨b, o, x, rfl, hb, hx, hcell⟩ := H.out i hlt
    have h0 : (0 : Int) ≤ (i : Int) := by omega
    have h1 : (i : Int) < (len : Int) := by omega
    go_enter Tryd.func24, Tryd.ntmps24
    go_wp2
    go_ret
    exact ⟨⟨x, rfl, hx⟩, rfl⟩
  · have h1 : ¬ (i : Int) < (len : Int) := by omega
    go_enter Tryd.func24, Tryd.ntmps24
    go_wp2
    go_ret
    exact ⟨⟨(i * 7 + len) % 256, by rw [show (((i * 7 + len) % 256 : Nat) : Int) = ((i : Int) * 7 + (len : Int)) % 256 by omega]; rfl, by omega⟩, rfl⟩
end Go.Proofs.YtbgjeipgmlcgaaaDoor
