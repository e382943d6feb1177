/-
  What the draws of texts answer.
-/
import Derived.Test.YtbgjeipgmlcgaaaDoorCur
import Derived.Test.YtbgjeipgmlcgaaaDoorByte
import Derived.Test.YtbgjeipgmlcgaaaDoorDrawN
import Derived.Test.YtbgjeipgmlcgaaaDoorKit
import Derived.Deep.RegionHeld3
import Derived.Deep.DrawnRows
import Derived.Deep.AppendLies
import Derived.WalkKit
import Derived.LoopTactic
import Derived.OwnWalk
import Derived.WalkLawsBesides
import Derived.WalkSpells
import Derived.Outline
import Derived.Laws.Pointers
import Derived.Deep.QuietTactic
import Derived.BigQuiet
import Derived.IntWalk
set_option linter.unusedVariables false
namespace Go.Proofs.YtbgjeipgmlcgaaaDoor
open Go.RowKit

theorem own_only {w w' : World} {base n size g : Nat} {e : TypeId} {v : Value} {xs : List Value} (h : w.ownsRow base e size v n xs) (hg : w.grownBy w' (some g)) (hlt : g < base) : w'.ownsRow base e size v n xs :=
  h.kept hg (.inr (fun he => by have := (h.lt g he).1; omega))
theorem cell_byte (x : Int) (h0 : 0 ≤ x) (h1 : x ≤ 255) : Value.int .u8 x = cell8 (UInt8.ofNat x.toNat) := by
  unfold cell8
  rw [UInt8.toNat_ofNat']
  congr 1
  omega
theorem seven (x y z : Int) (hx0 : 0 ≤ x) (hx1 : x < 256) (hy0 : 0 ≤ y) (hy1 : y < 256) (hz0 : 0 ≤ z) (hz1 : z < 256) :
    ∀ j, j < 7 → ∃ u : Int, (#[Value.int .i64 0, .int .i64 1, .int .i64 128, .int .i64 255, .int .i64 x, .int .i64 y, .int .i64 z] : Array Value)[j]? = some (.int .i64 u) ∧ (0 ≤ u ∧ u ≤ 255) := by
  intro j hj
  match j, hj with
  | 0, _ => exact ⟨_, rfl, by omega, by omega⟩
  | 1, _ => exact ⟨_, rfl, by omega, by omega⟩
  | 2, _ => exact ⟨_, rfl, by omega, by omega⟩
  | 3, _ => exact ⟨_, rfl, by omega, by omega⟩
  | 4, _ => exact ⟨_, rfl, hx0, by omega⟩
  | 5, _ => exact ⟨_, rfl, hy0, by omega⟩
  | 6, _ => exact ⟨_, rfl, hz0, by omega⟩

theorem bytes_rel {w w4 w5 : World} {k B g : Nat} {A : Option Addr} {len cap : Nat} {e : TypeId} {u v : Value} {o : Obj} {l : List UInt8} {x : Int} (hgw : g < w.heap.size)
    (hown4 : w4.ownsRow w.heap.size e 1 u k (cells8 l)) (hc4 : CurIn w4 B g A len cap) (hgr4 : w.grownBy w4 (some g)) (h0 : 0 ≤ x) (h1 : x ≤ 255)
    (hown5 : w5.ownsRow w.heap.size e 1 v (k + 1) (cells8 l ++ [.int .u8 x])) (hgrow : (w4.alloc o).grownBy w5 u.ownBlock) :
    w5.ownsRow w.heap.size e 1 v (k + 1) (cells8 (l ++ [UInt8.ofNat x.toNat])) ∧ CurIn w5 B g A len cap ∧ w.grownBy w5 (some g) := by
  have hr : ∀ r, u.ownBlock = some r → w.heap.size ≤ r := fun r e => (hown4.lt r e).1
  refine ⟨?_, (hc4.alloc o).grown hgrow (fun r e => Nat.lt_of_lt_of_le hgw (hr r e)), only_grown (only_alloc hgr4 o) hgrow (fun r e => .inr (hr r e))⟩
  rw [cells8_append, show cells8 [UInt8.ofNat x.toNat] = [.int .u8 x] by rw [cell_byte x h0 h1]; rfl]
  exact hown5

set_option maxRecDepth 100000 in
set_option maxHeartbeats 1600000 in
theorem bytes_any (n : Nat) (hn : n ≤ 65536) (w : World) (B g : Nat) (A : Option Addr) (len cap : Nat) (hc : CurIn w B g A len cap) :
    Calls Tryd.prog 49 #[.pointer (some ⟨g, 0, none⟩), .int .i64 n] w fun e w' => ∃ s : ByteArray, e = .returned (.string s) ∧ s.size = n ∧ CurIn w' B g A len cap ∧ w.grownBy w' (some g) := by
  obtain ⟨i0, hi, hz0, hz1, hz2⟩ := info_parts Tryd.info5
  have hgw := hc.lt
  go_enter Tryd.func49, Tryd.ntmps49
  go_wp2
  go_loopw [5, 6] (fun v i wr => ∃ (k : Nat) (l : List UInt8), k ≤ n ∧ Hid (l.length = k) ∧ i = .int .i64 k ∧ wr.ownsRow w.heap.size 5 1 v k (cells8 l) ∧ CurIn wr B g A len cap ∧ w.grownBy wr (some g)) (fun _ i _ => n - (intOf i).toNat)
  case atStart => exact ⟨0, [], Nat.zero_le _, Lib.hid rfl, rfl, World.ownsRow_lit w #[] 0 (Nat.le_refl _) (by simp [maxLen]) rfl, hc.alloc _, only_alloc (only_refl _ _) _⟩
  case round =>
    obtain ⟨k, l, hk, hl, rfl, hown, hcr, hgr⟩ := hrel
    by_cases hlt : k < n
    · have hk1 : (k : Int) < (n : Int) := by omega
      go_wp2_with fail
      refine (below_small _ (by omega) (by omega) _ _ _ _ _ _ hcr).mono ?_; rintro e w1 ⟨x, rfl, hx0, hx1, hc1, hg1⟩
      go_wp2_with fail
      refine (below_small _ (by omega) (by omega) _ _ _ _ _ _ hc1).mono ?_; rintro e w2 ⟨y, rfl, hy0, hy1, hc2, hg2⟩
      go_wp2_with fail
      refine (below_small _ (by omega) (by omega) _ _ _ _ _ _ hc2).mono ?_; rintro e w3 ⟨z, rfl, hz0', hz1', hc3, hg3⟩
      have hown3 := own_only (own_only (own_only hown hg1 hgw) hg2 hgw) hg3 hgw
      have hgr3 := only_trans (only_trans (only_trans hgr hg1) hg2) hg3
      clear hg1 hg2 hg3 hown hgr hc1 hc2 hcr
      go_wp2_with fail
      refine (pickint_any (fun u => 0 ≤ u ∧ u ≤ 255) 7 w3.heap.size 3 _ (by omega) (by omega) _ _ _ _ _ _ (hc3.alloc _) (heap_alloc_new w3 _) hc3.lt (seven x y z hx0 hx1 hy0 hy1 hz0' hz1')).mono ?_
      rintro e w4 ⟨u, rfl, ⟨hu0, hu1⟩, hc4, hg4⟩
      have hown4 := own_only (hown3.alloc _) hg4 hgw
      have hgr4 := only_trans (only_alloc hgr3 _) hg4
      clear hown3 hgr3 hg4 hc3
      go_wp2_with (at_builtin; refine stp ?_)
      refine unstp ?_
      refine wpList_append_lies _ rfl (.tmp 13) (.tmp 24) 22 rfl w.heap.size 5 i0 (.int .u8 0) 1 1 Tryd.underlying22 hi hz0 hz1 hz2 rfl (by decide) u5 k (cells8 l) rfl (hown4.alloc _) ⟨w4.heap.size, 0, none⟩ 1 1 [.int .u8 u] rfl rfl (World.news_of_block (cs := #[.int .u8 u]) (heap_alloc_new w4 _)) (by simp [Value.oneCell']) (by omega) (by unfold maxLen; omega) (by omega) (by have := hgr4.size; simp; omega) (w4.heap.size + 1) (by simp) ?_
      intro g2 cap2 w5 hown5 hgrow hat hlt5
      have hrel := bytes_rel hgw hown4 hc4 hgr4 hu0 hu1 hown5 hgrow
      have HL : Hid ((l ++ [UInt8.ofNat u.toNat]).length = k + 1) := Lib.hid (by have := hl.out; simp; omega)
      clear hown4 hc4 hgr4 hown5 hgrow hat hlt5
      go_wp2
      go_roundw
      case rel => exact ⟨k + 1, _, by omega, HL, by go_num, hrel.1, hrel.2.1, hrel.2.2⟩
      case measure => simp [intOf]; omega
    · have hk1 : ¬ (k : Int) < (n : Int) := by omega
      have hconv := run_string_own Tryd.underlying22 Tryd.underlying5 Tryd.underlying9 hown
      go_wp2
      go_ret
      exact ⟨_, rfl, by have := hl.out; simp [ByteArray.size]; omega, hcr, hgr⟩
end Go.Proofs.YtbgjeipgmlcgaaaDoor
