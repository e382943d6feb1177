/-
  What spec.DrawHex and spec.DrawUnhex answer: some short text; and what laws.big tells.
-/
import Derived.Test.YtdhncpkcbeggmaaCur
import Derived.Test.YtdhncpkcbeggmaaByte
import Derived.Test.YtdhncpkcbeggmaaDraw
import Derived.Test.YtdhncpkcbeggmaaHex
import Derived.Test.YtdhncpkcbeggmaaHexI
import Derived.Test.YtdhncpkcbeggmaaXorI
import Derived.Test.YtdhncpkcbeggmaaOnes
import Derived.Test.YtdhncpkcbeggmaaUnhexI
import Derived.Test.YtdhncpkcbeggmaaBytes
import Derived.Test.YtdhncpkcbeggmaaBent
import Derived.Test.YtdhncpkcbeggmaaKit
import Derived.Deep.RegionHeld3
import Derived.Deep.DrawnRows
import Derived.Deep.AppendLies
import Derived.WalkKit
import Derived.LoopTactic
import Derived.OwnWalk
import Derived.WalkLawsBesides
import Derived.WalkSpells
import Derived.Outline
import Derived.Laws.Pointers
import Derived.Deep.QuietTactic
import Derived.BigQuiet
import Derived.IntWalk
set_option linter.unusedVariables false
namespace Go.Proofs.Ytdhncpkcbeggmaa
open Go.RowKit

theorem CurIn.below {w w' : World} {B g : Nat} {A : Option Addr} {len cap : Nat} (h : CurIn w B g A len cap) (hb : Below w.heap.size w w') : CurIn w' B g A len cap := by
  have hlt := h.lt
  obtain ⟨h1, h2, h3, i, hh, h4, h5⟩ := h
  exact ⟨h1, h2, h3.below hb (by omega), i, hh, h4, (hb.block g hlt).trans h5⟩
theorem six2 (a b c d e f : ByteArray) (ha : a.size ≤ 2) (hb : b.size ≤ 2) (hc : c.size ≤ 2) (hd : d.size ≤ 2) (he : e.size ≤ 2) (hf : f.size ≤ 2) :
    ∀ j, j < 6 → ∃ u : ByteArray, (#[Value.string a, .string b, .string c, .string d, .string e, .string f] : Array Value)[j]? = some (.string u) ∧ u.size ≤ 2 := by
  intro j hj
  match j, hj with
  | 0, _ => exact ⟨_, rfl, ha⟩
  | 1, _ => exact ⟨_, rfl, hb⟩
  | 2, _ => exact ⟨_, rfl, hc⟩
  | 3, _ => exact ⟨_, rfl, hd⟩
  | 4, _ => exact ⟨_, rfl, he⟩
  | 5, _ => exact ⟨_, rfl, hf⟩

set_option maxHeartbeats 800000 in
theorem big_small (w : World) (A : Option Addr) (len cap : Nat) (h : len ≤ 1048576) :
    Calls Try.prog 10 #[.slice A len cap] w fun e w' => e = .returned (.bool false) ∧ w = w' := by
  have h1 : ¬ (1048576 : Int) < (len : Int) := by omega
  go_enter Try.func10, Try.ntmps10
  go_wp2
  go_ret
  exact ⟨by first | (simp; done) | (simp; omega), rfl⟩
set_option maxHeartbeats 800000 in
theorem big_great (w : World) (A : Option Addr) (len cap : Nat) (h : 1048576 < len) (h2 : len ≤ 9223372036854775807) :
    Calls Try.prog 10 #[.slice A len cap] w fun e w' => e = .returned (.bool true) ∧ w = w' := by
  have h1 : (1048576 : Int) < (len : Int) := by omega
  go_enter Try.func10, Try.ntmps10
  go_wp2
  go_ret
  exact ⟨by first | (simp; done) | (simp; omega), rfl⟩

set_option maxRecDepth 100000 in
set_option maxHeartbeats 1600000 in
theorem draw_hex (w : World) (A : Option Addr) (len cap : Nat) (hcode : CodeAt w w.heap.size A len) (hl : len ≤ 1048576) :
    Calls Try.prog 11 #[.slice A len cap] w fun e w' => ∃ s : ByteArray, e = .returned (.string s) ∧ s.size ≤ 65536 ∧ Below w.heap.size w w' := by
  have H := Lib.hid hcode
  clear hcode
  go_enter Try.func11, Try.ntmps11
  go_wp2_with fail
  refine (new_any _ _ _ _ H.out hl).mono ?_; rintro e w1 ⟨g, rfl, hc1, hb1⟩
  go_wp2_with fail
  refine (below_small _ (by omega) (by omega) _ _ _ _ _ _ hc1).mono ?_; rintro e w2 ⟨x, rfl, hx0, hx1, hc2, hg2⟩
  obtain ⟨n, rfl⟩ := Int.eq_ofNat_of_zero_le hx0
  go_wp2_with fail
  refine (bytes_any n (by omega) _ _ _ _ _ _ hc2).mono ?_; rintro e w3 ⟨s, rfl, hs, hc3, hg3⟩
  have HS := Lib.hid hs
  clear hs
  go_wp2
  go_ret
  exact ⟨_, rfl, by have := HS.out; omega, below_only hb1 (only_trans hg2 hg3) hc1.1 hb1.size⟩

set_option maxRecDepth 100000 in
set_option maxHeartbeats 1600000 in
theorem draw_unhex (w : World) (A : Option Addr) (len cap : Nat) (hcode : CodeAt w w.heap.size A len) (hl : len ≤ 1048576) :
    Calls Try.prog 13 #[.slice A len cap] w fun e w' => ∃ s : ByteArray, e = .returned (.string s) ∧ s.size ≤ 65536 ∧ Below w.heap.size w w' := by
  have H := Lib.hid hcode
  clear hcode
  go_enter Try.func13, Try.ntmps13
  go_wp2_with fail
  refine (new_any _ _ _ _ H.out hl).mono ?_; rintro e w1 ⟨g, rfl, hc1, hb1⟩
  go_wp2_with fail
  refine (once_any _ (by omega) (by omega) _ _ _ _ _ _ hc1).mono ?_; rintro e w2 ⟨x, rfl, hc2, hg2⟩
  have hgr2 := below_only hb1 hg2 hc1.1 hb1.size
  cases x with
  | true =>
    go_wp2_with fail
    refine (pick_any (fun t => t.size ≤ 2) 6 w2.heap.size 9 _ (by omega) (by omega) _ _ _ _ _ _ (hc2.alloc _) (heap_alloc_new w2 _) hc2.lt (six2 _ _ _ _ _ _ (by decide) (by decide) (by decide) (by decide) (by decide) (by decide))).mono ?_
    rintro e w3 ⟨t, rfl, ht, hc3, hg3⟩
    go_wp2
    go_ret
    exact ⟨_, rfl, by omega, below_only (hgr2.alloc hgr2.size _) hg3 hc2.1 (hgr2.alloc hgr2.size _).size⟩
  | false =>
    go_wp2_with fail
    refine (below_small _ (by omega) (by omega) _ _ _ _ _ _ hc2).mono ?_; rintro e w3 ⟨x, rfl, hx0, hx1, hc3, hg3⟩
    obtain ⟨n, rfl⟩ := Int.eq_ofNat_of_zero_le hx0
    go_wp2_with fail
    refine (bytes_any n (by omega) _ _ _ _ _ _ hc3).mono ?_; rintro e w4 ⟨s, rfl, hs, hc4, hg4⟩
    have HS := Lib.hid hs
    have hs' : s.size ≤ 9 := by omega
    clear hs
    go_wp2_with fail
    refine (hex_spec s _ (by omega)).mono ?_; rintro e w5 ⟨rfl, hb5⟩
    have hc5 : CurIn w5 w.heap.size g A len cap := hc4.below hb5
    have hx : (⟨(hexOf s.data.toList).toArray⟩ : ByteArray).size ≤ 18 := by
      have h1 : (⟨(hexOf s.data.toList).toArray⟩ : ByteArray).size = (hexOf s.data.toList).length := by simp [ByteArray.size]
      have h2 : s.data.toList.length = s.size := by simp
      rw [h1, hexOf_length]; omega
    generalize (⟨(hexOf s.data.toList).toArray⟩ : ByteArray) = hx5 at *
    go_wp2_with fail
    refine (bent_any _ (by omega) _ _ _ _ _ _ hc5).mono ?_; rintro e w6 ⟨t, rfl, ht, hc6, hg6⟩
    go_wp2
    go_ret
    exact ⟨_, rfl, by omega, below_only ((below_only hgr2 (only_trans hg3 hg4) hc1.1 hgr2.size).trans (hb5.mono (below_only hgr2 (only_trans hg3 hg4) hc1.1 hgr2.size).size)) hg6 hc1.1 ((below_only hgr2 (only_trans hg3 hg4) hc1.1 hgr2.size).trans (hb5.mono (below_only hgr2 (only_trans hg3 hg4) hc1.1 hgr2.size).size)).size⟩
end Go.Proofs.Ytdhncpkcbeggmaa
