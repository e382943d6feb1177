/-
  Contracts and facts that the laws of this seat use: WordDraw, WordMore, KeyDraw, BlockDraw, AtTold.
-/
import Derived.Test.YtkbnnlhilnnpeaaGreatDoorBase
import Derived.Test.YtkbnnlhilnnpeaaGreatDoorWord
import Derived.Deep.RegionHeld3
import Derived.Deep.DrawnRows
import Derived.Deep.AppendLies
import Derived.WalkKit
import Derived.LoopTactic
import Derived.OwnWalk
import Derived.WalkLawsBesides
import Derived.WalkSpells
import Derived.Outline
import Derived.Laws.Pointers
import Derived.Deep.QuietTactic
import Derived.BigQuiet
import Derived.IntWalk
import Derived.Test.YtkbnnlhilnnpeaaGreatDoorPure
import Derived.Test.YtkbnnlhilnnpeaaGreatDoorKey
import Derived.Below
set_option linter.unusedVariables false
namespace Go.Proofs.YtkbnnlhilnnpeaaGreatDoor
open Go.RowKit

theorem CurIn.below {w w' : World} {B g : Nat} {A : Option Addr} {len cap : Nat} (h : CurIn w B g A len cap) (hb : Below w.heap.size w w') : CurIn w' B g A len cap := by
  have hlt := h.lt
  obtain ⟨h1, h2, h3, i, hh, h4, h5⟩ := h
  exact ⟨h1, h2, h3.below hb (by omega), i, hh, h4, (hb.block g hlt).trans h5⟩
theorem w32_in64 (x : UInt32) : In64 (x.toNat : Int) := by have := w32_lt x; unfold In64; omega
end Go.Proofs.YtkbnnlhilnnpeaaGreatDoor
set_option linter.unusedVariables false
namespace Go.Proofs.YtkbnnlhilnnpeaaGreatDoor
open Go Go.RowKit

theorem putW_getW (t : ByteArray) (i : Nat) (h : i + 4 ≤ t.size) : putW (getW t i) = t.extract i (i + 4) := by
  have hsz : (t.extract i (i + 4)).size = 4 := by simp; omega
  unfold putW getW
  rw [wb0_mk, wb1_mk, wb2_mk, wb3_mk]
  apply ByteArray.ext
  apply Array.ext
  · show 4 = (t.extract i (i + 4)).size
    omega
  · intro j h1 h2
    have hj : j < 4 := h1
    have e : (t.extract i (i + 4)).data[j] = byteOf t (i + j) := by
      have : (t.extract i (i + 4))[j]'(by omega) = byteOf t (i + j) := by rw [ByteArray.getElem_extract, byteOf_at]
      exact this
    rw [e]
    have h4 : j = 0 ∨ j = 1 ∨ j = 2 ∨ j = 3 := by omega
    rcases h4 with rfl | rfl | rfl | rfl <;> rfl
theorem getW_behind (c : UInt8) (x : UInt32) : getW ((⟨#[c]⟩ : ByteArray) ++ putW x) 1 = x := by
  have e : ((⟨#[c]⟩ : ByteArray) ++ putW x) = ⟨#[c, wb x 0, wb x 1, wb x 2, wb x 3]⟩ := by
    apply ByteArray.ext; simp [putW]
  rw [e]; exact mkW_wb x
theorem turned_8 (x : UInt32) : (putW x).extract 1 4 ++ (putW x).extract 0 1 = putW (rot x 8) := by
  rw [rot_b8]
  unfold putW
  rw [wb0_mk, wb1_mk, wb2_mk, wb3_mk]
  apply ByteArray.ext; simp
end Go.Proofs.YtkbnnlhilnnpeaaGreatDoor
set_option linter.unusedVariables false
namespace Go.Proofs.YtkbnnlhilnnpeaaGreatDoor
open Go.RowKit
attribute [local go_sem ↓] Go.wp_at_zero Go.wp_at_succ

set_option maxRecDepth 100000 in
set_option maxHeartbeats 1600000 in
theorem key_any (w : World) (B g : Nat) (A : Option Addr) (len cap : Nat) (hc : CurIn w B g A len cap) :
    Calls Tryz.prog 54 #[.pointer (some ⟨g, 0, none⟩)] w fun e w' => ∃ s : ByteArray, e = .returned (.string s) ∧ kOk s ∧ CurIn w' B g A len cap ∧ w.grownBy w' (some g) := by
  go_enter Tryz.func54, Tryz.ntmps54
  go_wp2_with fail
  refine (pickint_any (fun u => u = 16 ∨ u = 24 ∨ u = 32) 4 w.heap.size 3 _ (by omega) (by omega) _ _ _ _ _ _ (hc.alloc _) (heap_alloc_new w _) hc.lt (lits [16, 16, 24, 32] (by simp))).mono ?_
  rintro e w1 ⟨u, rfl, hu, hc1, hg1⟩
  obtain ⟨n, rfl, hn⟩ : ∃ n : Nat, u = (n : Int) ∧ (n = 16 ∨ n = 24 ∨ n = 32) := by
    rcases hu with rfl | rfl | rfl
    · exact ⟨16, rfl, .inl rfl⟩
    · exact ⟨24, rfl, .inr (.inl rfl)⟩
    · exact ⟨32, rfl, .inr (.inr rfl)⟩
  have HN := Lib.hid hn
  clear hu hn
  go_wp2_with fail
  refine (bytes_any n (by have := HN.out; omega) _ _ _ _ _ _ hc1).mono ?_; rintro e w2 ⟨s, rfl, hs, hc2, hg2⟩
  have HK : Hid (kOk s) := Lib.hid (by unfold kOk; rw [hs]; exact HN.out)
  clear hs
  go_wp2
  go_ret
  exact ⟨_, rfl, HK.out, hc2, only_trans (only_trans (only_alloc (only_refl _ _) _) hg1) hg2⟩
set_option maxRecDepth 100000 in
set_option maxHeartbeats 1600000 in
theorem odd_any (w : World) (B g : Nat) (A : Option Addr) (len cap : Nat) (hc : CurIn w B g A len cap) :
    Calls Tryz.prog 26 #[.pointer (some ⟨g, 0, none⟩)] w fun e w' => ∃ s : ByteArray, e = .returned (.string s) ∧ s.size ≤ 1000 ∧ CurIn w' B g A len cap ∧ w.grownBy w' (some g) := by
  go_enter Tryz.func26, Tryz.ntmps26
  go_wp2_with fail
  refine (once_any _ (by omega) (by omega) _ _ _ _ _ _ hc).mono ?_; rintro e w1 ⟨x, rfl, hc1, hg1⟩
  cases x with
  | true =>
    go_wp2_with fail
    refine (pickint_any (fun u => 0 ≤ u ∧ u ≤ 33) 5 w1.heap.size 3 _ (by omega) (by omega) _ _ _ _ _ _ (hc1.alloc _) (heap_alloc_new w1 _) hc1.lt (lits [0, 15, 17, 23, 33] (by simp))).mono ?_
    rintro e w2 ⟨u, rfl, ⟨hu0, hu1⟩, hc2, hg2⟩
    obtain ⟨n, rfl⟩ := Int.eq_ofNat_of_zero_le hu0
    go_wp2_with fail
    refine (bytes_any n (by omega) _ _ _ _ _ _ hc2).mono ?_; rintro e w3 ⟨s, rfl, hs, hc3, hg3⟩
    have HK : Hid (s.size ≤ 1000) := Lib.hid (by omega)
    clear hs
    go_wp2
    go_ret
    exact ⟨_, rfl, HK.out, hc3, only_trans (only_trans (only_alloc hg1 _) hg2) hg3⟩
  | false =>
    go_wp2_with fail
    refine (key_any _ _ _ _ _ _ hc1).mono ?_; rintro e w2 ⟨s, rfl, hs, hc2, hg2⟩
    have HK : Hid (s.size ≤ 1000) := Lib.hid (by rcases hs with h | h | h <;> omega)
    clear hs
    go_wp2
    go_ret
    exact ⟨_, rfl, HK.out, hc2, only_trans hg1 hg2⟩
theorem bytes_own {w w2 w1 : World} {k : Nat} {e : TypeId} {u v : Value} {o : Obj} {l : List UInt8} {x : Int} (h0 : 0 ≤ x) (h1 : x ≤ 255)
    (hown2 : w2.ownsRow w.heap.size e 1 u k (cells8 l)) (hbel2 : Below w.heap.size w w2)
    (hown3 : w1.ownsRow w.heap.size e 1 v (k + 1) (cells8 l ++ [.int .u8 x]))
    (hgrow : (w2.alloc o).grownBy w1 u.ownBlock) :
    w1.ownsRow w.heap.size e 1 v (k + 1) (cells8 (l ++ [UInt8.ofNat x.toNat])) ∧ Below w.heap.size w w1 := by
  refine ⟨?_, ?_⟩
  · rw [cells8_append, show cells8 [UInt8.ofNat x.toNat] = [.int .u8 x] by rw [cell_byte x h0 h1]; rfl]
    exact hown3
  · have h1 : Below w.heap.size w (w2.alloc o) := hbel2.alloc hbel2.size _
    exact h1.grown hgrow h1.size (fun b hb => (hown2.lt b hb).1)
end Go.Proofs.YtkbnnlhilnnpeaaGreatDoor
set_option linter.unusedVariables false
namespace Go.Proofs.YtkbnnlhilnnpeaaGreatDoor
open Go.RowKit
attribute [local go_sem ↓] Go.wp_at_zero Go.wp_at_succ

set_option maxRecDepth 100000 in
set_option maxHeartbeats 1600000 in
theorem block_any (w : World) (B g : Nat) (A : Option Addr) (len cap : Nat) (hc : CurIn w B g A len cap) :
    Calls Tryz.prog 27 #[.pointer (some ⟨g, 0, none⟩)] w fun e w' => ∃ s : ByteArray, e = .returned (.string s) ∧ s.size ≤ 1000 ∧ CurIn w' B g A len cap ∧ w.grownBy w' (some g) := by
  go_enter Tryz.func27, Tryz.ntmps27
  go_wp2_with fail
  refine (once_any _ (by omega) (by omega) _ _ _ _ _ _ hc).mono ?_; rintro e w1 ⟨x, rfl, hc1, hg1⟩
  cases x with
  | true =>
    go_wp2_with fail
    refine (pickint_any (fun u => 0 ≤ u ∧ u ≤ 17) 3 w1.heap.size 3 _ (by omega) (by omega) _ _ _ _ _ _ (hc1.alloc _) (heap_alloc_new w1 _) hc1.lt (lits [0, 15, 17] (by simp))).mono ?_
    rintro e w2 ⟨u, rfl, ⟨hu0, hu1⟩, hc2, hg2⟩
    obtain ⟨n, rfl⟩ := Int.eq_ofNat_of_zero_le hu0
    go_wp2_with fail
    refine (bytes_any n (by omega) _ _ _ _ _ _ hc2).mono ?_; rintro e w3 ⟨s, rfl, hs, hc3, hg3⟩
    have HK : Hid (s.size ≤ 1000) := Lib.hid (by omega)
    clear hs
    go_wp2
    go_ret
    exact ⟨_, rfl, HK.out, hc3, only_trans (only_trans (only_alloc hg1 _) hg2) hg3⟩
  | false =>
    go_wp2_with fail
    refine (bytes_any 16 (by omega) _ _ _ _ _ _ hc1).mono ?_; rintro e w2 ⟨s, rfl, hs, hc2, hg2⟩
    have HK : Hid (s.size ≤ 1000) := Lib.hid (by omega)
    clear hs
    go_wp2
    go_ret
    exact ⟨_, rfl, HK.out, hc2, only_trans hg1 hg2⟩
end Go.Proofs.YtkbnnlhilnnpeaaGreatDoor
set_option linter.unusedVariables false
namespace Go.Proofs.YtkbnnlhilnnpeaaGreatDoor
open Go.RowKit

/-- a byte of the code, or a number told by its place and the code's length: the same in every world to come. -/
theorem at_told (i : Nat) (hi : i ≤ 1000) (w : World) (A : Option Addr) (len cap : Nat) (h : CodeAt w w.heap.size A len) (hl : len ≤ 1048576) :
    ∃ v : UInt8, ∀ W, Below w.heap.size w W → Hid (Calls Tryz.prog 11 #[.slice A len cap, .int .i64 i] W fun e w' => e = .returned (.int .i64 v.toNat) ∧ w' = W) := by
  by_cases hlt : i < len
  · obtain ⟨b, o, x, rfl, hb, hx, hcell⟩ := h i hlt
    have hv : (UInt8.ofNat x).toNat = x := by rw [UInt8.toNat_ofNat']; omega
    refine ⟨UInt8.ofNat x, fun W hW => Lib.hid ?_⟩
    rw [hv]
    have hcell2 := (hW.cell (p := ⟨b, o + i, none⟩) hb).trans hcell
    have h0 : (0 : Int) ≤ (i : Int) := by omega
    have h1 : (i : Int) < (len : Int) := by omega
    clear hW hcell h hv
    go_enter Tryz.func11, Tryz.ntmps11
    go_wp2
    go_ret
    exact ⟨rfl, rfl⟩
  · have hv : (UInt8.ofNat ((i * 7 + len) % 256)).toNat = (i * 7 + len) % 256 := by rw [UInt8.toNat_ofNat']; omega
    refine ⟨UInt8.ofNat ((i * 7 + len) % 256), fun W hW => Lib.hid ?_⟩
    rw [hv]
    have h1 : ¬ (i : Int) < (len : Int) := by omega
    clear hW h hv
    go_enter Tryz.func11, Tryz.ntmps11
    go_wp2
    go_ret
    exact ⟨(congrArg (fun v => Ending.returned (.int .i64 v)) (show (((i * 7 + len) % 256 : Nat) : Int) = ((i : Int) * 7 + (len : Int)) % 256 by omega)).symm, rfl⟩
end Go.Proofs.YtkbnnlhilnnpeaaGreatDoor
