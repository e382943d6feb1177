/-
  Contracts and facts that the laws of this seat use: WordDraw, WordMore, KeyDraw, BlockDraw, AtTold.
-/
import Derived.Test.YtbfmbdohebdbaaaGreatDoorBase
import Derived.Test.YtbfmbdohebdbaaaGreatDoorWord
import Derived.Deep.RegionHeld3
import Derived.Deep.DrawnRows
import Derived.Deep.AppendLies
import Derived.WalkKit
import Derived.LoopTactic
import Derived.OwnWalk
import Derived.WalkLawsBesides
import Derived.WalkSpells
import Derived.Outline
import Derived.Laws.Pointers
import Derived.Deep.QuietTactic
import Derived.BigQuiet
import Derived.IntWalk
import Derived.Test.YtbfmbdohebdbaaaGreatDoorPure
import Derived.Test.YtbfmbdohebdbaaaGreatDoorKey
import Derived.Below
set_option linter.unusedVariables false
namespace Go.Proofs.YtbfmbdohebdbaaaGreatDoor
open Go.RowKit

theorem CurIn.below {w w' : World} {B g : Nat} {A : Option Addr} {len cap : Nat} (h : CurIn w B g A len cap) (hb : Below w.heap.size w w') : CurIn w' B g A len cap := by
  have hlt := h.lt
  obtain ⟨h1, h2, h3, i, hh, h4, h5⟩ := h
  exact ⟨h1, h2, h3.below hb (by omega), i, hh, h4, (hb.block g hlt).trans h5⟩
theorem w32_in64 (x : UInt32) : In64 (x.toNat : Int) := by have := w32_lt x; unfold In64; omega
end Go.Proofs.YtbfmbdohebdbaaaGreatDoor
set_option linter.unusedVariables false
namespace Go.Proofs.YtbfmbdohebdbaaaGreatDoor
open Go Go.RowKit

theorem putW_getW (t : ByteArray) (i : Nat) (h : i + 4 ≤ t.size) : putW (getW t i) = t.extract i (i + 4) := by
  have hsz : (t.extract i (i + 4)).size = 4 := by simp; omega
  unfold putW getW
  rw [wb0_mk, wb1_mk, wb2_mk, wb3_mk]
  apply ByteArray.ext
  apply Array.ext
  · show 4 = (t.extract i (i + 4)).size
    omega
  · intro j h1 h2
    have hj : j < 4 := h1
    have e : (t.extract i (i + 4)).data[j] = byteOf t (i + j) := by
      have : (t.extract i (i + 4))[j]'(by omega) = byteOf t (i + j) := by rw [ByteArray.getElem_extract, byteOf_at]
      exact this
    rw [e]
    have h4 : j = 0 ∨ j = 1 ∨ j = 2 ∨ j = 3 := by omega
    rcases h4 with rfl | rfl | rfl | rfl <;> rfl
theorem getW_behind (c : UInt8) (x : UInt32) : getW ((⟨#[c]⟩ : ByteArray) ++ putW x) 1 = x := by
  have e : ((⟨#[c]⟩ : ByteArray) ++ putW x) = ⟨#[c, wb x 0, wb x 1, wb x 2, wb x 3]⟩ := by
    apply ByteArray.ext; simp [putW]
  rw [e]; exact mkW_wb x
theorem turned_8 (x : UInt32) : (putW x).extract 1 4 ++ (putW x).extract 0 1 = putW (rot x 8) := by
  rw [rot_b8]
  unfold putW
  rw [wb0_mk, wb1_mk, wb2_mk, wb3_mk]
  apply ByteArray.ext; simp
end Go.Proofs.YtbfmbdohebdbaaaGreatDoor
set_option linter.unusedVariables false
namespace Go.Proofs.YtbfmbdohebdbaaaGreatDoor
open Go.RowKit
attribute [local go_sem ↓] Go.wp_at_zero Go.wp_at_succ

set_option maxRecDepth 100000 in
set_option maxHeartbeats 1600000 in
theorem key_any (w : World) (B g : Nat) (A : Option Addr) (len cap : Nat) (hc : CurIn w B g A len cap) :
    Calls Tryz.prog 34 #[.pointer (some ⟨g, 0, none⟩)] w fun e w' => ∃ s : ByteArray, e = .returned (.string s) ∧ kOk s ∧ CurIn w' B g A len cap ∧ w.grownBy w' (some g) := by
  go_enter Tryz.func34, Tryz.ntmps34
  go_wp2_with fail
  refine (pickint_any (fun u => u = 16 ∨ u = 24 ∨ u = 32) 4 w.heap.size 3 _ (by omega) (by omega) _ _ _ _ _ _ (hc.alloc _) (heap_alloc_new w _) hc.lt (lits [16, 16, 24, 32] (by simp))).mono ?_
  rintro e w1 ⟨u, rfl, hu, hc1, hg1⟩
  obtain ⟨n, rfl, hn⟩ : ∃ n : Nat, u = (n : Int) ∧ (n = 16 ∨ n = 24 ∨ n = 32) := by
    rcases hu with rfl | rfl | rfl
    · exact ⟨16, rfl, .inl rfl⟩
    · exact ⟨24, rfl, .inr (.inl rfl)⟩
    · exact ⟨32, rfl, .inr (.inr rfl)⟩
  have HN := Lib.hid hn
  clear hu hn
  go_wp2_with fail
  refine (bytes_any n (by have := HN.out; omega) _ _ _ _ _ _ hc1).mono ?_; rintro e w2 ⟨s, rfl, hs, hc2, hg2⟩
  have HK : Hid (kOk s) := Lib.hid (by unfold kOk; rw [hs]; exact HN.out)
  clear hs
  go_wp2
  go_ret
  exact ⟨_, rfl, HK.out, hc2, only_trans (only_trans (only_alloc (only_refl _ _) _) hg1) hg2⟩
set_option maxRecDepth 100000 in
set_option maxHeartbeats 1600000 in
theorem odd_any (w : World) (B g : Nat) (A : Option Addr) (len cap : Nat) (hc : CurIn w B g A len cap) :
    Calls Tryz.prog 21 #[.pointer (some ⟨g, 0, none⟩)] w fun e w' => ∃ s : ByteArray, e = .returned (.string s) ∧ s.size ≤ 1000 ∧ CurIn w' B g A len cap ∧ w.grownBy w' (some g) := by
  go_enter Tryz.func21, Tryz.ntmps21
  go_wp2_with fail
  refine (once_any _ (by omega) (by omega) _ _ _ _ _ _ hc).mono ?_; rintro e w1 ⟨x, rfl, hc1, hg1⟩
  cases x with
  | true =>
    go_wp2_with fail
    refine (pickint_any (fun u => 0 ≤ u ∧ u ≤ 33) 5 w1.heap.size 3 _ (by omega) (by omega) _ _ _ _ _ _ (hc1.alloc _) (heap_alloc_new w1 _) hc1.lt (lits [0, 15, 17, 23, 33] (by simp))).mono ?_
    rintro e w2 ⟨u, rfl, ⟨hu0, hu1⟩, hc2, hg2⟩
    obtain ⟨n, rfl⟩ := Int.eq_ofNat_of_zero_le hu0
    go_wp2_with fail
    refine (bytes_any n (by omega) _ _ _ _ _ _ hc2).mono ?_; rintro e w3 ⟨s, rfl, hs, hc3, hg3⟩
    have HK : Hid (s.size ≤ 1000) := Lib.hid (by omega)
    clear hs
    go_wp2
    go_ret
    exact ⟨_, rfl, HK.out, hc3, only_trans (only_trans (only_alloc hg1 _) hg2) hg3⟩
  | false =>
    go_wp2_with fail
    refine (key_any _ _ _ _ _ _ hc1).mono ?_; rintro e w2 ⟨s, rfl, hs, hc2, hg2⟩
    have HK : Hid (s.size ≤ 1000) := Lib.hid (by rcases hs with h | h | h <;> omega)
    clear hs
    go_wp2
    go_ret
    exact ⟨_, rfl, HK.out, hc2, only_trans hg1 hg2⟩
theorem bytes_own {w w2 w1 : World} {k : Nat} {e : TypeId} {u v : Value} {o : Obj} {l : List UInt8} {x : Int} (h0 : 0 ≤ x) (h1 : x ≤ 255)
    (hown2 : w2.ownsRow w.heap.size e 1 u k (cells8 l)) (hbel2 : Below w.heap.size w w2)
    (hown3 : w1.ownsRow w.heap.size e 1 v (k + 1) (cells8 l ++ [.int .u8 x]))
    (hgrow : (w2.alloc o).grownBy w1 u.ownBlock) :
    w1.ownsRow w.heap.size e 1 v (k + 1) (cells8 (l ++ [UInt8.ofNat x.toNat])) ∧ Below w.heap.size w w1 := by
  refine ⟨?_, ?_⟩
  · rw [cells8_append, show cells8 [UInt8.ofNat x.toNat] = [.int .u8 x] by rw [cell_byte x h0 h1]; rfl]
    exact hown3
  · have h1 : Below w.heap.size w (w2.alloc o) := hbel2.alloc hbel2.size _
    exact h1.grown hgrow h1.size (fun b hb => (hown2.lt b hb).1)
set_option maxRecDepth 100000 in
set_option maxHeartbeats 1600000 in
theorem bytes_law (from_ n : Nat) (hf : from_ + n ≤ 1000) (w : World) (A : Option Addr) (len cap : Nat) (h : CodeAt w w.heap.size A len) (hl : len ≤ 1048576) :
    Calls Tryz.prog 16 #[.slice A len cap, .int .i64 from_, .int .i64 n] w fun e w' => ∃ s : ByteArray, e = .returned (.string s) ∧ s.size = n ∧ Below w.heap.size w w' := by
  obtain ⟨i0, hi, hz0, hz1, hz2⟩ := info_parts Tryz.info5
  have H := Lib.hid h
  clear h
  go_enter Tryz.func16, Tryz.ntmps16
  go_wp2
  go_loopw [7, 8] (fun v i wr => ∃ (k : Nat) (l : List UInt8), k ≤ n ∧ Hid (l.length = k) ∧ i = .int .i64 k ∧ wr.ownsRow w.heap.size 5 1 v k (cells8 l) ∧ Below w.heap.size w wr) (fun _ i _ => n - (intOf i).toNat)
  case atStart => exact ⟨0, [], Nat.zero_le _, Lib.hid rfl, rfl, World.ownsRow_lit w #[] 0 (Nat.le_refl _) (by simp [maxLen]) rfl, (Below.refl _ _).alloc (Nat.le_refl _) _⟩
  case round =>
    obtain ⟨k, l, hk, hll, rfl, hown, hbel⟩ := hrel
    by_cases hlt : k < n
    · have hk1 : (k : Int) < (n : Int) := by omega
      have hfk : (from_ : Int) + (k : Int) ≤ 1000 := by omega
      have HC := Lib.hid ((H.out.below hbel (Nat.le_refl _)).up hbel.size)
      have c1 := Lib.hid (at_any (from_ + k) (by omega) wr A len cap HC.out hl)
      rw [show ((from_ + k : Nat) : Int) = (from_ : Int) + (k : Int) by omega] at c1
      obtain ⟨m, hm⟩ : ∃ m, k % 5 = m := ⟨_, rfl⟩
      have c2 := Lib.hid (at_any m (by omega) wr A len cap HC.out hl)
      have em : (k : Int).tmod 5 = (m : Int) := by rw [Int.tmod_eq_emod_of_nonneg (by omega)]; omega
      have em2 : (k : Int) % 5 = (m : Int) := by omega
      have hm5 : (m : Int) < 5 := by omega
      clear hm
      go_wp2_with fail
      refine c1.out.mono ?_; rintro e w' ⟨⟨x, rfl, hx⟩, rfl⟩
      go_wp2_with fail
      refine c2.out.mono ?_; rintro e w' ⟨⟨y, rfl, hy⟩, rfl⟩
      obtain ⟨q, hq⟩ : ∃ q : Nat, k * y = q := ⟨_, rfl⟩
      have hky : (k : Int) * (y : Int) = (q : Int) := by rw [← hq]; simp
      have hq2 : q ≤ 256000 := by rw [← hq]; exact Nat.le_trans (Nat.mul_le_mul (show k ≤ 1000 by omega) (show y ≤ 256 by omega)) (by omega)
      have hq3 : (q : Int) ≤ 256000 := by omega
      have hx3 : (x : Int) < 256 := by omega
      clear hq hq2 c1 c2 em2
      go_wp2_with (at_builtin; refine stp ?_)
      refine unstp ?_
      refine wpList_append_lies _ rfl (.tmp 15) (.tmp 30) 22 rfl w.heap.size 5 i0 (.int .u8 0) 1 1 Tryz.underlying22 hi hz0 hz1 hz2 rfl (by decide) u7 k (cells8 l) rfl (hown.alloc _) ⟨wr.heap.size, 0, none⟩ 1 1 [.int .u8 (((x : Int) * 7 + (q : Int)) % 256)] rfl rfl (World.news_of_block (cs := #[.int .u8 (((x : Int) * 7 + (q : Int)) % 256)]) (heap_alloc_new wr _)) (by simp [Value.oneCell']) (by omega) (by unfold maxLen; omega) (by omega) (by have := hbel.size; simp; omega) (wr.heap.size + 1) (by simp) ?_
      intro g2 cap2 w5 hown5 hgrow hat hlt5
      have hrel := bytes_own (by omega) (by omega) hown hbel hown5 hgrow
      have HL : Hid ((l ++ [UInt8.ofNat (((x : Int) * 7 + (q : Int)) % 256).toNat]).length = k + 1) := Lib.hid (by have := hll.out; simp; omega)
      clear hown hbel hown5 hgrow hat hlt5
      go_wp2
      go_roundw
      case rel => exact ⟨k + 1, _, by omega, HL, by go_num, hrel.1, hrel.2⟩
      case measure => simp [intOf]; omega
    · have hk1 : ¬ (k : Int) < (n : Int) := by omega
      have hconv := run_string_own Tryz.underlying22 Tryz.underlying5 Tryz.underlying9 hown
      have HS : Hid ((⟨l.toArray⟩ : ByteArray).size = n) := Lib.hid (by have := hll.out; show l.toArray.size = n; simp; omega)
      have HB := Lib.hid hbel
      clear hown hbel
      go_wp2
      go_ret
      exact ⟨_, rfl, HS.out, HB.out⟩
set_option maxRecDepth 100000 in
set_option maxHeartbeats 1600000 in
theorem aKey_any (w : World) (A : Option Addr) (len cap : Nat) (h : CodeAt w w.heap.size A len) (hl : len ≤ 1048576) :
    Calls Tryz.prog 15 #[.slice A len cap] w fun e w' => ∃ s : ByteArray, e = .returned (.string s) ∧ kOk s ∧ Below w.heap.size w w' := by
  obtain ⟨W, hW⟩ : ∃ W, w.alloc (.cells #[.int .i64 16, .int .i64 24, .int .i64 32] 3) = W := ⟨_, rfl⟩
  have hbel : Below w.heap.size w W := hW ▸ (Below.refl _ _).alloc (Nat.le_refl _) _
  have HCW := (h.below hbel (Nat.le_refl _)).up hbel.size
  have HA := Lib.hid (at_any 1 (by omega) W A len cap HCW hl)
  have HBY := Lib.hid (fun f n hf => bytes_law f n hf W A len cap HCW hl)
  have HB := Lib.hid hbel
  have c0 : W.cell? ⟨w.heap.size, 0, none⟩ = some (.int .i64 16) := by subst hW; exact (cell_of_row _ w.heap.size 0 _ _ _ (heap_alloc_new w _)).trans rfl
  have c1 : W.cell? ⟨w.heap.size, 1, none⟩ = some (.int .i64 24) := by subst hW; exact (cell_of_row _ w.heap.size 1 _ _ _ (heap_alloc_new w _)).trans rfl
  have c2 : W.cell? ⟨w.heap.size, 2, none⟩ = some (.int .i64 32) := by subst hW; exact (cell_of_row _ w.heap.size 2 _ _ _ (heap_alloc_new w _)).trans rfl
  clear hbel HCW h
  go_enter Tryz.func15, Tryz.ntmps15
  go_wp2_with fail
  clear hW
  refine HA.out.mono ?_; rintro e w' ⟨⟨x, rfl, hx⟩, rfl⟩
  have hm : x % 3 = 0 ∨ x % 3 = 1 ∨ x % 3 = 2 := by omega
  rcases hm with hm | hm | hm
  · have em : (x : Int).tmod 3 = 0 := by rw [Int.tmod_eq_emod_of_nonneg (by omega)]; omega
    clear hm hx
    go_wp2_with fail
    refine (HBY.out 2 16 (by omega)).mono ?_; rintro e w2 ⟨s, rfl, hs, hb2⟩
    have HK : Hid (kOk s) := Lib.hid (by unfold kOk; omega)
    have hb := HB.out.trans (hb2.mono HB.out.size)
    clear hs hb2
    go_wp2
    go_ret
    exact ⟨_, rfl, HK.out, hb⟩
  · have em : (x : Int).tmod 3 = 1 := by rw [Int.tmod_eq_emod_of_nonneg (by omega)]; omega
    clear hm hx
    go_wp2_with fail
    refine (HBY.out 2 24 (by omega)).mono ?_; rintro e w2 ⟨s, rfl, hs, hb2⟩
    have HK : Hid (kOk s) := Lib.hid (by unfold kOk; omega)
    have hb := HB.out.trans (hb2.mono HB.out.size)
    clear hs hb2
    go_wp2
    go_ret
    exact ⟨_, rfl, HK.out, hb⟩
  · have em : (x : Int).tmod 3 = 2 := by rw [Int.tmod_eq_emod_of_nonneg (by omega)]; omega
    clear hm hx
    go_wp2_with fail
    refine (HBY.out 2 32 (by omega)).mono ?_; rintro e w2 ⟨s, rfl, hs, hb2⟩
    have HK : Hid (kOk s) := Lib.hid (by unfold kOk; omega)
    have hb := HB.out.trans (hb2.mono HB.out.size)
    clear hs hb2
    go_wp2
    go_ret
    exact ⟨_, rfl, HK.out, hb⟩
end Go.Proofs.YtbfmbdohebdbaaaGreatDoor
set_option linter.unusedVariables false
namespace Go.Proofs.YtbfmbdohebdbaaaGreatDoor
open Go.RowKit
attribute [local go_sem ↓] Go.wp_at_zero Go.wp_at_succ

end Go.Proofs.YtbfmbdohebdbaaaGreatDoor
set_option linter.unusedVariables false
namespace Go.Proofs.YtbfmbdohebdbaaaGreatDoor
open Go.RowKit

/-- a byte of the code, or a number told by its place and the code's length: the same in every world to come. -/
theorem at_told (i : Nat) (hi : i ≤ 1000) (w : World) (A : Option Addr) (len cap : Nat) (h : CodeAt w w.heap.size A len) (hl : len ≤ 1048576) :
    ∃ v : UInt8, ∀ W, Below w.heap.size w W → Hid (Calls Tryz.prog 17 #[.slice A len cap, .int .i64 i] W fun e w' => e = .returned (.int .i64 v.toNat) ∧ w' = W) := by
  by_cases hlt : i < len
  · obtain ⟨b, o, x, rfl, hb, hx, hcell⟩ := h i hlt
    have hv : (UInt8.ofNat x).toNat = x := by rw [UInt8.toNat_ofNat']; omega
    refine ⟨UInt8.ofNat x, fun W hW => Lib.hid ?_⟩
    rw [hv]
    have hcell2 := (hW.cell (p := ⟨b, o + i, none⟩) hb).trans hcell
    have h0 : (0 : Int) ≤ (i : Int) := by omega
    have h1 : (i : Int) < (len : Int) := by omega
    clear hW hcell h hv
    go_enter Tryz.func17, Tryz.ntmps17
    go_wp2
    go_ret
    exact ⟨rfl, rfl⟩
  · have hv : (UInt8.ofNat ((i * 7 + len) % 256)).toNat = (i * 7 + len) % 256 := by rw [UInt8.toNat_ofNat']; omega
    refine ⟨UInt8.ofNat ((i * 7 + len) % 256), fun W hW => Lib.hid ?_⟩
    rw [hv]
    have h1 : ¬ (i : Int) < (len : Int) := by omega
    clear hW h hv
    go_enter Tryz.func17, Tryz.ntmps17
    go_wp2
    go_ret
    exact ⟨(congrArg (fun v => Ending.returned (.int .i64 v)) (show (((i * 7 + len) % 256 : Nat) : Int) = ((i : Int) * 7 + (len : Int)) % 256 by omega)).symm, rfl⟩
end Go.Proofs.YtbfmbdohebdbaaaGreatDoor
