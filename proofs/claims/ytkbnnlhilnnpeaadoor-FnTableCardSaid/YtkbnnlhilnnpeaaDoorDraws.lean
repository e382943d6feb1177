/-
  Contracts and facts that the laws of this seat use: WordDraw, WordMore.
-/
import Derived.Test.YtkbnnlhilnnpeaaDoorBase
import Derived.Test.YtkbnnlhilnnpeaaDoorWord
import Derived.Deep.RegionHeld3
import Derived.Deep.DrawnRows
import Derived.Deep.AppendLies
import Derived.WalkKit
import Derived.LoopTactic
import Derived.OwnWalk
import Derived.WalkLawsBesides
import Derived.WalkSpells
import Derived.Outline
import Derived.Laws.Pointers
import Derived.Deep.QuietTactic
import Derived.BigQuiet
import Derived.IntWalk
import Derived.Test.YtkbnnlhilnnpeaaDoorPure
set_option linter.unusedVariables false
namespace Go.Proofs.YtkbnnlhilnnpeaaDoor
open Go.RowKit

theorem CurIn.below {w w' : World} {B g : Nat} {A : Option Addr} {len cap : Nat} (h : CurIn w B g A len cap) (hb : Below w.heap.size w w') : CurIn w' B g A len cap := by
  have hlt := h.lt
  obtain ⟨h1, h2, h3, i, hh, h4, h5⟩ := h
  exact ⟨h1, h2, h3.below hb (by omega), i, hh, h4, (hb.block g hlt).trans h5⟩
theorem w32_in64 (x : UInt32) : In64 (x.toNat : Int) := by have := w32_lt x; unfold In64; omega
set_option maxRecDepth 100000 in
set_option maxHeartbeats 1600000 in
theorem word4_any (w : World) (B g : Nat) (A : Option Addr) (len cap : Nat) (hc : CurIn w B g A len cap) :
    Calls Tryd.prog 107 #[.pointer (some ⟨g, 0, none⟩)] w fun e w' => ∃ x : Int, e = .returned (.int .i64 x) ∧ In64 x ∧ CurIn w' B g A len cap ∧ w.grownBy w' (some g) := by
  go_enter Tryd.func107, Tryd.ntmps107
  go_wp2_with fail
  refine (once_any _ (by omega) (by omega) _ _ _ _ _ _ hc).mono ?_; rintro e w1 ⟨x, rfl, hc1, hg1⟩
  cases x with
  | true =>
    go_wp2_with fail
    refine (int_any _ _ _ _ _ _ hc1).mono ?_; rintro e w2 ⟨x, rfl, hx, hc2, hg2⟩
    have HX := Lib.hid hx
    clear hx
    go_wp2
    go_ret
    exact ⟨_, rfl, HX.out, hc2, only_trans hg1 hg2⟩
  | false =>
    go_wp2_with fail
    refine (bytes_any 4 (by omega) _ _ _ _ _ _ hc1).mono ?_; rintro e w2 ⟨s, rfl, hs, hc2, hg2⟩
    have HS := Lib.hid hs
    clear hs
    go_wp2_with fail
    refine (GetWord_at_spec s 0 (by have := HS.out; omega) (by have := HS.out; omega) _).mono ?_; rintro e w3 ⟨rfl, hb3⟩
    have hc3 := hc2.below hb3
    have hg3 := only_below (only_trans hg1 hg2) hb3 (Nat.le_trans hg1.size hg2.size)
    have HI := Lib.hid (w32_in64 (getW s 0))
    clear hb3 hg1 hg2 hc1 hc2
    generalize getW s 0 = y at *
    go_wp2
    go_ret
    exact ⟨_, rfl, HI.out, hc3, hg3⟩
end Go.Proofs.YtkbnnlhilnnpeaaDoor
set_option linter.unusedVariables false
namespace Go.Proofs.YtkbnnlhilnnpeaaDoor
open Go Go.RowKit

theorem putW_getW (t : ByteArray) (i : Nat) (h : i + 4 ≤ t.size) : putW (getW t i) = t.extract i (i + 4) := by
  have hsz : (t.extract i (i + 4)).size = 4 := by simp; omega
  unfold putW getW
  rw [wb0_mk, wb1_mk, wb2_mk, wb3_mk]
  apply ByteArray.ext
  apply Array.ext
  · show 4 = (t.extract i (i + 4)).size
    omega
  · intro j h1 h2
    have hj : j < 4 := h1
    have e : (t.extract i (i + 4)).data[j] = byteOf t (i + j) := by
      have : (t.extract i (i + 4))[j]'(by omega) = byteOf t (i + j) := by rw [ByteArray.getElem_extract, byteOf_at]
      exact this
    rw [e]
    have h4 : j = 0 ∨ j = 1 ∨ j = 2 ∨ j = 3 := by omega
    rcases h4 with rfl | rfl | rfl | rfl <;> rfl
theorem getW_behind (c : UInt8) (x : UInt32) : getW ((⟨#[c]⟩ : ByteArray) ++ putW x) 1 = x := by
  have e : ((⟨#[c]⟩ : ByteArray) ++ putW x) = ⟨#[c, wb x 0, wb x 1, wb x 2, wb x 3]⟩ := by
    apply ByteArray.ext; simp [putW]
  rw [e]; exact mkW_wb x
theorem turned_8 (x : UInt32) : (putW x).extract 1 4 ++ (putW x).extract 0 1 = putW (rot x 8) := by
  rw [rot_b8]
  unfold putW
  rw [wb0_mk, wb1_mk, wb2_mk, wb3_mk]
  apply ByteArray.ext; simp
end Go.Proofs.YtkbnnlhilnnpeaaDoor
