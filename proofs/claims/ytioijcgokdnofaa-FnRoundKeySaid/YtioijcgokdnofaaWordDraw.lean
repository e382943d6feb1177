/-
  What the draws of words answer.
-/
import Derived.Test.YtioijcgokdnofaaBytes
import Derived.Test.YtioijcgokdnofaaWordS
import Derived.Deep.RegionHeld3
import Derived.Deep.DrawnRows
import Derived.Deep.AppendLies
import Derived.WalkKit
import Derived.LoopTactic
import Derived.OwnWalk
import Derived.WalkLawsBesides
import Derived.WalkSpells
import Derived.Outline
import Derived.Laws.Pointers
import Derived.Deep.QuietTactic
import Derived.BigQuiet
import Derived.IntWalk
set_option linter.unusedVariables false
namespace Go.Proofs.Ytioijcgokdnofaa
open Go.RowKit

theorem CurIn.below {w w' : World} {B g : Nat} {A : Option Addr} {len cap : Nat} (h : CurIn w B g A len cap) (hb : Below w.heap.size w w') : CurIn w' B g A len cap := by
  have hlt := h.lt
  obtain ⟨h1, h2, h3, i, hh, h4, h5⟩ := h
  exact ⟨h1, h2, h3.below hb (by omega), i, hh, h4, (hb.block g hlt).trans h5⟩
theorem w32_in64 (x : UInt32) : In64 (x.toNat : Int) := by have := w32_lt x; unfold In64; omega
set_option maxRecDepth 100000 in
set_option maxHeartbeats 1600000 in
theorem word4_any (w : World) (B g : Nat) (A : Option Addr) (len cap : Nat) (hc : CurIn w B g A len cap) :
    Calls Try.prog 48 #[.pointer (some ⟨g, 0, none⟩)] w fun e w' => ∃ x : Int, e = .returned (.int .i64 x) ∧ In64 x ∧ CurIn w' B g A len cap ∧ w.grownBy w' (some g) := by
  go_enter Try.func48, Try.ntmps48
  go_wp2_with fail
  refine (once_any _ (by omega) (by omega) _ _ _ _ _ _ hc).mono ?_; rintro e w1 ⟨x, rfl, hc1, hg1⟩
  cases x with
  | true =>
    go_wp2_with fail
    refine (int_any _ _ _ _ _ _ hc1).mono ?_; rintro e w2 ⟨x, rfl, hx, hc2, hg2⟩
    have HX := Lib.hid hx
    clear hx
    go_wp2
    go_ret
    exact ⟨_, rfl, HX.out, hc2, only_trans hg1 hg2⟩
  | false =>
    go_wp2_with fail
    refine (bytes_any 4 (by omega) _ _ _ _ _ _ hc1).mono ?_; rintro e w2 ⟨s, rfl, hs, hc2, hg2⟩
    have HS := Lib.hid hs
    clear hs
    go_wp2_with fail
    refine (GetWord_at_spec s 0 (by have := HS.out; omega) (by have := HS.out; omega) _).mono ?_; rintro e w3 ⟨rfl, hb3⟩
    have hc3 := hc2.below hb3
    have hg3 := only_below (only_trans hg1 hg2) hb3 (Nat.le_trans hg1.size hg2.size)
    have HI := Lib.hid (w32_in64 (getW s 0))
    clear hb3 hg1 hg2 hc1 hc2
    generalize getW s 0 = y at *
    go_wp2
    go_ret
    exact ⟨_, rfl, HI.out, hc3, hg3⟩
set_option maxRecDepth 100000 in
set_option maxHeartbeats 1600000 in
theorem draw_PutWord (w : World) (A : Option Addr) (len cap : Nat) (hcode : CodeAt w w.heap.size A len) (hl : len ≤ 1048576) :
    Calls Try.prog 16 #[.slice A len cap] w fun e w' => ∃ x : Int, e = .returned (.int .i64 x) ∧ In64 x ∧ Below w.heap.size w w' := by
  have H := Lib.hid hcode
  clear hcode
  go_enter Try.func16, Try.ntmps16
  go_wp2_with fail
  refine (new_any _ _ _ _ H.out hl).mono ?_; rintro e w1 ⟨g, rfl, hc1, hb1⟩
  go_wp2_with fail
  refine (word4_any _ _ _ _ _ _ hc1).mono ?_; rintro e w2 ⟨x, rfl, hx, hc2, hg2⟩
  have HX := Lib.hid hx
  clear hx
  go_wp2
  go_ret
  exact ⟨_, rfl, HX.out, below_only hb1 hg2 hc1.1 hb1.size⟩
set_option maxRecDepth 100000 in
set_option maxHeartbeats 1600000 in
theorem draw_SubWord (w : World) (A : Option Addr) (len cap : Nat) (hcode : CodeAt w w.heap.size A len) (hl : len ≤ 1048576) :
    Calls Try.prog 23 #[.slice A len cap] w fun e w' => ∃ x : Int, e = .returned (.int .i64 x) ∧ In64 x ∧ Below w.heap.size w w' := by
  have H := Lib.hid hcode
  clear hcode
  go_enter Try.func23, Try.ntmps23
  go_wp2_with fail
  refine (new_any _ _ _ _ H.out hl).mono ?_; rintro e w1 ⟨g, rfl, hc1, hb1⟩
  go_wp2_with fail
  refine (word4_any _ _ _ _ _ _ hc1).mono ?_; rintro e w2 ⟨x, rfl, hx, hc2, hg2⟩
  have HX := Lib.hid hx
  clear hx
  go_wp2
  go_ret
  exact ⟨_, rfl, HX.out, below_only hb1 hg2 hc1.1 hb1.size⟩
set_option maxRecDepth 100000 in
set_option maxHeartbeats 1600000 in
theorem draw_GetWord (w : World) (A : Option Addr) (len cap : Nat) (hcode : CodeAt w w.heap.size A len) (hl : len ≤ 1048576) :
    Calls Try.prog 18 #[.slice A len cap] w fun e w' => ∃ (s : ByteArray) (x : Int), e = .returned (.tuple #[.string s, .int .i64 x]) ∧ s.size ≤ 65536 ∧ In64 x ∧ Below w.heap.size w w' := by
  have H := Lib.hid hcode
  clear hcode
  go_enter Try.func18, Try.ntmps18
  go_wp2_with fail
  refine (new_any _ _ _ _ H.out hl).mono ?_; rintro e w1 ⟨g, rfl, hc1, hb1⟩
  go_wp2_with fail
  refine (below_small _ (by omega) (by omega) _ _ _ _ _ _ hc1).mono ?_; rintro e w2 ⟨x, rfl, hx0, hx1, hc2, hg2⟩
  obtain ⟨n, rfl⟩ := Int.eq_ofNat_of_zero_le hx0
  go_wp2_with fail
  refine (bytes_any n (by omega) _ _ _ _ _ _ hc2).mono ?_; rintro e w3 ⟨s, rfl, hs, hc3, hg3⟩
  have HS := Lib.hid hs
  clear hs
  go_wp2_with fail
  refine (pickint_any In64 7 w3.heap.size 3 _ (by omega) (by omega) _ _ _ _ _ _ (hc3.alloc _) (heap_alloc_new w3 _) hc3.lt (lits [0, 0, 1, 2, 4, -1, 9223372036854775807] (by unfold In64; simp))).mono ?_
  rintro e w4 ⟨u, rfl, hu, hc4, hg4⟩
  have HU := Lib.hid hu
  clear hu
  go_wp2
  go_ret2
  exact ⟨_, _, rfl, by have := HS.out; omega, HU.out, below_only hb1 (only_trans (only_alloc (only_trans hg2 hg3) _) hg4) hc1.1 hb1.size⟩
set_option maxRecDepth 100000 in
set_option maxHeartbeats 1600000 in
theorem draw_Rcon (w : World) (A : Option Addr) (len cap : Nat) (hcode : CodeAt w w.heap.size A len) (hl : len ≤ 1048576) :
    Calls Try.prog 22 #[.slice A len cap] w fun e w' => ∃ x : Int, e = .returned (.int .i64 x) ∧ In64 x ∧ Below w.heap.size w w' := by
  have H := Lib.hid hcode
  clear hcode
  go_enter Try.func22, Try.ntmps22
  go_wp2_with fail
  refine (new_any _ _ _ _ H.out hl).mono ?_; rintro e w1 ⟨g, rfl, hc1, hb1⟩
  go_wp2_with fail
  refine (below_any _ (by omega) (by omega) _ _ _ _ _ _ hc1).mono ?_; rintro e w3 ⟨y, rfl, hy0, hy1, hc3, hg3⟩
  go_wp2_with fail
  refine (pickint_any In64 10 w3.heap.size 3 _ (by omega) (by omega) _ _ _ _ _ _ (hc3.alloc _) (heap_alloc_new w3 _) hc3.lt (lits [1, 2, 8, 9, 10, 0, -1, 256, 9223372036854775807, y] (by unfold In64; simp; omega))).mono ?_
  rintro e w4 ⟨u, rfl, hu, hc4, hg4⟩
  have HU := Lib.hid hu
  clear hu
  go_wp2
  go_ret
  exact ⟨_, rfl, HU.out, below_only hb1 (only_trans (only_alloc hg3 _) hg4) hc1.1 hb1.size⟩
end Go.Proofs.Ytioijcgokdnofaa
