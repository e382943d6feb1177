/-
  Draws of blocks.
-/
import Derived.Test.YtbgjeipgmlcgaaaDoorBytes
import Derived.Test.YtbgjeipgmlcgaaaDoorDrawN
import Derived.WalkKit
import Derived.LoopTactic
import Derived.OwnWalk
import Derived.WalkLawsBesides
import Derived.WalkSpells
import Derived.Outline
import Derived.Below
set_option linter.unusedVariables false
namespace Go.Proofs.YtbgjeipgmlcgaaaDoor
open Go.RowKit
attribute [local go_sem ↓] Go.wp_at_zero Go.wp_at_succ

set_option maxRecDepth 100000 in
set_option maxHeartbeats 1600000 in
theorem block_any (w : World) (B g : Nat) (A : Option Addr) (len cap : Nat) (hc : CurIn w B g A len cap) :
    Calls Tryd.prog 44 #[.pointer (some ⟨g, 0, none⟩)] w fun e w' => ∃ s : ByteArray, e = .returned (.string s) ∧ s.size ≤ 1000 ∧ CurIn w' B g A len cap ∧ w.grownBy w' (some g) := by
  go_enter Tryd.func44, Tryd.ntmps44
  go_wp2_with fail
  refine (once_any _ (by omega) (by omega) _ _ _ _ _ _ hc).mono ?_; rintro e w1 ⟨x, rfl, hc1, hg1⟩
  cases x with
  | true =>
    go_wp2_with fail
    refine (pickint_any (fun u => 0 ≤ u ∧ u ≤ 17) 3 w1.heap.size 3 _ (by omega) (by omega) _ _ _ _ _ _ (hc1.alloc _) (heap_alloc_new w1 _) hc1.lt (lits [0, 15, 17] (by simp))).mono ?_
    rintro e w2 ⟨u, rfl, ⟨hu0, hu1⟩, hc2, hg2⟩
    obtain ⟨n, rfl⟩ := Int.eq_ofNat_of_zero_le hu0
    go_wp2_with fail
    refine (bytes_any n (by omega) _ _ _ _ _ _ hc2).mono ?_; rintro e w3 ⟨s, rfl, hs, hc3, hg3⟩
    have HK : Hid (s.size ≤ 1000) := Lib.hid (by omega)
    clear hs
    go_wp2
    go_ret
    exact ⟨_, rfl, HK.out, hc3, only_trans (only_trans (only_alloc hg1 _) hg2) hg3⟩
  | false =>
    go_wp2_with fail
    refine (bytes_any 16 (by omega) _ _ _ _ _ _ hc1).mono ?_; rintro e w2 ⟨s, rfl, hs, hc2, hg2⟩
    have HK : Hid (s.size ≤ 1000) := Lib.hid (by omega)
    clear hs
    go_wp2
    go_ret
    exact ⟨_, rfl, HK.out, hc2, only_trans hg1 hg2⟩
set_option maxRecDepth 100000 in
set_option maxHeartbeats 1600000 in
theorem draw_MixColumns (w : World) (A : Option Addr) (len cap : Nat) (hcode : CodeAt w w.heap.size A len) (hl : len ≤ 1048576) :
    Calls Tryd.prog 17 #[.slice A len cap] w fun e w' => ∃ s : ByteArray, e = .returned (.string s) ∧ s.size ≤ 1000 ∧ Below w.heap.size w w' := by
  have H := Lib.hid hcode
  clear hcode
  go_enter Tryd.func17, Tryd.ntmps17
  go_wp2_with fail
  refine (new_any _ _ _ _ H.out hl).mono ?_; rintro e w1 ⟨g, rfl, hc1, hb1⟩
  go_wp2_with fail
  refine (block_any _ _ _ _ _ _ hc1).mono ?_; rintro e w2 ⟨s, rfl, hs, hc2, hg2⟩
  have HX := Lib.hid hs
  clear hs
  go_wp2
  go_ret
  exact ⟨_, rfl, HX.out, below_only hb1 hg2 hc1.1 hb1.size⟩
set_option maxRecDepth 100000 in
set_option maxHeartbeats 1600000 in
theorem draw_UnmixColumns (w : World) (A : Option Addr) (len cap : Nat) (hcode : CodeAt w w.heap.size A len) (hl : len ≤ 1048576) :
    Calls Tryd.prog 18 #[.slice A len cap] w fun e w' => ∃ s : ByteArray, e = .returned (.string s) ∧ s.size ≤ 1000 ∧ Below w.heap.size w w' := by
  have H := Lib.hid hcode
  clear hcode
  go_enter Tryd.func18, Tryd.ntmps18
  go_wp2_with fail
  refine (new_any _ _ _ _ H.out hl).mono ?_; rintro e w1 ⟨g, rfl, hc1, hb1⟩
  go_wp2_with fail
  refine (block_any _ _ _ _ _ _ hc1).mono ?_; rintro e w2 ⟨s, rfl, hs, hc2, hg2⟩
  have HX := Lib.hid hs
  clear hs
  go_wp2
  go_ret
  exact ⟨_, rfl, HX.out, below_only hb1 hg2 hc1.1 hb1.size⟩
end Go.Proofs.YtbgjeipgmlcgaaaDoor
