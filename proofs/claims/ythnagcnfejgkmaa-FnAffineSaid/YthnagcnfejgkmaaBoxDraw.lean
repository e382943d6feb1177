/-
  What the draws of the box answer.
-/
import Derived.Test.YthnagcnfejgkmaaFieldDraw
import Derived.Test.YthnagcnfejgkmaaBytes
import Derived.Deep.RegionHeld3
import Derived.Deep.DrawnRows
import Derived.Deep.AppendLies
import Derived.WalkKit
import Derived.LoopTactic
import Derived.OwnWalk
import Derived.WalkLawsBesides
import Derived.WalkSpells
import Derived.Outline
import Derived.Laws.Pointers
import Derived.Deep.QuietTactic
import Derived.BigQuiet
import Derived.IntWalk
set_option linter.unusedVariables false
namespace Go.Proofs.Ythnagcnfejgkmaa
open Go.RowKit
set_option maxRecDepth 100000 in
set_option maxHeartbeats 1600000 in
theorem draw_Affine (w : World) (A : Option Addr) (len cap : Nat) (hcode : CodeAt w w.heap.size A len) (hl : len ≤ 1048576) :
    Calls Try.prog 14 #[.slice A len cap] w fun e w' => ∃ x : Int, e = .returned (.int .i64 x) ∧ In64 x ∧ Below w.heap.size w w' := by
  have H := Lib.hid hcode
  clear hcode
  go_enter Try.func14, Try.ntmps14
  go_wp2_with fail
  refine (new_any _ _ _ _ H.out hl).mono ?_; rintro e w1 ⟨g, rfl, hc1, hb1⟩
  go_wp2_with fail
  refine (byte2_any _ _ _ _ _ _ hc1).mono ?_; rintro e w2 ⟨x, rfl, hx, hc2, hg2⟩
  have HX := Lib.hid hx
  clear hx
  go_wp2
  go_ret
  exact ⟨_, rfl, HX.out, below_only hb1 hg2 hc1.1 hb1.size⟩
set_option maxRecDepth 100000 in
set_option maxHeartbeats 1600000 in
theorem draw_Unaffine (w : World) (A : Option Addr) (len cap : Nat) (hcode : CodeAt w w.heap.size A len) (hl : len ≤ 1048576) :
    Calls Try.prog 15 #[.slice A len cap] w fun e w' => ∃ x : Int, e = .returned (.int .i64 x) ∧ In64 x ∧ Below w.heap.size w w' := by
  have H := Lib.hid hcode
  clear hcode
  go_enter Try.func15, Try.ntmps15
  go_wp2_with fail
  refine (new_any _ _ _ _ H.out hl).mono ?_; rintro e w1 ⟨g, rfl, hc1, hb1⟩
  go_wp2_with fail
  refine (byte2_any _ _ _ _ _ _ hc1).mono ?_; rintro e w2 ⟨x, rfl, hx, hc2, hg2⟩
  have HX := Lib.hid hx
  clear hx
  go_wp2
  go_ret
  exact ⟨_, rfl, HX.out, below_only hb1 hg2 hc1.1 hb1.size⟩
set_option maxRecDepth 100000 in
set_option maxHeartbeats 1600000 in
theorem draw_Sub (w : World) (A : Option Addr) (len cap : Nat) (hcode : CodeAt w w.heap.size A len) (hl : len ≤ 1048576) :
    Calls Try.prog 21 #[.slice A len cap] w fun e w' => ∃ x : Int, e = .returned (.int .i64 x) ∧ In64 x ∧ Below w.heap.size w w' := by
  have H := Lib.hid hcode
  clear hcode
  go_enter Try.func21, Try.ntmps21
  go_wp2_with fail
  refine (new_any _ _ _ _ H.out hl).mono ?_; rintro e w1 ⟨g, rfl, hc1, hb1⟩
  go_wp2_with fail
  refine (byte2_any _ _ _ _ _ _ hc1).mono ?_; rintro e w2 ⟨x, rfl, hx, hc2, hg2⟩
  have HX := Lib.hid hx
  clear hx
  go_wp2
  go_ret
  exact ⟨_, rfl, HX.out, below_only hb1 hg2 hc1.1 hb1.size⟩
set_option maxRecDepth 100000 in
set_option maxHeartbeats 1600000 in
theorem draw_Unsub (w : World) (A : Option Addr) (len cap : Nat) (hcode : CodeAt w w.heap.size A len) (hl : len ≤ 1048576) :
    Calls Try.prog 22 #[.slice A len cap] w fun e w' => ∃ x : Int, e = .returned (.int .i64 x) ∧ In64 x ∧ Below w.heap.size w w' := by
  have H := Lib.hid hcode
  clear hcode
  go_enter Try.func22, Try.ntmps22
  go_wp2_with fail
  refine (new_any _ _ _ _ H.out hl).mono ?_; rintro e w1 ⟨g, rfl, hc1, hb1⟩
  go_wp2_with fail
  refine (byte2_any _ _ _ _ _ _ hc1).mono ?_; rintro e w2 ⟨x, rfl, hx, hc2, hg2⟩
  have HX := Lib.hid hx
  clear hx
  go_wp2
  go_ret
  exact ⟨_, rfl, HX.out, below_only hb1 hg2 hc1.1 hb1.size⟩
set_option maxRecDepth 100000 in
set_option maxHeartbeats 1600000 in
theorem draw_SubText (w : World) (A : Option Addr) (len cap : Nat) (hcode : CodeAt w w.heap.size A len) (hl : len ≤ 1048576) :
    Calls Try.prog 28 #[.slice A len cap] w fun e w' => ∃ s : ByteArray, e = .returned (.string s) ∧ s.size ≤ 65536 ∧ Below w.heap.size w w' := by
  have H := Lib.hid hcode
  clear hcode
  go_enter Try.func28, Try.ntmps28
  go_wp2_with fail
  refine (new_any _ _ _ _ H.out hl).mono ?_; rintro e w1 ⟨g, rfl, hc1, hb1⟩
  go_wp2_with fail
  refine (below_small _ (by omega) (by omega) _ _ _ _ _ _ hc1).mono ?_; rintro e w2 ⟨x, rfl, hx0, hx1, hc2, hg2⟩
  obtain ⟨n, rfl⟩ := Int.eq_ofNat_of_zero_le hx0
  go_wp2_with fail
  refine (bytes_any n (by omega) _ _ _ _ _ _ hc2).mono ?_; rintro e w3 ⟨s, rfl, hs, hc3, hg3⟩
  have HS := Lib.hid hs
  clear hs
  go_wp2
  go_ret
  exact ⟨_, rfl, by have := HS.out; omega, below_only hb1 (only_trans hg2 hg3) hc1.1 hb1.size⟩
set_option maxRecDepth 100000 in
set_option maxHeartbeats 1600000 in
theorem draw_UnsubText (w : World) (A : Option Addr) (len cap : Nat) (hcode : CodeAt w w.heap.size A len) (hl : len ≤ 1048576) :
    Calls Try.prog 29 #[.slice A len cap] w fun e w' => ∃ s : ByteArray, e = .returned (.string s) ∧ s.size ≤ 65536 ∧ Below w.heap.size w w' := by
  have H := Lib.hid hcode
  clear hcode
  go_enter Try.func29, Try.ntmps29
  go_wp2_with fail
  refine (new_any _ _ _ _ H.out hl).mono ?_; rintro e w1 ⟨g, rfl, hc1, hb1⟩
  go_wp2_with fail
  refine (below_small _ (by omega) (by omega) _ _ _ _ _ _ hc1).mono ?_; rintro e w2 ⟨x, rfl, hx0, hx1, hc2, hg2⟩
  obtain ⟨n, rfl⟩ := Int.eq_ofNat_of_zero_le hx0
  go_wp2_with fail
  refine (bytes_any n (by omega) _ _ _ _ _ _ hc2).mono ?_; rintro e w3 ⟨s, rfl, hs, hc3, hg3⟩
  have HS := Lib.hid hs
  clear hs
  go_wp2
  go_ret
  exact ⟨_, rfl, by have := HS.out; omega, below_only hb1 (only_trans hg2 hg3) hc1.1 hb1.size⟩
end Go.Proofs.Ythnagcnfejgkmaa
