/-
  The walk of laws.FnExactLines.
-/
import Derived.Test.YtdhncpkcbeggmaaDoorProg
import Derived.Test.YtdhncpkcbeggmaaDoorDecMath
import Derived.Test.YtdhncpkcbeggmaaDoorStrs
import Derived.Test.YtdhncpkcbeggmaaDoorMarks
import Derived.Test.YtdhncpkcbeggmaaDoorLinesI
import Derived.WalkKit
import Derived.LoopTactic
import Derived.OwnWalk
import Derived.WalkLawsBesides
import Derived.WalkSpells
import Derived.Outline
import Derived.Below
import Derived.Laws.AppendOwn
import Derived.Laws.OwnMore
import Derived.Deep.QuietTactic
import Derived.Deep.Draws
import Derived.BigQuiet
import Derived.WalkSmall
import Derived.IntWalk
import Derived.Deep.RegionHeld3
import Derived.Deep.DrawnRows
import Derived.Deep.AppendLies
import Derived.Lib.SlBytesRow
import Derived.Laws.MakeOwn
set_option linter.unusedVariables false
namespace Go.Proofs.YtdhncpkcbeggmaaDoor
open Go.RowKit
attribute [local go_sem ↓] Go.wp_at_zero Go.wp_at_succ

theorem some_below {w w' : World} {B : Nat} (h : SomeMax w) (hb : Below B w w') (hB : 3 < B) : SomeMax w' := by
  obtain ⟨m, hm⟩ := h
  exact ⟨m, (hb.cell (p := ⟨3, 0, none⟩) hB).trans hm⟩
/-- a list that lies wholly below B is kept where only what lies from B on changes. -/
theorem own_under {w w' : World} {C B n c : Nat} {A : Option Addr} {l : List ByteArray} (h : Own w C A n c l) (hb : Below B w w') (hlt : ∀ a, A = some a → a.block < B) : Own w' C A n c l := by
  refine ⟨h.1, h.2.1, ?_⟩
  rcases h.2.2 with hn | ⟨g, cap, cur, hv, hB, hg, rest⟩
  · exact .inl hn
  · have hA : A = some ⟨g, 0, none⟩ := by injection hv
    exact .inr ⟨g, cap, cur, hv, hB, (hb.block g (hlt _ hA)).trans hg, rest⟩
theorem own_lt {w : World} {C n c : Nat} {A : Option Addr} {l : List ByteArray} (h : Own w C A n c l) : ∀ a, A = some a → a.block < w.heap.size := fun a ha => by
  subst ha
  exact h.block.2

set_option maxRecDepth 100000 in
set_option maxHeartbeats 1600000 in
theorem walk_FnExactLines (a0 : ByteArray) (w0 : a0.size ≤ maxLen) (w : World) (hf : SomeMax w ∧ 3 < w.heap.size) :
    Calls Tryd.prog 7 #[.string a0] w fun e w' => e = .returned (.bool true) ∧ Below w.heap.size w w' := by
  unfold maxLen at w0
  have HF := Lib.hid hf
  clear hf
  by_cases hs : 1048576 < a0.size
  · go_enter Tryd.func7, Tryd.ntmps7
    go_wp2
    go_ret
    exact ⟨rfl, Below.refl _ _⟩
  · have hle := linesR_le a0
    have CS := fun W => Lib.hid (lines_spec a0 W (by omega))
    have CI := fun W hm => Lib.hid (lines_impl a0 W (by omega) hm)
    generalize linesR a0 = L at *
    obtain ⟨n, hn⟩ : ∃ n, L.length = n := ⟨_, rfl⟩
    rw [hn] at hle CS CI
    clear hn
    go_enter Tryd.func7, Tryd.ntmps7
    go_wp2_with fail
    refine (CS _).out.mono ?_; rintro e w1 ⟨A0, c0, rfl, ho0, hb1⟩
    go_wp2_with fail
    refine (CI _ (some_below HF.out.1 hb1 HF.out.2)).out.mono ?_; rintro e w2 ⟨A1, c1, rfl, ho1, hb2⟩
    have hlt0 := own_lt ho0
    have ho0 := ho0.below hb2
    have hbb := hb1.trans (hb2.mono hb1.size)
    go_wp2_with fail
    refine (eqs_any _ _ _ _ _ _ _ ho1.reads ho0.reads (by omega)).mono ?_; rintro e w3 ⟨rfl, q, rfl⟩
    go_wp2_with fail
    refine (marks_any (w2.drewN q) w1.heap.size A1 n c1 1 _ (ho1.drewN q) hb2.size (by omega) (by omega) (by omega)).mono ?_; rintro e w4 ⟨rfl, ho2, hb4⟩
    have ho0 := own_under (ho0.drewN q) hb4 hlt0
    have hbb4 := (below_drewN hbb q).trans (hb4.mono hb1.size)
    clear hb4
    go_wp2_with fail
    refine (held_any _ _ _ _ 1 ho2.reads (by omega) (by omega) (by omega)).mono ?_; rintro e w5 ⟨rfl, hb5⟩
    have ho0 := ho0.below hb5
    have ho2 := ho2.below hb5
    have hbb5 := hbb4.trans (hb5.mono hbb4.size)
    clear hb5
    go_wp2_with fail
    refine (CI _ (some_below HF.out.1 hbb5 HF.out.2)).out.mono ?_; rintro e w6 ⟨A2, c2, rfl, ho3, hb6⟩
    have ho0 := ho0.below hb6
    have ho2 := ho2.below hb6
    have hbb6 := hbb5.trans (hb6.mono hbb5.size)
    clear hb6
    go_wp2_with fail
    refine (eqs_any _ _ _ _ _ _ _ ho3.reads ho0.reads (by omega)).mono ?_; rintro e w7 ⟨rfl, q2, rfl⟩
    go_wp2_with fail
    refine (held_any _ _ _ _ 1 (ho2.drewN q2).reads (by omega) (by omega) (by omega)).mono ?_; rintro e w8 ⟨rfl, hb8⟩
    have hbb8 := (below_drewN hbb6 q2).trans (hb8.mono hbb6.size)
    clear hb8
    go_wp2
    go_ret
    exact ⟨rfl, hbb8⟩
end Go.Proofs.YtdhncpkcbeggmaaDoor
