/-
  What spec.DrawPlane answers.
-/
import Derived.Test.YthajoodnjcmnlaaCur
import Derived.Test.YthajoodnjcmnlaaByte
import Derived.Test.YthajoodnjcmnlaaDrawN
import Derived.Test.YthajoodnjcmnlaaInts
import Derived.Test.YthajoodnjcmnlaaFieldDraw
import Derived.Deep.DeepFit
import Derived.Deep.RegionHeld3
import Derived.Deep.DrawnRows
import Derived.Deep.AppendLies
import Derived.WalkKit
import Derived.LoopTactic
import Derived.OwnWalk
import Derived.WalkLawsBesides
import Derived.WalkSpells
import Derived.Outline
import Derived.Laws.Pointers
import Derived.Deep.QuietTactic
import Derived.BigQuiet
import Derived.IntWalk
set_option linter.unusedVariables false
namespace Go.Proofs.Ythajoodnjcmnlaa
open Go.RowKit

/-- A byte and a list are drawn, of at most nine. -/
def PlaneDrawn (w : World) (e : Ending) (w' : World) : Prop := ∃ (x : Int) (A' : Option Addr) (n c : Nat) (l : List Int), e = .returned (.tuple #[.int .i64 x, .slice A' n c]) ∧ In64 x ∧ IRow w' A' n l ∧ n ≤ 9 ∧ n ≤ c ∧ c ≤ 9223372036854775807 ∧ Below w.heap.size w w'
/-- A stop: the walk stands still here, so that a law can be handed in by hand. -/
def Stp64 (p : Prop) : Prop := p
theorem stp64 {p : Prop} (h : Stp64 p) : p := h
theorem unstp64 {p : Prop} (h : p) : Stp64 p := h
set_option maxRecDepth 100000 in
set_option maxHeartbeats 800000 in
theorem draw_plane (w : World) (A : Option Addr) (len cap : Nat) (hcode : CodeAt w w.heap.size A len) (hl : len ≤ 1048576) :
    Calls Try.prog 28 #[.slice A len cap] w fun e w' => PlaneDrawn w e w' := by
  obtain ⟨i0, hi, hz0, hz1, hz2⟩ := info_parts info64
  have H := Lib.hid hcode
  clear hcode
  go_enter Try.func28, Try.ntmps28
  go_wp2_with fail
  refine (new_any _ _ _ _ H.out hl).mono ?_; rintro e w1 ⟨g, rfl, hc1, hb1⟩
  go_wp2_with fail
  refine (byte2_any _ _ _ _ _ _ hc1).mono ?_; rintro e w2 ⟨x, rfl, hx, hc2, hg2⟩
  have HX := Lib.hid hx
  have hb2 := below_only hb1 hg2 hc1.1 hb1.size
  have hB := hc1.1
  have hgw := hc2.lt
  clear hx hc1 hg2 hb1
  go_wp2_with fail
  refine (pickint_any (fun u => 0 ≤ u ∧ u ≤ 9) 6 (w2.heap.size + 1) 3 _ (by omega) (by omega) _ _ _ _ _ _ ((hc2.alloc _).alloc _) (by simpa using heap_alloc_new (w2.alloc _) _) (by omega) (lits [8, 8, 8, 7, 9, 0] (by simp))).mono ?_
  rintro e w3 ⟨n, rfl, ⟨hn0, hn1⟩, hc3, hg3⟩
  obtain ⟨n, rfl⟩ := Int.eq_ofNat_of_zero_le hn0
  have hown3 := own_only64 (((World.ownsRow_lit w2 (e := 3) (size := 1) #[] 0 (Nat.le_refl _) (by simp [maxLen]) rfl).alloc _ : ((w2.alloc _).alloc _).ownsRow w2.heap.size 3 1 (.slice (some ⟨w2.heap.size, 0, none⟩) 0 0) 0 (cells64 []))) hg3 hgw
  go_wp2
  have hg23 : w2.grownBy w3 (some g) := only_trans (only_alloc (only_alloc (only_refl w2 _) _) _) hg3
  clear hg3
  go_loopw [6, 8] (fun v i wr => ∃ (k : Nat) (l : List Int), k ≤ n ∧ Hid (l.length = k) ∧ i = .int .i64 k ∧ wr.ownsRow w2.heap.size 3 1 v k (cells64 l) ∧ CurIn wr w.heap.size g A len cap ∧ w2.grownBy wr (some g)) (fun _ i _ => n - (intOf i).toNat)
  case atStart => exact ⟨0, [], Nat.zero_le _, Lib.hid rfl, rfl, hown3, hc3, hg23⟩
  case round =>
    obtain ⟨k, l, hk, hl, rfl, hown, hcr, hgr⟩ := hrel
    by_cases hlt : k < n
    · have hk1 : (k : Int) < (n : Int) := by omega
      go_wp2_with fail
      refine (byte2_any _ _ _ _ _ _ hcr).mono ?_; rintro e w4 ⟨u, rfl, hu, hc4, hg4⟩
      have hown4 := own_only64 hown hg4 hgw
      have hgr4 := only_trans hgr hg4
      clear hown hgr hcr hg4 hu
      go_wp2_with (at_builtin; refine stp64 ?_)
      refine unstp64 ?_
      refine wpList_append_lies _ rfl (.tmp 22) (.tmp 25) 30 rfl w2.heap.size 3 i0 (.int .i64 0) 1 8 Try.underlying30 hi hz0 hz1 hz2 rfl (by decide) u6 k (cells64 l) rfl (hown4.alloc _) ⟨w4.heap.size, 0, none⟩ 1 1 [.int .i64 u] rfl rfl (World.news_of_block (cs := #[.int .i64 u]) (heap_alloc_new w4 _)) (by simp [Value.oneCell']) (by omega) (by unfold maxLen; omega) (by omega) (by have := hgr4.size; simp; omega) (w4.heap.size + 1) (by simp) ?_
      intro g2 cap2 w5 hown5 hgrow hat hlt5
      have hrel := ints_rel hgw hown4 hc4 hgr4 hown5 hgrow
      have HL : Hid ((l ++ [u]).length = k + 1) := Lib.hid (by have := hl.out; simp; omega)
      clear hown4 hc4 hgr4 hown5 hgrow hat hlt5
      go_wp2
      go_roundw
      case rel => exact ⟨k + 1, _, by omega, HL, by go_num, hrel.1, hrel.2.1, hrel.2.2⟩
      case measure => simp [intOf]; omega
    · have hk1 : ¬ (k : Int) < (n : Int) := by omega
      obtain rfl : n = k := by omega
      obtain ⟨A', c', rfl, hnc, hcm⟩ := own_slice hown
      have HR := Lib.hid (own_irow hown)
      have hbel : Below w.heap.size w wr := below_only hb2 hgr hB hb2.size
      have HI := Lib.hid hbel
      clear hown hbel hgr
      go_wp2
      go_ret2
      unfold PlaneDrawn
      exact ⟨_, _, _, _, _, rfl, HX.out, HR.out, by omega, hnc, hcm, HI.out⟩
end Go.Proofs.Ythajoodnjcmnlaa
