/-
  What impl.atPlace, Table and Untable answer, and the function of TableRound that adds by Table.
-/
import Derived.Test.YtkbnnlhilnnpeaaGreatDoorTableMath
import Derived.Test.YtkbnnlhilnnpeaaGreatDoorUnmix
import Derived.Test.YtkbnnlhilnnpeaaGreatDoorBase
import Derived.WalkKit
import Derived.LoopTactic
import Derived.OwnWalk
import Derived.WalkLawsBesides
import Derived.WalkSpells
import Derived.Outline
import Derived.Below
import Derived.Deep.RegionHeld3
import Derived.Deep.QuietTactic
import Derived.BigQuiet
import Derived.IntWalk
set_option linter.unusedVariables false
set_option linter.unusedSimpArgs false
namespace Go.Proofs.YtkbnnlhilnnpeaaGreatDoor
open Go.RowKit

theorem rot8n (x y : UInt32) (h : rot x 24 = y) (w : World) :
    Calls Tryz.prog 127 #[.int .u32 x.toNat, .int .i64 (-8)] w fun e w' => e = .returned (.int .u32 y.toNat) ∧ w = w' := by
  subst h; exact rot32_neg x 1 (by omega) w
set_option maxRecDepth 100000 in
theorem place_0 (x y : UInt32) (h : rot x (upBy 0) = y) (w : World) :
    Calls Tryz.prog 112 #[.int .i64 0, .int .u32 x.toNat] w fun e w' => e = .returned (.int .i64 y.toNat) ∧ w = w' := by
  rw [show upBy 0 = 0 from rfl, rot_0] at h
  subst h
  have l := w32_lt x
  have l2 : (x.toNat : Int) < 4294967296 := by omega
  clear l
  go_enter Tryz.func112, Tryz.ntmps112
  go_wp2
  go_ret
  exact ⟨rfl, rfl⟩
set_option maxRecDepth 100000 in
theorem place_1 (x y : UInt32) (h : rot x (upBy 1) = y) (w : World) :
    Calls Tryz.prog 112 #[.int .i64 1, .int .u32 x.toNat] w fun e w' => e = .returned (.int .i64 y.toNat) ∧ w = w' := by
  have hl : rot x 24 = y := h
  have H1 := fun W => Lib.hid (rot8n x y hl W)
  have l := w32_lt y
  have l2 : (y.toNat : Int) < 4294967296 := by omega
  clear l hl h
  go_enter Tryz.func112, Tryz.ntmps112
  go_wp2_with fail
  refine (H1 _).out.mono ?_; rintro e w' ⟨rfl, rfl⟩
  go_wp2
  go_ret
  exact ⟨rfl, rfl⟩
set_option maxRecDepth 100000 in
theorem place_2 (x y : UInt32) (h : rot x (upBy 2) = y) (w : World) :
    Calls Tryz.prog 112 #[.int .i64 2, .int .u32 x.toNat] w fun e w' => e = .returned (.int .i64 y.toNat) ∧ w = w' := by
  obtain ⟨x1, h1⟩ : ∃ z, rot x 24 = z := ⟨_, rfl⟩
  have hl : rot x1 24 = y := by rw [← h1, rot_rot x 24 24 (by omega) (by omega)]; exact h
  have H1 := fun W => Lib.hid (rot8n x x1 h1 W)
  have H2 := fun W => Lib.hid (rot8n x1 y hl W)
  have l := w32_lt y
  have l2 : (y.toNat : Int) < 4294967296 := by omega
  clear l hl h h1
  go_enter Tryz.func112, Tryz.ntmps112
  go_wp2_with fail
  refine (H1 _).out.mono ?_; rintro e w' ⟨rfl, rfl⟩
  go_wp2_with fail
  refine (H2 _).out.mono ?_; rintro e w' ⟨rfl, rfl⟩
  go_wp2
  go_ret
  exact ⟨rfl, rfl⟩
set_option maxRecDepth 100000 in
theorem place_3 (x y : UInt32) (h : rot x (upBy 3) = y) (w : World) :
    Calls Tryz.prog 112 #[.int .i64 3, .int .u32 x.toNat] w fun e w' => e = .returned (.int .i64 y.toNat) ∧ w = w' := by
  obtain ⟨x1, h1⟩ : ∃ z, rot x 24 = z := ⟨_, rfl⟩
  obtain ⟨x2, h2⟩ : ∃ z, rot x1 24 = z := ⟨_, rfl⟩
  have hl : rot x2 24 = y := by rw [← h2, ← h1, rot_rot x 24 24 (by omega) (by omega), rot_rot x _ 24 (by omega) (by omega)]; exact h
  have H1 := fun W => Lib.hid (rot8n x x1 h1 W)
  have H2 := fun W => Lib.hid (rot8n x1 x2 h2 W)
  have H3 := fun W => Lib.hid (rot8n x2 y hl W)
  have l := w32_lt y
  have l2 : (y.toNat : Int) < 4294967296 := by omega
  clear l hl h h1 h2
  go_enter Tryz.func112, Tryz.ntmps112
  go_wp2_with fail
  refine (H1 _).out.mono ?_; rintro e w' ⟨rfl, rfl⟩
  go_wp2_with fail
  refine (H2 _).out.mono ?_; rintro e w' ⟨rfl, rfl⟩
  go_wp2_with fail
  refine (H3 _).out.mono ?_; rintro e w' ⟨rfl, rfl⟩
  go_wp2
  go_ret
  exact ⟨rfl, rfl⟩
theorem atPlace_at (k : Nat) (hk : k ≤ 3) (x : UInt32) (w : World) :
    Calls Tryz.prog 112 #[.int .i64 (k : Int), .int .u32 x.toNat] w fun e w' => e = .returned (.int .i64 (rot x (upBy k)).toNat) ∧ w = w' := by
  have h4 : k = 0 ∨ k = 1 ∨ k = 2 ∨ k = 3 := by omega
  rcases h4 with rfl | rfl | rfl | rfl
  · exact place_0 x _ rfl w
  · exact place_1 x _ rfl w
  · exact place_2 x _ rfl w
  · exact place_3 x _ rfl w
/-- a word where place k has it, or -1. -/
def placeI (k : Int) (x : UInt32) : Int := if 0 ≤ k ∧ k ≤ 3 then ((rot x (upBy k.toNat)).toNat : Int) else -1
set_option maxRecDepth 100000 in
theorem atPlace_impl (k : Int) (x : UInt32) (w : World) :
    Calls Tryz.prog 112 #[.int .i64 k, .int .u32 x.toNat] w fun e w' => e = .returned (.int .i64 (placeI k x)) ∧ w = w' := by
  by_cases h : 0 ≤ k ∧ k ≤ 3
  · obtain ⟨j, rfl⟩ := Int.eq_ofNat_of_zero_le h.1
    have e : placeI (j : Int) x = ((rot x (upBy j)).toNat : Int) := by unfold placeI; rw [if_pos h]; rfl
    rw [e]; exact atPlace_at j (by omega) x w
  · have e : placeI k x = -1 := if_neg h
    rw [e]
    have n0 : ¬ k = 0 := by omega
    have n1 : ¬ k = 1 := by omega
    have n2 : ¬ k = 2 := by omega
    have n3 : ¬ k = 3 := by omega
    clear h e
    go_enter Tryz.func112, Tryz.ntmps112
    go_wp2
    go_ret
    exact ⟨rfl, rfl⟩
theorem place_tab (k b : Int) : placeI k (spr mxF (sbox (b8 b))) = tableI k b := rfl
theorem place_utab (k b : Int) : placeI k (spr unF (ubox (b8 b))) = untableI k b := rfl
end Go.Proofs.YtkbnnlhilnnpeaaGreatDoor
