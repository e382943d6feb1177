/-
  The walks of laws.FnExactLock, FnExactUnlock and FnExactSteps.
-/
import Derived.Test.YtipcgdhjlpjcaaaDoorLockLaid
import Derived.Test.YtipcgdhjlpjcaaaDoorPassH
import Derived.Test.YtipcgdhjlpjcaaaDoorLockT
import Derived.Test.YtipcgdhjlpjcaaaDoorLists
set_option linter.unusedVariables false
set_option linter.unusedSimpArgs false
namespace Go.Proofs.YtipcgdhjlpjcaaaDoor
open Go.RowKit
attribute [local go_sem ↓] Go.wp_at_zero Go.wp_at_succ

theorem facts_FnExactLock {W : World} (h : laidMetH Tryd.prog Rows.fnExactLockRow.laid W) : MxF W := mxf_laid h
theorem facts_FnExactUnlock {W : World} (h : laidMetH Tryd.prog Rows.fnExactUnlockRow.laid W) : MxF W := mxf_laid h
theorem facts_FnExactSteps {W : World} (h : laidMetH Tryd.prog Rows.fnExactStepsRow.laid W) : MxF W := mxf_laid h
set_option maxRecDepth 100000 in
set_option maxHeartbeats 800000 in
theorem walk_FnExactLock (a0 a1 : ByteArray) (w0 : a0.size ≤ maxLen) (w1 : a1.size ≤ maxLen) (w : World) (hf : MxF w) :
    Calls Tryd.prog 7 #[.string a0, .string a1] w fun e w' => e = .returned (.bool true) ∧ Below w.heap.size w w' := by
  unfold maxLen at w0 w1
  by_cases hs : 1048576 < a0.size
  · go_enter Tryd.func7, Tryd.ntmps7
    go_wp2
    go_ret
    exact ⟨rfl, Below.refl _ _⟩
  · by_cases hs1 : 1048576 < a1.size
    · go_enter Tryd.func7, Tryd.ntmps7
      go_wp2
      go_ret
      exact ⟨rfl, Below.refl _ _⟩
    · have C1 := fun W => Lib.hid (Lock_spec a0 a1 W)
      have C2 := fun W hW => Lib.hid (Lock_impl a0 a1 W hW)
      have HF : Hid (∀ W, Below w.heap.size w W → MxF W) := Lib.hid (fun W hW => hf.below hW (Nat.le_refl _))
      clear hf
      generalize lockT a0 a1 = r at *
      go_enter Tryd.func7, Tryd.ntmps7
      go_wp2_with fail
      refine (C1 _).out.mono ?_; rintro e w1 ⟨rfl, hb1⟩
      go_wp2_with fail
      refine (C2 _ (HF.out _ hb1)).out.mono ?_; rintro e w2 ⟨rfl, hb2⟩
      go_wp2
      go_ret
      exact ⟨rfl, hb1.trans (hb2.mono hb1.size)⟩
set_option maxRecDepth 100000 in
set_option maxHeartbeats 800000 in
theorem walk_FnExactUnlock (a0 a1 : ByteArray) (w0 : a0.size ≤ maxLen) (w1 : a1.size ≤ maxLen) (w : World) (hf : MxF w) :
    Calls Tryd.prog 8 #[.string a0, .string a1] w fun e w' => e = .returned (.bool true) ∧ Below w.heap.size w w' := by
  unfold maxLen at w0 w1
  by_cases hs : 1048576 < a0.size
  · go_enter Tryd.func8, Tryd.ntmps8
    go_wp2
    go_ret
    exact ⟨rfl, Below.refl _ _⟩
  · by_cases hs1 : 1048576 < a1.size
    · go_enter Tryd.func8, Tryd.ntmps8
      go_wp2
      go_ret
      exact ⟨rfl, Below.refl _ _⟩
    · have C1 := fun W => Lib.hid (Unlock_spec a0 a1 W)
      have C2 := fun W hW => Lib.hid (Unlock_impl a0 a1 W hW)
      have HF : Hid (∀ W, Below w.heap.size w W → MxF W) := Lib.hid (fun W hW => hf.below hW (Nat.le_refl _))
      clear hf
      generalize unlockT a0 a1 = r at *
      go_enter Tryd.func8, Tryd.ntmps8
      go_wp2_with fail
      refine (C1 _).out.mono ?_; rintro e w1 ⟨rfl, hb1⟩
      go_wp2_with fail
      refine (C2 _ (HF.out _ hb1)).out.mono ?_; rintro e w2 ⟨rfl, hb2⟩
      go_wp2
      go_ret
      exact ⟨rfl, hb1.trans (hb2.mono hb1.size)⟩
theorem texts_own {w : World} {e : Ending} {w' : World} {l : List ByteArray} (h : ∃ v, e = .returned v ∧ w'.ownsRow w.heap.size 9 1 v l.length (l.map .string) ∧ Below w.heap.size w w') :
    ∃ A c, e = .returned (.slice A l.length c) ∧ Own w' w.heap.size A l.length c l ∧ Below w.heap.size w w' := by
  obtain ⟨v, rfl, ho, hb⟩ := h
  obtain ⟨A, c, rfl, ho2⟩ := own_of ho
  exact ⟨A, c, rfl, ho2, hb⟩
/-- a list that lies wholly below B is kept where only what lies from B on changes. -/
theorem own_under {w w' : World} {C B n c : Nat} {A : Option Addr} {l : List ByteArray} (h : Own w C A n c l) (hb : Below B w w') (hlt : ∀ a, A = some a → a.block < B) : Own w' C A n c l := by
  refine ⟨h.1, h.2.1, ?_⟩
  rcases h.2.2 with hn | ⟨g, cap, cur, hv, hB, hg, rest⟩
  · exact .inl hn
  · have hA : A = some ⟨g, 0, none⟩ := by injection hv
    exact .inr ⟨g, cap, cur, hv, hB, (hb.block g (hlt _ hA)).trans hg, rest⟩
theorem own_lt {w : World} {C n c : Nat} {A : Option Addr} {l : List ByteArray} (h : Own w C A n c l) : ∀ a, A = some a → a.block < w.heap.size := fun a ha => by
  subst ha
  exact h.block.2
theorem stepsT_len (k s : ByteArray) : (stepsT k s).length ≤ 15 := by
  by_cases h : kOk k ∧ s.size = 16
  · obtain ⟨n, hn⟩ := h.1.of
    have hle := hn.le
    rw [stepsT_yes k s h.1 h.2, upTo_length, hn.div]; omega
  · rw [stepsT_no k s h]; decide
set_option maxRecDepth 100000 in
set_option maxHeartbeats 1600000 in
theorem walk_FnExactSteps (a0 a1 : ByteArray) (w0 : a0.size ≤ maxLen) (w1 : a1.size ≤ maxLen) (w : World) (hf : MxF w) :
    Calls Tryd.prog 6 #[.string a0, .string a1] w fun e w' => e = .returned (.bool true) ∧ Below w.heap.size w w' := by
  unfold maxLen at w0 w1
  by_cases hs : 1048576 < a0.size
  · go_enter Tryd.func6, Tryd.ntmps6
    go_wp2
    go_ret
    exact ⟨rfl, Below.refl _ _⟩
  · by_cases hs1 : 1048576 < a1.size
    · go_enter Tryd.func6, Tryd.ntmps6
      go_wp2
      go_ret
      exact ⟨rfl, Below.refl _ _⟩
    · have hle := stepsT_len a0 a1
      have HF : Hid (∀ W, Below w.heap.size w W → MxF W) := Lib.hid (fun W hW => hf.below hW (Nat.le_refl _))
      have CS := fun W => Lib.hid ((Steps_spec a0 a1 W).mono fun e w' h => texts_own h)
      have CI := fun W hW => Lib.hid ((Steps_impl a0 a1 W hW).mono fun e w' h => texts_own h)
      clear hf
      generalize stepsT a0 a1 = L at *
      obtain ⟨n, hn⟩ : ∃ n, L.length = n := ⟨_, rfl⟩
      rw [hn] at hle CS CI
      clear hn
      go_enter Tryd.func6, Tryd.ntmps6
      go_wp2_with fail
      refine (CS _).out.mono ?_; rintro e w1 ⟨A0, c0, rfl, ho0, hb1⟩
      go_wp2_with fail
      refine (CI _ (HF.out _ hb1)).out.mono ?_; rintro e w2 ⟨A1, c1, rfl, ho1, hb2⟩
      have hlt0 := own_lt ho0
      have ho0 := ho0.below hb2
      have hbb := hb1.trans (hb2.mono hb1.size)
      go_wp2_with fail
      refine (eqs_any _ _ _ _ _ _ _ ho1.reads ho0.reads (by omega)).mono ?_; rintro e w3 ⟨rfl, q, rfl⟩
      go_wp2_with fail
      refine (marks_any (w2.drewN q) w1.heap.size A1 n c1 1 _ (ho1.drewN q) hb2.size (by omega) (by omega) (by omega)).mono ?_; rintro e w4 ⟨rfl, ho2, hb4⟩
      have ho0 := own_under (ho0.drewN q) hb4 hlt0
      have hbb4 := (below_drewN hbb q).trans (hb4.mono hb1.size)
      clear hb4
      go_wp2_with fail
      refine (held_any _ _ _ _ 1 ho2.reads (by omega) (by omega) (by omega)).mono ?_; rintro e w5 ⟨rfl, hb5⟩
      have ho0 := ho0.below hb5
      have ho2 := ho2.below hb5
      have hbb5 := hbb4.trans (hb5.mono hbb4.size)
      clear hb5
      go_wp2_with fail
      refine (CI _ (HF.out _ hbb5)).out.mono ?_; rintro e w6 ⟨A2, c2, rfl, ho3, hb6⟩
      have ho0 := ho0.below hb6
      have ho2 := ho2.below hb6
      have hbb6 := hbb5.trans (hb6.mono hbb5.size)
      clear hb6
      go_wp2_with fail
      refine (eqs_any _ _ _ _ _ _ _ ho3.reads ho0.reads (by omega)).mono ?_; rintro e w7 ⟨rfl, q2, rfl⟩
      go_wp2_with fail
      refine (held_any _ _ _ _ 1 (ho2.drewN q2).reads (by omega) (by omega) (by omega)).mono ?_; rintro e w8 ⟨rfl, hb8⟩
      have hbb8 := (below_drewN hbb6 q2).trans (hb8.mono hbb6.size)
      clear hb8
      go_wp2
      go_ret
      exact ⟨rfl, hbb8⟩
end Go.Proofs.YtipcgdhjlpjcaaaDoor
