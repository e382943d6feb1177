/-
  The lists of a passage's steps, there and back.
-/
import Derived.Test.YtipcgdhjlpjcaaaGreatDoorPassD
set_option linter.unusedVariables false
set_option linter.unusedSimpArgs false
namespace Go.Proofs.YtipcgdhjlpjcaaaGreatDoor
open Go Go.RowKit Go.Proofs.YtipcgdhjlpjcaaaGreatDoor.Lk
attribute [local go_sem ↓] Go.wp_at_zero Go.wp_at_succ

theorem infoF : (Tryz.prog.info? 1).map (fun i => (i.zero, i.size, i.bytes)) = some (some .nilFunc, 1, 8) := by kernel_rfl
/-- a step of the passage at p, as a value. -/
def stF (p : Nat) (s : PStp) : Value := .func (.func s.fn) #[.pointer (some ⟨p, 0, none⟩)] #[]
def stV (p : Nat) (l : List PStp) : List Value := l.map (stF p)
theorem stV_append (p : Nat) (l m : List PStp) : stV p (l ++ m) = stV p l ++ stV p m := List.map_append
theorem stV_length (p : Nat) (l : List PStp) : (stV p l).length = l.length := List.length_map _
set_option maxRecDepth 100000 in
theorem mixedRounds_impl (p g o m c : Nat) (f : Nat → UInt8) (sv uv bv : Value) (w : World) (hp : PsAt w p (.slice (some ⟨g, o, none⟩) (m + 2) c) f sv uv bv) (hm : m ≤ 1000) :
    Calls Tryz.prog 58 #[.pointer (some ⟨p, 0, none⟩)] w fun e w' => e = .returned (.int .i64 (m : Int)) ∧ w = w' := by
  have c0 := hp.c0
  have hm2 : (m : Int) ≤ 1000 := by omega
  clear hp
  go_enter Tryz.func58, Tryz.ntmps58
  go_wp2
  go_ret
  exact ⟨by go_num, rfl⟩
set_option maxRecDepth 100000 in
set_option maxHeartbeats 1600000 in
theorem lockSteps_impl (p g o m c : Nat) (f : Nat → UInt8) (sv uv bv : Value) (w : World) (hp : PsAt w p (.slice (some ⟨g, o, none⟩) (m + 2) c) f sv uv bv) (hm : m ≤ 1000) :
    Calls Tryz.prog 35 #[.pointer (some ⟨p, 0, none⟩)] w fun e w' => ∃ v, e = .returned v ∧ w'.ownsRow w.heap.size 1 1 v (4 * m + 4) (stV p (lockAll m)) ∧ Below w.heap.size w w' := by
  obtain ⟨i0, hi, hz0, hz1, hz2⟩ := info_parts infoF
  have hmf : ∀ (fn : Fn) (first cap : Array Value) (w : World), (Instr.makeFunc fn first cap).run Tryz.prog w = .ok (.func fn first cap) w := fun _ _ _ _ => rfl
  have HM : Hid (∀ W, Below w.heap.size w W → Calls Tryz.prog 58 #[.pointer (some ⟨p, 0, none⟩)] W fun e w' => e = .returned (.int .i64 (m : Int)) ∧ W = w') := Lib.hid fun W hW => mixedRounds_impl p g o m c f sv uv bv W (hp.of_block (hW.block p hp.lt)) hm
  have N1 : Hid ((w.alloc (.cells #[.func (.func 65) #[.pointer (some ⟨p, 0, none⟩)] #[]] 1)).ownsRow w.heap.size 1 1 (.slice (some ⟨w.heap.size, 0, none⟩) 1 1) 1 (stV p (lockTo 0))) := Lib.hid ⟨rfl, .inr ⟨_, _, _, rfl, Nat.le_refl _, heap_alloc_new w _, Nat.le_refl _, by unfold maxLen; omega, rfl, rfl⟩⟩
  have N2 : Hid (Below w.heap.size w (w.alloc (.cells #[.func (.func 65) #[.pointer (some ⟨p, 0, none⟩)] #[]] 1))) := Lib.hid ((Below.refl _ _).alloc (Nat.le_refl _) _)
  clear hp
  go_enter Tryz.func35, Tryz.ntmps35
  go_wp2_with fail
  refine (HM.out _ N2.out).mono ?_; rintro e w' ⟨rfl, rfl⟩
  go_wp2
  go_loopw [3, 9] (fun v i wr => ∃ k : Nat, k ≤ m ∧ i = .int .i64 k ∧ wr.ownsRow w.heap.size 1 1 v (4 * k + 1) (stV p (lockTo k)) ∧ Below w.heap.size w wr) (fun _ i _ => m - (intOf i).toNat)
  case atStart => exact ⟨0, Nat.zero_le _, rfl, N1.out, N2.out⟩
  case round =>
    obtain ⟨k, hk, rfl, hown, hbel⟩ := hrel
    by_cases hlt : k < m
    · have hk1 : (k : Int) < (m : Int) := by omega
      have hk0 : (0 : Int) ≤ (k : Int) := by omega
      have hm2 : (m : Int) ≤ 1000 := by omega
      go_wp2_with (at_builtin; refine stp ?_)
      refine unstp ?_
      refine wpList_append_lies _ rfl (.tmp 11) (.tmp 20) 68 rfl w.heap.size 1 i0 .nilFunc 1 8 Tryz.underlying68 hi hz0 hz1 hz2 rfl (by decide) u3 (4 * k + 1) (stV p (lockTo k)) rfl (hown.alloc _) ⟨wr.heap.size, 0, none⟩ 4 4 [.func (.func 66) #[.pointer (some ⟨p, 0, none⟩)] #[], .func (.func 67) #[.pointer (some ⟨p, 0, none⟩)] #[], .func (.func 68) #[.pointer (some ⟨p, 0, none⟩)] #[], .func (.func 65) #[.pointer (some ⟨p, 0, none⟩)] #[]] rfl rfl (World.news_of_block (cs := #[.func (.func 66) #[.pointer (some ⟨p, 0, none⟩)] #[], .func (.func 67) #[.pointer (some ⟨p, 0, none⟩)] #[], .func (.func 68) #[.pointer (some ⟨p, 0, none⟩)] #[], .func (.func 65) #[.pointer (some ⟨p, 0, none⟩)] #[]]) (heap_alloc_new wr _)) (by simp [Value.oneCell']) (by omega) (by unfold maxLen; omega) (by omega) (by have := hbel.size; simp; omega) (wr.heap.size + 1) (by simp) ?_
      intro g2 cap2 w5 hown5 hgrow hat hlt5
      have hrel : w5.ownsRow w.heap.size 1 1 (.slice (some ⟨g2, 0, none⟩) (4 * k + 1 + 4) cap2) (4 * (k + 1) + 1) (stV p (lockTo (k + 1))) ∧ Below w.heap.size w w5 := by
        refine ⟨?_, below_append hown hbel hgrow⟩
        have e : 4 * (k + 1) + 1 = 4 * k + 1 + 4 := by omega
        rw [e, lockTo, stV_append]; exact hown5
      clear hown hbel hown5 hgrow hat hlt5
      go_wp2
      go_roundw
      case rel => exact ⟨k + 1, by omega, by go_num, hrel.1, hrel.2⟩
      case measure => simp [intOf]; omega
    · have hk1 : ¬ (k : Int) < (m : Int) := by omega
      obtain rfl : k = m := by omega
      go_wp2_with (at_builtin; refine stp ?_)
      refine unstp ?_
      refine wpList_append_lies _ rfl (.tmp 23) (.tmp 30) 68 rfl w.heap.size 1 i0 .nilFunc 1 8 Tryz.underlying68 hi hz0 hz1 hz2 rfl (by decide) u3 (4 * k + 1) (stV p (lockTo k)) rfl (hown.alloc _) ⟨wr.heap.size, 0, none⟩ 3 3 [.func (.func 66) #[.pointer (some ⟨p, 0, none⟩)] #[], .func (.func 67) #[.pointer (some ⟨p, 0, none⟩)] #[], .func (.func 65) #[.pointer (some ⟨p, 0, none⟩)] #[]] rfl rfl (World.news_of_block (cs := #[.func (.func 66) #[.pointer (some ⟨p, 0, none⟩)] #[], .func (.func 67) #[.pointer (some ⟨p, 0, none⟩)] #[], .func (.func 65) #[.pointer (some ⟨p, 0, none⟩)] #[]]) (heap_alloc_new wr _)) (by simp [Value.oneCell']) (by omega) (by unfold maxLen; omega) (by omega) (by have := hbel.size; simp; omega) (wr.heap.size + 1) (by simp) ?_
      intro g2 cap2 w5 hown5 hgrow hat hlt5
      have hrel : w5.ownsRow w.heap.size 1 1 (.slice (some ⟨g2, 0, none⟩) (4 * k + 1 + 3) cap2) (4 * k + 4) (stV p (lockAll k)) ∧ Below w.heap.size w w5 := by
        refine ⟨?_, below_append hown hbel hgrow⟩
        have e : 4 * k + 4 = 4 * k + 1 + 3 := by omega
        rw [e, lockAll, stV_append]; exact hown5
      clear hown hbel hown5 hgrow hat hlt5
      go_wp2
      go_ret
      exact ⟨_, rfl, hrel.1, hrel.2⟩
set_option maxRecDepth 100000 in
set_option maxHeartbeats 1600000 in
theorem unlockSteps_impl (p g o m c : Nat) (f : Nat → UInt8) (sv uv bv : Value) (w : World) (hp : PsAt w p (.slice (some ⟨g, o, none⟩) (m + 2) c) f sv uv bv) (hm : m ≤ 1000) :
    Calls Tryz.prog 29 #[.pointer (some ⟨p, 0, none⟩)] w fun e w' => ∃ v, e = .returned v ∧ w'.ownsRow w.heap.size 1 1 v (4 * m + 4) (stV p (unlockAll m)) ∧ Below w.heap.size w w' := by
  obtain ⟨i0, hi, hz0, hz1, hz2⟩ := info_parts infoF
  have hmf : ∀ (fn : Fn) (first cap : Array Value) (w : World), (Instr.makeFunc fn first cap).run Tryz.prog w = .ok (.func fn first cap) w := fun _ _ _ _ => rfl
  have HM : Hid (∀ W, Below w.heap.size w W → Calls Tryz.prog 58 #[.pointer (some ⟨p, 0, none⟩)] W fun e w' => e = .returned (.int .i64 (m : Int)) ∧ W = w') := Lib.hid fun W hW => mixedRounds_impl p g o m c f sv uv bv W (hp.of_block (hW.block p hp.lt)) hm
  have N1 : Hid ((w.alloc (.cells #[.func (.func 55) #[.pointer (some ⟨p, 0, none⟩)] #[], .func (.func 56) #[.pointer (some ⟨p, 0, none⟩)] #[], .func (.func 57) #[.pointer (some ⟨p, 0, none⟩)] #[]] 1)).ownsRow w.heap.size 1 1 (.slice (some ⟨w.heap.size, 0, none⟩) 3 3) 3 (stV p (unlockTo 0))) := Lib.hid ⟨rfl, .inr ⟨_, _, _, rfl, Nat.le_refl _, heap_alloc_new w _, Nat.le_refl _, by unfold maxLen; omega, rfl, rfl⟩⟩
  have N2 : Hid (Below w.heap.size w (w.alloc (.cells #[.func (.func 55) #[.pointer (some ⟨p, 0, none⟩)] #[], .func (.func 56) #[.pointer (some ⟨p, 0, none⟩)] #[], .func (.func 57) #[.pointer (some ⟨p, 0, none⟩)] #[]] 1))) := Lib.hid ((Below.refl _ _).alloc (Nat.le_refl _) _)
  clear hp
  go_enter Tryz.func29, Tryz.ntmps29
  go_wp2_with fail
  refine (HM.out _ N2.out).mono ?_; rintro e w' ⟨rfl, rfl⟩
  go_wp2
  go_loopw [3, 13] (fun v i wr => ∃ k : Nat, k ≤ m ∧ i = .int .i64 k ∧ wr.ownsRow w.heap.size 1 1 v (4 * k + 3) (stV p (unlockTo k)) ∧ Below w.heap.size w wr) (fun _ i _ => m - (intOf i).toNat)
  case atStart => exact ⟨0, Nat.zero_le _, rfl, N1.out, N2.out⟩
  case round =>
    obtain ⟨k, hk, rfl, hown, hbel⟩ := hrel
    by_cases hlt : k < m
    · have hk1 : (k : Int) < (m : Int) := by omega
      have hk0 : (0 : Int) ≤ (k : Int) := by omega
      have hm2 : (m : Int) ≤ 1000 := by omega
      go_wp2_with (at_builtin; refine stp ?_)
      refine unstp ?_
      refine wpList_append_lies _ rfl (.tmp 15) (.tmp 24) 68 rfl w.heap.size 1 i0 .nilFunc 1 8 Tryz.underlying68 hi hz0 hz1 hz2 rfl (by decide) u3 (4 * k + 3) (stV p (unlockTo k)) rfl (hown.alloc _) ⟨wr.heap.size, 0, none⟩ 4 4 [.func (.func 55) #[.pointer (some ⟨p, 0, none⟩)] #[], .func (.func 59) #[.pointer (some ⟨p, 0, none⟩)] #[], .func (.func 56) #[.pointer (some ⟨p, 0, none⟩)] #[], .func (.func 57) #[.pointer (some ⟨p, 0, none⟩)] #[]] rfl rfl (World.news_of_block (cs := #[.func (.func 55) #[.pointer (some ⟨p, 0, none⟩)] #[], .func (.func 59) #[.pointer (some ⟨p, 0, none⟩)] #[], .func (.func 56) #[.pointer (some ⟨p, 0, none⟩)] #[], .func (.func 57) #[.pointer (some ⟨p, 0, none⟩)] #[]]) (heap_alloc_new wr _)) (by simp [Value.oneCell']) (by omega) (by unfold maxLen; omega) (by omega) (by have := hbel.size; simp; omega) (wr.heap.size + 1) (by simp) ?_
      intro g2 cap2 w5 hown5 hgrow hat hlt5
      have hrel : w5.ownsRow w.heap.size 1 1 (.slice (some ⟨g2, 0, none⟩) (4 * k + 3 + 4) cap2) (4 * (k + 1) + 3) (stV p (unlockTo (k + 1))) ∧ Below w.heap.size w w5 := by
        refine ⟨?_, below_append hown hbel hgrow⟩
        have e : 4 * (k + 1) + 3 = 4 * k + 3 + 4 := by omega
        rw [e, unlockTo, stV_append]; exact hown5
      clear hown hbel hown5 hgrow hat hlt5
      go_wp2
      go_roundw
      case rel => exact ⟨k + 1, by omega, by go_num, hrel.1, hrel.2⟩
      case measure => simp [intOf]; omega
    · have hk1 : ¬ (k : Int) < (m : Int) := by omega
      obtain rfl : k = m := by omega
      go_wp2_with (at_builtin; refine stp ?_)
      refine unstp ?_
      refine wpList_append_lies _ rfl (.tmp 27) (.tmp 30) 68 rfl w.heap.size 1 i0 .nilFunc 1 8 Tryz.underlying68 hi hz0 hz1 hz2 rfl (by decide) u3 (4 * k + 3) (stV p (unlockTo k)) rfl (hown.alloc _) ⟨wr.heap.size, 0, none⟩ 1 1 [.func (.func 55) #[.pointer (some ⟨p, 0, none⟩)] #[]] rfl rfl (World.news_of_block (cs := #[.func (.func 55) #[.pointer (some ⟨p, 0, none⟩)] #[]]) (heap_alloc_new wr _)) (by simp [Value.oneCell']) (by omega) (by unfold maxLen; omega) (by omega) (by have := hbel.size; simp; omega) (wr.heap.size + 1) (by simp) ?_
      intro g2 cap2 w5 hown5 hgrow hat hlt5
      have hrel : w5.ownsRow w.heap.size 1 1 (.slice (some ⟨g2, 0, none⟩) (4 * k + 3 + 1) cap2) (4 * k + 4) (stV p (unlockAll k)) ∧ Below w.heap.size w w5 := by
        refine ⟨?_, below_append hown hbel hgrow⟩
        have e : 4 * k + 4 = 4 * k + 3 + 1 := by omega
        rw [e, unlockAll, stV_append]; exact hown5
      clear hown hbel hown5 hgrow hat hlt5
      go_wp2
      go_ret
      exact ⟨_, rfl, hrel.1, hrel.2⟩
end Go.Proofs.YtipcgdhjlpjcaaaGreatDoor
