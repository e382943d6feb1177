/-
  What impl.Steps, Lock and Unlock answer.
-/
import Derived.Test.YtipcgdhjlpjcaaaGreatDoorPassG
set_option linter.unusedVariables false
set_option linter.unusedSimpArgs false
namespace Go.Proofs.YtipcgdhjlpjcaaaGreatDoor
open Go Go.RowKit Go.Proofs.YtipcgdhjlpjcaaaGreatDoor.Lk

theorem lastOf_nil (A : Option Addr) (c : Nat) (w : World) : Calls Tryz.prog 27 #[.slice A 0 c] w fun e w' => e = .returned (.string ⟨#[]⟩) ∧ w = w' := by
  go_enter Tryz.func27, Tryz.ntmps27
  go_wp2
  go_ret
  exact ⟨rfl, rfl⟩
theorem lastOf_some (g n c : Nat) (x : ByteArray) (w : World) (hc : w.cell? ⟨g, n, none⟩ = some (.string x)) (hn : n ≤ 1000) : Calls Tryz.prog 27 #[.slice (some ⟨g, 0, none⟩) (n + 1) c] w fun e w' => e = .returned (.string x) ∧ w = w' := by
  have h1 : (n : Int) ≤ 1000 := by omega
  have h2 : (0 : Int) ≤ (n : Int) := by omega
  go_enter Tryz.func27, Tryz.ntmps27
  go_wp2
  go_ret
  exact ⟨rfl, rfl⟩
theorem texts_last {w : World} {B : Nat} {v : Value} {bs : List ByteArray} {x : ByteArray} (h : w.ownsRow B 9 1 v (bs ++ [x]).length ((bs ++ [x]).map .string)) :
    ∃ g c, v = .slice (some ⟨g, 0, none⟩) (bs.length + 1) c ∧ w.cell? ⟨g, bs.length, none⟩ = some (.string x) := by
  rw [List.length_append, List.length_singleton] at h
  obtain ⟨g, c, rfl⟩ := ownsRow_succ h
  refine ⟨g, c, rfl, ?_⟩
  rw [h.cellAt bs.length (by omega), List.map_append, List.getElem?_append_right (by rw [List.length_map]; exact Nat.le_refl _), List.length_map, Nat.sub_self]; rfl
theorem texts_none {w : World} {B : Nat} {v : Value} (h : w.ownsRow B 9 1 v 0 []) : ∃ A c, v = .slice A 0 c := by
  rcases h.2 with ⟨rfl, _⟩ | ⟨g, cap, cur, rfl, _⟩
  · exact ⟨_, _, rfl⟩
  · exact ⟨_, _, rfl⟩
/-- the contract of a list of texts. -/
def OwnTexts (w : World) (l : List ByteArray) (e : Ending) (w' : World) : Prop := ∃ v, e = .returned v ∧ w'.ownsRow w.heap.size 9 1 v l.length (l.map .string) ∧ Below w.heap.size w w'
theorem own_none {w : World} {e : Ending} {w' : World} (h : e = .returned (.slice none 0 0) ∧ Below w.heap.size w w') : OwnTexts w [] e w' := ⟨_, h.1, World.ownsRow_nil _ _ _ _, h.2⟩
theorem passed_lock (key s : ByteArray) (w : World) (hf : MxF w) :
    Calls Tryz.prog 28 #[.string key, .string s, fnV 35] w fun e w' => OwnTexts w (stepsT key s) e w' := by
  by_cases hk : kOk key
  · by_cases hs : s.size = 16
    · obtain ⟨n, hn⟩ := hk.of
      have hle := hn.le
      obtain ⟨h1, h2⟩ := lockAll_is (rkS key n) (n + 5) s
      have e : (runAll (rkS key n) (lockAll (n + 5)) ⟨0, n + 7, s, []⟩).bs = stepsT key s := by
        rw [stepsT_yes key s hk hs, hn.div]; exact congrArg Pas.bs h2
      have H := passed_yes key s n hn hs 35 (lockAll (n + 5)) (4 * (n + 5) + 4) (lockAll_length _) (by omega) (by omega) w hf (enters_of Tryz.func35 (by kernel_rfl) rfl)
        (fun p g o c f sv uv bv W hW => lockSteps_impl p g o (n + 5) c f sv uv bv W hW (by omega)) _ rfl h1
      rw [e] at H; exact H
    · rw [stepsT_no key s (fun h => hs h.2)]
      exact (passed_noblock key s hk hs _ w).mono fun e w' h => own_none h
  · rw [stepsT_no key s (fun h => hk h.1)]
    exact (passed_nokey key s hk _ w).mono fun e w' h => own_none h
theorem passed_unlock (key s : ByteArray) (w : World) (hf : MxF w) :
    Calls Tryz.prog 28 #[.string key, .string s, fnV 29] w fun e w' => ∃ bs, OwnTexts w bs e w' ∧ (bs = [] ∧ unlockT key s = ⟨#[]⟩ ∨ ∃ bs', bs = bs' ++ [unlockT key s] ∧ bs'.length ≤ 1000) := by
  by_cases hk : kOk key
  · by_cases hs : s.size = 16
    · obtain ⟨n, hn⟩ := hk.of
      have hle := hn.le
      obtain ⟨h1, bs, hl, h2⟩ := unlockAll_is (rkS key n) (n + 5) s
      have e : (runAll (rkS key n) (unlockAll (n + 5)) ⟨0, n + 7, s, []⟩).bs = bs ++ [unlockT key s] := by
        rw [unlockT_yes key s hk hs, hn.div]; exact congrArg Pas.bs h2
      have H := passed_yes key s n hn hs 29 (unlockAll (n + 5)) (4 * (n + 5) + 4) (unlockAll_length _) (by omega) (by omega) w hf (enters_of Tryz.func29 (by kernel_rfl) rfl)
        (fun p g o c f sv uv bv W hW => unlockSteps_impl p g o (n + 5) c f sv uv bv W hW (by omega)) _ rfl h1
      rw [e] at H
      exact H.mono fun e w' h => ⟨_, h, .inr ⟨bs, rfl, by omega⟩⟩
    · exact (passed_noblock key s hk hs _ w).mono fun e w' h => ⟨[], own_none h, .inl ⟨rfl, unlockT_no key s (fun h => hs h.2)⟩⟩
  · exact (passed_nokey key s hk _ w).mono fun e w' h => ⟨[], own_none h, .inl ⟨rfl, unlockT_no key s (fun h => hk h.1)⟩⟩
set_option maxRecDepth 100000 in
theorem Steps_impl (key s : ByteArray) (w : World) (hf : MxF w) :
    Calls Tryz.prog 14 #[.string key, .string s] w fun e w' => OwnTexts w (stepsT key s) e w' := by
  have H := Lib.hid (passed_lock key s w hf)
  clear hf
  generalize stepsT key s = l at *
  unfold fnV at H
  go_enter Tryz.func14, Tryz.ntmps14
  go_wp2_with fail
  refine H.out.mono ?_; rintro e w1 ⟨v, rfl, ho, hb1⟩
  go_wp2
  go_ret
  exact ⟨_, rfl, ho, hb1⟩
theorem steps_last (key s : ByteArray) : (stepsT key s = [] ∧ lockT key s = ⟨#[]⟩) ∨ ∃ l, stepsT key s = l ++ [lockT key s] ∧ l.length ≤ 1000 := by
  by_cases h : kOk key ∧ s.size = 16
  · refine .inr ?_
    obtain ⟨n, hn⟩ := h.1.of
    have hle := hn.le
    rw [stepsT_yes key s h.1 h.2, lockT_yes key s h.1 h.2, hn.div]
    exact ⟨upTo (stepS (rkS key n) (n + 6) s) (n + 6), upTo_succ _ _, by rw [upTo_length]; omega⟩
  · exact .inl ⟨stepsT_no key s h, lockT_no key s h⟩
set_option maxRecDepth 100000 in
theorem Lock_impl (key s : ByteArray) (w : World) (hf : MxF w) :
    Calls Tryz.prog 7 #[.string key, .string s] w fun e w' => e = .returned (.string (lockT key s)) ∧ Below w.heap.size w w' := by
  have H := Lib.hid (Steps_impl key s w hf)
  have hl := steps_last key s
  clear hf
  generalize lockT key s = x at *
  generalize stepsT key s = l at *
  have H2 : Calls Tryz.prog 14 #[.string key, .string s] w fun e w' => ∃ A n c, e = .returned (.slice A n c) ∧ Hid (∀ w'', w'' = w' → Calls Tryz.prog 27 #[.slice A n c] w'' fun e w3 => e = .returned (.string x) ∧ w'' = w3) ∧ Hid (Below w.heap.size w w') := by
    refine H.out.mono ?_; rintro e w1 ⟨v, rfl, ho, hb1⟩
    rcases hl with ⟨rfl, rfl⟩ | ⟨l, rfl, hl⟩
    · obtain ⟨A, c, rfl⟩ := texts_none ho
      exact ⟨A, 0, c, rfl, Lib.hid fun w2 h => lastOf_nil A c w2, Lib.hid hb1⟩
    · obtain ⟨g, c, rfl, hc⟩ := texts_last ho
      exact ⟨_, _, c, rfl, Lib.hid fun w2 h => lastOf_some g l.length c x w2 (by rw [h]; exact hc) hl, Lib.hid hb1⟩
  clear H hl
  go_enter Tryz.func7, Tryz.ntmps7
  go_wp2_with fail
  refine H2.mono ?_; rintro e w1 ⟨A, n, c, rfl, hc, hb1⟩
  go_wp2_with fail
  refine (hc.out _ rfl).mono ?_; rintro e w' ⟨rfl, rfl⟩
  go_wp2
  go_ret
  exact ⟨rfl, hb1.out⟩
set_option maxRecDepth 100000 in
theorem Unlock_impl (key s : ByteArray) (w : World) (hf : MxF w) :
    Calls Tryz.prog 9 #[.string key, .string s] w fun e w' => e = .returned (.string (unlockT key s)) ∧ Below w.heap.size w w' := by
  have H := Lib.hid (passed_unlock key s w hf)
  clear hf
  generalize unlockT key s = x at *
  have H2 : Calls Tryz.prog 28 #[.string key, .string s, fnV 29] w fun e w' => ∃ A n c, e = .returned (.slice A n c) ∧ Hid (∀ w'', w'' = w' → Calls Tryz.prog 27 #[.slice A n c] w'' fun e w3 => e = .returned (.string x) ∧ w'' = w3) ∧ Hid (Below w.heap.size w w') := by
    refine H.out.mono ?_; rintro e w1 ⟨bs, ⟨v, rfl, ho, hb1⟩, hl⟩
    rcases hl with ⟨rfl, rfl⟩ | ⟨l, rfl, hl⟩
    · obtain ⟨A, c, rfl⟩ := texts_none ho
      exact ⟨A, 0, c, rfl, Lib.hid fun w2 h => lastOf_nil A c w2, Lib.hid hb1⟩
    · obtain ⟨g, c, rfl, hc⟩ := texts_last ho
      exact ⟨_, _, c, rfl, Lib.hid fun w2 h => lastOf_some g l.length c x w2 (by rw [h]; exact hc) hl, Lib.hid hb1⟩
  clear H
  unfold fnV at H2
  go_enter Tryz.func9, Tryz.ntmps9
  go_wp2_with fail
  refine H2.mono ?_; rintro e w1 ⟨A, n, c, rfl, hc, hb1⟩
  go_wp2_with fail
  refine (hc.out _ rfl).mono ?_; rintro e w' ⟨rfl, rfl⟩
  go_wp2
  go_ret
  exact ⟨rfl, hb1.out⟩
end Go.Proofs.YtipcgdhjlpjcaaaGreatDoor
