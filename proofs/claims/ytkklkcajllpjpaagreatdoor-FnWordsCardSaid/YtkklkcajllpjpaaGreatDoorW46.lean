/-
  The walk of laws.FnWords.
-/
import Derived.Test.YtkklkcajllpjpaaGreatDoorLkB
import Derived.Test.YtkklkcajllpjpaaGreatDoorLockSp
import Derived.Test.YtkklkcajllpjpaaGreatDoorPass
import Derived.Test.YtkklkcajllpjpaaGreatDoorTabLaid
import Derived.Test.YtkklkcajllpjpaaGreatDoorLockLaid
import Derived.Test.YtkklkcajllpjpaaGreatDoorDraws
set_option linter.unusedVariables false
set_option linter.unusedSimpArgs false
namespace Go.Proofs.YtkklkcajllpjpaaGreatDoor
open Go.RowKit

set_option maxRecDepth 100000 in
set_option maxHeartbeats 1600000 in
theorem draw_LockTable (w : World) (A : Option Addr) (len cap : Nat) (hcode : CodeAt w w.heap.size A len) (hl : len ≤ 1048576) :
    Calls Tryz.prog 12 #[.slice A len cap] w fun e w' => ∃ (k s : ByteArray), e = .returned (.tuple #[.string k, .string s]) ∧ k.size ≤ 1000 ∧ s.size ≤ 1000 ∧ Below w.heap.size w w' := by
  have H := Lib.hid hcode
  clear hcode
  go_enter Tryz.func12, Tryz.ntmps12
  go_wp2_with fail
  refine (new_any _ _ _ _ H.out hl).mono ?_; rintro e w1 ⟨g, rfl, hc1, hb1⟩
  go_wp2_with fail
  refine (odd_any _ _ _ _ _ _ hc1).mono ?_; rintro e w2 ⟨k, rfl, hk, hc2, hg2⟩
  have HX := Lib.hid hk
  clear hk
  go_wp2_with fail
  refine (block_any _ _ _ _ _ _ hc2).mono ?_; rintro e w3 ⟨s, rfl, hs, hc3, hg3⟩
  have HU := Lib.hid hs
  clear hs
  go_wp2
  go_ret2
  exact ⟨_, _, rfl, HX.out, HU.out, below_only hb1 (only_trans hg2 hg3) hc1.1 hb1.size⟩
set_option maxRecDepth 100000 in
set_option maxHeartbeats 1600000 in
theorem draw_UnlockTable (w : World) (A : Option Addr) (len cap : Nat) (hcode : CodeAt w w.heap.size A len) (hl : len ≤ 1048576) :
    Calls Tryz.prog 13 #[.slice A len cap] w fun e w' => ∃ (k s : ByteArray), e = .returned (.tuple #[.string k, .string s]) ∧ k.size ≤ 1000 ∧ s.size ≤ 1000 ∧ Below w.heap.size w w' := by
  have H := Lib.hid hcode
  clear hcode
  go_enter Tryz.func13, Tryz.ntmps13
  go_wp2_with fail
  refine (new_any _ _ _ _ H.out hl).mono ?_; rintro e w1 ⟨g, rfl, hc1, hb1⟩
  go_wp2_with fail
  refine (odd_any _ _ _ _ _ _ hc1).mono ?_; rintro e w2 ⟨k, rfl, hk, hc2, hg2⟩
  have HX := Lib.hid hk
  clear hk
  go_wp2_with fail
  refine (block_any _ _ _ _ _ _ hc2).mono ?_; rintro e w3 ⟨s, rfl, hs, hc3, hg3⟩
  have HU := Lib.hid hs
  clear hs
  go_wp2
  go_ret2
  exact ⟨_, _, rfl, HX.out, HU.out, below_only hb1 (only_trans hg2 hg3) hc1.1 hb1.size⟩
theorem facts_FnWords {W : World} (h : laidMetH Tryz.prog Rows.fnWordsRow.laid W) : Fac4 W 0 mxF ∧ Fac4 W 1 unF := by
  have h' : laidMet Tryz.prog [("loop.example/g00835/impl.unmixFactors", Lib.tabData .u8 [14, 9, 13, 11]), ("loop.example/g00835/impl.mixFactors", Lib.tabData .u8 [2, 1, 1, 3])] W := h
  exact ⟨Mx8_laid (laid_tail8 h'), Un8_laid h'⟩
theorem lockT_16w (k s : ByteArray) (hk : kOk k) (hs : s.size = 16) : (lockT k s).size = 16 := by rw [lockT_yes k s hk hs]; exact lockS_size _ _ _
theorem unlock_lockTw (k s : ByteArray) (hk : kOk k) (hs : s.size = 16) : unlockT k (lockT k s) = s := by
  rw [unlockT_yes k _ hk (lockT_16w k s hk hs), lockT_yes k s hk hs]; exact unlock_lock _ _ _ hs
theorem some_textw (s : ByteArray) (h : 0 < s.size) : s.toList.isEmpty = false := by
  rw [ByteArray.toList_eq, List.isEmpty_eq_false_iff]
  intro e
  have h2 : s.data.toList.length = s.size := by simp
  rw [e] at h2
  have h3 : (0 : Nat) = s.size := h2
  omega
set_option maxRecDepth 100000 in
set_option maxHeartbeats 3200000 in
theorem walk_FnWords (a0 : Option Addr) (len0 cap0 : Nat) (z0 : List Int) (w : World) (w0 : IsRow .u8 w a0 len0 cap0 z0) (hf : Fac4 w 0 mxF ∧ Fac4 w 1 unF) :
    Calls Tryz.prog 3 #[.slice a0 len0 cap0] w fun e w' => e = .returned (.bool true) ∧ Below w.heap.size w w' := by
  obtain ⟨hcode, hlen⟩ := w0.code
  clear w0
  by_cases hl : len0 ≤ 1048576
  · have H := Lib.hid hcode
    have HF : Hid (∀ W, Below w.heap.size w W → Fac4 W 0 mxF) := Lib.hid (fun W hW => hf.1.below hW hf.1.1)
    have HU : Hid (∀ W, Below w.heap.size w W → Fac4 W 1 unF) := Lib.hid (fun W hW => hf.2.below hW hf.2.1)
    clear hcode hf
    go_enter Tryz.func3, Tryz.ntmps3
    go_wp2_with fail
    refine (big_small _ _ _ _ hl).mono ?_; rintro e w' ⟨rfl, rfl⟩
    go_wp2_with fail
    refine (draw_LockTable _ _ _ _ H.out hl).mono ?_; rintro e w1 ⟨k, s, rfl, hks, hss, hb1⟩
    have HC := Lib.hid ((H.out.below hb1 (Nat.le_refl _)).up hb1.size)
    go_wp2_with fail
    refine (draw_UnlockTable _ _ _ _ HC.out hl).mono ?_; rintro e w3 ⟨k2, t, rfl, hks2, hts, hb3⟩
    have hbb := hb1.trans (hb3.mono hb1.size)
    clear hb1 hb3 HC
    have c1 := fun W hW => Lib.hid (LockTable_impl k s W (HF.out W hW))
    have c2 := fun W hW => Lib.hid (UnlockTable_impl k2 t W (HU.out W hW))
    have c3 := fun W => Lib.hid (Lock_spec k s W)
    have c4 := fun W => Lib.hid (Unlock_spec k2 t W)
    have c5 := fun W hW => Lib.hid (Lock_impl k s W (HF.out W hW))
    obtain ⟨x, hx⟩ : ∃ x, lockT k s = x := ⟨_, rfl⟩
    obtain ⟨y, hy⟩ : ∃ y, unlockT k2 t = y := ⟨_, rfl⟩
    rw [hx] at c1 c3 c5
    rw [hy] at c2 c4
    go_wp2_with fail
    refine (c1 _ hbb).out.mono ?_; rintro e wq ⟨rfl, hq⟩
    replace hbb := hbb.trans (hq.mono hbb.size)
    clear hq
    go_wp2_with fail
    refine (c2 _ hbb).out.mono ?_; rintro e wq ⟨rfl, hq⟩
    replace hbb := hbb.trans (hq.mono hbb.size)
    clear hq
    go_wp2_with fail
    refine (c3 _).out.mono ?_; rintro e wq ⟨rfl, hq⟩
    replace hbb := hbb.trans (hq.mono hbb.size)
    clear hq
    go_wp2_with fail
    refine (c4 _).out.mono ?_; rintro e wq ⟨rfl, hq⟩
    replace hbb := hbb.trans (hq.mono hbb.size)
    clear hq
    go_wp2_with fail
    refine (c5 _ hbb).out.mono ?_; rintro e wq ⟨rfl, hq⟩
    replace hbb := hbb.trans (hq.mono hbb.size)
    clear hq
    by_cases hk : kOk k ∧ s.size = 16
    · have hx16 : x.size = 16 := by rw [← hx]; exact lockT_16w k s hk.1 hk.2
      have hxe := some_textw x (by omega)
      have c6 := fun W hW => Lib.hid (UnlockTable_impl k x W (HU.out W hW))
      have e6 : unlockT k x = s := by rw [← hx]; exact unlock_lockTw k s hk.1 hk.2
      rw [e6] at c6
      clear hx hy hk hx16 hks hss hks2 hts e6
      go_wp2_with fail
      refine (c6 _ hbb).out.mono ?_; rintro e wq ⟨rfl, hq⟩
      replace hbb := hbb.trans (hq.mono hbb.size)
      clear hq
      go_wp2
      go_ret
      exact ⟨rfl, hbb⟩
    · have hxe : x = ⟨#[]⟩ := by rw [← hx]; exact lockT_no k s hk
      subst hxe
      clear hx hy hk hks hss hks2 hts
      go_wp2
      go_ret
      exact ⟨rfl, hbb⟩
  · go_enter Tryz.func3, Tryz.ntmps3
    go_wp2_with fail
    refine (big_great _ _ _ _ (by omega) hlen).mono ?_; rintro e w' ⟨rfl, rfl⟩
    go_wp2
    go_ret
    exact ⟨rfl, Below.refl _ _⟩
end Go.Proofs.YtkklkcajllpjpaaGreatDoor
