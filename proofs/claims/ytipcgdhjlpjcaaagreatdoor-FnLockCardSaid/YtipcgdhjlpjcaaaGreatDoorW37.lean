/-
  The walk of laws.FnLock.
-/
import Derived.Test.YtipcgdhjlpjcaaaGreatDoorLockLaid
import Derived.Test.YtipcgdhjlpjcaaaGreatDoorLockDraw
import Derived.Test.YtipcgdhjlpjcaaaGreatDoorPassH
import Derived.Test.YtipcgdhjlpjcaaaGreatDoorLockT
set_option linter.unusedVariables false
set_option linter.unusedSimpArgs false
namespace Go.Proofs.YtipcgdhjlpjcaaaGreatDoor
open Go.RowKit

theorem facts_FnLock {W : World} (h : laidMetH Tryz.prog Rows.fnLockRow.laid W) : MxF W := mxf_laid h
theorem lockT_16 (k s : ByteArray) (hk : kOk k) (hs : s.size = 16) : (lockT k s).size = 16 := by rw [lockT_yes k s hk hs]; exact lockS_size _ _ _
theorem unlock_lockT (k s : ByteArray) (hk : kOk k) (hs : s.size = 16) : unlockT k (lockT k s) = s := by
  rw [unlockT_yes k _ hk (lockT_16 k s hk hs), lockT_yes k s hk hs]; exact unlock_lock _ _ _ hs
theorem lock_unlockT (k s : ByteArray) (hk : kOk k) (hs : s.size = 16) : lockT k (unlockT k s) = s := by
  rw [unlockT_yes k s hk hs, lockT_yes k _ hk (unlockS_size _ _ _)]; exact lock_unlock _ _ _ hs
theorem some_text (s : ByteArray) (h : 0 < s.size) : s.toList.isEmpty = false := by
  rw [ByteArray.toList_eq, List.isEmpty_eq_false_iff]
  intro e
  have h2 : s.data.toList.length = s.size := by simp
  rw [e] at h2
  have h3 : (0 : Nat) = s.size := h2
  omega
set_option maxRecDepth 100000 in
set_option maxHeartbeats 3200000 in
theorem walk_FnLock (a0 : Option Addr) (len0 cap0 : Nat) (z0 : List Int) (w : World) (w0 : IsRow .u8 w a0 len0 cap0 z0) (hf : MxF w) :
    Calls Tryz.prog 3 #[.slice a0 len0 cap0] w fun e w' => e = .returned (.bool true) ∧ Below w.heap.size w w' := by
  obtain ⟨hcode, hlen⟩ := w0.code
  clear w0
  by_cases hl : len0 ≤ 1048576
  · have H := Lib.hid hcode
    have HF : Hid (∀ W, Below w.heap.size w W → MxF W) := Lib.hid (fun W hW => hf.below hW (Nat.le_refl _))
    clear hcode hf
    go_enter Tryz.func3, Tryz.ntmps3
    go_wp2_with fail
    refine (big_small _ _ _ _ hl).mono ?_; rintro e w' ⟨rfl, rfl⟩
    go_wp2_with fail
    refine (draw_Lock _ _ _ _ H.out hl).mono ?_; rintro e w1 ⟨k, s, rfl, hks, hss, hb1⟩
    have HC := Lib.hid ((H.out.below hb1 (Nat.le_refl _)).up hb1.size)
    have c1 := fun W hW => Lib.hid (Lock_impl k s W (HF.out W hW))
    have c3 := fun W => Lib.hid (Lock_spec k s W)
    obtain ⟨x, hx⟩ : ∃ x, lockT k s = x := ⟨_, rfl⟩
    rw [hx] at c1 c3
    go_wp2_with fail
    refine (c1 _ hb1).out.mono ?_; rintro e w2 ⟨rfl, hb2⟩
    have hb12 := hb1.trans (hb2.mono hb1.size)
    have HC2 := Lib.hid ((H.out.below hb12 (Nat.le_refl _)).up hb12.size)
    go_wp2_with fail
    refine (draw_Unlock _ _ _ _ HC2.out hl).mono ?_; rintro e w3 ⟨k2, t, rfl, hks2, hts, hb3⟩
    have hbb := hb12.trans (hb3.mono hb12.size)
    clear hb1 hb2 hb3 hb12 HC HC2
    have c2 := fun W hW => Lib.hid (Unlock_impl k2 t W (HF.out W hW))
    have c4 := fun W => Lib.hid (Unlock_spec k2 t W)
    obtain ⟨y, hy⟩ : ∃ y, unlockT k2 t = y := ⟨_, rfl⟩
    rw [hy] at c2 c4
    have CK := fun W => Lib.hid (KeyOk_spec k W)
    go_wp2_with fail
    refine (c2 _ hbb).out.mono ?_; rintro e wq ⟨rfl, hq⟩
    replace hbb := hbb.trans (hq.mono hbb.size)
    clear hq
    go_wp2_with fail
    refine (c3 _).out.mono ?_; rintro e wq ⟨rfl, hq⟩
    replace hbb := hbb.trans (hq.mono hbb.size)
    clear hq
    go_wp2_with fail
    refine (c4 _).out.mono ?_; rintro e wq ⟨rfl, hq⟩
    replace hbb := hbb.trans (hq.mono hbb.size)
    clear hq
    by_cases hk : kOk k
    · rw [decide_eq_true hk] at CK
      by_cases hs : s.size = 16
      · have hs2 : (s.size : Int) = 16 := by omega
        have hx16 : x.size = 16 := by rw [← hx]; exact lockT_16 k s hk hs
        have hx162 : (x.size : Int) = 16 := by omega
        have c5 := fun W hW => Lib.hid (Unlock_impl k x W (HF.out W hW))
        have e5 : unlockT k x = s := by rw [← hx]; exact unlock_lockT k s hk hs
        rw [e5] at c5
        by_cases hy0 : kOk k2 ∧ t.size = 16
        · have c6 := fun W hW => Lib.hid (Lock_impl k2 y W (HF.out W hW))
          have e6 : lockT k2 y = t := by rw [← hy]; exact lock_unlockT k2 t hy0.1 hy0.2
          rw [e6] at c6
          have hy16 : y.size = 16 := by rw [← hy, unlockT_yes k2 t hy0.1 hy0.2]; exact unlockS_size _ _ _
          have hye := some_text y (by omega)
          clear hx hy hk hs hy0 e5 e6 hx16 hks hss hks2 hts hy16
          go_wp2_with fail
          refine (CK _).out.mono ?_; rintro e wq ⟨rfl, rfl⟩
          go_wp2_with fail
          refine (c5 _ hbb).out.mono ?_; rintro e wq ⟨rfl, hq⟩
          replace hbb := hbb.trans (hq.mono hbb.size)
          clear hq
          go_wp2_with fail
          refine (c6 _ hbb).out.mono ?_; rintro e wq ⟨rfl, hq⟩
          replace hbb := hbb.trans (hq.mono hbb.size)
          clear hq
          go_wp2
          go_ret
          exact ⟨rfl, hbb⟩
        · have hye : y = ⟨#[]⟩ := by rw [← hy]; exact unlockT_no k2 t hy0
          subst hye
          clear hx hy hk hs hy0 e5 hx16 hks hss hks2 hts
          go_wp2_with fail
          refine (CK _).out.mono ?_; rintro e wq ⟨rfl, rfl⟩
          go_wp2_with fail
          refine (c5 _ hbb).out.mono ?_; rintro e wq ⟨rfl, hq⟩
          replace hbb := hbb.trans (hq.mono hbb.size)
          clear hq
          go_wp2
          go_ret
          exact ⟨rfl, hbb⟩
      · have hs2 : ¬ (s.size : Int) = 16 := by omega
        have hxe : x = ⟨#[]⟩ := by rw [← hx]; exact lockT_no k s (fun h => hs h.2)
        subst hxe
        clear hx hy hk hs hks hss hks2 hts
        go_wp2_with fail
        refine (CK _).out.mono ?_; rintro e wq ⟨rfl, rfl⟩
        go_wp2
        go_ret
        exact ⟨rfl, hbb⟩
    · rw [decide_eq_false hk] at CK
      have hxe : x = ⟨#[]⟩ := by rw [← hx]; exact lockT_no k s (fun h => hk h.1)
      subst hxe
      clear hx hy hk hks hss hks2 hts
      go_wp2_with fail
      refine (CK _).out.mono ?_; rintro e wq ⟨rfl, rfl⟩
      go_wp2
      go_ret
      exact ⟨rfl, hbb⟩
  · go_enter Tryz.func3, Tryz.ntmps3
    go_wp2_with fail
    refine (big_great _ _ _ _ (by omega) hlen).mono ?_; rintro e w' ⟨rfl, rfl⟩
    go_wp2
    go_ret
    exact ⟨rfl, Below.refl _ _⟩
end Go.Proofs.YtipcgdhjlpjcaaaGreatDoor
