/-
  The walk of laws.FnOther: a block of which one bit is another one.
-/
import Derived.Test.YtipcgdhjlpjcaaaDoorLockLaid
import Derived.Test.YtipcgdhjlpjcaaaDoorLockM
import Derived.Test.YtipcgdhjlpjcaaaDoorPassH
import Derived.Test.YtipcgdhjlpjcaaaDoorLockT
import Derived.Test.YtipcgdhjlpjcaaaDoorBRow
import Derived.Test.YtipcgdhjlpjcaaaDoorBlk16
import Derived.Test.YtipcgdhjlpjcaaaDoorOnes
import Derived.Test.YtipcgdhjlpjcaaaDoorSums
import Derived.Deep.RegionHeld3
import Derived.StillTailTactics
set_option linter.unusedVariables false
set_option linter.unusedSimpArgs false
namespace Go.Proofs.YtipcgdhjlpjcaaaDoor
open Go.RowKit

theorem set_ne (s : ByteArray) (q : Nat) (c : UInt8) (hq : q < s.size) (hc : ¬ c = 0) : (⟨(s.data.toList.set q (byteOf s q ^^^ c)).toArray⟩ : ByteArray) ≠ s := by
  intro h
  have h2 := congrArg (fun b => byteOf b q) h
  have hl : q < s.data.toList.length := by simpa using hq
  have h3 : byteOf ⟨(s.data.toList.set q (byteOf s q ^^^ c)).toArray⟩ q = byteOf s q ^^^ c := by
    unfold byteOf
    rw [List.getD_eq_getElem?_getD]
    show ((s.data.toList.set q _)[q]?).getD 0 = _
    rw [List.getElem?_set_self hl]; rfl
  have h4 : byteOf s q ^^^ c = byteOf s q := h3.symm.trans h2
  apply hc
  have h5 : byteOf s q ^^^ (byteOf s q ^^^ c) = byteOf s q ^^^ byteOf s q := by rw [h4]
  rwa [← x_assoc, x_self, zero_x] at h5
theorem facts_FnOther {W : World} (h : laidMetH Tryd.prog Rows.fnOtherRow.laid W) : MxF W := mxf_laid h
set_option maxRecDepth 100000 in
set_option maxHeartbeats 1600000 in
theorem walk_FnOther (a0 : Option Addr) (len0 cap0 : Nat) (z0 : List Int) (w : World) (w0 : IsRow .u8 w a0 len0 cap0 z0) (hf : MxF w) :
    Calls Tryd.prog 3 #[.slice a0 len0 cap0] w fun e w' => e = .returned (.bool true) ∧ Below w.heap.size w w' := by
  obtain ⟨hcode, hlen⟩ := w0.code
  clear w0
  by_cases hl : len0 ≤ 1048576
  · have H := Lib.hid hcode
    have HF : Hid (∀ W, Below w.heap.size w W → MxF W) := Lib.hid (fun W hW => hf.below hW (Nat.le_refl _))
    clear hcode hf
    go_enter Tryd.func3, Tryd.ntmps3
    go_wp2_with fail
    refine (big_small _ _ _ _ hl).mono ?_; rintro e w' ⟨rfl, rfl⟩
    go_wp2_with fail
    refine (aKey_any _ _ _ _ H.out hl).mono ?_; rintro e w1 ⟨key, rfl, hk, hb1⟩
    have HC := Lib.hid ((H.out.below hb1 (Nat.le_refl _)).up hb1.size)
    go_wp2_with fail
    refine (bytes_law 40 16 (by omega) _ _ _ _ HC.out hl).mono ?_; rintro e w2 ⟨s, rfl, hs, hb2⟩
    have HB2 := Lib.hid (hb1.trans (hb2.mono hb1.size))
    have HC2 := Lib.hid ((H.out.below HB2.out (Nat.le_refl _)).up HB2.out.size)
    go_wp2_with fail
    refine (at_any 0 (by omega) _ _ _ _ HC2.out hl).mono ?_; rintro e w' ⟨⟨x, rfl, hx⟩, rfl⟩
    obtain ⟨cap, w3, hconv, hbr, hb3⟩ := bytes_brow s w2
    have hsl : s.data.toList.length = 16 := by rw [← hs]; simp
    rw [hs] at hconv
    have HB3 := Lib.hid (HB2.out.trans (hb3.mono HB2.out.size))
    obtain ⟨m, hm⟩ : ∃ m, x % 128 = m := ⟨_, rfl⟩
    obtain ⟨q, hq⟩ : ∃ q, m / 8 = q := ⟨_, rfl⟩
    obtain ⟨k, hk8⟩ : ∃ k, m % 8 = k := ⟨_, rfl⟩
    have em : (x : Int).tmod 128 = (m : Int) := by rw [Int.tmod_eq_emod_of_nonneg (by omega)]; omega
    have eq : (m : Int).tdiv 8 = (q : Int) := by rw [Int.tdiv_eq_ediv_of_nonneg (by omega)]; omega
    have ek : (m : Int).tmod 8 = (k : Int) := by rw [Int.tmod_eq_emod_of_nonneg (by omega)]; omega
    have hq16 : q < 16 := by omega
    have hq1 : (q : Int) < 16 := by omega
    have hq0 : (0 : Int) ≤ (q : Int) := by omega
    have hkk : k < 8 := by omega
    have hk1 : (k : Int) < 8 := by omega
    have hk0 : (0 : Int) ≤ (k : Int) := by omega
    have hcell : w3.cell? ⟨w2.heap.size, q, none⟩ = some (.int .u8 ((byteOf s q).toNat : Int)) := by
      have h2 : q < s.data.toList.length := by rw [hsl]; exact hq16
      refine (hbr.cells q h2).trans ?_
      rw [show s.data.toList[q] = byteOf s q by unfold byteOf; rw [List.getD_eq_getElem?_getD, List.getElem?_eq_getElem h2]; rfl]
      rfl
    have hfr := hbr.free q (by rw [hsl]; exact hq16)
    obtain ⟨c, hc⟩ : ∃ c, UInt8.ofNat (2 ^ k) = c := ⟨_, rfl⟩
    have hcv : (c.toNat : Int) = 2 ^ k % 256 := by rw [← hc, UInt8.toNat_ofNat']; simp
    have hcn : ¬ c = 0 := by rw [← hc]; exact bit_ne_all ⟨k, hkk⟩
    have hX := u8_x (byteOf s q) c
    have hne : (⟨(s.data.toList.set q (byteOf s q ^^^ c)).toArray⟩ : ByteArray) ≠ s := set_ne s q c (by omega) hcn
    have hbs : BRow (w3.setCell ⟨w2.heap.size, q, none⟩ (.int .u8 (bits .xor .u8 ((byteOf s q).toNat : Int) (2 ^ k % 256)))) w2.heap.size (s.data.toList.set q (byteOf s q ^^^ c)) := by
      have h := hbr.set q (by rw [hsl]; exact hq16) (byteOf s q ^^^ c)
      rw [cell8, ← hX, hcv] at h
      exact h
    have hb4 : Below w.heap.size w (w3.setCell ⟨w2.heap.size, q, none⟩ (.int .u8 (bits .xor .u8 ((byteOf s q).toNat : Int) (2 ^ k % 256)))) := HB3.out.setCell (p := ⟨w2.heap.size, q, none⟩) HB2.out.size _
    have hl2 : (s.data.toList.set q (byteOf s q ^^^ c)).length = 16 := by rw [List.length_set]; exact hsl
    clear hm hq hk8 hx hX hcv hcn hc
    go_wp2
    obtain ⟨W4, hW4⟩ : ∃ W4, w3.setCell ⟨w2.heap.size, q, none⟩ (.int .u8 (bits .xor .u8 ((byteOf s q).toNat : Int) (2 ^ k % 256))) = W4 := ⟨_, rfl⟩
    rw [hW4] at hbs hb4 ⊢
    have BR4 := Lib.hid hbs
    have HB4 := Lib.hid hb4
    obtain ⟨l2, hll⟩ : ∃ l2, s.data.toList.set q (byteOf s q ^^^ c) = l2 := ⟨_, rfl⟩
    rw [hll] at BR4 hl2 hne
    obtain ⟨t, ht⟩ : ∃ t : ByteArray, (⟨l2.toArray⟩ : ByteArray) = t := ⟨_, rfl⟩
    rw [ht] at hne
    have ht16 : t.size = 16 := by rw [← ht]; show l2.toArray.size = 16; simpa using hl2
    have HCV : Hid (∀ W, BRow W w2.heap.size l2 → (convert 22 9 (.slice (some ⟨w2.heap.size, 0, none⟩) 16 cap)).run Tryd.prog W = .ok (.string t) W) := Lib.hid (fun W h => by rw [← ht]; exact h.conv hl2)
    have CB := HCV.out W4.drew ⟨BR4.out.lt, BR4.out.cells, BR4.out.free⟩
    obtain ⟨n, hn⟩ := hk.of
    obtain ⟨x1, hx1⟩ : ∃ x1, lockT key s = x1 := ⟨_, rfl⟩
    obtain ⟨y1, hy1⟩ : ∃ y1, lockT key t = y1 := ⟨_, rfl⟩
    have hx16 : x1.size = 16 := by rw [← hx1, lockT_yes key s hk hs]; exact lockS_size _ _ _
    have hy16 : y1.size = 16 := by rw [← hy1, lockT_yes key t hk ht16]; exact lockS_size _ _ _
    have hxy : x1 ≠ y1 := fun e => by
      rw [← hx1, ← hy1, lockT_yes key s hk hs, lockT_yes key t hk ht16] at e
      exact hne (lock_inj _ _ s t hs ht16 e).symm
    have hback : unlockT key y1 = t := by
      rw [← hy1, unlockT_yes key _ hk (by rw [hy1]; exact hy16), lockT_yes key t hk ht16]; exact unlock_lock _ _ _ ht16
    have C1 := fun W hW => Lib.hid (Lock_impl key s W hW)
    have C2 := fun W hW => Lib.hid (Lock_impl key t W hW)
    have C3 := fun W => Lib.hid (Lock_spec key s W)
    have C4 := fun W => Lib.hid (Lock_spec key t W)
    have C7 := fun W hW => Lib.hid (Unlock_impl key y1 W hW)
    rw [hx1] at C1 C3
    rw [hy1] at C2 C4
    rw [hback] at C7
    obtain ⟨z, hz⟩ : ∃ z, xorS x1 y1 = z := ⟨_, rfl⟩
    have hz16 : z.size = 16 := by rw [← hz]; exact xorS_size _ _
    have C5 := fun W => Lib.hid (xor16_impl x1 y1 z hx16 hy16 hz W)
    have C6 := fun W => Lib.hid (ones_impl z W (by omega))
    have hon : 0 < ones z.data.toList := by
      have h := ones_pos x1 y1 hx16 hy16 hxy
      have e : xorOf x1 y1 = z.data.toList := by rw [← hz, ← xorOf_S x1 y1 hx16 hy16]
      rwa [e] at h
    generalize ones z.data.toList = on at *
    have hxyb : (x1.toList == y1.toList) = false := by
      rw [ByteArray.toList_eq, ByteArray.toList_eq]
      exact beq_eq_false_iff_ne.2 (fun e => hxy (ByteArray.ext (Array.toList_inj.1 e)))
    clear hW4 hbs hb4 hll ht hne hx1 hy1 hz hx16 hy16 hz16 ht16 hback hn hbr hb1 hb2 hb3 HC HC2 HB3 hcell hfr hconv hl2 H hsl hs hk eq em ek hq16 hq1 hq0 hkk hk1 hk0 hxy
    refine wp_region_held_drew (S := fun W => (convert 22 9 (.slice (some ⟨w2.heap.size, 0, none⟩) 16 cap)).run Tryd.prog W = .ok (.string t) W) (by kernel_rfl) CB (fun hHeld => ?_)
    refine wpAnyH_take (i := 0) (v := ?_) rfl (by kernel_rfl) (by kernel_rfl) (by kernel_rfl) (fun _ _ _ h => h) (Or.inl ⟨by kernel_rfl, ?_⟩) hHeld ?_
    rotate_left
    · intro w hSw
      go_simp
      first | done | with_reducible rfl
    try simp only [List.getElem_toArray, List.getElem_cons_succ, List.getElem_cons_zero, Act.put, List.setIfInBounds_toArray, List.set_cons_zero, List.set_cons_succ]
    refine wpAnyH_take (i := 1) (v := ?_) rfl (by kernel_rfl) (by kernel_rfl) (by kernel_rfl) (fun _ _ _ h => h) (Or.inl ⟨by kernel_rfl, ?_⟩) hHeld ?_
    rotate_left
    · intro w hSw
      go_simp
      first | done | with_reducible rfl
    try simp only [List.getElem_toArray, List.getElem_cons_succ, List.getElem_cons_zero, Act.put, List.setIfInBounds_toArray, List.set_cons_zero, List.set_cons_succ]
    refine wpAnyH_take (i := 3) (v := ?_) rfl (by kernel_rfl) (by kernel_rfl) (by kernel_rfl) (fun _ _ _ h => h) (Or.inl ⟨by kernel_rfl, ?_⟩) hHeld ?_
    rotate_left
    · intro w hSw
      go_simp
      first | done | with_reducible rfl
    try simp only [List.getElem_toArray, List.getElem_cons_succ, List.getElem_cons_zero, Act.put, List.setIfInBounds_toArray, List.set_cons_zero, List.set_cons_succ]
    refine wpAnyH_take (i := 4) (v := ?_) rfl (by kernel_rfl) (by kernel_rfl) (by kernel_rfl) (fun _ _ _ h => h) (Or.inl ⟨by kernel_rfl, ?_⟩) hHeld ?_
    rotate_left
    · intro w hSw
      go_simp
      first | done | with_reducible rfl
    try simp only [List.getElem_toArray, List.getElem_cons_succ, List.getElem_cons_zero, Act.put, List.setIfInBounds_toArray, List.set_cons_zero, List.set_cons_succ]
    refine wpAnyH_take (i := 5) (v := ?_) rfl (by kernel_rfl) (by kernel_rfl) (by kernel_rfl) (fun _ _ _ h => h) (Or.inl ⟨by kernel_rfl, ?_⟩) hHeld ?_
    rotate_left
    · intro w hSw
      go_simp
      first | done | with_reducible rfl
    try simp only [List.getElem_toArray, List.getElem_cons_succ, List.getElem_cons_zero, Act.put, List.setIfInBounds_toArray, List.set_cons_zero, List.set_cons_succ]
    refine wpAnyH_ready (rs := [2]) (by kernel_rfl) (by simp) ?_
    refine AllReadyH.cons rfl (fun K hK => ?_) AllReadyH.nil
    go_simp
    refine (C1 _ (HF.out _ HB4.out.drew)).out.mono ?_; rintro e w5 ⟨rfl, hb5⟩
    have HB5 := Lib.hid (HB4.out.drew.trans (hb5.mono HB4.out.size))
    have BR5 := Lib.hid ((⟨BR4.out.lt, BR4.out.cells, BR4.out.free⟩ : BRow W4.drew _ _).below hb5)
    clear hb5
    refine hK.out _ _ (HCV.out w5 BR5.out) (fun hHeld2 => ?_)
    clear hK K
    try simp only [List.getElem_toArray, List.getElem_cons_succ, List.getElem_cons_zero, Act.put, List.setIfInBounds_toArray, List.set_cons_zero, List.set_cons_succ]
    refine wpAnyH_ready (rs := [6]) (by kernel_rfl) (by simp) ?_
    refine AllReadyH.cons rfl (fun K hK => ?_) AllReadyH.nil
    go_simp
    refine (C2 _ (HF.out _ HB5.out)).out.mono ?_; rintro e w6 ⟨rfl, hb6⟩
    have HB6 := Lib.hid (HB5.out.trans (hb6.mono HB5.out.size))
    have BR6 := Lib.hid (BR5.out.below hb6)
    clear hb6
    refine hK.out _ _ (HCV.out w6 BR6.out) (fun hHeld3 => ?_)
    clear hK K
    try simp only [List.getElem_toArray, List.getElem_cons_succ, List.getElem_cons_zero, Act.put, List.setIfInBounds_toArray, List.set_cons_zero, List.set_cons_succ]
    refine wpAnyH_take (i := 7) (v := ?_) rfl (by kernel_rfl) (by kernel_rfl) (by kernel_rfl) (fun _ _ _ h => h) (Or.inl ⟨by kernel_rfl, ?_⟩) hHeld3 ?_
    rotate_left
    · intro w hSw
      go_simp
      first | done | with_reducible rfl
    try simp only [List.getElem_toArray, List.getElem_cons_succ, List.getElem_cons_zero, Act.put, List.setIfInBounds_toArray, List.set_cons_zero, List.set_cons_succ]
    refine wpAnyH_take (i := 8) (v := ?_) rfl (by kernel_rfl) (by kernel_rfl) (by kernel_rfl) (fun _ _ _ h => h) (Or.inl ⟨by kernel_rfl, ?_⟩) hHeld3 ?_
    rotate_left
    · intro w hSw
      go_simp
      first | done | with_reducible rfl
    try simp only [List.getElem_toArray, List.getElem_cons_succ, List.getElem_cons_zero, Act.put, List.setIfInBounds_toArray, List.set_cons_zero, List.set_cons_succ]
    refine wpAnyH_done (by kernel_rfl) ?_ _
    clear hHeld hHeld2 hHeld3 CB
    go_wp2_with fail
    refine (C3 _).out.mono ?_; rintro e w7 ⟨rfl, hb7⟩
    have HB7 := Lib.hid (HB6.out.trans (hb7.mono HB6.out.size))
    have BR7 := Lib.hid (BR6.out.below hb7)
    have CV7 := HCV.out w7 BR7.out
    clear hb7
    go_wp2_with fail
    refine (C4 _).out.mono ?_; rintro e w8 ⟨rfl, hb8⟩
    have HB8 := Lib.hid (HB7.out.trans (hb8.mono HB7.out.size))
    have BR8 := Lib.hid (BR7.out.below hb8)
    have CV8 := HCV.out w8.drew ⟨BR8.out.lt, BR8.out.cells, BR8.out.free⟩
    have BRN : Hid (BRow w8.drew w2.heap.size l2) := Lib.hid ⟨BR8.out.lt, BR8.out.cells, BR8.out.free⟩
    have HBN : Hid (Below w.heap.size w w8.drew) := Lib.hid HB8.out.drew
    clear hb8 CV7
    go_wp2
    go_region_held3 (fun W => (convert 22 9 (.slice (some ⟨w2.heap.size, 0, none⟩) 16 cap)).run Tryd.prog W = .ok (.string t) W)
      (first
        | assumption
        | exact HCV.out _ (BRN.out.below d1)
        | exact HCV.out _ ((BRN.out.below d1).below d2))
      (first
        | (go_at_call 16; refine (C5 _).out.mono ?_; rintro e y1 ⟨rfl, d1⟩)
        | (go_at_call 15; refine (C6 _).out.mono ?_; rintro e w' ⟨rfl, rfl⟩)
        | (go_at_call 17; refine (C7 _ (HF.out _ (HBN.out.trans (d1.mono HBN.out.size)))).out.mono ?_; rintro e y2 ⟨rfl, d2⟩))
    go_wp2
    go_ret
    have e1 := HBN.out.trans (d1.mono HBN.out.size)
    exact ⟨rfl, e1.trans (d2.mono e1.size)⟩
  · go_enter Tryd.func3, Tryd.ntmps3
    go_wp2_with fail
    refine (big_great _ _ _ _ (by omega) hlen).mono ?_; rintro e w' ⟨rfl, rfl⟩
    go_wp2
    go_ret
    exact ⟨rfl, Below.refl _ _⟩
end Go.Proofs.YtipcgdhjlpjcaaaDoor
