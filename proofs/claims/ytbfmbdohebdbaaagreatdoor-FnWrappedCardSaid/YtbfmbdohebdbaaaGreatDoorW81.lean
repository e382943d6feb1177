/-
  The walk of laws.FnWrapped.
-/
import Derived.Test.YtbfmbdohebdbaaaGreatDoorDr15
import Derived.Test.YtbfmbdohebdbaaaGreatDoorChgB
import Derived.Test.YtbfmbdohebdbaaaGreatDoorWrapX
set_option linter.unusedVariables false
set_option linter.unusedSimpArgs false
namespace Go.Proofs.YtbfmbdohebdbaaaGreatDoor
open Go Go.RowKit
attribute [local go_sem ↓] Go.wp_at_zero Go.wp_at_succ

theorem to_8s (s : ByteArray) (h : 8 ≤ s.size) (hs : s.size ≤ 1048576) (W : World) :
    (Instr.slice 9 (.string s) none (some (.int .i64 8)) none).run Tryz.prog W = .ok (.string (s.extract 0 8)) W := by
  rw [run_slice_string_h (P := Tryz.prog) W 9 s Tryz.underlying9 .i64 _ (by omega) (by omega)]
  rfl
theorem wrapped_law (key s : ByteArray) (w : World) :
    Calls Tryz.prog 19 #[.string key, .string s] w fun e w' => e = .returned (.string (wrT key s)) ∧ Below w.heap.size w w' := by
  have H := Lib.hid (Wrap_spec key s w)
  generalize wrT key s = x at *
  generalize wrC key s = y at *
  go_enter Tryz.func19, Tryz.ntmps19
  go_wp2_with fail
  refine H.out.mono ?_; rintro e w1 ⟨rfl, hb1⟩
  go_wp2
  go_ret
  exact ⟨rfl, hb1⟩
set_option maxRecDepth 100000 in
set_option maxHeartbeats 3200000 in
theorem walk_FnWrapped (a0 : Option Addr) (len0 cap0 : Nat) (z0 : List Int) (w : World) (w0 : IsRow .u8 w a0 len0 cap0 z0) (hf : ∃ fa, WFac w fa ∧ Fac4 w 2 unF) :
    Calls Tryz.prog 5 #[.slice a0 len0 cap0] w fun e w' => e = .returned (.bool true) ∧ Below w.heap.size w w' := by
  obtain ⟨hcode, hlen⟩ := w0.code
  clear w0
  obtain ⟨fa, hf, hu⟩ := hf
  have HF : Hid (∀ W, Below w.heap.size w W → WFac W fa) := Lib.hid (fun W hW => hf.up hW)
  have HU : Hid (∀ W, Below w.heap.size w W → Fac4 W 2 unF) := Lib.hid (fun W hW => hu.below hW hu.1)
  clear hf hu
  by_cases hl : len0 ≤ 1048576
  · have H := Lib.hid hcode
    clear hcode
    go_enter Tryz.func5, Tryz.ntmps5
    go_wp2_with fail
    refine (big_small _ _ _ _ hl).mono ?_; rintro e w' ⟨rfl, rfl⟩
    go_wp2_with fail
    refine (aKey_any _ _ _ _ H.out hl).mono ?_; rintro e w1 ⟨key, rfl, hk, hbb⟩
    go_wp2_with fail
    refine (at_any 0 (by omega) _ _ _ _ ((H.out.below hbb (Nat.le_refl _)).up hbb.size) hl).mono ?_; rintro e wq ⟨⟨p0, rfl, hp0⟩, rfl⟩
    obtain ⟨r0, hr0⟩ : ∃ r0, p0 % 4 = r0 := ⟨_, rfl⟩
    have er0 : (p0 : Int).tmod 4 = (r0 : Int) := by rw [Int.tmod_eq_emod_of_nonneg (by omega)]; omega
    have hr4 : (r0 : Int) ≤ 3 := by omega
    have hrz : (0 : Int) ≤ (r0 : Int) := by omega
    have w8 : IntKind.i64.wrap (8 * (r0 : Int)) = 8 * (r0 : Int) := IntWalk.i64_in _ (by omega)
    have w16 : IntKind.i64.wrap (16 + 8 * (r0 : Int)) = 16 + 8 * (r0 : Int) := IntWalk.i64_in _ (by omega)
    have HBY := fun W hW => Lib.hid (bytes_int 40 (16 + 8 * r0) (16 + 8 * (r0 : Int)) (by omega) (by omega) W a0 len0 cap0 hW hl)
    clear hr0
    go_wp2_with fail
    refine (HBY _ ((H.out.below hbb (Nat.le_refl _)).up hbb.size)).out.mono ?_; rintro e w2 ⟨s, rfl, hs, hq⟩
    replace hbb := hbb.trans (hq.mono hbb.size)
    clear hq
    obtain ⟨S, hS⟩ : ∃ S, s.size = S := ⟨_, rfl⟩
    have hS0 : 0 < S := by omega
    have HS : Hid (S = 16 + 8 * r0 ∧ r0 ≤ 3 ∧ s.size = S) := Lib.hid ⟨by omega, by omega, hS⟩
    have hSb : (S : Int) ≤ 64 := by omega
    obtain ⟨cap, w5, hconv, hbr, hb5⟩ := bytes_brow s w2
    have hsl : s.data.toList.length = s.size := rfl
    have HBW := Lib.hid hbb
    replace hbb := hbb.trans (hb5.mono hbb.size)
    rw [hS] at hconv hsl
    have HC := Lib.hid ((H.out.below hbb (Nat.le_refl _)).up hbb.size)
    obtain ⟨p, hp, C1⟩ := at_fix 1 (by omega) w5 a0 len0 cap0 HC.out hl
    obtain ⟨m, hm, C2⟩ := at_fix 2 (by omega) w5 a0 len0 cap0 HC.out hl
    have D1 := Lib.hid (C1 w5 (Below.refl _ _))
    have D2 := Lib.hid (C2 w5.drew (Below.refl _ _).drew)
    obtain ⟨q, hq⟩ : ∃ q, p % S = q := ⟨_, rfl⟩
    have eq : (p : Int).tmod (S : Int) = (q : Int) := by rw [Int.tmod_eq_emod_of_nonneg (by omega), ← hq]; rfl
    have hqS : q < S := by rw [← hq]; exact Nat.mod_lt _ hS0
    have hq0 : (0 : Int) ≤ (q : Int) := by omega
    have hq1 : (q : Int) < (S : Int) := by omega
    have hSn : ¬ S = 0 := by omega
    have hSz : ¬ (S : Int) = 0 := by omega
    have hcell : w5.cell? ⟨w2.heap.size, q, none⟩ = some (.int .u8 ((byteOf s q).toNat : Int)) := by
      have h2 : q < s.data.toList.length := by rw [hsl]; exact hqS
      refine (hbr.cells q h2).trans ?_
      rw [show s.data.toList[q] = byteOf s q by unfold byteOf; rw [List.getD_eq_getElem?_getD, List.getElem?_eq_getElem h2]; rfl]
      rfl
    have hfr := hbr.free q (by rw [hsl]; exact hqS)
    obtain ⟨c, hc⟩ : ∃ c, UInt8.ofNat (1 + m % 255) = c := ⟨_, rfl⟩
    have hcv : c.toNat = 1 + m % 255 := by rw [← hc, UInt8.toNat_ofNat']; omega
    have hcn : c ≠ 0 := fun e => by rw [e] at hcv; simp at hcv; omega
    have em : (1 + (m : Int).tmod 255) = (c.toNat : Int) := by rw [Int.tmod_eq_emod_of_nonneg (by omega)]; omega
    have hX : bits .xor .u8 ((byteOf s q).toNat : Int) (c.toNat : Int) = (((byteOf s q).toNat ^^^ c.toNat : Nat) : Int) := by rw [u8_x, UInt8.toNat_xor]
    have hcl := c.toNat_lt
    have hcl2 : (c.toNat : Int) < 256 := by omega
    obtain ⟨W3, hW3⟩ : ∃ W3, (w5.setCell ⟨w2.heap.size, q, none⟩ (.int .u8 (((byteOf s q).toNat ^^^ c.toNat : Nat) : Int))).drew = W3 := ⟨_, rfl⟩
    have HBS : Hid (BRow W3 w2.heap.size (s.data.toList.set q (byteOf s q ^^^ c))) := Lib.hid (by
      have h := hbr.set q (by rw [hsl]; exact hqS) (byteOf s q ^^^ c)
      rw [cell8, UInt8.toNat_xor] at h
      exact hW3 ▸ ⟨h.lt, h.cells, h.free⟩)
    have HB3 : Hid (Below w.heap.size w W3) := Lib.hid (hW3 ▸ (hbb.setCell (p := ⟨w2.heap.size, q, none⟩) HBW.out.size _).drew)
    have HLL : Hid ((s.data.toList.set q (byteOf s q ^^^ c)).length = S) := Lib.hid (by rw [List.length_set]; exact hsl)
    have HCV : Hid (∀ V, Below W3.heap.size W3 V → (convert 22 9 (.slice (some ⟨w2.heap.size, 0, none⟩) S cap)).run Tryz.prog V = .ok (.string (chgB s q c)) V) := Lib.hid (fun V hV => (HBS.out.below hV).conv HLL.out)
    have HCH : Hid ((chgB s q c).size = S ∧ chgB s q c ≠ s) := Lib.hid ⟨by rw [chgB_size]; exact hS, chgB_ne s q c (by omega) hcn⟩
    clear hb5 hbr hsl hq hp C1 C2 hc hcv hcl hbb HBW HLL HBS HC
    go_wp2_with fail
    refine D1.out.mono ?_; intro e w' h1; obtain ⟨rfl, h1⟩ := h1; subst w'
    go_wp2
    refine wp_region_still_tail 13 (by kernel_rfl) (by kernel_rfl) ?_
    simp only [List.take_succ_cons, List.take_zero, List.drop_succ_cons, List.drop_zero]
    still_step
    still_step
    still_step
    still_step
    still_step
    still_step
    still_step
    still_call D2.out
    still_step
    still_step
    still_step
    still_step
    still_step
    refine wpStill_nil ?_
    change wpList _ _ _ _ _ w5.drew
    go_wp2_with fail
    have hbb := HB3.out
    generalize chgB s q c = t at *
    obtain ⟨BG, hBG⟩ : ∃ BG, w2.heap.size = BG := ⟨_, rfl⟩
    simp only [hBG] at HCV ⊢
    have HZ := Lib.hid (Below.refl W3.heap.size W3)
    clear hW3 hX hcell hfr D1 D2 HB3 hBG hconv em eq hcl2 hq0 hq1 hqS hm hcn hS0
    have hws : wrOk key s := ⟨hk, by have := HS.out; omega, by have := HS.out; omega, by have := HS.out; omega⟩
    have hwt : wrOk key t := ⟨hk, by have := HS.out; have := HCH.out.1; omega, by have := HS.out; have := HCH.out.1; omega, by have := HS.out; have := HCH.out.1; omega⟩
    have hxs := wrT_size key s hws
    have hys := wrT_size key t hwt
    have hxy : (( wrT key s).toList == (wrT key t).toList) = false := tx_ne fun e => HCH.out.2 (wrT_inj key t s hwt hws e.symm)
    obtain ⟨hfit, hback⟩ := uw_wrT key t hwt
    have c1 := fun W hW => Lib.hid (Wrap_impl key s fa (by have := HS.out; omega) W hW)
    have c2 := fun W hW => Lib.hid (Wrap_impl key t fa (by have := HS.out; have := HCH.out.1; omega) W hW)
    have c3 := fun W hW hW2 => Lib.hid (Unwrap_impl key (wrT key t) fa (by have := wrT_le key t; omega) W hW hW2)
    have c4 := fun W => Lib.hid (wrapped_law key s W)
    have hx1 : (s ++ (⟨#[120]⟩ : ByteArray)).size = s.size + 1 := by rw [ByteArray.size_append]; rfl
    have c5 := fun W hW => Lib.hid (Wrap_impl key (s ++ ⟨#[120]⟩) fa (by rw [hx1]; have := HS.out; omega) W hW)
    have n5 : ¬ wrOk key (s ++ ⟨#[120]⟩) := fun h => by have := h.2.2.2; rw [hx1] at this; have := HS.out; omega
    have hx8 : (s.extract 0 8).size = 8 := by rw [ByteArray.size_extract]; have := HS.out; omega
    have c6 := fun W hW => Lib.hid (Wrap_impl key (s.extract 0 8) fa (by omega) W hW)
    have n6 : ¬ wrOk key (s.extract 0 8) := fun h => by have := h.2.1; omega
    have hsl := fun W => to_8s s (by have := HS.out; omega) (by have := HS.out; omega) W
    rw [wrC_ok key s hws] at c1
    rw [wrC_ok key t hwt] at c2
    rw [hback, uwC_fit _ _ hfit] at c3
    rw [wrC_len key _ hk n5] at c5
    rw [wrC_len key _ hk n6] at c6
    have hcat : ¬ 9223372036854775807 < s.size + 1 := by have := HS.out; omega
    have hts := HCH.out.1
    generalize wrT key (s ++ ⟨#[120]⟩) = x5 at *
    generalize wrT key (s.extract 0 8) = x6 at *
    obtain ⟨s5, hs5⟩ : ∃ s5, s ++ (⟨#[120]⟩ : ByteArray) = s5 := ⟨_, rfl⟩
    simp only [hs5] at c5
    have HS5 := Lib.hid hs5
    obtain ⟨s6, hs6⟩ : ∃ s6, s.extract 0 8 = s6 := ⟨_, rfl⟩
    simp only [hs6] at c6 hsl
    generalize wrT key s = x at *
    generalize wrT key t = y at *
    have kx : (x.size : Int) = (s.size : Int) + 8 := by omega
    have ky : (y.size : Int) = (s.size : Int) + 8 := by omega
    have ks : (s.size : Int) ≤ 64 := by omega
    clear hws hwt hfit hback hx1 n5 hx8 n6 hk hs5 hs6 hxs hys hS hs
    go_wp2_with fail
    refine ((c1 _ (HF.out _ hbb)).out).mono ?_; rintro e v1 ⟨rfl, hq⟩
    replace hbb := hbb.trans (hq.mono hbb.size)
    have HZ1 := Lib.hid (HZ.out.trans (hq.mono (Nat.le_refl _)))
    have CV1 := HCV.out _ HZ1.out
    clear hq
    go_wp2_with fail
    refine ((c2 _ (HF.out _ hbb)).out).mono ?_; rintro e v2 ⟨rfl, hq⟩
    replace hbb := hbb.trans (hq.mono hbb.size)
    have HZ2 := Lib.hid (HZ1.out.trans (hq.mono HZ1.out.size))
    clear hq CV1
    go_wp2_with fail
    refine ((c3 _ (HF.out _ hbb) (HU.out _ hbb)).out).mono ?_; rintro e v3 ⟨rfl, hq⟩
    replace hbb := hbb.trans (hq.mono hbb.size)
    have HZ3 := Lib.hid (HZ2.out.trans (hq.mono HZ2.out.size))
    clear hq
    go_wp2_with fail
    refine ((c4 _).out).mono ?_; rintro e v4 ⟨rfl, hq⟩
    replace hbb := hbb.trans (hq.mono hbb.size)
    have HZ4 := Lib.hid (HZ3.out.trans (hq.mono HZ3.out.size))
    have CV4 := HCV.out _ HZ4.out
    clear hq
    go_wp2_with fail
    rw [HS5.out]
    refine ((c5 _ (HF.out _ hbb)).out).mono ?_; rintro e v5 ⟨rfl, hq⟩
    replace hbb := hbb.trans (hq.mono hbb.size)
    clear hq CV4
    go_wp2_with fail
    refine ((c6 _ (HF.out _ hbb)).out).mono ?_; rintro e v6 ⟨rfl, hq⟩
    replace hbb := hbb.trans (hq.mono hbb.size)
    clear hq
    go_wp2
    go_ret
    exact ⟨rfl, hbb⟩
  · go_enter Tryz.func5, Tryz.ntmps5
    go_wp2_with fail
    refine (big_great _ _ _ _ (by omega) (by omega)).mono ?_; rintro e w' ⟨rfl, rfl⟩
    go_wp2
    go_ret
    exact ⟨rfl, Below.refl _ _⟩
end Go.Proofs.YtbfmbdohebdbaaaGreatDoor
