/-
  The walk of laws.FnUnwrap.
-/
import Derived.Test.YtbfmbdohebdbaaaGreatDoorDr15
import Derived.Test.YtbfmbdohebdbaaaGreatDoorChgB
import Derived.Test.YtbfmbdohebdbaaaGreatDoorWrapX
set_option linter.unusedVariables false
set_option linter.unusedSimpArgs false
namespace Go.Proofs.YtbfmbdohebdbaaaGreatDoor
open Go Go.RowKit
attribute [local go_sem ↓] Go.wp_at_zero Go.wp_at_succ

theorem kOk_le {k : ByteArray} (h : kOk k) : k.size ≤ 32 := by
  obtain ⟨n, hn⟩ := h.of
  have := hn.1; have := hn.le; omega
set_option maxRecDepth 100000 in
set_option maxHeartbeats 6400000 in
theorem walk_FnUnwrap (a0 : Option Addr) (len0 cap0 : Nat) (z0 : List Int) (w : World) (w0 : IsRow .u8 w a0 len0 cap0 z0) (hf : ∃ fa, WFac w fa ∧ Fac4 w 2 unF) :
    Calls Tryz.prog 4 #[.slice a0 len0 cap0] w fun e w' => e = .returned (.bool true) ∧ Below w.heap.size w w' := by
  obtain ⟨hcode, hlen⟩ := w0.code
  clear w0
  obtain ⟨fa, hf, hu⟩ := hf
  have HF : Hid (∀ W, Below w.heap.size w W → WFac W fa) := Lib.hid (fun W hW => hf.up hW)
  have HU : Hid (∀ W, Below w.heap.size w W → Fac4 W 2 unF) := Lib.hid (fun W hW => hu.below hW hu.1)
  clear hf hu
  by_cases hl : len0 ≤ 1048576
  · have H := Lib.hid hcode
    clear hcode
    go_enter Tryz.func4, Tryz.ntmps4
    go_wp2_with fail
    refine (big_small _ _ _ _ hl).mono ?_; rintro e w' ⟨rfl, rfl⟩
    go_wp2_with fail
    refine (draw_Unwrap _ _ _ _ H.out hl).mono ?_; rintro e w1 ⟨key, s, rfl, hs, hbb⟩
    have c1 := fun W hW hW2 => Lib.hid (Unwrap_impl key s fa (by omega) W hW hW2)
    have c2 := fun W => Lib.hid (Unwrap_spec key s W)
    have hce : ¬ uwC key s = 0 → uwT key s = ⟨#[]⟩ := fun h => by
      by_cases hf : uwFit key s
      · exact absurd (uwC_fit key s hf) h
      · exact uwT_no key s hf
    generalize uwT key s = x at *
    generalize uwC key s = co at *
    clear hs
    go_wp2_with fail
    refine ((c1 _ (HF.out _ hbb) (HU.out _ hbb)).out).mono ?_; rintro e wq ⟨rfl, hq⟩
    replace hbb := hbb.trans (hq.mono hbb.size)
    clear hq
    go_wp2_with fail
    refine ((c2 _).out).mono ?_; rintro e wq ⟨rfl, hq⟩
    replace hbb := hbb.trans (hq.mono hbb.size)
    clear hq
    clear c1 c2
    by_cases h0 : co = 0
    · clear hce
      go_wp2_with fail
      refine (aKey_any _ _ _ _ ((H.out.below hbb (Nat.le_refl _)).up hbb.size) hl).mono ?_; rintro e w2 ⟨k, rfl, hk, hq⟩
      replace hbb := hbb.trans (hq.mono hbb.size)
      clear hq
      go_wp2_with fail
      refine (at_any 0 (by omega) _ _ _ _ ((H.out.below hbb (Nat.le_refl _)).up hbb.size) hl).mono ?_; rintro e wq ⟨⟨p0, rfl, hp0⟩, rfl⟩
      obtain ⟨r0, hr0⟩ : ∃ r0, p0 % 3 = r0 := ⟨_, rfl⟩
      have er0 : (p0 : Int).tmod 3 = (r0 : Int) := by rw [Int.tmod_eq_emod_of_nonneg (by omega)]; omega
      have hr4 : (r0 : Int) ≤ 2 := by omega
      have hrz : (0 : Int) ≤ (r0 : Int) := by omega
      have w8 : IntKind.i64.wrap (8 * (r0 : Int)) = 8 * (r0 : Int) := IntWalk.i64_in _ (by omega)
      have w16 : IntKind.i64.wrap (16 + 8 * (r0 : Int)) = 16 + 8 * (r0 : Int) := IntWalk.i64_in _ (by omega)
      have HBY := fun W hW => Lib.hid (bytes_int 11 (16 + 8 * r0) (16 + 8 * (r0 : Int)) (by omega) (by omega) W a0 len0 cap0 hW hl)
      clear hr0
      go_wp2_with fail
      refine (HBY _ ((H.out.below hbb (Nat.le_refl _)).up hbb.size)).out.mono ?_; rintro e w3 ⟨u, rfl, hu0, hq⟩
      replace hbb := hbb.trans (hq.mono hbb.size)
      clear hq
      have HKS : Hid (k.size ≤ 32) := Lib.hid (kOk_le hk)
      have hwu : wrOk k u := ⟨hk, by omega, by omega, by omega⟩
      have cW := fun W => Lib.hid (Wrap_spec k u W)
      have hys := wrT_size k u hwu
      obtain ⟨y, hy⟩ : ∃ y, wrT k u = y := ⟨_, rfl⟩
      rw [hy] at hys
      simp only [hy] at cW
      generalize wrC k u = cu at *
      obtain ⟨S, hS⟩ : ∃ S, y.size = S := ⟨_, rfl⟩
      have hS0 : 0 < S := by omega
      have HS : Hid (S ≤ 64 ∧ y.size = S) := Lib.hid ⟨by omega, hS⟩
      have hSb : (S : Int) ≤ 64 := by omega
      clear hwu hy hu0 hys hk
      go_wp2_with fail
      refine (cW _).out.mono ?_; rintro e w4 ⟨rfl, hq⟩
      replace hbb := hbb.trans (hq.mono hbb.size)
      clear hq cW
      obtain ⟨cap, w5, hconv, hbr, hb5⟩ := bytes_brow y w4
      have hsl : y.data.toList.length = y.size := rfl
      have HBW := Lib.hid hbb
      replace hbb := hbb.trans (hb5.mono hbb.size)
      rw [hS] at hconv hsl
      have HC := Lib.hid ((H.out.below hbb (Nat.le_refl _)).up hbb.size)
      obtain ⟨p, hp, C1⟩ := at_fix 1 (by omega) w5 a0 len0 cap0 HC.out hl
      obtain ⟨m, hm, C2⟩ := at_fix 2 (by omega) w5 a0 len0 cap0 HC.out hl
      have D1 := Lib.hid (C1 w5 (Below.refl _ _))
      have D2 := Lib.hid (C2 w5.drew (Below.refl _ _).drew)
      obtain ⟨q, hq⟩ : ∃ q, p % S = q := ⟨_, rfl⟩
      have eq : (p : Int).tmod (S : Int) = (q : Int) := by rw [Int.tmod_eq_emod_of_nonneg (by omega), ← hq]; rfl
      have hqS : q < S := by rw [← hq]; exact Nat.mod_lt _ hS0
      have hq0 : (0 : Int) ≤ (q : Int) := by omega
      have hq1 : (q : Int) < (S : Int) := by omega
      have hSn : ¬ S = 0 := by omega
      have hSz : ¬ (S : Int) = 0 := by omega
      have hcell : w5.cell? ⟨w4.heap.size, q, none⟩ = some (.int .u8 ((byteOf y q).toNat : Int)) := by
        have h2 : q < y.data.toList.length := by rw [hsl]; exact hqS
        refine (hbr.cells q h2).trans ?_
        rw [show y.data.toList[q] = byteOf y q by unfold byteOf; rw [List.getD_eq_getElem?_getD, List.getElem?_eq_getElem h2]; rfl]
        rfl
      have hfr := hbr.free q (by rw [hsl]; exact hqS)
      obtain ⟨c, hc⟩ : ∃ c, UInt8.ofNat (1 + m % 255) = c := ⟨_, rfl⟩
      have hcv : c.toNat = 1 + m % 255 := by rw [← hc, UInt8.toNat_ofNat']; omega
      have hcn : c ≠ 0 := fun e => by rw [e] at hcv; simp at hcv; omega
      have em : (1 + (m : Int).tmod 255) = (c.toNat : Int) := by rw [Int.tmod_eq_emod_of_nonneg (by omega)]; omega
      have hX : bits .xor .u8 ((byteOf y q).toNat : Int) (c.toNat : Int) = (((byteOf y q).toNat ^^^ c.toNat : Nat) : Int) := by rw [u8_x, UInt8.toNat_xor]
      have hcl := c.toNat_lt
      have hcl2 : (c.toNat : Int) < 256 := by omega
      obtain ⟨W3, hW3⟩ : ∃ W3, (w5.setCell ⟨w4.heap.size, q, none⟩ (.int .u8 (((byteOf y q).toNat ^^^ c.toNat : Nat) : Int))).drew = W3 := ⟨_, rfl⟩
      have HBS : Hid (BRow W3 w4.heap.size (y.data.toList.set q (byteOf y q ^^^ c))) := Lib.hid (by
        have h := hbr.set q (by rw [hsl]; exact hqS) (byteOf y q ^^^ c)
        rw [cell8, UInt8.toNat_xor] at h
        exact hW3 ▸ ⟨h.lt, h.cells, h.free⟩)
      have HB3 : Hid (Below w.heap.size w W3) := Lib.hid (hW3 ▸ (hbb.setCell (p := ⟨w4.heap.size, q, none⟩) HBW.out.size _).drew)
      have HLL : Hid ((y.data.toList.set q (byteOf y q ^^^ c)).length = S) := Lib.hid (by rw [List.length_set]; exact hsl)
      have HCV : Hid (∀ V, Below W3.heap.size W3 V → (convert 22 9 (.slice (some ⟨w4.heap.size, 0, none⟩) S cap)).run Tryz.prog V = .ok (.string (chgB y q c)) V) := Lib.hid (fun V hV => (HBS.out.below hV).conv HLL.out)
      have HCH : Hid ((chgB y q c).size = S ∧ chgB y q c ≠ y) := Lib.hid ⟨by rw [chgB_size]; exact hS, chgB_ne y q c (by omega) hcn⟩
      clear hb5 hbr hsl hq hp C1 C2 hc hcv hcl hbb HBW HLL HBS HC
      go_wp2_with fail
      refine D1.out.mono ?_; intro e w' h1; obtain ⟨rfl, h1⟩ := h1; subst w'
      go_wp2
      refine wp_region_still_tail 13 (by kernel_rfl) (by kernel_rfl) ?_
      simp only [List.take_succ_cons, List.take_zero, List.drop_succ_cons, List.drop_zero]
      still_step
      still_step
      still_step
      still_step
      still_step
      still_step
      still_step
      still_call D2.out
      still_step
      still_step
      still_step
      still_step
      still_step
      refine wpStill_nil ?_
      change wpList _ _ _ _ _ w5.drew
      have CV0 := HCV.out W3 (Below.refl _ _)
      go_wp2_with fail
      have hbb := HB3.out
      generalize chgB y q c = t at *
      obtain ⟨BG, hBG⟩ : ∃ BG, w4.heap.size = BG := ⟨_, rfl⟩
      simp only [hBG] at HCV ⊢
      have HZ := Lib.hid (Below.refl W3.heap.size W3)
      clear hW3 hX hcell hfr D1 D2 HB3 hBG hconv em eq hcl2 hq0 hq1 hqS hm hcn hS0
      have d1 := fun W hW hW2 => Lib.hid (Unwrap_impl k t fa (by have := HS.out; have := HCH.out.1; omega) W hW hW2)
      have d2 := fun W => Lib.hid (Unwrap_spec k t W)
      obtain ⟨k2, hk2⟩ : ∃ k2, (⟨(xorOf k (⟨#[1]⟩ ++ z31)).toArray⟩ : ByteArray) = k2 := ⟨_, rfl⟩
      have d3 := fun W => Lib.hid (xor_spec k (⟨#[1]⟩ ++ z31) W (by have := HKS.out; omega) (by rw [ByteArray.size_append]; show 1 + 31 ≤ _; omega))
      simp only [hk2] at d3
      have d4 := fun W hW hW2 => Lib.hid (Unwrap_impl k2 y fa (by have := HS.out; omega) W hW hW2)
      have d5 := fun W => Lib.hid (Unwrap_spec k2 y W)
      have hz1 : (z31).size = 31 := rfl
      generalize uwT k t = x1 at *
      generalize uwC k t = e1 at *
      generalize uwT k2 y = x2 at *
      generalize uwC k2 y = e2 at *
      obtain ⟨zz, hzz⟩ : ∃ zz, z31 = zz := ⟨_, rfl⟩
      have HMK : Hid (∀ w : World, ∃ v, (Instr.makeSlice 22 (.int .i64 31) (.int .i64 31)).run Tryz.prog w = .ok v (w.alloc (.cells (mk8 31) 5)) ∧ (convert 22 9 v).run Tryz.prog (w.alloc (.cells (mk8 31) 5)) = .ok (.string zz) (w.alloc (.cells (mk8 31) 5))) := Lib.hid (hzz ▸ z31_made)
      rw [hzz] at hz1
      simp only [hzz] at d3
      obtain ⟨sz, hsz⟩ : ∃ sz, (⟨#[1]⟩ : ByteArray) ++ zz = sz := ⟨_, rfl⟩
      simp only [hsz] at d3
      have HSZ := Lib.hid hsz
      have hcat : ¬ 9223372036854775807 < 1 + zz.size := by omega
      clear hk2 hS hzz hsz
      refine ((d1 _ (HF.out _ hbb) (HU.out _ hbb)).out).mono ?_; rintro e v1 ⟨rfl, hq⟩
      replace hbb := hbb.trans (hq.mono hbb.size)
      have HZ1 := Lib.hid (HZ.out.trans (hq.mono (Nat.le_refl _)))
      have CV1 := HCV.out _ (HZ1.out.trans ((Below.refl v1.heap.size v1).alloc (Nat.le_refl _) (.cells (mk8 31) 5) |>.mono HZ1.out.size))
      clear hq CV0
      obtain ⟨v, hm1, hm2⟩ := HMK.out v1
      go_wp2_with fail
      rw [HSZ.out]
      refine ((d3 _).out).mono ?_; rintro e v2 ⟨rfl, hq⟩
      replace hbb := (hbb.alloc hbb.size _).trans (hq.mono (by rw [World.size_alloc]; have := hbb.size; omega))
      have HZ2 := Lib.hid (((HZ1.out.alloc HZ1.out.size _).trans (hq.mono (by rw [World.size_alloc]; have := HZ1.out.size; omega))))
      clear hq CV1 hm1 hm2
      go_wp2_with fail
      refine ((d4 _ (HF.out _ hbb) (HU.out _ hbb)).out).mono ?_; rintro e v3 ⟨rfl, hq⟩
      replace hbb := hbb.trans (hq.mono hbb.size)
      have HZ3 := Lib.hid (HZ2.out.trans (hq.mono HZ2.out.size))
      have CV3 := HCV.out _ HZ3.out
      clear hq
      go_wp2_with fail
      refine ((d2 _).out).mono ?_; rintro e v4 ⟨rfl, hq⟩
      replace hbb := hbb.trans (hq.mono hbb.size)
      clear hq CV3
      obtain ⟨v', hm1, hm2⟩ := HMK.out v4
      go_wp2_with fail
      rw [HSZ.out]
      refine ((d3 _).out).mono ?_; rintro e v5 ⟨rfl, hq⟩
      replace hbb := (hbb.alloc hbb.size _).trans (hq.mono (by rw [World.size_alloc]; have := hbb.size; omega))
      clear hq hm1 hm2
      go_wp2_with fail
      refine ((d5 _).out).mono ?_; rintro e v6 ⟨rfl, hq⟩
      replace hbb := hbb.trans (hq.mono hbb.size)
      clear hq
      go_wp2
      go_ret
      exact ⟨rfl, hbb⟩
    · obtain rfl := hce h0
      clear hce
      go_wp2_with fail
      refine (aKey_any _ _ _ _ ((H.out.below hbb (Nat.le_refl _)).up hbb.size) hl).mono ?_; rintro e w2 ⟨k, rfl, hk, hq⟩
      replace hbb := hbb.trans (hq.mono hbb.size)
      clear hq
      go_wp2_with fail
      refine (at_any 0 (by omega) _ _ _ _ ((H.out.below hbb (Nat.le_refl _)).up hbb.size) hl).mono ?_; rintro e wq ⟨⟨p0, rfl, hp0⟩, rfl⟩
      obtain ⟨r0, hr0⟩ : ∃ r0, p0 % 3 = r0 := ⟨_, rfl⟩
      have er0 : (p0 : Int).tmod 3 = (r0 : Int) := by rw [Int.tmod_eq_emod_of_nonneg (by omega)]; omega
      have hr4 : (r0 : Int) ≤ 2 := by omega
      have hrz : (0 : Int) ≤ (r0 : Int) := by omega
      have w8 : IntKind.i64.wrap (8 * (r0 : Int)) = 8 * (r0 : Int) := IntWalk.i64_in _ (by omega)
      have w16 : IntKind.i64.wrap (16 + 8 * (r0 : Int)) = 16 + 8 * (r0 : Int) := IntWalk.i64_in _ (by omega)
      have HBY := fun W hW => Lib.hid (bytes_int 11 (16 + 8 * r0) (16 + 8 * (r0 : Int)) (by omega) (by omega) W a0 len0 cap0 hW hl)
      clear hr0
      go_wp2_with fail
      refine (HBY _ ((H.out.below hbb (Nat.le_refl _)).up hbb.size)).out.mono ?_; rintro e w3 ⟨u, rfl, hu0, hq⟩
      replace hbb := hbb.trans (hq.mono hbb.size)
      clear hq
      have HKS : Hid (k.size ≤ 32) := Lib.hid (kOk_le hk)
      have hwu : wrOk k u := ⟨hk, by omega, by omega, by omega⟩
      have cW := fun W => Lib.hid (Wrap_spec k u W)
      have hys := wrT_size k u hwu
      obtain ⟨y, hy⟩ : ∃ y, wrT k u = y := ⟨_, rfl⟩
      rw [hy] at hys
      simp only [hy] at cW
      generalize wrC k u = cu at *
      obtain ⟨S, hS⟩ : ∃ S, y.size = S := ⟨_, rfl⟩
      have hS0 : 0 < S := by omega
      have HS : Hid (S ≤ 64 ∧ y.size = S) := Lib.hid ⟨by omega, hS⟩
      have hSb : (S : Int) ≤ 64 := by omega
      clear hwu hy hu0 hys hk
      go_wp2_with fail
      refine (cW _).out.mono ?_; rintro e w4 ⟨rfl, hq⟩
      replace hbb := hbb.trans (hq.mono hbb.size)
      clear hq cW
      obtain ⟨cap, w5, hconv, hbr, hb5⟩ := bytes_brow y w4
      have hsl : y.data.toList.length = y.size := rfl
      have HBW := Lib.hid hbb
      replace hbb := hbb.trans (hb5.mono hbb.size)
      rw [hS] at hconv hsl
      have HC := Lib.hid ((H.out.below hbb (Nat.le_refl _)).up hbb.size)
      obtain ⟨p, hp, C1⟩ := at_fix 1 (by omega) w5 a0 len0 cap0 HC.out hl
      obtain ⟨m, hm, C2⟩ := at_fix 2 (by omega) w5 a0 len0 cap0 HC.out hl
      have D1 := Lib.hid (C1 w5 (Below.refl _ _))
      have D2 := Lib.hid (C2 w5.drew (Below.refl _ _).drew)
      obtain ⟨q, hq⟩ : ∃ q, p % S = q := ⟨_, rfl⟩
      have eq : (p : Int).tmod (S : Int) = (q : Int) := by rw [Int.tmod_eq_emod_of_nonneg (by omega), ← hq]; rfl
      have hqS : q < S := by rw [← hq]; exact Nat.mod_lt _ hS0
      have hq0 : (0 : Int) ≤ (q : Int) := by omega
      have hq1 : (q : Int) < (S : Int) := by omega
      have hSn : ¬ S = 0 := by omega
      have hSz : ¬ (S : Int) = 0 := by omega
      have hcell : w5.cell? ⟨w4.heap.size, q, none⟩ = some (.int .u8 ((byteOf y q).toNat : Int)) := by
        have h2 : q < y.data.toList.length := by rw [hsl]; exact hqS
        refine (hbr.cells q h2).trans ?_
        rw [show y.data.toList[q] = byteOf y q by unfold byteOf; rw [List.getD_eq_getElem?_getD, List.getElem?_eq_getElem h2]; rfl]
        rfl
      have hfr := hbr.free q (by rw [hsl]; exact hqS)
      obtain ⟨c, hc⟩ : ∃ c, UInt8.ofNat (1 + m % 255) = c := ⟨_, rfl⟩
      have hcv : c.toNat = 1 + m % 255 := by rw [← hc, UInt8.toNat_ofNat']; omega
      have hcn : c ≠ 0 := fun e => by rw [e] at hcv; simp at hcv; omega
      have em : (1 + (m : Int).tmod 255) = (c.toNat : Int) := by rw [Int.tmod_eq_emod_of_nonneg (by omega)]; omega
      have hX : bits .xor .u8 ((byteOf y q).toNat : Int) (c.toNat : Int) = (((byteOf y q).toNat ^^^ c.toNat : Nat) : Int) := by rw [u8_x, UInt8.toNat_xor]
      have hcl := c.toNat_lt
      have hcl2 : (c.toNat : Int) < 256 := by omega
      obtain ⟨W3, hW3⟩ : ∃ W3, (w5.setCell ⟨w4.heap.size, q, none⟩ (.int .u8 (((byteOf y q).toNat ^^^ c.toNat : Nat) : Int))).drew = W3 := ⟨_, rfl⟩
      have HBS : Hid (BRow W3 w4.heap.size (y.data.toList.set q (byteOf y q ^^^ c))) := Lib.hid (by
        have h := hbr.set q (by rw [hsl]; exact hqS) (byteOf y q ^^^ c)
        rw [cell8, UInt8.toNat_xor] at h
        exact hW3 ▸ ⟨h.lt, h.cells, h.free⟩)
      have HB3 : Hid (Below w.heap.size w W3) := Lib.hid (hW3 ▸ (hbb.setCell (p := ⟨w4.heap.size, q, none⟩) HBW.out.size _).drew)
      have HLL : Hid ((y.data.toList.set q (byteOf y q ^^^ c)).length = S) := Lib.hid (by rw [List.length_set]; exact hsl)
      have HCV : Hid (∀ V, Below W3.heap.size W3 V → (convert 22 9 (.slice (some ⟨w4.heap.size, 0, none⟩) S cap)).run Tryz.prog V = .ok (.string (chgB y q c)) V) := Lib.hid (fun V hV => (HBS.out.below hV).conv HLL.out)
      have HCH : Hid ((chgB y q c).size = S ∧ chgB y q c ≠ y) := Lib.hid ⟨by rw [chgB_size]; exact hS, chgB_ne y q c (by omega) hcn⟩
      clear hb5 hbr hsl hq hp C1 C2 hc hcv hcl hbb HBW HLL HBS HC
      go_wp2_with fail
      refine D1.out.mono ?_; intro e w' h1; obtain ⟨rfl, h1⟩ := h1; subst w'
      go_wp2
      refine wp_region_still_tail 13 (by kernel_rfl) (by kernel_rfl) ?_
      simp only [List.take_succ_cons, List.take_zero, List.drop_succ_cons, List.drop_zero]
      still_step
      still_step
      still_step
      still_step
      still_step
      still_step
      still_step
      still_call D2.out
      still_step
      still_step
      still_step
      still_step
      still_step
      refine wpStill_nil ?_
      change wpList _ _ _ _ _ w5.drew
      have CV0 := HCV.out W3 (Below.refl _ _)
      go_wp2_with fail
      have hbb := HB3.out
      generalize chgB y q c = t at *
      obtain ⟨BG, hBG⟩ : ∃ BG, w4.heap.size = BG := ⟨_, rfl⟩
      simp only [hBG] at HCV ⊢
      have HZ := Lib.hid (Below.refl W3.heap.size W3)
      clear hW3 hX hcell hfr D1 D2 HB3 hBG hconv em eq hcl2 hq0 hq1 hqS hm hcn hS0
      have d1 := fun W hW hW2 => Lib.hid (Unwrap_impl k t fa (by have := HS.out; have := HCH.out.1; omega) W hW hW2)
      have d2 := fun W => Lib.hid (Unwrap_spec k t W)
      obtain ⟨k2, hk2⟩ : ∃ k2, (⟨(xorOf k (⟨#[1]⟩ ++ z31)).toArray⟩ : ByteArray) = k2 := ⟨_, rfl⟩
      have d3 := fun W => Lib.hid (xor_spec k (⟨#[1]⟩ ++ z31) W (by have := HKS.out; omega) (by rw [ByteArray.size_append]; show 1 + 31 ≤ _; omega))
      simp only [hk2] at d3
      have d4 := fun W hW hW2 => Lib.hid (Unwrap_impl k2 y fa (by have := HS.out; omega) W hW hW2)
      have d5 := fun W => Lib.hid (Unwrap_spec k2 y W)
      have hz1 : (z31).size = 31 := rfl
      generalize uwT k t = x1 at *
      generalize uwC k t = e1 at *
      generalize uwT k2 y = x2 at *
      generalize uwC k2 y = e2 at *
      obtain ⟨zz, hzz⟩ : ∃ zz, z31 = zz := ⟨_, rfl⟩
      have HMK : Hid (∀ w : World, ∃ v, (Instr.makeSlice 22 (.int .i64 31) (.int .i64 31)).run Tryz.prog w = .ok v (w.alloc (.cells (mk8 31) 5)) ∧ (convert 22 9 v).run Tryz.prog (w.alloc (.cells (mk8 31) 5)) = .ok (.string zz) (w.alloc (.cells (mk8 31) 5))) := Lib.hid (hzz ▸ z31_made)
      rw [hzz] at hz1
      simp only [hzz] at d3
      obtain ⟨sz, hsz⟩ : ∃ sz, (⟨#[1]⟩ : ByteArray) ++ zz = sz := ⟨_, rfl⟩
      simp only [hsz] at d3
      have HSZ := Lib.hid hsz
      have hcat : ¬ 9223372036854775807 < 1 + zz.size := by omega
      clear hk2 hS hzz hsz
      refine ((d1 _ (HF.out _ hbb) (HU.out _ hbb)).out).mono ?_; rintro e v1 ⟨rfl, hq⟩
      replace hbb := hbb.trans (hq.mono hbb.size)
      have HZ1 := Lib.hid (HZ.out.trans (hq.mono (Nat.le_refl _)))
      have CV1 := HCV.out _ (HZ1.out.trans ((Below.refl v1.heap.size v1).alloc (Nat.le_refl _) (.cells (mk8 31) 5) |>.mono HZ1.out.size))
      clear hq CV0
      obtain ⟨v, hm1, hm2⟩ := HMK.out v1
      go_wp2_with fail
      rw [HSZ.out]
      refine ((d3 _).out).mono ?_; rintro e v2 ⟨rfl, hq⟩
      replace hbb := (hbb.alloc hbb.size _).trans (hq.mono (by rw [World.size_alloc]; have := hbb.size; omega))
      have HZ2 := Lib.hid (((HZ1.out.alloc HZ1.out.size _).trans (hq.mono (by rw [World.size_alloc]; have := HZ1.out.size; omega))))
      clear hq CV1 hm1 hm2
      go_wp2_with fail
      refine ((d4 _ (HF.out _ hbb) (HU.out _ hbb)).out).mono ?_; rintro e v3 ⟨rfl, hq⟩
      replace hbb := hbb.trans (hq.mono hbb.size)
      have HZ3 := Lib.hid (HZ2.out.trans (hq.mono HZ2.out.size))
      have CV3 := HCV.out _ HZ3.out
      clear hq
      go_wp2_with fail
      refine ((d2 _).out).mono ?_; rintro e v4 ⟨rfl, hq⟩
      replace hbb := hbb.trans (hq.mono hbb.size)
      clear hq CV3
      obtain ⟨v', hm1, hm2⟩ := HMK.out v4
      go_wp2_with fail
      rw [HSZ.out]
      refine ((d3 _).out).mono ?_; rintro e v5 ⟨rfl, hq⟩
      replace hbb := (hbb.alloc hbb.size _).trans (hq.mono (by rw [World.size_alloc]; have := hbb.size; omega))
      clear hq hm1 hm2
      go_wp2_with fail
      refine ((d5 _).out).mono ?_; rintro e v6 ⟨rfl, hq⟩
      replace hbb := hbb.trans (hq.mono hbb.size)
      clear hq
      go_wp2
      go_ret
      exact ⟨rfl, hbb⟩
  · go_enter Tryz.func4, Tryz.ntmps4
    go_wp2_with fail
    refine (big_great _ _ _ _ (by omega) (by omega)).mono ?_; rintro e w' ⟨rfl, rfl⟩
    go_wp2
    go_ret
    exact ⟨rfl, Below.refl _ _⟩
end Go.Proofs.YtbfmbdohebdbaaaGreatDoor
