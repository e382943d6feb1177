/-
  The walk of laws.FnBack: the steps back as they are gone from outside.
-/
import Derived.Test.YtkbnnlhilnnpeaaDoorLockLaid
import Derived.Test.YtkbnnlhilnnpeaaDoorBlk16
import Derived.Test.YtkbnnlhilnnpeaaDoorPass
import Derived.Test.YtkbnnlhilnnpeaaDoorLockSp
import Derived.Test.YtkbnnlhilnnpeaaDoorDraws
import Derived.Test.YtkbnnlhilnnpeaaDoorBase
set_option linter.unusedVariables false
set_option linter.unusedSimpArgs false
namespace Go.Proofs.YtkbnnlhilnnpeaaDoor
open Go.RowKit

theorem facts_FnBack {W : World} (h : laidMetH Tryd.prog Rows.fnBackRow.laid W) : MxF W := mxf_laid h
set_option maxRecDepth 100000 in
set_option maxHeartbeats 1600000 in
theorem walk_FnBack (a0 : Option Addr) (len0 cap0 : Nat) (z0 : List Int) (w : World) (w0 : IsRow .u8 w a0 len0 cap0 z0) (hf : MxF w) :
    Calls Tryd.prog 6 #[.slice a0 len0 cap0] w fun e w' => e = .returned (.bool true) ∧ Below w.heap.size w w' := by
  obtain ⟨hcode, hlen⟩ := w0.code
  clear w0
  by_cases hl : len0 ≤ 1048576
  · have H := Lib.hid hcode
    have HF : Hid (∀ W, Below w.heap.size w W → MxF W) := Lib.hid (fun W hW => hf.below hW (Nat.le_refl _))
    clear hcode hf
    go_enter Tryd.func6, Tryd.ntmps6
    go_wp2_with fail
    refine (big_small _ _ _ _ hl).mono ?_; rintro e w' ⟨rfl, rfl⟩
    go_wp2_with fail
    refine (aKey_any _ _ _ _ H.out hl).mono ?_; rintro e w1 ⟨s, rfl, hk, hb1⟩
    have HC := Lib.hid ((H.out.below hb1 (Nat.le_refl _)).up hb1.size)
    go_wp2_with fail
    refine (bytes_law 40 16 (by omega) _ _ _ _ HC.out hl).mono ?_; rintro e w2 ⟨t, rfl, ht, hb2⟩
    have hbb := hb1.trans (hb2.mono hb1.size)
    obtain ⟨n, hn⟩ := hk.of
    have hle := hn.le
    obtain ⟨r, hr⟩ : ∃ r, n + 6 = r := ⟨_, rfl⟩
    have CR := fun W => Lib.hid (rounds_yes_spec s n hn W)
    have er : ((n : Int) + 6) = (r : Int) := by omega
    rw [er] at CR
    obtain ⟨K, hK⟩ : ∃ K, rkS s n = K := ⟨_, rfl⟩
    have CK := fun i hi W => Lib.hid (rk16_impl s n hn i hi (K i) (by rw [hK]) W)
    rw [hr] at CK
    have hKs : ∀ j, (K j).size = 16 := fun j => by rw [← hK]; exact rkS_size _ _ _
    obtain ⟨X, hX⟩ : ∃ X : Nat → ByteArray, (fun k => if k = 0 then unlockS K r t else outS K r t (r - k)) = X := ⟨_, rfl⟩
    have hXr : xorS t (K r) = X r := by
      rw [← hX]; show _ = if r = 0 then unlockS K r t else outS K r t (r - r)
      rw [if_neg (by omega), Nat.sub_self, outS]
    have hXm : ∀ k, 0 < k → k + 1 ≤ r → unS (xorS (mapT ubox (shS 3 (X (k + 1)))) (K k)) = X k := fun k h0 hk => by
      rw [← hX]
      show unS (xorS (mapT ubox (shS 3 (if k + 1 = 0 then unlockS K r t else outS K r t (r - (k + 1))))) (K k)) = if k = 0 then unlockS K r t else outS K r t (r - k)
      rw [if_neg (by omega), if_neg (by omega), show r - k = (r - (k + 1)) + 1 by omega, outS, show r - 1 - (r - (k + 1)) = k by omega, dimS, if_pos (by omega)]; rfl
    have hX0 : xorS (mapT ubox (shS 3 (X 1))) (K 0) = X 0 := by
      rw [← hX]
      show xorS (mapT ubox (shS 3 (if 1 = 0 then unlockS K r t else outS K r t (r - 1)))) (K 0) = if 0 = 0 then unlockS K r t else outS K r t (r - 0)
      rw [if_neg (by omega), if_pos rfl]; exact out_last K r t (by omega)
    have hXz : unlockT s t = X 0 := by
      rw [unlockT_yes s t hk ht, hn.div, hr, hK, ← hX]; rfl
    have hXs : ∀ k, k ≤ r → (X k).size = 16 := fun k hk => by
      by_cases h0 : k = 0
      · rw [h0, ← hX0]; exact xorS_size _ _
      · by_cases h1 : k = r
        · rw [h1, ← hXr]; exact xorS_size _ _
        · rw [← hXm k (by omega) (by omega)]; exact unS_size _
    have C0 := fun W => Lib.hid (xor16_impl t (K r) (X r) ht (hKs r) hXr W)
    have CU := fun W => Lib.hid (Unlock_spec s t W)
    have CV := fun W hW => Lib.hid (Unlock_impl s t W hW)
    rw [hXz] at CU CV
    have hr10 : 10 ≤ r := by omega
    have hr14 : r ≤ 14 := by omega
    have hr14i : (r : Int) ≤ 14 := by omega
    have HKS := Lib.hid hKs
    have HXM := Lib.hid hXm
    have HX0 := Lib.hid hX0
    have HXS := Lib.hid hXs
    clear hk hn hle hr er hK hKs hX hXr hXm hX0 hXz hXs hb1 hb2 H HC
    go_wp2_with fail
    refine (CR _).out.mono ?_; rintro e w' ⟨rfl, rfl⟩
    go_wp2_with fail
    refine (CK r (Nat.le_refl _) _).out.mono ?_; rintro e wq ⟨rfl, hq⟩
    replace hbb := hbb.trans (hq.mono hbb.size)
    clear hq
    go_wp2_with fail
    refine (C0 _).out.mono ?_; rintro e wq ⟨rfl, hq⟩
    replace hbb := hbb.trans (hq.mono hbb.size)
    clear hq
    have HBB := Lib.hid hbb
    clear hbb
    go_wp2
    go_loopw [6, 7] (fun x i wr => ∃ k : Nat, k ≤ r ∧ i = .int .i64 ((k : Int) - 1) ∧ x = .string (X k) ∧ Below w.heap.size w wr) (fun _ i _ => (intOf i + 1).toNat)
    case atStart => exact ⟨r, Nat.le_refl _, rfl, rfl, HBB.out⟩
    case round =>
      obtain ⟨k, hk, rfl, rfl, hbel⟩ := hrel
      by_cases h0 : k = 0
      · subst h0
        have HB := Lib.hid hbel
        clear hbel HBB
        generalize X 0 = x at *
        go_wp2_with fail
        refine (CU _).out.mono ?_; rintro e wq ⟨rfl, hq⟩
        have HB2 := Lib.hid (HB.out.trans (hq.mono HB.out.size))
        clear hq
        go_wp2_with fail
        refine (CV _ (HF.out _ HB2.out)).out.mono ?_; rintro e wp ⟨rfl, hp⟩
        have HB3 := Lib.hid (HB2.out.trans (hp.mono HB2.out.size))
        clear hp
        go_wp2
        go_ret
        exact ⟨rfl, HB3.out⟩
      · obtain ⟨j, rfl⟩ : ∃ j, k = j + 1 := ⟨k - 1, by omega⟩
        have ei : (((j + 1 : Nat) : Int) - 1) = (j : Int) := by omega
        rw [ei]
        obtain ⟨x, hx⟩ : ∃ x, X (j + 1) = x := ⟨_, rfl⟩
        obtain ⟨y, hy⟩ : ∃ y, shS 3 x = y := ⟨_, rfl⟩
        obtain ⟨z, hz⟩ : ∃ z, mapT ubox y = z := ⟨_, rfl⟩
        obtain ⟨u, hu⟩ : ∃ u, xorS z (K j) = u := ⟨_, rfl⟩
        have hx16 : x.size = 16 := by rw [← hx]; exact HXS.out _ hk
        have hy16 : y.size = 16 := by rw [← hy]; exact shS_size _ _
        have hz16 : z.size = 16 := by rw [← hz, mapT_size]; exact hy16
        have hu16 : u.size = 16 := by rw [← hu]; exact xorS_size _ _
        have C1 := fun W => Lib.hid (unshift16_impl x y hx16 hy W)
        have C2 := fun W => Lib.hid (unsub16_impl y z hy16 hz W)
        have C3 := fun W => CK j (by omega) W
        have C4 := fun W => Lib.hid (xor16_impl z (K j) u hz16 (HKS.out j) hu W)
        have HB := Lib.hid hbel
        have hj0 : (0 : Int) ≤ (j : Int) := by omega
        have hj14 : (j : Int) ≤ 14 := by omega
        have hm : IntKind.i64.wrap ((j : Int) - 1) = (j : Int) - 1 := IntWalk.i64_in _ (by omega)
        rw [hx]
        by_cases hz0 : j = 0
        · have hux : u = X 0 := by rw [← hu, ← hz, ← hy, ← hx, hz0]; exact HX0.out
          subst hz0
          clear hx hy hz hu hx16 hy16 hz16 hu16 hbel HBB h0 ei
          go_wp2_with fail
          refine (C1 _).out.mono ?_; rintro e wa ⟨rfl, hb⟩
          have HA := Lib.hid (HB.out.trans (hb.mono HB.out.size))
          clear hb
          go_wp2_with fail
          refine (C2 _).out.mono ?_; rintro e wb ⟨rfl, hb⟩
          have HBb := Lib.hid (HA.out.trans (hb.mono HA.out.size))
          clear hb
          go_wp2_with fail
          refine (C3 _).out.mono ?_; rintro e wc ⟨rfl, hb⟩
          have HCc := Lib.hid (HBb.out.trans (hb.mono HBb.out.size))
          clear hb
          go_wp2_with fail
          refine (C4 _).out.mono ?_; rintro e wd ⟨rfl, hb⟩
          have HD := Lib.hid (HCc.out.trans (hb.mono HCc.out.size))
          clear hb
          go_wp2
          go_roundw
          case rel => exact ⟨0, by omega, by first | rfl | go_num, rfl, HD.out⟩
          case measure => simp [intOf]
        · have hux : unS u = X j := by rw [← hu, ← hz, ← hy, ← hx]; exact HXM.out j (by omega) (by omega)
          have C5 := fun W hW => Lib.hid (unmix16_impl u (X j) hu16 hux W hW)
          have hj1 : (0 : Int) < (j : Int) := by omega
          clear hx hy hz hu hx16 hy16 hz16 hu16 hbel HBB h0 ei hux
          go_wp2_with fail
          refine (C1 _).out.mono ?_; rintro e wa ⟨rfl, hb⟩
          have HA := Lib.hid (HB.out.trans (hb.mono HB.out.size))
          clear hb
          go_wp2_with fail
          refine (C2 _).out.mono ?_; rintro e wb ⟨rfl, hb⟩
          have HBb := Lib.hid (HA.out.trans (hb.mono HA.out.size))
          clear hb
          go_wp2_with fail
          refine (C3 _).out.mono ?_; rintro e wc ⟨rfl, hb⟩
          have HCc := Lib.hid (HBb.out.trans (hb.mono HBb.out.size))
          clear hb
          go_wp2_with fail
          refine (C4 _).out.mono ?_; rintro e wd ⟨rfl, hb⟩
          have HD := Lib.hid (HCc.out.trans (hb.mono HCc.out.size))
          clear hb
          go_wp2_with fail
          refine (C5 _ (HF.out _ HD.out)).out.mono ?_; rintro e we ⟨rfl, hb⟩
          have HE := Lib.hid (HD.out.trans (hb.mono HD.out.size))
          clear hb
          go_wp2
          go_roundw
          case rel => exact ⟨j, by omega, by first | rfl | go_num, rfl, HE.out⟩
          case measure => simp [intOf]
  · go_enter Tryd.func6, Tryd.ntmps6
    go_wp2_with fail
    refine (big_great _ _ _ _ (by omega) hlen).mono ?_; rintro e w' ⟨rfl, rfl⟩
    go_wp2
    go_ret
    exact ⟨rfl, Below.refl _ _⟩
end Go.Proofs.YtkbnnlhilnnpeaaDoor
