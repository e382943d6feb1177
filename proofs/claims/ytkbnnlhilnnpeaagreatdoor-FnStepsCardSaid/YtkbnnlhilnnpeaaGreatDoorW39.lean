/-
  The walk of laws.FnSteps.
-/
import Derived.Test.YtkbnnlhilnnpeaaGreatDoorLockLaid
import Derived.Test.YtkbnnlhilnnpeaaGreatDoorLockDraw
import Derived.Test.YtkbnnlhilnnpeaaGreatDoorPass
import Derived.Test.YtkbnnlhilnnpeaaGreatDoorLockSp
import Derived.Test.YtkbnnlhilnnpeaaGreatDoorBlk16
import Derived.Test.YtkbnnlhilnnpeaaGreatDoorSameTexts
import Derived.Deep.RegionHeld3
set_option linter.unusedVariables false
set_option linter.unusedSimpArgs false
namespace Go.Proofs.YtkbnnlhilnnpeaaGreatDoor
open Go.RowKit

theorem facts_FnSteps {W : World} (h : laidMetH Tryz.prog Rows.fnStepsRow.laid W) : MxF W := mxf_laid h
theorem texts_ownS {w : World} {e : Ending} {w' : World} {l : List ByteArray} (h : ∃ v, e = .returned v ∧ w'.ownsRow w.heap.size 9 1 v l.length (l.map .string) ∧ Below w.heap.size w w') :
    ∃ A c, e = .returned (.slice A l.length c) ∧ Own w' w.heap.size A l.length c l ∧ Below w.heap.size w w' := by
  obtain ⟨v, rfl, ho, hb⟩ := h
  obtain ⟨A, c, rfl, ho2⟩ := own_of ho
  exact ⟨A, c, rfl, ho2, hb⟩
theorem stepsT_lenS (k s : ByteArray) : (stepsT k s).length ≤ 15 := by
  by_cases h : kOk k ∧ s.size = 16
  · obtain ⟨n, hn⟩ := h.1.of
    have hle := hn.le
    rw [stepsT_yes k s h.1 h.2, upTo_length, hn.div]; omega
  · rw [stepsT_no k s h]; decide
theorem w64n (i : Nat) (h : i ≤ 1000) : wrap64 (i : Int) = (i : Int) := by unfold wrap64; omega
set_option maxRecDepth 100000 in
set_option maxHeartbeats 3200000 in
theorem walk_FnSteps (a0 : Option Addr) (len0 cap0 : Nat) (z0 : List Int) (w : World) (w0 : IsRow .u8 w a0 len0 cap0 z0) (hf : MxF w) :
    Calls Tryz.prog 3 #[.slice a0 len0 cap0] w fun e w' => e = .returned (.bool true) ∧ Below w.heap.size w w' := by
  obtain ⟨hcode, hlen⟩ := w0.code
  clear w0
  by_cases hl : len0 ≤ 1048576
  · have H := Lib.hid hcode
    have HF : Hid (∀ W, Below w.heap.size w W → MxF W) := Lib.hid (fun W hW => hf.below hW (Nat.le_refl _))
    clear hcode hf
    go_enter Tryz.func3, Tryz.ntmps3
    go_wp2_with fail
    refine (big_small _ _ _ _ hl).mono ?_; rintro e w' ⟨rfl, rfl⟩
    go_wp2_with fail
    refine (draw_Steps _ _ _ _ H.out hl).mono ?_; rintro e w1 ⟨k, s, rfl, hks, hss, hb1⟩
    have hle := stepsT_lenS k s
    have CS := fun W => Lib.hid ((Steps_spec k s W).mono fun e w' h => texts_ownS h)
    have CI := fun W hW => Lib.hid ((Steps_impl k s W hW).mono fun e w' h => texts_ownS h)
    have CK := fun W => Lib.hid (KeyOk_spec k W)
    obtain ⟨L, hL⟩ : ∃ L, stepsT k s = L := ⟨_, rfl⟩
    obtain ⟨m, hm⟩ : ∃ m, L.length = m := ⟨_, rfl⟩
    rw [hL, hm] at hle CS CI
    go_wp2_with fail
    refine (CI _ (HF.out _ hb1)).out.mono ?_; rintro e w2 ⟨A, c, rfl, ho, hb2⟩
    have hbb := hb1.trans (hb2.mono hb1.size)
    go_wp2_with fail
    refine (CS _).out.mono ?_; rintro e w3 ⟨A2, c2, rfl, ho2, hb3⟩
    have ho3 := ho.below hb3
    replace hbb := hbb.trans (hb3.mono hbb.size)
    go_wp2_with fail
    refine (sames_any _ _ _ _ _ _ _ ho3.reads ho2.reads (by omega)).mono ?_; rintro e w4 ⟨rfl, qq, rfl⟩
    replace hbb := below_drewN hbb qq
    have hb23 : Below w2.heap.size w2 (w3.drewN qq) := below_drewN hb3 qq
    generalize w3.drewN qq = w4 at *
    clear CS CI ho2 ho3 hb3
    by_cases hk : kOk k
    · rw [decide_eq_true hk] at CK
      by_cases hs : s.size = 16
      · obtain ⟨n, hn⟩ := hk.of
        have hnle := hn.le
        obtain ⟨r, hr⟩ : ∃ r, n + 6 = r := ⟨_, rfl⟩
        obtain ⟨K, hK⟩ : ∃ K, rkS k n = K := ⟨_, rfl⟩
        have hKs : ∀ j, (K j).size = 16 := fun j => by rw [← hK]; exact rkS_size _ _ _
        obtain ⟨f, hff⟩ : ∃ f, stepS K r s = f := ⟨_, rfl⟩
        have hfs : ∀ j, (f j).size = 16 := fun j => by rw [← hff]; exact stepS_size _ _ _ _
        have hLf : L = upTo f (r + 1) := by
          rw [← hL, stepsT_yes k s hk hs, hn.div, hK, ← hff, ← hr]
        have hmr : m = r + 1 := by rw [← hm, hLf, upTo_length]
        have hlk : lockT k s = f r := by rw [lockT_yes k s hk hs, hn.div, hK, hr, ← hff]; rfl
        have hf0 : xorS s (K 0) = f 0 := by rw [← hff]; rfl
        have hfm : ∀ j, j + 1 < r → xorS (mxS (shS 1 (mapT sbox (f j)))) (K (j + 1)) = f (j + 1) := fun j hj => by rw [← hff, stepS, midS, if_pos hj]; rfl
        have hfl : ∀ j, j + 1 = r → xorS (shS 1 (mapT sbox (f j))) (K (j + 1)) = f (j + 1) := fun j hj => by rw [← hff, stepS, midS, if_neg (by omega)]; rfl
        have CR := fun W => Lib.hid (Rounds_impl k W)
        rw [kRi_of k n hn, hr] at CR
        have CRK := fun i hi W => Lib.hid (rk16_impl k n hn i hi (K i) (by rw [hK]) W)
        rw [hr] at CRK
        have CL := fun W hW => Lib.hid (Lock_impl k s W hW)
        rw [hlk] at CL
        have C0 := fun W => Lib.hid (xor16_impl s (K 0) (f 0) hs (hKs 0) hf0 W)
        subst hmr
        obtain ⟨g, rfl, hg, hcells⟩ : ∃ g, A = some ⟨g, 0, none⟩ ∧ g < w2.heap.size ∧ ∀ j, j < r + 1 → w2.cell? ⟨g, j, none⟩ = some (.string (f j)) := by
          have hrd := ho.reads
          have h0 : 0 < L.length := by omega
          obtain ⟨g, hA, hg, _⟩ := hrd.2 0 h0
          refine ⟨g, hA, hg, fun j hj => ?_⟩
          obtain ⟨g2, hA2, _, hc2⟩ := hrd.2 j (by omega)
          rw [hA] at hA2
          have hgg : g = g2 := by injection hA2 with e; injection e
          subst hgg
          rw [hc2]
          congr 2
          have e1 : L[j]? = some (f j) := by rw [hLf]; exact upTo_at f _ j hj
          rw [List.getElem?_eq_getElem (by omega)] at e1
          injection e1
        have HG : Hid (∀ W, Below w2.heap.size w2 W → ∀ j, j < r + 1 → W.cell? ⟨g, j, none⟩ = some (.string (f j))) := Lib.hid fun W hW j hj => (hW.cell (p := ⟨g, j, none⟩) hg).trans (hcells j hj)
        have HC4 := Lib.hid ((H.out.below hbb (Nat.le_refl _)).up hbb.size)
        have hr10 : 10 ≤ r := by omega
        have hr14 : r ≤ 14 := by omega
        have hri : (r : Int) ≤ 14 := by omega
        have hri1 : (10 : Int) ≤ (r : Int) := by omega
        have hrn : ¬ ((r : Int) + 1 = 0) := by omega
        clear hL hm hLf hlk hff hf0 hK ho hcells hg
        go_wp2_with fail
        refine (at_any 0 (by omega) _ _ _ _ HC4.out hl).mono ?_; rintro e w' ⟨⟨x, rfl, hx⟩, rfl⟩
        obtain ⟨j, hj⟩ : ∃ j, x % (r - 1) = j := ⟨_, rfl⟩
        have hjr : j < r - 1 := by rw [← hj]; exact Nat.mod_lt _ (by omega)
        have ej : (x : Int).tmod ((r : Int) - 1) = (j : Int) := by
          rw [Int.tmod_eq_emod_of_nonneg (by omega), show (r : Int) - 1 = ((r - 1 : Nat) : Int) by omega, ← Int.natCast_emod, hj]
        have ej1 : (1 + (j : Int)) = ((j + 1 : Nat) : Int) := by omega
        obtain ⟨i, hi⟩ : ∃ i, j + 1 = i := ⟨_, rfl⟩
        rw [hi] at ej1
        have hi1 : (i : Int) - 1 = (j : Int) := by omega
        have hir : i < r := by omega
        have hir2 : (i : Int) < (r : Int) + 1 := by omega
        have hi0 : (0 : Int) ≤ (i : Int) := by omega
        have hj0 : (0 : Int) ≤ (j : Int) := by omega
        have hjr2 : (j : Int) < (r : Int) + 1 := by omega
        have hx2 : (x : Int) < 256 := by omega
        have hrz : ¬ (r : Int) - 1 = 0 := by omega
        obtain ⟨p, hp⟩ : ∃ p, r - 1 = p := ⟨_, rfl⟩
        have hp1 : (r : Int) - 1 = (p : Int) := by omega
        have hp0 : (0 : Int) ≤ (p : Int) := by omega
        have EJ2 : Hid ((x : Int) % (p : Int) = (j : Int)) := Lib.hid (by rw [← hp, ← Int.natCast_emod, hj])
        have WI := Lib.hid (w64n i (by omega))
        have WJ := Lib.hid (w64n j (by omega))
        have hpr : (p : Int) < (r : Int) + 1 := by omega
        -- the round's texts
        obtain ⟨y, hy⟩ : ∃ y, mapT sbox (f j) = y := ⟨_, rfl⟩
        obtain ⟨z, hz⟩ : ∃ z, shS 1 y = z := ⟨_, rfl⟩
        obtain ⟨u, hu⟩ : ∃ u, mxS z = u := ⟨_, rfl⟩
        have hy16 : y.size = 16 := by rw [← hy, mapT_size]; exact hfs j
        have hz16 : z.size = 16 := by rw [← hz]; exact shS_size _ _
        have hu16 : u.size = 16 := by rw [← hu]; exact mxS_size _
        have hxi : xorS u (K i) = f i := by rw [← hu, ← hz, ← hy, ← hi]; exact hfm j (by omega)
        obtain ⟨y', hy'⟩ : ∃ y, mapT sbox (f p) = y := ⟨_, rfl⟩
        obtain ⟨z', hz'⟩ : ∃ z, shS 1 y' = z := ⟨_, rfl⟩
        have hy'16 : y'.size = 16 := by rw [← hy', mapT_size]; exact hfs p
        have hz'16 : z'.size = 16 := by rw [← hz']; exact shS_size _ _
        have hxr : xorS z' (K r) = f r := by
          have h := hfl p (by omega)
          rw [show p + 1 = r by omega] at h
          rw [← hz', ← hy']; exact h
        have D1 := fun W => Lib.hid (sub16_impl (f j) y (hfs j) hy W)
        have D2 := fun W => Lib.hid (shift16_impl y z hy16 hz W)
        have D3 := fun W hW => Lib.hid (mix16_impl z u hz16 hu W hW)
        have D4 := fun W => Lib.hid (xor16_impl u (K i) (f i) hu16 (hKs i) hxi W)
        have E1 := fun W => Lib.hid (sub16_impl (f p) y' (hfs p) hy' W)
        have E2 := fun W => Lib.hid (shift16_impl y' z' hy'16 hz' W)
        have E4 := fun W => Lib.hid (xor16_impl z' (K r) (f r) hz'16 (hKs r) hxr W)
        have RI := fun W => CRK i (by omega) W
        have RR := fun W => CRK r (by omega) W
        have R0 := fun W => CRK 0 (by omega) W
        have HBB := Lib.hid hbb
        have HB2 := Lib.hid hb23
        have cj := HG.out _ hb23 j (by omega)
        clear hbb hb23 hb1 hb2 hy hz hu hy16 hz16 hu16 hxi hy' hz' hy'16 hz'16 hxr hfs hfm hfl hKs hj hi hp hn hnle hr hk hs hks hss hle HC4 H CRK
        obtain ⟨X, hX⟩ : ∃ X : Int, (x : Int) = X := ⟨_, rfl⟩
        rw [hX] at ej ⊢
        rw [hp1] at ej
        have wf1 : wrap64 (1 + (j : Int)) = (i : Int) := by rw [ej1]; exact WI.out
        have wf2 : wrap64 ((i : Int) - 1) = (j : Int) := by rw [hi1]; exact WJ.out
        rw [show ((i : Nat) : Int) = 1 + (j : Int) by omega] at RI
        have T1 : Hid ((1 + (j : Int)).toNat = i) := Lib.hid (by omega)
        have Z1 : Hid ((0 : Int) ≤ 1 + (j : Int)) := Lib.hid (by omega)
        have Z2 : Hid ((1 + (j : Int)) < (r : Int) + 1) := Lib.hid (by omega)
        clear ej1 hi1 hX hx2 EJ2 hx
        have Bw4 := HBB
        have Gw4 := HB2
        go_wp2_with fail
        refine (D1 _).out.mono ?_; rintro e a1 ⟨rfl, hq⟩
        have Ba1 := Lib.hid (Bw4.out.trans (hq.mono Bw4.out.size))
        have Ga1 := Lib.hid (Gw4.out.trans (hq.mono Gw4.out.size))
        clear hq
        go_wp2_with fail
        refine (D2 _).out.mono ?_; rintro e a2 ⟨rfl, hq⟩
        have Ba2 := Lib.hid (Ba1.out.trans (hq.mono Ba1.out.size))
        have Ga2 := Lib.hid (Ga1.out.trans (hq.mono Ga1.out.size))
        clear hq
        go_wp2_with fail
        refine (D3 _ (HF.out _ Ba2.out)).out.mono ?_; rintro e a3 ⟨rfl, hq⟩
        have Ba3 := Lib.hid (Ba2.out.trans (hq.mono Ba2.out.size))
        have Ga3 := Lib.hid (Ga2.out.trans (hq.mono Ga2.out.size))
        clear hq
        go_wp2_with fail
        refine (RI _).out.mono ?_; rintro e a4 ⟨rfl, hq⟩
        have Ba4 := Lib.hid (Ba3.out.trans (hq.mono Ba3.out.size))
        have Ga4 := Lib.hid (Ga3.out.trans (hq.mono Ga3.out.size))
        clear hq
        go_wp2_with fail
        refine (D4 _).out.mono ?_; rintro e a5 ⟨rfl, hq⟩
        have Ba5 := Lib.hid (Ba4.out.trans (hq.mono Ba4.out.size))
        have Ga5 := Lib.hid (Ga4.out.trans (hq.mono Ga4.out.size))
        clear hq
        clear cj
        have cp := HG.out _ Ga5.out p (by omega)
        go_wp2_with fail
        refine (E1 _).out.mono ?_; rintro e b1 ⟨rfl, hq⟩
        have Bb1 := Lib.hid (Ba5.out.trans (hq.mono Ba5.out.size))
        have Gb1 := Lib.hid (Ga5.out.trans (hq.mono Ga5.out.size))
        clear hq
        go_wp2_with fail
        refine (E2 _).out.mono ?_; rintro e b2 ⟨rfl, hq⟩
        have Bb2 := Lib.hid (Bb1.out.trans (hq.mono Bb1.out.size))
        have Gb2 := Lib.hid (Gb1.out.trans (hq.mono Gb1.out.size))
        clear hq
        go_wp2_with fail
        refine (RR _).out.mono ?_; rintro e b3 ⟨rfl, hq⟩
        have Bb3 := Lib.hid (Bb2.out.trans (hq.mono Bb2.out.size))
        have Gb3 := Lib.hid (Gb2.out.trans (hq.mono Gb2.out.size))
        clear hq
        go_wp2_with fail
        refine (E4 _).out.mono ?_; rintro e b4 ⟨rfl, hq⟩
        have Bb4 := Lib.hid (Bb3.out.trans (hq.mono Bb3.out.size))
        have Gb4 := Lib.hid (Gb3.out.trans (hq.mono Gb3.out.size))
        clear hq
        clear cp
        have Gn := Lib.hid Gb4.out.drew
        have Bn := Lib.hid Bb4.out.drew
        have SK : Hid (∀ W, Below w2.heap.size w2 W → W.cell? ⟨g, 0, none⟩ = some (.string (f 0)) ∧ W.cell? ⟨g, i, none⟩ = some (.string (f i)) ∧ W.cell? ⟨g, r, none⟩ = some (.string (f r))) := Lib.hid fun W hW => ⟨HG.out W hW 0 (by omega), HG.out W hW i (by omega), HG.out W hW r (by omega)⟩
        have hS0 := SK.out _ Gn.out
        have hrr : (r : Int) < (r : Int) + 1 := by omega
        have t1 := T1.out
        have z1 := Z1.out
        have z2 := Z2.out
        have hr0 : (0 : Int) ≤ (r : Int) := by omega
        have h0r : (0 : Int) < (r : Int) + 1 := by omega
        go_wp2
        go_region_held3 (fun W => W.cell? ⟨g, 0, none⟩ = some (.string (f 0)) ∧ W.cell? ⟨g, i, none⟩ = some (.string (f i)) ∧ W.cell? ⟨g, r, none⟩ = some (.string (f r)))
          (first
            | assumption
            | exact SK.out _ (Gn.out.trans (d1.mono Gn.out.size))
            | exact SK.out _ ((Gn.out.trans (d1.mono Gn.out.size)).trans (d2.mono (Gn.out.trans (d1.mono Gn.out.size)).size))
            | exact SK.out _ (((Gn.out.trans (d1.mono Gn.out.size)).trans (d2.mono (Gn.out.trans (d1.mono Gn.out.size)).size)).trans (d3.mono ((Gn.out.trans (d1.mono Gn.out.size)).trans (d2.mono (Gn.out.trans (d1.mono Gn.out.size)).size)).size)))
          (first
            | (go_at_call 17; refine (CR _).out.mono ?_; rintro e w' ⟨rfl, rfl⟩)
            | (go_at_call 16; refine (R0 _).out.mono ?_; rintro e v1 ⟨rfl, d1⟩)
            | (go_at_call 12; refine (C0 _).out.mono ?_; rintro e v2 ⟨rfl, d2⟩)
            | (go_at_call 18; refine (CL _ (HF.out _ ((Bn.out.trans (d1.mono Bn.out.size)).trans (d2.mono (Bn.out.trans (d1.mono Bn.out.size)).size)))).out.mono ?_; rintro e v3 ⟨rfl, d3⟩))
        go_wp2
        go_ret
        have q1 := Bn.out.trans (d1.mono Bn.out.size)
        have q2 := q1.trans (d2.mono q1.size)
        exact ⟨rfl, q2.trans (d3.mono q2.size)⟩
      · have hs2 : ¬ (s.size : Int) = 16 := by omega
        have hs3 : ((s.size : Int) != 16) = true := bne_iff_ne.2 hs2
        have hLe : L = [] := by rw [← hL]; exact stepsT_no k s (fun h => hs h.2)
        subst hLe
        obtain rfl : m = 0 := by rw [← hm]; rfl
        clear hL hm hk hs hks hss ho H hb1 hb2 hle
        go_wp2_with fail
        refine (CK _).out.mono ?_; rintro e w' ⟨rfl, rfl⟩
        go_wp2
        go_ret
        exact ⟨rfl, hbb⟩
    · rw [decide_eq_false hk] at CK
      have hLe : L = [] := by rw [← hL]; exact stepsT_no k s (fun h => hk h.1)
      subst hLe
      obtain rfl : m = 0 := by rw [← hm]; rfl
      clear hL hm hk hks hss ho H hb1 hb2 hle
      go_wp2_with fail
      refine (CK _).out.mono ?_; rintro e w' ⟨rfl, rfl⟩
      go_wp2
      go_ret
      exact ⟨rfl, hbb⟩
  · go_enter Tryz.func3, Tryz.ntmps3
    go_wp2_with fail
    refine (big_great _ _ _ _ (by omega) hlen).mono ?_; rintro e w' ⟨rfl, rfl⟩
    go_wp2
    go_ret
    exact ⟨rfl, Below.refl _ _⟩
end Go.Proofs.YtkbnnlhilnnpeaaGreatDoor
