/-
  The walk of laws.FnAlone: it returns true at every code.
-/
import Derived.Test.YtkklkcajllpjpaaGreatDoorDr10
import Derived.Test.YtkklkcajllpjpaaGreatDoorTabLaid
set_option linter.unusedVariables false
set_option linter.unusedSimpArgs false
namespace Go.Proofs.YtkklkcajllpjpaaGreatDoor
open Go Go.RowKit
attribute [local go_sem ↓] Go.wp_at_zero Go.wp_at_succ

theorem facts_FnAlone {W : World} (h : laidMetH Tryz.prog Rows.fnAloneRow.laid W) : Fac4 W 0 mxF ∧ Fac4 W 1 unF := by
  have h' : laidMet Tryz.prog [("loop.example/g00835/impl.unmixFactors", Lib.tabData .u8 [14, 9, 13, 11]), ("loop.example/g00835/impl.mixFactors", Lib.tabData .u8 [2, 1, 1, 3])] W := h
  exact ⟨Mx8_laid (laid_tail8 h'), Un8_laid h'⟩
theorem byteOf_app (a b : ByteArray) (i : Nat) : byteOf (a ++ b) i = if i < a.size then byteOf a i else byteOf b (i - a.size) := by
  have hl : a.data.toList.length = a.size := by simp
  unfold byteOf
  rw [ByteArray.data_append, Array.toList_append, List.getD_eq_getElem?_getD, List.getElem?_append, hl]
  by_cases h : i < a.size
  · rw [if_pos h, if_pos h, List.getD_eq_getElem?_getD]
  · rw [if_neg h, if_neg h, List.getD_eq_getElem?_getD]
/-- blocks one behind the other are changed as they are apart. -/
theorem slT_app (bk : Bool) (key a b : ByteArray) (hk : kOk key) (ha : a.size % 16 = 0) (hb : b.size % 16 = 0) : slT bk key (a ++ b) = slT bk key a ++ slT bk key b := by
  have hs : (a ++ b).size = a.size + b.size := ByteArray.size_append
  rw [slT_yes bk key _ hk (by omega), slT_yes bk key a hk ha, slT_yes bk key b hk hb, hs]
  have e1 : txt (eachB (wayT bk key) (byteOf a)) a.size = txt (eachB (wayT bk key) (byteOf (a ++ b))) a.size := txt_ext _ _ _ fun i hi => by
    unfold eachB
    rw [blk_ext (s := byteOf a) (t := byteOf (a ++ b)) (j := i / 16) (fun k hk => by rw [byteOf_app, if_pos (by omega)])]
  rw [e1]
  refine (txt_app _ _ _ _ fun i hi => ?_).symm
  have e2 : blk (byteOf b) (i / 16) = blk (byteOf (a ++ b)) ((a.size + i) / 16) := txt_ext _ _ 16 fun k hk => by
    show byteOf b (16 * (i / 16) + k) = byteOf (a ++ b) (16 * ((a.size + i) / 16) + k)
    rw [byteOf_app, if_neg (by omega)]
    congr 1
    omega
  show byteOf (wayT bk key (blk (byteOf b) (i / 16))) (i % 16) = byteOf (wayT bk key (blk (byteOf (a ++ b)) ((a.size + i) / 16))) ((a.size + i) % 16)
  rw [e2, show (a.size + i) % 16 = i % 16 by omega]
set_option maxRecDepth 100000 in
set_option maxHeartbeats 6400000 in
theorem walk_FnAlone (a0 : Option Addr) (len0 cap0 : Nat) (z0 : List Int) (w : World) (w0 : IsRow .u8 w a0 len0 cap0 z0) (hf : Fac4 w 0 mxF ∧ Fac4 w 1 unF) :
    Calls Tryz.prog 6 #[.slice a0 len0 cap0] w fun e w' => e = .returned (.bool true) ∧ Below w.heap.size w w' := by
  obtain ⟨hcode, hlen⟩ := w0.code
  clear w0
  by_cases hl : len0 ≤ 1048576
  · have H := Lib.hid hcode
    have HM : Hid (∀ W, Below w.heap.size w W → Fac4 W 0 mxF) := Lib.hid (fun W hW => hf.1.below hW hf.1.1)
    have HU : Hid (∀ W, Below w.heap.size w W → Fac4 W 1 unF) := Lib.hid (fun W hW => hf.2.below hW hf.2.1)
    have HCW : Hid (∀ W, Below w.heap.size w W → CodeAt W W.heap.size a0 len0) := Lib.hid fun W hW => (hcode.below hW (Nat.le_refl _)).up hW.size
    clear hcode hf
    go_enter Tryz.func6, Tryz.ntmps6
    go_wp2_with fail
    refine (big_small _ _ _ _ hl).mono ?_; rintro e w' ⟨rfl, rfl⟩
    go_wp2_with fail
    refine (aKey_any _ _ _ _ H.out hl).mono ?_; rintro e w1 ⟨k, rfl, hk, hb1⟩
    have HB1 := Lib.hid hb1
    have HK := Lib.hid hk
    clear hb1 hk
    go_wp2_with fail
    refine (at_any 0 (by omega) _ _ _ _ (HCW.out _ HB1.out) hl).mono ?_; rintro e w' ⟨⟨v0, rfl, hv0⟩, rfl⟩
    obtain ⟨q, hq⟩ : ∃ q, v0 % 6 = q := ⟨_, rfl⟩
    have hm0 : ((v0 : Nat) : Int).tmod 6 = (q : Int) := by rw [Int.tmod_eq_emod_of_nonneg (by omega)]; omega
    have hq5 : q ≤ 5 := by omega
    have hw0 : IntKind.i64.wrap (16 * (q : Int)) = (((16 * q : Nat)) : Int) := by rw [show (((16 * q : Nat)) : Int) = 16 * (q : Int) by omega]; exact IntWalk.i64_in _ (by omega)
    clear hv0 hq
    go_wp2_with fail
    refine (bytes_law 40 (16 * q) (by omega) _ _ _ _ (HCW.out _ HB1.out) hl).mono ?_; rintro e w2 ⟨a, rfl, ha, hb2⟩
    have HB2 := Lib.hid (HB1.out.trans (hb2.mono HB1.out.size))
    have HA := Lib.hid ha
    clear hb2 ha HB1 hm0 hw0
    go_wp2_with fail
    refine (at_any 3 (by omega) _ _ _ _ (HCW.out _ HB2.out) hl).mono ?_; rintro e w' ⟨⟨v1, rfl, hv1⟩, rfl⟩
    obtain ⟨r, hr⟩ : ∃ r, v1 % 6 = r := ⟨_, rfl⟩
    have hm0 : ((v1 : Nat) : Int).tmod 6 = (r : Int) := by rw [Int.tmod_eq_emod_of_nonneg (by omega)]; omega
    have hr5 : r ≤ 5 := by omega
    have hw0 : IntKind.i64.wrap (16 * (r : Int)) = (((16 * r : Nat)) : Int) := by rw [show (((16 * r : Nat)) : Int) = 16 * (r : Int) by omega]; exact IntWalk.i64_in _ (by omega)
    clear hv1 hr
    go_wp2_with fail
    refine (bytes_law 50 (16 * r) (by omega) _ _ _ _ (HCW.out _ HB2.out) hl).mono ?_; rintro e w3 ⟨b, rfl, hbz, hb3⟩
    have HB3 := Lib.hid (HB2.out.trans (hb3.mono HB2.out.size))
    have HBZ := Lib.hid hbz
    clear hb3 hbz HB2 hm0 hw0
    go_wp2_with fail
    refine (at_any 4 (by omega) _ _ _ _ (HCW.out _ HB3.out) hl).mono ?_; rintro e w' ⟨⟨v2, rfl, hv2⟩, rfl⟩
    obtain ⟨j, hj⟩ : ∃ j, v2 % 3 = j := ⟨_, rfl⟩
    have hm0 : ((v2 : Nat) : Int).tmod 3 = (j : Int) := by rw [Int.tmod_eq_emod_of_nonneg (by omega)]; omega
    have hj2 : 0 ≤ (j : Int) ∧ (j : Int) ≤ 2 := by omega
    clear hv2 hj
    have za : a.size % 16 = 0 := by rw [HA.out]; omega
    have zb : b.size % 16 = 0 := by rw [HBZ.out]; omega
    have ea : a.size ≤ 80 := by rw [HA.out]; omega
    have eb : b.size ≤ 80 := by rw [HBZ.out]; omega
    have hab : (a ++ b).size = a.size + b.size := ByteArray.size_append
    have zab : (a ++ b).size % 16 = 0 := by omega
    have c1 := fun W hW => Lib.hid (LockBlocks_impl (j : Int) k a (by omega) W (HM.out W hW))
    have c2 := fun W hW => Lib.hid (LockBlocks_impl (j : Int) k b (by omega) W (HM.out W hW))
    have c3 := fun W hW => Lib.hid (LockBlocks_impl (j : Int) k (a ++ b) (by omega) W (HM.out W hW))
    have c4 := fun W => Lib.hid (LockSliced_spec10 k (a ++ b) (by omega) W)
    have hz := slT_size false k (a ++ b) HK.out zab
    have c5 := fun W hW => Lib.hid (UnlockSliced_impl k (slT false k (a ++ b)) (by omega) W (HM.out W hW) (HU.out W hW))
    have e5 : slT true k (slT false k (a ++ b)) = a ++ b := slT_inv false k (a ++ b) HK.out zab
    rw [e5] at c5
    have o1 := coT_ok (j : Int) k a hj2 HK.out za
    have o2 := coT_ok (j : Int) k b hj2 HK.out zb
    have o3 := coT_ok (j : Int) k (a ++ b) hj2 HK.out zab
    rw [blT_ok false _ k a o1, o1] at c1
    rw [blT_ok false _ k b o2, o2] at c2
    rw [blT_ok false _ k (a ++ b) o3, o3] at c3
    have happ := slT_app false k a b HK.out za zb
    have za2 := slT_size false k a HK.out za
    have zb2 := slT_size false k b HK.out zb
    have hcat1 := fun W => run_string_add_sum (P := Tryz.prog) (w := W) a b (by omega)
    have hcat2 := fun W => run_string_add_sum (P := Tryz.prog) (w := W) (slT false k a) (slT false k b) (by omega)
    have hcap1 : (a.size : Int) + (b.size : Int) ≤ 140737488355328 := by omega
    have hcap2 : ((slT false k a).size : Int) + ((slT false k b).size : Int) ≤ 140737488355328 := by omega
    rw [← happ] at hcat2
    generalize slT false k (a ++ b) = z at *
    generalize slT false k a = x at *
    generalize slT false k b = y at *
    generalize a ++ b = ab at *
    clear za zb ea eb hab zab hz e5 o1 o2 o3 happ za2 zb2 hq5 hr5 hj2 HA HBZ
    go_wp2_with fail
    refine (c1 _ HB3.out).out.mono ?_; rintro e w4 ⟨rfl, hb⟩
    have HB4 := Lib.hid (HB3.out.trans (hb.mono HB3.out.size))
    clear hb c1
    go_wp2_with fail
    refine (c2 _ HB4.out).out.mono ?_; rintro e w5 ⟨rfl, hb⟩
    have HB5 := Lib.hid (HB4.out.trans (hb.mono HB4.out.size))
    clear hb c2
    go_wp2_with fail
    refine (c3 _ HB5.out).out.mono ?_; rintro e w6 ⟨rfl, hb⟩
    have HB6 := Lib.hid (HB5.out.trans (hb.mono HB5.out.size))
    clear hb c3
    go_wp2_with fail
    refine (c4 _).out.mono ?_; rintro e w7 ⟨rfl, hb⟩
    have HB7 := Lib.hid (HB6.out.trans (hb.mono HB6.out.size))
    clear hb c4
    go_wp2_with fail
    refine (c5 _ HB7.out).out.mono ?_; rintro e w8 ⟨rfl, hb⟩
    have HB8 := Lib.hid (HB7.out.trans (hb.mono HB7.out.size))
    clear hb c5 HB3 HB4 HB5 HB6 HB7
    go_wp2
    go_ret
    exact ⟨rfl, HB8.out⟩
  · go_enter Tryz.func6, Tryz.ntmps6
    go_wp2_with fail
    refine (big_great _ _ _ _ (by omega) hlen).mono ?_; rintro e w' ⟨rfl, rfl⟩
    go_wp2
    go_ret
    exact ⟨rfl, Below.refl _ _⟩
end Go.Proofs.YtkklkcajllpjpaaGreatDoor
