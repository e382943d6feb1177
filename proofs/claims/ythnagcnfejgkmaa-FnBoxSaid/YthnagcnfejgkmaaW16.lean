/-
  The walks of laws.FnAffine and FnSub: each returns true at every code.
-/
import Derived.Test.YthnagcnfejgkmaaAffI
import Derived.Test.YthnagcnfejgkmaaAffS
import Derived.Test.YthnagcnfejgkmaaBoxI
import Derived.Test.YthnagcnfejgkmaaBoxDraw
import Derived.Test.YthnagcnfejgkmaaBoxMore
import Derived.Test.YthnagcnfejgkmaaDrawN
import Derived.WalkKit
import Derived.LoopTactic
import Derived.OwnWalk
import Derived.WalkLawsBesides
import Derived.WalkSpells
import Derived.Outline
import Derived.Below
set_option linter.unusedVariables false
namespace Go.Proofs.Ythnagcnfejgkmaa
open Go.RowKit

theorem affine_is (x : Int) (v : UInt8) (h : aff (b8 x) = v) (w : World) :
    Calls Try.prog 16 #[.int .i64 x] w fun e w' => e = .returned (.int .i64 v.toNat) ∧ Below w.heap.size w w' := by
  subst h; exact Affine_impl x w
theorem affine_sp (x : Int) (v : UInt8) (h : aff (b8 x) = v) (w : World) :
    Calls Try.prog 18 #[.int .i64 x] w fun e w' => e = .returned (.int .i64 v.toNat) ∧ w = w' := by
  subst h; exact Affine_spec x w
theorem unaffine_is (x : Int) (v : UInt8) (h : unaff (b8 x) = v) (w : World) :
    Calls Try.prog 17 #[.int .i64 x] w fun e w' => e = .returned (.int .i64 v.toNat) ∧ Below w.heap.size w w' := by
  subst h; exact Unaffine_impl x w
theorem unaffine_sp (x : Int) (v : UInt8) (h : unaff (b8 x) = v) (w : World) :
    Calls Try.prog 19 #[.int .i64 x] w fun e w' => e = .returned (.int .i64 v.toNat) ∧ w = w' := by
  subst h; exact Unaffine_spec x w
theorem sub_is (x : Int) (v : UInt8) (h : sbox (b8 x) = v) (w : World) :
    Calls Try.prog 23 #[.int .i64 x] w fun e w' => e = .returned (.int .i64 v.toNat) ∧ Below w.heap.size w w' := by
  subst h; exact Sub_impl x w
theorem sub_sp (x : Int) (v : UInt8) (h : sbox (b8 x) = v) (w : World) :
    Calls Try.prog 25 #[.int .i64 x] w fun e w' => e = .returned (.int .i64 v.toNat) ∧ w = w' := by
  subst h; exact Sub_spec x w
theorem unsub_is (x : Int) (v : UInt8) (h : ubox (b8 x) = v) (w : World) :
    Calls Try.prog 24 #[.int .i64 x] w fun e w' => e = .returned (.int .i64 v.toNat) ∧ Below w.heap.size w w' := by
  subst h; exact Unsub_impl x w
theorem unsub_sp (x : Int) (v : UInt8) (h : ubox (b8 x) = v) (w : World) :
    Calls Try.prog 26 #[.int .i64 x] w fun e w' => e = .returned (.int .i64 v.toNat) ∧ w = w' := by
  subst h; exact Unsub_spec x w
theorem inverse_is (x : Int) (v : UInt8) (h : inv (b8 x) = v) (w : World) :
    Calls Try.prog 27 #[.int .i64 x] w fun e w' => e = .returned (.int .i64 v.toNat) ∧ w = w' := by
  subst h; exact Inverse_impl x w
theorem plane_val (b : Int) (v : Nat) (w : World) (A : Option Addr) (n c : Nat) (l : List Int) (hv : plane (b8 b) n (rowOf l) = v) (h : IRow w A n l) (hn : n ≤ 4611686018427387904) (hc : n ≤ c) (hc2 : c ≤ 9223372036854775807) :
    Calls Try.prog 20 #[.int .i64 b, .slice A n c] w fun e w' => e = .returned (.int .i64 v) ∧ w = w' := by
  subst hv; exact Plane_impl b w A n c l h hn hc hc2
theorem plane_aff0 : ∀ n : Fin 256, plane (UInt8.ofNat n.val) 8 (rowOf [241, 227, 199, 143, 31, 62, 124, 248]) = (aff (UInt8.ofNat n.val) ^^^ 99).toNat := by decide +kernel
theorem plane_aff (c : UInt8) : plane c 8 (rowOf [241, 227, 199, 143, 31, 62, 124, 248]) = (aff c ^^^ 99).toNat := of_all (P := fun c => plane c 8 (rowOf [241, 227, 199, 143, 31, 62, 124, 248]) = (aff c ^^^ 99).toNat) plane_aff0 c
set_option maxRecDepth 100000 in
set_option maxHeartbeats 1600000 in
theorem walk_FnAffine (a0 : Option Addr) (len0 cap0 : Nat) (z0 : List Int) (w : World) (w0 : IsRow .u8 w a0 len0 cap0 z0) :
    Calls Try.prog 3 #[.slice a0 len0 cap0] w fun e w' => e = .returned (.bool true) ∧ Below w.heap.size w w' := by
  obtain ⟨hcode, hlen⟩ := w0.code
  clear w0
  by_cases hl : len0 ≤ 1048576
  · have H := Lib.hid hcode
    clear hcode
    go_enter Try.func3, Try.ntmps3
    go_wp2_with fail
    refine (big_small _ _ _ _ hl).mono ?_; rintro e w' ⟨rfl, rfl⟩
    go_wp2_with fail
    refine (draw_Affine _ _ _ _ H.out hl).mono ?_; rintro e w1 ⟨a, rfl, hx, hb1⟩
    have HC := Lib.hid ((H.out.below hb1 (Nat.le_refl _)).up hb1.size)
    clear hx
    go_wp2_with fail
    refine (draw_Unaffine _ _ _ _ HC.out hl).mono ?_; rintro e w2 ⟨b, rfl, hx, hb2⟩
    have hbb := hb1.trans (hb2.mono hb1.size)
    clear hx hb1 hb2 HC
    obtain ⟨P, hP⟩ : ∃ P, P = aff (b8 a) := ⟨_, rfl⟩
    obtain ⟨Q, hQ⟩ : ∃ Q, Q = unaff (b8 b) := ⟨_, rfl⟩
    obtain ⟨X, hX⟩ : ∃ X, X = b8 a := ⟨_, rfl⟩
    obtain ⟨Y, hY⟩ : ∃ Y, Y = b8 b := ⟨_, rfl⟩
    obtain ⟨R, hR⟩ : ∃ R, R = P ^^^ 99 := ⟨_, rfl⟩
    have h1 := Lib.hid hP.symm
    have h2 := Lib.hid hQ.symm
    have h3 : Hid (unaff (b8 (P.toNat : Int)) = X) := Lib.hid (by rw [b8_of, hP, unaff_aff, hX])
    have h4 : Hid (aff (b8 (Q.toNat : Int)) = Y) := Lib.hid (by rw [b8_of, hQ, aff_unaff, hY])
    have h5 : Hid (plane (b8 a) 8 (rowOf [241, 227, 199, 143, 31, 62, 124, 248]) = R.toNat) := Lib.hid (by rw [plane_aff, hR, hP])
    have hx1 : bits .and .i64 a 255 = (X.toNat : Int) := by rw [hX, and255_b8]
    have hx2 : bits .and .i64 b 255 = (Y.toNat : Int) := by rw [hY, and255_b8]
    have hx3 : bits .xor .i64 (R.toNat : Int) 99 = (P.toNat : Int) := by
      rw [show (99 : Int) = ((99 : UInt8).toNat : Int) by rfl, i64_x, hR, x_assoc, x_self, x_zero]
    clear hP hQ hX hY hR
    go_wp2_with fail
    refine (affine_is _ P h1.out _).mono ?_; rintro e wq ⟨rfl, hq⟩
    replace hbb := hbb.trans (hq.mono hbb.size)
    clear hq
    go_wp2_with fail
    refine (unaffine_is _ Q h2.out _).mono ?_; rintro e wq ⟨rfl, hq⟩
    replace hbb := hbb.trans (hq.mono hbb.size)
    clear hq
    go_wp2_with fail
    refine (affine_sp _ P h1.out _).mono ?_; rintro e w' ⟨rfl, rfl⟩
    go_wp2_with fail
    refine (unaffine_sp _ Q h2.out _).mono ?_; rintro e w' ⟨rfl, rfl⟩
    go_wp2_with fail
    refine (unaffine_is _ X h3.out _).mono ?_; rintro e wq ⟨rfl, hq⟩
    replace hbb := hbb.trans (hq.mono hbb.size)
    clear hq
    go_wp2_with fail
    refine (affine_is _ Y h4.out _).mono ?_; rintro e wq ⟨rfl, hq⟩
    replace hbb := hbb.trans (hq.mono hbb.size)
    clear hq
    go_wp2_with fail
    refine (plane_val _ R.toNat _ _ _ _ _ h5.out (irow_block [241, 227, 199, 143, 31, 62, 124, 248] (heap_alloc_new _ _)) (by omega) (by omega) (by omega)).mono ?_; rintro e w' ⟨rfl, rfl⟩
    go_wp2
    go_ret
    exact ⟨rfl, hbb.alloc hbb.size _⟩
  · go_enter Try.func3, Try.ntmps3
    go_wp2_with fail
    refine (big_great _ _ _ _ (by omega) hlen).mono ?_; rintro e w' ⟨rfl, rfl⟩
    go_wp2
    go_ret
    exact ⟨rfl, Below.refl _ _⟩
set_option maxRecDepth 100000 in
set_option maxHeartbeats 1600000 in
theorem walk_FnSub (a0 : Option Addr) (len0 cap0 : Nat) (z0 : List Int) (w : World) (w0 : IsRow .u8 w a0 len0 cap0 z0) :
    Calls Try.prog 4 #[.slice a0 len0 cap0] w fun e w' => e = .returned (.bool true) ∧ Below w.heap.size w w' := by
  obtain ⟨hcode, hlen⟩ := w0.code
  clear w0
  by_cases hl : len0 ≤ 1048576
  · have H := Lib.hid hcode
    clear hcode
    go_enter Try.func4, Try.ntmps4
    go_wp2_with fail
    refine (big_small _ _ _ _ hl).mono ?_; rintro e w' ⟨rfl, rfl⟩
    go_wp2_with fail
    refine (draw_Sub _ _ _ _ H.out hl).mono ?_; rintro e w1 ⟨a, rfl, hx, hb1⟩
    have HC := Lib.hid ((H.out.below hb1 (Nat.le_refl _)).up hb1.size)
    clear hx
    go_wp2_with fail
    refine (draw_Unsub _ _ _ _ HC.out hl).mono ?_; rintro e w2 ⟨b, rfl, hx, hb2⟩
    have hbb := hb1.trans (hb2.mono hb1.size)
    clear hx hb1 hb2 HC
    obtain ⟨P, hP⟩ : ∃ P, P = sbox (b8 a) := ⟨_, rfl⟩
    obtain ⟨Q, hQ⟩ : ∃ Q, Q = ubox (b8 b) := ⟨_, rfl⟩
    obtain ⟨X, hX⟩ : ∃ X, X = b8 a := ⟨_, rfl⟩
    obtain ⟨Y, hY⟩ : ∃ Y, Y = b8 b := ⟨_, rfl⟩
    obtain ⟨R, hR⟩ : ∃ R, R = inv X := ⟨_, rfl⟩
    have hne := sbox_ne (b8 a)
    rw [← hP, ← hX] at hne
    have hlx := X.toNat_lt
    have hlp := P.toNat_lt
    have n1 : ((P.toNat : Int) != (X.toNat : Int)) = true := bne_iff_ne.2 fun e => hne.1 (UInt8.toNat_inj.1 (by omega))
    have n2 : ((P.toNat : Int) != 255 - (X.toNat : Int)) = true := bne_iff_ne.2 fun e => hne.2 (by omega)
    have n3 : (X.toNat : Int) < 256 := by omega
    have h1 := Lib.hid hP.symm
    have h2 := Lib.hid hQ.symm
    have h3 : Hid (ubox (b8 (P.toNat : Int)) = X) := Lib.hid (by rw [b8_of, hP, ubox_sbox, hX])
    have h4 : Hid (sbox (b8 (Q.toNat : Int)) = Y) := Lib.hid (by rw [b8_of, hQ, sbox_ubox, hY])
    have h5 : Hid (inv (b8 a) = R) := Lib.hid (by rw [hR, hX])
    have h6 : Hid (aff (b8 (R.toNat : Int)) = P) := Lib.hid (by rw [b8_of, hR, hP, hX]; rfl)
    have hx1 : bits .and .i64 a 255 = (X.toNat : Int) := by rw [hX, and255_b8]
    have hx2 : bits .and .i64 b 255 = (Y.toNat : Int) := by rw [hY, and255_b8]
    clear hP hQ hX hY hR hne hlx hlp
    go_wp2_with fail
    refine (sub_is _ P h1.out _).mono ?_; rintro e wq ⟨rfl, hq⟩
    replace hbb := hbb.trans (hq.mono hbb.size)
    clear hq
    go_wp2_with fail
    refine (unsub_is _ Q h2.out _).mono ?_; rintro e wq ⟨rfl, hq⟩
    replace hbb := hbb.trans (hq.mono hbb.size)
    clear hq
    go_wp2_with fail
    refine (sub_sp _ P h1.out _).mono ?_; rintro e w' ⟨rfl, rfl⟩
    go_wp2_with fail
    refine (unsub_sp _ Q h2.out _).mono ?_; rintro e w' ⟨rfl, rfl⟩
    go_wp2_with fail
    refine (unsub_is _ X h3.out _).mono ?_; rintro e wq ⟨rfl, hq⟩
    replace hbb := hbb.trans (hq.mono hbb.size)
    clear hq
    go_wp2_with fail
    refine (sub_is _ Y h4.out _).mono ?_; rintro e wq ⟨rfl, hq⟩
    replace hbb := hbb.trans (hq.mono hbb.size)
    clear hq
    go_wp2_with fail
    refine (inverse_is _ R h5.out _).mono ?_; rintro e w' ⟨rfl, rfl⟩
    go_wp2_with fail
    refine (affine_is _ P h6.out _).mono ?_; rintro e wq ⟨rfl, hq⟩
    replace hbb := hbb.trans (hq.mono hbb.size)
    clear hq
    go_wp2
    go_ret
    exact ⟨rfl, hbb⟩
  · go_enter Try.func4, Try.ntmps4
    go_wp2_with fail
    refine (big_great _ _ _ _ (by omega) hlen).mono ?_; rintro e w' ⟨rfl, rfl⟩
    go_wp2
    go_ret
    exact ⟨rfl, Below.refl _ _⟩
end Go.Proofs.Ythnagcnfejgkmaa
