/-
  The walk of laws.FnParity: it returns true at every code.
-/
import Derived.Test.YthajoodnjcmnlaaW10
import Derived.Test.YthajoodnjcmnlaaPlane
import Derived.Test.YthajoodnjcmnlaaPlaneDraw
import Derived.WalkKit
import Derived.LoopTactic
import Derived.OwnWalk
import Derived.WalkLawsBesides
import Derived.WalkSpells
import Derived.Outline
import Derived.Below
set_option linter.unusedVariables false
namespace Go.Proofs.Ythajoodnjcmnlaa
open Go.RowKit

theorem par_is (x : Int) (v : Nat) (h : par (b8 x) = v) (w : World) :
    Calls Try.prog 29 #[.int .i64 x] w fun e w' => e = .returned (.int .i64 v) ∧ w = w' := by
  subst h; exact Parity_impl x w
theorem par_sp (x : Int) (v : Nat) (h : par (b8 x) = v) (w : World) :
    Calls Try.prog 30 #[.int .i64 x] w fun e w' => e = .returned (.int .i64 v) ∧ w = w' := by
  subst h; exact Parity_spec x w
theorem plane_is (b : Int) (v : Nat) (w : World) (A : Option Addr) (n c : Nat) (l : List Int) (hv : plane (b8 b) n (rowOf l) = v) (h : IRow w A n l) (hn : n ≤ 4611686018427387904) (hc : n ≤ c) (hc2 : c ≤ 9223372036854775807) :
    Calls Try.prog 31 #[.int .i64 b, .slice A n c] w fun e w' => e = .returned (.int .i64 v) ∧ w = w' := by
  subst hv; exact Plane_impl b w A n c l h hn hc hc2
theorem plane_sp (b : Int) (v : Nat) (w : World) (A : Option Addr) (n c : Nat) (l : List Int) (hv : plane (b8 b) n (rowOf l) = v) (h : IRow w A n l) (hn : n ≤ 4611686018427387904) :
    Calls Try.prog 32 #[.int .i64 b, .slice A n c] w fun e w' => e = .returned (.int .i64 v) ∧ w = w' := by
  subst hv; exact Plane_spec b w A n c l h hn
theorem irow_block {w : World} {b : Nat} {T : TypeId} (l : List Int) (hb : w.heap[b]? = some (.cells (l.map (Value.int .i64)).toArray T (0, 0))) : IRow w (some ⟨b, 0, none⟩) l.length l := by
  have hlt : b < w.heap.size := by
    rcases Nat.lt_or_ge b w.heap.size with h | h
    · exact h
    · rw [Array.getElem?_eq_none h] at hb; cases hb
  refine ⟨rfl, fun j hj => ⟨b, 0, rfl, hlt, ?_⟩⟩
  rw [Nat.zero_add]
  refine (cell_of_row w b j _ T (0, 0) hb).trans ?_
  simp [List.getElem?_eq_getElem hj]
theorem ones_row : ∀ k : Fin 8, b8 (rowOf [1, 2, 4, 8, 16, 32, 64, 128] k.val) = UInt8.ofNat (2 ^ k.val) := by decide +kernel
theorem plane_ident (c : Nat) (hc : c < 256) : plane (b8 (c : Int)) 8 (rowOf [1, 2, 4, 8, 16, 32, 64, 128]) = c := by
  rw [plane_all _ _ _ (by omega), plTo_congr _ _ (fun k => UInt8.ofNat (2 ^ k)) 8 (fun j hj => ones_row ⟨j, hj⟩)]
  have := plane_one ⟨c, hc⟩
  simp only at this
  rw [← this]
  congr 1
  apply UInt8.toNat_inj.1
  have h1 := b8_byte (UInt8.ofNat c).toNat (by exact UInt8.toNat_lt _)
  rw [UInt8.toNat_ofNat'] at h1
  rw [UInt8.toNat_ofNat']
  have h2 := b8_val (c : Int)
  rw [this]
  omega

set_option maxRecDepth 100000 in
set_option maxHeartbeats 1600000 in
theorem walk_FnParity (a0 : Option Addr) (len0 cap0 : Nat) (z0 : List Int) (w : World) (w0 : IsRow .u8 w a0 len0 cap0 z0) :
    Calls Try.prog 6 #[.slice a0 len0 cap0] w fun e w' => e = .returned (.bool true) ∧ Below w.heap.size w w' := by
  obtain ⟨hcode, hlen⟩ := w0.code
  clear w0
  by_cases hl : len0 ≤ 1048576
  · have H := Lib.hid hcode
    clear hcode
    go_enter Try.func6, Try.ntmps6
    go_wp2_with fail
    refine (big_small _ _ _ _ hl).mono ?_; rintro e w' ⟨rfl, rfl⟩
    go_wp2_with fail
    refine (draw_parity _ _ _ _ H.out hl).mono ?_; rintro e w1 ⟨b, rfl, hx, hb1⟩
    have HC := Lib.hid ((H.out.below hb1 (Nat.le_refl _)).up hb1.size)
    clear hx
    go_wp2_with fail
    refine (draw_plane _ _ _ _ HC.out hl).mono ?_; rintro e w2 hpd
    unfold PlaneDrawn at hpd
    obtain ⟨x, A', n, cap', l, rfl, hx, hrow, hn9, hnc, hcm, hb2⟩ := hpd
    have HC2 := Lib.hid ((HC.out.below hb2 (Nat.le_refl _)).up hb2.size)
    have HR := Lib.hid hrow
    have hbb := hb1.trans (hb2.mono hb1.size)
    clear hx hrow hb1 hb2
    go_wp2_with fail
    refine (at_any 0 (by omega) _ _ _ _ HC2.out hl).mono ?_; rintro e w' ⟨⟨c, rfl, hc⟩, rfl⟩
    obtain ⟨P, hP⟩ : ∃ P, P = par (b8 b) := ⟨_, rfl⟩
    obtain ⟨Q, hQ⟩ : ∃ Q, Q = par (b8 c) := ⟨_, rfl⟩
    obtain ⟨R, hR⟩ : ∃ R, R = P ^^^ Q := ⟨_, rfl⟩
    obtain ⟨S, hS⟩ : ∃ S, S = plane (b8 x) n (rowOf l) := ⟨_, rfl⟩
    obtain ⟨T, hT⟩ : ∃ T, T = plane (b8 c) n (rowOf l) := ⟨_, rfl⟩
    obtain ⟨U, hU⟩ : ∃ U, U = S ^^^ T := ⟨_, rfl⟩
    have h1 := Lib.hid hP.symm
    have h2 : Hid (par (b8 (bits .xor .i64 b c)) = R) := Lib.hid (by rw [b8_xor, par_x, hR, hP, hQ])
    have h3 := Lib.hid hQ.symm
    have h4 := Lib.hid hS.symm
    have h5 := Lib.hid hT.symm
    have h6 : Hid (plane (b8 (bits .xor .i64 x c)) n (rowOf l) = U) := Lib.hid (by rw [b8_xor, plane_x, hU, hS, hT])
    have h7 := Lib.hid (plane_ident c hc)
    have hx1 : bits .xor .i64 (P : Int) (Q : Int) = (R : Int) := by
      rw [hR]; refine i64_xor_nat _ _ ?_ ?_
      · have := par_lt (b8 b); omega
      · have := par_lt (b8 c); omega
    have hx2 : bits .xor .i64 (S : Int) (T : Int) = (U : Int) := by
      rw [hU]; refine i64_xor_nat _ _ ?_ ?_
      · have := plane_lt (b8 x) n (rowOf l); omega
      · have := plane_lt (b8 c) n (rowOf l); omega
    clear hP hQ hR hS hT hU hc
    go_wp2_with fail
    refine (par_is _ P h1.out _).mono ?_; rintro e w' ⟨rfl, rfl⟩
    go_wp2_with fail
    refine (par_sp _ P h1.out _).mono ?_; rintro e w' ⟨rfl, rfl⟩
    go_wp2_with fail
    refine (plane_is _ S _ _ _ _ _ h4.out HR.out (by omega) hnc hcm).mono ?_; rintro e w' ⟨rfl, rfl⟩
    go_wp2_with fail
    refine (plane_sp _ S _ _ _ _ _ h4.out HR.out (by omega)).mono ?_; rintro e w' ⟨rfl, rfl⟩
    go_wp2_with fail
    refine (par_is _ R h2.out _).mono ?_; rintro e w' ⟨rfl, rfl⟩
    go_wp2_with fail
    refine (par_is _ P h1.out _).mono ?_; rintro e w' ⟨rfl, rfl⟩
    go_wp2_with fail
    refine (par_is _ Q h3.out _).mono ?_; rintro e w' ⟨rfl, rfl⟩
    go_wp2_with fail
    refine (plane_is _ U _ _ _ _ _ h6.out HR.out (by omega) hnc hcm).mono ?_; rintro e w' ⟨rfl, rfl⟩
    go_wp2_with fail
    refine (plane_is _ S _ _ _ _ _ h4.out HR.out (by omega) hnc hcm).mono ?_; rintro e w' ⟨rfl, rfl⟩
    go_wp2_with fail
    refine (plane_is _ T _ _ _ _ _ h5.out HR.out (by omega) hnc hcm).mono ?_; rintro e w' ⟨rfl, rfl⟩
    go_wp2_with fail
    refine (plane_is _ c _ _ _ _ _ h7.out (irow_block [1, 2, 4, 8, 16, 32, 64, 128] (heap_alloc_new _ _)) (by omega) (by omega) (by omega)).mono ?_; rintro e w' ⟨rfl, rfl⟩
    go_wp2
    go_ret
    exact ⟨rfl, hbb.alloc hbb.size _⟩
  · go_enter Try.func6, Try.ntmps6
    go_wp2_with fail
    refine (big_great _ _ _ _ (by omega) hlen).mono ?_; rintro e w' ⟨rfl, rfl⟩
    go_wp2
    go_ret
    exact ⟨rfl, Below.refl _ _⟩
end Go.Proofs.Ythajoodnjcmnlaa
