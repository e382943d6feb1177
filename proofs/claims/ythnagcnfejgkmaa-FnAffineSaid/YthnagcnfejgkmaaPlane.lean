/-
  What impl.Parity, impl.Plane and spec.Plane answer; the walks of laws.FnExactParity and FnExactPlane.
-/
import Derived.Test.YthnagcnfejgkmaaFieldI
import Derived.Test.YthnagcnfejgkmaaFieldS
import Derived.Test.YthnagcnfejgkmaaPlaneMath
import Derived.Test.YthnagcnfejgkmaaInts
import Derived.Test.YthnagcnfejgkmaaShelf
import Derived.Test.YthnagcnfejgkmaaW9
import Derived.Test.YthnagcnfejgkmaaCur
import Derived.WalkKit
import Derived.LoopTactic
import Derived.OwnWalk
import Derived.WalkLawsBesides
import Derived.WalkSpells
import Derived.Outline
import Derived.Below
set_option linter.unusedVariables false
namespace Go.Proofs.Ythnagcnfejgkmaa
open Go.RowKit

theorem count8 (c : UInt8) (w : World) :
    Calls Try.prog 53 #[.int .u8 c.toNat] w fun e w' => e = .returned (.int .i64 (Lib.onesCount c.toNat)) ∧ w = w' := by
  have := c.toNat_lt
  exact (Try.bits_OnesCount8 c.toNat w (by omega) (by omega)).mono fun e w' ⟨he, hw⟩ => ⟨he, hw.symm⟩
theorem parity_impl (c : UInt8) (w : World) :
    Calls Try.prog 40 #[.int .u8 c.toNat] w fun e w' => e = .returned (.int .u8 (par c)) ∧ w = w' := by
  have h8 := Lib.onesCount_le8 ⟨c.toNat, c.toNat_lt⟩
  simp only at h8
  have HP := Lib.hid (par_ones c)
  have HO := Lib.hid (u8_one (Lib.onesCount c.toNat) (by omega))
  go_enter Try.func40, Try.ntmps40
  go_wp2_with (go_at_call 53; refine (count8 _ _).mono ?_; rintro e w' ⟨rfl, rfl⟩)
  go_ret
  exact ⟨ret_i (by first | rw [HO.out, HP.out] | (rw [Int.emod_eq_of_lt (by omega) (by omega), HO.out, HP.out])), rfl⟩
theorem parity_mod (b : Int) (w : World) :
    Calls Try.prog 40 #[.int .u8 (b % 256)] w fun e w' => e = .returned (.int .u8 (par (b8 b))) ∧ w = w' := by
  rw [← b8_val]; exact parity_impl _ w
/-- the places of a list, as far as it goes. -/
def rowOf (l : List Int) (k : Nat) : Int := l.getD k 0
theorem rowOf_at (l : List Int) (k : Nat) (h : k < l.length) : l[k] = rowOf l k := by
  unfold rowOf; rw [List.getD_eq_getElem?_getD, List.getElem?_eq_getElem h]; rfl
theorem and_mod (b r : Int) : bits .and .u8 (b % 256) (r % 256) = ((b8 b &&& b8 r).toNat : Int) := by
  rw [← b8_val, ← b8_val, u8_and_nat _ _ (UInt8.toNat_lt _) (UInt8.toNat_lt _), UInt8.toNat_and]
theorem parity_and (b r : Int) (w : World) :
    Calls Try.prog 40 #[.int .u8 (bits .and .u8 (b % 256) (r % 256))] w fun e w' => e = .returned (.int .u8 (par (b8 b &&& b8 r))) ∧ w = w' := by
  rw [and_mod]; exact parity_impl _ w
theorem or8 (b : UInt8) (row : Nat → UInt8) (k : Nat) (hk : k < 8) : bits .or .u8 (plTo b row k : Int) ((par (b &&& row k) : Int) * 2 ^ k % 256) = (plTo b row (k + 1) : Int) := by
  have h1 := plTo_lt b row k
  have h2 : 2 ^ k < 2 ^ 8 := Nat.pow_lt_pow_right (by omega) hk
  have h3 := bit_le _ k (par_lt (b &&& row k)) hk
  have e : (par (b &&& row k) : Int) * 2 ^ k % 256 = ((par (b &&& row k) * 2 ^ k : Nat) : Int) := by
    rw [← Int.emod_eq_of_lt (a := ((par (b &&& row k) * 2 ^ k : Nat) : Int)) (b := 256) (by omega) (by omega)]
    push_cast
    rfl
  rw [e, u8_or_nat _ _ (by omega) (by omega), or_plane b row k hk]
theorem or64 (b : UInt8) (row : Nat → UInt8) (k : Nat) (hk : k < 8) : bits .or .i64 (plTo b row k : Int) (wrap64 ((par (b &&& row k) : Int) * 2 ^ k)) = (plTo b row (k + 1) : Int) := by
  have h1 := plTo_lt b row k
  have h2 : 2 ^ k < 2 ^ 8 := Nat.pow_lt_pow_right (by omega) hk
  have h3 := bit_le _ k (par_lt (b &&& row k)) hk
  have e : wrap64 ((par (b &&& row k) : Int) * 2 ^ k) = ((par (b &&& row k) * 2 ^ k : Nat) : Int) := by
    have e1 : (par (b &&& row k) : Int) * 2 ^ k = ((par (b &&& row k) * 2 ^ k : Nat) : Int) := by push_cast; rfl
    rw [e1]
    simp only [wrap64]
    omega
  rw [e, i64_or_nat _ _ (by omega) (by omega), or_plane b row k hk]
set_option maxHeartbeats 800000 in
theorem Plane_impl (b : Int) (w : World) (A : Option Addr) (n c : Nat) (l : List Int) (h : IRow w A n l) (hn : n ≤ 4611686018427387904) (hc : n ≤ c) (hc2 : c ≤ 9223372036854775807) :
    Calls Try.prog 20 #[.int .i64 b, .slice A n c] w fun e w' => e = .returned (.int .i64 (plane (b8 b) n (rowOf l))) ∧ w = w' := by
  have H := Lib.hid h
  clear h
  by_cases h8 : n < 8
  · have HP := Lib.hid (plane_few (b8 b) n (rowOf l) h8)
    have h8' : (n : Int) < 8 := by omega
    go_enter Try.func20, Try.ntmps20
    go_wp2
    go_ret
    exact ⟨ret_i (by rw [HP.out]; rfl), rfl⟩
  · have HP := Lib.hid (plane_all (b8 b) n (rowOf l) h8)
    have h8' : ¬ (n : Int) < 8 := by omega
    have hc8 : (8 : Int) ≤ (c : Int) := by omega
    have hc8' : 8 ≤ c := by omega
    obtain ⟨g, o, rfl, -, -⟩ := H.out.2 0 (by have := H.out.1; omega)
    go_enter Try.func20, Try.ntmps20
    go_wp2
    go_loop [5, 14] (fun p i => ∃ (k : Nat), k ≤ 8 ∧ i = .int .i64 k ∧ p = .int .u8 (plTo (b8 b) (fun k => b8 (rowOf l k)) k)) (fun _ i => 8 - (intOf i).toNat)
    case atStart => exact ⟨0, by omega, rfl, rfl⟩
    case round =>
      obtain ⟨k, hk, rfl, rfl⟩ := hrel
      by_cases hlt : k < 8
      · have hkl : k < l.length := by have := H.out.1; omega
        obtain ⟨g', o', hA, hg, hcell⟩ := H.out.2 k hkl
        simp only [Option.some.injEq, Addr.mk.injEq, and_true] at hA
        obtain ⟨rfl, rfl⟩ := hA
        rw [rowOf_at l k hkl] at hcell
        have HU := Lib.hid (or8 (b8 b) (fun k => b8 (rowOf l k)) k hlt)
        have hk0 : (0 : Int) ≤ (k : Int) := by omega
        have hk1 : (k : Int) < 8 := by omega
        go_wp2_with (go_at_call 40; refine (parity_and _ _ _).mono ?_; rintro e w' ⟨rfl, rfl⟩)
        go_round
        case rel => exact ⟨k + 1, by omega, by go_num, val_i HU.out⟩
        case measure => simp [intOf]; omega
      · obtain rfl : k = 8 := by omega
        have hp := plTo_8 (b8 b) (fun k => b8 (rowOf l k))
        go_wp2
        go_ret
        exact ⟨ret_i (by rw [HP.out]), rfl⟩

theorem below_drewQ {B : Nat} {a b : World} (h : Below B a b) (q : Nat) : Below B a (b.drewN q) := ⟨h.os, h.tape, h.output, h.size, h.block⟩
theorem IsRow.irow {w : World} {A : Option Addr} {n c : Nat} {zs : List Int} (h : IsRow .i64 w A n c zs) : IRow w A n (zs.take n) ∧ n ≤ c ∧ c ≤ 9223372036854775807 := by
  rcases h with ⟨rfl, rfl, rfl, rfl⟩ | ⟨x, rfl, hl, hm, hz, hcell, hwz⟩
  · exact ⟨⟨rfl, fun j hj => by simp at hj⟩, by omega, by omega⟩
  · unfold maxLen at hm
    have hlen : (zs.take n).length = n := by rw [List.length_take]; omega
    refine ⟨⟨hlen, fun j hj => ?_⟩, hl, by omega⟩
    obtain ⟨b, off, spot⟩ := x
    have hspot : spot = none := by simpa [Addr.add] using World.cell?_spot (hcell 0 (by omega))
    subst hspot
    have hc0 : w.cell? ⟨b, off + j, none⟩ = some (.int .i64 (zs.getD j 0)) := by
      rw [← hcell j (by omega), show (⟨b, off, none⟩ : Addr).add j = ⟨b, off + j, none⟩ by unfold Addr.add; split <;> simp_all]
    have he : (zs.take n)[j] = zs.getD j 0 := by
      rw [List.getElem_take, List.getD_eq_getElem?_getD, List.getElem?_eq_getElem (by omega)]
      rfl
    exact ⟨b, off, rfl, World.block_lt_of_cell? w _ hc0, by rw [hc0, he]⟩

end Go.Proofs.Ythnagcnfejgkmaa
