/-
  What impl.affine, impl.unaffine and their faces answer; math/bits.RotateLeft8 walked.
-/
import Derived.Test.YthnagcnfejgkmaaFieldI
import Derived.Test.YthnagcnfejgkmaaFieldS
import Derived.Test.YthnagcnfejgkmaaPlaneMath
import Derived.Test.YthnagcnfejgkmaaInts
import Derived.Test.YthnagcnfejgkmaaBoxMath
import Derived.Test.YthnagcnfejgkmaaPlane
import Derived.WalkKit
import Derived.LoopTactic
import Derived.OwnWalk
import Derived.WalkLawsBesides
import Derived.WalkSpells
import Derived.Outline
import Derived.Below
set_option linter.unusedVariables false
namespace Go.Proofs.Ythnagcnfejgkmaa
open Go.RowKit

theorem neg_and7 : ∀ n : Fin 8, bits .and .u64 (IntKind.u64.wrap (-(n.val : Int))) 7 = ((((8 - (n.val : Int)) % 8).toNat : Nat) : Int) := by decide +kernel
theorem rotr_val (c : UInt8) (p : Int) (s : Nat) (hs : s = ((8 - p) % 8).toNat) : bits .or .u8 ((c.toNat : Int) * 2 ^ s % 256) ((c.toNat : Int) / 2 ^ (8 - s)) = ((rotr c p).toNat : Int) := by
  have hc := c.toNat_lt
  have h8 : s ≤ 8 := by omega
  unfold rotr
  rw [← hs, rotl_nat c s h8]
  have e1 : (c.toNat : Int) * 2 ^ s % 256 = ((c.toNat * 2 ^ s % 256 : Nat) : Int) := by rw [Int.natCast_emod, Int.natCast_mul, Int.natCast_pow]; rfl
  have e2 : (c.toNat : Int) / 2 ^ (8 - s) = ((c.toNat / 2 ^ (8 - s) : Nat) : Int) := by rw [Int.natCast_ediv, Int.natCast_pow]; rfl
  have e3 : c.toNat / 2 ^ (8 - s) < 256 := Nat.lt_of_le_of_lt (Nat.div_le_self _ _) hc
  rw [e1, e2, u8_or_nat _ _ (Nat.mod_lt _ (by omega)) e3]
theorem rot8 (c : UInt8) (p : Int) (h0 : 0 ≤ p) (h7 : p ≤ 7) (w : World) :
    Calls Try.prog 58 #[.int .u8 c.toNat, .int .i64 (-p)] w fun e w' => e = .returned (.int .u8 (rotr c p).toNat) ∧ w = w' := by
  obtain ⟨n, rfl⟩ := Int.eq_ofNat_of_zero_le h0
  obtain ⟨s, hs⟩ : ∃ s, s = ((8 - (n : Int)) % 8).toNat := ⟨_, rfl⟩
  have HV := Lib.hid (rotr_val c n s hs)
  have hA := neg_and7 ⟨n, by omega⟩
  simp only at hA
  rw [← hs] at hA
  have hs8 : s < 8 := by omega
  clear hs h0 h7
  generalize -(n : Int) = q at *
  have hs0 : (0 : Int) ≤ (s : Int) := by omega
  have hs1 : (s : Int) < 8 := by omega
  have hs2 : (s : Int) ≤ 8 := by omega
  go_enter Try.func58, Try.ntmps58
  go_wp2
  go_ret
  exact ⟨ret_i HV.out, rfl⟩
def Places (l : List Int) : Prop := ∀ x ∈ l, 0 ≤ x ∧ x ≤ 7
set_option maxHeartbeats 800000 in
theorem sum_impl (b : UInt8) (w : World) (A : Option Addr) (n c : Nat) (l : List Int) (h : IRow w A n l) (hp : Places l) (hn : n ≤ 100) (hc : n ≤ c) (hc2 : c ≤ 9223372036854775807) :
    Calls Try.prog 52 #[.int .u8 b.toNat, .slice A n c] w fun e w' => e = .returned (.int .u8 (turns b l n).toNat) ∧ w = w' := by
  have H := Lib.hid h
  have HP := Lib.hid hp
  clear h hp
  go_enter Try.func52, Try.ntmps52
  go_wp2
  go_loop [5, 10] (fun p i => ∃ (k : Nat), k ≤ n ∧ i = .int .i64 k ∧ p = .int .u8 (turns b l k).toNat) (fun _ i => n - (intOf i).toNat)
  case atStart => exact ⟨0, by omega, rfl, rfl⟩
  case round =>
    obtain ⟨k, hk, rfl, rfl⟩ := hrel
    by_cases hlt : k < n
    · have hkl : k < l.length := by have := H.out.1; omega
      obtain ⟨g', o', rfl, hg, hcell⟩ := H.out.2 k hkl
      have hr := HP.out l[k] (List.getElem_mem hkl)
      rw [rowOf_at l k hkl] at hcell hr
      have HT : Hid (turns b l (k + 1) = turns b l k ^^^ rotr b (rowOf l k)) := Lib.hid rfl
      have HU := Lib.hid ((u8_x (turns b l k) (rotr b (rowOf l k))).trans (by rw [← HT.out]))
      have hk0 : (0 : Int) ≤ (k : Int) := by omega
      have hk1 : (k : Int) < (n : Int) := by omega
      generalize rowOf l k = x at *
      obtain ⟨hr0, hr1⟩ := hr
      go_wp2_with (go_at_call 58; refine (rot8 _ _ hr0 hr1 _).mono ?_; rintro e w' ⟨rfl, rfl⟩)
      go_round
      case rel => exact ⟨k + 1, by omega, by go_num, val_i HU.out⟩
      case measure => simp [intOf]; omega
    · obtain rfl : k = n := by omega
      have hk1 : ¬ (k : Int) < (k : Int) := by omega
      go_wp2
      go_ret
      exact ⟨rfl, rfl⟩
theorem places_aff : Places [0, 4, 5, 6, 7] := by unfold Places; decide
theorem places_un : Places [2, 5, 7] := by unfold Places; decide
theorem aff_block (b : UInt8) (w : World) (T : TypeId) : Calls Try.prog 52 #[.int .u8 b.toNat, .slice (some ⟨w.heap.size, 0, none⟩) 5 5] (w.alloc (.cells #[.int .i64 0, .int .i64 4, .int .i64 5, .int .i64 6, .int .i64 7] T)) fun e w' => e = .returned (.int .u8 (turns b [0, 4, 5, 6, 7] 5).toNat) ∧ (w.alloc (.cells #[.int .i64 0, .int .i64 4, .int .i64 5, .int .i64 6, .int .i64 7] T)) = w' :=
  sum_impl b _ _ 5 5 [0, 4, 5, 6, 7] (irow_block [0, 4, 5, 6, 7] (heap_alloc_new w _)) places_aff (by omega) (by omega) (by omega)
theorem affine_impl (c : UInt8) (w : World) :
    Calls Try.prog 37 #[.int .u8 c.toNat] w fun e w' => e = .returned (.int .u8 (aff c).toNat) ∧ Below w.heap.size w w' := by
  have HA : bits .xor .u8 ((turns c [0, 4, 5, 6, 7] 5).toNat : Int) 99 = ((aff c).toNat : Int) := (u8_x (turns c [0, 4, 5, 6, 7] 5) 99).trans (by rw [turns_aff])
  go_enter Try.func37, Try.ntmps37
  go_wp2_with fail
  refine (aff_block c w _).mono ?_; rintro e w' ⟨rfl, rfl⟩
  go_wp2
  go_ret
  exact ⟨rfl, (Below.refl _ _).alloc (Nat.le_refl _) _⟩
theorem un_block (b : UInt8) (w : World) (T : TypeId) : Calls Try.prog 52 #[.int .u8 b.toNat, .slice (some ⟨w.heap.size, 0, none⟩) 3 3] (w.alloc (.cells #[.int .i64 2, .int .i64 5, .int .i64 7] T)) fun e w' => e = .returned (.int .u8 (turns b [2, 5, 7] 3).toNat) ∧ (w.alloc (.cells #[.int .i64 2, .int .i64 5, .int .i64 7] T)) = w' :=
  sum_impl b _ _ 3 3 [2, 5, 7] (irow_block [2, 5, 7] (heap_alloc_new w _)) places_un (by omega) (by omega) (by omega)
theorem unaffine_impl (c : UInt8) (w : World) :
    Calls Try.prog 38 #[.int .u8 c.toNat] w fun e w' => e = .returned (.int .u8 (unaff c).toNat) ∧ Below w.heap.size w w' := by
  have HX : bits .xor .u8 (c.toNat : Int) 99 = ((c ^^^ 99).toNat : Int) := u8_x c 99
  have HA := Lib.hid (turns_unaff c)
  go_enter Try.func38, Try.ntmps38
  go_wp2_with fail
  refine (un_block (c ^^^ 99) w _).mono ?_; rintro e w' ⟨rfl, rfl⟩
  go_wp2
  go_ret
  exact ⟨ret_i (by rw [HA.out]), (Below.refl _ _).alloc (Nat.le_refl _) _⟩
theorem affine_mod (a : Int) (w : World) :
    Calls Try.prog 37 #[.int .u8 (a % 256)] w fun e w' => e = .returned (.int .u8 (aff (b8 a)).toNat) ∧ Below w.heap.size w w' := by
  rw [← b8_val]; exact affine_impl _ w
theorem unaffine_mod (a : Int) (w : World) :
    Calls Try.prog 38 #[.int .u8 (a % 256)] w fun e w' => e = .returned (.int .u8 (unaff (b8 a)).toNat) ∧ Below w.heap.size w w' := by
  rw [← b8_val]; exact unaffine_impl _ w
theorem Affine_impl (a : Int) (w : World) :
    Calls Try.prog 16 #[.int .i64 a] w fun e w' => e = .returned (.int .i64 (aff (b8 a)).toNat) ∧ Below w.heap.size w w' := by
  have h2 := (aff (b8 a)).toNat_lt
  go_enter Try.func16, Try.ntmps16
  go_wp2_with fail
  refine (affine_mod _ _).mono ?_; rintro e w1 ⟨rfl, hb⟩
  go_wp2
  go_ret
  exact ⟨rfl, hb⟩
theorem Unaffine_impl (a : Int) (w : World) :
    Calls Try.prog 17 #[.int .i64 a] w fun e w' => e = .returned (.int .i64 (unaff (b8 a)).toNat) ∧ Below w.heap.size w w' := by
  have h2 := (unaff (b8 a)).toNat_lt
  go_enter Try.func17, Try.ntmps17
  go_wp2_with fail
  refine (unaffine_mod _ _).mono ?_; rintro e w1 ⟨rfl, hb⟩
  go_wp2
  go_ret
  exact ⟨rfl, hb⟩
end Go.Proofs.Ythnagcnfejgkmaa
