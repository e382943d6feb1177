/-
  Draws of stage 10: texts of blocks, engines; and that what is locked in blocks comes back.
-/
import Derived.Test.YtkklkcajllpjpaaGreatDoorEachS
import Derived.Test.YtkklkcajllpjpaaGreatDoorDraws
import Derived.Test.YtkklkcajllpjpaaGreatDoorBase
set_option linter.unusedVariables false
set_option linter.unusedSimpArgs false
namespace Go.Proofs.YtkklkcajllpjpaaGreatDoor
open Go Go.RowKit
attribute [local go_sem ↓] Go.wp_at_zero Go.wp_at_succ

theorem slT_inv (bk : Bool) (key s : ByteArray) (hk : kOk key) (h : s.size % 16 = 0) : slT (!bk) key (slT bk key s) = s := by
  have hz := slT_size bk key s hk h
  rw [slT_yes (!bk) key _ hk (by rw [hz]; exact h), hz]
  refine Eq.trans (txt_ext _ (byteOf s) s.size fun i hi => ?_) (txt_own s s.size rfl)
  rw [slT_yes bk key s hk h]
  have e1 : blk (byteOf (txt (eachB (wayT bk key) (byteOf s)) s.size)) (i / 16) = wayT bk key (blk (byteOf s) (i / 16)) := by
    rw [← eachB_blk (wayT bk key) (fun b hb => wayT_size bk key b hk hb)]
    exact blk_ext fun k hk2 => txt_byte _ _ _ (by omega)
  show byteOf (wayT (!bk) key (blk (byteOf (txt (eachB (wayT bk key) (byteOf s)) s.size)) (i / 16))) (i % 16) = byteOf s i
  rw [e1, wayT_inv bk key _ hk (blk_size _ _), blk_byte _ _ _ (by omega), show 16 * (i / 16) + i % 16 = i by omega]
theorem slT_blk (bk : Bool) (key s : ByteArray) (hk : kOk key) (h : s.size % 16 = 0) (j : Nat) (hj : 16 * j + 16 ≤ s.size) : blk (byteOf (slT bk key s)) j = wayT bk key (blk (byteOf s) j) := by
  rw [slT_yes bk key s hk h, ← eachB_blk (wayT bk key) (fun b hb => wayT_size bk key b hk hb)]
  exact blk_ext fun k hk2 => txt_byte _ _ _ (by omega)
set_option maxRecDepth 100000 in
set_option maxHeartbeats 1600000 in
theorem text10_any (w : World) (B g : Nat) (A : Option Addr) (len cap : Nat) (hc : CurIn w B g A len cap) :
    Calls Tryz.prog 49 #[.pointer (some ⟨g, 0, none⟩)] w fun e w' => ∃ s : ByteArray, e = .returned (.string s) ∧ s.size ≤ 1000 ∧ CurIn w' B g A len cap ∧ w.grownBy w' (some g) := by
  go_enter Tryz.func49, Tryz.ntmps49
  go_wp2_with fail
  refine (pickint_any (fun u => 0 ≤ u ∧ u ≤ 80) 9 w.heap.size 3 _ (by omega) (by omega) _ _ _ _ _ _ (hc.alloc _) (heap_alloc_new w _) hc.lt (lits [0, 16, 16, 32, 48, 64, 80, 15, 17] (by simp))).mono ?_
  rintro e w2 ⟨u, rfl, ⟨hu0, hu1⟩, hc2, hg2⟩
  obtain ⟨n, rfl⟩ := Int.eq_ofNat_of_zero_le hu0
  go_wp2_with fail
  refine (bytes_any n (by omega) _ _ _ _ _ _ hc2).mono ?_; rintro e w3 ⟨s, rfl, hs, hc3, hg3⟩
  have HK : Hid (s.size ≤ 1000) := Lib.hid (by omega)
  clear hs
  go_wp2
  go_ret
  exact ⟨_, rfl, HK.out, hc3, only_trans (only_trans (only_alloc (only_refl _ _) _) hg2) hg3⟩
set_option maxRecDepth 100000 in
set_option maxHeartbeats 1600000 in
theorem engine10_any (w : World) (B g : Nat) (A : Option Addr) (len cap : Nat) (hc : CurIn w B g A len cap) :
    Calls Tryz.prog 51 #[.pointer (some ⟨g, 0, none⟩)] w fun e w' => ∃ n : Int, e = .returned (.int .i64 n) ∧ CurIn w' B g A len cap ∧ w.grownBy w' (some g) := by
  go_enter Tryz.func51, Tryz.ntmps51
  go_wp2_with fail
  refine (pickint_any (fun u => True) 11 w.heap.size 3 _ (by omega) (by omega) _ _ _ _ _ _ (hc.alloc _) (heap_alloc_new w _) hc.lt (lits [0, 1, 2, 0, 1, 2, 0, 1, 2, 3, -1] (by simp))).mono ?_
  rintro e w2 ⟨u, rfl, -, hc2, hg2⟩
  go_wp2
  go_ret
  exact ⟨_, rfl, hc2, only_trans (only_alloc (only_refl _ _) _) hg2⟩
set_option maxRecDepth 100000 in
set_option maxHeartbeats 1600000 in
theorem draw_LockSliced (w : World) (A : Option Addr) (len cap : Nat) (hcode : CodeAt w w.heap.size A len) (hl : len ≤ 1048576) :
    Calls Tryz.prog 19 #[.slice A len cap] w fun e w' => ∃ (k s : ByteArray), e = .returned (.tuple #[.string k, .string s]) ∧ k.size ≤ 1000 ∧ s.size ≤ 1000 ∧ Below w.heap.size w w' := by
  have H := Lib.hid hcode
  clear hcode
  go_enter Tryz.func19, Tryz.ntmps19
  go_wp2_with fail
  refine (new_any _ _ _ _ H.out hl).mono ?_; rintro e w1 ⟨g, rfl, hc1, hb1⟩
  go_wp2_with fail
  refine (odd_any _ _ _ _ _ _ hc1).mono ?_; rintro e w2 ⟨k, rfl, hk, hc2, hg2⟩
  have HX := Lib.hid hk
  clear hk
  go_wp2_with fail
  refine (text10_any _ _ _ _ _ _ hc2).mono ?_; rintro e w3 ⟨s, rfl, hs, hc3, hg3⟩
  have HU := Lib.hid hs
  clear hs
  go_wp2
  go_ret2
  exact ⟨_, _, rfl, HX.out, HU.out, below_only hb1 (only_trans hg2 hg3) hc1.1 hb1.size⟩
set_option maxRecDepth 100000 in
set_option maxHeartbeats 1600000 in
theorem draw_LockBlocks (w : World) (A : Option Addr) (len cap : Nat) (hcode : CodeAt w w.heap.size A len) (hl : len ≤ 1048576) :
    Calls Tryz.prog 26 #[.slice A len cap] w fun e w' => ∃ (n : Int) (k s : ByteArray), e = .returned (.tuple #[.int .i64 n, .string k, .string s]) ∧ k.size ≤ 1000 ∧ s.size ≤ 1000 ∧ Below w.heap.size w w' := by
  have H := Lib.hid hcode
  clear hcode
  go_enter Tryz.func26, Tryz.ntmps26
  go_wp2_with fail
  refine (new_any _ _ _ _ H.out hl).mono ?_; rintro e w1 ⟨g, rfl, hc1, hb1⟩
  go_wp2_with fail
  refine (engine10_any _ _ _ _ _ _ hc1).mono ?_; rintro e w1a ⟨n, rfl, hc1a, hg1a⟩
  go_wp2_with fail
  refine (odd_any _ _ _ _ _ _ hc1a).mono ?_; rintro e w2 ⟨k, rfl, hk, hc2, hg2⟩
  have HX := Lib.hid hk
  clear hk
  go_wp2_with fail
  refine (text10_any _ _ _ _ _ _ hc2).mono ?_; rintro e w3 ⟨s, rfl, hs, hc3, hg3⟩
  have HU := Lib.hid hs
  clear hs
  go_wp2
  refine bodyPost_ret (v := .tuple #[.int .i64 n, .string k, .string s]) ?_ rfl ⟨_, _, _, rfl, HX.out, HU.out, below_only hb1 (only_trans hg1a (only_trans hg2 hg3)) hc1.1 hb1.size⟩
  kernel_rfl
set_option maxRecDepth 100000 in
set_option maxHeartbeats 1600000 in
theorem draw_UnlockSliced (w : World) (A : Option Addr) (len cap : Nat) (hcode : CodeAt w w.heap.size A len) (hl : len ≤ 1048576) :
    Calls Tryz.prog 20 #[.slice A len cap] w fun e w' => ∃ (k s : ByteArray), e = .returned (.tuple #[.string k, .string s]) ∧ k.size ≤ 1000 ∧ s.size ≤ 1000 ∧ Below w.heap.size w w' := by
  have H := Lib.hid hcode
  clear hcode
  go_enter Tryz.func20, Tryz.ntmps20
  go_wp2_with fail
  refine (new_any _ _ _ _ H.out hl).mono ?_; rintro e w1 ⟨g, rfl, hc1, hb1⟩
  go_wp2_with fail
  refine (odd_any _ _ _ _ _ _ hc1).mono ?_; rintro e w2 ⟨k, rfl, hk, hc2, hg2⟩
  have HX := Lib.hid hk
  clear hk
  go_wp2_with fail
  refine (text10_any _ _ _ _ _ _ hc2).mono ?_; rintro e w3 ⟨s, rfl, hs, hc3, hg3⟩
  have HU := Lib.hid hs
  clear hs
  go_wp2
  go_ret2
  exact ⟨_, _, rfl, HX.out, HU.out, below_only hb1 (only_trans hg2 hg3) hc1.1 hb1.size⟩
set_option maxRecDepth 100000 in
set_option maxHeartbeats 1600000 in
theorem draw_UnlockBlocks (w : World) (A : Option Addr) (len cap : Nat) (hcode : CodeAt w w.heap.size A len) (hl : len ≤ 1048576) :
    Calls Tryz.prog 27 #[.slice A len cap] w fun e w' => ∃ (n : Int) (k s : ByteArray), e = .returned (.tuple #[.int .i64 n, .string k, .string s]) ∧ k.size ≤ 1000 ∧ s.size ≤ 1000 ∧ Below w.heap.size w w' := by
  have H := Lib.hid hcode
  clear hcode
  go_enter Tryz.func27, Tryz.ntmps27
  go_wp2_with fail
  refine (new_any _ _ _ _ H.out hl).mono ?_; rintro e w1 ⟨g, rfl, hc1, hb1⟩
  go_wp2_with fail
  refine (engine10_any _ _ _ _ _ _ hc1).mono ?_; rintro e w1a ⟨n, rfl, hc1a, hg1a⟩
  go_wp2_with fail
  refine (odd_any _ _ _ _ _ _ hc1a).mono ?_; rintro e w2 ⟨k, rfl, hk, hc2, hg2⟩
  have HX := Lib.hid hk
  clear hk
  go_wp2_with fail
  refine (text10_any _ _ _ _ _ _ hc2).mono ?_; rintro e w3 ⟨s, rfl, hs, hc3, hg3⟩
  have HU := Lib.hid hs
  clear hs
  go_wp2
  refine bodyPost_ret (v := .tuple #[.int .i64 n, .string k, .string s]) ?_ rfl ⟨_, _, _, rfl, HX.out, HU.out, below_only hb1 (only_trans hg1a (only_trans hg2 hg3)) hc1.1 hb1.size⟩
  kernel_rfl
end Go.Proofs.YtkklkcajllpjpaaGreatDoor
