/-
  Draws of texts that are padded, and of blocks that are counted.
-/
import Derived.Test.YtlmbgkcchekdmaaBent
import Derived.Test.YtlmbgkcchekdmaaDraws
import Derived.Test.YtlmbgkcchekdmaaPadS
set_option linter.unusedVariables false
namespace Go.Proofs.Ytlmbgkcchekdmaa
open Go.RowKit
attribute [local go_sem ↓] Go.wp_at_zero Go.wp_at_succ

set_option maxRecDepth 100000 in
set_option maxHeartbeats 1600000 in
theorem text11_any (w : World) (B g : Nat) (A : Option Addr) (len cap : Nat) (hc : CurIn w B g A len cap) :
    Calls Try.prog 28 #[.pointer (some ⟨g, 0, none⟩)] w fun e w' => ∃ s : ByteArray, e = .returned (.string s) ∧ s.size ≤ 100 ∧ CurIn w' B g A len cap ∧ w.grownBy w' (some g) := by
  go_enter Try.func28, Try.ntmps28
  go_wp2_with fail
  refine (below_any _ (by omega) (by omega) _ _ _ _ _ _ hc).mono ?_; rintro e w1 ⟨x, rfl, hx0, hx1, hc1, hg1⟩
  go_wp2_with fail
  refine (pickint_any (fun u => 0 ≤ u ∧ u ≤ 100) 9 w1.heap.size 3 _ (by omega) (by omega) _ _ _ _ _ _ (hc1.alloc _) (heap_alloc_new w1 _) hc1.lt (lits [0, 1, 15, 16, 17, 31, 32, 40, x] (by simp; omega))).mono ?_
  rintro e w2 ⟨u, rfl, ⟨hu0, hu1⟩, hc2, hg2⟩
  obtain ⟨n, rfl⟩ := Int.eq_ofNat_of_zero_le hu0
  go_wp2_with fail
  refine (bytes_any n (by omega) _ _ _ _ _ _ hc2).mono ?_; rintro e w3 ⟨s, rfl, hs, hc3, hg3⟩
  have HK : Hid (s.size ≤ 100) := Lib.hid (by omega)
  clear hs
  go_wp2
  go_ret
  exact ⟨_, rfl, HK.out, hc3, only_trans (only_trans (only_alloc hg1 _) hg2) hg3⟩
/-- a literal of sixteen bytes, as a text. -/
theorem lit16 (x : Int) (h0 : 0 ≤ x) (h1 : x ≤ 255) (w : World) :
    ∃ s : ByteArray, s.size = 16 ∧ (convert 22 9 (.slice (some ⟨w.heap.size, 0, none⟩) 16 16)).run Try.prog (w.alloc (.cells #[.int .u8 255, .int .u8 255, .int .u8 255, .int .u8 255, .int .u8 255, .int .u8 255, .int .u8 255, .int .u8 255, .int .u8 255, .int .u8 255, .int .u8 255, .int .u8 255, .int .u8 255, .int .u8 255, .int .u8 255, .int .u8 x] 5)) = .ok (.string s) (w.alloc (.cells #[.int .u8 255, .int .u8 255, .int .u8 255, .int .u8 255, .int .u8 255, .int .u8 255, .int .u8 255, .int .u8 255, .int .u8 255, .int .u8 255, .int .u8 255, .int .u8 255, .int .u8 255, .int .u8 255, .int .u8 255, .int .u8 x] 5)) := by
  rw [cell_byte x h0 h1]
  have h : (w.alloc (.cells #[cell8 255, cell8 255, cell8 255, cell8 255, cell8 255, cell8 255, cell8 255, cell8 255, cell8 255, cell8 255, cell8 255, cell8 255, cell8 255, cell8 255, cell8 255, cell8 (UInt8.ofNat x.toNat)] 5)).ownsRow w.heap.size 5 1 (.slice (some ⟨w.heap.size, 0, none⟩) 16 16) 16 (cells8 [255, 255, 255, 255, 255, 255, 255, 255, 255, 255, 255, 255, 255, 255, 255, UInt8.ofNat x.toNat]) :=
    World.ownsRow_lit w (e := 5) (size := 1) #[cell8 255, cell8 255, cell8 255, cell8 255, cell8 255, cell8 255, cell8 255, cell8 255, cell8 255, cell8 255, cell8 255, cell8 255, cell8 255, cell8 255, cell8 255, cell8 (UInt8.ofNat x.toNat)] 16 (Nat.le_refl w.heap.size) (by unfold maxLen; omega) rfl
  exact ⟨_, rfl, run_string_own Try.underlying22 Try.underlying5 Try.underlying9 h⟩
set_option maxRecDepth 100000 in
set_option maxHeartbeats 1600000 in
theorem block11_any (w : World) (B g : Nat) (A : Option Addr) (len cap : Nat) (hc : CurIn w B g A len cap) :
    Calls Try.prog 36 #[.pointer (some ⟨g, 0, none⟩)] w fun e w' => ∃ s : ByteArray, e = .returned (.string s) ∧ s.size ≤ 1000 ∧ CurIn w' B g A len cap ∧ w.grownBy w' (some g) := by
  go_enter Try.func36, Try.ntmps36
  go_wp2_with fail
  refine (once_any _ (by omega) (by omega) _ _ _ _ _ _ hc).mono ?_; rintro e w1 ⟨x, rfl, hc1, hg1⟩
  cases x with
  | true =>
    go_wp2_with fail
    refine (pickint_any (fun u => 0 ≤ u ∧ u ≤ 255) 5 w1.heap.size 3 _ (by omega) (by omega) _ _ _ _ _ _ (hc1.alloc _) (heap_alloc_new w1 _) hc1.lt (lits [255, 254, 253, 240, 0] (by simp))).mono ?_
    rintro e w2 ⟨u, rfl, ⟨hu0, hu1⟩, hc2, hg2⟩
    obtain ⟨s, hs, hconv⟩ := lit16 u hu0 hu1 w2
    have HK : Hid (s.size ≤ 1000) := Lib.hid (by omega)
    have hc3 := Lib.hid (hc2.alloc (.cells #[.int .u8 255, .int .u8 255, .int .u8 255, .int .u8 255, .int .u8 255, .int .u8 255, .int .u8 255, .int .u8 255, .int .u8 255, .int .u8 255, .int .u8 255, .int .u8 255, .int .u8 255, .int .u8 255, .int .u8 255, .int .u8 u] 5))
    have hg3 := Lib.hid (only_alloc (only_trans (only_alloc hg1 _) hg2) (.cells #[.int .u8 255, .int .u8 255, .int .u8 255, .int .u8 255, .int .u8 255, .int .u8 255, .int .u8 255, .int .u8 255, .int .u8 255, .int .u8 255, .int .u8 255, .int .u8 255, .int .u8 255, .int .u8 255, .int .u8 255, .int .u8 u] 5))
    clear hs
    go_wp2
    go_ret
    exact ⟨_, rfl, HK.out, hc3.out, hg3.out⟩
  | false =>
    go_wp2_with fail
    refine (block_any _ _ _ _ _ _ hc1).mono ?_; rintro e w2 ⟨s, rfl, hs, hc2, hg2⟩
    have HK : Hid (s.size ≤ 1000) := Lib.hid hs
    clear hs
    go_wp2
    go_ret
    exact ⟨_, rfl, HK.out, hc2, only_trans hg1 hg2⟩
set_option maxRecDepth 100000 in
set_option maxHeartbeats 1600000 in
theorem draw_Pad (w : World) (A : Option Addr) (len cap : Nat) (hcode : CodeAt w w.heap.size A len) (hl : len ≤ 1048576) :
    Calls Try.prog 12 #[.slice A len cap] w fun e w' => ∃ s : ByteArray, e = .returned (.string s) ∧ s.size ≤ 1000 ∧ Below w.heap.size w w' := by
  have H := Lib.hid hcode
  clear hcode
  go_enter Try.func12, Try.ntmps12
  go_wp2_with fail
  refine (new_any _ _ _ _ H.out hl).mono ?_; rintro e w1 ⟨g, rfl, hc1, hb1⟩
  go_wp2_with fail
  refine (text11_any _ _ _ _ _ _ hc1).mono ?_; rintro e w2 ⟨s, rfl, hs, hc2, hg2⟩
  have HX : Hid (s.size ≤ 1000) := Lib.hid (by omega)
  clear hs
  go_wp2
  go_ret
  exact ⟨_, rfl, HX.out, below_only hb1 hg2 hc1.1 hb1.size⟩
set_option maxRecDepth 100000 in
set_option maxHeartbeats 1600000 in
theorem draw_Unpad (w : World) (A : Option Addr) (len cap : Nat) (hcode : CodeAt w w.heap.size A len) (hl : len ≤ 1048576) :
    Calls Try.prog 14 #[.slice A len cap] w fun e w' => ∃ s : ByteArray, e = .returned (.string s) ∧ s.size ≤ 1000 ∧ Below w.heap.size w w' := by
  have H := Lib.hid hcode
  clear hcode
  go_enter Try.func14, Try.ntmps14
  go_wp2_with fail
  refine (new_any _ _ _ _ H.out hl).mono ?_; rintro e w1 ⟨g, rfl, hc1, hb1⟩
  go_wp2_with fail
  refine (once_any _ (by omega) (by omega) _ _ _ _ _ _ hc1).mono ?_; rintro e w2 ⟨x, rfl, hc2, hg2⟩
  have hb2 := below_only hb1 hg2 hc1.1 hb1.size
  have HL := Lib.hid hc1.1
  clear hg2 hb1 hc1
  cases x with
  | true =>
    go_wp2_with fail
    refine (pickint_any (fun u => 0 ≤ u ∧ u ≤ 100) 4 w2.heap.size 3 _ (by omega) (by omega) _ _ _ _ _ _ (hc2.alloc _) (heap_alloc_new w2 _) hc2.lt (lits [0, 15, 16, 32] (by simp))).mono ?_
    rintro e w3 ⟨u, rfl, ⟨hu0, hu1⟩, hc3, hg3⟩
    obtain ⟨n, rfl⟩ := Int.eq_ofNat_of_zero_le hu0
    go_wp2_with fail
    refine (bytes_any n (by omega) _ _ _ _ _ _ hc3).mono ?_; rintro e w4 ⟨s, rfl, hs, hc4, hg4⟩
    have HK : Hid (s.size ≤ 1000) := Lib.hid (by omega)
    clear hs
    go_wp2
    go_ret
    have hb3 := below_only (hb2.alloc hb2.size _) (only_trans hg3 hg4) HL.out (by simp; have := hb2.size; omega)
    exact ⟨_, rfl, HK.out, hb3⟩
  | false =>
    go_wp2_with fail
    refine (text11_any _ _ _ _ _ _ hc2).mono ?_; rintro e w3 ⟨s, rfl, hs, hc3, hg3⟩
    have HP := fun W => Lib.hid (Pad_spec s (by omega) W)
    have hps : (padT s).size ≤ 116 := by rw [padT_size]; have := padN_in s; omega
    generalize padT s = t at *
    go_wp2_with fail
    refine (HP _).out.mono ?_; rintro e w4 ⟨rfl, hb4⟩
    have hc4 : CurIn w4 _ _ _ _ _ := hc3.grown ⟨hb4.os, hb4.tape, hb4.output, hb4.size, fun k hk _ => hb4.block k hk⟩ (row := none) (fun _ e => by cases e)
    have hb5 := (below_only hb2 hg3 HL.out hb2.size)
    have hb6 := hb5.trans (hb4.mono hb5.size)
    clear hb4 hg3 hb2 hb5 hc3
    go_wp2_with fail
    refine (bent_any t (by omega) _ _ _ _ _ _ hc4).mono ?_; rintro e w5 ⟨r, rfl, hr, hc5, hg5⟩
    have HK : Hid (r.size ≤ 1000) := Lib.hid (by omega)
    clear hr
    go_wp2
    go_ret
    exact ⟨_, rfl, HK.out, below_only hb6 hg5 HL.out hb6.size⟩
set_option maxRecDepth 100000 in
set_option maxHeartbeats 1600000 in
theorem draw_Doubled (w : World) (A : Option Addr) (len cap : Nat) (hcode : CodeAt w w.heap.size A len) (hl : len ≤ 1048576) :
    Calls Try.prog 22 #[.slice A len cap] w fun e w' => ∃ s : ByteArray, e = .returned (.string s) ∧ s.size ≤ 1000 ∧ Below w.heap.size w w' := by
  have H := Lib.hid hcode
  clear hcode
  go_enter Try.func22, Try.ntmps22
  go_wp2_with fail
  refine (new_any _ _ _ _ H.out hl).mono ?_; rintro e w1 ⟨g, rfl, hc1, hb1⟩
  go_wp2_with fail
  refine (block11_any _ _ _ _ _ _ hc1).mono ?_; rintro e w2 ⟨s, rfl, hs, hc2, hg2⟩
  have HX := Lib.hid hs
  clear hs
  go_wp2
  go_ret
  exact ⟨_, rfl, HX.out, below_only hb1 hg2 hc1.1 hb1.size⟩
set_option maxRecDepth 100000 in
set_option maxHeartbeats 1600000 in
theorem draw_Count (w : World) (A : Option Addr) (len cap : Nat) (hcode : CodeAt w w.heap.size A len) (hl : len ≤ 1048576) :
    Calls Try.prog 18 #[.slice A len cap] w fun e w' => ∃ (s : ByteArray) (n : Int), e = .returned (.tuple #[.string s, .int .i64 n]) ∧ s.size ≤ 1000 ∧ (-1 ≤ n ∧ n ≤ 9223372036854775807) ∧ Below w.heap.size w w' := by
  have H := Lib.hid hcode
  clear hcode
  go_enter Try.func18, Try.ntmps18
  go_wp2_with fail
  refine (new_any _ _ _ _ H.out hl).mono ?_; rintro e w1 ⟨g, rfl, hc1, hb1⟩
  go_wp2_with fail
  refine (block11_any _ _ _ _ _ _ hc1).mono ?_; rintro e w2 ⟨s, rfl, hs, hc2, hg2⟩
  have HX := Lib.hid hs
  have hb2 := below_only hb1 hg2 hc1.1 hb1.size
  have HL := Lib.hid hc1.1
  clear hs hg2 hb1 hc1
  go_wp2_with fail
  refine (below_any _ (by omega) (by omega) _ _ _ _ _ _ hc2).mono ?_; rintro e w3 ⟨x, rfl, hx0, hx1, hc3, hg3⟩
  go_wp2_with fail
  refine (pickint_any (fun u => -1 ≤ u ∧ u ≤ 9223372036854775807) 8 w3.heap.size 3 _ (by omega) (by omega) _ _ _ _ _ _ (hc3.alloc _) (heap_alloc_new w3 _) hc3.lt (lits [0, 1, 2, 255, 256, 9223372036854775807, -1, x] (by simp; omega))).mono ?_
  rintro e w4 ⟨u, rfl, hu, hc4, hg4⟩
  have HU := Lib.hid hu
  clear hu
  have hb4 := Lib.hid (below_only hb2 (only_trans (only_alloc hg3 _) hg4) HL.out hb2.size)
  clear hb2 hg3 hg4
  go_wp2
  go_ret2
  exact ⟨_, _, rfl, HX.out, HU.out, hb4.out⟩
end Go.Proofs.Ytlmbgkcchekdmaa
