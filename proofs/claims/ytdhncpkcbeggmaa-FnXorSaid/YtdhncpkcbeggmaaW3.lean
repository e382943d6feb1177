/-
  The walk of laws.FnHex: it returns true at every code.
-/
import Derived.Test.YtdhncpkcbeggmaaCur
import Derived.Test.YtdhncpkcbeggmaaByte
import Derived.Test.YtdhncpkcbeggmaaDraw
import Derived.Test.YtdhncpkcbeggmaaHex
import Derived.Test.YtdhncpkcbeggmaaHexI
import Derived.Test.YtdhncpkcbeggmaaXorI
import Derived.Test.YtdhncpkcbeggmaaOnes
import Derived.Test.YtdhncpkcbeggmaaUnhexI
import Derived.Test.YtdhncpkcbeggmaaBytes
import Derived.Test.YtdhncpkcbeggmaaBent
import Derived.Test.YtdhncpkcbeggmaaDrawHex
import Derived.Test.YtdhncpkcbeggmaaKit
import Derived.Deep.RegionHeld3
import Derived.Deep.DrawnRows
import Derived.Deep.AppendLies
import Derived.WalkKit
import Derived.LoopTactic
import Derived.OwnWalk
import Derived.WalkLawsBesides
import Derived.WalkSpells
import Derived.Outline
import Derived.Laws.Pointers
import Derived.Deep.QuietTactic
import Derived.BigQuiet
import Derived.IntWalk
set_option linter.unusedVariables false
namespace Go.Proofs.Ytdhncpkcbeggmaa
open Go.RowKit

theorem CodeAt.up {w : World} {B C : Nat} {A : Option Addr} {len : Nat} (h : CodeAt w B A len) (hB : B ≤ C) : CodeAt w C A len := fun j hj => by
  obtain ⟨b, o, x, hA, hb, hx, hc⟩ := h j hj
  exact ⟨b, o, x, hA, Nat.lt_of_lt_of_le hb hB, hx, hc⟩
theorem dig_back : ∀ c : Fin 256, hexVal (hexDig (c.val / 16)) = ((c.val / 16 : Nat) : Int) ∧ hexVal (hexDig (c.val % 16)) = ((c.val % 16 : Nat) : Int) := by decide +kernel
theorem un_dig : ∀ c : Fin 256, unByte (hexDig (c.val / 16)) (hexDig (c.val % 16)) = UInt8.ofNat c.val := by decide +kernel
theorem unhex_hexOf (l : List UInt8) : unhex (hexOf l) = some l := by
  induction l with
  | nil => rfl
  | cons c l ih =>
    have h1 := dig_back ⟨c.toNat, c.toNat_lt⟩
    have h2 := un_dig ⟨c.toNat, c.toNat_lt⟩
    simp only at h1 h2
    rw [hexOf, unhex, if_pos ⟨by omega, by omega⟩, ih, h2]
    simp
theorem val_dig : ∀ c : Fin 256, hexVal (UInt8.ofNat c.val) < 0 ∨ hexDig (hexVal (UInt8.ofNat c.val)).toNat = UInt8.ofNat c.val := by decide +kernel
theorem val_dig_byte (c : UInt8) (h : 0 ≤ hexVal c) : hexDig (hexVal c).toNat = c := by
  have := val_dig ⟨c.toNat, c.toNat_lt⟩
  simp only [UInt8.ofNat_toNat] at this
  rcases this with h1 | h1
  · omega
  · exact h1
theorem hexOf_unhex : ∀ (n : Nat) (l r : List UInt8), l.length ≤ n → unhex l = some r → hexOf r = l
  | _, [], r, _, h => by simp [unhex] at h; subst h; rfl
  | _, [_], r, _, h => by simp [unhex] at h
  | 0, _ :: _ :: _, _, hn, _ => by simp at hn
  | n + 1, a :: b :: l, r, hn, h => by
    rw [unhex] at h
    split at h
    · rename_i hab
      obtain ⟨q, hq, rfl⟩ := Option.map_eq_some_iff.1 h
      have ih := hexOf_unhex n l q (by simp at hn; omega) hq
      have hv := unByte_val a b hab.1 hab.2
      have h1 := hexVal_bd a
      have h2 := hexVal_bd b
      rw [hexOf, ih, show (unByte a b).toNat / 16 = (hexVal a).toNat by omega, show (unByte a b).toNat % 16 = (hexVal b).toNat by omega, val_dig_byte a hab.1, val_dig_byte b hab.2]
    · cases h
def hexB (s : ByteArray) : ByteArray := ⟨(hexOf s.data.toList).toArray⟩
theorem hexB_size (s : ByteArray) : (hexB s).size = 2 * s.size := by
  have h1 : (hexB s).size = (hexOf s.data.toList).length := by simp [hexB, ByteArray.size]
  have h2 : s.data.toList.length = s.size := by simp
  rw [h1, hexOf_length, h2]
theorem hexB_data (s : ByteArray) : (hexB s).data.toList = hexOf s.data.toList := by simp [hexB]
theorem hexB_impl (s : ByteArray) (w : World) (hs : s.size ≤ 1073741824) : Calls Try.prog 12 #[.string s] w fun e w' => e = .returned (.string (hexB s)) ∧ Below w.heap.size w w' := hex_impl s w hs
theorem hexB_spec (s : ByteArray) (w : World) (hs : s.size ≤ 1073741824) : Calls Try.prog 16 #[.string s] w fun e w' => e = .returned (.string (hexB s)) ∧ Below w.heap.size w w' := hex_spec s w hs
theorem unhex_back (s : ByteArray) (w : World) (hs : s.size ≤ 65536) : Calls Try.prog 14 #[.string (hexB s)] w fun e w' => e = .returned (.tuple #[.string s, .bool true]) ∧ Below w.heap.size w w' := by
  have h := unhex_of_some (unhex_hexOf s.data.toList)
  refine (unhex_impl (hexB s) w (by rw [hexB_size]; omega)).mono fun e w' ⟨he, hb⟩ => ⟨?_, hb⟩
  rw [he, hexB_data, h.1, h.2]
/-- a text that is no digits: both tell the empty text and false; else both tell the same y, and its digits are the text. -/
theorem unhex_two (t : ByteArray) (ht : t.size ≤ 65536) :
    (∀ w, (Calls Try.prog 14 #[.string t] w fun e w' => e = .returned (.tuple #[.string ⟨#[]⟩, .bool false]) ∧ Below w.heap.size w w') ∧
      (Calls Try.prog 15 #[.string t] w fun e w' => e = .returned (.tuple #[.string ⟨#[]⟩, .bool false]) ∧ Below w.heap.size w w')) ∨
    ∃ y : ByteArray, hexB y = t ∧ y.size ≤ 65536 ∧ ∀ w, (Calls Try.prog 14 #[.string t] w fun e w' => e = .returned (.tuple #[.string y, .bool true]) ∧ Below w.heap.size w w') ∧
      (Calls Try.prog 15 #[.string t] w fun e w' => e = .returned (.tuple #[.string y, .bool true]) ∧ Below w.heap.size w w') := by
  rcases hu : unhex t.data.toList with _ | r
  · have h := unhex_of_none hu
    refine .inl fun w => ⟨(unhex_impl t w (by omega)).mono fun e w' ⟨he, hb⟩ => ⟨?_, hb⟩, (unhex_spec t w (by omega)).mono fun e w' ⟨he, hb⟩ => ⟨?_, hb⟩⟩
    · rw [he, h.1, h.2]
    · rw [he, h.1, h.2]
  · have h := unhex_of_some hu
    have hx := hexOf_unhex _ _ _ (Nat.le_refl _) hu
    have hy : hexB ⟨r.toArray⟩ = t := by
      unfold hexB
      simp only [hx]
    refine .inr ⟨⟨r.toArray⟩, hy, by have := hexB_size ⟨r.toArray⟩; rw [hy] at this; omega, fun w => ⟨(unhex_impl t w (by omega)).mono fun e w' ⟨he, hb⟩ => ⟨?_, hb⟩, (unhex_spec t w (by omega)).mono fun e w' ⟨he, hb⟩ => ⟨?_, hb⟩⟩⟩
    · rw [he, h.1, h.2]
    · rw [he, h.1, h.2]

set_option maxRecDepth 100000 in
set_option maxHeartbeats 1600000 in
theorem walk_FnHex (a0 : Option Addr) (len0 cap0 : Nat) (z0 : List Int) (w : World) (w0 : IsRow .u8 w a0 len0 cap0 z0) :
    Calls Try.prog 3 #[.slice a0 len0 cap0] w fun e w' => e = .returned (.bool true) ∧ Below w.heap.size w w' := by
  obtain ⟨hcode, hlen⟩ := w0.code
  clear w0
  by_cases hl : len0 ≤ 1048576
  · have H := Lib.hid hcode
    clear hcode
    go_enter Try.func3, Try.ntmps3
    go_wp2_with fail
    refine (big_small _ _ _ _ hl).mono ?_; rintro e w' ⟨rfl, rfl⟩
    go_wp2_with fail
    refine (draw_hex _ _ _ _ H.out hl).mono ?_; rintro e w1 ⟨s, rfl, hs, hb1⟩
    go_wp2_with fail
    refine (hexB_impl s _ (by omega)).mono ?_; rintro e w2 ⟨rfl, hb2⟩
    have hb12 := hb1.trans (hb2.mono hb1.size)
    clear hb1 hb2
    go_wp2_with fail
    refine (draw_unhex _ _ _ _ ((H.out.below hb12 (Nat.le_refl _)).up hb12.size) hl).mono ?_; rintro e w3 ⟨t, rfl, ht, hb3⟩
    have hb13 := hb12.trans (hb3.mono hb12.size)
    clear hb12 hb3
    have hsz : ((hexB s).size : Int) = 2 * (s.size : Int) := by have := hexB_size s; omega
    rcases unhex_two t ht with hno | ⟨y, hy, hys, hyes⟩
    · have HN := Lib.hid hno
      clear hno
      go_wp2_with fail
      refine (HN.out _).1.mono ?_; rintro e w4 ⟨rfl, hb4⟩
      have hb14 := hb13.trans (hb4.mono hb13.size)
      clear hb13 hb4
      go_wp2_with fail
      refine (HN.out _).2.mono ?_; rintro e w5 ⟨rfl, hb5⟩
      have hb15 := hb14.trans (hb5.mono hb14.size)
      clear hb14 hb5
      go_wp2_with fail
      refine (hexB_spec s _ (by omega)).mono ?_; rintro e w6 ⟨rfl, hb6⟩
      have hb16 := hb15.trans (hb6.mono hb15.size)
      clear hb15 hb6
      go_wp2_with fail
      refine (unhex_back s _ hs).mono ?_; rintro e w7 ⟨rfl, hb7⟩
      have hb17 := hb16.trans (hb7.mono hb16.size)
      clear hb16 hb7
      go_wp2
      go_ret
      exact ⟨rfl, hb17⟩
    · have HN := Lib.hid hyes
      have HY := Lib.hid hy
      clear hyes hy
      go_wp2_with fail
      refine (HN.out _).1.mono ?_; rintro e w4 ⟨rfl, hb4⟩
      have hb14 := hb13.trans (hb4.mono hb13.size)
      clear hb13 hb4
      go_wp2_with fail
      refine (HN.out _).2.mono ?_; rintro e w5 ⟨rfl, hb5⟩
      have hb15 := hb14.trans (hb5.mono hb14.size)
      clear hb14 hb5
      go_wp2_with fail
      refine (hexB_spec s _ (by omega)).mono ?_; rintro e w6 ⟨rfl, hb6⟩
      have hb16 := hb15.trans (hb6.mono hb15.size)
      clear hb15 hb6
      go_wp2_with fail
      refine (hexB_impl y _ (by omega)).mono ?_; rintro e w7 ⟨rfl, hb7⟩
      have hb17 := hb16.trans (hb7.mono hb16.size)
      clear hb16 hb7
      rw [HY.out]
      go_wp2_with fail
      refine (unhex_back s _ hs).mono ?_; rintro e w8 ⟨rfl, hb8⟩
      have hb18 := hb17.trans (hb8.mono hb17.size)
      clear hb17 hb8
      go_wp2
      go_ret
      exact ⟨rfl, hb18⟩
  · go_enter Try.func3, Try.ntmps3
    go_wp2_with fail
    refine (big_great _ _ _ _ (by omega) hlen).mono ?_; rintro e w' ⟨rfl, rfl⟩
    go_wp2
    go_ret
    exact ⟨rfl, Below.refl _ _⟩
end Go.Proofs.Ytdhncpkcbeggmaa
