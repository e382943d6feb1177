/-
  What spec's Pad and Unpad answer.
-/
import Derived.Test.YtlmbgkcchekdmaaPadMath
import Derived.Test.YtlmbgkcchekdmaaBase
import Derived.WalkKit
import Derived.LoopTactic
import Derived.OwnWalk
import Derived.WalkLawsBesides
import Derived.WalkSpells
import Derived.Outline
import Derived.Below
import Derived.IntWalk
import Derived.Laws.OwnMore
set_option linter.unusedVariables false
set_option linter.unusedSimpArgs false
namespace Go.Proofs.Ytlmbgkcchekdmaa
open Go.RowKit

theorem txt_up (f : Nat → UInt8) (k : Nat) : txt f (k + 1) = txt f k ++ ⟨#[f k]⟩ := by
  apply ByteArray.ext
  apply Array.ext'
  rw [ByteArray.data_append, Array.toList_append]
  show upTo f (k + 1) = upTo f k ++ [f k]
  rw [upTo_succ]
/-- a text with k bytes b behind it. -/
def moreT (s : ByteArray) (b : UInt8) (k : Nat) : ByteArray := s ++ txt (fun _ => b) k
theorem moreT_0 (s : ByteArray) (b : UInt8) : moreT s b 0 = s := by
  unfold moreT; exact ByteArray.append_empty
theorem moreT_up (s : ByteArray) (b : UInt8) (k : Nat) : moreT s b k ++ ⟨#[b]⟩ = moreT s b (k + 1) := by
  unfold moreT; rw [txt_up, ByteArray.append_assoc]
theorem moreT_size (s : ByteArray) (b : UInt8) (k : Nat) : (moreT s b k).size = s.size + k := by
  unfold moreT; rw [ByteArray.size_append, txt_size]
/-- a literal of one byte, as a text. -/
theorem lit1 (b : UInt8) (x : Int) (hx : x = (b.toNat : Int)) (w : World) :
    (convert 22 9 (.slice (some ⟨w.heap.size, 0, none⟩) 1 1)).run Try.prog (w.alloc (.cells #[.int .u8 x] 5)) = .ok (.string ⟨#[b]⟩) (w.alloc (.cells #[.int .u8 x] 5)) := by
  subst hx
  have h : (w.alloc (.cells #[cell8 b] 5)).ownsRow w.heap.size 5 1 (.slice (some ⟨w.heap.size, 0, none⟩) 1 1) 1 (cells8 [b]) :=
    World.ownsRow_lit w (e := 5) (size := 1) #[cell8 b] 1 (Nat.le_refl w.heap.size) (by unfold maxLen; omega) rfl
  exact run_string_own Try.underlying22 Try.underlying5 Try.underlying9 h
theorem lack_facts (s : ByteArray) : ∃ (r n : Nat) (b : UInt8), (s.size : Int).tmod 16 = (r : Int) ∧ (16 : Int) - (r : Int) = (n : Int) ∧ (n : Int) = (b.toNat : Int) ∧ n = padN s ∧ b = UInt8.ofNat (padN s) ∧ r < 16 ∧ 1 ≤ n ∧ n ≤ 16 := by
  have h := padN_in s
  refine ⟨s.size % 16, padN s, UInt8.ofNat (padN s), ?_, ?_, ?_, rfl, rfl, by omega, h.1, h.2⟩
  · rw [Int.tmod_eq_emod_of_nonneg (by omega)]; omega
  · unfold padN; omega
  · rw [UInt8.toNat_ofNat']; omega
set_option maxRecDepth 100000 in
set_option maxHeartbeats 1600000 in
theorem Pad_spec (s : ByteArray) (hs : s.size ≤ 1073741824) (w : World) :
    Calls Try.prog 17 #[.string s] w fun e w' => e = .returned (.string (padT s)) ∧ Below w.heap.size w w' := by
  obtain ⟨r, n, b, hm, hd, hb, hn, hbn, hr, hn1, hn2⟩ := lack_facts s
  have HE : Hid (moreT s b n = padT s) := Lib.hid (by rw [hn, hbn]; rfl)
  have hr16 : (r : Int) < 16 := by omega
  have hL := fun W => lit1 b (n : Int) hb W
  have H0 := Lib.hid (moreT_0 s b)
  have HU := fun k => Lib.hid (moreT_up s b k)
  have HZ := fun k => Lib.hid (moreT_size s b k)
  have HN : Hid (n ≤ 16) := Lib.hid hn2
  have HS : Hid (s.size ≤ 1073741824) := Lib.hid hs
  clear hb hn hbn hn1 hn2 hs
  go_enter Try.func17, Try.ntmps17
  go_wp2
  go_loopw [0, 4] (fun o i wr => ∃ k : Nat, k ≤ n ∧ i = .int .i64 k ∧ o = .string (moreT s b k) ∧ Below w.heap.size w wr) (fun _ i _ => n - (intOf i).toNat)
  case atStart => exact ⟨0, by omega, rfl, by rw [H0.out], Below.refl _ _⟩
  case round =>
    obtain ⟨k, hk, rfl, rfl, hbel⟩ := hrel
    by_cases hlt : k < n
    · have hk1 : (k : Int) < (n : Int) := by omega
      have hz := (HZ k).out
      have h1 : (⟨#[b]⟩ : ByteArray).size = 1 := rfl
      have hk16 : k < 16 := by have := HN.out; omega
      have hcat := fun W => run_string_add_sum (P := Try.prog) (w := W) (moreT s b k) ⟨#[b]⟩ (by rw [hz, h1]; have := HS.out; omega)
      have HK := HU k
      have HB := Lib.hid (hbel.alloc hbel.size (.cells #[.int .u8 (n : Int)] 5))
      clear hbel hz
      generalize moreT s b k = O at *
      go_wp2
      go_roundw
      case rel => exact ⟨k + 1, by omega, by go_num, by rw [HK.out], HB.out⟩
      case measure => simp [intOf]; omega
    · obtain rfl : k = n := by omega
      have HB := Lib.hid hbel
      rw [HE.out]
      clear hbel
      go_wp2
      go_ret
      exact ⟨rfl, HB.out⟩
theorem text_ne {a b : ByteArray} (h : ¬ a = b) : (a.toList == b.toList) = false :=
  beq_eq_false_iff_ne.2 fun e => h (by
    rw [ByteArray.toList_eq, ByteArray.toList_eq] at e
    exact ByteArray.ext (Array.ext' e))
/-- the last byte of a text. -/
theorem last_run (s : ByteArray) (h : 0 < s.size) (W : World) :
    (Instr.index 9 (.string s) (.int .i64 ((s.size : Int) - 1))).run Try.prog W = .ok (.int .u8 ((lastN s : Nat) : Int)) W := by
  have hi : 0 ≤ (s.size : Int) - 1 ∧ (s.size : Int) - 1 < (s.size : Int) := by omega
  have h2 : s.size - 1 < s.size := by omega
  rw [run_index_string W 9 s .i64 _ Try.underlying9, dif_pos hi]
  have e : ((s.size : Int) - 1).toNat = s.size - 1 := by omega
  simp only [e]
  rw [byteOf_at s (s.size - 1) h2]
  rfl
/-- all but the bytes that the last one tells of. -/
theorem head_run (s : ByteArray) (n : Nat) (h : n ≤ s.size) (W : World) :
    (Instr.slice 9 (.string s) none (some (.int .i64 ((s.size : Int) - (n : Int)))) none).run Try.prog W = .ok (.string (s.extract 0 (s.size - n))) W := by
  rw [run_slice_string_h (P := Try.prog) W 9 s Try.underlying9 .i64 _ (by omega) (by omega)]
  have e : ((s.size : Int) - (n : Int)).toNat = s.size - n := by omega
  rw [e]
set_option maxRecDepth 100000 in
set_option maxHeartbeats 1600000 in
theorem Unpad_none_spec (s : ByteArray) (h : ¬ unOk s) (hs : s.size ≤ 1073741824) (w : World) :
    Calls Try.prog 16 #[.string s] w fun e w' => e = .returned (.tuple #[.string ⟨#[]⟩, .bool false]) ∧ Below w.heap.size w w' := by
  by_cases h0 : s.size = 0
  · have h1 : (s.size : Int) = 0 := by omega
    clear h h0 hs
    go_enter Try.func16, Try.ntmps16
    go_wp2
    go_ret2
    exact ⟨rfl, Below.refl _ _⟩
  · have hx := fun W => last_run s (by omega) W
    have h1 : (1 : Int) ≤ (s.size : Int) := by omega
    have h2 : ¬ (s.size : Int) = 0 := by omega
    have hl := lastN_lt s
    have hl2 : ((lastN s : Nat) : Int) < 256 := by omega
    by_cases hn : s.size < lastN s
    · have h3 : (s.size : Int) < ((lastN s : Nat) : Int) := by omega
      clear h h0 hl
      generalize lastN s = n at *
      go_enter Try.func16, Try.ntmps16
      go_wp2
      go_ret2
      exact ⟨rfl, Below.refl _ _⟩
    · have h3 : ¬ (s.size : Int) < ((lastN s : Nat) : Int) := by omega
      have hsl := fun W => head_run s (lastN s) (by omega) W
      have hne : ¬ padT (s.extract 0 (s.size - lastN s)) = s := fun e => h ⟨by omega, by omega, e⟩
      have HP := fun W => Lib.hid (Pad_spec (s.extract 0 (s.size - lastN s)) (by rw [ByteArray.size_extract]; omega) W)
      have h4 : (0 : Int) ≤ (s.size : Int) - ((lastN s : Nat) : Int) := by omega
      replace hne := text_ne hne
      clear h h0 hl
      generalize s.extract 0 (s.size - lastN s) = T at *
      generalize lastN s = n at *
      generalize padT T = Q at *
      go_enter Try.func16, Try.ntmps16
      go_wp2_with fail
      refine (HP _).out.mono ?_; rintro e w1 ⟨rfl, hb1⟩
      go_wp2
      go_ret2
      exact ⟨rfl, hb1⟩
set_option maxRecDepth 100000 in
set_option maxHeartbeats 1600000 in
theorem Unpad_some_spec (s : ByteArray) (h : unOk s) (hs : s.size ≤ 1073741824) (w : World) :
    Calls Try.prog 16 #[.string s] w fun e w' => e = .returned (.tuple #[.string (s.extract 0 (s.size - lastN s)), .bool true]) ∧ Below w.heap.size w w' := by
  obtain ⟨h0, hn, he⟩ := h
  have hx := fun W => last_run s (by omega) W
  have h1 : (1 : Int) ≤ (s.size : Int) := by omega
  have h2 : ¬ (s.size : Int) = 0 := by omega
  have hl := lastN_lt s
  have hl2 : ((lastN s : Nat) : Int) < 256 := by omega
  have h3 : ¬ (s.size : Int) < ((lastN s : Nat) : Int) := by omega
  have hsl := fun W => head_run s (lastN s) (by omega) W
  have HP := fun W => Lib.hid (Pad_spec (s.extract 0 (s.size - lastN s)) (by rw [ByteArray.size_extract]; omega) W)
  have h4 : (0 : Int) ≤ (s.size : Int) - ((lastN s : Nat) : Int) := by omega
  rw [he] at HP
  clear h0 hl hn he
  generalize s.extract 0 (s.size - lastN s) = T at *
  generalize lastN s = n at *
  go_enter Try.func16, Try.ntmps16
  go_wp2_with fail
  refine (HP _).out.mono ?_; rintro e w1 ⟨rfl, hb1⟩
  go_wp2
  go_ret2
  exact ⟨rfl, hb1⟩
theorem Unpad_spec (s : ByteArray) (hs : s.size ≤ 1073741824) (w : World) :
    Calls Try.prog 16 #[.string s] w fun e w' => e = .returned (.tuple #[.string (unT s), .bool (decide (unOk s))]) ∧ Below w.heap.size w w' := by
  by_cases h : unOk s
  · rw [unT_yes s h, decide_eq_true h]; exact Unpad_some_spec s h hs w
  · rw [unT_no s h, decide_eq_false h]; exact Unpad_none_spec s h hs w
end Go.Proofs.Ytlmbgkcchekdmaa
