/-
  Contracts and facts that the laws of this seat use: PadS, WithB.
-/
import Derived.Test.YtbcaldhcgoclgaaNums
import Derived.Test.YtbcaldhcgoclgaaBase
import Derived.WalkKit
import Derived.LoopTactic
import Derived.OwnWalk
import Derived.WalkLawsBesides
import Derived.WalkSpells
import Derived.Outline
import Derived.Below
import Derived.IntWalk
import Derived.Laws.OwnMore
import Derived.Laws.CopyRow
import Derived.Laws.CopyOwn
import Derived.Lib.BufferWrite
import Derived.Lib.MakeNoZero
import Derived.Lib.SlBuf
import Derived.Deep.RegionHeld3
set_option linter.unusedVariables false
set_option linter.unusedSimpArgs false
namespace Go.Proofs.Ytbcaldhcgoclgaa
open Go.RowKit

theorem txt_up (f : Nat → UInt8) (k : Nat) : txt f (k + 1) = txt f k ++ ⟨#[f k]⟩ := by
  apply ByteArray.ext
  apply Array.ext'
  rw [ByteArray.data_append, Array.toList_append]
  show upTo f (k + 1) = upTo f k ++ [f k]
  rw [upTo_succ]
/-- a text with k bytes b behind it. -/
def moreT (s : ByteArray) (b : UInt8) (k : Nat) : ByteArray := s ++ txt (fun _ => b) k
theorem moreT_0 (s : ByteArray) (b : UInt8) : moreT s b 0 = s := by
  unfold moreT; exact ByteArray.append_empty
theorem moreT_up (s : ByteArray) (b : UInt8) (k : Nat) : moreT s b k ++ ⟨#[b]⟩ = moreT s b (k + 1) := by
  unfold moreT; rw [txt_up, ByteArray.append_assoc]
theorem moreT_size (s : ByteArray) (b : UInt8) (k : Nat) : (moreT s b k).size = s.size + k := by
  unfold moreT; rw [ByteArray.size_append, txt_size]
/-- a literal of one byte, as a text. -/
theorem lit1 (b : UInt8) (x : Int) (hx : x = (b.toNat : Int)) (w : World) :
    (convert 22 9 (.slice (some ⟨w.heap.size, 0, none⟩) 1 1)).run Try.prog (w.alloc (.cells #[.int .u8 x] 5)) = .ok (.string ⟨#[b]⟩) (w.alloc (.cells #[.int .u8 x] 5)) := by
  subst hx
  have h : (w.alloc (.cells #[cell8 b] 5)).ownsRow w.heap.size 5 1 (.slice (some ⟨w.heap.size, 0, none⟩) 1 1) 1 (cells8 [b]) :=
    World.ownsRow_lit w (e := 5) (size := 1) #[cell8 b] 1 (Nat.le_refl w.heap.size) (by unfold maxLen; omega) rfl
  exact run_string_own Try.underlying22 Try.underlying5 Try.underlying9 h
theorem lack_facts (s : ByteArray) : ∃ (r n : Nat) (b : UInt8), (s.size : Int).tmod 16 = (r : Int) ∧ (16 : Int) - (r : Int) = (n : Int) ∧ (n : Int) = (b.toNat : Int) ∧ n = padN s ∧ b = UInt8.ofNat (padN s) ∧ r < 16 ∧ 1 ≤ n ∧ n ≤ 16 := by
  have h := padN_in s
  refine ⟨s.size % 16, padN s, UInt8.ofNat (padN s), ?_, ?_, ?_, rfl, rfl, by omega, h.1, h.2⟩
  · rw [Int.tmod_eq_emod_of_nonneg (by omega)]; omega
  · unfold padN; omega
  · rw [UInt8.toNat_ofNat']; omega
theorem text_ne {a b : ByteArray} (h : ¬ a = b) : (a.toList == b.toList) = false :=
  beq_eq_false_iff_ne.2 fun e => h (by
    rw [ByteArray.toList_eq, ByteArray.toList_eq] at e
    exact ByteArray.ext (Array.ext' e))
/-- the last byte of a text. -/
theorem last_run (s : ByteArray) (h : 0 < s.size) (W : World) :
    (Instr.index 9 (.string s) (.int .i64 ((s.size : Int) - 1))).run Try.prog W = .ok (.int .u8 ((lastN s : Nat) : Int)) W := by
  have hi : 0 ≤ (s.size : Int) - 1 ∧ (s.size : Int) - 1 < (s.size : Int) := by omega
  have h2 : s.size - 1 < s.size := by omega
  rw [run_index_string W 9 s .i64 _ Try.underlying9, dif_pos hi]
  have e : ((s.size : Int) - 1).toNat = s.size - 1 := by omega
  simp only [e]
  rw [byteOf_at s (s.size - 1) h2]
  rfl
/-- all but the bytes that the last one tells of. -/
theorem head_run (s : ByteArray) (n : Nat) (h : n ≤ s.size) (W : World) :
    (Instr.slice 9 (.string s) none (some (.int .i64 ((s.size : Int) - (n : Int)))) none).run Try.prog W = .ok (.string (s.extract 0 (s.size - n))) W := by
  rw [run_slice_string_h (P := Try.prog) W 9 s Try.underlying9 .i64 _ (by omega) (by omega)]
  have e : ((s.size : Int) - (n : Int)).toNat = s.size - n := by omega
  rw [e]
end Go.Proofs.Ytbcaldhcgoclgaa
set_option linter.unusedVariables false
set_option linter.unusedSimpArgs false
namespace Go.Proofs.Ytbcaldhcgoclgaa
open Go.RowKit

theorem size1 : (Try.prog.info? 5).map (·.size) = some 1 := by kernel_rfl
theorem slice_tail (W : World) (g n k : Nat) (hk : k < n) :
    (Instr.slice 22 (.slice (some ⟨g, 0, none⟩) n n) (some (.int .i64 (k : Int))) none none).run Try.prog W = .ok (.slice (some ⟨g, k, none⟩) (n - k) (n - k)) W := by
  rw [Lib.run_slice_tailV (P := Try.prog) W 22 5 Try.underlying22 Try.sizeOf5 g n k (by omega)]
  unfold Lib.tailV
  rw [if_neg (by omega)]
theorem moreT_list (s : ByteArray) (x : UInt8) (n : Nat) : (⟨(s.data.toList ++ List.replicate n x).toArray⟩ : ByteArray) = moreT s x n := by
  apply ByteArray.ext
  apply Array.ext'
  unfold moreT
  rw [ByteArray.data_append, Array.toList_append]
  show s.data.toList ++ List.replicate n x = s.data.toList ++ upTo (fun _ => x) n
  congr 1
  apply List.ext_getElem?
  intro i
  by_cases h : i < n
  · rw [upTo_at _ n i h, List.getElem?_replicate, if_pos h]
  · rw [List.getElem?_eq_none (by simp; omega), List.getElem?_eq_none (by rw [upTo_length]; omega)]
/-- a row in which a text is laid, and what is laid behind it. -/
theorem row_text (s : ByteArray) (n : Nat) : ((mk8 (s.size + n)).toList.take 0 ++ Lib.byteCells s.data.toList ++ (mk8 (s.size + n)).toList.drop (0 + s.size)).toArray = (cells8 (s.data.toList ++ List.replicate n 0)).toArray := by
  rw [mk8_list, List.take_zero, List.nil_append, Nat.zero_add]
  congr 1
  unfold cells8
  rw [List.map_append]
  congr 1
  rw [List.map_replicate, List.map_replicate, List.drop_replicate, Nat.add_sub_cancel_left]
theorem row_more (s : ByteArray) (x : UInt8) (n : Nat) :
    ((cells8 (s.data.toList ++ List.replicate n 0)).toArray.toList.take s.size ++ List.replicate n (cell8 x) ++ (cells8 (s.data.toList ++ List.replicate n 0)).toArray.toList.drop (s.size + n)).toArray = (cells8 (s.data.toList ++ List.replicate n x)).toArray := by
  congr 1
  have hl : (s.data.toList.map cell8).length = s.size := by simp
  unfold cells8
  rw [List.map_append, List.map_append, List.map_replicate, List.map_replicate]
  show ((s.data.toList.map cell8 ++ List.replicate n (cell8 0)).take s.size ++ List.replicate n (cell8 x) ++ (s.data.toList.map cell8 ++ List.replicate n (cell8 0)).drop (s.size + n)) = _
  rw [List.take_append_of_le_length (by omega), List.take_of_length_le (by omega), List.drop_of_length_le (by simp), List.append_nil]
set_option maxRecDepth 100000 in
set_option maxHeartbeats 1600000 in
theorem withBytes_impl (s : ByteArray) (x : UInt8) (n : Nat) (hs : s.size ≤ 1073741824) (h1 : 1 ≤ n) (h2 : n ≤ 16) (gb cb : Nat) (w : World) (hx : ∀ j, j < n → w.cell? ⟨gb, j, none⟩ = some (cell8 x)) (hgb : gb < w.heap.size) :
    Calls Try.prog 39 #[.string s, .slice (some ⟨gb, 0, none⟩) n cb] w fun e w' => e = .returned (.string (moreT s x n)) ∧ Below w.heap.size w w' := by
  obtain ⟨i0, hi, hz0, hz1, hz2⟩ := info_parts Try.info5
  have hmk := run_make8 Try.underlying22 hi hz0 hz1 hz2 (s.size + n) (s.size + n) (by omega) (by omega) w
  obtain ⟨W1, hW1⟩ : ∃ W1, w.alloc (.cells (mk8 (s.size + n)) 5) = W1 := ⟨_, rfl⟩
  have hg1 : W1.heap[w.heap.size]? = some (.cells (mk8 (s.size + n)) 5 (0, 0)) := by rw [← hW1]; exact heap_alloc_new w _
  have hb1 : Below w.heap.size w W1 := by rw [← hW1]; exact (Below.refl _ _).alloc (Nat.le_refl _) _
  rw [hW1] at hmk
  have hcp := Lib.run_copy_row_string (P := Try.prog) W1 22 9 3 5 w.heap.size 0 (s.size + n) (s.size + n) s (mk8 (s.size + n)) 5 Try.underlying22 size1 hg1 (by omega) (by rw [mk8_size]; omega)
  rw [row_text] at hcp
  have hg2 := setRow_heap W1 w.heap.size _ (cells8 (s.data.toList ++ List.replicate n 0)).toArray _ _ hg1
  have hb2 := below_setRow hb1 (Nat.le_refl w.heap.size) (cells8 (s.data.toList ++ List.replicate n 0)).toArray
  obtain ⟨W2, hW2⟩ : ∃ W2, W1.setRow w.heap.size (cells8 (s.data.toList ++ List.replicate n 0)).toArray = W2 := ⟨_, rfl⟩
  rw [hW2] at hcp hg2 hb2
  have hsl := slice_tail W2 w.heap.size (s.size + n) s.size (by omega)
  have hl : (List.replicate n (cell8 x)).length = n := by simp
  have hcp2 := run_copy_row (P := Try.prog) W2 22 22 3 5 w.heap.size s.size (s.size + n - s.size) (s.size + n - s.size) ⟨gb, 0, none⟩ n cb _ 5 (List.replicate n (cell8 x)) Try.underlying22 size1 hg2 (by rw [hl]; show n = min n (s.size + n - s.size); omega)
    (fun j v hj => by
      rw [show (⟨gb, 0, none⟩ : Addr).add j = ⟨gb, j, none⟩ by unfold Addr.add; split <;> simp_all]
      rw [List.getElem?_replicate] at hj
      split at hj
      · rename_i hlt
        rw [hb2.cell (p := ⟨gb, j, none⟩) hgb, hx j hlt]; exact hj
      · cases hj)
    (by rw [hl]; simp [cells8_length]) (fun v hv => by rw [(List.mem_replicate.1 hv).2]; rfl)
  rw [hl, row_more] at hcp2
  rw [Nat.add_sub_cancel_left] at hsl hcp2
  have hg3 := setRow_heap W2 w.heap.size _ (cells8 (s.data.toList ++ List.replicate n x)).toArray _ _ hg2
  have hb3 := below_setRow hb2 (Nat.le_refl w.heap.size) (cells8 (s.data.toList ++ List.replicate n x)).toArray
  obtain ⟨W3, hW3⟩ : ∃ W3, W2.setRow w.heap.size (cells8 (s.data.toList ++ List.replicate n x)).toArray = W3 := ⟨_, rfl⟩
  rw [hW3] at hcp2 hg3 hb3
  have hN : (cells8 (s.data.toList ++ List.replicate n x)).length = s.size + n := by simp [cells8_length]
  have hown : W3.ownsRow w.heap.size 5 1 (.slice (some ⟨w.heap.size, 0, none⟩) (s.size + n) (s.size + n)) (s.size + n) (cells8 (s.data.toList ++ List.replicate n x)) :=
    ⟨by rw [hN]; omega, .inr ⟨w.heap.size, s.size + n, _, rfl, Nat.le_refl _, hg3, Nat.le_refl _, by unfold maxLen; omega, by simp [cells8_length], List.take_of_length_le (by show (cells8 _).length ≤ _; rw [hN]; omega)⟩⟩
  have hconv := run_string_own Try.underlying22 Try.underlying5 Try.underlying9 hown
  rw [moreT_list] at hconv
  have HB := Lib.hid hb3
  have hN2 : ((s.size + n : Nat) : Int) = (s.size : Int) + (n : Int) := by omega
  rw [hN2] at hmk
  have hs2 : (s.size : Int) + (n : Int) ≤ 1073741840 := by omega
  generalize moreT s x n = R at *
  clear hW1 hW2 hW3 hg1 hb1 hg2 hb2 hg3 hb3 hown hx hgb hN hN2 hl hs h1 h2 hi hz0 hz1 hz2
  go_enter Try.func39, Try.ntmps39
  go_wp2
  go_ret
  exact ⟨rfl, HB.out⟩
end Go.Proofs.Ytbcaldhcgoclgaa
