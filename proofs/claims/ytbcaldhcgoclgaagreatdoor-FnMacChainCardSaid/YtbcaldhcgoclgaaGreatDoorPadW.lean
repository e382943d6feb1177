/-
  Contracts and facts that the laws of this seat use: PadS, WithB, PadI.
-/
import Derived.Test.YtbcaldhcgoclgaaGreatDoorNums
import Derived.Test.YtbcaldhcgoclgaaGreatDoorBase
import Derived.WalkKit
import Derived.LoopTactic
import Derived.OwnWalk
import Derived.WalkLawsBesides
import Derived.WalkSpells
import Derived.Outline
import Derived.Below
import Derived.IntWalk
import Derived.Laws.OwnMore
import Derived.Laws.CopyRow
import Derived.Laws.CopyOwn
import Derived.Lib.BufferWrite
import Derived.Lib.MakeNoZero
import Derived.Lib.SlBuf
import Derived.Deep.RegionHeld3
import Derived.Test.YtbcaldhcgoclgaaGreatDoorShelf
set_option linter.unusedVariables false
set_option linter.unusedSimpArgs false
namespace Go.Proofs.YtbcaldhcgoclgaaGreatDoor
open Go.RowKit

theorem txt_up (f : Nat → UInt8) (k : Nat) : txt f (k + 1) = txt f k ++ ⟨#[f k]⟩ := by
  apply ByteArray.ext
  apply Array.ext'
  rw [ByteArray.data_append, Array.toList_append]
  show upTo f (k + 1) = upTo f k ++ [f k]
  rw [upTo_succ]
/-- a text with k bytes b behind it. -/
def moreT (s : ByteArray) (b : UInt8) (k : Nat) : ByteArray := s ++ txt (fun _ => b) k
theorem moreT_0 (s : ByteArray) (b : UInt8) : moreT s b 0 = s := by
  unfold moreT; exact ByteArray.append_empty
theorem moreT_up (s : ByteArray) (b : UInt8) (k : Nat) : moreT s b k ++ ⟨#[b]⟩ = moreT s b (k + 1) := by
  unfold moreT; rw [txt_up, ByteArray.append_assoc]
theorem moreT_size (s : ByteArray) (b : UInt8) (k : Nat) : (moreT s b k).size = s.size + k := by
  unfold moreT; rw [ByteArray.size_append, txt_size]
/-- a literal of one byte, as a text. -/
theorem lit1 (b : UInt8) (x : Int) (hx : x = (b.toNat : Int)) (w : World) :
    (convert 22 9 (.slice (some ⟨w.heap.size, 0, none⟩) 1 1)).run Tryz.prog (w.alloc (.cells #[.int .u8 x] 5)) = .ok (.string ⟨#[b]⟩) (w.alloc (.cells #[.int .u8 x] 5)) := by
  subst hx
  have h : (w.alloc (.cells #[cell8 b] 5)).ownsRow w.heap.size 5 1 (.slice (some ⟨w.heap.size, 0, none⟩) 1 1) 1 (cells8 [b]) :=
    World.ownsRow_lit w (e := 5) (size := 1) #[cell8 b] 1 (Nat.le_refl w.heap.size) (by unfold maxLen; omega) rfl
  exact run_string_own Tryz.underlying22 Tryz.underlying5 Tryz.underlying9 h
theorem lack_facts (s : ByteArray) : ∃ (r n : Nat) (b : UInt8), (s.size : Int).tmod 16 = (r : Int) ∧ (16 : Int) - (r : Int) = (n : Int) ∧ (n : Int) = (b.toNat : Int) ∧ n = padN s ∧ b = UInt8.ofNat (padN s) ∧ r < 16 ∧ 1 ≤ n ∧ n ≤ 16 := by
  have h := padN_in s
  refine ⟨s.size % 16, padN s, UInt8.ofNat (padN s), ?_, ?_, ?_, rfl, rfl, by omega, h.1, h.2⟩
  · rw [Int.tmod_eq_emod_of_nonneg (by omega)]; omega
  · unfold padN; omega
  · rw [UInt8.toNat_ofNat']; omega
theorem text_ne {a b : ByteArray} (h : ¬ a = b) : (a.toList == b.toList) = false :=
  beq_eq_false_iff_ne.2 fun e => h (by
    rw [ByteArray.toList_eq, ByteArray.toList_eq] at e
    exact ByteArray.ext (Array.ext' e))
/-- the last byte of a text. -/
theorem last_run (s : ByteArray) (h : 0 < s.size) (W : World) :
    (Instr.index 9 (.string s) (.int .i64 ((s.size : Int) - 1))).run Tryz.prog W = .ok (.int .u8 ((lastN s : Nat) : Int)) W := by
  have hi : 0 ≤ (s.size : Int) - 1 ∧ (s.size : Int) - 1 < (s.size : Int) := by omega
  have h2 : s.size - 1 < s.size := by omega
  rw [run_index_string W 9 s .i64 _ Tryz.underlying9, dif_pos hi]
  have e : ((s.size : Int) - 1).toNat = s.size - 1 := by omega
  simp only [e]
  rw [byteOf_at s (s.size - 1) h2]
  rfl
/-- all but the bytes that the last one tells of. -/
theorem head_run (s : ByteArray) (n : Nat) (h : n ≤ s.size) (W : World) :
    (Instr.slice 9 (.string s) none (some (.int .i64 ((s.size : Int) - (n : Int)))) none).run Tryz.prog W = .ok (.string (s.extract 0 (s.size - n))) W := by
  rw [run_slice_string_h (P := Tryz.prog) W 9 s Tryz.underlying9 .i64 _ (by omega) (by omega)]
  have e : ((s.size : Int) - (n : Int)).toNat = s.size - n := by omega
  rw [e]
end Go.Proofs.YtbcaldhcgoclgaaGreatDoor
set_option linter.unusedVariables false
set_option linter.unusedSimpArgs false
namespace Go.Proofs.YtbcaldhcgoclgaaGreatDoor
open Go.RowKit

theorem size1 : (Tryz.prog.info? 5).map (·.size) = some 1 := by kernel_rfl
theorem slice_tail (W : World) (g n k : Nat) (hk : k < n) :
    (Instr.slice 22 (.slice (some ⟨g, 0, none⟩) n n) (some (.int .i64 (k : Int))) none none).run Tryz.prog W = .ok (.slice (some ⟨g, k, none⟩) (n - k) (n - k)) W := by
  rw [Lib.run_slice_tailV (P := Tryz.prog) W 22 5 Tryz.underlying22 Tryz.sizeOf5 g n k (by omega)]
  unfold Lib.tailV
  rw [if_neg (by omega)]
theorem moreT_list (s : ByteArray) (x : UInt8) (n : Nat) : (⟨(s.data.toList ++ List.replicate n x).toArray⟩ : ByteArray) = moreT s x n := by
  apply ByteArray.ext
  apply Array.ext'
  unfold moreT
  rw [ByteArray.data_append, Array.toList_append]
  show s.data.toList ++ List.replicate n x = s.data.toList ++ upTo (fun _ => x) n
  congr 1
  apply List.ext_getElem?
  intro i
  by_cases h : i < n
  · rw [upTo_at _ n i h, List.getElem?_replicate, if_pos h]
  · rw [List.getElem?_eq_none (by simp; omega), List.getElem?_eq_none (by rw [upTo_length]; omega)]
/-- a row in which a text is laid, and what is laid behind it. -/
theorem row_text (s : ByteArray) (n : Nat) : ((mk8 (s.size + n)).toList.take 0 ++ Lib.byteCells s.data.toList ++ (mk8 (s.size + n)).toList.drop (0 + s.size)).toArray = (cells8 (s.data.toList ++ List.replicate n 0)).toArray := by
  rw [mk8_list, List.take_zero, List.nil_append, Nat.zero_add]
  congr 1
  unfold cells8
  rw [List.map_append]
  congr 1
  rw [List.map_replicate, List.map_replicate, List.drop_replicate, Nat.add_sub_cancel_left]
theorem row_more (s : ByteArray) (x : UInt8) (n : Nat) :
    ((cells8 (s.data.toList ++ List.replicate n 0)).toArray.toList.take s.size ++ List.replicate n (cell8 x) ++ (cells8 (s.data.toList ++ List.replicate n 0)).toArray.toList.drop (s.size + n)).toArray = (cells8 (s.data.toList ++ List.replicate n x)).toArray := by
  congr 1
  have hl : (s.data.toList.map cell8).length = s.size := by simp
  unfold cells8
  rw [List.map_append, List.map_append, List.map_replicate, List.map_replicate]
  show ((s.data.toList.map cell8 ++ List.replicate n (cell8 0)).take s.size ++ List.replicate n (cell8 x) ++ (s.data.toList.map cell8 ++ List.replicate n (cell8 0)).drop (s.size + n)) = _
  rw [List.take_append_of_le_length (by omega), List.take_of_length_le (by omega), List.drop_of_length_le (by simp), List.append_nil]
set_option maxRecDepth 100000 in
set_option maxHeartbeats 1600000 in
theorem withBytes_impl (s : ByteArray) (x : UInt8) (n : Nat) (hs : s.size ≤ 1073741824) (h1 : 1 ≤ n) (h2 : n ≤ 16) (gb cb : Nat) (w : World) (hx : ∀ j, j < n → w.cell? ⟨gb, j, none⟩ = some (cell8 x)) (hgb : gb < w.heap.size) :
    Calls Tryz.prog 77 #[.string s, .slice (some ⟨gb, 0, none⟩) n cb] w fun e w' => e = .returned (.string (moreT s x n)) ∧ Below w.heap.size w w' := by
  obtain ⟨i0, hi, hz0, hz1, hz2⟩ := info_parts Tryz.info5
  have hmk := run_make8 Tryz.underlying22 hi hz0 hz1 hz2 (s.size + n) (s.size + n) (by omega) (by omega) w
  obtain ⟨W1, hW1⟩ : ∃ W1, w.alloc (.cells (mk8 (s.size + n)) 5) = W1 := ⟨_, rfl⟩
  have hg1 : W1.heap[w.heap.size]? = some (.cells (mk8 (s.size + n)) 5 (0, 0)) := by rw [← hW1]; exact heap_alloc_new w _
  have hb1 : Below w.heap.size w W1 := by rw [← hW1]; exact (Below.refl _ _).alloc (Nat.le_refl _) _
  rw [hW1] at hmk
  have hcp := Lib.run_copy_row_string (P := Tryz.prog) W1 22 9 3 5 w.heap.size 0 (s.size + n) (s.size + n) s (mk8 (s.size + n)) 5 Tryz.underlying22 size1 hg1 (by omega) (by rw [mk8_size]; omega)
  rw [row_text] at hcp
  have hg2 := setRow_heap W1 w.heap.size _ (cells8 (s.data.toList ++ List.replicate n 0)).toArray _ _ hg1
  have hb2 := below_setRow hb1 (Nat.le_refl w.heap.size) (cells8 (s.data.toList ++ List.replicate n 0)).toArray
  obtain ⟨W2, hW2⟩ : ∃ W2, W1.setRow w.heap.size (cells8 (s.data.toList ++ List.replicate n 0)).toArray = W2 := ⟨_, rfl⟩
  rw [hW2] at hcp hg2 hb2
  have hsl := slice_tail W2 w.heap.size (s.size + n) s.size (by omega)
  have hl : (List.replicate n (cell8 x)).length = n := by simp
  have hcp2 := run_copy_row (P := Tryz.prog) W2 22 22 3 5 w.heap.size s.size (s.size + n - s.size) (s.size + n - s.size) ⟨gb, 0, none⟩ n cb _ 5 (List.replicate n (cell8 x)) Tryz.underlying22 size1 hg2 (by rw [hl]; show n = min n (s.size + n - s.size); omega)
    (fun j v hj => by
      rw [show (⟨gb, 0, none⟩ : Addr).add j = ⟨gb, j, none⟩ by unfold Addr.add; split <;> simp_all]
      rw [List.getElem?_replicate] at hj
      split at hj
      · rename_i hlt
        rw [hb2.cell (p := ⟨gb, j, none⟩) hgb, hx j hlt]; exact hj
      · cases hj)
    (by rw [hl]; simp [cells8_length]) (fun v hv => by rw [(List.mem_replicate.1 hv).2]; rfl)
  rw [hl, row_more] at hcp2
  rw [Nat.add_sub_cancel_left] at hsl hcp2
  have hg3 := setRow_heap W2 w.heap.size _ (cells8 (s.data.toList ++ List.replicate n x)).toArray _ _ hg2
  have hb3 := below_setRow hb2 (Nat.le_refl w.heap.size) (cells8 (s.data.toList ++ List.replicate n x)).toArray
  obtain ⟨W3, hW3⟩ : ∃ W3, W2.setRow w.heap.size (cells8 (s.data.toList ++ List.replicate n x)).toArray = W3 := ⟨_, rfl⟩
  rw [hW3] at hcp2 hg3 hb3
  have hN : (cells8 (s.data.toList ++ List.replicate n x)).length = s.size + n := by simp [cells8_length]
  have hown : W3.ownsRow w.heap.size 5 1 (.slice (some ⟨w.heap.size, 0, none⟩) (s.size + n) (s.size + n)) (s.size + n) (cells8 (s.data.toList ++ List.replicate n x)) :=
    ⟨by rw [hN]; omega, .inr ⟨w.heap.size, s.size + n, _, rfl, Nat.le_refl _, hg3, Nat.le_refl _, by unfold maxLen; omega, by simp [cells8_length], List.take_of_length_le (by show (cells8 _).length ≤ _; rw [hN]; omega)⟩⟩
  have hconv := run_string_own Tryz.underlying22 Tryz.underlying5 Tryz.underlying9 hown
  rw [moreT_list] at hconv
  have HB := Lib.hid hb3
  have hN2 : ((s.size + n : Nat) : Int) = (s.size : Int) + (n : Int) := by omega
  rw [hN2] at hmk
  have hs2 : (s.size : Int) + (n : Int) ≤ 1073741840 := by omega
  generalize moreT s x n = R at *
  clear hW1 hW2 hW3 hg1 hb1 hg2 hb2 hg3 hb3 hown hx hgb hN hN2 hl hs h1 h2 hi hz0 hz1 hz2
  go_enter Tryz.func77, Tryz.ntmps77
  go_wp2
  go_ret
  exact ⟨rfl, HB.out⟩
end Go.Proofs.YtbcaldhcgoclgaaGreatDoor
set_option linter.unusedVariables false
set_option linter.unusedSimpArgs false
namespace Go.Proofs.YtbcaldhcgoclgaaGreatDoor
open Go.RowKit

/-- a row whose first k cells hold the byte x. -/
def sameR (cs : Array Value) (x : UInt8) (k : Nat) : Array Value := (List.replicate k (cell8 x) ++ cs.toList.drop k).toArray
theorem sameR_size (cs : Array Value) (x : UInt8) (k : Nat) (h : k ≤ cs.size) : (sameR cs x k).size = cs.size := by
  simp [sameR]; omega
theorem sameR_0 (cs : Array Value) (x : UInt8) : sameR cs x 0 = cs := by simp [sameR]
theorem sameR_at (cs : Array Value) (x : UInt8) (k j : Nat) (h : j < k) : (sameR cs x k)[j]? = some (cell8 x) := by
  unfold sameR
  rw [List.getElem?_toArray, List.getElem?_append_left (by simp; exact h), List.getElem?_replicate, if_pos h]
theorem sameR_up (cs : Array Value) (x : UInt8) (k d : Nat) (h : k + d ≤ cs.size) :
    ((sameR cs x k).toList.take k ++ List.replicate d (cell8 x) ++ (sameR cs x k).toList.drop (k + d)).toArray = sameR cs x (k + d) := by
  unfold sameR
  congr 1
  show (List.replicate k (cell8 x) ++ cs.toList.drop k).take k ++ List.replicate d (cell8 x) ++ (List.replicate k (cell8 x) ++ cs.toList.drop k).drop (k + d) = _
  rw [List.take_append_of_le_length (by simp), List.take_of_length_le (by simp), List.drop_append, List.drop_of_length_le (by simp), List.nil_append, List.length_replicate, List.drop_drop, Nat.add_sub_cancel_left, List.replicate_append_replicate]
/-- the bytes behind are copied from the bytes ahead, as many as there are, as far as there is room. -/
theorem copy_same (W : World) (g n k : Nat) (cs : Array Value) (x : UInt8) (hk : 0 < k) (hn : k < n) (hc : n ≤ cs.size) (hg : W.heap[g]? = some (.cells (sameR cs x k) 5 (0, 0))) :
    (Builtin.copy_ #[22, 22] 3 #[.slice (some ⟨g, k, none⟩) (n - k) (n - k), .slice (some ⟨g, 0, none⟩) k n]).run Tryz.prog W = .ok (.int .i64 ((min k (n - k) : Nat) : Int)) (W.setRow g (sameR cs x (k + min k (n - k)))) := by
  have hl : (List.replicate (min k (n - k)) (cell8 x)).length = min k (n - k) := by simp
  have hmk : min k (n - k) ≤ k := Nat.min_le_left _ _
  have hmn : min k (n - k) ≤ n - k := Nat.min_le_right _ _
  have h := run_copy_row (P := Tryz.prog) W 22 22 3 5 g k (n - k) (n - k) ⟨g, 0, none⟩ k n (sameR cs x k) 5 (List.replicate (min k (n - k)) (cell8 x)) Tryz.underlying22 size1 hg hl
    (fun j v hj => by
      rw [show (⟨g, 0, none⟩ : Addr).add j = ⟨g, j, none⟩ by unfold Addr.add; split <;> simp_all]
      rw [List.getElem?_replicate] at hj
      split at hj
      · rename_i hlt
        rw [cell_of_row W g j _ _ _ hg, sameR_at cs x k j (by omega)]; exact hj
      · cases hj)
    (by rw [hl, sameR_size cs x k (by omega)]; omega) (fun v hv => by rw [(List.mem_replicate.1 hv).2]; rfl)
  rw [hl, sameR_up cs x k _ (by omega)] at h
  exact h
theorem copy_first (W : World) (g n : Nat) (cs : Array Value) (x : UInt8) (gb cb : Nat) (hn : 0 < n) (hc : n ≤ cs.size) (hg : W.heap[g]? = some (.cells cs 5 (0, 0))) (hx : W.cell? ⟨gb, 0, none⟩ = some (cell8 x)) :
    (Builtin.copy_ #[22, 22] 3 #[.slice (some ⟨g, 0, none⟩) n n, .slice (some ⟨gb, 0, none⟩) 1 cb]).run Tryz.prog W = .ok (.int .i64 1) (W.setRow g (sameR cs x 1)) := by
  have h := run_copy_row (P := Tryz.prog) W 22 22 3 5 g 0 n n ⟨gb, 0, none⟩ 1 cb cs 5 [cell8 x] Tryz.underlying22 size1 hg (by show 1 = Nat.min 1 n; exact (Nat.min_eq_left hn).symm)
    (fun j v hj => by
      cases j with
      | zero => exact hx.trans hj
      | succ j => cases hj)
    (by simp; omega) (fun v hv => by rw [List.mem_singleton.1 hv]; rfl)
  have h2 := sameR_up cs x 0 1 (by omega)
  rw [sameR_0] at h2
  rw [← h2]; exact h
theorem slice_head (W : World) (g n k : Nat) (hk : k ≤ n) :
    (Instr.slice 22 (.slice (some ⟨g, 0, none⟩) n n) none (some (.int .i64 (k : Int))) none).run Tryz.prog W = .ok (.slice (some ⟨g, 0, none⟩) k n) W := by
  go_simp
theorem slice_cut (W : World) (g n c : Nat) (hk : n ≤ c) :
    (Instr.slice 22 (.slice (some ⟨g, 0, none⟩) n c) none (some (.int .i64 (n : Int))) (some (.int .i64 (n : Int)))).run Tryz.prog W = .ok (.slice (some ⟨g, 0, none⟩) n n) W := by
  go_simp
theorem made_no_zero (n : Nat) (hn : n ≤ 281474976710656) (w : World) :
    ∃ cs : Array Value, (callFunc 199 #[.int .i64 (n : Int)]).run Tryz.prog w = .ok (.value (.slice (some ⟨w.heap.size, 0, none⟩) n cs.size)) ((w.alloc (.cells cs 5)).drewN 2) ∧ n ≤ cs.size := by
  obtain ⟨cs, hrun, hle, _⟩ := Lib.run_makeNoZero (P := Tryz.prog) w #[3] 22 5 Tryz.underlying22 n hn
  refine ⟨cs, ?_, hle⟩
  rw [run_callFunc_extern Tryz.func199 (by kernel_rfl) (by kernel_rfl) (by kernel_rfl) (e := Extern.BytealgMakeNoZero.makeNoZero #[3] #[22]) (by kernel_rfl), hrun]
  rfl
set_option maxRecDepth 100000 in
set_option maxHeartbeats 1600000 in
theorem Repeat_impl (x : UInt8) (n : Nat) (h1 : 1 ≤ n) (h2 : n ≤ 16) (gb cb : Nat) (w : World) (hx : w.cell? ⟨gb, 0, none⟩ = some (cell8 x)) (hgb : gb < w.heap.size) :
    Calls Tryz.prog 134 #[.slice (some ⟨gb, 0, none⟩) 1 cb, .int .i64 n] w fun e w' => e = .returned (.slice (some ⟨w.heap.size, 0, none⟩) n n) ∧ (∀ j, j < n → w'.cell? ⟨w.heap.size, j, none⟩ = some (cell8 x)) ∧ Below w.heap.size w w' := by
  have HM : Hid (Calls Tryz.prog 198 #[.int .u64 1, .int .u64 (n : Int)] w fun e w' => e = .returned (.tuple #[.int .u64 0, .int .u64 (n : Int)]) ∧ w' = w) := Lib.hid (by
    have h := Tryz.bits_Mul 1 n (by omega) (by omega) w
    have e1 : 1 * n / 18446744073709551616 = 0 := by omega
    have e2 : 1 * n % 18446744073709551616 = n := by omega
    rw [e1, e2] at h
    exact h)
  obtain ⟨cs, hmk, hcs⟩ := made_no_zero n (by omega) w
  obtain ⟨W1, hW1⟩ : ∃ W1, (w.alloc (.cells cs 5)).drewN 2 = W1 := ⟨_, rfl⟩
  have hg1 : W1.heap[w.heap.size]? = some (.cells cs 5 (0, 0)) := by rw [← hW1]; exact heap_alloc_new w _
  have hb1 : Below w.heap.size w W1 := by rw [← hW1]; have h := (Below.refl w.heap.size w).alloc (Nat.le_refl _) (.cells cs 5); exact ⟨h.os, h.tape, h.output, h.size, h.block⟩
  have hx1 : W1.cell? ⟨gb, 0, none⟩ = some (cell8 x) := (hb1.cell (p := ⟨gb, 0, none⟩) hgb).trans hx
  rw [hW1] at hmk
  have hcp := copy_first W1 w.heap.size n cs x gb cb (by omega) hcs hg1 hx1
  have hg2 : Hid ((W1.setRow w.heap.size (sameR cs x 1)).heap[w.heap.size]? = some (.cells (sameR cs x 1) 5 (0, 0))) := Lib.hid (setRow_heap W1 _ _ _ _ _ hg1)
  have hb2 : Hid (Below w.heap.size w (W1.setRow w.heap.size (sameR cs x 1))) := Lib.hid (below_setRow hb1 (Nat.le_refl _) _)
  have hcut := slice_cut W1 w.heap.size n cs.size hcs
  have HT := fun W k hk => Lib.hid (slice_tail W w.heap.size n k hk)
  have HH := fun W k hk => Lib.hid (slice_head W w.heap.size n k hk)
  have HCS := fun W k h3 h4 h5 => Lib.hid (copy_same W w.heap.size n k cs x h3 h4 hcs h5)
  have hn16 : (n : Int) ≤ 16 := by omega
  have hn1 : (1 : Int) ≤ (n : Int) := by omega
  have HN1 := Lib.hid h1
  clear hW1 hg1 hb1 hx1 hx hgb h1 h2
  go_enter Tryz.func134, Tryz.ntmps134
  go_wp2_with fail
  refine HM.out.mono ?_; rintro e w' ⟨rfl, rfl⟩
  go_wp2
  clear hcp hcut hmk
  go_loopw [10] (fun b wr => ∃ k : Nat, 1 ≤ k ∧ k ≤ n ∧ b = .int .i64 k ∧ wr.heap[w'.heap.size]? = some (.cells (sameR cs x k) 5 (0, 0)) ∧ Below w'.heap.size w' wr) (fun b _ => n - (intOf b).toNat)
  case atStart => exact ⟨1, by omega, HN1.out, rfl, hg2.out, hb2.out⟩
  case round =>
    obtain ⟨k, hk1, hk, rfl, hg, hb⟩ := hrel
    by_cases hlt : k < n
    · have hs1 := fun W => (HT W k hlt).out
      have hs2 := fun W => (HH W k (by omega)).out
      have hcp := (HCS wr.drew k hk1 hlt hg).out
      have hg3 : Hid ((wr.drew.setRow w'.heap.size (sameR cs x (k + min k (n - k)))).heap[w'.heap.size]? = some (.cells (sameR cs x (k + min k (n - k))) 5 (0, 0))) := Lib.hid (setRow_heap wr.drew _ _ _ _ _ hg)
      have hb3 : Hid (Below w'.heap.size w' (wr.drew.setRow w'.heap.size (sameR cs x (k + min k (n - k))))) := Lib.hid (below_setRow hb.drew (Nat.le_refl _) _)
      have hd1 : 1 ≤ min k (n - k) := by omega
      have hd2 : k + min k (n - k) ≤ n := by omega
      have hmin : min (k : Int) (n : Int) = (k : Int) := by omega
      generalize min k (n - k) = d at *
      have hkd : (k : Int) < (n : Int) := by omega
      have hkd2 : (k : Int) + (d : Int) ≤ 16 := by omega
      clear hg hb
      go_wp2
      go_region_held3 (fun _ => True) (trivial) (fail)
      have hwr : IntKind.i64.wrap ((k : Int) + (d : Int)) = (k : Int) + (d : Int) := IntWalk.i64_in _ (by omega)
      rw [hwr]
      clear hs1 hs2 hcp hmin
      go_wp2
      go_roundw
      case rel => exact ⟨k + d, by omega, hd2, val_i (by omega), hg3.out, hb3.out⟩
      case measure => simp [intOf]; omega
    · obtain rfl : k = n := by omega
      have HB := Lib.hid hb
      have HC : Hid (∀ j, j < k → wr.cell? ⟨w'.heap.size, j, none⟩ = some (cell8 x)) := Lib.hid (fun j hj => by rw [cell_of_row wr _ j _ _ _ hg, sameR_at cs x k j hj])
      clear hg hb
      go_wp2
      go_ret
      exact ⟨rfl, HC.out, HB.out⟩
set_option maxRecDepth 100000 in
set_option maxHeartbeats 1600000 in
theorem Pad_impl (s : ByteArray) (hs : s.size ≤ 1073741824) (w : World) :
    Calls Tryz.prog 95 #[.string s] w fun e w' => e = .returned (.string (padT s)) ∧ Below w.heap.size w w' := by
  obtain ⟨r, n, b, hm, hd, hb, hn, hbn, hr, hn1, hn2⟩ := lack_facts s
  have HE : Hid (moreT s b n = padT s) := Lib.hid (by rw [hn, hbn]; rfl)
  have hr16 : (r : Int) < 16 := by omega
  obtain ⟨W1, hW1⟩ : ∃ W1, w.alloc (.cells #[.int .u8 (n : Int)] 5) = W1 := ⟨_, rfl⟩
  have hc1 : W1.cell? ⟨w.heap.size, 0, none⟩ = some (cell8 b) := by
    rw [← hW1, hb]
    exact (cell_of_row _ w.heap.size 0 _ _ _ (heap_alloc_new w _)).trans rfl
  have hb1 : Below w.heap.size w W1 := by rw [← hW1]; exact (Below.refl _ _).alloc (Nat.le_refl _) _
  have hl1 : w.heap.size < W1.heap.size := by rw [← hW1]; simp
  have HR := Lib.hid (Repeat_impl b n hn1 hn2 w.heap.size 1 W1 hc1 hl1)
  have HW := fun g W hx hg => Lib.hid (fun c => withBytes_impl s b n hs hn1 hn2 g c W hx hg)
  have HB := Lib.hid hb1
  have HN1 := Lib.hid hn1
  clear hb hn hbn hn1 hn2 hs hb1 hl1 hc1
  go_enter Tryz.func95, Tryz.ntmps95
  go_wp2_with fail
  refine HR.out.mono ?_; rintro e w1 ⟨rfl, hc, hb1⟩
  have hlt := World.block_lt_of_cell? w1 _ (hc 0 HN1.out)
  have HW1 := Lib.hid ((HW W1.heap.size w1 hc hlt).out)
  have HB1 := Lib.hid (HB.out.trans (hb1.mono HB.out.size))
  clear hc hb1 hlt hW1
  go_wp2_with fail
  refine (HW1.out _).mono ?_; rintro e w2 ⟨rfl, hb2⟩
  have HB2 := Lib.hid (HB1.out.trans (hb2.mono HB1.out.size))
  clear hb2
  rw [HE.out]
  go_wp2
  go_ret
  exact ⟨rfl, HB2.out⟩
theorem clone_pad (s : ByteArray) (w : World) (hs : s.size ≤ 1073741824) :
    Calls Tryz.prog 44 #[.string s] w fun e w' => e = .returned (.string s) ∧ Below w.heap.size w w' := by
  go_enter Tryz.func44, Tryz.ntmps44
  go_wp2_with fail
  refine (Tryz.stringslite_Clone s _ (by omega)).mono ?_; rintro e w1 ⟨rfl, hb⟩
  go_wp2
  go_ret
  exact ⟨rfl, hb⟩
end Go.Proofs.YtbcaldhcgoclgaaGreatDoor
