/-
  Contracts and facts that the laws of this seat use: PadS.
-/
import Derived.Test.YtbcaldhcgoclgaaDoorNums
import Derived.Test.YtbcaldhcgoclgaaDoorBase
import Derived.WalkKit
import Derived.LoopTactic
import Derived.OwnWalk
import Derived.WalkLawsBesides
import Derived.WalkSpells
import Derived.Outline
import Derived.Below
import Derived.IntWalk
import Derived.Laws.OwnMore
set_option linter.unusedVariables false
set_option linter.unusedSimpArgs false
namespace Go.Proofs.YtbcaldhcgoclgaaDoor
open Go.RowKit

theorem txt_up (f : Nat → UInt8) (k : Nat) : txt f (k + 1) = txt f k ++ ⟨#[f k]⟩ := by
  apply ByteArray.ext
  apply Array.ext'
  rw [ByteArray.data_append, Array.toList_append]
  show upTo f (k + 1) = upTo f k ++ [f k]
  rw [upTo_succ]
/-- a text with k bytes b behind it. -/
def moreT (s : ByteArray) (b : UInt8) (k : Nat) : ByteArray := s ++ txt (fun _ => b) k
theorem moreT_0 (s : ByteArray) (b : UInt8) : moreT s b 0 = s := by
  unfold moreT; exact ByteArray.append_empty
theorem moreT_up (s : ByteArray) (b : UInt8) (k : Nat) : moreT s b k ++ ⟨#[b]⟩ = moreT s b (k + 1) := by
  unfold moreT; rw [txt_up, ByteArray.append_assoc]
theorem moreT_size (s : ByteArray) (b : UInt8) (k : Nat) : (moreT s b k).size = s.size + k := by
  unfold moreT; rw [ByteArray.size_append, txt_size]
/-- a literal of one byte, as a text. -/
theorem lit1 (b : UInt8) (x : Int) (hx : x = (b.toNat : Int)) (w : World) :
    (convert 28 9 (.slice (some ⟨w.heap.size, 0, none⟩) 1 1)).run Tryd.prog (w.alloc (.cells #[.int .u8 x] 5)) = .ok (.string ⟨#[b]⟩) (w.alloc (.cells #[.int .u8 x] 5)) := by
  subst hx
  have h : (w.alloc (.cells #[cell8 b] 5)).ownsRow w.heap.size 5 1 (.slice (some ⟨w.heap.size, 0, none⟩) 1 1) 1 (cells8 [b]) :=
    World.ownsRow_lit w (e := 5) (size := 1) #[cell8 b] 1 (Nat.le_refl w.heap.size) (by unfold maxLen; omega) rfl
  exact run_string_own Tryd.underlying28 Tryd.underlying5 Tryd.underlying9 h
theorem lack_facts (s : ByteArray) : ∃ (r n : Nat) (b : UInt8), (s.size : Int).tmod 16 = (r : Int) ∧ (16 : Int) - (r : Int) = (n : Int) ∧ (n : Int) = (b.toNat : Int) ∧ n = padN s ∧ b = UInt8.ofNat (padN s) ∧ r < 16 ∧ 1 ≤ n ∧ n ≤ 16 := by
  have h := padN_in s
  refine ⟨s.size % 16, padN s, UInt8.ofNat (padN s), ?_, ?_, ?_, rfl, rfl, by omega, h.1, h.2⟩
  · rw [Int.tmod_eq_emod_of_nonneg (by omega)]; omega
  · unfold padN; omega
  · rw [UInt8.toNat_ofNat']; omega
theorem text_ne {a b : ByteArray} (h : ¬ a = b) : (a.toList == b.toList) = false :=
  beq_eq_false_iff_ne.2 fun e => h (by
    rw [ByteArray.toList_eq, ByteArray.toList_eq] at e
    exact ByteArray.ext (Array.ext' e))
/-- the last byte of a text. -/
theorem last_run (s : ByteArray) (h : 0 < s.size) (W : World) :
    (Instr.index 9 (.string s) (.int .i64 ((s.size : Int) - 1))).run Tryd.prog W = .ok (.int .u8 ((lastN s : Nat) : Int)) W := by
  have hi : 0 ≤ (s.size : Int) - 1 ∧ (s.size : Int) - 1 < (s.size : Int) := by omega
  have h2 : s.size - 1 < s.size := by omega
  rw [run_index_string W 9 s .i64 _ Tryd.underlying9, dif_pos hi]
  have e : ((s.size : Int) - 1).toNat = s.size - 1 := by omega
  simp only [e]
  rw [byteOf_at s (s.size - 1) h2]
  rfl
/-- all but the bytes that the last one tells of. -/
theorem head_run (s : ByteArray) (n : Nat) (h : n ≤ s.size) (W : World) :
    (Instr.slice 9 (.string s) none (some (.int .i64 ((s.size : Int) - (n : Int)))) none).run Tryd.prog W = .ok (.string (s.extract 0 (s.size - n))) W := by
  rw [run_slice_string_h (P := Tryd.prog) W 9 s Tryd.underlying9 .i64 _ (by omega) (by omega)]
  have e : ((s.size : Int) - (n : Int)).toNat = s.size - n := by omega
  rw [e]
end Go.Proofs.YtbcaldhcgoclgaaDoor
