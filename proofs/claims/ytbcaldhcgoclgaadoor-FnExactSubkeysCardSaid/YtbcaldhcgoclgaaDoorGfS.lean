/-
  What spec's BlockTimes answers: blocks moved down byte by byte.
-/
import Derived.Test.YtbcaldhcgoclgaaDoorGf
import Derived.Test.YtbcaldhcgoclgaaDoorPadW
import Derived.Test.YtbcaldhcgoclgaaDoorSums
import Derived.Deep.RegionHeld3
import Derived.WalkKit
import Derived.LoopTactic
import Derived.OwnWalk
import Derived.WalkLawsBesides
import Derived.WalkSpells
import Derived.Outline
import Derived.Below
import Derived.IntWalk
import Derived.Laws.OwnMore
set_option linter.unusedVariables false
set_option linter.unusedSimpArgs false
namespace Go.Proofs.YtbcaldhcgoclgaaDoor
open Go.RowKit

theorem txt_zero (n : Nat) : (⟨(List.replicate n (0 : UInt8)).toArray⟩ : ByteArray) = txt (fun _ => 0) n := by
  unfold txt
  congr 2
  apply List.ext_getElem?
  intro i
  by_cases h : i < n
  · rw [upTo_at _ n i h, List.getElem?_replicate, if_pos h]
  · rw [List.getElem?_eq_none (by simp; omega), List.getElem?_eq_none (by rw [upTo_length]; omega)]
theorem zer16_txt : txt (fun _ => 0) 16 = zer16 := by
  refine b_ext _ _ 16 (txt_size _ _) zer16_size fun i hi => ?_
  rw [txt_byte _ _ _ hi, zer16_byte i hi]
theorem made_conv {w : World} {g n : Nat} (hn : n ≤ 281474976710656) (h : w.heap[g]? = some (.cells (mk8 n) 5 (0, 0))) : (convert 28 9 (.slice (some ⟨g, 0, none⟩) n n)).run Tryd.prog w = .ok (.string (txt (fun _ => 0) n)) w := by
  have ho : w.ownsRow 0 5 1 (.slice (some ⟨g, 0, none⟩) n n) n (cells8 (List.replicate n 0)) := by
    rw [← mk8_list]
    exact ⟨by simp [mk8_size], .inr ⟨g, n, mk8 n, rfl, Nat.zero_le _, h, Nat.le_refl _, by unfold maxLen; omega, by rw [mk8_size]; omega, List.take_of_length_le (by simp [mk8_size])⟩⟩
  have := run_string_own Tryd.underlying28 Tryd.underlying5 Tryd.underlying9 ho
  rw [txt_zero] at this
  exact this
theorem l14Zero_spec (n : Nat) (hn : n ≤ 281474976710656) (w : World) :
    Calls Tryd.prog 9 #[.int .i64 (n : Int)] w fun e w' => e = .returned (.string (txt (fun _ => 0) n)) ∧ Below w.heap.size w w' := by
  obtain ⟨i0, hi, hz0, hz1, hz2⟩ := info_parts Tryd.info5
  have hmk := run_make8 Tryd.underlying28 hi hz0 hz1 hz2 n n (Nat.le_refl _) hn w
  have hg : (w.alloc (.cells (mk8 n) 5)).heap[w.heap.size]? = some (.cells (mk8 n) 5 (0, 0)) := heap_alloc_new w _
  have hconv := made_conv hn hg
  have hb : Below w.heap.size w (w.alloc (.cells (mk8 n) 5)) := (Below.refl _ _).alloc (Nat.le_refl _) _
  have HB := Lib.hid hb
  clear hi hz0 hz1 hz2 hg hb
  go_enter Tryd.func9, Tryd.ntmps9
  go_wp2
  go_ret
  exact ⟨rfl, HB.out⟩
/-- what goes on from byte to byte. -/
def crF (f : Nat → UInt8) (k : Nat) : Nat := if k = 0 then 0 else (f (k - 1)).toNat % 2
theorem crF_le (f : Nat → UInt8) (k : Nat) : crF f k ≤ 1 := by unfold crF; split <;> omega
theorem dn_up (f : Nat → UInt8) (k : Nat) : (crF f k * 256 + (f k).toNat) / 2 = (UInt8.ofNat (dnF f k)).toNat ∧ (crF f k * 256 + (f k).toNat) % 2 = crF f (k + 1) := by
  have hx := (f k).toNat_lt
  have hc := crF_le f k
  have e : dnF f k = (crF f k * 256 + (f k).toNat) / 2 := by
    unfold dnF
    show ((f k).toNat + 256 * crF f k) / 2 = _
    congr 1; omega
  refine ⟨?_, ?_⟩
  · rw [e, UInt8.toNat_ofNat', Nat.mod_eq_of_lt (by omega)]
  · show _ = (f (k + 1 - 1)).toNat % 2
    rw [Nat.add_sub_cancel]; omega
theorem dn_or (x c : Nat) (hx : x < 256) (hc : c ≤ 1) : bits .or .i64 (x : Int) ((c : Int) * 256) = ((c * 256 + x : Nat) : Int) := by
  have h := nat_or_add c x 8 (by omega)
  have e : (c : Int) * 256 = ((c * 256 : Nat) : Int) := by omega
  rw [e, i64_or_nat _ _ (by omega) (by omega), Nat.or_comm, h]
theorem dn_rel {F : Nat → UInt8} {w w2 w1 : World} {k : Nat} {e : TypeId} {u v : Value} {o : Obj} {x : UInt8} (hx : F k = x)
    (hown2 : w2.ownsRow w.heap.size e 1 u k (cells8 (upTo F k))) (hbel2 : Below w.heap.size w w2)
    (hown3 : w1.ownsRow w.heap.size e 1 v (k + 1) (cells8 (upTo F k) ++ [.int .u8 (x.toNat : Int)]))
    (hgrow : (w2.alloc o).grownBy w1 u.ownBlock) :
    w1.ownsRow w.heap.size e 1 v (k + 1) (cells8 (upTo F (k + 1))) ∧ Below w.heap.size w w1 := by
  refine ⟨?_, ?_⟩
  · rw [upTo_succ, cells8_append, hx]
    exact hown3
  · have h1 : Below w.heap.size w (w2.alloc o) := hbel2.alloc hbel2.size _
    exact h1.grown hgrow h1.size (fun b hb => (hown2.lt b hb).1)
theorem first_run (s : ByteArray) (h : 0 < s.size) (W : World) :
    (Instr.index 9 (.string s) (.int .i64 0)).run Tryd.prog W = .ok (.int .u8 ((byteOf s 0).toNat : Int)) W := by
  have hi : (0 : Int) ≤ 0 ∧ (0 : Int) < (s.size : Int) := by omega
  rw [run_index_string W 9 s .i64 _ Tryd.underlying9, dif_pos hi]
  simp only [Int.toNat_zero]
  rw [byteOf_at s 0 h]
theorem at_run (s : ByteArray) (k : Nat) (h : k < s.size) (W : World) :
    (Instr.index 9 (.string s) (.int .i64 (k : Int))).run Tryd.prog W = .ok (.int .u8 ((byteOf s k).toNat : Int)) W := by
  have hi : (0 : Int) ≤ (k : Int) ∧ (k : Int) < (s.size : Int) := by omega
  rw [run_index_string W 9 s .i64 _ Tryd.underlying9, dif_pos hi]
  simp only [Int.toNat_natCast]
  rw [byteOf_at s k h]
theorem behind_run (s : ByteArray) (h : 1 ≤ s.size) (W : World) :
    (Instr.slice 9 (.string s) (some (.int .i64 1)) none none).run Tryd.prog W = .ok (.string (s.extract 1 s.size)) W := by
  rw [run_slice_string_l (P := Tryd.prog) W 9 s Tryd.underlying9 .i64 1 (by omega) (by omega)]
  rfl
theorem lit1_drew (b : UInt8) (w : World) :
    (convert 28 9 (.slice (some ⟨w.heap.size, 0, none⟩) 1 1)).run Tryd.prog (w.alloc (.cells #[.int .u8 (b.toNat : Int)] 5)).drew = .ok (.string ⟨#[b]⟩) (w.alloc (.cells #[.int .u8 (b.toNat : Int)] 5)).drew := lit1 b _ rfl w.drew
theorem gfXor_spec (a b : ByteArray) (ha : a.size = 16) (hb : b.size = 16) (w : World) :
    Calls Tryd.prog 18 #[.string a, .string b] w fun e w' => e = .returned (.string (xorS a b)) ∧ Below w.heap.size w w' := by
  rw [← xorOf_S a b ha hb]; exact xor_spec a b w (by omega) (by omega)
/-- a byte turned at the head. -/
theorem dn_head (s : ByteArray) (h : (byteOf s 15).toNat % 2 = 1) :
    (⟨#[byteOf (txt (fun i => UInt8.ofNat (dnF (byteOf s) i)) 16) 0 ^^^ 225]⟩ : ByteArray) ++ (txt (fun i => UInt8.ofNat (dnF (byteOf s) i)) 16).extract 1 16 = dnT s := by
  rw [dnT_1 s h]
  have hz : ((txt (fun i => UInt8.ofNat (dnF (byteOf s) i)) 16).extract 1 16).size = 15 := by rw [ByteArray.size_extract, txt_size]; rfl
  refine b_ext _ _ 16 (by rw [ByteArray.size_append, hz]; rfl) (txt_size _ _) fun i hi => ?_
  rw [txt_byte _ _ _ hi]
  by_cases h0 : i = 0
  · subst h0
    rw [byte_app_l _ _ _ (by show 0 < 1; omega), if_pos rfl]
    show byteOf (txt _ 16) 0 ^^^ 225 = _
    rw [txt_byte _ _ _ (by omega)]
  · rw [byte_app_r _ _ _ (by show 1 ≤ i; omega), if_neg h0, UInt8.xor_zero]
    show byteOf ((txt _ 16).extract 1 16) (i - 1) = _
    rw [byte_cut _ _ _ _ (by rw [txt_size]; omega) (by omega), txt_byte _ _ _ (by omega), show 1 + (i - 1) = i by omega]
end Go.Proofs.YtbcaldhcgoclgaaDoor
