/-
  What impl.numbersOf, Expand and RoundKey answer.
-/
import Derived.Test.YtbgjeipgmlcgaaaDoorKeyJ
import Derived.WalkKit
import Derived.LoopTactic
import Derived.OwnWalk
import Derived.WalkLawsBesides
import Derived.WalkSpells
import Derived.Outline
import Derived.Below
import Derived.Laws.OwnMore
import Derived.Laws.AppendOwn
import Derived.Laws.MakeOwn
import Derived.Laws.IdiomStrings
import Derived.Deep.AppendLies
import Derived.Deep.QuietTactic
import Derived.BigQuiet
import Derived.IntWalk
set_option linter.unusedVariables false
namespace Go.Proofs.YtbgjeipgmlcgaaaDoor
open Go.RowKit
attribute [local go_sem ↓] Go.wp_at_zero Go.wp_at_succ

set_option maxRecDepth 100000 in
theorem expanded_no (s : ByteArray) (h : ¬ kOk s) (w : World) :
    Calls Tryd.prog 32 #[.string s] w fun e w' => e = .returned (.slice none 0 0) ∧ w = w' := by
  have H1 := Lib.hid (ok_no s h)
  clear h
  go_enter Tryd.func32, Tryd.ntmps32
  go_wp2_with fail
  refine (H1.out _).mono ?_; rintro e w' ⟨rfl, rfl⟩
  go_wp2
  go_ret
  exact ⟨rfl, rfl⟩
/-- words as numbers. -/
def nums (l : List UInt32) : List Int := l.map fun x => (x.toNat : Int)
theorem nums_length (l : List UInt32) : (nums l).length = l.length := by simp [nums]
theorem nums_take (l : List UInt32) (k : Nat) (h : k < l.length) : nums (l.take (k + 1)) = nums (l.take k) ++ [((l[k]).toNat : Int)] := by
  unfold nums; rw [List.take_succ_eq_append_getElem h, List.map_append]; rfl
theorem own_base {w : World} {b b2 n size : Nat} {e : TypeId} {v : Value} {xs : List Value} (h : w.ownsRow b e size v n xs) (hb : b2 ≤ b) : w.ownsRow b2 e size v n xs := by
  refine ⟨h.1, ?_⟩
  rcases h.2 with hn | ⟨g, cap, cur, hv, hB, rest⟩
  · exact .inl hn
  · exact .inr ⟨g, cap, cur, hv, Nat.le_trans hb hB, rest⟩
theorem own_nil (w : World) (base : Nat) (e : TypeId) : w.ownsRow base e 1 (.slice none 0 0) 0 (cells64 []) := ⟨rfl, .inl ⟨rfl, rfl⟩⟩
theorem nums_rel {l : List UInt32} {w w2 w1 : World} {k : Nat} {e : TypeId} {u v : Value} {o : Obj} {x : UInt32} (hlt : k < l.length) (hx : l[k] = x)
    (hown2 : w2.ownsRow w.heap.size e 1 u k (cells64 (nums (l.take k)))) (hbel2 : Below w.heap.size w w2)
    (hown3 : w1.ownsRow w.heap.size e 1 v (k + 1) (cells64 (nums (l.take k)) ++ [.int .i64 (x.toNat : Int)]))
    (hgrow : (w2.alloc o).grownBy w1 u.ownBlock) :
    w1.ownsRow w.heap.size e 1 v (k + 1) (cells64 (nums (l.take (k + 1)))) ∧ Below w.heap.size w w1 := by
  refine ⟨?_, ?_⟩
  · rw [nums_take l k hlt, hx, cells64, List.map_append]
    exact hown3
  · have h1 : Below w.heap.size w (w2.alloc o) := hbel2.alloc hbel2.size _
    exact h1.grown hgrow h1.size (fun b hb => (hown2.lt b hb).1)
theorem own_slice64 {w : World} {base n : Nat} {e : TypeId} {v : Value} {l : List Int} (h : w.ownsRow base e 1 v n (cells64 l)) : ∃ A c, v = .slice A n c ∧ n ≤ c ∧ c ≤ 9223372036854775807 := by
  rcases h.2 with ⟨rfl, rfl⟩ | ⟨g, cap, cur, rfl, hb, hg, hn, hm, _⟩
  · exact ⟨none, 0, rfl, by omega, by omega⟩
  · exact ⟨_, _, rfl, hn, by unfold maxLen at hm; omega⟩
/-- The words can be read. -/
def WRow (w : World) (g L : Nat) (l : List UInt32) : Prop := l.length = L ∧ ∀ j (h : j < l.length), g < w.heap.size ∧ w.cell? ⟨g, j, none⟩ = some (.int .u32 ((l[j]).toNat : Int))
theorem own_wrow {w : World} {base g n c : Nat} {e : TypeId} {l : List UInt32} (h : w.ownsRow base e 1 (.slice (some ⟨g, 0, none⟩) n c) n (cells32 l)) : WRow w g n l := by
  have hl : l.length = n := by have := h.1; rw [cells32_length] at this; omega
  refine ⟨hl, fun j hj => ⟨(h.lt g rfl).2, ?_⟩⟩
  exact (h.cellAt j (by omega)).trans (cells32_at _ _ _ (List.getElem?_eq_getElem hj))
theorem WRow.below {w w' : World} {g L : Nat} {l : List UInt32} (h : WRow w g L l) (hb : Below w.heap.size w w') : WRow w' g L l :=
  ⟨h.1, fun j hj => by
    obtain ⟨hg, hc⟩ := h.2 j hj
    exact ⟨Nat.lt_of_lt_of_le hg hb.size, (hb.cell (p := ⟨g, j, none⟩) hg).trans hc⟩⟩
set_option maxRecDepth 100000 in
set_option maxHeartbeats 800000 in
theorem numbers_impl (g L c : Nat) (l : List UInt32) (w : World) (hL : L ≤ 1000) (hr : WRow w g L l) :
    Calls Tryd.prog 34 #[.slice (some ⟨g, 0, none⟩) L c] w fun e w' => ∃ v, e = .returned v ∧ w'.ownsRow w.heap.size 3 1 v L (cells64 (nums l)) ∧ Below w.heap.size w w' := by
  obtain ⟨i0, hi, hz0, hz1, hz2⟩ := info_parts info64
  have HR := Lib.hid hr
  clear hr
  go_enter Tryd.func34, Tryd.ntmps34
  go_wp2
  go_loopw [3, 8] (fun v i wr => ∃ k : Nat, k ≤ L ∧ i = .int .i64 k ∧ wr.ownsRow w.heap.size 3 1 v k (cells64 (nums (l.take k))) ∧ Below w.heap.size w wr) (fun _ i _ => L - (intOf i).toNat)
  case atStart => exact ⟨0, Nat.zero_le _, rfl, own_nil _ _ _, Below.refl _ _⟩
  case round =>
    obtain ⟨k, hk, rfl, hown, hbel⟩ := hrel
    by_cases hlt : k < L
    · have hkl : k < l.length := by have := HR.out.1; omega
      obtain ⟨x, hx⟩ : ∃ x, l[k] = x := ⟨_, rfl⟩
      have hcell : wr.cell? ⟨g, k, none⟩ = some (.int .u32 (x.toNat : Int)) := by
        obtain ⟨hg, hc⟩ := HR.out.2 k hkl
        rw [hx] at hc
        exact (hbel.cell (p := ⟨g, k, none⟩) hg).trans hc
      have HX := Lib.hid hx
      have hxl := w32_lt x
      have hx2 : (x.toNat : Int) < 4294967296 := by omega
      have hk0 : (0 : Int) ≤ (k : Int) := by omega
      have hk1 : (k : Int) < (L : Int) := by omega
      clear hx hxl
      go_wp2_with (at_builtin; refine stp ?_)
      refine unstp ?_
      refine wpList_append_lies _ rfl (.tmp 12) (.tmp 15) 25 rfl w.heap.size 3 i0 (.int .i64 0) 1 8 Tryd.underlying25 hi hz0 hz1 hz2 rfl (by decide) u3 k (cells64 (nums (l.take k))) rfl (hown.alloc _) ⟨wr.heap.size, 0, none⟩ 1 1 [.int .i64 (x.toNat : Int)] rfl rfl (World.news_of_block (cs := #[.int .i64 (x.toNat : Int)]) (heap_alloc_new wr _)) (by simp [Value.oneCell']) (by omega) (by unfold maxLen; omega) (by omega) (by have := hbel.size; simp; omega) (wr.heap.size + 1) (by simp) ?_
      intro g2 cap2 w5 hown5 hgrow hat hlt5
      have hrel := nums_rel hkl HX.out hown hbel hown5 hgrow
      clear hown hbel hown5 hgrow hat hlt5 hcell
      go_wp2
      go_roundw
      case rel => exact ⟨k + 1, by omega, by go_num, hrel.1, hrel.2⟩
      case measure => simp [intOf]; omega
    · have hk1 : ¬ (k : Int) < (L : Int) := by omega
      obtain rfl : L = k := by omega
      rw [List.take_of_length_le (by have := HR.out.1; omega)] at hown
      go_wp2
      go_ret
      exact ⟨_, rfl, hown, hbel⟩
set_option maxRecDepth 100000 in
theorem numbers_none (w : World) :
    Calls Tryd.prog 34 #[.slice none 0 0] w fun e w' => e = .returned (.slice none 0 0) ∧ w = w' := by
  go_enter Tryd.func34, Tryd.ntmps34
  go_wp2
  go_loopw [3, 8] (fun v i wr => i = .int .i64 0 ∧ v = .slice none 0 0 ∧ w = wr) (fun _ i _ => 0 - (intOf i).toNat)
  case atStart => exact ⟨rfl, rfl, rfl⟩
  case round =>
    obtain ⟨rfl, rfl, rfl⟩ := hrel
    go_wp2
    go_ret
    exact ⟨rfl, rfl⟩
/-- the numbers that Expand tells. -/
def exInts (s : ByteArray) : List Int := if kOk s then upTo (fun i => ((ew s (s.size / 4) i).toNat : Int)) (kL (s.size / 4)) else []
theorem exInts_no (s : ByteArray) (h : ¬ kOk s) : exInts s = [] := if_neg h
theorem kOf.div {s : ByteArray} {n : Nat} (h : kOf s n) : s.size / 4 = n := by rw [h.1, Nat.mul_div_cancel_left n (by omega)]
theorem exInts_of (s : ByteArray) (n : Nat) (h : kOf s n) : exInts s = nums (upTo (ew s n) (kL n)) := by
  unfold exInts nums; rw [if_pos h.ok, h.div, upTo_map]
/-- What a call that answers a list of numbers of its own leaves. -/
def OwnInts (w : World) (l : List Int) (e : Ending) (w' : World) : Prop := ∃ v, e = .returned v ∧ w'.ownsRow w.heap.size 3 1 v l.length (cells64 l) ∧ Below w.heap.size w w'
/-- the bytes of the first k words. -/
def rowW (f : Nat → UInt32) (k : Nat) : List UInt8 := (List.range k).flatMap fun j => [wb (f j) 0, wb (f j) 1, wb (f j) 2, wb (f j) 3]
theorem rowW_succ (f : Nat → UInt32) (k : Nat) : rowW f (k + 1) = rowW f k ++ [wb (f k) 0, wb (f k) 1, wb (f k) 2, wb (f k) 3] := by
  simp [rowW, List.range_succ]
/-- four words as a block. -/
def blkW (f : Nat → UInt32) : ByteArray := ⟨(rowW f 4).toArray⟩
theorem blkW_size (f : Nat → UInt32) : (blkW f).size = 16 := rfl
/-- a block of which the first k words are put. -/
def blkTo (f : Nat → UInt32) (k : Nat) : List UInt8 := rowW f k ++ List.replicate (16 - 4 * k) 0
theorem blkTo_4 (f : Nat → UInt32) : blkTo f 4 = rowW f 4 := by simp [blkTo]
theorem blkTo_put (f : Nat → UInt32) (k : Nat) (hk : k < 4) : putRow (blkTo f k) (4 * k) (f k) 4 = blkTo f (k + 1) := by
  have h4 : k = 0 ∨ k = 1 ∨ k = 2 ∨ k = 3 := by omega
  rcases h4 with rfl | rfl | rfl | rfl <;> simp [blkTo, rowW, putRow, List.range_succ, List.replicate]
/-- RoundKey as the document tells it. -/
def rkT (s : ByteArray) (i : Int) : ByteArray := if kOk s ∧ 0 ≤ i ∧ i ≤ kRi s then blkW (fun j => ew s (s.size / 4) (4 * i.toNat + j)) else ⟨#[]⟩
theorem rkT_no (s : ByteArray) (i : Int) (h : ¬ (kOk s ∧ 0 ≤ i ∧ i ≤ kRi s)) : rkT s i = ⟨#[]⟩ := if_neg h
theorem rkT_of (s : ByteArray) (n : Nat) (hn : kOf s n) (i : Nat) (h : i ≤ n + 6) : rkT s i = blkW (fun j => ew s n (4 * i + j)) := by
  unfold rkT
  rw [if_pos ⟨hn.ok, by omega, by rw [kRi_of s n hn]; omega⟩, hn.div]; rfl
theorem mk8_16 : (mk8 16).toList = cells8 (List.replicate 16 0) := mk8_list 16
end Go.Proofs.YtbgjeipgmlcgaaaDoor
