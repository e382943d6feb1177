/-
  Contracts and facts that the laws of this seat use: IntMarks, KeyI, KeyJ, KeyK, KeyS, KeyT.
-/
import Derived.Test.YtbcaldhcgoclgaaBase
import Derived.Test.YtbcaldhcgoclgaaPure
import Derived.WalkKit
import Derived.LoopTactic
import Derived.OwnWalk
import Derived.WalkLawsBesides
import Derived.WalkSpells
import Derived.Outline
import Derived.Below
import Derived.Laws.AppendOwn
import Derived.Laws.OwnMore
import Derived.Deep.QuietTactic
import Derived.Deep.Draws
import Derived.BigQuiet
import Derived.WalkSmall
import Derived.IntWalk
import Derived.Test.YtbcaldhcgoclgaaWord
import Derived.Laws.IdiomStrings
import Derived.Deep.RegionHeld3
import Derived.Laws.MakeOwn
import Derived.Laws.EntriesVeiled
import Derived.Shelf.Abstract
import Derived.Deep.AppendLies
set_option linter.unusedVariables false
namespace Go.Proofs.Ytbcaldhcgoclgaa
open Go.RowKit
attribute [local go_sem ↓] Go.wp_at_zero Go.wp_at_succ

/-- the marks from K on. -/
def markF (K : Nat) (j : Nat) : Int := ((K + j : Nat) : Int)
def oldF (l : List Int) (j : Nat) : Int := l.getD j 0
theorem old_up (l : List Int) (n : Nat) (h : l.length = n) : upTo (oldF l) n = l := by
  apply List.ext_getElem
  · rw [upTo_length, h]
  · intro i h1 h2
    rw [upTo_get]
    unfold oldF
    rw [List.getD_eq_getElem?_getD, List.getElem?_eq_getElem h2]; rfl
theorem mark_rel {w wr : World} {B g n c K j : Nat} {l : List Int} {e : TypeId} (hown : wr.ownsRow B e 1 (.slice (some ⟨g, 0, none⟩) n c) n (cells64 (rowTo (markF K) (oldF l) n j))) (hb : Below B w wr) (hg : B ≤ g) :
    (wr.setCell ⟨g, j, none⟩ (.int .i64 ((K : Int) + (j : Int)))).ownsRow B e 1 (.slice (some ⟨g, 0, none⟩) n c) n (cells64 (rowTo (markF K) (oldF l) n (j + 1))) ∧ Below B w (wr.setCell ⟨g, j, none⟩ (.int .i64 ((K : Int) + (j : Int)))) := by
  refine ⟨?_, hb.setCell hg _⟩
  have h := (hown.stored j (.int .i64 ((K : Int) + (j : Int)))).1
  have e : (cells64 (rowTo (markF K) (oldF l) n j)).set j (.int .i64 ((K : Int) + (j : Int))) = cells64 (rowTo (markF K) (oldF l) n (j + 1)) := by
    rw [← rowTo_set]
    unfold cells64
    rw [List.map_set]
    congr 1
  rw [e] at h
  exact h
end Go.Proofs.Ytbcaldhcgoclgaa
set_option linter.unusedVariables false
namespace Go.Proofs.Ytbcaldhcgoclgaa
open Go.RowKit

def kSz (s : ByteArray) : Int := if s.size = 16 then 0 else if s.size = 24 then 1 else if s.size = 32 then 2 else -1
theorem kSz_ok (s : ByteArray) : (kSz s = -1) = ¬ kOk s := by
  unfold kSz kOk
  by_cases h1 : s.size = 16
  · simp [h1]
  · by_cases h2 : s.size = 24
    · simp [h2]
    · by_cases h3 : s.size = 32
      · simp [h3]
      · simp [h1, h2, h3]
/-- a right key of n words. -/
def kOf (s : ByteArray) (n : Nat) : Prop := s.size = 4 * n ∧ (n = 4 ∨ n = 6 ∨ n = 8)
theorem kOk.of {s : ByteArray} (h : kOk s) : ∃ n, kOf s n := by
  rcases h with h | h | h
  · exact ⟨4, h, .inl rfl⟩
  · exact ⟨6, h, .inr (.inl rfl)⟩
  · exact ⟨8, h, .inr (.inr rfl)⟩
theorem kOf.ok {s : ByteArray} {n : Nat} (h : kOf s n) : kOk s := by
  obtain ⟨h1, rfl | rfl | rfl⟩ := h
  · exact .inl h1
  · exact .inr (.inl h1)
  · exact .inr (.inr h1)
theorem kOf.le {s : ByteArray} {n : Nat} (h : kOf s n) : 4 ≤ n ∧ n ≤ 8 := by rcases h.2 with rfl | rfl | rfl <;> omega
/-- Rounds as the document tells it. -/
def kRi (s : ByteArray) : Int := if kOk s then ((s.size / 4 + 6 : Nat) : Int) else 0
theorem kRi_no (s : ByteArray) (h : ¬ kOk s) : kRi s = 0 := if_neg h
theorem kRi_of (s : ByteArray) (n : Nat) (h : kOf s n) : kRi s = ((n + 6 : Nat) : Int) := by
  unfold kRi; rw [if_pos h.ok, h.1, Nat.mul_div_cancel_left n (by omega)]
theorem rconI_pos (j : Nat) (h : 1 ≤ j) : rconI (j : Int) = ((rcon j).toNat : Int) := by
  unfold rconI; rw [if_neg (by omega)]; simp
theorem below_drewN1 {w w1 : World} {n B : Nat} (h : Below B (w.drewN n) w1) : Below B w w1 := ⟨h.os, h.tape, h.output, h.size, h.block⟩
/-- what grow tells: growW, but for the word in the middle of a key of eight words. -/
def growS (n i : Nat) (x : UInt32) : UInt32 := if i % n = 0 then subW (rot x 8) ^^^ rcon (i / n) else x
theorem growW_S (n i : Nat) (x : UInt32) (h : ¬ (n = 8 ∧ i % 8 = 4)) : growW n i x = growS n i x := by
  unfold growW growS; rw [if_neg h]
end Go.Proofs.Ytbcaldhcgoclgaa
set_option linter.unusedVariables false
namespace Go.Proofs.Ytbcaldhcgoclgaa
open Go.RowKit
attribute [local go_sem ↓] Go.wp_at_zero Go.wp_at_succ

/-- a function as a value. -/
def gfn (f : FuncId) : Value := .func (.func f) #[] #[]
theorem own_below {w w' : World} {base n size : Nat} {e : TypeId} {v : Value} {xs : List Value} (h : w.ownsRow base e size v n xs) (hb : Below w.heap.size w w') : w'.ownsRow base e size v n xs := by
  refine ⟨h.1, ?_⟩
  rcases h.2 with hn | ⟨g, cap, cur, hv, hB, hg, rest⟩
  · exact .inl hn
  · refine .inr ⟨g, cap, cur, hv, hB, (hb.block g ?_).trans hg, rest⟩
    rcases Nat.lt_or_ge g w.heap.size with hlt | hge
    · exact hlt
    · rw [Array.getElem?_eq_none hge] at hg; cases hg
def mk32 (n : Nat) : Array Value := madeCells #[.int .u32 0] n
theorem mk32_size (n : Nat) : (mk32 n).size = n := size_madeCells _ _
theorem run_make32 {P : Program} {t e : TypeId} {i : TypeInfo} (ht : P.underlying t = some (.slice e)) (hi : P.info? e = some i) (hz : i.zero = some (.int .u32 0)) (h1 : i.size = 1) (h2 : i.bytes = 4)
    (l : Nat) (c : Int) (hc : c = (l : Int)) (hc2 : l ≤ 35184372088832) (w : World) :
    (Instr.makeSlice t (.int .i64 c) (.int .i64 c)).run P w = .ok (.slice (some ⟨w.heap.size, 0, none⟩) l l) (w.alloc (.cells (mk32 l) e)) := by
  subst hc
  have := run_make (P := P) w t e i (.int .u32 0) ht hi hz .i64 .i64 l l (by omega) (by omega) (by rw [h2]; omega) (by omega)
  rw [this]
  simp [h1, mk32, Value.cells]
theorem mk32_list (n : Nat) : (mk32 n).toList = cells32 (List.replicate n 0) := by
  unfold mk32
  rw [toList_madeCells_one]
  simp [cells32, cell32]
theorem info32 : (Try.prog.info? 50).map (fun i => (i.zero, i.size, i.bytes)) = some (some (.int .u32 0), 1, 4) := by kernel_rfl
/-- the words of a key as far as they have grown. -/
def exTo (s : ByteArray) (n k : Nat) : List UInt32 := rowTo (ew s n) (fun _ => 0) (kL n) k
theorem exTo_length (s : ByteArray) (n k : Nat) : (exTo s n k).length = kL n := rowTo_length _ _ _ _
theorem exTo_zero (s : ByteArray) (n : Nat) : exTo s n 0 = List.replicate (kL n) 0 := by unfold exTo; rw [rowTo_zero, upTo_const]
theorem exTo_all (s : ByteArray) (n : Nat) : exTo s n (kL n) = upTo (ew s n) (kL n) := rowTo_all _ _ _ _ (Nat.le_refl _)
theorem cells32_at (l : List UInt32) (j : Nat) (x : UInt32) (h : l[j]? = some x) : (cells32 l)[j]? = some (.int .u32 (x.toNat : Int)) := by
  unfold cells32; rw [List.getElem?_map, h]; rfl
theorem ex_rel {w wr : World} {g n c k : Nat} {s : ByteArray} {x : UInt32} {e : TypeId} (hx : ew s n k = x)
    (hown : wr.ownsRow w.heap.size e 1 (.slice (some ⟨g, 0, none⟩) c c) c (cells32 (exTo s n k))) (hb : Below w.heap.size w wr) (hg : w.heap.size ≤ g) :
    (wr.setCell ⟨g, k, none⟩ (.int .u32 (x.toNat : Int))).ownsRow w.heap.size e 1 (.slice (some ⟨g, 0, none⟩) c c) c (cells32 (exTo s n (k + 1))) ∧ Below w.heap.size w (wr.setCell ⟨g, k, none⟩ (.int .u32 (x.toNat : Int))) := by
  refine ⟨?_, hb.setCell hg _⟩
  have h := (hown.stored k (cell32 x)).1
  have e : (cells32 (exTo s n k)).set k (cell32 x) = cells32 (exTo s n (k + 1)) := by
    rw [cells32_set, ← hx, exTo, exTo, rowTo_set]
  rw [e] at h
  exact h
end Go.Proofs.Ytbcaldhcgoclgaa
set_option linter.unusedVariables false
namespace Go.Proofs.Ytbcaldhcgoclgaa
open Go.RowKit
attribute [local go_sem ↓] Go.wp_at_zero Go.wp_at_succ

/-- words as numbers. -/
def nums (l : List UInt32) : List Int := l.map fun x => (x.toNat : Int)
theorem nums_length (l : List UInt32) : (nums l).length = l.length := by simp [nums]
theorem nums_take (l : List UInt32) (k : Nat) (h : k < l.length) : nums (l.take (k + 1)) = nums (l.take k) ++ [((l[k]).toNat : Int)] := by
  unfold nums; rw [List.take_succ_eq_append_getElem h, List.map_append]; rfl
theorem own_base {w : World} {b b2 n size : Nat} {e : TypeId} {v : Value} {xs : List Value} (h : w.ownsRow b e size v n xs) (hb : b2 ≤ b) : w.ownsRow b2 e size v n xs := by
  refine ⟨h.1, ?_⟩
  rcases h.2 with hn | ⟨g, cap, cur, hv, hB, rest⟩
  · exact .inl hn
  · exact .inr ⟨g, cap, cur, hv, Nat.le_trans hb hB, rest⟩
theorem own_nil (w : World) (base : Nat) (e : TypeId) : w.ownsRow base e 1 (.slice none 0 0) 0 (cells64 []) := ⟨rfl, .inl ⟨rfl, rfl⟩⟩
theorem nums_rel {l : List UInt32} {w w2 w1 : World} {k : Nat} {e : TypeId} {u v : Value} {o : Obj} {x : UInt32} (hlt : k < l.length) (hx : l[k] = x)
    (hown2 : w2.ownsRow w.heap.size e 1 u k (cells64 (nums (l.take k)))) (hbel2 : Below w.heap.size w w2)
    (hown3 : w1.ownsRow w.heap.size e 1 v (k + 1) (cells64 (nums (l.take k)) ++ [.int .i64 (x.toNat : Int)]))
    (hgrow : (w2.alloc o).grownBy w1 u.ownBlock) :
    w1.ownsRow w.heap.size e 1 v (k + 1) (cells64 (nums (l.take (k + 1)))) ∧ Below w.heap.size w w1 := by
  refine ⟨?_, ?_⟩
  · rw [nums_take l k hlt, hx, cells64, List.map_append]
    exact hown3
  · have h1 : Below w.heap.size w (w2.alloc o) := hbel2.alloc hbel2.size _
    exact h1.grown hgrow h1.size (fun b hb => (hown2.lt b hb).1)
theorem own_slice64 {w : World} {base n : Nat} {e : TypeId} {v : Value} {l : List Int} (h : w.ownsRow base e 1 v n (cells64 l)) : ∃ A c, v = .slice A n c ∧ n ≤ c ∧ c ≤ 9223372036854775807 := by
  rcases h.2 with ⟨rfl, rfl⟩ | ⟨g, cap, cur, rfl, hb, hg, hn, hm, _⟩
  · exact ⟨none, 0, rfl, by omega, by omega⟩
  · exact ⟨_, _, rfl, hn, by unfold maxLen at hm; omega⟩
/-- The words can be read. -/
def WRow (w : World) (g L : Nat) (l : List UInt32) : Prop := l.length = L ∧ ∀ j (h : j < l.length), g < w.heap.size ∧ w.cell? ⟨g, j, none⟩ = some (.int .u32 ((l[j]).toNat : Int))
theorem own_wrow {w : World} {base g n c : Nat} {e : TypeId} {l : List UInt32} (h : w.ownsRow base e 1 (.slice (some ⟨g, 0, none⟩) n c) n (cells32 l)) : WRow w g n l := by
  have hl : l.length = n := by have := h.1; rw [cells32_length] at this; omega
  refine ⟨hl, fun j hj => ⟨(h.lt g rfl).2, ?_⟩⟩
  exact (h.cellAt j (by omega)).trans (cells32_at _ _ _ (List.getElem?_eq_getElem hj))
theorem WRow.below {w w' : World} {g L : Nat} {l : List UInt32} (h : WRow w g L l) (hb : Below w.heap.size w w') : WRow w' g L l :=
  ⟨h.1, fun j hj => by
    obtain ⟨hg, hc⟩ := h.2 j hj
    exact ⟨Nat.lt_of_lt_of_le hg hb.size, (hb.cell (p := ⟨g, j, none⟩) hg).trans hc⟩⟩
/-- the numbers that Expand tells. -/
def exInts (s : ByteArray) : List Int := if kOk s then upTo (fun i => ((ew s (s.size / 4) i).toNat : Int)) (kL (s.size / 4)) else []
theorem exInts_no (s : ByteArray) (h : ¬ kOk s) : exInts s = [] := if_neg h
theorem kOf.div {s : ByteArray} {n : Nat} (h : kOf s n) : s.size / 4 = n := by rw [h.1, Nat.mul_div_cancel_left n (by omega)]
theorem exInts_of (s : ByteArray) (n : Nat) (h : kOf s n) : exInts s = nums (upTo (ew s n) (kL n)) := by
  unfold exInts nums; rw [if_pos h.ok, h.div, upTo_map]
/-- What a call that answers a list of numbers of its own leaves. -/
def OwnInts (w : World) (l : List Int) (e : Ending) (w' : World) : Prop := ∃ v, e = .returned v ∧ w'.ownsRow w.heap.size 3 1 v l.length (cells64 l) ∧ Below w.heap.size w w'
/-- the bytes of the first k words. -/
def rowW (f : Nat → UInt32) (k : Nat) : List UInt8 := (List.range k).flatMap fun j => [wb (f j) 0, wb (f j) 1, wb (f j) 2, wb (f j) 3]
theorem rowW_succ (f : Nat → UInt32) (k : Nat) : rowW f (k + 1) = rowW f k ++ [wb (f k) 0, wb (f k) 1, wb (f k) 2, wb (f k) 3] := by
  simp [rowW, List.range_succ]
/-- four words as a block. -/
def blkW (f : Nat → UInt32) : ByteArray := ⟨(rowW f 4).toArray⟩
theorem blkW_size (f : Nat → UInt32) : (blkW f).size = 16 := rfl
/-- a block of which the first k words are put. -/
def blkTo (f : Nat → UInt32) (k : Nat) : List UInt8 := rowW f k ++ List.replicate (16 - 4 * k) 0
theorem blkTo_4 (f : Nat → UInt32) : blkTo f 4 = rowW f 4 := by simp [blkTo]
theorem blkTo_put (f : Nat → UInt32) (k : Nat) (hk : k < 4) : putRow (blkTo f k) (4 * k) (f k) 4 = blkTo f (k + 1) := by
  have h4 : k = 0 ∨ k = 1 ∨ k = 2 ∨ k = 3 := by omega
  rcases h4 with rfl | rfl | rfl | rfl <;> simp [blkTo, rowW, putRow, List.range_succ, List.replicate]
/-- RoundKey as the document tells it. -/
def rkT (s : ByteArray) (i : Int) : ByteArray := if kOk s ∧ 0 ≤ i ∧ i ≤ kRi s then blkW (fun j => ew s (s.size / 4) (4 * i.toNat + j)) else ⟨#[]⟩
theorem rkT_no (s : ByteArray) (i : Int) (h : ¬ (kOk s ∧ 0 ≤ i ∧ i ≤ kRi s)) : rkT s i = ⟨#[]⟩ := if_neg h
theorem rkT_of (s : ByteArray) (n : Nat) (hn : kOf s n) (i : Nat) (h : i ≤ n + 6) : rkT s i = blkW (fun j => ew s n (4 * i + j)) := by
  unfold rkT
  rw [if_pos ⟨hn.ok, by omega, by rw [kRi_of s n hn]; omega⟩, hn.div]; rfl
theorem mk8_16 : (mk8 16).toList = cells8 (List.replicate 16 0) := mk8_list 16
set_option maxRecDepth 100000 in
set_option maxHeartbeats 1600000 in
theorem blockOf_impl (f : Nat → UInt32) (g o c : Nat) (w : World) (hg : g < w.heap.size) (h : ∀ j, j < 4 → w.cell? ⟨g, o + j, none⟩ = some (.int .u32 ((f j).toNat : Int))) :
    Calls Try.prog 36 #[.slice (some ⟨g, o, none⟩) 4 c] w fun e w' => e = .returned (.string (blkW f)) ∧ Below w.heap.size w w' := by
  obtain ⟨i0, hi0, hz0, hz1, hz2⟩ := info_parts Try.info5
  have hmk : ∀ W : World, (Instr.makeSlice 22 (.int .i64 16) (.int .i64 16)).run Try.prog W = .ok (.slice (some ⟨W.heap.size, 0, none⟩) 16 16) (W.alloc (.cells (mk8 16) 5)) := fun W => run_make8 Try.underlying22 hi0 hz0 hz1 hz2 16 16 (by omega) (by omega) W
  have h0 := World.ownsRow_lit w (e := 5) (size := 1) (mk8 16) 16 (Nat.le_refl w.heap.size) (by unfold maxLen; omega) (by rw [mk8_size])
  rw [mk8_16] at h0
  have HO := Lib.hid h0
  have HC := Lib.hid h
  have HG := Lib.hid hg
  clear h0 h hg
  go_enter Try.func36, Try.ntmps36
  go_wp2
  clear hmk
  go_loopw [9] (fun v wr => ∃ k : Nat, k ≤ 4 ∧ v = .int .i64 k ∧ wr.ownsRow w.heap.size 5 1 (.slice (some ⟨w.heap.size, 0, none⟩) 16 16) 16 (cells8 (blkTo f k)) ∧ Below w.heap.size w wr) (fun v _ => 4 - (intOf v).toNat)
  case atStart => exact ⟨0, by omega, rfl, HO.out, (Below.refl _ _).alloc (Nat.le_refl _) _⟩
  case round =>
    obtain ⟨k, hk, rfl, hown, hbel⟩ := hrel
    by_cases hlt : k < 4
    · have hcell : wr.cell? ⟨g, o + k, none⟩ = some (.int .u32 ((f k).toNat : Int)) := (hbel.cell (p := ⟨g, o + k, none⟩) HG.out).trans (HC.out k hlt)
      have HP := Lib.hid (put_impl w.heap.size 16 16 (4 * k) (blkTo f k) (f k) w.heap.size wr (by omega) (by omega) (by omega) hown)
      rw [blkTo_put f k hlt, show ((4 * k : Nat) : Int) = 4 * (k : Int) by omega] at HP
      have HB := Lib.hid hbel
      have hxl := w32_lt (f k)
      have hx2 : ((f k).toNat : Int) < 4294967296 := by omega
      have hk0 : (0 : Int) ≤ (k : Int) := by omega
      have hk1 : (k : Int) < 4 := by omega
      generalize f k = x at *
      clear hown hbel hxl
      go_wp2_with fail
      refine HP.out.mono ?_; rintro e w2 ⟨rfl, hown2, hgr⟩
      have hbel2 := below_only HB.out hgr (Nat.le_refl _) HB.out.size
      clear hgr hcell HP
      go_wp2
      go_roundw
      case rel => exact ⟨k + 1, by omega, by go_num, hown2, hbel2⟩
      case measure => simp [intOf]; omega
    · obtain rfl : k = 4 := by omega
      rw [blkTo_4] at hown
      have hconv := run_string_own Try.underlying22 Try.underlying5 Try.underlying9 hown
      have HB := Lib.hid hbel
      clear hown hbel
      go_wp2
      go_ret
      exact ⟨rfl, HB.out⟩
end Go.Proofs.Ytbcaldhcgoclgaa
set_option linter.unusedVariables false
namespace Go.Proofs.Ytbcaldhcgoclgaa
open Go.RowKit
attribute [local go_sem ↓] Go.wp_at_zero Go.wp_at_succ

theorem up_rel {F : Nat → Int} {w w2 w1 : World} {k : Nat} {e : TypeId} {u v : Value} {o : Obj} {x : Int} (hx : F k = x)
    (hown2 : w2.ownsRow w.heap.size e 1 u k (cells64 (upTo F k))) (hbel2 : Below w.heap.size w w2)
    (hown3 : w1.ownsRow w.heap.size e 1 v (k + 1) (cells64 (upTo F k) ++ [.int .i64 x]))
    (hgrow : (w2.alloc o).grownBy w1 u.ownBlock) :
    w1.ownsRow w.heap.size e 1 v (k + 1) (cells64 (upTo F (k + 1))) ∧ Below w.heap.size w w1 := by
  refine ⟨?_, ?_⟩
  · rw [upTo_succ, hx, cells64, List.map_append]
    exact hown3
  · have h1 : Below w.heap.size w (w2.alloc o) := hbel2.alloc hbel2.size _
    exact h1.grown hgrow h1.size (fun b hb => (hown2.lt b hb).1)
theorem cells64_at (F : Nat → Int) (k j : Nat) (h : j < k) : (cells64 (upTo F k))[j]? = some (.int .i64 (F j)) := by
  unfold cells64; rw [List.getElem?_map, upTo_at F k j h]; rfl
/-- a word as a number. -/
def ewI (s : ByteArray) (n i : Nat) : Int := ((ew s n i).toNat : Int)
end Go.Proofs.Ytbcaldhcgoclgaa
set_option linter.unusedVariables false
namespace Go.Proofs.Ytbcaldhcgoclgaa
open Go.RowKit

theorem rowW_size (f : Nat → UInt32) (k : Nat) : (⟨(rowW f k).toArray⟩ : ByteArray).size = 4 * k := by
  show (rowW f k).toArray.size = 4 * k
  induction k with
  | zero => rfl
  | succ k ih => rw [rowW_succ]; simp at ih ⊢; omega
theorem rowW_put (f : Nat → UInt32) (k : Nat) : (⟨(rowW f k).toArray⟩ : ByteArray) ++ putW (f k) = ⟨(rowW f (k + 1)).toArray⟩ := by
  rw [rowW_succ]
  apply ByteArray.ext
  simp [putW]
end Go.Proofs.Ytbcaldhcgoclgaa
