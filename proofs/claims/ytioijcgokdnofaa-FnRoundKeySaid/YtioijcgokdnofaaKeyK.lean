/-
  What impl.numbersOf, Expand and RoundKey answer.
-/
import Derived.Test.YtioijcgokdnofaaKeyJ
import Derived.WalkKit
import Derived.LoopTactic
import Derived.OwnWalk
import Derived.WalkLawsBesides
import Derived.WalkSpells
import Derived.Outline
import Derived.Below
import Derived.Laws.OwnMore
import Derived.Laws.AppendOwn
import Derived.Laws.MakeOwn
import Derived.Laws.IdiomStrings
import Derived.Deep.AppendLies
import Derived.Deep.QuietTactic
import Derived.BigQuiet
import Derived.IntWalk
set_option linter.unusedVariables false
namespace Go.Proofs.Ytioijcgokdnofaa
open Go.RowKit
attribute [local go_sem ↓] Go.wp_at_zero Go.wp_at_succ

set_option maxRecDepth 100000 in
theorem expanded_no (s : ByteArray) (h : ¬ kOk s) (w : World) :
    Calls Try.prog 63 #[.string s] w fun e w' => e = .returned (.slice none 0 0) ∧ w = w' := by
  have H1 := Lib.hid (ok_no s h)
  clear h
  go_enter Try.func63, Try.ntmps63
  go_wp2_with fail
  refine (H1.out _).mono ?_; rintro e w' ⟨rfl, rfl⟩
  go_wp2
  go_ret
  exact ⟨rfl, rfl⟩
/-- words as numbers. -/
def nums (l : List UInt32) : List Int := l.map fun x => (x.toNat : Int)
theorem nums_length (l : List UInt32) : (nums l).length = l.length := by simp [nums]
theorem nums_take (l : List UInt32) (k : Nat) (h : k < l.length) : nums (l.take (k + 1)) = nums (l.take k) ++ [((l[k]).toNat : Int)] := by
  unfold nums; rw [List.take_succ_eq_append_getElem h, List.map_append]; rfl
theorem own_base {w : World} {b b2 n size : Nat} {e : TypeId} {v : Value} {xs : List Value} (h : w.ownsRow b e size v n xs) (hb : b2 ≤ b) : w.ownsRow b2 e size v n xs := by
  refine ⟨h.1, ?_⟩
  rcases h.2 with hn | ⟨g, cap, cur, hv, hB, rest⟩
  · exact .inl hn
  · exact .inr ⟨g, cap, cur, hv, Nat.le_trans hb hB, rest⟩
theorem own_nil (w : World) (base : Nat) (e : TypeId) : w.ownsRow base e 1 (.slice none 0 0) 0 (cells64 []) := ⟨rfl, .inl ⟨rfl, rfl⟩⟩
theorem nums_rel {l : List UInt32} {w w2 w1 : World} {k : Nat} {e : TypeId} {u v : Value} {o : Obj} {x : UInt32} (hlt : k < l.length) (hx : l[k] = x)
    (hown2 : w2.ownsRow w.heap.size e 1 u k (cells64 (nums (l.take k)))) (hbel2 : Below w.heap.size w w2)
    (hown3 : w1.ownsRow w.heap.size e 1 v (k + 1) (cells64 (nums (l.take k)) ++ [.int .i64 (x.toNat : Int)]))
    (hgrow : (w2.alloc o).grownBy w1 u.ownBlock) :
    w1.ownsRow w.heap.size e 1 v (k + 1) (cells64 (nums (l.take (k + 1)))) ∧ Below w.heap.size w w1 := by
  refine ⟨?_, ?_⟩
  · rw [nums_take l k hlt, hx, cells64, List.map_append]
    exact hown3
  · have h1 : Below w.heap.size w (w2.alloc o) := hbel2.alloc hbel2.size _
    exact h1.grown hgrow h1.size (fun b hb => (hown2.lt b hb).1)
theorem own_slice64 {w : World} {base n : Nat} {e : TypeId} {v : Value} {l : List Int} (h : w.ownsRow base e 1 v n (cells64 l)) : ∃ A c, v = .slice A n c ∧ n ≤ c ∧ c ≤ 9223372036854775807 := by
  rcases h.2 with ⟨rfl, rfl⟩ | ⟨g, cap, cur, rfl, hb, hg, hn, hm, _⟩
  · exact ⟨none, 0, rfl, by omega, by omega⟩
  · exact ⟨_, _, rfl, hn, by unfold maxLen at hm; omega⟩
/-- The words can be read. -/
def WRow (w : World) (g L : Nat) (l : List UInt32) : Prop := l.length = L ∧ ∀ j (h : j < l.length), g < w.heap.size ∧ w.cell? ⟨g, j, none⟩ = some (.int .u32 ((l[j]).toNat : Int))
theorem own_wrow {w : World} {base g n c : Nat} {e : TypeId} {l : List UInt32} (h : w.ownsRow base e 1 (.slice (some ⟨g, 0, none⟩) n c) n (cells32 l)) : WRow w g n l := by
  have hl : l.length = n := by have := h.1; rw [cells32_length] at this; omega
  refine ⟨hl, fun j hj => ⟨(h.lt g rfl).2, ?_⟩⟩
  exact (h.cellAt j (by omega)).trans (cells32_at _ _ _ (List.getElem?_eq_getElem hj))
theorem WRow.below {w w' : World} {g L : Nat} {l : List UInt32} (h : WRow w g L l) (hb : Below w.heap.size w w') : WRow w' g L l :=
  ⟨h.1, fun j hj => by
    obtain ⟨hg, hc⟩ := h.2 j hj
    exact ⟨Nat.lt_of_lt_of_le hg hb.size, (hb.cell (p := ⟨g, j, none⟩) hg).trans hc⟩⟩
set_option maxRecDepth 100000 in
set_option maxHeartbeats 800000 in
theorem numbers_impl (g L c : Nat) (l : List UInt32) (w : World) (hL : L ≤ 1000) (hr : WRow w g L l) :
    Calls Try.prog 62 #[.slice (some ⟨g, 0, none⟩) L c] w fun e w' => ∃ v, e = .returned v ∧ w'.ownsRow w.heap.size 3 1 v L (cells64 (nums l)) ∧ Below w.heap.size w w' := by
  obtain ⟨i0, hi, hz0, hz1, hz2⟩ := info_parts info64
  have HR := Lib.hid hr
  clear hr
  go_enter Try.func62, Try.ntmps62
  go_wp2
  go_loopw [3, 8] (fun v i wr => ∃ k : Nat, k ≤ L ∧ i = .int .i64 k ∧ wr.ownsRow w.heap.size 3 1 v k (cells64 (nums (l.take k))) ∧ Below w.heap.size w wr) (fun _ i _ => L - (intOf i).toNat)
  case atStart => exact ⟨0, Nat.zero_le _, rfl, own_nil _ _ _, Below.refl _ _⟩
  case round =>
    obtain ⟨k, hk, rfl, hown, hbel⟩ := hrel
    by_cases hlt : k < L
    · have hkl : k < l.length := by have := HR.out.1; omega
      obtain ⟨x, hx⟩ : ∃ x, l[k] = x := ⟨_, rfl⟩
      have hcell : wr.cell? ⟨g, k, none⟩ = some (.int .u32 (x.toNat : Int)) := by
        obtain ⟨hg, hc⟩ := HR.out.2 k hkl
        rw [hx] at hc
        exact (hbel.cell (p := ⟨g, k, none⟩) hg).trans hc
      have HX := Lib.hid hx
      have hxl := w32_lt x
      have hx2 : (x.toNat : Int) < 4294967296 := by omega
      have hk0 : (0 : Int) ≤ (k : Int) := by omega
      have hk1 : (k : Int) < (L : Int) := by omega
      clear hx hxl
      go_wp2_with (at_builtin; refine stp ?_)
      refine unstp ?_
      refine wpList_append_lies _ rfl (.tmp 12) (.tmp 15) 33 rfl w.heap.size 3 i0 (.int .i64 0) 1 8 Try.underlying33 hi hz0 hz1 hz2 rfl (by decide) u3 k (cells64 (nums (l.take k))) rfl (hown.alloc _) ⟨wr.heap.size, 0, none⟩ 1 1 [.int .i64 (x.toNat : Int)] rfl rfl (World.news_of_block (cs := #[.int .i64 (x.toNat : Int)]) (heap_alloc_new wr _)) (by simp [Value.oneCell']) (by omega) (by unfold maxLen; omega) (by omega) (by have := hbel.size; simp; omega) (wr.heap.size + 1) (by simp) ?_
      intro g2 cap2 w5 hown5 hgrow hat hlt5
      have hrel := nums_rel hkl HX.out hown hbel hown5 hgrow
      clear hown hbel hown5 hgrow hat hlt5 hcell
      go_wp2
      go_roundw
      case rel => exact ⟨k + 1, by omega, by go_num, hrel.1, hrel.2⟩
      case measure => simp [intOf]; omega
    · have hk1 : ¬ (k : Int) < (L : Int) := by omega
      obtain rfl : L = k := by omega
      rw [List.take_of_length_le (by have := HR.out.1; omega)] at hown
      go_wp2
      go_ret
      exact ⟨_, rfl, hown, hbel⟩
set_option maxRecDepth 100000 in
theorem numbers_none (w : World) :
    Calls Try.prog 62 #[.slice none 0 0] w fun e w' => e = .returned (.slice none 0 0) ∧ w = w' := by
  go_enter Try.func62, Try.ntmps62
  go_wp2
  go_loopw [3, 8] (fun v i wr => i = .int .i64 0 ∧ v = .slice none 0 0 ∧ w = wr) (fun _ i _ => 0 - (intOf i).toNat)
  case atStart => exact ⟨rfl, rfl, rfl⟩
  case round =>
    obtain ⟨rfl, rfl, rfl⟩ := hrel
    go_wp2
    go_ret
    exact ⟨rfl, rfl⟩
/-- the numbers that Expand tells. -/
def exInts (s : ByteArray) : List Int := if kOk s then upTo (fun i => ((ew s (s.size / 4) i).toNat : Int)) (kL (s.size / 4)) else []
theorem exInts_no (s : ByteArray) (h : ¬ kOk s) : exInts s = [] := if_neg h
theorem kOf.div {s : ByteArray} {n : Nat} (h : kOf s n) : s.size / 4 = n := by rw [h.1, Nat.mul_div_cancel_left n (by omega)]
theorem exInts_of (s : ByteArray) (n : Nat) (h : kOf s n) : exInts s = nums (upTo (ew s n) (kL n)) := by
  unfold exInts nums; rw [if_pos h.ok, h.div, upTo_map]
/-- What a call that answers a list of numbers of its own leaves. -/
def OwnInts (w : World) (l : List Int) (e : Ending) (w' : World) : Prop := ∃ v, e = .returned v ∧ w'.ownsRow w.heap.size 3 1 v l.length (cells64 l) ∧ Below w.heap.size w w'
set_option maxRecDepth 100000 in
theorem Expand_impl (s : ByteArray) (w : World) :
    Calls Try.prog 31 #[.string s] w fun e w' => OwnInts w (exInts s) e w' := by
  by_cases h : kOk s
  · obtain ⟨n, hn⟩ := h.of
    rw [exInts_of s n hn]
    have H1 := Lib.hid (expanded_yes s n hn)
    have hle := hn.le
    have hL : kL n ≤ 1000 := by unfold kL; omega
    have H2 := fun g c l W hr => Lib.hid (numbers_impl g (kL n) c l W hL hr)
    have HN : Hid ((nums (upTo (ew s n) (kL n))).length = kL n) := Lib.hid (by rw [nums_length, upTo_length])
    clear h hn hle hL
    generalize upTo (ew s n) (kL n) = l at *
    generalize kL n = L at *
    go_enter Try.func31, Try.ntmps31
    go_wp2_with fail
    refine (H1.out _).mono ?_; rintro e w1 ⟨rfl, hown, hb1⟩
    go_wp2_with fail
    refine (H2 _ _ _ _ (own_wrow hown)).out.mono ?_; rintro e w2 ⟨v, rfl, hown2, hb2⟩
    have HO : Hid (w2.ownsRow w.heap.size 3 1 v L (cells64 (nums l))) := Lib.hid (own_base hown2 hb1.size)
    have hbel := hb1.trans (hb2.mono hb1.size)
    obtain ⟨A', c', rfl, hnc, hcm⟩ := own_slice64 hown2
    clear hown hb1 hown2 hb2
    go_wp2
    go_ret
    exact ⟨_, rfl, by rw [HN.out]; exact HO.out, hbel⟩
  · rw [exInts_no s h]
    have H1 := Lib.hid (expanded_no s h)
    have H2 := fun W => Lib.hid (numbers_none W)
    clear h
    go_enter Try.func31, Try.ntmps31
    go_wp2_with fail
    refine (H1.out _).mono ?_; rintro e w' ⟨rfl, rfl⟩
    go_wp2_with fail
    refine (H2 _).out.mono ?_; rintro e w' ⟨rfl, rfl⟩
    go_wp2
    go_ret
    exact ⟨_, rfl, own_nil _ _ _, Below.refl _ _⟩
/-- the bytes of the first k words. -/
def rowW (f : Nat → UInt32) (k : Nat) : List UInt8 := (List.range k).flatMap fun j => [wb (f j) 0, wb (f j) 1, wb (f j) 2, wb (f j) 3]
theorem rowW_succ (f : Nat → UInt32) (k : Nat) : rowW f (k + 1) = rowW f k ++ [wb (f k) 0, wb (f k) 1, wb (f k) 2, wb (f k) 3] := by
  simp [rowW, List.range_succ]
/-- four words as a block. -/
def blkW (f : Nat → UInt32) : ByteArray := ⟨(rowW f 4).toArray⟩
theorem blkW_size (f : Nat → UInt32) : (blkW f).size = 16 := rfl
/-- a block of which the first k words are put. -/
def blkTo (f : Nat → UInt32) (k : Nat) : List UInt8 := rowW f k ++ List.replicate (16 - 4 * k) 0
theorem blkTo_4 (f : Nat → UInt32) : blkTo f 4 = rowW f 4 := by simp [blkTo]
theorem blkTo_put (f : Nat → UInt32) (k : Nat) (hk : k < 4) : putRow (blkTo f k) (4 * k) (f k) 4 = blkTo f (k + 1) := by
  have h4 : k = 0 ∨ k = 1 ∨ k = 2 ∨ k = 3 := by omega
  rcases h4 with rfl | rfl | rfl | rfl <;> simp [blkTo, rowW, putRow, List.range_succ, List.replicate]
/-- RoundKey as the document tells it. -/
def rkT (s : ByteArray) (i : Int) : ByteArray := if kOk s ∧ 0 ≤ i ∧ i ≤ kRi s then blkW (fun j => ew s (s.size / 4) (4 * i.toNat + j)) else ⟨#[]⟩
theorem rkT_no (s : ByteArray) (i : Int) (h : ¬ (kOk s ∧ 0 ≤ i ∧ i ≤ kRi s)) : rkT s i = ⟨#[]⟩ := if_neg h
theorem rkT_of (s : ByteArray) (n : Nat) (hn : kOf s n) (i : Nat) (h : i ≤ n + 6) : rkT s i = blkW (fun j => ew s n (4 * i + j)) := by
  unfold rkT
  rw [if_pos ⟨hn.ok, by omega, by rw [kRi_of s n hn]; omega⟩, hn.div]; rfl
theorem mk8_16 : (mk8 16).toList = cells8 (List.replicate 16 0) := mk8_list 16
set_option maxRecDepth 100000 in
set_option maxHeartbeats 1600000 in
theorem RoundKey_at (s : ByteArray) (n : Nat) (h : kOf s n) (i : Nat) (hi : i ≤ n + 6) (w : World) :
    Calls Try.prog 39 #[.string s, .int .i64 i] w fun e w' => e = .returned (.string (blkW (fun j => ew s n (4 * i + j)))) ∧ Below w.heap.size w w' := by
  obtain ⟨i0, hi0, hz0, hz1, hz2⟩ := info_parts Try.info5
  have hmk : ∀ W : World, (Instr.makeSlice 22 (.int .i64 16) (.int .i64 16)).run Try.prog W = .ok (.slice (some ⟨W.heap.size, 0, none⟩) 16 16) (W.alloc (.cells (mk8 16) 5)) := fun W => run_make8 Try.underlying22 hi0 hz0 hz1 hz2 16 16 (by omega) (by omega) W
  have H1 := Lib.hid (expanded_yes s n h)
  have hle := h.le
  obtain ⟨L, hL⟩ : ∃ L, kL n = L := ⟨_, rfl⟩
  have hLn : L = 4 * (n + 7) := by rw [← hL]; rfl
  have HE : ∀ j, j < L → Hid ((upTo (ew s n) L)[j]? = some (ew s n j)) := fun j hj => Lib.hid (upTo_at _ _ _ hj)
  have hi4 : (i : Int) ≤ 14 := by omega
  have hi5 : 4 * (i : Int) + 4 ≤ (L : Int) := by omega
  have hL60 : (L : Int) ≤ 60 := by omega
  have hd : (L : Int) / 4 = (n : Int) + 7 := by omega
  have hi6 : (i : Int) < (n : Int) + 7 := by omega
  have HLN := Lib.hid hLn
  rw [hL] at H1
  clear hL hLn
  go_enter Try.func39, Try.ntmps39
  go_wp2_with fail
  refine (H1.out _).mono ?_; rintro e w1 ⟨rfl, hown, hb1⟩
  have HR := Lib.hid (own_wrow hown)
  have HB1 := Lib.hid hb1
  clear hown hb1
  go_wp2
  have e4 : 4 * (i + 1) - 4 * i = 4 := by omega
  have e5 : ((4 * (i + 1) - 4 * i : Nat) : Int) = 4 := by omega
  simp only [e5]
  simp only [e4]
  have h0 := World.ownsRow_lit w1 (e := 5) (size := 1) (mk8 16) 16 (Nat.le_refl w1.heap.size) (by unfold maxLen; omega) (by rw [mk8_size])
  rw [mk8_16] at h0
  have HO := Lib.hid h0
  clear h0 e4 e5 hmk
  obtain ⟨f, hf⟩ : ∃ f : Nat → UInt32, f = fun j => ew s n (4 * i + j) := ⟨_, rfl⟩
  have hcells : ∀ j, j < 4 → w.heap.size < w1.heap.size ∧ w1.cell? ⟨w.heap.size, 4 * i + j, none⟩ = some (.int .u32 ((f j).toNat : Int)) := fun j hj => by
    have hlt : 4 * i + j < (upTo (ew s n) L).length := by rw [upTo_length]; omega
    obtain ⟨hg, hc⟩ := HR.out.2 (4 * i + j) hlt
    rw [upTo_get] at hc
    rw [hf]
    exact ⟨hg, hc⟩
  have HF := Lib.hid hf
  have HC := Lib.hid hcells
  clear hcells hf HE HR
  go_loopw [29] (fun v wr => ∃ k : Nat, k ≤ 4 ∧ v = .int .i64 k ∧ wr.ownsRow w1.heap.size 5 1 (.slice (some ⟨w1.heap.size, 0, none⟩) 16 16) 16 (cells8 (blkTo f k)) ∧ Below w1.heap.size w1 wr) (fun v _ => 4 - (intOf v).toNat)
  case atStart => exact ⟨0, by omega, rfl, HO.out, (Below.refl _ _).alloc (Nat.le_refl _) _⟩
  case round =>
    obtain ⟨k, hk, rfl, hown, hbel⟩ := hrel
    by_cases hlt : k < 4
    · have hcell : wr.cell? ⟨w.heap.size, 4 * i + k, none⟩ = some (.int .u32 ((f k).toNat : Int)) := by
        obtain ⟨hg, hc⟩ := HC.out k hlt
        exact (hbel.cell (p := ⟨w.heap.size, 4 * i + k, none⟩) hg).trans hc
      have HP := Lib.hid (put_impl w1.heap.size 16 16 (4 * k) (blkTo f k) (f k) w1.heap.size wr (by omega) (by omega) (by omega) hown)
      rw [blkTo_put f k hlt, show ((4 * k : Nat) : Int) = 4 * (k : Int) by omega] at HP
      have HB := Lib.hid hbel
      have hxl := w32_lt (f k)
      have hx2 : ((f k).toNat : Int) < 4294967296 := by omega
      have hk0 : (0 : Int) ≤ (k : Int) := by omega
      have hk1 : (k : Int) < 4 := by omega
      generalize f k = x at *
      clear hown hbel hxl
      go_wp2_with fail
      refine HP.out.mono ?_; rintro e w2 ⟨rfl, hown2, hgr⟩
      have hbel2 := below_only HB.out hgr (Nat.le_refl _) HB.out.size
      clear hgr hcell HP
      go_wp2
      go_roundw
      case rel => exact ⟨k + 1, by omega, by go_num, hown2, hbel2⟩
      case measure => simp [intOf]; omega
    · obtain rfl : k = 4 := by omega
      rw [blkTo_4] at hown
      have hconv := run_string_own Try.underlying22 Try.underlying5 Try.underlying9 hown
      have hb := HB1.out.trans (hbel.mono HB1.out.size)
      clear hown hbel
      go_wp2
      go_ret
      exact ⟨by rw [← HF.out]; rfl, hb⟩
set_option maxRecDepth 100000 in
theorem RoundKey_no (s : ByteArray) (i : Int) (h : ¬ (kOk s ∧ 0 ≤ i ∧ i ≤ kRi s)) (w : World) :
    Calls Try.prog 39 #[.string s, .int .i64 i] w fun e w' => e = .returned (.string ⟨#[]⟩) ∧ Below w.heap.size w w' := by
  by_cases hk : kOk s
  · obtain ⟨n, hn⟩ := hk.of
    have hr := kRi_of s n hn
    have H1 := Lib.hid (expanded_yes s n hn)
    have hle := hn.le
    have hL : kL n = 4 * (n + 7) := rfl
    rw [hL] at H1
    have hd : (4 * ((n : Int) + 7)) / 4 = (n : Int) + 7 := by omega
    have hn8 : (n : Int) ≤ 8 := by omega
    by_cases h0 : i < 0
    · clear h hk hn hr hle hL hd
      go_enter Try.func39, Try.ntmps39
      go_wp2_with fail
      refine (H1.out _).mono ?_; rintro e w1 ⟨rfl, hown, hb1⟩
      have HB1 := Lib.hid hb1
      clear hown hb1
      go_wp2
      go_ret
      exact ⟨rfl, HB1.out⟩
    · have h1 : (n : Int) + 7 ≤ i := by
        rw [hr] at h
        have : ¬ (i ≤ ((n + 6 : Nat) : Int)) := fun h2 => h ⟨hk, by omega, h2⟩
        omega
      clear h hk hn hr hle hL
      go_enter Try.func39, Try.ntmps39
      go_wp2_with fail
      refine (H1.out _).mono ?_; rintro e w1 ⟨rfl, hown, hb1⟩
      have HB1 := Lib.hid hb1
      clear hown hb1
      go_wp2
      go_ret
      exact ⟨rfl, HB1.out⟩
  · have H1 := Lib.hid (expanded_no s hk)
    clear h hk
    by_cases h0 : i < 0
    · go_enter Try.func39, Try.ntmps39
      go_wp2_with fail
      refine (H1.out _).mono ?_; rintro e w' ⟨rfl, rfl⟩
      go_wp2
      go_ret
      exact ⟨rfl, Below.refl _ _⟩
    · go_enter Try.func39, Try.ntmps39
      go_wp2_with fail
      refine (H1.out _).mono ?_; rintro e w' ⟨rfl, rfl⟩
      go_wp2
      go_ret
      exact ⟨rfl, Below.refl _ _⟩
theorem RoundKey_impl (s : ByteArray) (i : Int) (w : World) :
    Calls Try.prog 39 #[.string s, .int .i64 i] w fun e w' => e = .returned (.string (rkT s i)) ∧ Below w.heap.size w w' := by
  by_cases h : kOk s ∧ 0 ≤ i ∧ i ≤ kRi s
  · obtain ⟨n, hn⟩ := h.1.of
    obtain ⟨j, rfl⟩ := Int.eq_ofNat_of_zero_le h.2.1
    have h2 := h.2.2
    rw [kRi_of s n hn] at h2
    rw [rkT_of s n hn j (by omega)]
    exact RoundKey_at s n hn j (by omega) w
  · rw [rkT_no s i h]
    exact RoundKey_no s i h w
end Go.Proofs.Ytioijcgokdnofaa
