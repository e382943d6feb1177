/-
  The walk of laws.FnDec: it returns true at every code; what the row's list of variables gives.
-/
import Derived.Test.YtdhncpkcbeggmaaDoorCur
import Derived.Test.YtdhncpkcbeggmaaDoorByte
import Derived.Test.YtdhncpkcbeggmaaDoorDraw
import Derived.Test.YtdhncpkcbeggmaaDoorReadI
import Derived.Deep.RegionHeld3
import Derived.Deep.DrawnRows
import Derived.Deep.AppendLies
import Derived.WalkKit
import Derived.LoopTactic
import Derived.OwnWalk
import Derived.WalkLawsBesides
import Derived.WalkSpells
import Derived.Outline
import Derived.Laws.Pointers
import Derived.Deep.QuietTactic
import Derived.BigQuiet
import Derived.IntWalk
set_option linter.unusedVariables false
namespace Go.Proofs.YtdhncpkcbeggmaaDoor
open Go.RowKit

def In64 (x : Int) : Prop := -9223372036854775808 ≤ x ∧ x ≤ 9223372036854775807
theorem twelve (x : Int) (h0 : 0 ≤ x) (h1 : x < 100000) :
    ∀ j, j < 12 → ∃ u : Int, (#[Value.int .i64 0, .int .i64 1, .int .i64 (-1), .int .i64 255, .int .i64 256, .int .i64 4294967295, .int .i64 4294967296, .int .i64 999999999, .int .i64 1000000000, .int .i64 9223372036854775807, .int .i64 (-9223372036854775808), .int .i64 x] : Array Value)[j]? = some (.int .i64 u) ∧ In64 u := by
  intro j hj
  unfold In64
  match j, hj with
  | 0, _ => exact ⟨_, rfl, by omega, by omega⟩
  | 1, _ => exact ⟨_, rfl, by omega, by omega⟩
  | 2, _ => exact ⟨_, rfl, by omega, by omega⟩
  | 3, _ => exact ⟨_, rfl, by omega, by omega⟩
  | 4, _ => exact ⟨_, rfl, by omega, by omega⟩
  | 5, _ => exact ⟨_, rfl, by omega, by omega⟩
  | 6, _ => exact ⟨_, rfl, by omega, by omega⟩
  | 7, _ => exact ⟨_, rfl, by omega, by omega⟩
  | 8, _ => exact ⟨_, rfl, by omega, by omega⟩
  | 9, _ => exact ⟨_, rfl, by omega, by omega⟩
  | 10, _ => exact ⟨_, rfl, by omega, by omega⟩
  | 11, _ => exact ⟨_, rfl, by omega, by omega⟩
theorem eight (a b c d e f g i : ByteArray) (ha : a.size ≤ 20) (hb : b.size ≤ 20) (hc : c.size ≤ 20) (hd : d.size ≤ 20) (he : e.size ≤ 20) (hf : f.size ≤ 20) (hg : g.size ≤ 20) (hi : i.size ≤ 20) :
    ∀ j, j < 8 → ∃ u : ByteArray, (#[Value.string a, .string b, .string c, .string d, .string e, .string f, .string g, .string i] : Array Value)[j]? = some (.string u) ∧ u.size ≤ 20 := by
  intro j hj
  match j, hj with
  | 0, _ => exact ⟨_, rfl, ha⟩
  | 1, _ => exact ⟨_, rfl, hb⟩
  | 2, _ => exact ⟨_, rfl, hc⟩
  | 3, _ => exact ⟨_, rfl, hd⟩
  | 4, _ => exact ⟨_, rfl, he⟩
  | 5, _ => exact ⟨_, rfl, hf⟩
  | 6, _ => exact ⟨_, rfl, hg⟩
  | 7, _ => exact ⟨_, rfl, hi⟩

set_option maxRecDepth 100000 in
set_option maxHeartbeats 1600000 in
theorem int_any (w : World) (B g : Nat) (A : Option Addr) (len cap : Nat) (hc : CurIn w B g A len cap) :
    Calls Tryd.prog 26 #[.pointer (some ⟨g, 0, none⟩)] w fun e w' => ∃ x : Int, e = .returned (.int .i64 x) ∧ In64 x ∧ CurIn w' B g A len cap ∧ w.grownBy w' (some g) := by
  go_enter Tryd.func26, Tryd.ntmps26
  go_wp2_with fail
  refine (below_any _ (by omega) (by omega) _ _ _ _ _ _ hc).mono ?_; rintro e w1 ⟨x, rfl, hx0, hx1, hc1, hg1⟩
  go_wp2_with fail
  refine (pickint_any In64 12 w1.heap.size 3 _ (by omega) (by omega) _ _ _ _ _ _ (hc1.alloc _) (heap_alloc_new w1 _) hc1.lt (twelve x hx0 hx1)).mono ?_
  rintro e w2 ⟨u, rfl, hu, hc2, hg2⟩
  have HU := Lib.hid hu
  clear hu
  go_wp2
  go_ret
  exact ⟨_, rfl, HU.out, hc2, only_trans (only_alloc hg1 _) hg2⟩

set_option maxRecDepth 100000 in
set_option maxHeartbeats 1600000 in
theorem draw_dec (w : World) (A : Option Addr) (len cap : Nat) (hcode : CodeAt w w.heap.size A len) (hl : len ≤ 1048576) :
    Calls Tryd.prog 9 #[.slice A len cap] w fun e w' => ∃ x : Int, e = .returned (.int .i64 x) ∧ In64 x ∧ Below w.heap.size w w' := by
  have H := Lib.hid hcode
  clear hcode
  go_enter Tryd.func9, Tryd.ntmps9
  go_wp2_with fail
  refine (new_any _ _ _ _ H.out hl).mono ?_; rintro e w1 ⟨g, rfl, hc1, hb1⟩
  go_wp2_with fail
  refine (int_any _ _ _ _ _ _ hc1).mono ?_; rintro e w2 ⟨x, rfl, hx, hc2, hg2⟩
  have HX := Lib.hid hx
  clear hx
  go_wp2
  go_ret
  exact ⟨_, rfl, HX.out, below_only hb1 hg2 hc1.1 hb1.size⟩

set_option maxRecDepth 100000 in
set_option maxHeartbeats 1600000 in
theorem draw_read (w : World) (A : Option Addr) (len cap : Nat) (hcode : CodeAt w w.heap.size A len) (hl : len ≤ 1048576) :
    Calls Tryd.prog 11 #[.slice A len cap] w fun e w' => ∃ s : ByteArray, e = .returned (.string s) ∧ s.size ≤ 65536 ∧ Below w.heap.size w w' := by
  have H := Lib.hid hcode
  clear hcode
  go_enter Tryd.func11, Tryd.ntmps11
  go_wp2_with fail
  refine (new_any _ _ _ _ H.out hl).mono ?_; rintro e w1 ⟨g, rfl, hc1, hb1⟩
  go_wp2_with fail
  refine (once_any _ (by omega) (by omega) _ _ _ _ _ _ hc1).mono ?_; rintro e w2 ⟨x, rfl, hc2, hg2⟩
  have hgr2 := below_only hb1 hg2 hc1.1 hb1.size
  cases x with
  | true =>
    go_wp2_with fail
    refine (pick_any (fun t => t.size ≤ 20) 8 w2.heap.size 9 _ (by omega) (by omega) _ _ _ _ _ _ (hc2.alloc _) (heap_alloc_new w2 _) hc2.lt (eight _ _ _ _ _ _ _ _ (by decide) (by decide) (by decide) (by decide) (by decide) (by decide) (by decide) (by decide))).mono ?_
    rintro e w3 ⟨t, rfl, ht, hc3, hg3⟩
    go_wp2
    go_ret
    exact ⟨_, rfl, by omega, below_only (hgr2.alloc hgr2.size _) hg3 hc2.1 (hgr2.alloc hgr2.size _).size⟩
  | false =>
    go_wp2_with fail
    refine (below_any _ (by omega) (by omega) _ _ _ _ _ _ hc2).mono ?_; rintro e w3 ⟨x, rfl, hx0, hx1, hc3, hg3⟩
    go_wp2_with fail
    refine (dec_spec x _ (by omega) (by omega)).mono ?_; rintro e w4 ⟨rfl, rfl⟩
    have hsz : (str (Lib.itoa x)).size ≤ 65536 := by
      have := Lib.itoa_length_le x (by omega) (by omega)
      rw [str_size]; omega
    go_wp2
    go_ret
    exact ⟨_, rfl, hsz, below_only hgr2 hg3 hc1.1 hgr2.size⟩

theorem rd_itoa_out {n : Int} (h : In64 n) (ho : ¬ (0 ≤ n ∧ n ≤ 999999999)) : rd (Lib.itoa n) = -1 :=
  rd_no fun m hm hme => by
    obtain ⟨h0, h1⟩ := h
    have hv := itoa_nat m hm
    rcases Int.lt_or_le n 0 with hn | hn
    · rw [hme, itoa_neg hn] at hv
      have := hv.2.1 45 (by simp)
      simp at this
    · have hpos : 0 < n := by omega
      rw [hme, itoa_pos hpos, (decE_val 19 n.toNat (by omega)).1] at hv
      omega
theorem errs_below {w w' : World} {B : Nat} (h : Errs w) (hb : Below B w w') (h0 : 0 < B) (h1 : 1 < B) : Errs w' := by
  obtain ⟨⟨a, b, hc⟩, ⟨c, d, hc2⟩⟩ := h
  exact ⟨⟨a, b, (hb.cell (p := ⟨0, 0, none⟩) h0).trans hc⟩, ⟨c, d, (hb.cell (p := ⟨1, 0, none⟩) h1).trans hc2⟩⟩
theorem read_in {w w1 : World} (H : Pow10 w ∧ Errs w ∧ 2 < w.heap.size) (hb : Below w.heap.size w w1) (s : ByteArray) (hs : s.size ≤ 1073741824) :
    Calls Tryd.prog 13 #[.string s] w1 fun e w' => e = .returned (.int .i64 (rd s.data.toList)) ∧ Below w1.heap.size w1 w' := by
  have h2 := H.2.2
  have h3 := hb.size
  exact read_impl s w1 hs (pow_below H.1 hb H.2.2) (errs_below H.2.1 hb (by omega) (by omega)) (by omega)

set_option maxHeartbeats 800000 in
theorem big_small (w : World) (A : Option Addr) (len cap : Nat) (h : len ≤ 1048576) :
    Calls Tryd.prog 8 #[.slice A len cap] w fun e w' => e = .returned (.bool false) ∧ w = w' := by
  have h1 : ¬ (1048576 : Int) < (len : Int) := by omega
  go_enter Tryd.func8, Tryd.ntmps8
  go_wp2
  go_ret
  exact ⟨by first | (simp; done) | (simp; omega), rfl⟩
set_option maxHeartbeats 800000 in
theorem big_great (w : World) (A : Option Addr) (len cap : Nat) (h : 1048576 < len) (h2 : len ≤ 9223372036854775807) :
    Calls Tryd.prog 8 #[.slice A len cap] w fun e w' => e = .returned (.bool true) ∧ w = w' := by
  have h1 : (1048576 : Int) < (len : Int) := by omega
  go_enter Tryd.func8, Tryd.ntmps8
  go_wp2
  go_ret
  exact ⟨by first | (simp; done) | (simp; omega), rfl⟩
theorem CodeAt.up {w : World} {B C : Nat} {A : Option Addr} {len : Nat} (h : CodeAt w B A len) (hB : B ≤ C) : CodeAt w C A len := fun j hj => by
  obtain ⟨b, o, x, hA, hb, hx, hc⟩ := h j hj
  exact ⟨b, o, x, hA, Nat.lt_of_lt_of_le hb hB, hx, hc⟩

set_option maxRecDepth 100000 in
set_option maxHeartbeats 1600000 in
theorem walk_FnDec (a0 : Option Addr) (len0 cap0 : Nat) (z0 : List Int) (w : World) (w0 : IsRow .u8 w a0 len0 cap0 z0) (hf : Pow10 w ∧ Errs w ∧ 2 < w.heap.size) :
    Calls Tryd.prog 3 #[.slice a0 len0 cap0] w fun e w' => e = .returned (.bool true) ∧ Below w.heap.size w w' := by
  obtain ⟨hcode, hlen⟩ := w0.code
  clear w0
  have HF := Lib.hid hf
  clear hf
  by_cases hl : len0 ≤ 1048576
  · have H := Lib.hid hcode
    clear hcode
    go_enter Tryd.func3, Tryd.ntmps3
    go_wp2_with fail
    refine (big_small _ _ _ _ hl).mono ?_; rintro e w' ⟨rfl, rfl⟩
    go_wp2_with fail
    refine (draw_dec _ _ _ _ H.out hl).mono ?_; rintro e w1 ⟨n, rfl, hn, hb1⟩
    have hn0 := hn.1
    have hn1 := hn.2
    have HN := Lib.hid hn
    clear hn
    go_wp2_with fail
    refine (dec_impl _ _ hn0 hn1 (pow_below HF.out.1 hb1 HF.out.2.2)).mono ?_; rintro e w2 ⟨rfl, hb2⟩
    have hb12 := hb1.trans (hb2.mono hb1.size)
    clear hb1 hb2
    go_wp2_with fail
    refine (draw_read _ _ _ _ ((H.out.below hb12 (Nat.le_refl _)).up hb12.size) hl).mono ?_; rintro e w3 ⟨r, rfl, hr, hb3⟩
    have hb13 := hb12.trans (hb3.mono hb12.size)
    clear hb12 hb3
    go_wp2_with fail
    refine (dec_spec _ _ hn0 hn1).mono ?_; rintro e w4 ⟨rfl, rfl⟩
    go_wp2_with fail
    refine (read_in HF.out hb13 r (by omega)).mono ?_; rintro e w4 ⟨rfl, hb4⟩
    have hb14 := hb13.trans (hb4.mono hb13.size)
    clear hb13 hb4
    go_wp2_with fail
    refine (read_spec r _ (by omega)).mono ?_; rintro e w5 ⟨rfl, rfl⟩
    have hsz : (str (Lib.itoa n)).size ≤ 1073741824 := by
      have := Lib.itoa_length_le n hn0 hn1
      rw [str_size]; omega
    have C := Lib.hid (read_in HF.out hb14 (str (Lib.itoa n)) hsz)
    rw [str_data] at C
    by_cases hin : 0 ≤ n ∧ n ≤ 999999999
    · obtain ⟨m, rfl⟩ := Int.eq_ofNat_of_zero_le hin.1
      rw [rd_yes (by omega) rfl] at C
      obtain ⟨hm0, hm1⟩ := hin
      clear hsz
      go_wp2_with fail
      refine C.out.mono ?_; rintro e w5 ⟨rfl, hb5⟩
      go_wp2
      go_ret
      exact ⟨rfl, hb14.trans (hb5.mono hb14.size)⟩
    · rw [rd_itoa_out HN.out hin] at C
      clear hsz
      by_cases hneg : n < 0
      · clear hin
        go_wp2_with fail
        refine C.out.mono ?_; rintro e w5 ⟨rfl, hb5⟩
        go_wp2
        go_ret
        exact ⟨rfl, hb14.trans (hb5.mono hb14.size)⟩
      · have hbig : 999999999 < n := by omega
        clear hin
        go_wp2_with fail
        refine C.out.mono ?_; rintro e w5 ⟨rfl, hb5⟩
        go_wp2
        go_ret
        exact ⟨rfl, hb14.trans (hb5.mono hb14.size)⟩
  · go_enter Tryd.func3, Tryd.ntmps3
    go_wp2_with fail
    refine (big_great _ _ _ _ (by omega) hlen).mono ?_; rintro e w' ⟨rfl, rfl⟩
    go_wp2
    go_ret
    exact ⟨rfl, Below.refl _ _⟩
theorem facts_FnDec {W : World} (h : laidMetH Tryd.prog Rows.fnDecRow.laid W) : Pow10 W ∧ Errs W ∧ 2 < W.heap.size := facts_FnExactReadDec h
end Go.Proofs.YtdhncpkcbeggmaaDoor
