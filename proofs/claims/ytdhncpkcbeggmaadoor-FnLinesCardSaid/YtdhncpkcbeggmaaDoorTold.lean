/-
  The draws, told whole: what they answer is a function of the code's bytes (so two draws of one code are one).
-/
import Derived.Test.YtdhncpkcbeggmaaDoorCur
import Derived.WalkKit
import Derived.LoopTactic
import Derived.OwnWalk
import Derived.WalkLawsBesides
import Derived.WalkSpells
import Derived.Outline
import Derived.Laws.Pointers
import Derived.Deep.QuietTactic
import Derived.BigQuiet
import Derived.IntWalk
import Derived.Test.YtdhncpkcbeggmaaDoorByte
import Derived.Test.YtdhncpkcbeggmaaDoorDraw
set_option linter.unusedVariables false
namespace Go.Proofs.YtdhncpkcbeggmaaDoor
open Go.RowKit

/-- the bytes of a code are z, at blocks below B. -/
def CodeZ (z : Nat → Nat) (w : World) (B : Nat) (A : Option Addr) (len : Nat) : Prop :=
  ∀ j, j < len → ∃ (b o : Nat), A = some ⟨b, o, none⟩ ∧ b < B ∧ z j < 256 ∧ w.cell? ⟨b, o + j, none⟩ = some (.int .u8 (z j : Int))
theorem CodeAt.told {w : World} {B : Nat} {A : Option Addr} {len : Nat} (h : CodeAt w B A len) : ∃ z, CodeZ z w B A len := by
  refine ⟨fun j => if hj : j < len then (h j hj).choose_spec.choose_spec.choose else 0, fun j hj => ?_⟩
  have hs := (h j hj).choose_spec.choose_spec.choose_spec
  refine ⟨_, _, hs.1, hs.2.1, ?_, ?_⟩
  · simp only [hj, dif_pos]; exact hs.2.2.1
  · simp only [hj, dif_pos]; exact hs.2.2.2
theorem CodeZ.below {z : Nat → Nat} {w w' : World} {B C : Nat} {A : Option Addr} {len : Nat} (h : CodeZ z w B A len) (hb : Below C w w') (hB : B ≤ C) : CodeZ z w' B A len := fun j hj => by
  obtain ⟨b, o, hA, hbl, hx, hc⟩ := h j hj
  exact ⟨b, o, hA, hbl, hx, (hb.cell (p := ⟨b, o + j, none⟩) (Nat.lt_of_lt_of_le hbl hB)).trans hc⟩
theorem CodeZ.up {z : Nat → Nat} {w : World} {B C : Nat} {A : Option Addr} {len : Nat} (h : CodeZ z w B A len) (hB : B ≤ C) : CodeZ z w C A len := fun j hj => by
  obtain ⟨b, o, hA, hbl, hx, hc⟩ := h j hj
  exact ⟨b, o, hA, Nat.lt_of_lt_of_le hbl hB, hx, hc⟩
theorem CodeZ.grown {z : Nat → Nat} {w w' : World} {B : Nat} {A : Option Addr} {len : Nat} {row : Option Nat} (h : CodeZ z w B A len) (hg : w.grownBy w' row) (hr : ∀ k, row = some k → B ≤ k) : CodeZ z w' B A len := fun j hj => by
  obtain ⟨b, o, hA, hbl, hx, hc⟩ := h j hj
  refine ⟨b, o, hA, hbl, hx, hg.cell hc (fun e => ?_)⟩
  have := hr b e.symm
  omega
/-- the cursor's block g holds the code, the place i and the number h. -/
def CurZ (z : Nat → Nat) (w : World) (B g : Nat) (A : Option Addr) (len cap i : Nat) (h : Int) : Prop :=
  B ≤ g ∧ len ≤ 1048576 ∧ CodeZ z w B A len ∧ i ≤ len ∧ w.heap[g]? = some (.cells #[.slice A len cap, .int .i64 i, .int .i64 h] 51 (0, 0))
theorem CurZ.lt {z : Nat → Nat} {w : World} {B g : Nat} {A : Option Addr} {len cap i : Nat} {h : Int} (hh : CurZ z w B g A len cap i h) : g < w.heap.size := by
  obtain ⟨_, _, _, _, hg⟩ := hh
  rcases Nat.lt_or_ge g w.heap.size with hlt | hge
  · exact hlt
  · rw [Array.getElem?_eq_none hge] at hg; cases hg
theorem CurZ.alloc {z : Nat → Nat} {w : World} {B g : Nat} {A : Option Addr} {len cap i : Nat} {h : Int} (hh : CurZ z w B g A len cap i h) (o : Obj) : CurZ z (w.alloc o) B g A len cap i h := by
  have hlt := hh.lt
  obtain ⟨h1, h2, h3, h4, h5⟩ := hh
  exact ⟨h1, h2, h3.grown (World.grownBy_alloc w o none) (fun k e => by cases e), h4, (Below.heap_alloc w o g hlt).trans h5⟩

theorem CurZ.drewN {z : Nat → Nat} {w : World} {B g : Nat} {A : Option Addr} {len cap i : Nat} {h : Int} (hh : CurZ z w B g A len cap i h) (n : Nat) : CurZ z (w.drewN n) B g A len cap i h := hh
/-- the cursor's next number. -/
def hN (h : Int) : Int := wrap64 (wrap64 (h * 6364136223846793005) + 1442695040888963407)
def mixN (h : Int) : Int := bits BinOp.and IntKind.i64 (bits BinOp.xor IntKind.i64 (hN h / 8589934592) (hN h / 35184372088832)) 255
/-- the byte that is drawn; the next place. -/
def byteX (z : Nat → Nat) (len i : Nat) (h : Int) : Int := if i < len then bits BinOp.and IntKind.i64 (wrap64 (mixN h + (z i : Int))) 255 else mixN h
def byteI (len i : Nat) : Nat := if i < len then i + 1 else i
theorem byteX_in (z : Nat → Nat) (len i : Nat) (h : Int) : 0 ≤ byteX z len i h ∧ byteX z len i h ≤ 255 := by
  unfold byteX
  split
  · exact and255 _
  · exact and255 _
theorem curz_one {z : Nat → Nat} {w : World} {B g : Nat} {A : Option Addr} {len cap i : Nat} {h : Int} (hc : CurZ z w B g A len cap i h) (v : Int) (n : Nat) : CurZ z ((w.setCell ⟨g, 2, none⟩ (.int .i64 v)).drewN n) B g A len cap i v := by
  obtain ⟨hB, hlen, hcode, hi, hg⟩ := hc
  have h1 := heap_setCell_same w g 2 _ _ (.int .i64 v) hg
  exact ⟨hB, hlen, (hcode.grown (only_setCell (g := g) (only_refl w _) (.inl rfl) _) (fun k e => by cases e; exact hB)).grown (only_drewN (only_refl _ none) n) (fun k e => by cases e), hi, h1⟩
theorem curz_two {z : Nat → Nat} {w : World} {B g : Nat} {A : Option Addr} {len cap i : Nat} {h : Int} (hc : CurZ z w B g A len cap i h) (v : Int) (n : Nat) (u : Value) (hi : u = .int .i64 ((i : Int) + 1) ∧ i < len) :
    CurZ z (((w.setCell ⟨g, 2, none⟩ (.int .i64 v)).drewN n).setCell ⟨g, 1, none⟩ u) B g A len cap (i + 1) v := by
  obtain ⟨hB, hlen, hcode, _, hg⟩ := hc
  have h1 := heap_setCell_same w g 2 _ _ (.int .i64 v) hg
  have h2 := heap_setCell_same ((w.setCell ⟨g, 2, none⟩ (.int .i64 v)).drewN n) g 1 _ _ u h1
  have hg1 : w.grownBy (((w.setCell ⟨g, 2, none⟩ (.int .i64 v)).drewN n).setCell ⟨g, 1, none⟩ u) (some g) :=
    only_setCell (p := ⟨g, 1, none⟩) (only_drewN (only_setCell (p := ⟨g, 2, none⟩) (only_refl _ (some g)) (.inl rfl) _) _) (.inl rfl) _
  obtain ⟨hu, hlt⟩ := hi
  rw [show ((i : Int) + 1) = ((i + 1 : Nat) : Int) by omega] at hu
  subst hu
  exact ⟨hB, hlen, hcode.grown hg1 (fun k e => by cases e; exact hB), by omega, h2⟩

set_option maxRecDepth 100000 in
set_option maxHeartbeats 1600000 in
theorem byte_told (z : Nat → Nat) (w : World) (B g : Nat) (A : Option Addr) (len cap i : Nat) (h : Int) (hc : CurZ z w B g A len cap i h) :
    Calls Tryd.prog 40 #[.pointer (some ⟨g, 0, none⟩)] w fun e w' => e = .returned (.int .i64 (byteX z len i h)) ∧ CurZ z w' B g A len cap (byteI len i) (hN h) ∧ w.grownBy w' (some g) := by
  have HZ := Lib.hid hc
  obtain ⟨hB, hlen, hcode, hi, hg⟩ := hc
  have c0 : w.cell? ⟨g, 0, none⟩ = some (.slice A len cap) := cell_of_row w g 0 _ _ _ hg
  have c1 : w.cell? ⟨g, 1, none⟩ = some (.int .i64 i) := cell_of_row w g 1 _ _ _ hg
  have c2 : w.cell? ⟨g, 2, none⟩ = some (.int .i64 h) := cell_of_row w g 2 _ _ _ hg
  have f1 := frozen_of_row w g 1 _ _ hg
  have f2 := frozen_of_row w g 2 _ _ hg
  have HG := Lib.hid hg
  have HC := Lib.hid hcode
  clear hg hcode
  by_cases hlt : i < len
  · obtain ⟨b, o, rfl, hb, hx, hcell⟩ := HC.out i hlt
    have hne : ¬ b = g := by omega
    have hne2 : ¬ g = b := by omega
    have hi0 : (0 : Int) ≤ (i : Int) := by omega
    have hi1 : (i : Int) < (len : Int) := by omega
    have hx' : (z i : Int) < 256 := by omega
    go_enter Tryd.func40, Tryd.ntmps40
    go_wp2
    go_quiet (fail)
    go_wp2
    go_quiet (fail)
    go_wp2
    go_quiet (fail)
    go_wp2
    go_ret
    refine ⟨?_, ?_, only_setCell (p := ⟨g, 1, none⟩) (only_drewN (only_setCell (p := ⟨g, 2, none⟩) (only_refl _ (some g)) (.inl rfl) _) _) (.inl rfl) _⟩
    · unfold byteX; rw [if_pos hlt]; rfl
    · unfold byteI; rw [if_pos hlt]; exact curz_two HZ.out _ _ _ ⟨rfl, hlt⟩
  · have hi1 : ¬ (i : Int) < (len : Int) := by omega
    go_enter Tryd.func40, Tryd.ntmps40
    go_wp2
    go_quiet (fail)
    go_wp2
    go_quiet (fail)
    go_wp2
    go_ret
    refine ⟨?_, ?_, only_drewN (only_drewN (only_setCell (p := ⟨g, 2, none⟩) (only_refl _ (some g)) (.inl rfl) _) _) _⟩
    · unfold byteX; rw [if_neg hlt]; rfl
    · unfold byteI; rw [if_neg hlt]; exact (curz_one HZ.out _ _).drewN nq

set_option maxHeartbeats 800000 in
theorem below_told (n : Int) (h0 : 0 < n) (h1 : n ≤ 256) (z : Nat → Nat) (w : World) (B g : Nat) (A : Option Addr) (len cap i : Nat) (h : Int) (hc : CurZ z w B g A len cap i h) :
    Calls Tryd.prog 30 #[.pointer (some ⟨g, 0, none⟩), .int .i64 n] w fun e w' => e = .returned (.int .i64 (byteX z len i h % n)) ∧ CurZ z w' B g A len cap (byteI len i) (hN h) ∧ w.grownBy w' (some g) := by
  have hx := byteX_in z len i h
  have hb := byte_told z w B g A len cap i h hc
  generalize byteX z len i h = x at *
  go_enter Tryd.func30, Tryd.ntmps30
  go_wp2_with (go_at_call 40; refine hb.mono ?_; rintro e w1 ⟨rfl, hc1, hg1⟩)
  go_ret
  exact ⟨rfl, hc1, hg1⟩

set_option maxHeartbeats 800000 in
theorem pick_told (L : List ByteArray) (n b : Nat) (T : TypeId) (h0 : 0 < n) (h1 : n ≤ 256) (z : Nat → Nat) (w : World) (B g : Nat) (A : Option Addr) (len cap i : Nat) (h : Int) (hc : CurZ z w B g A len cap i h)
    (hb : w.heap[b]? = some (.cells (L.map Value.string).toArray T (0, 0))) (hbg : g < b) (hL : L.length = n) :
    Calls Tryd.prog 29 #[.pointer (some ⟨g, 0, none⟩), .slice (some ⟨b, 0, none⟩) n n] w fun e w' => e = .returned (.string (L.getD (byteX z len i h % (n : Int)).toNat ⟨#[]⟩)) ∧ CurZ z w' B g A len cap (byteI len i) (hN h) ∧ w.grownBy w' (some g) := by
  have hn0 : (0 : Int) < (n : Int) := by omega
  have hn1 : (n : Int) ≤ 256 := by omega
  have HB := Lib.hid hb
  have hx0 := Int.emod_nonneg (byteX z len i h) (by omega : (n : Int) ≠ 0)
  have hx1 := Int.emod_lt_of_pos (byteX z len i h) hn0
  have hbl := below_told (n : Int) hn0 hn1 z w B g A len cap i h hc
  generalize byteX z len i h % (n : Int) = x at *
  obtain ⟨j, rfl⟩ := Int.eq_ofNat_of_zero_le hx0
  have hj : j < L.length := by omega
  have hget : Hid (L.getD ((j : Int)).toNat ⟨#[]⟩ = L[j]) := Lib.hid (by simp [List.getD, List.getElem?_eq_getElem hj])
  have hlt : b < w.heap.size := by
    rcases Nat.lt_or_ge b w.heap.size with hlt | hge
    · exact hlt
    · rw [Array.getElem?_eq_none hge] at hb; cases hb
  have hcs : ((L.map Value.string).toArray : Array Value)[j]? = some (.string L[j]) := by simp [List.getElem?_eq_getElem hj]
  have HCS := Lib.hid hcs
  rw [hget.out]
  generalize L[j] = y at *
  clear hb hcs
  go_enter Tryd.func29, Tryd.ntmps29
  go_wp2_with fail
  refine hbl.mono ?_; rintro e w1 ⟨rfl, hc1, hg1⟩
  have hb1 := (hg1.block b hlt (by intro e; cases e; omega)).trans HB.out
  have hcell : w1.cell? ⟨b, j, none⟩ = some (.string y) := (cell_of_row w1 b j _ T (0, 0) hb1).trans HCS.out
  clear hb1 hlt hbl
  go_wp2
  go_ret
  exact ⟨rfl, hc1, hg1⟩
/-- the number that a cursor begins with, k bytes of the code told. -/
def hhN (z : Nat → Nat) (len : Nat) : Nat → Int
  | 0 => 835835 + (len : Int)
  | k + 1 => bits BinOp.and IntKind.i64 (hhN z len k * 131 + (z k : Int) + 7) 1073741823
theorem hhN_in (z : Nat → Nat) (len : Nat) (hl : len ≤ 1048576) (k : Nat) : 0 ≤ hhN z len k ∧ hhN z len k ≤ 1073741823 := by
  cases k with
  | zero => unfold hhN; omega
  | succ k => unfold hhN; exact andMask _
def h0N (z : Nat → Nat) (len : Nat) : Int := hhN z len (min len 4000)
theorem newz {z : Nat → Nat} {w : World} {A : Option Addr} {len cap : Nat} (hcode : CodeZ z w w.heap.size A len) (hl : len ≤ 1048576) (y : Int) :
    CurZ z (w.alloc (.cells #[.slice A len cap, .int .i64 0, .int .i64 y] 51)) w.heap.size w.heap.size A len cap 0 y :=
  ⟨Nat.le_refl _, hl, hcode.below ((Below.refl w.heap.size w).alloc (Nat.le_refl _) _) (Nat.le_refl _), Nat.zero_le _, heap_alloc_new w _⟩

set_option maxRecDepth 100000 in
set_option maxHeartbeats 800000 in
theorem new_told (z : Nat → Nat) (w : World) (A : Option Addr) (len cap : Nat) (hcode : CodeZ z w w.heap.size A len) (hl : len ≤ 1048576) :
    Calls Tryd.prog 25 #[.slice A len cap] w fun e w' => e = .returned (.pointer (some ⟨w.heap.size, 0, none⟩)) ∧ CurZ z w' w.heap.size w.heap.size A len cap 0 (h0N z len) ∧ Below w.heap.size w w' := by
  have H := Lib.hid hcode
  clear hcode
  have HI := Lib.hid (hhN_in z len hl)
  go_enter Tryd.func25, Tryd.ntmps25
  go_wp2
  go_loop [3, 4] (fun h i => ∃ k : Nat, k ≤ len ∧ k ≤ 4000 ∧ i = .int .i64 k ∧ h = .int .i64 (hhN z len k)) (fun _ i => len - (intOf i).toNat)
  case atStart => exact ⟨0, Nat.zero_le _, Nat.zero_le _, rfl, rfl⟩
  case round =>
    obtain ⟨k, hk, hk4, rfl, rfl⟩ := hrel
    have hy0 := (HI.out k).1
    have hy1 := (HI.out k).2
    by_cases hlt : k < len
    · by_cases h4 : k < 4000
      · obtain ⟨b, o, rfl, hb, hx, hcell⟩ := H.out k hlt
        have hk0 : (0 : Int) ≤ (k : Int) := by omega
        have hk1 : (k : Int) < (len : Int) := by omega
        have hx' : (z k : Int) < 256 := by omega
        have hs := Lib.hid (show hhN z len (k + 1) = bits BinOp.and IntKind.i64 (hhN z len k * 131 + (z k : Int) + 7) 1073741823 from rfl)
        generalize hhN z len k = y at *
        go_wp2
        go_round
        case rel => exact ⟨k + 1, by omega, by omega, by go_num, by rw [hs.out]⟩
        case measure => simp [intOf]; omega
      · have hk1 : (k : Int) < (len : Int) := by omega
        have hk4 : ¬ (k : Int) < 4000 := by omega
        have he : h0N z len = hhN z len k := by unfold h0N; congr 1; omega
        generalize hhN z len k = y at *
        go_wp2
        go_ret
        exact ⟨rfl, by first | exact newz H.out hl _ | (rw [he]; exact newz H.out hl _), (Below.refl _ _).alloc (Nat.le_refl _) _⟩
    · have hk1 : ¬ (k : Int) < (len : Int) := by omega
      have he : h0N z len = hhN z len k := by unfold h0N; congr 1; omega
      generalize hhN z len k = y at *
      go_wp2
      go_ret
      exact ⟨rfl, by first | exact newz H.out hl _ | (rw [he]; exact newz H.out hl _), (Below.refl _ _).alloc (Nat.le_refl _) _⟩

/-- a draw of texts out of L, k of them taken: the place, the number, what has been put together. -/
def stN (z : Nat → Nat) (len : Nat) (L : List ByteArray) : Nat → Nat × Int × ByteArray
  | 0 => (byteI len 0, hN (h0N z len), ⟨#[]⟩)
  | k + 1 => (byteI len (stN z len L k).1, hN (stN z len L k).2.1, (stN z len L k).2.2 ++ L.getD (byteX z len (stN z len L k).1 (stN z len L k).2.1 % (L.length : Int)).toNat ⟨#[]⟩)
def wordList : List ByteArray := [⟨#[97]⟩, ⟨#[32]⟩, ⟨#[98, 99]⟩, ⟨#[9]⟩, ⟨#[]⟩, ⟨#[10]⟩]
/-- the text that DrawWords draws. -/
def drawnWords (z : Nat → Nat) (len : Nat) : ByteArray := (stN z len wordList (byteX z len 0 (h0N z len) % 7).toNat).2.2
theorem wordList_size (j : Nat) : (wordList.getD j ⟨#[]⟩).size ≤ 2 := by
  rcases Nat.lt_or_ge j 6 with h | h
  · revert j; decide
  · rw [List.getD_eq_getElem?_getD, List.getElem?_eq_none (by simpa [wordList] using h)]; decide
theorem stN_size (z : Nat → Nat) (len : Nat) : ∀ k, (stN z len wordList k).2.2.size ≤ 2 * k
  | 0 => by show (⟨#[]⟩ : ByteArray).size ≤ 0; decide
  | k + 1 => by
    have ih := stN_size z len k
    have := wordList_size (byteX z len (stN z len wordList k).1 (stN z len wordList k).2.1 % (wordList.length : Int)).toNat
    unfold stN
    rw [ByteArray.size_append]
    omega
theorem drawnWords_size (z : Nat → Nat) (len : Nat) : (drawnWords z len).size ≤ 14 := by
  have h := stN_size z len (byteX z len 0 (h0N z len) % 7).toNat
  have h1 := Int.emod_lt_of_pos (byteX z len 0 (h0N z len)) (by omega : (0 : Int) < 7)
  unfold drawnWords
  omega

set_option maxRecDepth 100000 in
set_option maxHeartbeats 1600000 in
theorem words_told (z : Nat → Nat) (w : World) (A : Option Addr) (len cap : Nat) (hcode : CodeZ z w w.heap.size A len) (hl : len ≤ 1048576) :
    Calls Tryd.prog 18 #[.slice A len cap] w fun e w' => e = .returned (.string (drawnWords z len)) ∧ Below w.heap.size w w' := by
  have H := Lib.hid hcode
  clear hcode
  have HS := Lib.hid (stN_size z len)
  have hx0 := Int.emod_nonneg (byteX z len 0 (h0N z len)) (by omega : (7 : Int) ≠ 0)
  have hx1 := Int.emod_lt_of_pos (byteX z len 0 (h0N z len)) (by omega : (0 : Int) < 7)
  have hres := Lib.hid (show drawnWords z len = (stN z len wordList (byteX z len 0 (h0N z len) % 7).toNat).2.2 from rfl)
  have hzero := Lib.hid (show stN z len wordList 0 = (byteI len 0, hN (h0N z len), ⟨#[]⟩) from rfl)
  have hsucc := Lib.hid (fun k => show stN z len wordList (k + 1) = (byteI len (stN z len wordList k).1, hN (stN z len wordList k).2.1, (stN z len wordList k).2.2 ++ wordList.getD (byteX z len (stN z len wordList k).1 (stN z len wordList k).2.1 % (wordList.length : Int)).toNat ⟨#[]⟩) from rfl)
  have hbel := fun W hc => below_told 7 (by omega) (by omega) z W w.heap.size w.heap.size A len cap 0 (h0N z len) hc
  generalize byteX z len 0 (h0N z len) % 7 = x at *
  obtain ⟨n, rfl⟩ := Int.eq_ofNat_of_zero_le hx0
  rw [Int.toNat_natCast] at hres
  generalize stN z len wordList = F at *
  go_enter Tryd.func18, Tryd.ntmps18
  go_wp2_with fail
  refine (new_told z _ _ _ _ H.out hl).mono ?_; rintro e w1 ⟨rfl, hc1, hb1⟩
  go_wp2_with fail
  refine (hbel _ hc1).mono ?_; rintro e w2 ⟨rfl, hc2, hg2⟩
  have hb2 := below_only hb1 hg2 hc1.1 hb1.size
  clear hg2 hc1 hb1 hbel
  go_wp2
  go_loopw [4, 6] (fun sv i wr => ∃ (k : Nat) (t : ByteArray), k ≤ n ∧ i = .int .i64 k ∧ sv = .string t ∧ Hid (t = (F k).2.2) ∧ CurZ z wr w.heap.size w.heap.size A len cap (F k).1 (F k).2.1 ∧ Below w.heap.size w wr) (fun _ i _ => n - (intOf i).toNat)
  case atStart => exact ⟨0, ⟨#[]⟩, Nat.zero_le _, rfl, rfl, Lib.hid (by rw [hzero.out]), by rw [hzero.out]; exact hc2, hb2⟩
  case round =>
    obtain ⟨k, t, hk, rfl, rfl, ht, hc, hb⟩ := hrel
    by_cases hlt : k < n
    · have hk1 : (k : Int) < (n : Int) := by omega
      have hsk := hsucc.out k
      have ht2 : t.size ≤ 2 * k := by rw [ht.out]; exact HS.out k
      have hpick := fun W hc hb hbg => pick_told wordList 6 wr.heap.size 9 (by omega) (by omega) z W w.heap.size w.heap.size A len cap (F k).1 (F k).2.1 hc hb hbg rfl
      have hy := wordList_size (byteX z len (F k).1 (F k).2.1 % ((6 : Nat) : Int)).toNat
      rw [show (wordList.length : Int) = ((6 : Nat) : Int) from rfl] at hsk
      generalize wordList.getD (byteX z len (F k).1 (F k).2.1 % ((6 : Nat) : Int)).toNat ⟨#[]⟩ = y at *
      go_wp2_with fail
      refine (hpick _ (hc.alloc _) (heap_alloc_new wr _) hc.lt).mono ?_
      rintro e w3 ⟨rfl, hc3, hg3⟩
      have hb3 := below_only (hb.alloc hb.size _) hg3 hc.1 (hb.alloc hb.size _).size
      have hsz : (t ++ y).size = t.size + y.size := ByteArray.size_append
      have HSK := Lib.hid hsk
      clear hsk hpick
      go_wp2
      go_roundw
      case rel => exact ⟨k + 1, _, by omega, by go_num, rfl, Lib.hid (by rw [HSK.out, ht.out]), by rw [HSK.out]; exact hc3, hb3⟩
      case measure => simp [intOf]; omega
    · have hk1 : ¬ (k : Int) < (n : Int) := by omega
      obtain rfl : k = n := by omega
      go_wp2
      go_ret
      exact ⟨by rw [hres.out, ← ht.out]; rfl, hb⟩
end Go.Proofs.YtdhncpkcbeggmaaDoor
