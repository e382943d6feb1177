/-
  What impl.cutWord, putWord, getWord and their faces answer; Turn, SubWord, Rcon.
-/
import Derived.Test.YtbgjeipgmlcgaaaDoorWordMath
import Derived.Test.YtbgjeipgmlcgaaaDoorFieldI
import Derived.Test.YtbgjeipgmlcgaaaDoorFieldS
import Derived.Test.YtbgjeipgmlcgaaaDoorKit
import Derived.Test.YtbgjeipgmlcgaaaDoorMapT
import Derived.WalkKit
import Derived.LoopTactic
import Derived.OwnWalk
import Derived.WalkLawsBesides
import Derived.WalkSpells
import Derived.Outline
import Derived.Below
import Derived.Laws.OwnMore
import Derived.Laws.IdiomStrings
set_option linter.unusedVariables false
namespace Go.Proofs.YtbgjeipgmlcgaaaDoor
open Go.RowKit

theorem cut_impl (g n c i : Nat) (h1 : i + 4 ≤ n) (h2 : n ≤ c) (h3 : c ≤ 9223372036854775807) (w : World) :
    Calls Tryd.prog 70 #[.slice (some ⟨g, 0, none⟩) n c, .int .i64 i] w fun e w' => e = .returned (.slice (some ⟨g, i, none⟩) 4 4) ∧ w = w' := by
  go_enter Tryd.func70, Tryd.ntmps70
  have e : i + 4 - i = 4 := by omega
  go_wp2
  go_ret
  rw [e]
  exact ⟨rfl, rfl⟩
/-- a row in which the first k bytes of a word are put from place i on. -/
def putRow (l : List UInt8) (i : Nat) (x : UInt32) : Nat → List UInt8
  | 0 => l
  | k + 1 => (putRow l i x k).set (i + k) (wb x k)
theorem putRow_length (l : List UInt8) (i : Nat) (x : UInt32) (k : Nat) : (putRow l i x k).length = l.length := by
  induction k with
  | zero => rfl
  | succ k ih => rw [putRow, List.length_set, ih]
theorem putRow_4 (x : UInt32) : putRow [0, 0, 0, 0] 0 x 4 = [wb x 0, wb x 1, wb x 2, wb x 3] := rfl
theorem wb0_c (x : UInt32) : cell8 (wb x 0) = .int .u8 ((x.toNat : Int) / 16777216) := by unfold cell8; rw [wb0]; rfl
theorem wb1_c (x : UInt32) : cell8 (wb x 1) = .int .u8 ((x.toNat : Int) / 65536 % 256) := by unfold cell8; rw [wb1]; rfl
theorem wb2_c (x : UInt32) : cell8 (wb x 2) = .int .u8 ((x.toNat : Int) / 256 % 256) := by unfold cell8; rw [wb2]; rfl
theorem wb3_c (x : UInt32) : cell8 (wb x 3) = .int .u8 ((x.toNat : Int) % 256) := by unfold cell8; rw [wb3]; rfl
theorem put_rel {e : TypeId} {w wr : World} {base g n c i k : Nat} {l : List UInt8} {x : UInt32} {v : Value} (hv : cell8 (wb x k) = v)
    (hown : wr.ownsRow base e 1 (.slice (some ⟨g, 0, none⟩) n c) n (cells8 (putRow l i x k))) (hgr : w.grownBy wr (some g)) :
    (wr.setCell ⟨g, i + k, none⟩ v).ownsRow base e 1 (.slice (some ⟨g, 0, none⟩) n c) n (cells8 (putRow l i x (k + 1))) ∧ w.grownBy (wr.setCell ⟨g, i + k, none⟩ v) (some g) := by
  subst hv
  refine ⟨?_, only_setCell (p := ⟨g, i + k, none⟩) hgr (.inl rfl) _⟩
  have h := (hown.stored (i + k) (cell8 (wb x k))).1
  rwa [show (cells8 (putRow l i x k)).set (i + k) (cell8 (wb x k)) = cells8 (putRow l i x (k + 1)) by rw [putRow]; simp [cells8, List.map_set]] at h
set_option maxRecDepth 100000 in
theorem byteOf_impl (x : UInt32) (k : Nat) (hk : k < 4) (w : World) :
    Calls Tryd.prog 60 #[.int .u32 x.toNat, .int .i64 k] w fun e w' => e = .returned (.int .u8 (wb x k).toNat) ∧ w = w' := by
  have hx := w32_lt x
  have hx2 : (x.toNat : Int) < 4294967296 := by omega
  have h4 : k = 0 ∨ k = 1 ∨ k = 2 ∨ k = 3 := by omega
  rcases h4 with rfl | rfl | rfl | rfl
  · have HC := Lib.hid (wb0_c x)
    go_enter Tryd.func60, Tryd.ntmps60
    go_wp2
    go_ret
    exact ⟨congrArg Ending.returned HC.out.symm, rfl⟩
  · have HC := Lib.hid (wb1_c x)
    go_enter Tryd.func60, Tryd.ntmps60
    go_wp2
    go_ret
    exact ⟨congrArg Ending.returned HC.out.symm, rfl⟩
  · have HC := Lib.hid (wb2_c x)
    go_enter Tryd.func60, Tryd.ntmps60
    go_wp2
    go_ret
    exact ⟨congrArg Ending.returned HC.out.symm, rfl⟩
  · have HC := Lib.hid (wb3_c x)
    go_enter Tryd.func60, Tryd.ntmps60
    go_wp2
    go_ret
    exact ⟨congrArg Ending.returned HC.out.symm, rfl⟩
set_option maxHeartbeats 1600000 in
theorem put_impl {t : TypeId} (g n c i : Nat) (l : List UInt8) (x : UInt32) (base : Nat) (w : World) (h1 : i + 4 ≤ n) (h2 : n ≤ c) (h3 : c ≤ 9223372036854775807)
    (ho : w.ownsRow base t 1 (.slice (some ⟨g, 0, none⟩) n c) n (cells8 l)) :
    Calls Tryd.prog 78 #[.slice (some ⟨g, 0, none⟩) n c, .int .i64 i, .int .u32 x.toNat] w fun e w' => e = .returned (.tuple #[]) ∧ w'.ownsRow base t 1 (.slice (some ⟨g, 0, none⟩) n c) n (cells8 (putRow l i x 4)) ∧ w.grownBy w' (some g) := by
  have HO := Lib.hid ho
  have HC := fun k hk W => Lib.hid (byteOf_impl x k hk W)
  clear ho
  go_enter Tryd.func78, Tryd.ntmps78
  go_wp2_with fail
  refine (cut_impl g n c i h1 h2 h3 _).mono ?_; rintro e w' ⟨rfl, rfl⟩
  go_wp2
  go_loopw [13] (fun v wr => ∃ k : Nat, k ≤ 4 ∧ v = .int .i64 k ∧ wr.ownsRow base t 1 (.slice (some ⟨g, 0, none⟩) n c) n (cells8 (putRow l i x k)) ∧ w.grownBy wr (some g)) (fun v _ => 4 - (intOf v).toNat)
  case atStart => exact ⟨0, by omega, rfl, HO.out, only_refl _ _⟩
  case round =>
    obtain ⟨k, hk, rfl, hown, hgr⟩ := hrel
    by_cases hlt : k < 4
    · have hlen : (cells8 (putRow l i x k)).length = n := by have := hown.1; omega
      obtain ⟨u, hcell⟩ : ∃ u, wr.cell? ⟨g, i + k, none⟩ = some u := ⟨_, (hown.cellAt (i + k) (by omega)).trans (List.getElem?_eq_getElem (by omega))⟩
      have hfr := hown.frozenAt (i + k)
      have HR := Lib.hid (put_rel (i := i) (k := k) (v := .int .u8 ((wb x k).toNat : Int)) rfl hown hgr)
      have HX := Lib.hid (HC k hlt)
      have hb := (wb x k).toNat_lt
      have hb2 : ((wb x k).toNat : Int) < 256 := by omega
      generalize wb x k = y at *
      have hk1 : (k : Int) < 4 := by omega
      clear hown hgr hlen hb HC
      go_wp2_with fail
      refine (HX.out _).out.mono ?_; rintro e w' ⟨rfl, rfl⟩
      go_wp2
      go_roundw
      case rel => exact ⟨k + 1, by omega, by go_num, HR.out⟩
      case measure => simp [intOf]; omega
    · obtain rfl : k = 4 := by omega
      go_wp2
      go_end0
      exact ⟨rfl, hown, hgr⟩
/-- the bytes of a row can be read from an address on. -/
def Bytes4 (w : World) (g i : Nat) (a b c d : UInt8) : Prop :=
  w.cell? ⟨g, i, none⟩ = some (cell8 a) ∧ w.cell? ⟨g, i + 1, none⟩ = some (cell8 b) ∧ w.cell? ⟨g, i + 2, none⟩ = some (cell8 c) ∧ w.cell? ⟨g, i + 3, none⟩ = some (cell8 d)
/-- a word whose first k bytes are read. -/
def gotW (x : UInt32) (k : Nat) : Nat := x.toNat / 2 ^ (32 - 8 * k)
theorem gotW_up (x : UInt32) (k : Nat) (hk : k < 4) (c : UInt8) (hc : wb x k = c) : bits .or .u32 ((gotW x k : Int) * 256 % 4294967296) (c.toNat : Int) = ((gotW x (k + 1) : Nat) : Int) := by
  have hx := w32_lt x
  have hcl := c.toNat_lt
  have h : gotW x k * 256 + c.toNat = gotW x (k + 1) ∧ gotW x k * 256 < 4294967296 := by
    subst hc
    have h4 : k = 0 ∨ k = 1 ∨ k = 2 ∨ k = 3 := by omega
    rcases h4 with rfl | rfl | rfl | rfl
    · rw [wb0]; simp only [gotW, Nat.reduceMul, Nat.reduceSub, Nat.reducePow, Nat.reduceAdd]; omega
    · rw [wb1]; simp only [gotW, Nat.reduceMul, Nat.reduceSub, Nat.reducePow, Nat.reduceAdd]; omega
    · rw [wb2]; simp only [gotW, Nat.reduceMul, Nat.reduceSub, Nat.reducePow, Nat.reduceAdd]; omega
    · rw [wb3]; simp only [gotW, Nat.reduceMul, Nat.reduceSub, Nat.reducePow, Nat.reduceAdd]; omega
  have e : (gotW x k : Int) * 256 % 4294967296 = ((gotW x k * 256 : Nat) : Int) := by omega
  have h2 := nat_or_add (gotW x k) c.toNat 8 (by omega)
  rw [show (2 : Nat) ^ 8 = 256 by rfl] at h2
  rw [e, u32_or_nat _ _ (by omega) (by omega), h2, h.1]
theorem gotW_4 (x : UInt32) : gotW x 4 = x.toNat := by simp [gotW]
theorem gotW_0 (x : UInt32) : gotW x 0 = 0 := by have := w32_lt x; simp only [gotW, Nat.reduceMul, Nat.reduceSub, Nat.reducePow]; omega
set_option maxRecDepth 100000 in
set_option maxHeartbeats 1600000 in
theorem get_impl (g n c i : Nat) (x : UInt32) (w : World) (h1 : i + 4 ≤ n) (h2 : n ≤ c) (h3 : c ≤ 9223372036854775807) (hb : Bytes4 w g i (wb x 0) (wb x 1) (wb x 2) (wb x 3)) :
    Calls Tryd.prog 55 #[.slice (some ⟨g, 0, none⟩) n c, .int .i64 i] w fun e w' => e = .returned (.int .u32 x.toNat) ∧ w = w' := by
  have HB := Lib.hid hb
  clear hb
  go_enter Tryd.func55, Tryd.ntmps55
  go_wp2_with fail
  refine (cut_impl g n c i h1 h2 h3 _).mono ?_; rintro e w' ⟨rfl, rfl⟩
  go_wp2
  go_loop [5, 12] (fun v i => ∃ k : Nat, k ≤ 4 ∧ i = .int .i64 k ∧ v = .int .u32 (gotW x k)) (fun _ i => 4 - (intOf i).toNat)
  case atStart => exact ⟨0, by omega, rfl, val_i (by rw [gotW_0]; rfl)⟩
  case round =>
    obtain ⟨k, hk, rfl, rfl⟩ := hrel
    by_cases hlt : k < 4
    · obtain ⟨b0, b1, b2, b3⟩ := HB.out
      have hcell : w.cell? ⟨g, i + k, none⟩ = some (cell8 (wb x k)) := by
        have h4 : k = 0 ∨ k = 1 ∨ k = 2 ∨ k = 3 := by omega
        rcases h4 with rfl | rfl | rfl | rfl <;> assumption
      obtain ⟨y, hy⟩ : ∃ y, wb x k = y := ⟨_, rfl⟩
      have HU := Lib.hid (gotW_up x k hlt y hy)
      rw [hy] at hcell
      unfold cell8 at hcell
      have hyl := y.toNat_lt
      have hyi : (y.toNat : Int) < 256 := by omega
      clear b0 b1 b2 b3 hy hyl
      go_wp2
      go_round
      case rel => exact ⟨k + 1, by omega, by go_num, val_i HU.out⟩
      case measure => simp [intOf]; omega
    · obtain rfl : k = 4 := by omega
      go_wp2
      go_ret
      exact ⟨ret_i (by rw [gotW_4]), rfl⟩
theorem row4 (w : World) : ((w.alloc (.cells (mk8 4) 5)).ownsRow w.heap.size 5 1 (.slice (some ⟨w.heap.size, 0, none⟩) 4 4) 4 (cells8 [0, 0, 0, 0])) := by
  have h0 := World.ownsRow_lit w (e := 5) (size := 1) (mk8 4) 4 (Nat.le_refl w.heap.size) (by unfold maxLen; omega) (by rw [mk8_size])
  rw [mk8_list] at h0
  exact h0
theorem PutWord_impl (n : Int) (w : World) :
    Calls Tryd.prog 88 #[.int .i64 n] w fun e w' => e = .returned (.string (putW (w32 n))) ∧ Below w.heap.size w w' := by
  obtain ⟨i0, hi, hz0, hz1, hz2⟩ := info_parts Tryd.info5
  have hmk : (Instr.makeSlice 22 (.int .i64 4) (.int .i64 4)).run Tryd.prog w = .ok (.slice (some ⟨w.heap.size, 0, none⟩) 4 4) (w.alloc (.cells (mk8 4) 5)) := run_make8 Tryd.underlying22 hi hz0 hz1 hz2 4 4 (by omega) (by omega) w
  obtain ⟨W, hW⟩ : ∃ W, w.alloc (.cells (mk8 4) 5) = W := ⟨_, rfl⟩
  have HR := Lib.hid (row4 w)
  have HB : Hid (Below w.heap.size w W) := Lib.hid (hW ▸ (Below.refl _ _).alloc (Nat.le_refl _) _)
  have HP := fun W x h => Lib.hid (put_impl (t := 5) w.heap.size 4 4 0 [0, 0, 0, 0] x w.heap.size W (by omega) (by omega) (by omega) h)
  rw [hW] at hmk HR
  replace HP := Lib.hid ((HP W (w32 n) HR.out).out)
  rw [w32_val] at HP
  clear hW
  go_enter Tryd.func88, Tryd.ntmps88
  go_wp2_with fail
  refine HP.out.mono ?_; rintro e w1 ⟨rfl, hown, hgr⟩
  have HG : Hid (Below w.heap.size w w1) := Lib.hid (HB.out.grown hgr HB.out.size (fun r e => by cases e; omega))
  have hconv := run_string_own Tryd.underlying22 Tryd.underlying5 Tryd.underlying9 hown
  clear hown hgr HR HP
  go_wp2
  go_ret
  exact ⟨rfl, HG.out⟩
end Go.Proofs.YtbgjeipgmlcgaaaDoor
