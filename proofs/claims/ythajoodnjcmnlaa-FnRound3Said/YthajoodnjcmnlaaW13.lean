/-
  The walk of laws.FnRound3: it returns true at every code.
-/
import Derived.Test.YthajoodnjcmnlaaW10
import Derived.Test.YthajoodnjcmnlaaW11
import Derived.WalkKit
import Derived.LoopTactic
import Derived.OwnWalk
import Derived.WalkLawsBesides
import Derived.WalkSpells
import Derived.Outline
import Derived.Below
import Derived.Laws.Rows
import Derived.Laws.Tables
import Derived.Deep.WholeRow
set_option linter.unusedVariables false
namespace Go.Proofs.Ythajoodnjcmnlaa
open Go.RowKit

/-- what is seen of the bytes before round i: at the start nothing. -/
def falses : Array Value := Array.replicate 256 (.bool false)
theorem falses_size : falses.size = 256 := by simp [falses]
theorem zero_seen (w : World) : (zeroValue 34).run Try.prog w = .ok (.agg falses) w := by kernel_rfl
theorem seen_size : (Try.prog.info? 34).map (·.size) = some falses.size := by kernel_rfl
theorem store_seen (w : World) : (storeCells ⟨w.heap.size, 0, none⟩ falses.toList).run Try.prog (w.alloc (.cells falses 34)) = .ok () (w.alloc (.cells falses 34)) := by
  have h := run_storeCells_from (P := Try.prog) w.heap.size 34 falses.toList 0 falses (w.alloc (.cells falses 34)) (heap_alloc_new w _) (by simp) (fun v hv => by
    rw [falses, Array.toList_replicate] at hv
    rw [List.eq_of_mem_replicate hv]; rfl)
  rw [h]
  simp only [List.take_zero, List.nil_append, Array.toArray_toList]
  rw [World.setRow_alloc_new]
/-- what is seen of the bytes before round i. -/
def seen : Nat → Array Value
  | 0 => falses
  | i + 1 => (seen i).setIfInBounds (gpow 3 i).toNat (.bool true)
theorem seen_no (i j : Nat) (hj : j < 256) (h : ∀ k, k < i → (gpow 3 k).toNat ≠ j) : (seen i)[j]? = some (.bool false) := by
  induction i with
  | zero => simp [seen, falses, hj]
  | succ i ih =>
    rw [seen, Array.getElem?_setIfInBounds_ne (h i (by omega))]
    exact ih fun k hk => h k (by omega)
theorem three_255 : gpow 3 255 = 1 := by
  rw [← power_gpow 3 255 (by omega)]; exact (field_of 3 (by decide)).1
theorem three_not : ∀ n : Fin 254, ¬ power 3 (n.val + 1) = 1 := by decide +kernel
theorem three_back (k : Nat) (hk : k ≤ 255) : mul (gpow 3 (255 - k)) (gpow 3 k) = 1 := by
  rw [← gpow_add, show 255 - k + k = 255 by omega, three_255]
theorem three_inj (i k : Nat) (hi : i < 255) (hk : k < i) : (gpow 3 k).toNat ≠ (gpow 3 i).toNat := by
  intro e
  have e1 := UInt8.toNat_inj.1 e
  rw [show i = k + (i - k) by omega, gpow_add] at e1
  have h := three_back k (by omega)
  have h2 : mul (gpow 3 (255 - k)) (mul (gpow 3 k) (gpow 3 (i - k))) = 1 := by rw [← e1]; exact h
  rw [← mul_assoc, h, mul_1l, ← power_gpow _ _ (by omega)] at h2
  have := three_not ⟨i - k - 1, by omega⟩
  simp only at this
  rw [show i - k - 1 + 1 = i - k by omega] at this
  exact this h2
theorem three_pos (i : Nat) (hi : i ≤ 255) : 0 < (gpow 3 i).toNat := by
  rcases Nat.eq_zero_or_pos (gpow 3 i).toNat with h | h
  · have h0 : gpow 3 i = 0 := UInt8.toNat_inj.1 h
    have h1 := three_back i hi
    rw [h0, mul_0r] at h1
    exact absurd h1 (by decide)
  · exact h
set_option maxRecDepth 100000 in
set_option maxHeartbeats 800000 in
theorem walk_FnRound3 (a0 : Option Addr) (len0 cap0 : Nat) (z0 : List Int) (w : World) (w0 : IsRow .u8 w a0 len0 cap0 z0) :
    Calls Try.prog 7 #[.slice a0 len0 cap0] w fun e w' => e = .returned (.bool true) ∧ Below w.heap.size w w' := by
  obtain ⟨hcode, hlen⟩ := w0.code
  clear w0
  by_cases hl : len0 ≤ 1048576
  · have H := Lib.hid hcode
    clear hcode
    go_enter Try.func7, Try.ntmps7
    go_wp2_with fail
    refine (big_small _ _ _ _ hl).mono ?_; rintro e w' ⟨rfl, rfl⟩
    have hz := zero_seen
    have hst := store_seen w
    go_wp2
    clear hz hst
    go_loopw [4, 5] (fun b i wr => ∃ k : Nat, k ≤ 255 ∧ i = .int .i64 k ∧ b = .int .i64 (gpow 3 k).toNat ∧ Hid (wr.heap[w.heap.size]? = some (.cells (seen k) 34 (0, 0))) ∧ Below w.heap.size w wr) (fun _ i _ => 255 - (intOf i).toNat)
    case atStart => exact ⟨0, by omega, rfl, rfl, Lib.hid (heap_alloc_new w _), (Below.refl _ _).alloc (Nat.le_refl _) _⟩
    case round =>
      obtain ⟨k, hk, rfl, rfl, HG, hbel⟩ := hrel
      by_cases hlt : k < 255
      · have hp := three_pos k hk
        have hq := (gpow 3 k).toNat_lt
        have hcell : wr.cell? ⟨w.heap.size, (gpow 3 k).toNat, none⟩ = some (.bool false) :=
          (cell_of_row wr _ _ _ _ _ HG.out).trans (seen_no k _ (by omega) (fun j hj => three_inj k j hlt hj))
        have hfr := frozen_of_row wr _ (gpow 3 k).toNat _ _ HG.out
        have HG2 : Hid ((wr.setCell ⟨w.heap.size, (gpow 3 k).toNat, none⟩ (.bool true)).heap[w.heap.size]? = some (.cells (seen (k + 1)) 34 (0, 0))) := Lib.hid (heap_setCell_same wr w.heap.size (gpow 3 k).toNat _ _ (.bool true) HG.out)
        have HB2 := Lib.hid (hbel.setCell (p := ⟨w.heap.size, (gpow 3 k).toNat, none⟩) (Nat.le_refl _) (.bool true))
        have HT : Hid (mul (b8 ((gpow 3 k).toNat : Int)) (b8 3) = gpow 3 (k + 1)) := Lib.hid (by rw [b8_of]; rfl)
        have hq' : ((gpow 3 k).toNat : Int) < 256 := by omega
        have hp' : (0 : Int) < ((gpow 3 k).toNat : Int) := by omega
        have hp1 : (1 : Int) ≤ ((gpow 3 k).toNat : Int) := by omega
        have hq1 : ((gpow 3 k).toNat : Int) ≤ 255 := by omega
        have hp2 : ¬ ((gpow 3 k).toNat : Int) < 1 := by omega
        have hq2 : ¬ (255 : Int) < ((gpow 3 k).toNat : Int) := by omega
        clear hbel
        generalize (gpow 3 k).toNat = j at *
        go_wp2_with (go_at_call 17; refine (times_is _ _ _ HT.out _).mono ?_; rintro e w' ⟨rfl, rfl⟩)
        go_roundw
        case rel => exact ⟨k + 1, by omega, by go_num, rfl, HG2, HB2.out⟩
        case measure => simp [intOf]; omega
      · obtain rfl : k = 255 := by omega
        have HC := Lib.hid ((H.out.below hbel (Nat.le_refl _)).up hbel.size)
        have h3 : ((gpow 3 255).toNat : Int) = 1 := by rw [three_255]; rfl
        go_wp2_with fail
        refine (at_any 0 (by omega) _ _ _ _ HC.out hl).mono ?_; rintro e w' ⟨⟨c, rfl, hc⟩, rfl⟩
        obtain ⟨n, hn⟩ : ∃ n, n = c % 255 := ⟨_, rfl⟩
        have hn1 : (c : Int) % 255 = (n : Int) := by omega
        have hn2 : n < 255 := by omega
        clear hn
        obtain ⟨P, hP⟩ : ∃ P, P = power 3 n := ⟨_, rfl⟩
        obtain ⟨Q, hQ⟩ : ∃ Q, Q = power 3 (255 - n) := ⟨_, rfl⟩
        have k1 : Hid (Pow (b8 3) (n : Int) = P) := Lib.hid (by rw [Pow_nat, hP]; rfl)
        have k2 : Hid (Pow (b8 3) (255 - (n : Int)) = Q) := Lib.hid (by rw [Pow_at _ (255 - n) _ (by omega), hQ]; rfl)
        have k3 : Hid (mul (b8 (P.toNat : Int)) (b8 (Q.toNat : Int)) = 1) := Lib.hid (by
          rw [b8_of, b8_of, hP, hQ, power_gpow _ _ (by omega), power_gpow _ _ (by omega), mul_comm]; exact three_back n (by omega))
        have I1 : Hid (In64 (n : Int)) := Lib.hid ⟨by omega, by omega⟩
        have I2 : Hid (In64 (255 - (n : Int))) := Lib.hid ⟨by omega, by omega⟩
        clear hP hQ hk hlt
        go_wp2_with fail
        refine (pow_is _ _ I1.out P k1.out _).mono ?_; rintro e w' ⟨rfl, rfl⟩
        go_wp2_with fail
        refine (pow_sp _ _ I1.out P k1.out _).mono ?_; rintro e w' ⟨rfl, rfl⟩
        go_wp2_with fail
        refine (pow_is _ _ I1.out P k1.out _).mono ?_; rintro e w' ⟨rfl, rfl⟩
        go_wp2_with fail
        refine (pow_is _ _ I2.out Q k2.out _).mono ?_; rintro e w' ⟨rfl, rfl⟩
        go_wp2_with fail
        refine (times_one _ _ k3.out _).mono ?_; rintro e w' ⟨rfl, rfl⟩
        go_wp2
        go_ret
        exact ⟨rfl, hbel⟩
  · go_enter Try.func7, Try.ntmps7
    go_wp2_with fail
    refine (big_great _ _ _ _ (by omega) hlen).mono ?_; rintro e w' ⟨rfl, rfl⟩
    go_wp2
    go_ret
    exact ⟨rfl, Below.refl _ _⟩
end Go.Proofs.Ythajoodnjcmnlaa
