/-
  Bytes that a law takes out of the code, told once for every world to come.
-/
import Derived.Test.YtbbjcgnoialidaaDraws
import Derived.Test.YtbbjcgnoialidaaPure
import Derived.Deep.RegionHeld3
import Derived.Deep.DrawnRows
import Derived.Deep.AppendLies
import Derived.WalkKit
import Derived.LoopTactic
import Derived.OwnWalk
import Derived.WalkLawsBesides
import Derived.WalkSpells
import Derived.Outline
import Derived.Laws.Pointers
import Derived.Deep.QuietTactic
import Derived.BigQuiet
import Derived.IntWalk
set_option linter.unusedVariables false
set_option linter.unusedSimpArgs false
namespace Go.Proofs.Ytbbjcgnoialidaa
open Go.RowKit

theorem bytes_ownT {w w2 w1 : World} {k : Nat} {e : TypeId} {u v : Value} {o : Obj} {l : List UInt8} {x : Int} (h0 : 0 ≤ x) (h1 : x ≤ 255)
    (hown2 : w2.ownsRow w.heap.size e 1 u k (cells8 l)) (hbel2 : Below w.heap.size w w2)
    (hown3 : w1.ownsRow w.heap.size e 1 v (k + 1) (cells8 l ++ [.int .u8 x]))
    (hgrow : (w2.alloc o).grownBy w1 u.ownBlock) :
    w1.ownsRow w.heap.size e 1 v (k + 1) (cells8 (l ++ [UInt8.ofNat x.toNat])) ∧ Below w.heap.size w w1 := by
  refine ⟨?_, ?_⟩
  · rw [cells8_append, show cells8 [UInt8.ofNat x.toNat] = [.int .u8 x] by rw [cell_byte x h0 h1]; rfl]
    exact hown3
  · have h1 : Below w.heap.size w (w2.alloc o) := hbel2.alloc hbel2.size _
    exact h1.grown hgrow h1.size (fun b hb => (hown2.lt b hb).1)
theorem ats_told (w : World) (A : Option Addr) (len cap : Nat) (h : CodeAt w w.heap.size A len) (hl : len ≤ 1048576) :
    ∃ v : Nat → UInt8, ∀ i : Nat, i ≤ 1000 → ∀ W, Below w.heap.size w W → Hid (Calls Try.prog 62 #[.slice A len cap, .int .i64 i] W fun e w' => e = .returned (.int .i64 (v i).toNat) ∧ w' = W) := by
  refine ⟨fun i => if hi : i ≤ 1000 then Classical.choose (at_told i hi w A len cap h hl) else 0, fun i hi => ?_⟩
  have e := Classical.choose_spec (at_told i hi w A len cap h hl)
  simp only [hi, dite_true]
  exact e
set_option maxRecDepth 100000 in
set_option maxHeartbeats 1600000 in
theorem bytes_told (from_ n : Nat) (hf : from_ + n ≤ 1000) (w : World) (A : Option Addr) (len cap : Nat) (h : CodeAt w w.heap.size A len) (hl : len ≤ 1048576) :
    ∃ s : Nat → UInt8, ∀ W, Below w.heap.size w W → Hid (Calls Try.prog 38 #[.slice A len cap, .int .i64 from_, .int .i64 n] W fun e w' => e = .returned (.string (txt s n)) ∧ Below W.heap.size W w') := by
  obtain ⟨v, hv⟩ := ats_told w A len cap h hl
  refine ⟨fun k => UInt8.ofNat (((v (from_ + k)).toNat * 7 + k * (v (k % 5)).toNat) % 256), fun W hW => Lib.hid ?_⟩
  obtain ⟨s, hs⟩ : ∃ s : Nat → UInt8, (fun k => UInt8.ofNat (((v (from_ + k)).toNat * 7 + k * (v (k % 5)).toNat) % 256)) = s := ⟨_, rfl⟩
  have HSU : Hid (∀ k, UInt8.ofNat (((v (from_ + k)).toNat * 7 + k * (v (k % 5)).toNat) % 256) = s k) := Lib.hid (fun k => by rw [← hs])
  rw [hs]
  clear hs
  obtain ⟨i0, hi, hz0, hz1, hz2⟩ := info_parts Try.info5
  have HV := Lib.hid hv
  have HW := Lib.hid hW
  clear h hv hW
  go_enter Try.func38, Try.ntmps38
  go_wp2
  go_loopw [7, 8] (fun u i wr => ∃ k : Nat, k ≤ n ∧ i = .int .i64 k ∧ wr.ownsRow W.heap.size 5 1 u k (cells8 (upTo s k)) ∧ Below W.heap.size W wr) (fun _ i _ => n - (intOf i).toNat)
  case atStart => exact ⟨0, Nat.zero_le _, rfl, World.ownsRow_lit W #[] 0 (Nat.le_refl _) (by simp [maxLen]) rfl, (Below.refl _ _).alloc (Nat.le_refl _) _⟩
  case round =>
    obtain ⟨k, hk, rfl, hown, hbel⟩ := hrel
    by_cases hlt : k < n
    · have hk1 : (k : Int) < (n : Int) := by omega
      have hfk : (from_ : Int) + (k : Int) ≤ 1000 := by omega
      have hbw := HW.out.trans (hbel.mono HW.out.size)
      have c1 := HV.out (from_ + k) (by omega) wr hbw
      rw [show ((from_ + k : Nat) : Int) = (from_ : Int) + (k : Int) by omega] at c1
      have hsu := HSU.out k
      obtain ⟨m, hm⟩ : ∃ m, k % 5 = m := ⟨_, rfl⟩
      rw [hm] at hsu
      have c2 := HV.out m (by omega) wr hbw
      have em : (k : Int).tmod 5 = (m : Int) := by rw [Int.tmod_eq_emod_of_nonneg (by omega)]; omega
      have em2 : (k : Int) % 5 = (m : Int) := by omega
      have hm5 : (m : Int) < 5 := by omega
      have hx := (v (from_ + k)).toNat_lt
      have hy := (v m).toNat_lt
      generalize (v (from_ + k)).toNat = x at *
      generalize (v m).toNat = y at *
      obtain ⟨q, hq⟩ : ∃ q : Nat, k * y = q := ⟨_, rfl⟩
      have hky : (k : Int) * (y : Int) = (q : Int) := by rw [← hq]; simp
      have hq2 : q ≤ 256000 := by rw [← hq]; exact Nat.le_trans (Nat.mul_le_mul (show k ≤ 1000 by omega) (show y ≤ 256 by omega)) (by omega)
      have hq3 : (q : Int) ≤ 256000 := by omega
      have hx3 : (x : Int) < 256 := by omega
      rw [hq] at hsu
      have HUP : Hid (upTo s k ++ [UInt8.ofNat (((x : Int) * 7 + (q : Int)) % 256).toNat] = upTo s (k + 1)) := Lib.hid (by
        rw [upTo_succ, ← hsu]
        have e : (((x : Int) * 7 + (q : Int)) % 256).toNat = (x * 7 + q) % 256 := by omega
        rw [e])
      clear hq hq2 em2 hsu hm hbw hy
      go_wp2_with fail
      refine c1.out.mono ?_; rintro e w' ⟨rfl, rfl⟩
      go_wp2_with fail
      refine c2.out.mono ?_; rintro e w' ⟨rfl, rfl⟩
      clear c1 c2
      go_wp2_with (at_builtin; refine stp ?_)
      refine unstp ?_
      refine wpList_append_lies _ rfl (.tmp 15) (.tmp 30) 22 rfl W.heap.size 5 i0 (.int .u8 0) 1 1 Try.underlying22 hi hz0 hz1 hz2 rfl (by decide) u7 k (cells8 (upTo s k)) rfl (hown.alloc _) ⟨w'.heap.size, 0, none⟩ 1 1 [.int .u8 (((x : Int) * 7 + (q : Int)) % 256)] rfl rfl (World.news_of_block (cs := #[.int .u8 (((x : Int) * 7 + (q : Int)) % 256)]) (heap_alloc_new w' _)) (by simp [Value.oneCell']) (by omega) (by unfold maxLen; omega) (by omega) (by have := hbel.size; simp; omega) (w'.heap.size + 1) (by simp) ?_
      intro g2 cap2 w5 hown5 hgrow hat hlt5
      have hrel := bytes_ownT (by omega) (by omega) hown hbel hown5 hgrow
      rw [HUP.out] at hrel
      clear hown hbel hown5 hgrow hat hlt5
      go_wp2
      go_roundw
      case rel => exact ⟨k + 1, by omega, by go_num, hrel.1, hrel.2⟩
      case measure => simp [intOf]; omega
    · have hk1 : ¬ (k : Int) < (n : Int) := by omega
      obtain rfl : k = n := by omega
      have hconv := run_string_own Try.underlying22 Try.underlying5 Try.underlying9 hown
      have HB := Lib.hid hbel
      clear hown hbel
      go_wp2
      go_ret
      exact ⟨rfl, HB.out⟩
end Go.Proofs.Ytbbjcgnoialidaa
