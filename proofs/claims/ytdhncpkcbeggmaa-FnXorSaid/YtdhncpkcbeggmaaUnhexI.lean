/-
  What impl.Unhex answers.
-/
import Derived.Test.YtdhncpkcbeggmaaProg
import Derived.Test.YtdhncpkcbeggmaaMath
import Derived.Test.YtdhncpkcbeggmaaShelf
import Derived.Test.YtdhncpkcbeggmaaKit
import Derived.Test.YtdhncpkcbeggmaaHex
import Derived.Test.YtdhncpkcbeggmaaLhex
import Derived.Test.YtdhncpkcbeggmaaUnhex
import Derived.Test.YtdhncpkcbeggmaaUnhexMath
import Derived.Deep.QuietTactic
import Derived.BigQuiet
import Derived.IntWalk
import Derived.WalkKit
import Derived.LoopTactic
import Derived.OwnWalk
import Derived.WalkLawsBesides
import Derived.WalkSpells
import Derived.Outline
import Derived.Below
import Derived.Laws.AppendOwn
import Derived.Laws.OwnMore
import Derived.Deep.OwnRows
import Derived.Deep.RegionHeld3
import Derived.Deep.DrawnRows
import Derived.Deep.AppendLies
import Derived.Deep.DeepFit
import Derived.Handy
set_option linter.unusedVariables false
namespace Go.Proofs.Ytdhncpkcbeggmaa
open Go.RowKit

attribute [local go_sem ↓] Go.wp_at_zero Go.wp_at_succ

theorem index_any (c : UInt8) (w : World) : Calls Try.prog 34 #[.string ⟨#[48, 49, 50, 51, 52, 53, 54, 55, 56, 57, 97, 98, 99, 100, 101, 102]⟩, .int .u8 c.toNat] w fun e w' => e = .returned (.int .i64 (hexVal c)) ∧ w = w' :=
  (Try.strings_IndexByte _ c.toNat w).mono fun e w' ⟨he, hw⟩ => ⟨by
    rw [he, ← index_hex_byte c]
    have : ((c.toNat : Int)).toNat.toUInt8 = c := by simp
    rw [this], hw.symm⟩
theorem unhex_odd_size (s : ByteArray) (h : s.size % 2 = 1) : unhex s.data.toList = none :=
  unhex_odd (s.size / 2) _ (by have : s.data.toList.length = s.size := by simp
                               omega)

theorem or_fin : ∀ x y : Fin 16, bits .or .i64 ((x.val : Int) * 16) (y.val : Int) % 256 = 16 * (x.val : Int) + (y.val : Int) := by decide +kernel
theorem or_val (x y : Int) (h0 : 0 ≤ x) (h1 : x ≤ 15) (h2 : 0 ≤ y) (h3 : y ≤ 15) : bits .or .i64 (x * 16) y % 256 = 16 * x + y := by
  have h := or_fin ⟨x.toNat, by omega⟩ ⟨y.toNat, by omega⟩
  simpa [Int.toNat_of_nonneg h0, Int.toNat_of_nonneg h2] using h
theorem un_relI {w wr : World} {k n : Nat} {e : TypeId} {pre : List UInt8} {c : UInt8} {x : Int}
    (hown : wr.ownsRow w.heap.size e 1 (.slice (some ⟨w.heap.size, 0, none⟩) n n) n (cells8 (pre ++ List.replicate (n - k) 0))) (hbel : Below w.heap.size w wr)
    (hpl : pre.length = k) (hlt : k < n) (hx : x = (c.toNat : Int)) :
    (wr.setCell ⟨w.heap.size, k, none⟩ (.int .u8 x)).ownsRow w.heap.size e 1 (.slice (some ⟨w.heap.size, 0, none⟩) n n) n (cells8 (pre ++ [c] ++ List.replicate (n - (k + 1)) 0)) ∧
      Below w.heap.size w (wr.setCell ⟨w.heap.size, k, none⟩ (.int .u8 x)) ∧ (pre ++ [c]).length = k + 1 := by
  refine ⟨?_, hbel.setCell (Nat.le_refl _) _, by simp [hpl]⟩
  have h := (hown.stored k (.int .u8 x)).1
  have hs : (cells8 (pre ++ List.replicate (n - k) 0)).set k (.int .u8 x) = cells8 (pre ++ [c] ++ List.replicate (n - (k + 1)) 0) := by
    rw [show (n - k) = (n - (k + 1)) + 1 by omega, List.replicate_succ, cells8_append, List.set_append_right _ _ (by rw [cells8_length]; omega), cells8_length, hpl, Nat.sub_self, hx]
    simp [cells8, cell8]
  rw [hs] at h
  exact h

set_option maxRecDepth 100000 in
set_option maxHeartbeats 1600000 in
theorem unhex_impl (s : ByteArray) (w : World) (hs : s.size ≤ 1073741824) :
    Calls Try.prog 14 #[.string s] w fun e w' => e = .returned (.tuple #[.string ⟨(unhexT s.data.toList).toArray⟩, .bool (unhexB s.data.toList)]) ∧ Below w.heap.size w w' := by
  obtain ⟨i0, hi, hz0, hz1, hz2⟩ := info_parts Try.info5
  by_cases hodd : s.size % 2 = 1
  · have hbad := Lib.hid (unhex_of_none (unhex_odd_size s hodd))
    have hmod : (s.size : Int) % 2 = 1 := by omega
    clear hodd
    go_enter Try.func14, Try.ntmps14
    go_wp2
    go_ret2
    exact ⟨un_ret hbad.out, Below.refl _ _⟩
  · obtain ⟨n, hn⟩ : ∃ n, s.size = 2 * n := ⟨s.size / 2, by omega⟩
    have hN := Lib.hid hn
    have hmod : (s.size : Int) % 2 = 0 := by omega
    have hdiv : (s.size : Int) / 2 = (n : Int) := by omega
    have hnb : n ≤ 1073741824 := by omega
    have hmk := run_make8 Try.underlying22 hi hz0 hz1 hz2 n n (by omega) (by omega) w
    clear hodd hn
    go_enter Try.func14, Try.ntmps14
    go_wp2
    clear hmod hdiv
    go_loopw [5, 18] (fun _ i wr => ∃ (k : Nat) (pre : List UInt8), k ≤ n ∧ Hid (pre.length = k) ∧ i = .int .i64 k ∧ wr.ownsRow w.heap.size 5 1 (.slice (some ⟨w.heap.size, 0, none⟩) n n) n (cells8 (pre ++ List.replicate (n - k) 0)) ∧ UnAt s (2 * k) pre ∧ Below w.heap.size w wr) (fun _ i _ => n - (intOf i).toNat)
    case atStart =>
      refine ⟨0, [], Nat.zero_le _, Lib.hid rfl, rfl, ?_, UnAt.start s, (Below.refl _ _).alloc (Nat.le_refl _) _⟩
      have h0 := World.ownsRow_lit w (e := 5) (size := 1) (mk8 n) n (Nat.le_refl w.heap.size) (by unfold maxLen; omega) (by rw [mk8_size]; omega)
      rw [mk8_list] at h0
      exact h0
    case round =>
      obtain ⟨k, pre, hk, hpl, rfl, hown, hun, hbel⟩ := hrel
      by_cases hlt : k < n
      · have hNN := hN.out
        have hm' : 2 * k < s.size := by omega
        have hlt' : 2 * k + 1 < s.size := by omega
        clear hNN
        obtain ⟨m, hm⟩ : ∃ m, m = 2 * k := ⟨_, rfl⟩
        rw [← hm] at hun hm' hlt'
        have hmm : 2 * (k : Int) = (m : Int) := by omega
        have HM := Lib.hid hm
        clear hm
        have hv1 := hexVal_bd (s[m]'hm')
        have hv2 := hexVal_bd (s[m + 1]'hlt')
        have hm0 : (0 : Int) ≤ (m : Int) := by omega
        have hm2 : (m : Int) < (s.size : Int) := by omega
        have hm1 : (m : Int) + 1 < (s.size : Int) := by omega
        have hw0 : (0 : Int) ≤ (m : Int) + 1 := by omega
        have hw1 : ((m : Int) + 1).toNat = m + 1 := by omega
        by_cases ha : hexVal (s[m]'hm') < 0
        · have hbad := Lib.hid (unhex_of_none (hun.bad hlt' (by omega)))
          go_wp2_with (go_at_call 34; refine (index_any _ _).mono ?_; rintro e w' ⟨rfl, rfl⟩)
          go_ret2
          exact ⟨un_ret hbad.out, hbel⟩
        · by_cases hb : hexVal (s[m + 1]'hlt') < 0
          · have hbad := Lib.hid (unhex_of_none (hun.bad hlt' (by omega)))
            go_wp2_with (go_at_call 34; refine (index_any _ _).mono ?_; rintro e w' ⟨rfl, rfl⟩)
            go_ret2
            exact ⟨un_ret hbad.out, hbel⟩
          · have hun2 := hun.step hlt' (by omega) (by omega)
            have HU := Lib.hid (unByte_val (s[m]'hm') (s[m + 1]'hlt') (by omega) (by omega))
            have hk3 : (k : Int) < (n : Int) := by omega
            obtain ⟨u, hcell⟩ : ∃ u, wr.cell? ⟨w.heap.size, k, none⟩ = some u := by
              have hl : (cells8 (pre ++ List.replicate (n - k) 0)).length = n := by have := hpl.out; rw [cells8_length, List.length_append, List.length_replicate]; omega
              exact ⟨_, (hown.cellAt k (by omega)).trans (List.getElem?_eq_getElem (by omega))⟩
            have hfr := hown.frozenAt k
            go_wp2_with (go_at_call 34; refine (index_any _ _).mono ?_; rintro e w' ⟨rfl, rfl⟩)
            have hrel := un_relI hown hbel hpl.out hlt (or_val _ _ (by omega) hv1.2 (by omega) hv2.2 |>.trans HU.out.symm)
            have HM2 : Hid (m + 2 = 2 * (k + 1)) := Lib.hid (by have := HM.out; omega)
            rw [HM2.out] at hun2
            go_roundw
            case rel => exact ⟨k + 1, _, by omega, Lib.hid hrel.2.2, by go_num, hrel.1, hun2, hrel.2.1⟩
            case measure => simp [intOf]; omega
      · have hNN := hN.out
        have hdone := Lib.hid (unhex_of_some (hun.done (by omega)))
        have hz : n - k = 0 := by omega
        rw [hz, List.replicate_zero, List.append_nil] at hown
        have hconv := run_string_own Try.underlying22 Try.underlying5 Try.underlying9 hown
        clear hNN hz
        go_wp2
        go_ret2
        exact ⟨un_ret2 hdone.out, hbel⟩
end Go.Proofs.Ytdhncpkcbeggmaa
