/-
  What spec.ReadDec and impl.ReadDec answer: the number of 0 .. 999999999 whose numeral a text is, else -1; the walk of laws.FnExactReadDec.
-/
import Derived.Test.YtdhncpkcbeggmaaDoorRows
import Derived.Test.YtdhncpkcbeggmaaDoorDecT
import Derived.Test.YtdhncpkcbeggmaaDoorDigit
import Derived.Test.YtdhncpkcbeggmaaDoorReadMath
import Derived.Test.YtdhncpkcbeggmaaDoorAtoi
import Derived.Stop.LaidErr
import Derived.LaidMore
set_option linter.unusedVariables false
namespace Go.Proofs.YtdhncpkcbeggmaaDoor
open Go.RowKit

theorem isDigit_false {c : UInt8} (h : isDigit c = false) : ¬ (48 ≤ c.toNat ∧ c.toNat ≤ 57) := fun hh => by
  rw [(isDigit_iff c).2 hh] at h
  cases h
theorem byte_mem (s : ByteArray) (k : Nat) (h : k < s.size) : s[k] ∈ s.data.toList := by
  have hl : k < s.data.toList.length := by simpa using h
  exact List.getElem_mem hl
theorem rd_bad (s : ByteArray) (k : Nat) (h : k < s.size) (hn : isDigit (s[k]'h) = false) : rd s.data.toList = -1 :=
  rd_no fun n hle he => isDigit_false hn ((itoa_nat n hle).2.1 _ (by rw [he]; exact byte_mem s k h))
theorem rd_long (s : ByteArray) (h : 9 < s.size) : rd s.data.toList = -1 :=
  rd_no fun n hle he => by
    have := (itoa_nat n hle).2.2.1
    rw [he] at this
    have hl : s.data.toList.length = s.size := by simp
    omega
theorem str_data (l : List UInt8) : (str l).data.toList = l := by simp [str]
theorem str_eq (l : List UInt8) (s : ByteArray) : (str l = s) ↔ l = s.data.toList := by
  constructor
  · rintro rfl; rw [str_data]
  · rintro rfl; rfl

theorem val_bd (s : ByteArray) (k : Nat) (hk : k ≤ s.size) (h9 : s.size ≤ 9) (h : allDig (s.data.toList.take k)) : valOf (s.data.toList.take k) ≤ 999999999 := by
  have h1 := valOf_lt _ 0 h
  have hl : (s.data.toList.take k).length ≤ 9 := Nat.le_trans (List.length_take_le _ _) (by omega)
  have h2 : 10 ^ (s.data.toList.take k).length ≤ 10 ^ 9 := Nat.pow_le_pow_right (by omega) hl
  unfold valOf
  omega
theorem allDig_snoc (s : ByteArray) (k : Nat) (h : k < s.size) (ha : allDig (s.data.toList.take k)) (hc : 48 ≤ (s[k]'h).toNat ∧ (s[k]'h).toNat ≤ 57) : allDig (s.data.toList.take (k + 1)) := by
  rw [List.take_succ_eq_append_getElem (by simpa using h)]
  intro c hc'
  rcases List.mem_append.1 hc' with h1 | h1
  · exact ha c h1
  · rw [List.mem_singleton] at h1
    subst h1
    exact hc
theorem val_step {a b : Nat} {c : UInt8} (h : b = a * 10 + (c.toNat - 48)) (hc : (48 : Int) ≤ (c.toNat : Int)) : Value.int .i64 (10 * (a : Int) + (c.toNat : Int) - 48) = .int .i64 (b : Int) := by
  congr 1
  omega
theorem rd_none (s : ByteArray) (h : s.size = 0) : rd s.data.toList = -1 :=
  rd_no fun n hle he => (itoa_nat n hle).2.2.2 (by rw [he]; exact List.eq_nil_of_length_eq_zero (by simpa using h))
theorem empty_iff (s : ByteArray) : s.toList.isEmpty = true ↔ s.size = 0 := by
  rw [ByteArray.toList_eq, List.isEmpty_iff, ← List.length_eq_zero_iff, Array.length_toList]
  exact Iff.rfl
theorem nonempty_of (s : ByteArray) (h : 0 < s.size) : s.toList.isEmpty = false := by
  rw [← Bool.not_eq_true, empty_iff]
  omega

theorem str_ne {l : List UInt8} {s : ByteArray} (h : ¬ l = s.data.toList) : ((str l).toList == s.toList) = false := by
  rw [ByteArray.toList_eq, ByteArray.toList_eq, str_data]
  simpa using h

set_option maxRecDepth 100000 in
set_option maxHeartbeats 3200000 in
theorem read_spec (s : ByteArray) (w : World) (hs : s.size ≤ 1073741824) :
    Calls Tryd.prog 14 #[.string s] w fun e w' => e = .returned (.int .i64 (rd s.data.toList)) ∧ w = w' := by
  by_cases h9 : 9 < s.size
  · have hr := Lib.hid (rd_long s h9)
    have h9' : (9 : Int) < (s.size : Int) := by omega
    have h0 : 0 < s.size := by omega
    go_enter Tryd.func14, Tryd.ntmps14
    go_wp2
    go_loop [3, 4] (fun n i => ∃ k : Nat, k = 0 ∧ i = .int .i64 k) (fun _ i => s.size - (intOf i).toNat)
    case atStart => exact ⟨0, rfl, rfl⟩
    case round =>
      obtain ⟨k, rfl, rfl⟩ := hrel
      rcases Bool.eq_false_or_eq_true (isDigit (s[0]'h0)) with hd | hd
      all_goals
        go_wp2_with (go_at_call 32; refine (digit_any _ _).mono ?_; rintro e w' ⟨rfl, rfl⟩)
        go_ret
        exact ⟨ret_int (by rw [hr.out]), rfl⟩
  · have hs9 : (s.size : Int) ≤ 9 := by omega
    go_enter Tryd.func14, Tryd.ntmps14
    go_wp2
    go_loop [3, 4] (fun n i => ∃ k : Nat, k ≤ s.size ∧ i = .int .i64 k ∧ n = .int .i64 (valOf (s.data.toList.take k) : Nat) ∧ Hid (allDig (s.data.toList.take k))) (fun _ i => s.size - (intOf i).toNat)
    case atStart => exact ⟨0, Nat.zero_le _, rfl, rfl, Lib.hid (fun c hc => by simp at hc)⟩
    case round =>
      obtain ⟨k, hk, rfl, rfl, had⟩ := hrel
      have hb := val_bd s k hk (by omega) had.out
      by_cases hlt : k < s.size
      · have hk1 : (k : Int) < (s.size : Int) := by omega
        rcases Bool.eq_false_or_eq_true (isDigit (s[k]'hlt)) with hd | hd
        · have hiff := (isDigit_iff (s[k]'hlt)).1 hd
          have hc0 : (48 : Int) ≤ ((s[k]'hlt).toNat : Int) := by omega
          have hc1 : ((s[k]'hlt).toNat : Int) ≤ 57 := by omega
          have HS := Lib.hid (valOf_snoc s k hlt)
          have HA := Lib.hid (allDig_snoc s k hlt had.out hiff)
          clear hiff
          go_wp2_with (go_at_call 32; refine (digit_any _ _).mono ?_; rintro e w' ⟨rfl, rfl⟩)
          go_round
          case rel => exact ⟨k + 1, by omega, by go_num, val_step HS.out hc0, HA⟩
          case measure => simp [intOf]; omega
        · have hr := Lib.hid (rd_bad s k hlt hd)
          go_wp2_with (go_at_call 32; refine (digit_any _ _).mono ?_; rintro e w' ⟨rfl, rfl⟩)
          go_ret
          exact ⟨ret_int (by rw [hr.out]), rfl⟩
      · have hk1 : ¬ (k : Int) < (s.size : Int) := by omega
        have ht : s.data.toList.take k = s.data.toList := List.take_of_length_le (by simp; omega)
        rw [ht] at hb had
        rw [ht]
        clear ht
        have hv : ((valOf s.data.toList : Nat) : Int) ≤ 999999999 := by omega
        rcases Nat.eq_zero_or_pos s.size with hz | hz
        · have hr := Lib.hid (rd_none s hz)
          have hemp := (empty_iff s).2 hz
          clear hz
          go_wp2_with (go_at_call 12; refine (dec_spec _ _ (by omega) (by omega)).mono ?_; rintro e w' ⟨rfl, rfl⟩)
          go_ret
          exact ⟨ret_int (by rw [hr.out]), rfl⟩
        · have hemp := nonempty_of s hz
          by_cases he : Lib.itoa (valOf s.data.toList : Nat) = s.data.toList
          · have hr := Lib.hid (rd_yes hb he)
            have hst := (str_eq (Lib.itoa (valOf s.data.toList : Nat)) s).2 he
            have HST := Lib.hid hst
            clear he hst hz
            go_wp2_with (go_at_call 12; refine (dec_spec _ _ (by omega) (by omega)).mono ?_; rintro e w' ⟨rfl, rfl⟩; rw [HST.out])
            go_ret
            exact ⟨ret_int (by rw [hr.out]), rfl⟩
          · have hr : Hid (rd s.data.toList = -1) := Lib.hid (by unfold rd; rw [if_neg (fun hh => he hh.2)])
            have hst : ((str (Lib.itoa (valOf s.data.toList : Nat))).toList == s.toList) = false := str_ne he
            clear he hz
            go_wp2_with (go_at_call 12; refine (dec_spec _ _ (by omega) (by omega)).mono ?_; rintro e w' ⟨rfl, rfl⟩)
            go_ret
            exact ⟨ret_int (by rw [hr.out]), rfl⟩
end Go.Proofs.YtdhncpkcbeggmaaDoor
