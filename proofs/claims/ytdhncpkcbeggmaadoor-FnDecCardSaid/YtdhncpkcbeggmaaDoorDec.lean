/-
  What spec.DecText answers: the decimal numeral.
-/
import Derived.Test.YtdhncpkcbeggmaaDoorProg
import Derived.Test.YtdhncpkcbeggmaaDoorDecMath
import Derived.WalkKit
import Derived.LoopTactic
import Derived.OwnWalk
import Derived.WalkLawsBesides
import Derived.WalkSpells
import Derived.Outline
import Derived.Below
set_option linter.unusedVariables false
namespace Go.Proofs.YtdhncpkcbeggmaaDoor
open Go.RowKit

theorem dec_tail (u : Nat) : Value.int .i64 (-((u : Int) / 10)) = .int .i64 (-((u / 10 : Nat) : Int)) := by congr 1
theorem dec_str {a b c d : Nat} {l : List UInt8} {r : ByteArray} (h : digs.extract a b ++ str l = r) (hc : c = a) (hd : d = b) :
    Value.string (({ data := #[48, 49, 50, 51, 52, 53, 54, 55, 56, 57] } : ByteArray).extract c d ++ str l) = .string r := by
  subst hc; subst hd
  exact congrArg Value.string h
theorem str_v {a b : ByteArray} (h : a = b) : Value.string a = .string b := by rw [h]

set_option maxRecDepth 100000 in
set_option maxHeartbeats 1600000 in
theorem dec_pos (N : Nat) (w : World) (h0 : 0 < N) (h1 : N ≤ 9223372036854775807) :
    Calls Tryd.prog 12 #[.int .i64 N] w fun e w' => e = .returned (.string (str (decE N))) ∧ w = w' := by
  have hl := decE_len 19 N (by omega)
  have hN0 : ((N : Int) == 0) = false := by simp; omega
  go_enter Tryd.func12, Tryd.ntmps12
  go_wp2
  go_loop [3, 4, 5] (fun s m _ => ∃ (u : Nat) (l : List UInt8), u ≤ N ∧ m = .int .i64 u ∧ s = .string (str l) ∧ l.length ≤ 19 ∧ Hid (decE u ++ l = decE N)) (fun _ m _ => (intOf m).toNat)
  case atStart => exact ⟨N, [], Nat.le_refl _, rfl, rfl, by simp, Lib.hid (by simp)⟩
  case round =>
    obtain ⟨u, l, hu, rfl, rfl, hll, hinv⟩ := hrel
    by_cases hz : u = 0
    · subst hz
      have HV : Hid (l = decE N) := Lib.hid (by have := hinv.out; rw [decE_zero, List.nil_append] at this; exact this)
      go_wp2
      go_ret
      exact ⟨ret_bytes (by rw [HV.out]), rfl⟩
    · have hu0 : ((u : Int) == 0) = false := by simp; omega
      have hu1 : ((u : Int) != 0) = true := by simp; omega
      have hsz := str_size l
      have hinv2 := Lib.hid (dec_inv (by omega) hinv.out)
      have hll2 := dec_len hinv2.out hl
      have hm : u / 10 ≤ N := by omega
      have HS := Lib.hid (digs_step u l)
      go_wp2
      go_round
      case rel => exact ⟨u / 10, _, hm, by go_num, str_v HS.out, hll2, hinv2⟩
      case measure => simp [intOf]; omega

set_option maxRecDepth 100000 in
set_option maxHeartbeats 1600000 in
theorem dec_neg (N : Nat) (w : World) (h0 : 0 < N) (h1 : N ≤ 9223372036854775808) :
    Calls Tryd.prog 12 #[.int .i64 (-(N : Int))] w fun e w' => e = .returned (.string (str (45 :: decE N))) ∧ w = w' := by
  have hl := decE_len 19 N (by omega)
  have hN0 : (-(N : Int) == 0) = false := by simp; omega
  go_enter Tryd.func12, Tryd.ntmps12
  go_wp2
  go_loop [3, 4, 5] (fun s m _ => ∃ (u : Nat) (l : List UInt8), u ≤ N ∧ m = .int .i64 (-(u : Int)) ∧ s = .string (str l) ∧ l.length ≤ 19 ∧ Hid (decE u ++ l = decE N)) (fun _ m _ => (-(intOf m)).toNat)
  case atStart => exact ⟨N, [], Nat.le_refl _, rfl, rfl, by simp, Lib.hid (by simp)⟩
  case round =>
    obtain ⟨u, l, hu, rfl, rfl, hll, hinv⟩ := hrel
    by_cases hz : u = 0
    · subst hz
      have HV : Hid (l = decE N) := Lib.hid (by have := hinv.out; rw [decE_zero, List.nil_append] at this; exact this)
      have hNneg : -(N : Int) < 0 := by omega
      have hsz := str_size l
      go_wp2
      go_ret
      exact ⟨ret_bytes (by rw [← HV.out]; exact str_append [45] l), rfl⟩
    · have hu0 : (-(u : Int) == 0) = false := by simp; omega
      have hu1 : (-(u : Int) != 0) = true := by simp; omega
      have hsz := str_size l
      have hinv2 := Lib.hid (dec_inv (by omega) hinv.out)
      have hll2 := dec_len hinv2.out hl
      have hm : u / 10 ≤ N := by omega
      have HS := Lib.hid (digs_step u l)
      go_wp2
      all_goals
        go_round
        case rel => exact ⟨u / 10, _, hm, dec_tail u, dec_str HS.out (by first | rfl | omega) (by first | rfl | omega), hll2, hinv2⟩
        case measure => simp [intOf]; omega
set_option maxHeartbeats 400000 in
theorem dec_nought (w : World) :
    Calls Tryd.prog 12 #[.int .i64 0] w fun e w' => e = .returned (.string (str [48])) ∧ w = w' := by
  go_enter Tryd.func12, Tryd.ntmps12
  go_wp2
  go_ret
  exact ⟨rfl, rfl⟩

/-- spec.DecText at every int. -/
theorem dec_spec (n : Int) (w : World) (h0 : -9223372036854775808 ≤ n) (h1 : n ≤ 9223372036854775807) :
    Calls Tryd.prog 12 #[.int .i64 n] w fun e w' => e = .returned (.string (str (Lib.itoa n))) ∧ w = w' := by
  rcases Int.lt_trichotomy n 0 with h | h | h
  · obtain ⟨N, rfl⟩ : ∃ N : Nat, n = -(N : Int) := ⟨n.natAbs, by omega⟩
    have := dec_neg N w (by omega) (by omega)
    rw [itoa_neg h, show (-(N : Int)).natAbs = N by omega]
    exact this
  · subst h
    rw [itoa_zero]
    exact dec_nought w
  · obtain ⟨N, rfl⟩ : ∃ N : Nat, n = (N : Int) := ⟨n.toNat, by omega⟩
    have := dec_pos N w (by omega) (by omega)
    rw [itoa_pos h, show (N : Int).toNat = N by omega]
    exact this
end Go.Proofs.YtdhncpkcbeggmaaDoor
