/-
  What impl.Ones and spec.Ones answer: how many bits of a text of at most 2^30 bytes are ones.
-/
import Derived.Test.YtbbjcgnoialidaaProg
import Derived.Test.YtbbjcgnoialidaaPure
import Derived.Test.YtbbjcgnoialidaaShelf
import Derived.WalkKit
import Derived.LoopTactic
import Derived.OwnWalk
import Derived.WalkLawsBesides
import Derived.WalkSpells
import Derived.Outline
import Derived.Below
set_option linter.unusedVariables false
namespace Go.Proofs.Ytbbjcgnoialidaa
open Go.RowKit

theorem count8_byte (c : UInt8) (w : World) :
    Calls Try.prog 50 #[.int .u8 c.toNat] w fun e w' => e = .returned (.int .i64 (popc c)) ∧ w = w' := by
  have := c.toNat_lt
  exact (Try.bits_OnesCount8 c.toNat w (by omega) (by omega)).mono fun e w' ⟨he, hw⟩ => ⟨by rw [he]; rfl, hw.symm⟩

set_option maxHeartbeats 400000 in
theorem ones_impl (s : ByteArray) (w : World) (hs : s.size ≤ 1073741824) :
    Calls Try.prog 22 #[.string s] w fun e w' => e = .returned (.int .i64 (ones s.data.toList)) ∧ w = w' := by
  go_enter Try.func22, Try.ntmps22
  go_wp2
  go_loop [3, 4, 7] (fun n _ i => ∃ k : Nat, k ≤ s.size ∧ i = .int .i64 k ∧ n = .int .i64 (ones (s.data.toList.take k))) (fun _ _ i => s.size - (intOf i).toNat)
  case atStart => exact ⟨0, Nat.zero_le _, rfl, rfl⟩
  case round =>
    obtain ⟨k, hk, rfl, rfl⟩ := hrel
    have hd := ones_take_bd s k
    by_cases hlt : k < s.size
    · have hp := popc_bd s[k]
      have HS := Lib.hid (ones_snoc s k hlt)
      go_wp2_with (go_at_call 50; refine (count8_byte _ _).mono ?_; rintro e w' ⟨rfl, rfl⟩)
      go_round
      case rel => exact ⟨k + 1, by omega, by go_num, by rw [HS.out]⟩
      case measure => simp [intOf]; omega
    · go_wp2
      go_ret
      exact ⟨ret_int (by rw [List.take_of_length_le (by simp; omega)]), rfl⟩

end Go.Proofs.Ytbbjcgnoialidaa
