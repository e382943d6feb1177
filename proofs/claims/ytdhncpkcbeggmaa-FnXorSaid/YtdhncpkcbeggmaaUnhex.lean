/-
  What spec.Unhex answers.
-/
import Derived.Test.YtdhncpkcbeggmaaProg
import Derived.Test.YtdhncpkcbeggmaaMath
import Derived.Test.YtdhncpkcbeggmaaShelf
import Derived.Test.YtdhncpkcbeggmaaKit
import Derived.Test.YtdhncpkcbeggmaaHex
import Derived.Test.YtdhncpkcbeggmaaLhex
import Derived.Test.YtdhncpkcbeggmaaUnhexMath
import Derived.Deep.QuietTactic
import Derived.BigQuiet
import Derived.IntWalk
import Derived.WalkKit
import Derived.LoopTactic
import Derived.OwnWalk
import Derived.WalkLawsBesides
import Derived.WalkSpells
import Derived.Outline
import Derived.Below
import Derived.Laws.AppendOwn
import Derived.Laws.OwnMore
import Derived.Deep.OwnRows
import Derived.Deep.RegionHeld3
import Derived.Deep.DrawnRows
import Derived.Deep.AppendLies
import Derived.Deep.DeepFit
import Derived.Handy
set_option linter.unusedVariables false
namespace Go.Proofs.Ytdhncpkcbeggmaa
open Go.RowKit

attribute [local go_sem ↓] Go.wp_at_zero Go.wp_at_succ

theorem un_drew {w : World} {base n size : Nat} {e : TypeId} {v : Value} {xs : List Value} (h : w.ownsRow base e size v n xs) (q : Nat) : (w.drewN q).ownsRow base e size v n xs := h
theorem un_rel {w w2 w1 : World} {k nq : Nat} {e : TypeId} {u v : Value} {o : Obj} {pre : List UInt8} {c : UInt8} {x : Int}
    (hown2 : w2.ownsRow w.heap.size e 1 u k (cells8 pre)) (hbel2 : Below w.heap.size w w2) (hx : x = (c.toNat : Int))
    (hown3 : w1.ownsRow w.heap.size e 1 v (k + 1) (cells8 pre ++ [.int .u8 x]))
    (hgrow : ((w2.drewN nq).alloc o).grownBy w1 u.ownBlock) :
    w1.ownsRow w.heap.size e 1 v (k + 1) (cells8 (pre ++ [c])) ∧ Below w.heap.size w w1 := by
  refine ⟨?_, ?_⟩
  · rw [cells8_append, show cells8 [c] = [.int .u8 x] by rw [hx]; rfl]
    exact hown3
  · have h1 : Below w.heap.size w ((w2.drewN nq).alloc o) := (below_drewN hbel2 nq).alloc hbel2.size _
    exact h1.grown hgrow h1.size (fun b hb => (hown2.lt b hb).1)
theorem un_ret {l : List UInt8} (h : unhexT l = [] ∧ unhexB l = false) : Ending.returned (.tuple #[.string ⟨#[]⟩, .bool false]) = .returned (.tuple #[.string ⟨(unhexT l).toArray⟩, .bool (unhexB l)]) := by rw [h.1, h.2]
theorem un_ret2 {l r : List UInt8} (h : unhexT l = r ∧ unhexB l = true) : Ending.returned (.tuple #[.string ⟨r.toArray⟩, .bool true]) = .returned (.tuple #[.string ⟨(unhexT l).toArray⟩, .bool (unhexB l)]) := by rw [h.1, h.2]

set_option maxRecDepth 100000 in
set_option maxHeartbeats 1600000 in
theorem unhex_spec (s : ByteArray) (w : World) (hs : s.size ≤ 1073741824) :
    Calls Try.prog 15 #[.string s] w fun e w' => e = .returned (.tuple #[.string ⟨(unhexT s.data.toList).toArray⟩, .bool (unhexB s.data.toList)]) ∧ Below w.heap.size w w' := by
  obtain ⟨i0, hi, hz0, hz1, hz2⟩ := info_parts Try.info5
  go_enter Try.func15, Try.ntmps15
  go_wp2
  go_loopw [4, 5, 6, 7] (fun v i _ _ wr => ∃ (m k : Nat) (pre : List UInt8), m ≤ s.size ∧ k ≤ m ∧ Hid (m = 2 * k) ∧ i = .int .i64 m ∧ wr.ownsRow w.heap.size 5 1 v k (cells8 pre) ∧ UnAt s m pre ∧ Below w.heap.size w wr) (fun _ i _ _ _ => s.size - (intOf i).toNat)
  case atStart => exact ⟨0, 0, [], Nat.zero_le _, Nat.zero_le _, Lib.hid rfl, rfl, World.ownsRow_lit w #[] 0 (Nat.le_refl _) (by simp [maxLen]) rfl, UnAt.start s, (Below.refl _ _).alloc (Nat.le_refl _) _⟩
  case round =>
    obtain ⟨m, k, pre, hm, hkm, hmk, rfl, hown, hun, hbel⟩ := hrel
    by_cases hlt : m + 1 < s.size
    · have hm' : m < s.size := by omega
      have hv1 := hexVal_bd (s[m]'hm')
      have hv2 := hexVal_bd (s[m + 1]'hlt)
      by_cases hab : 0 ≤ hexVal (s[m]'hm') ∧ 0 ≤ hexVal (s[m + 1]'hlt)
      · obtain ⟨ha, hb⟩ := hab
        have hun2 := hun.step hlt ha hb
        have HU := Lib.hid (unByte_val (s[m]'hm') (s[m + 1]'hlt) ha hb)
        have hm0 : (0 : Int) ≤ (m : Int) := by omega
        have hm2 : (m : Int) < (s.size : Int) := by omega
        have hm1 : (m : Int) + 1 < (s.size : Int) := by omega
        have hw0 : (0 : Int) ≤ (m : Int) + 1 := by omega
        have hw1 : ((m : Int) + 1).toNat = m + 1 := by omega
        have hw : IntKind.i64.wrap ((m : Int) + 1) = (m : Int) + 1 := IntWalk.i64_in _ (by omega)
        go_wp2
        go_quiet ((go_at_call 35; exact Calls.quiet_of_same (lhex_any _ _)))
        clear hw
        have HU2 : Hid (IntKind.u8.wrap (16 * hexVal (s[m]'hm') + hexVal (s[m + 1]'hlt)) = ((unByte (s[m]'hm') (s[m + 1]'hlt)).toNat : Int)) := Lib.hid (by rw [HU.out, IntKind.wrap_u8']; omega)
        go_wp2_with (at_builtin; refine stp ?_)
        refine unstp ?_
        refine wpList_append_lies _ rfl (.tmp 31) (.tmp 37) 22 rfl w.heap.size 5 i0 (.int .u8 0) 1 1 Try.underlying22 hi hz0 hz1 hz2 rfl (by decide) u4 k (cells8 pre) rfl ((un_drew hown nq).alloc _) ⟨wr.heap.size, 0, none⟩ 1 1 [.int .u8 (16 * hexVal (s[m]'hm') + hexVal (s[m + 1]'hlt))] rfl rfl (World.news_of_block (cs := #[.int .u8 (16 * hexVal (s[m]'hm') + hexVal (s[m + 1]'hlt))]) (heap_alloc_new (wr.drewN nq) _)) (by simp [Value.oneCell']) (by omega) (by unfold maxLen; omega) (by omega) (by have := hbel.size; simp; omega) (wr.heap.size + 1) (by simp) ?_
        intro g cap w1 hown3 hgrow hat hlt3
        have hrel := un_rel hown hbel HU.out.symm hown3 hgrow
        clear hown hbel hown3 hgrow hat hlt3 HU2 hun
        have HM : Hid (m + 2 = 2 * (k + 1)) := Lib.hid (by have := hmk.out; omega)
        go_wp2
        go_roundw
        case rel => exact ⟨m + 2, k + 1, _, by omega, by omega, HM, by go_num, hrel.1, hun2, hrel.2⟩
        case measure => simp [intOf]; omega
      · have hbad := Lib.hid (unhex_of_none (hun.bad hlt hab))
        have hm0 : (0 : Int) ≤ (m : Int) := by omega
        have hm2 : (m : Int) < (s.size : Int) := by omega
        have hm1 : (m : Int) + 1 < (s.size : Int) := by omega
        have hw0 : (0 : Int) ≤ (m : Int) + 1 := by omega
        have hw1 : ((m : Int) + 1).toNat = m + 1 := by omega
        by_cases ha : hexVal (s[m]'hm') < 0
        · have hw : IntKind.i64.wrap ((m : Int) + 1) = (m : Int) + 1 := IntWalk.i64_in _ (by omega)
          clear hab
          go_wp2
          go_quiet ((go_at_call 35; exact Calls.quiet_of_same (lhex_any _ _)))
          clear hw
          go_wp2
          go_ret2
          exact ⟨un_ret hbad.out, below_drewN hbel nq⟩
        · have hb : hexVal (s[m + 1]'hlt) < 0 := by omega
          have hw : IntKind.i64.wrap ((m : Int) + 1) = (m : Int) + 1 := IntWalk.i64_in _ (by omega)
          clear hab
          go_wp2
          go_quiet ((go_at_call 35; exact Calls.quiet_of_same (lhex_any _ _)))
          clear hw
          go_wp2
          go_ret2
          exact ⟨un_ret hbad.out, below_drewN hbel nq⟩
    · have hconv := run_string_own Try.underlying22 Try.underlying5 Try.underlying9 hown
      have h2 := hmk.out
      by_cases hsz : s.size = m
      · have hdone := Lib.hid (unhex_of_some (hun.done (by omega)))
        have hmod : (s.size : Int) % 2 = 0 := by omega
        clear h2 hsz
        go_wp2
        go_ret2
        exact ⟨un_ret2 hdone.out, hbel⟩
      · have hbad := Lib.hid (unhex_of_none (hun.odd (by omega)))
        have hmod : (s.size : Int) % 2 = 1 := by omega
        clear h2 hsz
        go_wp2
        go_ret2
        exact ⟨un_ret hbad.out, hbel⟩
end Go.Proofs.Ytdhncpkcbeggmaa
