/-
  The walks of laws.FnExactKeyOk, Rounds, RoundKey and Expand.
-/
import Derived.Test.YtioijcgokdnofaaKeyK
import Derived.Test.YtioijcgokdnofaaKeyT
import Derived.Test.YtioijcgokdnofaaIntMarks
import Derived.WalkKit
import Derived.LoopTactic
import Derived.OwnWalk
import Derived.WalkLawsBesides
import Derived.WalkSpells
import Derived.Outline
import Derived.Below
set_option linter.unusedVariables false
namespace Go.Proofs.Ytioijcgokdnofaa
open Go.RowKit

set_option maxHeartbeats 400000 in
theorem walk_FnExactKeyOk (a0 : ByteArray) (w0 : a0.size ≤ maxLen) (w : World) :
    Calls Try.prog 11 #[.string a0] w fun e w' => e = .returned (.bool true) ∧ Below w.heap.size w w' := by
  unfold maxLen at w0
  by_cases hs : 1048576 < a0.size
  · go_enter Try.func11, Try.ntmps11
    go_wp2
    go_ret
    exact ⟨rfl, Below.refl _ _⟩
  · have H1 := fun W => Lib.hid (KeyOk_spec a0 W)
    have H2 := fun W => Lib.hid (KeyOk_impl a0 W)
    generalize decide (kOk a0) = b at *
    go_enter Try.func11, Try.ntmps11
    go_wp2_with fail
    refine (H1 _).out.mono ?_; rintro e w1 ⟨rfl, rfl⟩
    go_wp2_with fail
    refine (H2 _).out.mono ?_; rintro e w1 ⟨rfl, rfl⟩
    go_wp2
    go_ret
    exact ⟨rfl, Below.refl _ _⟩
set_option maxHeartbeats 400000 in
theorem walk_FnExactRounds (a0 : ByteArray) (w0 : a0.size ≤ maxLen) (w : World) :
    Calls Try.prog 12 #[.string a0] w fun e w' => e = .returned (.bool true) ∧ Below w.heap.size w w' := by
  unfold maxLen at w0
  by_cases hs : 1048576 < a0.size
  · go_enter Try.func12, Try.ntmps12
    go_wp2
    go_ret
    exact ⟨rfl, Below.refl _ _⟩
  · have H1 := fun W => Lib.hid (Rounds_spec a0 W)
    have H2 := fun W => Lib.hid (Rounds_impl a0 W)
    generalize kRi a0 = b at *
    go_enter Try.func12, Try.ntmps12
    go_wp2_with fail
    refine (H1 _).out.mono ?_; rintro e w1 ⟨rfl, rfl⟩
    go_wp2_with fail
    refine (H2 _).out.mono ?_; rintro e w1 ⟨rfl, rfl⟩
    go_wp2
    go_ret
    exact ⟨rfl, Below.refl _ _⟩
set_option maxHeartbeats 400000 in
theorem walk_FnExactRoundKey (a0 : ByteArray) (a1 : Int) (w0 : a0.size ≤ maxLen) (w1 : (Lit.int .i64 a1).wf = true) (w : World) :
    Calls Try.prog 14 #[.string a0, .int .i64 a1] w fun e w' => e = .returned (.bool true) ∧ Below w.heap.size w w' := by
  unfold maxLen at w0
  clear w1
  by_cases hs : 1048576 < a0.size
  · go_enter Try.func14, Try.ntmps14
    go_wp2
    go_ret
    exact ⟨rfl, Below.refl _ _⟩
  · have H1 := fun W => Lib.hid (RoundKey_spec a0 a1 W)
    have H2 := fun W => Lib.hid (RoundKey_impl a0 a1 W)
    generalize rkT a0 a1 = b at *
    go_enter Try.func14, Try.ntmps14
    go_wp2_with fail
    refine (H1 _).out.mono ?_; rintro e w1 ⟨rfl, hb1⟩
    go_wp2_with fail
    refine (H2 _).out.mono ?_; rintro e w2 ⟨rfl, hb2⟩
    have hb := hb1.trans (hb2.mono hb1.size)
    clear hb1 hb2
    go_wp2
    go_ret
    exact ⟨rfl, hb⟩
theorem exInts_len (s : ByteArray) : (exInts s).length ≤ 1000 := by
  by_cases h : kOk s
  · obtain ⟨n, hn⟩ := h.of
    rw [exInts_of s n hn, nums_length, upTo_length]
    have := hn.le
    unfold kL; omega
  · rw [exInts_no s h]; simp
/-- A list of the call's own, as a slice: it can be read, and it can be written. -/
theorem OwnInts.open {w : World} {l : List Int} {e : Ending} {w' : World} (h : OwnInts w l e w') : ∃ A c, e = .returned (.slice A l.length c) ∧ w'.ownsRow w.heap.size 3 1 (.slice A l.length c) l.length (cells64 l) ∧ IRow w' A l.length l ∧ l.length ≤ c ∧ c ≤ 9223372036854775807 ∧ Below w.heap.size w w' := by
  obtain ⟨v, rfl, hown, hb⟩ := h
  obtain ⟨A, c, rfl, h1, h2⟩ := own_slice64 hown
  exact ⟨A, c, rfl, hown, own_irow hown, h1, h2, hb⟩
theorem IRow.up {w w' : World} {B n : Nat} {A : Option Addr} {l : List Int} (h : IRow w A n l) (hlt : ∀ a, A = some a → a.block < B) (hb : Below B w w') : IRow w' A n l :=
  ⟨h.1, fun j hj => by
    obtain ⟨b, o, hA, hg, hc⟩ := h.2 j hj
    have := hlt _ hA
    exact ⟨b, o, hA, Nat.lt_of_lt_of_le hg hb.size, (hb.cell (p := ⟨b, o + j, none⟩) this).trans hc⟩⟩
theorem own_low {w : World} {B n c : Nat} {A : Option Addr} {e : TypeId} {xs : List Value} (h : w.ownsRow B e 1 (.slice A n c) n xs) : ∀ a, A = some a → a.block < w.heap.size := fun a ha => by
  subst ha; exact (h.lt a.block rfl).2
set_option maxRecDepth 100000 in
set_option maxHeartbeats 1600000 in
theorem walk_FnExactExpand (a0 : ByteArray) (w0 : a0.size ≤ maxLen) (w : World) :
    Calls Try.prog 13 #[.string a0] w fun e w' => e = .returned (.bool true) ∧ Below w.heap.size w w' := by
  unfold maxLen at w0
  by_cases hs : 1048576 < a0.size
  · go_enter Try.func13, Try.ntmps13
    go_wp2
    go_ret
    exact ⟨rfl, Below.refl _ _⟩
  · have H1 := fun W => Lib.hid (Expand_spec a0 W)
    have H2 := fun W => Lib.hid (Expand_impl a0 W)
    have hn := exInts_len a0
    generalize exInts a0 = l at *
    obtain ⟨n, hN⟩ : ∃ n, l.length = n := ⟨_, rfl⟩
    have O1 : Hid (∀ {e : Ending} {W W' : World}, OwnInts W l e W' → ∃ A c, e = .returned (.slice A n c) ∧ W'.ownsRow W.heap.size 3 1 (.slice A n c) n (cells64 l) ∧ IRow W' A n l ∧ n ≤ c ∧ c ≤ 9223372036854775807 ∧ Below W.heap.size W W') := Lib.hid (fun h => by rw [← hN]; exact OwnInts.open h)
    rw [hN] at hn
    have M1 := fun W B A c h => Lib.hid (marki_any W B A n c 1 l h (by omega) (by omega))
    have M2 := fun W A c h => Lib.hid (heldi_any W A n c 1 h (by omega) (by omega))
    have E1 := fun W A A' c c' h h' => Lib.hid (eqi_any W A A' n c c' l h h' (by omega))
    clear hN
    have hn2 : (n : Int) ≤ 1000 := by omega
    go_enter Try.func13, Try.ntmps13
    go_wp2_with fail
    refine (H1 _).out.mono ?_; rintro e w1 ho1
    obtain ⟨A1, c1, rfl, hown1, hr1, hc1, hcm1, hb1⟩ := O1.out ho1
    go_wp2_with fail
    refine (H2 _).out.mono ?_; rintro e w2 ho2
    obtain ⟨A2, c2, rfl, hown2, hr2, hc2, hcm2, hb2⟩ := O1.out ho2
    have L1 := Lib.hid (own_low hown1)
    have Z1 := Lib.hid hb1.size
    have R1 := Lib.hid (hr1.below hb2)
    have B2 := Lib.hid (hb1.trans (hb2.mono hb1.size))
    have O2 := Lib.hid hown2
    have E := fun k => Lib.hid (E1 (w2.drewN k) A2 A1 c2 c1 (hr2.drewN k) (R1.out.drewN k))
    have S2 := Lib.hid hb2
    clear ho1 ho2 hown1 hr1 hb1 hown2 hr2 hb2
    go_wp2_with fail
    refine (E 0).out.mono ?_; rintro e w3 ⟨rfl, k3, rfl⟩
    have C := Lib.hid ((M1 ((w2.drewN 0).drewN k3) w1.heap.size A2 c2 O2.out).out)
    clear E
    go_wp2_with fail
    refine C.out.mono ?_; rintro e w4 ⟨rfl, hown4, hb4⟩
    have hb24 : Below w1.heap.size w2 w4 := ⟨hb4.os, hb4.tape, hb4.output, hb4.size, hb4.block⟩
    have R4 := Lib.hid (R1.out.up L1.out hb24)
    have B4 := Lib.hid (B2.out.trans (hb24.mono Z1.out))
    have I4 := Lib.hid (own_irow hown4)
    clear hown4 hb4 hb24 C
    go_wp2_with fail
    refine (M2 _ _ _ I4.out).out.mono ?_; rintro e w' ⟨rfl, rfl⟩
    go_wp2_with fail
    refine (H2 _).out.mono ?_; rintro e w5 ho5
    obtain ⟨A5, c5, rfl, hown5, hr5, hc5, hcm5, hb5⟩ := O1.out ho5
    have R5 := Lib.hid (R4.out.below hb5)
    have B5 := Lib.hid (B4.out.trans (hb5.mono B4.out.size))
    have I5 := Lib.hid (I4.out.below hb5)
    have E := Lib.hid (E1 w5 A5 A1 c5 c1 hr5 R5.out)
    clear ho5 hown5 hr5 hb5
    go_wp2_with fail
    refine E.out.out.mono ?_; rintro e w6 ⟨rfl, k6, rfl⟩
    have I6 := Lib.hid (M2 (w5.drewN k6) A2 c2 (I5.out.drewN k6))
    go_wp2_with fail
    refine I6.out.out.mono ?_; rintro e w' ⟨rfl, rfl⟩
    go_wp2
    go_ret
    exact ⟨rfl, below_drewN B5.out _⟩
end Go.Proofs.Ytioijcgokdnofaa
