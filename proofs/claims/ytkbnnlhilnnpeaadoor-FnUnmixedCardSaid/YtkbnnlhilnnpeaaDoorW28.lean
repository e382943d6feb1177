/-
  The walk of laws.FnExactUnmixed.
-/
import Derived.Test.YtkbnnlhilnnpeaaDoorRows
import Derived.Test.YtkbnnlhilnnpeaaDoorW24
import Derived.Test.YtkbnnlhilnnpeaaDoorUnmix
import Derived.WalkKit
import Derived.LoopTactic
import Derived.OwnWalk
import Derived.WalkLawsBesides
import Derived.WalkSpells
import Derived.Outline
import Derived.Below
import Derived.Lib.LaidTab
set_option linter.unusedVariables false
namespace Go.Proofs.YtkbnnlhilnnpeaaDoor
open Go.RowKit

theorem gUnF : Tryd.prog.globalNamed "loop.example/g00835/impl.unmixFactors" = some 1 := by kernel_rfl
theorem facts_FnExactUnmixed {W : World} (h : laidMetH Tryd.prog Rows.fnExactUnmixedRow.laid W) : UnF W := by
  have h' : laidMet Tryd.prog [("loop.example/g00835/impl.unmixFactors", Lib.tabData .u8 [14, 9, 13, 11])] W := h
  have t : Lib.TabIs Tryd.prog W "loop.example/g00835/impl.unmixFactors" .u8 [14, 9, 13, 11] := Lib.tabIs_of_head (zs := [14, 9, 13, 11]) (rest := []) gUnF (t := 65) (e := 5) (n := 4) (by kernel_rfl) Tryd.underlying65 Tryd.underlying5 (by kernel_rfl) (by kernel_rfl) h'
  have c0 : W.cell? ⟨1, 0, none⟩ = some (.int .u8 ((unF 0).toNat : Int)) := t.cell gUnF 0 (by simp)
  have c1 : W.cell? ⟨1, 1, none⟩ = some (.int .u8 ((unF 1).toNat : Int)) := t.cell gUnF 1 (by simp)
  have c2 : W.cell? ⟨1, 2, none⟩ = some (.int .u8 ((unF 2).toNat : Int)) := t.cell gUnF 2 (by simp)
  have c3 : W.cell? ⟨1, 3, none⟩ = some (.int .u8 ((unF 3).toNat : Int)) := t.cell gUnF 3 (by simp)
  exact ⟨World.block_lt_of_cell? W _ c0, c0, c1, c2, c3⟩
theorem unInts_len (s : ByteArray) : (unInts s).length ≤ 1000 := by
  by_cases h : kOk s
  · obtain ⟨n, hn⟩ := h.of
    rw [unInts_of s n hn, nums_length, upTo_length]
    have := hn.le
    unfold kL; omega
  · rw [unInts_no s h]; simp
set_option maxRecDepth 100000 in
set_option maxHeartbeats 1600000 in
theorem walk_FnExactUnmixed (a0 : ByteArray) (w0 : a0.size ≤ maxLen) (w : World) (hf : UnF w) :
    Calls Tryd.prog 8 #[.string a0] w fun e w' => e = .returned (.bool true) ∧ Below w.heap.size w w' := by
  unfold maxLen at w0
  by_cases hs : 1048576 < a0.size
  · go_enter Tryd.func8, Tryd.ntmps8
    go_wp2
    go_ret
    exact ⟨rfl, Below.refl _ _⟩
  · have H1 := fun W => Lib.hid (Unmixed_spec a0 W)
    have H2 := fun W hW => Lib.hid (Unmixed_impl a0 W hW)
    have HUF : Hid (∀ W, Below w.heap.size w W → UnF W) := Lib.hid (fun W hW => Fac4.below hf hW hf.1)
    have hn := unInts_len a0
    generalize unInts a0 = l at *
    obtain ⟨n, hN⟩ : ∃ n, l.length = n := ⟨_, rfl⟩
    have O1 : Hid (∀ {e : Ending} {W W' : World}, OwnInts W l e W' → ∃ A c, e = .returned (.slice A n c) ∧ W'.ownsRow W.heap.size 3 1 (.slice A n c) n (cells64 l) ∧ IRow W' A n l ∧ n ≤ c ∧ c ≤ 9223372036854775807 ∧ Below W.heap.size W W') := Lib.hid (fun h => by rw [← hN]; exact OwnInts.open h)
    rw [hN] at hn
    have M1 := fun W B A c h => Lib.hid (marki_any W B A n c 1 l h (by omega) (by omega))
    have M2 := fun W A c h => Lib.hid (heldi_any W A n c 1 h (by omega) (by omega))
    have E1 := fun W A A' c c' h h' => Lib.hid (eqi_any W A A' n c c' l h h' (by omega))
    clear hN hf
    have hn2 : (n : Int) ≤ 1000 := by omega
    go_enter Tryd.func8, Tryd.ntmps8
    go_wp2_with fail
    refine (H1 _).out.mono ?_; rintro e w1 ho1
    obtain ⟨A1, c1, rfl, hown1, hr1, hc1, hcm1, hb1⟩ := O1.out ho1
    go_wp2_with fail
    refine (H2 _ (HUF.out _ hb1)).out.mono ?_; rintro e w2 ho2
    obtain ⟨A2, c2, rfl, hown2, hr2, hc2, hcm2, hb2⟩ := O1.out ho2
    have L1 := Lib.hid (own_low hown1)
    have Z1 := Lib.hid hb1.size
    have R1 := Lib.hid (hr1.below hb2)
    have B2 := Lib.hid (hb1.trans (hb2.mono hb1.size))
    have O2 := Lib.hid hown2
    have E := fun k => Lib.hid (E1 (w2.drewN k) A2 A1 c2 c1 (hr2.drewN k) (R1.out.drewN k))
    have S2 := Lib.hid hb2
    clear ho1 ho2 hown1 hr1 hb1 hown2 hr2 hb2
    go_wp2_with fail
    refine (E 0).out.mono ?_; rintro e w3 ⟨rfl, k3, rfl⟩
    have C := Lib.hid ((M1 ((w2.drewN 0).drewN k3) w1.heap.size A2 c2 O2.out).out)
    clear E
    go_wp2_with fail
    refine C.out.mono ?_; rintro e w4 ⟨rfl, hown4, hb4⟩
    have hb24 : Below w1.heap.size w2 w4 := ⟨hb4.os, hb4.tape, hb4.output, hb4.size, hb4.block⟩
    have R4 := Lib.hid (R1.out.up L1.out hb24)
    have B4 := Lib.hid (B2.out.trans (hb24.mono Z1.out))
    have I4 := Lib.hid (own_irow hown4)
    clear hown4 hb4 hb24 C
    go_wp2_with fail
    refine (M2 _ _ _ I4.out).out.mono ?_; rintro e w' ⟨rfl, rfl⟩
    go_wp2_with fail
    refine (H2 _ (HUF.out _ B4.out)).out.mono ?_; rintro e w5 ho5
    obtain ⟨A5, c5, rfl, hown5, hr5, hc5, hcm5, hb5⟩ := O1.out ho5
    have R5 := Lib.hid (R4.out.below hb5)
    have B5 := Lib.hid (B4.out.trans (hb5.mono B4.out.size))
    have I5 := Lib.hid (I4.out.below hb5)
    have E := Lib.hid (E1 w5 A5 A1 c5 c1 hr5 R5.out)
    clear ho5 hown5 hr5 hb5
    go_wp2_with fail
    refine E.out.out.mono ?_; rintro e w6 ⟨rfl, k6, rfl⟩
    have I6 := Lib.hid (M2 (w5.drewN k6) A2 c2 (I5.out.drewN k6))
    go_wp2_with fail
    refine I6.out.out.mono ?_; rintro e w' ⟨rfl, rfl⟩
    go_wp2
    go_ret
    exact ⟨rfl, below_drewN B5.out _⟩
end Go.Proofs.YtkbnnlhilnnpeaaDoor
