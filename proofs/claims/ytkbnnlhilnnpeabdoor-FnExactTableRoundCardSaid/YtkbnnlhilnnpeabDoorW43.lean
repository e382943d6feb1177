/-
  The walk of laws.FnExactTableRound.
-/
import Derived.Test.YtkbnnlhilnnpeabDoorTabLaid
import Derived.Test.YtkbnnlhilnnpeabDoorTabR
import Derived.Test.YtkbnnlhilnnpeabDoorTableT
import Derived.Test.YtkbnnlhilnnpeabDoorIntOwn
import Derived.Test.YtkbnnlhilnnpeabDoorW24
set_option linter.unusedVariables false
set_option linter.unusedSimpArgs false
namespace Go.Proofs.YtkbnnlhilnnpeabDoor
open Go.RowKit

theorem facts_FnExactTableRound {W : World} (h : laidMetH Tryd.prog Rows.fnExactTableRoundRow.laid W) : Fac4 W 0 mxF := Mx8_laid h
theorem roundI_len (a b : List Int) : (roundI a b).length ≤ 4 := by
  by_cases h : a.length = 4 ∧ b.length = 4
  · rw [roundI_yes a b h.1 h.2, nums_length, upTo_length]; omega
  · rw [roundI_no a b h]; simp
set_option maxRecDepth 100000 in
set_option maxHeartbeats 6400000 in
theorem walk_FnExactTableRound (a0 : Option Addr) (len0 cap0 : Nat) (z0 : List Int) (a1 : Option Addr) (len1 cap1 : Nat) (z1 : List Int) (w : World) (w0 : IsRow .i64 w a0 len0 cap0 z0) (w1 : IsRow .i64 w a1 len1 cap1 z1) (hf : Fac4 w 0 mxF) :
    Calls Tryd.prog 3 #[.slice a0 len0 cap0, .slice a1 len1 cap1] w fun e w' => e = .returned (.bool true) ∧ Below w.heap.size w w' := by
  obtain ⟨h1, h2, h3⟩ := irow8 w0
  obtain ⟨k1, k2, k3⟩ := irow8 w1
  generalize z0.take len0 = p at *
  generalize z1.take len1 = q at *
  have P0 := Lib.hid h1
  have Q0 := Lib.hid k1
  clear w0 w1 h1 k1
  have HF : Hid (∀ W, Below w.heap.size w W → Fac4 W 0 mxF) := Lib.hid (fun W hW => hf.below hW hf.1)
  clear hf
  by_cases hs : 1048576 < len0
  · have hs' : (1048576 : Int) < (len0 : Int) := by omega
    go_enter Tryd.func3, Tryd.ntmps3
    go_wp2
    go_ret
    exact ⟨rfl, Below.refl _ _⟩
  by_cases hs2 : 1048576 < len1
  · have hs' : ¬ (1048576 : Int) < (len0 : Int) := by omega
    have hs3 : (1048576 : Int) < (len1 : Int) := by omega
    go_enter Tryd.func3, Tryd.ntmps3
    go_wp2
    go_ret
    exact ⟨rfl, Below.refl _ _⟩
  have hs' : ¬ (1048576 : Int) < (len0 : Int) := by omega
  have hs3 : ¬ (1048576 : Int) < (len1 : Int) := by omega
  have hL0 : len0 ≤ 1048576 := by omega
  have hL1 : len1 ≤ 1048576 := by omega
  have hlen := roundI_len p q
  have HI := fun A B ca cb W hA hB hW => Lib.hid (TableRound_impl A B len0 len1 ca cb p q W hA hB (HF.out W hW))
  have HS := fun A B ca cb W hA hB => Lib.hid (TableRound_spec_any A B len0 len1 ca cb p q W hA hB)
  generalize roundI p q = l at *
  obtain ⟨n, hN⟩ : ∃ n, l.length = n := ⟨_, rfl⟩
  have O1 : Hid (∀ {e : Ending} {W W' : World}, OwnInts W l e W' → ∃ A c, e = .returned (.slice A n c) ∧ W'.ownsRow W.heap.size 3 1 (.slice A n c) n (cells64 l) ∧ IRow W' A n l ∧ n ≤ c ∧ c ≤ 9223372036854775807 ∧ Below W.heap.size W W') := Lib.hid (fun h => by rw [← hN]; exact OwnInts.open h)
  rw [hN] at hlen
  have M1 := fun W B A c h => Lib.hid (marki_any W B A n c 1 l h (by omega) (by omega))
  have M2 := fun W A c h => Lib.hid (heldi_any W A n c 1 h (by omega) (by omega))
  have E1 := fun W A A' c c' h h' => Lib.hid (eqi_any W A A' n c c' l h h' (by omega))
  have T0 := fun W A c h => Lib.hid (toints_any W A len0 c p h hL0)
  have T1 := fun W A c h => Lib.hid (toints_any W A len1 c q h hL1)
  have U0 := fun W A c h => Lib.hid (toints_own W A len0 c p h hL0)
  have U1 := fun W A c h => Lib.hid (toints_own W A len1 c q h hL1)
  have EP := fun W A A' c c' h h' => Lib.hid (eqi_any W A A' len0 c c' p h h' (by omega))
  have EQ := fun W A A' c c' h h' => Lib.hid (eqi_any W A A' len1 c c' q h h' (by omega))
  have HL0 := Lib.hid hL0
  have HL1 := Lib.hid hL1
  have hn2 : (n : Int) ≤ 4 := by omega
  clear hN hs hs2 hL0 hL1 hlen
  go_enter Tryd.func3, Tryd.ntmps3
  go_wp2_with fail
  refine (T0 _ _ _ P0.out).out.mono ?_; rintro e wa ⟨rfl, ra, ba⟩
  have Ra := Lib.hid ra
  have Ba := Lib.hid ba
  clear ra ba
  go_wp2_with fail
  refine (T1 _ _ _ (Q0.out.below Ba.out)).out.mono ?_; rintro e wb ⟨rfl, rb, bb⟩
  have Ra2 := Lib.hid (Ra.out.below bb)
  have Rb := Lib.hid rb
  have Bb := Lib.hid (Ba.out.trans (bb.mono Ba.out.size))
  clear rb bb
  go_wp2_with fail
  refine (HS _ _ _ _ _ Ra2.out Rb.out).out.mono ?_; rintro e wc ho
  obtain ⟨A0, c0, rfl, own0, r0, hc0, hcm0, b0⟩ := O1.out ho
  have W0 : Hid (Rw wc (.slice A0 n c0) n l) := Lib.hid ⟨_, own0⟩
  have Bc := Lib.hid (Bb.out.trans (b0.mono Bb.out.size))
  clear ho own0 r0 b0 Ra2 Rb Ra Ba Bb
  go_wp2_with fail
  refine (U0 _ _ _ (P0.out.below Bc.out)).out.mono ?_; rintro e wd ⟨rfl, ownx, bx⟩
  have X0 : Hid (Rw wd (.slice (some ⟨wc.heap.size, 0, none⟩) len0 len0) len0 p) := Lib.hid ⟨_, ownx⟩
  have N0 : Hid ((Value.slice A0 n c0).ownBlock ≠ some wc.heap.size) := Lib.hid W0.out.ne
  have W1 := Lib.hid (W0.out.below bx)
  have Bd := Lib.hid (Bc.out.trans (bx.mono Bc.out.size))
  have Zx := Lib.hid (X0.out.lt _ rfl)
  clear ownx bx W0
  go_wp2_with fail
  refine (U1 _ _ _ (Q0.out.below Bd.out)).out.mono ?_; rintro e we ⟨rfl, owny, by1⟩
  have Y0 : Hid (Rw we (.slice (some ⟨wd.heap.size, 0, none⟩) len1 len1) len1 q) := Lib.hid ⟨_, owny⟩
  have N1 : Hid ((Value.slice A0 n c0).ownBlock ≠ some wd.heap.size) := Lib.hid W1.out.ne
  have W2 := Lib.hid (W1.out.below by1)
  have X1 := Lib.hid (X0.out.below by1)
  have Be := Lib.hid (Bd.out.trans (by1.mono Bd.out.size))
  have Zy := Lib.hid (Y0.out.lt _ rfl)
  have Zxy : Hid (wc.heap.size < wd.heap.size) := Zx
  clear owny by1 W1 X0
  go_wp2_with fail
  refine (HI _ _ _ _ _ X1.out.irow Y0.out.irow Be.out).out.mono ?_; rintro e wg ho
  obtain ⟨A3, c3, rfl, own3, r3, hc3, hcm3, b3⟩ := O1.out ho
  have G3 : Hid (Rw wg (.slice A3 n c3) n l) := Lib.hid ⟨_, own3⟩
  have N2 : Hid ((Value.slice A3 n c3).ownBlock ≠ some wc.heap.size) := Lib.hid (own_ne own3 (by have := Zxy.out; have := Zy.out; omega))
  have N3 : Hid ((Value.slice A3 n c3).ownBlock ≠ some wd.heap.size) := Lib.hid (own_ne own3 Zy.out)
  have NG : Hid (∀ b, (Value.slice A3 n c3).ownBlock = some b → we.heap.size ≤ b) := Lib.hid (fun b hb => (own3.lt b hb).1)
  have NW : Hid (∀ b, (Value.slice A3 n c3).ownBlock = some b → (Value.slice A0 n c0).ownBlock ≠ some b) := Lib.hid (fun b hb e => by have := W2.out.lt _ e; have := (own3.lt b hb).1; omega)
  have W3 := Lib.hid (W2.out.below b3)
  have X2 := Lib.hid (X1.out.below b3)
  have Y1 := Lib.hid (Y0.out.below b3)
  have Bg := Lib.hid (Be.out.trans (b3.mono Be.out.size))
  have Sg := Lib.hid b3.size
  clear ho own3 r3 b3 W2 X1 Y0
  go_wp2_with fail
  refine (E1 _ _ _ _ _ G3.out.irow W3.out.irow).out.mono ?_; rintro e w' ⟨rfl, j1, rfl⟩
  have Bh := Lib.hid (below_drewN Bg.out j1)
  have G4 := Lib.hid (G3.out.drewN j1)
  have W4 := Lib.hid (W3.out.drewN j1)
  have X3 := Lib.hid (X2.out.drewN j1)
  have Y2 := Lib.hid (Y1.out.drewN j1)
  have Sh : Hid (we.heap.size ≤ (wg.drewN j1).heap.size) := Sg
  clear G3 W3 X2 Y1 Bg Sg
  generalize wg.drewN j1 = wh at *
  go_wp2_with fail
  refine (T0 _ _ _ (P0.out.below Bh.out)).out.mono ?_; rintro e wi ⟨rfl, ri, bi⟩
  have Ri := Lib.hid ri
  have Bi := Lib.hid (Bh.out.trans (bi.mono Bh.out.size))
  have G5 := Lib.hid (G4.out.below bi)
  have W5 := Lib.hid (W4.out.below bi)
  have X4 := Lib.hid (X3.out.below bi)
  have Y3 := Lib.hid (Y2.out.below bi)
  clear ri bi G4 W4 X3 Y2
  go_wp2_with fail
  refine (EP _ _ _ _ _ X4.out.irow Ri.out).out.mono ?_; rintro e w' ⟨rfl, j2, rfl⟩
  have Bj := Lib.hid (below_drewN Bi.out j2)
  have G6 := Lib.hid (G5.out.drewN j2)
  have W6 := Lib.hid (W5.out.drewN j2)
  have X5 := Lib.hid (X4.out.drewN j2)
  have Y4 := Lib.hid (Y3.out.drewN j2)
  clear G5 W5 X4 Y3 Bi Ri
  generalize wi.drewN j2 = wj at *
  go_wp2_with fail
  refine (T1 _ _ _ (Q0.out.below Bj.out)).out.mono ?_; rintro e wk ⟨rfl, rk, bk⟩
  have Rk := Lib.hid rk
  have Bk := Lib.hid (Bj.out.trans (bk.mono Bj.out.size))
  have G7 := Lib.hid (G6.out.below bk)
  have W7 := Lib.hid (W6.out.below bk)
  have X6 := Lib.hid (X5.out.below bk)
  have Y5 := Lib.hid (Y4.out.below bk)
  clear rk bk G6 W6 X5 Y4
  go_wp2_with fail
  refine (EQ _ _ _ _ _ Y5.out.irow Rk.out).out.mono ?_; rintro e w' ⟨rfl, j3, rfl⟩
  have Bl := Lib.hid (below_drewN Bk.out j3)
  have G8 := Lib.hid (G7.out.drewN j3)
  have W8 := Lib.hid (W7.out.drewN j3)
  have X7 := Lib.hid (X6.out.drewN j3)
  have Y6 := Lib.hid (Y5.out.drewN j3)
  clear G7 W7 X6 Y5 Bk Rk
  generalize wk.drewN j3 = wl at *
  obtain ⟨bx, ownX⟩ := X7.out
  have MX := Lib.hid (marki_own wl bx wc.heap.size len0 len0 1 p ownX HL0.out (by omega))
  have Nxy : Hid (wd.heap.size ≠ wc.heap.size) := Lib.hid (by have := Zxy.out; omega)
  have NY : Hid ((Value.slice (some ⟨wd.heap.size, 0, none⟩) len1 len1).ownBlock ≠ some wc.heap.size) := Lib.hid (fun e => Nxy.out (by injection e))
  clear ownX
  go_wp2_with fail
  refine MX.out.mono ?_; rintro e wm ⟨rfl, -, hg⟩
  have G9 := Lib.hid (G8.out.kept hg N2.out)
  have W9 := Lib.hid (W8.out.kept hg N0.out)
  have Y7 := Lib.hid (Y6.out.kept hg NY.out)
  have Bm := Lib.hid (below_only Bl.out hg (by have := Bc.out.size; omega) Bl.out.size)
  clear hg MX X7 G8 W8 Y6
  obtain ⟨by2, ownY⟩ := Y7.out
  have MY := Lib.hid (marki_own wm by2 wd.heap.size len1 len1 (1 + len0) q ownY HL1.out (by have := HL0.out; omega))
  have hk8 : ((1 + len0 : Nat) : Int) = 1 + (len0 : Int) := by omega
  have hk9 : ((1 + len0 + len1 : Nat) : Int) = 1 + (len0 : Int) + (len1 : Int) := by omega
  have hneg : ¬ (1 + (len0 : Int) + (len1 : Int)) < 0 := by omega
  rw [hk8, hk9] at MY
  clear ownY hk8 hk9
  go_wp2_with fail
  refine MY.out.mono ?_; rintro e wn ⟨rfl, -, hg⟩
  have G10 := Lib.hid (G9.out.kept hg N3.out)
  have W10 := Lib.hid (W9.out.kept hg N1.out)
  have Bn := Lib.hid (below_only Bm.out hg (by have := Bd.out.size; omega) Bm.out.size)
  clear hg MY G9 W9 Y7
  go_wp2_with fail
  refine (E1 _ _ _ _ _ G10.out.irow W10.out.irow).out.mono ?_; rintro e w' ⟨rfl, j4, rfl⟩
  have Bo := Lib.hid (below_drewN Bn.out j4)
  have G11 := Lib.hid (G10.out.drewN j4)
  have W11 := Lib.hid (W10.out.drewN j4)
  clear G10 W10 Bn hneg
  generalize wn.drewN j4 = wo at *
  have MG := Lib.hid (marki_keep wo A3 n c3 1 l G11.out (by omega) (by omega) (.slice A0 n c0) n l W11.out NW.out w.heap.size Bo.out.size (fun b hb => Nat.le_trans Be.out.size (NG.out b hb)))
  clear G11 W11
  go_wp2_with fail
  refine MG.out.mono ?_; rintro e wp ⟨rfl, g12, w12, hb⟩
  have G12 := Lib.hid g12
  have W12 := Lib.hid w12
  have Bp := Lib.hid (Bo.out.trans hb)
  clear g12 w12 hb MG
  go_wp2_with fail
  refine (M2 _ _ _ G12.out.irow).out.mono ?_; rintro e w' ⟨rfl, rfl⟩
  go_wp2_with fail
  refine (T0 _ _ _ (P0.out.below Bp.out)).out.mono ?_; rintro e wq ⟨rfl, rq, bq⟩
  have Rq := Lib.hid rq
  have Bq := Lib.hid (Bp.out.trans (bq.mono Bp.out.size))
  have G13 := Lib.hid (G12.out.below bq)
  have W13 := Lib.hid (W12.out.below bq)
  clear rq bq G12 W12
  go_wp2_with fail
  refine (T1 _ _ _ (Q0.out.below Bq.out)).out.mono ?_; rintro e wr2 ⟨rfl, rr, br⟩
  have Rq2 := Lib.hid (Rq.out.below br)
  have Rr := Lib.hid rr
  have Br := Lib.hid (Bq.out.trans (br.mono Bq.out.size))
  have G14 := Lib.hid (G13.out.below br)
  have W14 := Lib.hid (W13.out.below br)
  clear rr br G13 W13 Rq
  go_wp2_with fail
  refine (HI _ _ _ _ _ Rq2.out Rr.out Br.out).out.mono ?_; rintro e ws ho
  obtain ⟨A5, c5, rfl, own5, r5, hc5, hcm5, b5⟩ := O1.out ho
  have R5 := Lib.hid r5
  have G15 := Lib.hid (G14.out.below b5)
  have W15 := Lib.hid (W14.out.below b5)
  have Bs := Lib.hid (Br.out.trans (b5.mono Br.out.size))
  clear ho own5 r5 b5 G14 W14
  go_wp2_with fail
  refine (E1 _ _ _ _ _ R5.out W15.out.irow).out.mono ?_; rintro e w' ⟨rfl, j5, rfl⟩
  have Bt := Lib.hid (below_drewN Bs.out j5)
  have G16 := Lib.hid (G15.out.drewN j5)
  clear G15 W15 R5 Bs
  generalize ws.drewN j5 = wt at *
  go_wp2_with fail
  refine (M2 _ _ _ G16.out.irow).out.mono ?_; rintro e w' ⟨rfl, rfl⟩
  go_wp2
  go_ret
  exact ⟨rfl, Bt.out⟩
end Go.Proofs.YtkbnnlhilnnpeabDoor
