/-
  Contracts and facts that the laws of this seat use: LockS, LockT.
-/
import Derived.Test.YtbfmbdohebdbaaaGreatDoorKey
import Derived.Test.YtbfmbdohebdbaaaGreatDoorLockM
import Derived.Test.YtbfmbdohebdbaaaGreatDoorLists
import Derived.Test.YtbfmbdohebdbaaaGreatDoorWord
import Derived.Deep.AppendLies
import Derived.Deep.RegionHeld
import Derived.Laws.Concat
import Derived.Test.YtbfmbdohebdbaaaGreatDoorCols
import Derived.Test.YtbfmbdohebdbaaaGreatDoorShift
import Derived.Test.YtbfmbdohebdbaaaGreatDoorSums
set_option linter.unusedVariables false
set_option linter.unusedSimpArgs false
namespace Go.Proofs.YtbfmbdohebdbaaaGreatDoor
open Go Go.RowKit Go.Proofs.YtbfmbdohebdbaaaGreatDoor.Lk
attribute [local go_sem ↓] Go.wp_at_zero Go.wp_at_succ

/-- the contract of a list of texts. -/
def OwnTextsS (w : World) (l : List ByteArray) (e : Ending) (w' : World) : Prop := ∃ v, e = .returned v ∧ w'.ownsRow w.heap.size 9 1 v l.length (l.map .string) ∧ Below w.heap.size w w'
theorem words4 (f : Nat → UInt32) : putW (f 0) ++ putW (f 1) ++ putW (f 2) ++ putW (f 3) = ofW f := by
  have h1 := outW_up f 0
  have h2 := outW_up f 1
  have h3 := outW_up f 2
  have h4 := outW_up f 3
  have h0 : outW f 0 ++ putW (f 0) = putW (f 0) := by rw [outW_0]; exact ByteArray.empty_append
  rw [h0] at h1
  rw [h1, h2, h3, h4, outW_4]
theorem empty_own (w : World) (B : Nat) (hB : B ≤ w.heap.size) : (w.alloc (.cells #[] 9)).ownsRow B 9 1 (.slice (some ⟨w.heap.size, 0, none⟩) 0 0) 0 [] :=
  ⟨rfl, .inr ⟨_, _, _, rfl, hB, heap_alloc_new w _, Nat.le_refl _, by unfold maxLen; omega, rfl, rfl⟩⟩
/-- what an append of a text leaves, beside a row at g that stays. -/
theorem texts_up {w wr w5 : World} {k g g2 cap2 : Nat} {v : Value} {f : Nat → ByteArray} {X : ByteArray} {o : Obj} (hX : f k = X) (hown : wr.ownsRow w.heap.size 9 1 v k ((upTo f k).map .string)) (hne : v.ownBlock ≠ some g) (hb : Below w.heap.size w wr) (hg : g < wr.heap.size)
    (hown5 : w5.ownsRow w.heap.size 9 1 (.slice (some ⟨g2, 0, none⟩) (k + 1) cap2) (k + 1) ((upTo f k).map .string ++ [.string X])) (hgrow : (wr.alloc o).grownBy w5 v.ownBlock) (hat : v.ownBlock = some g2 ∨ g2 = wr.heap.size + 1) :
    w5.ownsRow w.heap.size 9 1 (.slice (some ⟨g2, 0, none⟩) (k + 1) cap2) (k + 1) ((upTo f (k + 1)).map .string) ∧ (Value.slice (some ⟨g2, 0, none⟩) (k + 1) cap2).ownBlock ≠ some g ∧ w5.heap[g]? = wr.heap[g]? ∧ Below w.heap.size w w5 := by
  refine ⟨?_, ?_, ?_, below_append hown hb hgrow⟩
  · rw [upTo_succ, List.map_append, hX]; exact hown5
  · intro e
    have e : g2 = g := by simpa [Value.ownBlock] using e
    rcases hat with h | h
    · rw [h, e] at hne; exact hne rfl
    · omega
  · exact (hgrow.block g (by simp; omega) (fun e => hne e.symm)).trans (heap_alloc_old wr _ hg)
theorem own_texts_below {w w' : World} {B n : Nat} {v : Value} {xs : List Value} {t : TypeId} (h : w.ownsRow B t 1 v n xs) (hb : Below w.heap.size w w') : w'.ownsRow B t 1 v n xs := by
  refine ⟨h.1, ?_⟩
  rcases h.2 with hn | ⟨g, cap, cur, hv, hB, hg, rest⟩
  · exact .inl hn
  · exact .inr ⟨g, cap, cur, hv, hB, (hb.block g (Array.getElem?_eq_some_iff.1 hg).1).trans hg, rest⟩
set_option maxRecDepth 100000 in
set_option maxHeartbeats 1600000 in
theorem l07Keys_yes (s : ByteArray) (n : Nat) (h : kOf s n) (w : World) :
    Calls Tryz.prog 47 #[.string s] w fun e w' => OwnTextsS w (upTo (rkS s n) (n + 7)) e w' := by
  have H1 := fun w => Lib.hid (Expand_yes_spec s n h w)
  have hle := h.le
  obtain ⟨i0, hi, hz0, hz1, hz2⟩ := info_parts infoS
  obtain ⟨L, hL⟩ : ∃ L, kL n = L := ⟨_, rfl⟩
  have hLn : L = 4 * (n + 7) := by rw [← hL]; rfl
  have hL60 : (L : Int) ≤ 60 := by omega
  have HL := Lib.hid hLn
  have HLE := Lib.hid hle
  rw [hL] at H1
  clear hL hLn h hle
  have e0 := empty_own w w.heap.size (Nat.le_refl _)
  have b0 : Below w.heap.size w (w.alloc (.cells #[] 9)) := (Below.refl _ _).alloc (Nat.le_refl _) _
  go_enter Tryz.func47, Tryz.ntmps47
  go_wp2_with fail
  refine (H1 _).out.mono ?_; rintro e w1 ⟨v, rfl, hown, hb1⟩
  obtain ⟨g, cap, rfl, hgB, hg⟩ := hown.form (by have := HL.out; omega)
  have hsz := hb1.size
  rw [World.size_alloc] at hgB hsz
  have E1 := Lib.hid (own_texts_below e0 hb1)
  have B1 := Lib.hid (b0.trans (hb1.mono (by simp)))
  have HW : Hid (∀ j, j < L → w1.cell? ⟨g, j, none⟩ = some (.int .i64 ((ew s n j).toNat : Int))) := Lib.hid fun j hj => (hown.cellAt j (by omega)).trans (cells64_at _ _ _ hj)
  clear hown hb1 e0 b0 H1
  go_wp2
  go_loopw [3, 5] (fun v i wr => ∃ k : Nat, k ≤ n + 7 ∧ i = .int .i64 (4 * k : Nat) ∧ wr.ownsRow w.heap.size 9 1 v k ((upTo (rkS s n) k).map .string) ∧ v.ownBlock ≠ some g ∧ wr.heap[g]? = w1.heap[g]? ∧ Below w.heap.size w wr ∧ g < wr.heap.size) (fun _ i _ => L - (intOf i).toNat)
  case atStart => exact ⟨0, Nat.zero_le _, rfl, E1.out, by simp [Value.ownBlock]; omega, rfl, B1.out, hg⟩
  case round =>
    obtain ⟨k, hk, rfl, hown, hne, hgr, hbel, hgs⟩ := hrel
    by_cases hlt : k < n + 7
    · obtain ⟨i, hi4⟩ : ∃ i, 4 * k = i := ⟨_, rfl⟩
      obtain ⟨c, hc⟩ : ∃ c, c = fun j => ew s n (i + j) := ⟨_, rfl⟩
      have hiL : i + 4 ≤ L := by have := HL.out; omega
      have hcell : ∀ W' : World, W'.heap[g]? = wr.heap[g]? → ∀ j, j < 4 → W'.cell? ⟨g, i + j, none⟩ = some (.int .i64 ((c j).toNat : Int)) := fun W' hW' j hj => by
        rw [hc]
        exact (World.cell?_of_block (a := ⟨g, i + j, none⟩) (hW'.trans hgr)).trans (HW.out (i + j) (by omega))
      have SM : Hid (∀ W' : World, W'.heap[g]? = wr.heap[g]? → W'.cell? ⟨g, i, none⟩ = some (.int .i64 ((c 0).toNat : Int)) ∧ W'.cell? ⟨g, i + 1, none⟩ = some (.int .i64 ((c 1).toNat : Int)) ∧ W'.cell? ⟨g, i + 2, none⟩ = some (.int .i64 ((c 2).toNat : Int)) ∧ W'.cell? ⟨g, i + 3, none⟩ = some (.int .i64 ((c 3).toNat : Int))) := Lib.hid fun W' hW' => ⟨hcell W' hW' 0 (by omega), hcell W' hW' 1 (by omega), hcell W' hW' 2 (by omega), hcell W' hW' 3 (by omega)⟩
      have hX : rkS s n k = putW (c 0) ++ putW (c 1) ++ putW (c 2) ++ putW (c 3) := by rw [words4, hc, ← hi4]; rfl
      have P0 := fun W => Lib.hid (PutWord_spec ((c 0).toNat : Int) W)
      have P1 := fun W => Lib.hid (PutWord_spec ((c 1).toNat : Int) W)
      have P2 := fun W => Lib.hid (PutWord_spec ((c 2).toNat : Int) W)
      have P3 := fun W => Lib.hid (PutWord_spec ((c 3).toNat : Int) W)
      simp only [w32_of] at P0 P1 P2 P3
      have q1 := fun W => run_string_add_sum (P := Tryz.prog) (w := W) (putW (c 0)) (putW (c 1)) (by rw [putW_size, putW_size]; decide)
      have q2 := fun W => run_string_add_sum (P := Tryz.prog) (w := W) (putW (c 0) ++ putW (c 1)) (putW (c 2)) (by rw [ByteArray.size_append, putW_size, putW_size, putW_size]; decide)
      have q3 := fun W => run_string_add_sum (P := Tryz.prog) (w := W) (putW (c 0) ++ putW (c 1) ++ putW (c 2)) (putW (c 3)) (by rw [ByteArray.size_append, ByteArray.size_append, putW_size, putW_size, putW_size, putW_size]; decide)
      have l0 : ((c 0).toNat : Int) < 4294967296 := by have := w32_lt (c 0); omega
      have l1 : ((c 1).toNat : Int) < 4294967296 := by have := w32_lt (c 1); omega
      have l2 : ((c 2).toNat : Int) < 4294967296 := by have := w32_lt (c 2); omega
      have l3 : ((c 3).toNat : Int) < 4294967296 := by have := w32_lt (c 3); omega
      generalize putW (c 0) ++ putW (c 1) ++ putW (c 2) ++ putW (c 3) = X4 at *
      generalize putW (c 0) ++ putW (c 1) ++ putW (c 2) = X3 at *
      generalize putW (c 0) ++ putW (c 1) = X2 at *
      generalize putW (c 0) = Y0 at *
      generalize putW (c 1) = Y1 at *
      generalize putW (c 2) = Y2 at *
      generalize putW (c 3) = Y3 at *
      generalize c 0 = c0 at *
      generalize c 1 = c1 at *
      generalize c 2 = c2 at *
      generalize c 3 = c3 at *
      have HX := Lib.hid hX
      have HO := Lib.hid hown
      have HN := Lib.hid hne
      have HB := Lib.hid hbel
      have HI := Lib.hid hi4
      have HGR := Lib.hid hgr
      have hi0 : (0 : Int) ≤ (i : Int) := by omega
      have hi1 : (i : Int) + 3 < (L : Int) := by omega
      have hi2 : (i : Int) + 2 < (L : Int) := by omega
      have hi3 : (i : Int) + 1 < (L : Int) := by omega
      have hi5 : (i : Int) < (L : Int) := by omega
      have r1 : IntKind.i64.wrap ((i : Int) + 1) = (i : Int) + 1 := IntWalk.i64_in _ (by omega)
      have r2 : IntKind.i64.wrap ((i : Int) + 2) = (i : Int) + 2 := IntWalk.i64_in _ (by omega)
      have r3 : IntKind.i64.wrap ((i : Int) + 3) = (i : Int) + 3 := IntWalk.i64_in _ (by omega)
      have t1 : ((i : Int) + 1).toNat = i + 1 := by omega
      have t2 : ((i : Int) + 2).toNat = i + 2 := by omega
      have t3 : ((i : Int) + 3).toNat = i + 3 := by omega
      have z1 : (0 : Int) ≤ (i : Int) + 1 := by omega
      have z2 : (0 : Int) ≤ (i : Int) + 2 := by omega
      have z3 : (0 : Int) ≤ (i : Int) + 3 := by omega
      have hk15 : k ≤ 15 := by have := HLE.out; omega
      have hS0 := SM.out wr.drew rfl
      have HSZ : Hid (w.heap.size ≤ wr.heap.size) := Lib.hid hbel.size
      rw [hi4]
      clear hc hcell hX hown hne hgr hbel hi4 HW E1 B1
      go_wp2
      refine wp_region_held_drew (S := fun W' => W'.cell? ⟨g, i, none⟩ = some (.int .i64 (c0.toNat : Int)) ∧ W'.cell? ⟨g, i + 1, none⟩ = some (.int .i64 (c1.toNat : Int)) ∧ W'.cell? ⟨g, i + 2, none⟩ = some (.int .i64 (c2.toNat : Int)) ∧ W'.cell? ⟨g, i + 3, none⟩ = some (.int .i64 (c3.toNat : Int))) (by kernel_rfl) hS0 (fun hS => ?_)
      refine tk 0 (v := ?_) ?_ hS ?_
      rotate_left
      · intro w hSw
        obtain ⟨s0, s1, s2, s3⟩ := hSw
        go_simp
        first | done | with_reducible rfl
      try simp only [lay]
      refine tk 1 (v := ?_) ?_ hS ?_
      rotate_left
      · intro w hSw
        obtain ⟨s0, s1, s2, s3⟩ := hSw
        go_simp
        first | done | with_reducible rfl
      try simp only [lay]
      refine tk 2 (v := ?_) ?_ hS ?_
      rotate_left
      · intro w hSw
        obtain ⟨s0, s1, s2, s3⟩ := hSw
        go_simp
        first | done | with_reducible rfl
      try simp only [lay]
      refine tk 3 (v := ?_) ?_ hS ?_
      rotate_left
      · intro w hSw
        obtain ⟨s0, s1, s2, s3⟩ := hSw
        go_simp
        first | done | with_reducible rfl
      try simp only [lay]
      refine tk 4 (v := ?_) ?_ hS ?_
      rotate_left
      · intro w hSw
        obtain ⟨s0, s1, s2, s3⟩ := hSw
        go_simp
        first | done | with_reducible rfl
      try simp only [lay]
      refine tk 6 (v := ?_) ?_ hS ?_
      rotate_left
      · intro w hSw
        obtain ⟨s0, s1, s2, s3⟩ := hSw
        go_simp
        first | done | with_reducible rfl
      try simp only [lay]
      refine tk 7 (v := ?_) ?_ hS ?_
      rotate_left
      · intro w hSw
        obtain ⟨s0, s1, s2, s3⟩ := hSw
        go_simp
        first | done | with_reducible rfl
      try simp only [lay]
      refine tk 8 (v := ?_) ?_ hS ?_
      rotate_left
      · intro w hSw
        obtain ⟨s0, s1, s2, s3⟩ := hSw
        go_simp
        first | done | with_reducible rfl
      try simp only [lay]
      refine tk 9 (v := ?_) ?_ hS ?_
      rotate_left
      · intro w hSw
        obtain ⟨s0, s1, s2, s3⟩ := hSw
        go_simp
        first | done | with_reducible rfl
      try simp only [lay]
      refine tk 10 (v := ?_) ?_ hS ?_
      rotate_left
      · intro w hSw
        obtain ⟨s0, s1, s2, s3⟩ := hSw
        go_simp
        first | done | with_reducible rfl
      try simp only [lay]
      refine tk 13 (v := ?_) ?_ hS ?_
      rotate_left
      · intro w hSw
        obtain ⟨s0, s1, s2, s3⟩ := hSw
        go_simp
        first | done | with_reducible rfl
      try simp only [lay]
      refine tk 14 (v := ?_) ?_ hS ?_
      rotate_left
      · intro w hSw
        obtain ⟨s0, s1, s2, s3⟩ := hSw
        go_simp
        first | done | with_reducible rfl
      try simp only [lay]
      refine tk 15 (v := ?_) ?_ hS ?_
      rotate_left
      · intro w hSw
        obtain ⟨s0, s1, s2, s3⟩ := hSw
        go_simp
        first | done | with_reducible rfl
      try simp only [lay]
      refine tk 16 (v := ?_) ?_ hS ?_
      rotate_left
      · intro w hSw
        obtain ⟨s0, s1, s2, s3⟩ := hSw
        go_simp
        first | done | with_reducible rfl
      try simp only [lay]
      refine tk 17 (v := ?_) ?_ hS ?_
      rotate_left
      · intro w hSw
        obtain ⟨s0, s1, s2, s3⟩ := hSw
        go_simp
        first | done | with_reducible rfl
      try simp only [lay]
      refine tk 20 (v := ?_) ?_ hS ?_
      rotate_left
      · intro w hSw
        obtain ⟨s0, s1, s2, s3⟩ := hSw
        go_simp
        first | done | with_reducible rfl
      try simp only [lay]
      refine tk 21 (v := ?_) ?_ hS ?_
      rotate_left
      · intro w hSw
        obtain ⟨s0, s1, s2, s3⟩ := hSw
        go_simp
        first | done | with_reducible rfl
      try simp only [lay]
      refine tk 22 (v := ?_) ?_ hS ?_
      rotate_left
      · intro w hSw
        obtain ⟨s0, s1, s2, s3⟩ := hSw
        go_simp
        first | done | with_reducible rfl
      try simp only [lay]
      refine tk 23 (v := ?_) ?_ hS ?_
      rotate_left
      · intro w hSw
        obtain ⟨s0, s1, s2, s3⟩ := hSw
        go_simp
        first | done | with_reducible rfl
      try simp only [lay]
      refine tk 24 (v := ?_) ?_ hS ?_
      rotate_left
      · intro w hSw
        obtain ⟨s0, s1, s2, s3⟩ := hSw
        go_simp
        first | done | with_reducible rfl
      try simp only [lay]
      refine wpAnyH_ready (rs := [5]) (by kernel_rfl) (by simp) ?_
      refine AllReadyH.cons rfl (fun K hK => ?_) AllReadyH.nil
      go_simp
      refine (P0 _).out.mono ?_; rintro e wA ⟨rfl, hb⟩
      have HBwA : Hid (Below wr.heap.size wr wA) := Lib.hid (((Below.refl wr.heap.size wr).drew).trans (hb.mono (by exact Nat.le_refl _)))
      have hSA0 := SM.out wA (HBwA.out.block g hgs)
      clear hb
      refine hK.out _ _ hSA0 (fun hSA => ?_)
      clear hK K
      try simp only [lay]
      refine wpAnyH_ready (rs := [11]) (by kernel_rfl) (by simp) ?_
      refine AllReadyH.cons rfl (fun K hK => ?_) AllReadyH.nil
      go_simp
      refine (P1 _).out.mono ?_; rintro e wB ⟨rfl, hb⟩
      have HBwB : Hid (Below wr.heap.size wr wB) := Lib.hid (HBwA.out.trans (hb.mono (by exact HBwA.out.size)))
      have hSB0 := SM.out wB (HBwB.out.block g hgs)
      clear hb
      refine hK.out _ _ hSB0 (fun hSB => ?_)
      clear hK K
      try simp only [lay]
      refine tk 12 (v := ?_) ?_ hSB ?_
      rotate_left
      · intro w hSw
        obtain ⟨s0, s1, s2, s3⟩ := hSw
        go_simp
        first | done | with_reducible rfl
      try simp only [lay]
      refine wpAnyH_ready (rs := [18]) (by kernel_rfl) (by simp) ?_
      refine AllReadyH.cons rfl (fun K hK => ?_) AllReadyH.nil
      go_simp
      refine (P2 _).out.mono ?_; rintro e wC ⟨rfl, hb⟩
      have HBwC : Hid (Below wr.heap.size wr wC) := Lib.hid (HBwB.out.trans (hb.mono (by exact HBwB.out.size)))
      have hSC0 := SM.out wC (HBwC.out.block g hgs)
      clear hb
      refine hK.out _ _ hSC0 (fun hSC => ?_)
      clear hK K
      try simp only [lay]
      refine tk 19 (v := ?_) ?_ hSC ?_
      rotate_left
      · intro w hSw
        obtain ⟨s0, s1, s2, s3⟩ := hSw
        go_simp
        first | done | with_reducible rfl
      try simp only [lay]
      refine wpAnyH_ready (rs := [25]) (by kernel_rfl) (by simp) ?_
      refine AllReadyH.cons rfl (fun K hK => ?_) AllReadyH.nil
      go_simp
      refine (P3 _).out.mono ?_; rintro e wD ⟨rfl, hb⟩
      have HBwD : Hid (Below wr.heap.size wr wD) := Lib.hid (HBwC.out.trans (hb.mono (by exact HBwC.out.size)))
      have hSD0 := SM.out wD (HBwD.out.block g hgs)
      clear hb
      refine hK.out _ _ hSD0 (fun hSD => ?_)
      clear hK K
      try simp only [lay]
      refine tk 26 (v := ?_) ?_ hSD ?_
      rotate_left
      · intro w hSw
        obtain ⟨s0, s1, s2, s3⟩ := hSw
        go_simp
        first | done | with_reducible rfl
      try simp only [lay]
      refine wpAnyH_ready (rs := [27]) (by kernel_rfl) (by simp) ?_
      refine AllReadyH.cons rfl (fun K hK => ?_) AllReadyH.nil
      go_simp
      have hSE0 := SM.out (wD.alloc (.cells #[.string X4] 9)) ((heap_alloc_old wD _ (Nat.lt_of_lt_of_le hgs HBwD.out.size)).trans (HBwD.out.block g hgs))
      refine hK.out _ _ hSE0 (fun hSE => ?_)
      clear hK K
      try simp only [lay]
      refine wpAnyH_ready (rs := [28]) (by kernel_rfl) (by simp) ?_
      refine AllReadyH.cons rfl (fun K hK => ?_) AllReadyH.nil
      refine Eq.mpr (if_pos (by rfl)) ?_
      refine wp_append_lies (wD.alloc (.cells #[.string X4] 9)) (.tmp 16) (.tmp 43) 46 rfl w.heap.size 9 i0 (.string ByteArray.empty) 1 16 Tryz.underlying46 hi hz0 hz1 hz2 rfl (by decide) u3 k ((upTo (rkS s n) k).map .string) rfl ((own_texts_below HO.out HBwD.out).alloc _) ⟨wD.heap.size, 0, none⟩ 1 1 [.string X4] rfl rfl (World.news_of_block (cs := #[.string X4]) (heap_alloc_new wD _)) (by simp [Value.oneCell']) (by omega) (by unfold maxLen; omega) (by omega) (by have := HSZ.out; have := HBwD.out.size; simp; omega) (wD.heap.size + 1) (by simp) ?_
      intro g2 cap2 w6 hown6 hgrow hat hlt6
      have FIN := Lib.hid (texts_up HX.out (own_texts_below HO.out HBwD.out) HN.out (HB.out.trans (HBwD.out.mono HSZ.out)) (Nat.lt_of_lt_of_le hgs HBwD.out.size) hown6 hgrow hat)
      have hbl := FIN.out.2.2.1.trans (HBwD.out.block g hgs)
      have hSF0 := SM.out w6 hbl
      have HGS : Hid (g < w6.heap.size) := Lib.hid (Nat.lt_of_lt_of_le (Nat.lt_of_lt_of_le hgs HBwD.out.size) (by have := hgrow.size; simp at this; omega))
      clear hown6 hgrow hat hlt6
      refine hK.out _ _ hSF0 (fun hSF => ?_)
      clear hK K
      try simp only [lay]
      refine tk 29 (v := ?_) ?_ hSF ?_
      rotate_left
      · intro w hSw
        obtain ⟨s0, s1, s2, s3⟩ := hSw
        go_simp
        first | done | with_reducible rfl
      try simp only [lay]
      refine wpAnyH_done (by kernel_rfl) ?_ _
      obtain ⟨f1, f2, f3, f4⟩ := FIN.out
      have HGR2 := Lib.hid (hbl.trans HGR.out)
      have F1 := Lib.hid f1
      have F2 := Lib.hid f2
      have F4 := Lib.hid f4
      clear f1 f2 f3 f4 FIN hbl hS hSA hSB hSC hSD hSE hSF hSA0 hSB0 hSC0 hSD0 hSE0 hSF0 hS0 SM
      go_wp2
      go_roundw
      case rel => exact ⟨k + 1, by omega, by have := HI.out; go_num, F1.out, F2.out, HGR2.out, F4.out, HGS.out⟩
      case measure => simp [intOf]; omega
    · obtain rfl : k = n + 7 := by omega
      have hz : ¬ (4 * (n + 7) : Int) + 3 < (L : Int) := by have := HL.out; omega
      have hz2 : ¬ ((4 * (n + 7) : Nat) : Int) + 3 < (L : Int) := by have := HL.out; omega
      have HO : Hid (wr.ownsRow w.heap.size 9 1 u3 (upTo (rkS s n) (n + 7)).length ((upTo (rkS s n) (n + 7)).map .string)) := Lib.hid (by rw [upTo_length]; exact hown)
      have HB := Lib.hid hbel
      clear hown hbel hne hgr HW E1 B1
      obtain ⟨i, hi4⟩ : ∃ i, 4 * (n + 7) = i := ⟨_, rfl⟩
      have r3 : IntKind.i64.wrap ((i : Int) + 3) = (i : Int) + 3 := IntWalk.i64_in _ (by have := HLE.out; omega)
      rw [hi4] at hz2 ⊢
      clear hz hi4
      go_wp2

      go_ret
      exact ⟨_, rfl, HO.out, HB.out⟩
set_option maxRecDepth 100000 in
theorem l07Keys_no (s : ByteArray) (h : ¬ kOk s) (w : World) :
    Calls Tryz.prog 47 #[.string s] w fun e w' => OwnTextsS w [] e w' := by
  have H1 := fun w => Lib.hid (Expand_spec s w)
  rw [exInts_no s h] at H1
  clear h
  have e0 := empty_own w w.heap.size (Nat.le_refl _)
  have b0 : Below w.heap.size w (w.alloc (.cells #[] 9)) := (Below.refl _ _).alloc (Nat.le_refl _) _
  go_enter Tryz.func47, Tryz.ntmps47
  go_wp2_with fail
  refine (H1 _).out.mono ?_; rintro e w1 ⟨v, rfl, hown, hb1⟩
  obtain ⟨A, c, rfl⟩ : ∃ A c, v = .slice A 0 c := by
    rcases hown.2 with ⟨rfl, _⟩ | ⟨g, cap, cur, rfl, _⟩
    · exact ⟨_, _, rfl⟩
    · exact ⟨_, _, rfl⟩
  have E1 := Lib.hid (own_texts_below e0 hb1)
  have B1 := Lib.hid (b0.trans (hb1.mono (by simp)))
  clear hown hb1 e0 b0 H1
  go_wp2
  go_loopw [3, 5] (fun v i wr => i = .int .i64 0 ∧ v = .slice (some ⟨w.heap.size, 0, none⟩) 0 0 ∧ wr = w1) (fun _ i _ => 0 - (intOf i).toNat)
  case atStart => exact ⟨rfl, rfl, rfl⟩
  case round =>
    obtain ⟨rfl, rfl, rfl⟩ := hrel
    go_wp2
    refine bodyPost_ret (results_tmp rfl _ _ _) rfl ?_
    exact ⟨_, rfl, E1.out, B1.out⟩
end Go.Proofs.YtbfmbdohebdbaaaGreatDoor
set_option linter.unusedVariables false
set_option linter.unusedSimpArgs false
namespace Go.Proofs.YtbfmbdohebdbaaaGreatDoor
open Go Go.RowKit Go.Proofs.YtbfmbdohebdbaaaGreatDoor.Lk
attribute [local go_sem ↓] Go.wp_at_zero Go.wp_at_succ

theorem xor16_spec (a b x : ByteArray) (ha : a.size = 16) (hb : b.size = 16) (hx : xorS a b = x) (w : World) :
    Calls Tryz.prog 18 #[.string a, .string b] w fun e w' => e = .returned (.string x) ∧ Below w.heap.size w w' := by
  rw [← hx, ← xorOf_S a b ha hb]; exact xor_spec a b w (by omega) (by omega)
theorem sub16_spec (a x : ByteArray) (ha : a.size = 16) (hx : mapT sbox a = x) (w : World) :
    Calls Tryz.prog 72 #[.string a] w fun e w' => e = .returned (.string x) ∧ Below w.heap.size w w' := by
  rw [← hx]; exact SubText_spec a w (by omega)
theorem unsub16_spec (a x : ByteArray) (ha : a.size = 16) (hx : mapT ubox a = x) (w : World) :
    Calls Tryz.prog 49 #[.string a] w fun e w' => e = .returned (.string x) ∧ Below w.heap.size w w' := by
  rw [← hx]; exact UnsubText_spec a w (by omega)
theorem shift16_spec (a x : ByteArray) (ha : a.size = 16) (hx : shS 1 a = x) (w : World) :
    Calls Tryz.prog 71 #[.string a] w fun e w' => e = .returned (.string x) ∧ Below w.heap.size w w' := by
  rw [← hx, ← shT_yes 1 a ha]; exact ShiftRows_spec a w
theorem unshift16_spec (a x : ByteArray) (ha : a.size = 16) (hx : shS 3 a = x) (w : World) :
    Calls Tryz.prog 50 #[.string a] w fun e w' => e = .returned (.string x) ∧ Below w.heap.size w w' := by
  rw [← hx, ← shT_yes 3 a ha]; exact UnshiftRows_spec a w
theorem mix16_spec (a x : ByteArray) (ha : a.size = 16) (hx : mxS a = x) (w : World) :
    Calls Tryz.prog 73 #[.string a] w fun e w' => e = .returned (.string x) ∧ Below w.heap.size w w' := by
  have := MixColumns_spec a w
  rw [eachT_yes _ a ha] at this
  rw [← hx]; exact this
theorem unmix16_spec (a x : ByteArray) (ha : a.size = 16) (hx : unS a = x) (w : World) :
    Calls Tryz.prog 48 #[.string a] w fun e w' => e = .returned (.string x) ∧ Below w.heap.size w w' := by
  have := UnmixColumns_spec a w
  rw [eachT_yes _ a ha] at this
  rw [← hx]; exact this
theorem cell_texts {w : World} {B g c m : Nat} {K : Nat → ByteArray} (h : w.ownsRow B 9 1 (.slice (some ⟨g, 0, none⟩) m c) m ((upTo K m).map .string)) (j : Nat) (hj : j < m) : w.cell? ⟨g, j, none⟩ = some (.string (K j)) := by
  rw [h.cellAt j (by omega), List.getElem?_map, upTo_at K m j hj]; rfl
set_option maxRecDepth 100000 in
set_option maxHeartbeats 1600000 in
theorem Steps_yes_spec (key s : ByteArray) (n : Nat) (h : kOf key n) (hs : s.size = 16) (w : World) :
    Calls Tryz.prog 43 #[.string key, .string s] w fun e w' => OwnTextsS w (upTo (stepS (rkS key n) (n + 6) s) (n + 7)) e w' := by
  have H1 := fun w => Lib.hid (l07Keys_yes key n h w)
  have hle := h.le
  obtain ⟨i0, hi, hz0, hz1, hz2⟩ := info_parts infoS
  have hs2 : (s.size : Int) = 16 := by omega
  have HLE := Lib.hid hle
  have e0 := empty_own w w.heap.size (Nat.le_refl _)
  have b0 : Below w.heap.size w (w.alloc (.cells #[] 9)) := (Below.refl _ _).alloc (Nat.le_refl _) _
  obtain ⟨K, hK⟩ : ∃ K, rkS key n = K := ⟨_, rfl⟩
  have hKs : ∀ j, (K j).size = 16 := fun j => by rw [← hK]; exact rkS_size _ _ _
  obtain ⟨f, hf⟩ : ∃ f, stepS K (n + 6) s = f := ⟨_, rfl⟩
  have hfs : ∀ j, (f j).size = 16 := fun j => by rw [← hf]; exact stepS_size _ _ _ _
  have hf0 : xorS s (K 0) = f 0 := by rw [← hf]; rfl
  have hfm : ∀ j, j + 1 < n + 6 → xorS (mxS (shS 1 (mapT sbox (f j)))) (K (j + 1)) = f (j + 1) := fun j hj => by rw [← hf, stepS, midS, if_pos hj]; rfl
  have hfl : ∀ j, ¬ j + 1 < n + 6 → xorS (shS 1 (mapT sbox (f j))) (K (j + 1)) = f (j + 1) := fun j hj => by rw [← hf, stepS, midS, if_neg hj]; rfl
  rw [hK] at H1
  rw [hK, hf]
  have C0 := fun W => Lib.hid (xor16_spec s (K 0) (f 0) hs (hKs 0) hf0 W)
  have HKS := Lib.hid hKs
  have HFS := Lib.hid hfs
  have HFM := Lib.hid hfm
  have HFL := Lib.hid hfl
  clear hK hKs hf hfs hf0 hfm hfl h hle hs
  go_enter Tryz.func43, Tryz.ntmps43
  go_wp2_with fail
  refine (H1 _).out.mono ?_; rintro e w1 ⟨v, rfl, hown, hb1⟩
  rw [upTo_length] at hown
  obtain ⟨g, cap, rfl, hgB, hg⟩ := hown.form (by omega)
  have hsz := hb1.size
  rw [World.size_alloc] at hgB hsz
  have E1 := Lib.hid (own_texts_below e0 hb1)
  have B1 := Lib.hid (b0.trans (hb1.mono (by simp)))
  have HW : Hid (∀ W : World, W.heap[g]? = w1.heap[g]? → ∀ j, j < n + 7 → W.cell? ⟨g, j, none⟩ = some (.string (K j))) := Lib.hid fun W hW j hj => (World.cell?_of_block (a := ⟨g, j, none⟩) hW).trans (cell_texts hown j hj)
  have c0 := HW.out w1 rfl 0 (by omega)
  have hgw : g ≠ w.heap.size := by omega
  have hn0 : ¬ ((n + 7 : Nat) : Int) = 0 := by omega
  have hn1 : (0 : Int) < ((n + 7 : Nat) : Int) := by omega
  have hn15 : n ≤ 8 := HLE.out.2
  clear hown hb1 e0 b0 H1
  obtain ⟨m, hm⟩ : ∃ m, n + 7 = m := ⟨_, rfl⟩
  have HM := Lib.hid hm
  rw [hm] at hn0 hn1 HW ⊢
  clear hm
  go_wp2_with fail
  refine (C0 _).out.mono ?_; rintro e w2 ⟨rfl, hb2⟩
  have E2 := Lib.hid (own_texts_below E1.out hb2)
  have B2 := Lib.hid (B1.out.trans (hb2.mono B1.out.size))
  have G2 := Lib.hid (hb2.block g hg)
  have hg2 : g < w2.heap.size := Nat.lt_of_lt_of_le hg hb2.size
  clear hb2 E1 B1 C0 c0
  go_wp2_with (at_builtin; refine stp ?_)
  refine unstp ?_
  refine wpList_append_lies _ rfl (.tmp 25) (.tmp 27) 46 rfl w.heap.size 9 i0 (.string ByteArray.empty) 1 16 Tryz.underlying46 hi hz0 hz1 hz2 rfl (by decide) (.slice (some ⟨w.heap.size, 0, none⟩) 0 0) 0 [] rfl (E2.out.alloc _) ⟨w2.heap.size, 0, none⟩ 1 1 [.string (f 0)] rfl rfl (World.news_of_block (cs := #[.string (f 0)]) (heap_alloc_new w2 _)) (by simp [Value.oneCell']) (by omega) (by unfold maxLen; omega) (by omega) (by have := B2.out.size; simp; omega) (w2.heap.size + 1) (by simp) ?_
  intro g2 cap2 w9 hown9 hgrow hat hlt9
  have FIN := Lib.hid (texts_up (f := f) (k := 0) rfl E2.out (by simp [Value.ownBlock]; omega) B2.out hg2 hown9 hgrow hat)
  have F1 := Lib.hid FIN.out.1
  have F2 := Lib.hid FIN.out.2.1
  have F3 := Lib.hid (FIN.out.2.2.1.trans G2.out)
  have F4 := Lib.hid FIN.out.2.2.2
  have F5 : Hid (g < w9.heap.size) := Lib.hid (by have := hgrow.size; simp at this; omega)
  clear hown9 hgrow hat hlt9 FIN E2 B2 G2
  go_wp2
  go_loopw [1, 5, 7] (fun sv v i wr => ∃ k : Nat, k < m ∧ i = .int .i64 (k + 1 : Nat) ∧ sv = .string (f k) ∧ wr.ownsRow w.heap.size 9 1 v (k + 1) ((upTo f (k + 1)).map .string) ∧ v.ownBlock ≠ some g ∧ wr.heap[g]? = w1.heap[g]? ∧ Below w.heap.size w wr ∧ g < wr.heap.size) (fun _ _ i _ => m - (intOf i).toNat)
  case atStart => exact ⟨0, by have := HM.out; omega, rfl, rfl, F1.out, F2.out, F3.out, F4.out, F5.out⟩
  case round =>
    obtain ⟨k, hk, rfl, rfl, hown, hne, hgr, hbel, hgs⟩ := hrel
    have HO := Lib.hid hown
    have HN := Lib.hid hne
    have HB := Lib.hid hbel
    have HGR := Lib.hid hgr
    clear hown hne hbel hgr
    by_cases hlt : k + 1 < m
    · obtain ⟨j, hj⟩ : ∃ j, k + 1 = j := ⟨_, rfl⟩
      have HJ := Lib.hid hj
      obtain ⟨x, hx⟩ : ∃ x, f k = x := ⟨_, rfl⟩
      obtain ⟨y, hy⟩ : ∃ y, mapT sbox x = y := ⟨_, rfl⟩
      obtain ⟨z, hz⟩ : ∃ z, shS 1 y = z := ⟨_, rfl⟩
      obtain ⟨t, ht⟩ : ∃ t, f j = t := ⟨_, rfl⟩
      obtain ⟨q, hq⟩ : ∃ q, K j = q := ⟨_, rfl⟩
      have hx16 : x.size = 16 := by rw [← hx]; exact HFS.out k
      have hy16 : y.size = 16 := by rw [← hy, mapT_size]; exact hx16
      have hz16 : z.size = 16 := by rw [← hz]; exact shS_size _ _
      have hq16 : q.size = 16 := by rw [← hq]; exact HKS.out j
      have C1 := fun W => Lib.hid (sub16_spec x y hx16 hy W)
      have C2 := fun W => Lib.hid (shift16_spec y z hy16 hz W)
      have hc : ∀ W : World, W.heap[g]? = wr.heap[g]? → W.cell? ⟨g, j, none⟩ = some (.string q) := fun W hW => by rw [← hq]; exact HW.out W (hW.trans HGR.out) j (by omega)
      have HCC := Lib.hid hc
      have HO2 : Hid (wr.ownsRow w.heap.size 9 1 u5 j ((upTo f j).map .string)) := Lib.hid (by rw [← HJ.out]; exact HO.out)
      have HT := Lib.hid ht
      have hj0 : (0 : Int) ≤ (j : Int) := by omega
      have hjm : (j : Int) < (m : Int) := by omega
      have hj14 : (j : Int) ≤ 14 := by have := HM.out; omega
      have hj15 : j ≤ 14 := by have := HM.out; omega
      have hm15 : (m : Int) ≤ 15 := by have := HM.out; omega
      by_cases hlast : j + 1 < m
      · have hlast2 : (j : Int) + 1 < (m : Int) := by omega
        obtain ⟨u, hu⟩ : ∃ u, mxS z = u := ⟨_, rfl⟩
        have hu16 : u.size = 16 := by rw [← hu]; exact mxS_size _
        have hxq : xorS u q = t := by
          have := HFM.out k (by have := HM.out; omega)
          rw [hj, hx, hy, hz, hu, hq, ht] at this; exact this
        have C3 := fun W => Lib.hid (mix16_spec z u hz16 hu W)
        have C4 := fun W => Lib.hid (xor16_spec u q t hu16 hq16 hxq W)
        rw [hx, hj]
        clear hx hy hz ht hq hu hx16 hy16 hz16 hq16 hu16 hxq hc hlt hlast hj
        go_wp2_with fail
        refine (C1 _).out.mono ?_; rintro e wa ⟨rfl, hb⟩
        have Xwa := Lib.hid hb
        clear hb
        go_wp2_with fail
        refine (C2 _).out.mono ?_; rintro e wb ⟨rfl, hb⟩
        have Xwb : Hid (Below wr.heap.size wr wb) := Lib.hid (Xwa.out.trans (hb.mono Xwa.out.size))
        clear hb
        go_wp2_with fail
        refine (C3 _).out.mono ?_; rintro e wc ⟨rfl, hb⟩
        have Xwc : Hid (Below wr.heap.size wr wc) := Lib.hid (Xwb.out.trans (hb.mono Xwb.out.size))
        clear hb
        have hc := HCC.out wc (Xwc.out.block g hgs)
        go_wp2_with fail
        refine (C4 _).out.mono ?_; rintro e wd ⟨rfl, hb⟩
        have Xwd : Hid (Below wr.heap.size wr wd) := Lib.hid (Xwc.out.trans (hb.mono Xwc.out.size))
        clear hb
        clear hc
        have HWD : Hid (Below w.heap.size w wd) := Lib.hid (HB.out.trans (Xwd.out.mono HB.out.size))
        go_wp2_with (at_builtin; refine stp ?_)
        refine unstp ?_
        refine wpList_append_lies _ rfl (.tmp 51) (.tmp 53) 46 rfl w.heap.size 9 i0 (.string ByteArray.empty) 1 16 Tryz.underlying46 hi hz0 hz1 hz2 rfl (by decide) u5 j ((upTo f j).map .string) rfl ((own_texts_below HO2.out Xwd.out).alloc _) ⟨wd.heap.size, 0, none⟩ 1 1 [.string t] rfl rfl (World.news_of_block (cs := #[.string t]) (heap_alloc_new wd _)) (by simp [Value.oneCell']) (by omega) (by unfold maxLen; omega) (by omega) (by have := HWD.out.size; simp; omega) (wd.heap.size + 1) (by simp) ?_
        intro g2 cap2 w9 hown9 hgrow hat hlt9
        have FIN := Lib.hid (texts_up HT.out (own_texts_below HO2.out Xwd.out) HN.out (HB.out.trans (Xwd.out.mono HB.out.size)) (Nat.lt_of_lt_of_le hgs Xwd.out.size) hown9 hgrow hat)
        have F1 := Lib.hid FIN.out.1
        have F2 := Lib.hid FIN.out.2.1
        have F3 := Lib.hid (FIN.out.2.2.1.trans ((Xwd.out.block g hgs).trans HGR.out))
        have F4 := Lib.hid FIN.out.2.2.2
        have F5 : Hid (g < w9.heap.size) := Lib.hid (by have h1 := hgrow.size; have h2 := Xwd.out.size; rw [World.size_alloc] at h1; omega)
        clear hown9 hgrow hat hlt9 FIN
        go_wp2
        go_roundw
        case rel => exact ⟨j, by omega, by go_num, by rw [HT.out], F1.out, F2.out, F3.out, F4.out, F5.out⟩
        case measure => simp [intOf]; omega
      · have hlast2 : ¬ (j : Int) + 1 < (m : Int) := by omega
        have hxq : xorS z q = t := by
          have := HFL.out k (by have := HM.out; omega)
          rw [hj, hx, hy, hz, hq, ht] at this; exact this
        have C4 := fun W => Lib.hid (xor16_spec z q t hz16 hq16 hxq W)
        rw [hx, hj]
        clear hx hy hz ht hq hx16 hy16 hz16 hq16 hxq hc hlt hlast hj
        go_wp2_with fail
        refine (C1 _).out.mono ?_; rintro e wa ⟨rfl, hb⟩
        have Xwa := Lib.hid hb
        clear hb
        go_wp2_with fail
        refine (C2 _).out.mono ?_; rintro e wb ⟨rfl, hb⟩
        have Xwb : Hid (Below wr.heap.size wr wb) := Lib.hid (Xwa.out.trans (hb.mono Xwa.out.size))
        clear hb
        have hc := HCC.out wb (Xwb.out.block g hgs)
        go_wp2_with fail
        refine (C4 _).out.mono ?_; rintro e wd ⟨rfl, hb⟩
        have Xwd : Hid (Below wr.heap.size wr wd) := Lib.hid (Xwb.out.trans (hb.mono Xwb.out.size))
        clear hb
        clear hc
        have HWD : Hid (Below w.heap.size w wd) := Lib.hid (HB.out.trans (Xwd.out.mono HB.out.size))
        go_wp2_with (at_builtin; refine stp ?_)
        refine unstp ?_
        refine wpList_append_lies _ rfl (.tmp 51) (.tmp 53) 46 rfl w.heap.size 9 i0 (.string ByteArray.empty) 1 16 Tryz.underlying46 hi hz0 hz1 hz2 rfl (by decide) u5 j ((upTo f j).map .string) rfl ((own_texts_below HO2.out Xwd.out).alloc _) ⟨wd.heap.size, 0, none⟩ 1 1 [.string t] rfl rfl (World.news_of_block (cs := #[.string t]) (heap_alloc_new wd _)) (by simp [Value.oneCell']) (by omega) (by unfold maxLen; omega) (by omega) (by have := HWD.out.size; simp; omega) (wd.heap.size + 1) (by simp) ?_
        intro g2 cap2 w9 hown9 hgrow hat hlt9
        have FIN := Lib.hid (texts_up HT.out (own_texts_below HO2.out Xwd.out) HN.out (HB.out.trans (Xwd.out.mono HB.out.size)) (Nat.lt_of_lt_of_le hgs Xwd.out.size) hown9 hgrow hat)
        have F1 := Lib.hid FIN.out.1
        have F2 := Lib.hid FIN.out.2.1
        have F3 := Lib.hid (FIN.out.2.2.1.trans ((Xwd.out.block g hgs).trans HGR.out))
        have F4 := Lib.hid FIN.out.2.2.2
        have F5 : Hid (g < w9.heap.size) := Lib.hid (by have h1 := hgrow.size; have h2 := Xwd.out.size; rw [World.size_alloc] at h1; omega)
        clear hown9 hgrow hat hlt9 FIN
        go_wp2
        go_roundw
        case rel => exact ⟨j, by omega, by go_num, by rw [HT.out], F1.out, F2.out, F3.out, F4.out, F5.out⟩
        case measure => simp [intOf]; omega
    · obtain rfl : k + 1 = m := by omega
      have hz : ¬ ((k + 1 : Nat) : Int) < ((k + 1 : Nat) : Int) := by omega
      have HO3 : Hid (wr.ownsRow w.heap.size 9 1 u5 (upTo f (n + 7)).length ((upTo f (n + 7)).map .string)) := Lib.hid (by rw [upTo_length, HM.out]; exact HO.out)
      obtain ⟨j, hj⟩ : ∃ j, k + 1 = j := ⟨_, rfl⟩
      rw [hj] at hz ⊢
      clear hj hlt
      go_wp2
      go_ret
      exact ⟨_, rfl, HO3.out, HB.out⟩
set_option maxRecDepth 100000 in
theorem Steps_nokey_spec (key s : ByteArray) (h : ¬ kOk key) (w : World) :
    Calls Tryz.prog 43 #[.string key, .string s] w fun e w' => OwnTextsS w [] e w' := by
  have H1 := fun w => Lib.hid (l07Keys_no key h w)
  clear h
  have e0 := empty_own w w.heap.size (Nat.le_refl _)
  have b0 : Below w.heap.size w (w.alloc (.cells #[] 9)) := (Below.refl _ _).alloc (Nat.le_refl _) _
  go_enter Tryz.func43, Tryz.ntmps43
  go_wp2_with fail
  refine (H1 _).out.mono ?_; rintro e w1 ⟨v, rfl, hown, hb1⟩
  obtain ⟨A, c, rfl⟩ : ∃ A c, v = .slice A 0 c := by
    rcases hown.2 with ⟨rfl, _⟩ | ⟨g, cap, cur, rfl, _⟩
    · exact ⟨_, _, rfl⟩
    · exact ⟨_, _, rfl⟩
  have E1 := Lib.hid (own_texts_below e0 hb1)
  have B1 := Lib.hid (b0.trans (hb1.mono (by simp)))
  clear hown hb1 e0 b0 H1
  go_wp2
  go_ret
  exact ⟨_, rfl, E1.out, B1.out⟩
set_option maxRecDepth 100000 in
theorem Steps_noblock_spec (key s : ByteArray) (h : kOk key) (hs : ¬ s.size = 16) (w : World) :
    Calls Tryz.prog 43 #[.string key, .string s] w fun e w' => OwnTextsS w [] e w' := by
  obtain ⟨n, hn⟩ := h.of
  have H1 := fun w => Lib.hid (l07Keys_yes key n hn w)
  have hs2 : ¬ (s.size : Int) = 16 := by omega
  clear h hn hs
  have e0 := empty_own w w.heap.size (Nat.le_refl _)
  have b0 : Below w.heap.size w (w.alloc (.cells #[] 9)) := (Below.refl _ _).alloc (Nat.le_refl _) _
  go_enter Tryz.func43, Tryz.ntmps43
  go_wp2_with fail
  refine (H1 _).out.mono ?_; rintro e w1 ⟨v, rfl, hown, hb1⟩
  rw [upTo_length] at hown
  obtain ⟨g, cap, rfl, hgB, hg⟩ := hown.form (by omega)
  have E1 := Lib.hid (own_texts_below e0 hb1)
  have B1 := Lib.hid (b0.trans (hb1.mono (by simp)))
  have hn0 : ¬ ((n + 7 : Nat) : Int) = 0 := by omega
  clear hown hb1 e0 b0 H1 hgB hg
  obtain ⟨m, hm⟩ : ∃ m, n + 7 = m := ⟨_, rfl⟩
  rw [hm] at hn0 ⊢
  clear hm
  have hn3 : ((m : Int) == 0) = false := beq_eq_false_iff_ne.2 hn0
  have hs3 : ((s.size : Int) != 16) = true := bne_iff_ne.2 hs2
  go_wp2
  go_ret
  exact ⟨_, rfl, E1.out, B1.out⟩
theorem Steps_spec (key s : ByteArray) (w : World) :
    Calls Tryz.prog 43 #[.string key, .string s] w fun e w' => OwnTextsS w (stepsT key s) e w' := by
  by_cases hk : kOk key
  · by_cases hs : s.size = 16
    · obtain ⟨n, hn⟩ := hk.of
      rw [stepsT_yes key s hk hs, hn.div]
      exact Steps_yes_spec key s n hn hs w
    · rw [stepsT_no key s (fun h => hs h.2)]
      exact Steps_noblock_spec key s hk hs w
  · rw [stepsT_no key s (fun h => hk h.1)]
    exact Steps_nokey_spec key s hk w
theorem steps_lastS (key s : ByteArray) : (stepsT key s = [] ∧ lockT key s = ⟨#[]⟩) ∨ ∃ l, stepsT key s = l ++ [lockT key s] ∧ l.length ≤ 1000 := by
  by_cases h : kOk key ∧ s.size = 16
  · refine .inr ?_
    obtain ⟨n, hn⟩ := h.1.of
    have hle := hn.le
    rw [stepsT_yes key s h.1 h.2, lockT_yes key s h.1 h.2, hn.div]
    exact ⟨upTo (stepS (rkS key n) (n + 6) s) (n + 6), upTo_succ _ _, by rw [upTo_length]; omega⟩
  · exact .inl ⟨stepsT_no key s h, lockT_no key s h⟩
set_option maxRecDepth 100000 in
theorem Lock_spec (key s : ByteArray) (w : World) :
    Calls Tryz.prog 28 #[.string key, .string s] w fun e w' => e = .returned (.string (lockT key s)) ∧ Below w.heap.size w w' := by
  have H := Lib.hid (Steps_spec key s w)
  have hl := steps_lastS key s
  generalize lockT key s = x at *
  generalize stepsT key s = l at *
  go_enter Tryz.func28, Tryz.ntmps28
  go_wp2_with fail
  refine H.out.mono ?_; rintro e w1 ⟨v, rfl, ho, hb1⟩
  rcases hl with ⟨rfl, rfl⟩ | ⟨l, rfl, hl⟩
  · obtain ⟨A, c, rfl⟩ : ∃ A c, v = .slice A 0 c := by
      rcases ho.2 with ⟨rfl, _⟩ | ⟨g, cap, cur, rfl, _⟩
      · exact ⟨_, _, rfl⟩
      · exact ⟨_, _, rfl⟩
    clear ho H
    go_wp2
    go_ret
    exact ⟨rfl, hb1⟩
  · rw [List.length_append, List.length_singleton] at ho
    obtain ⟨g, c, rfl, hgB, hg⟩ := ho.form (by omega)
    have hc : w1.cell? ⟨g, l.length, none⟩ = some (.string x) := by
      rw [ho.cellAt l.length (by omega), List.map_append, List.getElem?_append_right (by rw [List.length_map]; exact Nat.le_refl _), List.length_map, Nat.sub_self]; rfl
    generalize l.length = n at *
    have h1 : (n : Int) ≤ 1000 := by omega
    have h2 : (0 : Int) ≤ (n : Int) := by omega
    have h3 : ¬ (n : Int) + 1 = 0 := by omega
    clear ho H hgB hg
    go_wp2
    go_ret
    exact ⟨rfl, hb1⟩
set_option maxRecDepth 100000 in
theorem Unlock_nokey_spec (key s : ByteArray) (h : ¬ kOk key) (w : World) :
    Calls Tryz.prog 33 #[.string key, .string s] w fun e w' => e = .returned (.string ⟨#[]⟩) ∧ Below w.heap.size w w' := by
  have H1 := fun w => Lib.hid (l07Keys_no key h w)
  clear h
  go_enter Tryz.func33, Tryz.ntmps33
  go_wp2_with fail
  refine (H1 _).out.mono ?_; rintro e w1 ⟨v, rfl, hown, hb1⟩
  obtain ⟨A, c, rfl⟩ : ∃ A c, v = .slice A 0 c := by
    rcases hown.2 with ⟨rfl, _⟩ | ⟨g, cap, cur, rfl, _⟩
    · exact ⟨_, _, rfl⟩
    · exact ⟨_, _, rfl⟩
  clear hown H1
  go_wp2
  go_ret
  exact ⟨rfl, hb1⟩
set_option maxRecDepth 100000 in
theorem Unlock_noblock_spec (key s : ByteArray) (h : kOk key) (hs : ¬ s.size = 16) (w : World) :
    Calls Tryz.prog 33 #[.string key, .string s] w fun e w' => e = .returned (.string ⟨#[]⟩) ∧ Below w.heap.size w w' := by
  obtain ⟨n, hn⟩ := h.of
  have H1 := fun w => Lib.hid (l07Keys_yes key n hn w)
  have hs2 : ¬ (s.size : Int) = 16 := by omega
  clear h hn hs
  go_enter Tryz.func33, Tryz.ntmps33
  go_wp2_with fail
  refine (H1 _).out.mono ?_; rintro e w1 ⟨v, rfl, hown, hb1⟩
  rw [upTo_length] at hown
  obtain ⟨g, cap, rfl, hgB, hg⟩ := hown.form (by omega)
  have hn0 : ¬ ((n + 7 : Nat) : Int) = 0 := by omega
  clear hown H1 hgB hg
  obtain ⟨m, hm⟩ : ∃ m, n + 7 = m := ⟨_, rfl⟩
  rw [hm] at hn0 ⊢
  clear hm
  have hn3 : ((m : Int) == 0) = false := beq_eq_false_iff_ne.2 hn0
  have hs3 : ((s.size : Int) != 16) = true := bne_iff_ne.2 hs2
  go_wp2
  go_ret
  exact ⟨rfl, hb1⟩
set_option maxRecDepth 100000 in
set_option maxHeartbeats 1600000 in
theorem Unlock_yes_spec (key s : ByteArray) (n : Nat) (h : kOf key n) (hs : s.size = 16) (w : World) :
    Calls Tryz.prog 33 #[.string key, .string s] w fun e w' => e = .returned (.string (unlockS (rkS key n) (n + 6) s)) ∧ Below w.heap.size w w' := by
  have H1 := fun w => Lib.hid (l07Keys_yes key n h w)
  have hle := h.le
  have hs2 : (s.size : Int) = 16 := by omega
  have HLE := Lib.hid hle
  obtain ⟨K, hK⟩ : ∃ K, rkS key n = K := ⟨_, rfl⟩
  have hKs : ∀ j, (K j).size = 16 := fun j => by rw [← hK]; exact rkS_size _ _ _
  obtain ⟨b, hb⟩ : ∃ b : Nat → ByteArray, (fun k => backS K (n + 6) s (n + 6 - k)) = b := ⟨_, rfl⟩
  have hbs : ∀ j, (b j).size = 16 := fun j => by rw [← hb]; exact backS_size _ _ _ hs _
  have hbn : b (n + 6) = s := by rw [← hb]; show backS K (n + 6) s (n + 6 - (n + 6)) = s; rw [Nat.sub_self]; rfl
  have hb0 : unlockS K (n + 6) s = xorS (b 0) (K 0) := by rw [← hb]; rfl
  have hbm : ∀ k, k + 1 < n + 6 → mapT ubox (shS 3 (unS (xorS (b (k + 1)) (K (k + 1))))) = b k := fun k hk => by
    rw [← hb]
    show _ = backS K (n + 6) s (n + 6 - k)
    rw [show n + 6 - k = (n + 6 - (k + 1)) + 1 by omega, backS, show n + 6 - (n + 6 - (k + 1)) = k + 1 by omega, dimS, if_pos hk]; rfl
  have hbl : ∀ k, k + 1 = n + 6 → mapT ubox (shS 3 (xorS (b (k + 1)) (K (k + 1)))) = b k := fun k hk => by
    rw [← hb]
    show _ = backS K (n + 6) s (n + 6 - k)
    rw [show n + 6 - k = (n + 6 - (k + 1)) + 1 by omega, backS, show n + 6 - (n + 6 - (k + 1)) = k + 1 by omega, dimS, if_neg (by omega)]; rfl
  rw [hK] at H1
  rw [hK, hb0]
  have HKS := Lib.hid hKs
  have HBS := Lib.hid hbs
  have HBM := Lib.hid hbm
  have HBL := Lib.hid hbl
  have HBN := Lib.hid hbn
  clear hK hKs hb hbs hbn hb0 hbm hbl h hle hs
  go_enter Tryz.func33, Tryz.ntmps33
  go_wp2_with fail
  refine (H1 _).out.mono ?_; rintro e w1 ⟨v, rfl, hown, hb1⟩
  rw [upTo_length] at hown
  obtain ⟨g, cap, rfl, hgB, hg⟩ := hown.form (by omega)
  have B1 := Lib.hid hb1
  have HW : Hid (∀ W : World, W.heap[g]? = w1.heap[g]? → ∀ j, j < n + 7 → W.cell? ⟨g, j, none⟩ = some (.string (K j))) := Lib.hid fun W hW j hj => (World.cell?_of_block (a := ⟨g, j, none⟩) hW).trans (cell_texts hown j hj)
  have hn0 : ¬ ((n + 7 : Nat) : Int) = 0 := by omega
  have hn1 : (0 : Int) < ((n + 7 : Nat) : Int) := by omega
  have hn15 : n ≤ 8 := HLE.out.2
  have hm15 : ((n + 7 : Nat) : Int) ≤ 15 := by omega
  clear hown hb1 H1
  obtain ⟨m, hm⟩ : ∃ m, n + 7 = m := ⟨_, rfl⟩
  have HM := Lib.hid hm
  rw [hm] at hn0 hn1 hm15 HW ⊢
  clear hm
  have hn3 : ((m : Int) == 0) = false := beq_eq_false_iff_ne.2 hn0
  go_wp2
  go_loopw [1, 6] (fun sv i wr => ∃ k : Nat, k < m ∧ i = .int .i64 (k : Nat) ∧ sv = .string (b k) ∧ wr.heap[g]? = w1.heap[g]? ∧ Below w.heap.size w wr ∧ g < wr.heap.size) (fun _ i _ => (intOf i).toNat)
  case atStart => exact ⟨n + 6, by have := HM.out; omega, by have := HM.out; congr 1; omega, by rw [HBN.out], rfl, B1.out, hg⟩
  case round =>
    obtain ⟨k, hk, rfl, rfl, hgr, hbel, hgs⟩ := hrel
    have HB := Lib.hid hbel
    have HGR := Lib.hid hgr
    clear hbel hgr
    by_cases hlt : 0 < k
    · obtain ⟨k0, hk0⟩ : ∃ k0, k = k0 + 1 := ⟨k - 1, by omega⟩
      have HK0 := Lib.hid hk0
      obtain ⟨x, hx⟩ : ∃ x, b k = x := ⟨_, rfl⟩
      obtain ⟨q, hq⟩ : ∃ q, K k = q := ⟨_, rfl⟩
      obtain ⟨t, ht⟩ : ∃ t, b k0 = t := ⟨_, rfl⟩
      obtain ⟨y, hy⟩ : ∃ y, xorS x q = y := ⟨_, rfl⟩
      have hx16 : x.size = 16 := by rw [← hx]; exact HBS.out k
      have hq16 : q.size = 16 := by rw [← hq]; exact HKS.out k
      have hy16 : y.size = 16 := by rw [← hy]; exact xorS_size _ _
      have hc : wr.cell? ⟨g, k, none⟩ = some (.string q) := by rw [← hq]; exact HW.out wr HGR.out k hk
      have C1 := fun W => Lib.hid (xor16_spec x q y hx16 hq16 hy W)
      have HT := Lib.hid ht
      have hi0 : (0 : Int) < (k : Int) := by omega
      have hi00 : (0 : Int) ≤ (k : Int) := by omega
      have hi1 : (k : Int) < (m : Int) := by omega
      by_cases hlast : k + 1 < m
      · have hlast2 : (k : Int) + 1 < (m : Int) := by omega
        obtain ⟨u, hu⟩ : ∃ u, unS y = u := ⟨_, rfl⟩
        obtain ⟨z, hz⟩ : ∃ z, shS 3 u = z := ⟨_, rfl⟩
        have hu16 : u.size = 16 := by rw [← hu]; exact unS_size _
        have hz16 : z.size = 16 := by rw [← hz]; exact shS_size _ _
        have hzt : mapT ubox z = t := by
          have := HBM.out k0 (by have := HM.out; omega)
          rw [← hk0, hx, hq, hy, hu, hz, ht] at this; exact this
        have C2 := fun W => Lib.hid (unmix16_spec y u hy16 hu W)
        have C3 := fun W => Lib.hid (unshift16_spec u z hu16 hz W)
        have C4 := fun W => Lib.hid (unsub16_spec z t hz16 hzt W)
        rw [hx]
        clear hx hq ht hy hx16 hq16 hy16 hu hz hu16 hz16 hzt hlt hlast hk hk0
        go_wp2_with fail
        refine (C1 _).out.mono ?_; rintro e wa ⟨rfl, hb⟩
        have Xwa := Lib.hid hb
        clear hb
        go_wp2_with fail
        refine (C2 _).out.mono ?_; rintro e wb ⟨rfl, hb⟩
        have Xwb : Hid (Below wr.heap.size wr wb) := Lib.hid (Xwa.out.trans (hb.mono Xwa.out.size))
        clear hb
        go_wp2_with fail
        refine (C3 _).out.mono ?_; rintro e wc ⟨rfl, hb⟩
        have Xwc : Hid (Below wr.heap.size wr wc) := Lib.hid (Xwb.out.trans (hb.mono Xwb.out.size))
        clear hb
        go_wp2_with fail
        refine (C4 _).out.mono ?_; rintro e wd ⟨rfl, hb⟩
        have Xwd : Hid (Below wr.heap.size wr wd) := Lib.hid (Xwc.out.trans (hb.mono Xwc.out.size))
        clear hb
        have HWD : Hid (Below w.heap.size w wd) := Lib.hid (HB.out.trans (Xwd.out.mono HB.out.size))
        have HG2 := Lib.hid ((Xwd.out.block g hgs).trans HGR.out)
        have HS2 : Hid (g < wd.heap.size) := Lib.hid (Nat.lt_of_lt_of_le hgs Xwd.out.size)
        have hk1 : (k : Int) - 1 = (k0 : Int) := by have := HK0.out; omega
        have hk2 : IntKind.i64.wrap ((k : Int) - 1) = (k0 : Int) := by rw [hk1]; exact IntWalk.i64_in _ (by omega)
        go_wp2

        go_roundw
        case rel => exact ⟨k0, by have := HK0.out; omega, by first | rfl | go_num, by rw [HT.out], HG2.out, HWD.out, HS2.out⟩
        case measure => have := HK0.out; simp [intOf]; omega
      · have hlast2 : ¬ (k : Int) + 1 < (m : Int) := by omega
        obtain ⟨z, hz⟩ : ∃ z, shS 3 y = z := ⟨_, rfl⟩
        have hz16 : z.size = 16 := by rw [← hz]; exact shS_size _ _
        have hzt : mapT ubox z = t := by
          have := HBL.out k0 (by have := HM.out; omega)
          rw [← hk0, hx, hq, hy, hz, ht] at this; exact this
        have C3 := fun W => Lib.hid (unshift16_spec y z hy16 hz W)
        have C4 := fun W => Lib.hid (unsub16_spec z t hz16 hzt W)
        rw [hx]
        clear hx hq ht hy hx16 hq16 hy16 hz hz16 hzt hlt hlast hk hk0
        go_wp2_with fail
        refine (C1 _).out.mono ?_; rintro e wa ⟨rfl, hb⟩
        have Xwa := Lib.hid hb
        clear hb
        go_wp2_with fail
        refine (C3 _).out.mono ?_; rintro e wc ⟨rfl, hb⟩
        have Xwc : Hid (Below wr.heap.size wr wc) := Lib.hid (Xwa.out.trans (hb.mono Xwa.out.size))
        clear hb
        go_wp2_with fail
        refine (C4 _).out.mono ?_; rintro e wd ⟨rfl, hb⟩
        have Xwd : Hid (Below wr.heap.size wr wd) := Lib.hid (Xwc.out.trans (hb.mono Xwc.out.size))
        clear hb
        have HWD : Hid (Below w.heap.size w wd) := Lib.hid (HB.out.trans (Xwd.out.mono HB.out.size))
        have HG2 := Lib.hid ((Xwd.out.block g hgs).trans HGR.out)
        have HS2 : Hid (g < wd.heap.size) := Lib.hid (Nat.lt_of_lt_of_le hgs Xwd.out.size)
        have hk1 : (k : Int) - 1 = (k0 : Int) := by have := HK0.out; omega
        have hk2 : IntKind.i64.wrap ((k : Int) - 1) = (k0 : Int) := by rw [hk1]; exact IntWalk.i64_in _ (by omega)
        go_wp2

        go_roundw
        case rel => exact ⟨k0, by have := HK0.out; omega, by first | rfl | go_num, by rw [HT.out], HG2.out, HWD.out, HS2.out⟩
        case measure => have := HK0.out; simp [intOf]; omega
    · obtain rfl : k = 0 := by omega
      have hc : wr.cell? ⟨g, 0, none⟩ = some (.string (K 0)) := HW.out wr HGR.out 0 (by omega)
      obtain ⟨r, hr⟩ : ∃ r, xorS (b 0) (K 0) = r := ⟨_, rfl⟩
      have C1 := fun W => Lib.hid (xor16_spec (b 0) (K 0) r (HBS.out 0) (HKS.out 0) hr W)
      have HRR := Lib.hid hr
      clear hr
      obtain ⟨x, hx⟩ : ∃ x, b 0 = x := ⟨_, rfl⟩
      obtain ⟨q, hq⟩ : ∃ q, K 0 = q := ⟨_, rfl⟩
      rw [hx, hq] at C1
      rw [hq] at hc
      rw [hx]
      clear hx hq
      go_wp2_with fail
      refine (C1 _).out.mono ?_; rintro e w2 ⟨rfl, hb2⟩
      go_wp2
      go_ret
      exact ⟨by rw [HRR.out]; rfl, HB.out.trans (hb2.mono HB.out.size)⟩
theorem Unlock_spec (key s : ByteArray) (w : World) :
    Calls Tryz.prog 33 #[.string key, .string s] w fun e w' => e = .returned (.string (unlockT key s)) ∧ Below w.heap.size w w' := by
  by_cases hk : kOk key
  · by_cases hs : s.size = 16
    · obtain ⟨n, hn⟩ := hk.of
      rw [unlockT_yes key s hk hs, hn.div]
      exact Unlock_yes_spec key s n hn hs w
    · rw [unlockT_no key s (fun h => hs h.2)]
      exact Unlock_noblock_spec key s hk hs w
  · rw [unlockT_no key s (fun h => hk h.1)]
    exact Unlock_nokey_spec key s hk w
end Go.Proofs.YtbfmbdohebdbaaaGreatDoor
