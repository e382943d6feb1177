/-
  What spec.l07Keys answers: the round keys as texts.
-/
import Derived.Test.YtipcgdhjlpjcaaaGreatDoorKey
import Derived.Test.YtipcgdhjlpjcaaaGreatDoorLockM
import Derived.Test.YtipcgdhjlpjcaaaGreatDoorLists
import Derived.Test.YtipcgdhjlpjcaaaGreatDoorWord
import Derived.Deep.AppendLies
import Derived.Deep.RegionHeld
import Derived.Laws.Concat
set_option linter.unusedVariables false
set_option linter.unusedSimpArgs false
namespace Go.Proofs.YtipcgdhjlpjcaaaGreatDoor
open Go Go.RowKit Go.Proofs.YtipcgdhjlpjcaaaGreatDoor.Lk
attribute [local go_sem ↓] Go.wp_at_zero Go.wp_at_succ

/-- the contract of a list of texts. -/
def OwnTextsS (w : World) (l : List ByteArray) (e : Ending) (w' : World) : Prop := ∃ v, e = .returned v ∧ w'.ownsRow w.heap.size 9 1 v l.length (l.map .string) ∧ Below w.heap.size w w'
theorem words4 (f : Nat → UInt32) : putW (f 0) ++ putW (f 1) ++ putW (f 2) ++ putW (f 3) = ofW f := by
  have h1 := outW_up f 0
  have h2 := outW_up f 1
  have h3 := outW_up f 2
  have h4 := outW_up f 3
  have h0 : outW f 0 ++ putW (f 0) = putW (f 0) := by rw [outW_0]; exact ByteArray.empty_append
  rw [h0] at h1
  rw [h1, h2, h3, h4, outW_4]
theorem empty_own (w : World) (B : Nat) (hB : B ≤ w.heap.size) : (w.alloc (.cells #[] 9)).ownsRow B 9 1 (.slice (some ⟨w.heap.size, 0, none⟩) 0 0) 0 [] :=
  ⟨rfl, .inr ⟨_, _, _, rfl, hB, heap_alloc_new w _, Nat.le_refl _, by unfold maxLen; omega, rfl, rfl⟩⟩
/-- what an append of a text leaves, beside a row at g that stays. -/
theorem texts_up {w wr w5 : World} {k g g2 cap2 : Nat} {v : Value} {f : Nat → ByteArray} {X : ByteArray} {o : Obj} (hX : f k = X) (hown : wr.ownsRow w.heap.size 9 1 v k ((upTo f k).map .string)) (hne : v.ownBlock ≠ some g) (hb : Below w.heap.size w wr) (hg : g < wr.heap.size)
    (hown5 : w5.ownsRow w.heap.size 9 1 (.slice (some ⟨g2, 0, none⟩) (k + 1) cap2) (k + 1) ((upTo f k).map .string ++ [.string X])) (hgrow : (wr.alloc o).grownBy w5 v.ownBlock) (hat : v.ownBlock = some g2 ∨ g2 = wr.heap.size + 1) :
    w5.ownsRow w.heap.size 9 1 (.slice (some ⟨g2, 0, none⟩) (k + 1) cap2) (k + 1) ((upTo f (k + 1)).map .string) ∧ (Value.slice (some ⟨g2, 0, none⟩) (k + 1) cap2).ownBlock ≠ some g ∧ w5.heap[g]? = wr.heap[g]? ∧ Below w.heap.size w w5 := by
  refine ⟨?_, ?_, ?_, below_append hown hb hgrow⟩
  · rw [upTo_succ, List.map_append, hX]; exact hown5
  · intro e
    have e : g2 = g := by simpa [Value.ownBlock] using e
    rcases hat with h | h
    · rw [h, e] at hne; exact hne rfl
    · omega
  · exact (hgrow.block g (by simp; omega) (fun e => hne e.symm)).trans (heap_alloc_old wr _ hg)
theorem own_texts_below {w w' : World} {B n : Nat} {v : Value} {xs : List Value} {t : TypeId} (h : w.ownsRow B t 1 v n xs) (hb : Below w.heap.size w w') : w'.ownsRow B t 1 v n xs := by
  refine ⟨h.1, ?_⟩
  rcases h.2 with hn | ⟨g, cap, cur, hv, hB, hg, rest⟩
  · exact .inl hn
  · exact .inr ⟨g, cap, cur, hv, hB, (hb.block g (Array.getElem?_eq_some_iff.1 hg).1).trans hg, rest⟩
set_option maxRecDepth 100000 in
set_option maxHeartbeats 1600000 in
theorem l07Keys_yes (s : ByteArray) (n : Nat) (h : kOf s n) (w : World) :
    Calls Tryz.prog 30 #[.string s] w fun e w' => OwnTextsS w (upTo (rkS s n) (n + 7)) e w' := by
  have H1 := fun w => Lib.hid (Expand_yes_spec s n h w)
  have hle := h.le
  obtain ⟨i0, hi, hz0, hz1, hz2⟩ := info_parts infoS
  obtain ⟨L, hL⟩ : ∃ L, kL n = L := ⟨_, rfl⟩
  have hLn : L = 4 * (n + 7) := by rw [← hL]; rfl
  have hL60 : (L : Int) ≤ 60 := by omega
  have HL := Lib.hid hLn
  have HLE := Lib.hid hle
  rw [hL] at H1
  clear hL hLn h hle
  have e0 := empty_own w w.heap.size (Nat.le_refl _)
  have b0 : Below w.heap.size w (w.alloc (.cells #[] 9)) := (Below.refl _ _).alloc (Nat.le_refl _) _
  go_enter Tryz.func30, Tryz.ntmps30
  go_wp2_with fail
  refine (H1 _).out.mono ?_; rintro e w1 ⟨v, rfl, hown, hb1⟩
  obtain ⟨g, cap, rfl, hgB, hg⟩ := hown.form (by have := HL.out; omega)
  have hsz := hb1.size
  rw [World.size_alloc] at hgB hsz
  have E1 := Lib.hid (own_texts_below e0 hb1)
  have B1 := Lib.hid (b0.trans (hb1.mono (by simp)))
  have HW : Hid (∀ j, j < L → w1.cell? ⟨g, j, none⟩ = some (.int .i64 ((ew s n j).toNat : Int))) := Lib.hid fun j hj => (hown.cellAt j (by omega)).trans (cells64_at _ _ _ hj)
  clear hown hb1 e0 b0 H1
  go_wp2
  go_loopw [3, 5] (fun v i wr => ∃ k : Nat, k ≤ n + 7 ∧ i = .int .i64 (4 * k : Nat) ∧ wr.ownsRow w.heap.size 9 1 v k ((upTo (rkS s n) k).map .string) ∧ v.ownBlock ≠ some g ∧ wr.heap[g]? = w1.heap[g]? ∧ Below w.heap.size w wr ∧ g < wr.heap.size) (fun _ i _ => L - (intOf i).toNat)
  case atStart => exact ⟨0, Nat.zero_le _, rfl, E1.out, by simp [Value.ownBlock]; omega, rfl, B1.out, hg⟩
  case round =>
    obtain ⟨k, hk, rfl, hown, hne, hgr, hbel, hgs⟩ := hrel
    by_cases hlt : k < n + 7
    · obtain ⟨i, hi4⟩ : ∃ i, 4 * k = i := ⟨_, rfl⟩
      obtain ⟨c, hc⟩ : ∃ c, c = fun j => ew s n (i + j) := ⟨_, rfl⟩
      have hiL : i + 4 ≤ L := by have := HL.out; omega
      have hcell : ∀ W' : World, W'.heap[g]? = wr.heap[g]? → ∀ j, j < 4 → W'.cell? ⟨g, i + j, none⟩ = some (.int .i64 ((c j).toNat : Int)) := fun W' hW' j hj => by
        rw [hc]
        exact (World.cell?_of_block (a := ⟨g, i + j, none⟩) (hW'.trans hgr)).trans (HW.out (i + j) (by omega))
      have SM : Hid (∀ W' : World, W'.heap[g]? = wr.heap[g]? → W'.cell? ⟨g, i, none⟩ = some (.int .i64 ((c 0).toNat : Int)) ∧ W'.cell? ⟨g, i + 1, none⟩ = some (.int .i64 ((c 1).toNat : Int)) ∧ W'.cell? ⟨g, i + 2, none⟩ = some (.int .i64 ((c 2).toNat : Int)) ∧ W'.cell? ⟨g, i + 3, none⟩ = some (.int .i64 ((c 3).toNat : Int))) := Lib.hid fun W' hW' => ⟨hcell W' hW' 0 (by omega), hcell W' hW' 1 (by omega), hcell W' hW' 2 (by omega), hcell W' hW' 3 (by omega)⟩
      have hX : rkS s n k = putW (c 0) ++ putW (c 1) ++ putW (c 2) ++ putW (c 3) := by rw [words4, hc, ← hi4]; rfl
      have P0 := fun W => Lib.hid (PutWord_spec ((c 0).toNat : Int) W)
      have P1 := fun W => Lib.hid (PutWord_spec ((c 1).toNat : Int) W)
      have P2 := fun W => Lib.hid (PutWord_spec ((c 2).toNat : Int) W)
      have P3 := fun W => Lib.hid (PutWord_spec ((c 3).toNat : Int) W)
      simp only [w32_of] at P0 P1 P2 P3
      have q1 := fun W => run_string_add_sum (P := Tryz.prog) (w := W) (putW (c 0)) (putW (c 1)) (by rw [putW_size, putW_size]; decide)
      have q2 := fun W => run_string_add_sum (P := Tryz.prog) (w := W) (putW (c 0) ++ putW (c 1)) (putW (c 2)) (by rw [ByteArray.size_append, putW_size, putW_size, putW_size]; decide)
      have q3 := fun W => run_string_add_sum (P := Tryz.prog) (w := W) (putW (c 0) ++ putW (c 1) ++ putW (c 2)) (putW (c 3)) (by rw [ByteArray.size_append, ByteArray.size_append, putW_size, putW_size, putW_size, putW_size]; decide)
      have l0 : ((c 0).toNat : Int) < 4294967296 := by have := w32_lt (c 0); omega
      have l1 : ((c 1).toNat : Int) < 4294967296 := by have := w32_lt (c 1); omega
      have l2 : ((c 2).toNat : Int) < 4294967296 := by have := w32_lt (c 2); omega
      have l3 : ((c 3).toNat : Int) < 4294967296 := by have := w32_lt (c 3); omega
      generalize putW (c 0) ++ putW (c 1) ++ putW (c 2) ++ putW (c 3) = X4 at *
      generalize putW (c 0) ++ putW (c 1) ++ putW (c 2) = X3 at *
      generalize putW (c 0) ++ putW (c 1) = X2 at *
      generalize putW (c 0) = Y0 at *
      generalize putW (c 1) = Y1 at *
      generalize putW (c 2) = Y2 at *
      generalize putW (c 3) = Y3 at *
      generalize c 0 = c0 at *
      generalize c 1 = c1 at *
      generalize c 2 = c2 at *
      generalize c 3 = c3 at *
      have HX := Lib.hid hX
      have HO := Lib.hid hown
      have HN := Lib.hid hne
      have HB := Lib.hid hbel
      have HI := Lib.hid hi4
      have HGR := Lib.hid hgr
      have hi0 : (0 : Int) ≤ (i : Int) := by omega
      have hi1 : (i : Int) + 3 < (L : Int) := by omega
      have hi2 : (i : Int) + 2 < (L : Int) := by omega
      have hi3 : (i : Int) + 1 < (L : Int) := by omega
      have hi5 : (i : Int) < (L : Int) := by omega
      have r1 : IntKind.i64.wrap ((i : Int) + 1) = (i : Int) + 1 := IntWalk.i64_in _ (by omega)
      have r2 : IntKind.i64.wrap ((i : Int) + 2) = (i : Int) + 2 := IntWalk.i64_in _ (by omega)
      have r3 : IntKind.i64.wrap ((i : Int) + 3) = (i : Int) + 3 := IntWalk.i64_in _ (by omega)
      have t1 : ((i : Int) + 1).toNat = i + 1 := by omega
      have t2 : ((i : Int) + 2).toNat = i + 2 := by omega
      have t3 : ((i : Int) + 3).toNat = i + 3 := by omega
      have z1 : (0 : Int) ≤ (i : Int) + 1 := by omega
      have z2 : (0 : Int) ≤ (i : Int) + 2 := by omega
      have z3 : (0 : Int) ≤ (i : Int) + 3 := by omega
      have hk15 : k ≤ 15 := by have := HLE.out; omega
      have hS0 := SM.out wr.drew rfl
      have HSZ : Hid (w.heap.size ≤ wr.heap.size) := Lib.hid hbel.size
      rw [hi4]
      clear hc hcell hX hown hne hgr hbel hi4 HW E1 B1
      go_wp2
      refine wp_region_held_drew (S := fun W' => W'.cell? ⟨g, i, none⟩ = some (.int .i64 (c0.toNat : Int)) ∧ W'.cell? ⟨g, i + 1, none⟩ = some (.int .i64 (c1.toNat : Int)) ∧ W'.cell? ⟨g, i + 2, none⟩ = some (.int .i64 (c2.toNat : Int)) ∧ W'.cell? ⟨g, i + 3, none⟩ = some (.int .i64 (c3.toNat : Int))) (by kernel_rfl) hS0 (fun hS => ?_)
      refine wpAnyH_take (i := 0) (v := ?_) rfl (by kernel_rfl) (by kernel_rfl) (by kernel_rfl) (fun _ _ _ h => h) (Or.inl ⟨by kernel_rfl, ?_⟩) hS ?_
      rotate_left
      · intro w hSw
        obtain ⟨s0, s1, s2, s3⟩ := hSw
        go_simp
        first | done | with_reducible rfl
      try simp only [List.getElem_toArray, List.getElem_cons_succ, List.getElem_cons_zero, Act.put, List.setIfInBounds_toArray, List.set_cons_zero, List.set_cons_succ]
      refine wpAnyH_take (i := 1) (v := ?_) rfl (by kernel_rfl) (by kernel_rfl) (by kernel_rfl) (fun _ _ _ h => h) (Or.inl ⟨by kernel_rfl, ?_⟩) hS ?_
      rotate_left
      · intro w hSw
        obtain ⟨s0, s1, s2, s3⟩ := hSw
        go_simp
        first | done | with_reducible rfl
      try simp only [List.getElem_toArray, List.getElem_cons_succ, List.getElem_cons_zero, Act.put, List.setIfInBounds_toArray, List.set_cons_zero, List.set_cons_succ]
      refine wpAnyH_take (i := 2) (v := ?_) rfl (by kernel_rfl) (by kernel_rfl) (by kernel_rfl) (fun _ _ _ h => h) (Or.inl ⟨by kernel_rfl, ?_⟩) hS ?_
      rotate_left
      · intro w hSw
        obtain ⟨s0, s1, s2, s3⟩ := hSw
        go_simp
        first | done | with_reducible rfl
      try simp only [List.getElem_toArray, List.getElem_cons_succ, List.getElem_cons_zero, Act.put, List.setIfInBounds_toArray, List.set_cons_zero, List.set_cons_succ]
      refine wpAnyH_take (i := 3) (v := ?_) rfl (by kernel_rfl) (by kernel_rfl) (by kernel_rfl) (fun _ _ _ h => h) (Or.inl ⟨by kernel_rfl, ?_⟩) hS ?_
      rotate_left
      · intro w hSw
        obtain ⟨s0, s1, s2, s3⟩ := hSw
        go_simp
        first | done | with_reducible rfl
      try simp only [List.getElem_toArray, List.getElem_cons_succ, List.getElem_cons_zero, Act.put, List.setIfInBounds_toArray, List.set_cons_zero, List.set_cons_succ]
      refine wpAnyH_take (i := 4) (v := ?_) rfl (by kernel_rfl) (by kernel_rfl) (by kernel_rfl) (fun _ _ _ h => h) (Or.inl ⟨by kernel_rfl, ?_⟩) hS ?_
      rotate_left
      · intro w hSw
        obtain ⟨s0, s1, s2, s3⟩ := hSw
        go_simp
        first | done | with_reducible rfl
      try simp only [List.getElem_toArray, List.getElem_cons_succ, List.getElem_cons_zero, Act.put, List.setIfInBounds_toArray, List.set_cons_zero, List.set_cons_succ]
      refine wpAnyH_take (i := 6) (v := ?_) rfl (by kernel_rfl) (by kernel_rfl) (by kernel_rfl) (fun _ _ _ h => h) (Or.inl ⟨by kernel_rfl, ?_⟩) hS ?_
      rotate_left
      · intro w hSw
        obtain ⟨s0, s1, s2, s3⟩ := hSw
        go_simp
        first | done | with_reducible rfl
      try simp only [List.getElem_toArray, List.getElem_cons_succ, List.getElem_cons_zero, Act.put, List.setIfInBounds_toArray, List.set_cons_zero, List.set_cons_succ]
      refine wpAnyH_take (i := 7) (v := ?_) rfl (by kernel_rfl) (by kernel_rfl) (by kernel_rfl) (fun _ _ _ h => h) (Or.inl ⟨by kernel_rfl, ?_⟩) hS ?_
      rotate_left
      · intro w hSw
        obtain ⟨s0, s1, s2, s3⟩ := hSw
        go_simp
        first | done | with_reducible rfl
      try simp only [List.getElem_toArray, List.getElem_cons_succ, List.getElem_cons_zero, Act.put, List.setIfInBounds_toArray, List.set_cons_zero, List.set_cons_succ]
      refine wpAnyH_take (i := 8) (v := ?_) rfl (by kernel_rfl) (by kernel_rfl) (by kernel_rfl) (fun _ _ _ h => h) (Or.inl ⟨by kernel_rfl, ?_⟩) hS ?_
      rotate_left
      · intro w hSw
        obtain ⟨s0, s1, s2, s3⟩ := hSw
        go_simp
        first | done | with_reducible rfl
      try simp only [List.getElem_toArray, List.getElem_cons_succ, List.getElem_cons_zero, Act.put, List.setIfInBounds_toArray, List.set_cons_zero, List.set_cons_succ]
      refine wpAnyH_take (i := 9) (v := ?_) rfl (by kernel_rfl) (by kernel_rfl) (by kernel_rfl) (fun _ _ _ h => h) (Or.inl ⟨by kernel_rfl, ?_⟩) hS ?_
      rotate_left
      · intro w hSw
        obtain ⟨s0, s1, s2, s3⟩ := hSw
        go_simp
        first | done | with_reducible rfl
      try simp only [List.getElem_toArray, List.getElem_cons_succ, List.getElem_cons_zero, Act.put, List.setIfInBounds_toArray, List.set_cons_zero, List.set_cons_succ]
      refine wpAnyH_take (i := 10) (v := ?_) rfl (by kernel_rfl) (by kernel_rfl) (by kernel_rfl) (fun _ _ _ h => h) (Or.inl ⟨by kernel_rfl, ?_⟩) hS ?_
      rotate_left
      · intro w hSw
        obtain ⟨s0, s1, s2, s3⟩ := hSw
        go_simp
        first | done | with_reducible rfl
      try simp only [List.getElem_toArray, List.getElem_cons_succ, List.getElem_cons_zero, Act.put, List.setIfInBounds_toArray, List.set_cons_zero, List.set_cons_succ]
      refine wpAnyH_take (i := 13) (v := ?_) rfl (by kernel_rfl) (by kernel_rfl) (by kernel_rfl) (fun _ _ _ h => h) (Or.inl ⟨by kernel_rfl, ?_⟩) hS ?_
      rotate_left
      · intro w hSw
        obtain ⟨s0, s1, s2, s3⟩ := hSw
        go_simp
        first | done | with_reducible rfl
      try simp only [List.getElem_toArray, List.getElem_cons_succ, List.getElem_cons_zero, Act.put, List.setIfInBounds_toArray, List.set_cons_zero, List.set_cons_succ]
      refine wpAnyH_take (i := 14) (v := ?_) rfl (by kernel_rfl) (by kernel_rfl) (by kernel_rfl) (fun _ _ _ h => h) (Or.inl ⟨by kernel_rfl, ?_⟩) hS ?_
      rotate_left
      · intro w hSw
        obtain ⟨s0, s1, s2, s3⟩ := hSw
        go_simp
        first | done | with_reducible rfl
      try simp only [List.getElem_toArray, List.getElem_cons_succ, List.getElem_cons_zero, Act.put, List.setIfInBounds_toArray, List.set_cons_zero, List.set_cons_succ]
      refine wpAnyH_take (i := 15) (v := ?_) rfl (by kernel_rfl) (by kernel_rfl) (by kernel_rfl) (fun _ _ _ h => h) (Or.inl ⟨by kernel_rfl, ?_⟩) hS ?_
      rotate_left
      · intro w hSw
        obtain ⟨s0, s1, s2, s3⟩ := hSw
        go_simp
        first | done | with_reducible rfl
      try simp only [List.getElem_toArray, List.getElem_cons_succ, List.getElem_cons_zero, Act.put, List.setIfInBounds_toArray, List.set_cons_zero, List.set_cons_succ]
      refine wpAnyH_take (i := 16) (v := ?_) rfl (by kernel_rfl) (by kernel_rfl) (by kernel_rfl) (fun _ _ _ h => h) (Or.inl ⟨by kernel_rfl, ?_⟩) hS ?_
      rotate_left
      · intro w hSw
        obtain ⟨s0, s1, s2, s3⟩ := hSw
        go_simp
        first | done | with_reducible rfl
      try simp only [List.getElem_toArray, List.getElem_cons_succ, List.getElem_cons_zero, Act.put, List.setIfInBounds_toArray, List.set_cons_zero, List.set_cons_succ]
      refine wpAnyH_take (i := 17) (v := ?_) rfl (by kernel_rfl) (by kernel_rfl) (by kernel_rfl) (fun _ _ _ h => h) (Or.inl ⟨by kernel_rfl, ?_⟩) hS ?_
      rotate_left
      · intro w hSw
        obtain ⟨s0, s1, s2, s3⟩ := hSw
        go_simp
        first | done | with_reducible rfl
      try simp only [List.getElem_toArray, List.getElem_cons_succ, List.getElem_cons_zero, Act.put, List.setIfInBounds_toArray, List.set_cons_zero, List.set_cons_succ]
      refine wpAnyH_take (i := 20) (v := ?_) rfl (by kernel_rfl) (by kernel_rfl) (by kernel_rfl) (fun _ _ _ h => h) (Or.inl ⟨by kernel_rfl, ?_⟩) hS ?_
      rotate_left
      · intro w hSw
        obtain ⟨s0, s1, s2, s3⟩ := hSw
        go_simp
        first | done | with_reducible rfl
      try simp only [List.getElem_toArray, List.getElem_cons_succ, List.getElem_cons_zero, Act.put, List.setIfInBounds_toArray, List.set_cons_zero, List.set_cons_succ]
      refine wpAnyH_take (i := 21) (v := ?_) rfl (by kernel_rfl) (by kernel_rfl) (by kernel_rfl) (fun _ _ _ h => h) (Or.inl ⟨by kernel_rfl, ?_⟩) hS ?_
      rotate_left
      · intro w hSw
        obtain ⟨s0, s1, s2, s3⟩ := hSw
        go_simp
        first | done | with_reducible rfl
      try simp only [List.getElem_toArray, List.getElem_cons_succ, List.getElem_cons_zero, Act.put, List.setIfInBounds_toArray, List.set_cons_zero, List.set_cons_succ]
      refine wpAnyH_take (i := 22) (v := ?_) rfl (by kernel_rfl) (by kernel_rfl) (by kernel_rfl) (fun _ _ _ h => h) (Or.inl ⟨by kernel_rfl, ?_⟩) hS ?_
      rotate_left
      · intro w hSw
        obtain ⟨s0, s1, s2, s3⟩ := hSw
        go_simp
        first | done | with_reducible rfl
      try simp only [List.getElem_toArray, List.getElem_cons_succ, List.getElem_cons_zero, Act.put, List.setIfInBounds_toArray, List.set_cons_zero, List.set_cons_succ]
      refine wpAnyH_take (i := 23) (v := ?_) rfl (by kernel_rfl) (by kernel_rfl) (by kernel_rfl) (fun _ _ _ h => h) (Or.inl ⟨by kernel_rfl, ?_⟩) hS ?_
      rotate_left
      · intro w hSw
        obtain ⟨s0, s1, s2, s3⟩ := hSw
        go_simp
        first | done | with_reducible rfl
      try simp only [List.getElem_toArray, List.getElem_cons_succ, List.getElem_cons_zero, Act.put, List.setIfInBounds_toArray, List.set_cons_zero, List.set_cons_succ]
      refine wpAnyH_take (i := 24) (v := ?_) rfl (by kernel_rfl) (by kernel_rfl) (by kernel_rfl) (fun _ _ _ h => h) (Or.inl ⟨by kernel_rfl, ?_⟩) hS ?_
      rotate_left
      · intro w hSw
        obtain ⟨s0, s1, s2, s3⟩ := hSw
        go_simp
        first | done | with_reducible rfl
      try simp only [List.getElem_toArray, List.getElem_cons_succ, List.getElem_cons_zero, Act.put, List.setIfInBounds_toArray, List.set_cons_zero, List.set_cons_succ]
      refine wpAnyH_ready (rs := [5]) (by kernel_rfl) (by simp) ?_
      refine AllReadyH.cons rfl (fun K hK => ?_) AllReadyH.nil
      go_simp
      refine (P0 _).out.mono ?_; rintro e wA ⟨rfl, hb⟩
      have HBwA : Hid (Below wr.heap.size wr wA) := Lib.hid (((Below.refl wr.heap.size wr).drew).trans (hb.mono (by exact Nat.le_refl _)))
      have hSA0 := SM.out wA (HBwA.out.block g hgs)
      clear hb
      refine hK.out _ _ hSA0 (fun hSA => ?_)
      clear hK K
      try simp only [List.getElem_toArray, List.getElem_cons_succ, List.getElem_cons_zero, Act.put, List.setIfInBounds_toArray, List.set_cons_zero, List.set_cons_succ]
      refine wpAnyH_ready (rs := [11]) (by kernel_rfl) (by simp) ?_
      refine AllReadyH.cons rfl (fun K hK => ?_) AllReadyH.nil
      go_simp
      refine (P1 _).out.mono ?_; rintro e wB ⟨rfl, hb⟩
      have HBwB : Hid (Below wr.heap.size wr wB) := Lib.hid (HBwA.out.trans (hb.mono (by exact HBwA.out.size)))
      have hSB0 := SM.out wB (HBwB.out.block g hgs)
      clear hb
      refine hK.out _ _ hSB0 (fun hSB => ?_)
      clear hK K
      try simp only [List.getElem_toArray, List.getElem_cons_succ, List.getElem_cons_zero, Act.put, List.setIfInBounds_toArray, List.set_cons_zero, List.set_cons_succ]
      refine wpAnyH_take (i := 12) (v := ?_) rfl (by kernel_rfl) (by kernel_rfl) (by kernel_rfl) (fun _ _ _ h => h) (Or.inl ⟨by kernel_rfl, ?_⟩) hSB ?_
      rotate_left
      · intro w hSw
        obtain ⟨s0, s1, s2, s3⟩ := hSw
        go_simp
        first | done | with_reducible rfl
      try simp only [List.getElem_toArray, List.getElem_cons_succ, List.getElem_cons_zero, Act.put, List.setIfInBounds_toArray, List.set_cons_zero, List.set_cons_succ]
      refine wpAnyH_ready (rs := [18]) (by kernel_rfl) (by simp) ?_
      refine AllReadyH.cons rfl (fun K hK => ?_) AllReadyH.nil
      go_simp
      refine (P2 _).out.mono ?_; rintro e wC ⟨rfl, hb⟩
      have HBwC : Hid (Below wr.heap.size wr wC) := Lib.hid (HBwB.out.trans (hb.mono (by exact HBwB.out.size)))
      have hSC0 := SM.out wC (HBwC.out.block g hgs)
      clear hb
      refine hK.out _ _ hSC0 (fun hSC => ?_)
      clear hK K
      try simp only [List.getElem_toArray, List.getElem_cons_succ, List.getElem_cons_zero, Act.put, List.setIfInBounds_toArray, List.set_cons_zero, List.set_cons_succ]
      refine wpAnyH_take (i := 19) (v := ?_) rfl (by kernel_rfl) (by kernel_rfl) (by kernel_rfl) (fun _ _ _ h => h) (Or.inl ⟨by kernel_rfl, ?_⟩) hSC ?_
      rotate_left
      · intro w hSw
        obtain ⟨s0, s1, s2, s3⟩ := hSw
        go_simp
        first | done | with_reducible rfl
      try simp only [List.getElem_toArray, List.getElem_cons_succ, List.getElem_cons_zero, Act.put, List.setIfInBounds_toArray, List.set_cons_zero, List.set_cons_succ]
      refine wpAnyH_ready (rs := [25]) (by kernel_rfl) (by simp) ?_
      refine AllReadyH.cons rfl (fun K hK => ?_) AllReadyH.nil
      go_simp
      refine (P3 _).out.mono ?_; rintro e wD ⟨rfl, hb⟩
      have HBwD : Hid (Below wr.heap.size wr wD) := Lib.hid (HBwC.out.trans (hb.mono (by exact HBwC.out.size)))
      have hSD0 := SM.out wD (HBwD.out.block g hgs)
      clear hb
      refine hK.out _ _ hSD0 (fun hSD => ?_)
      clear hK K
      try simp only [List.getElem_toArray, List.getElem_cons_succ, List.getElem_cons_zero, Act.put, List.setIfInBounds_toArray, List.set_cons_zero, List.set_cons_succ]
      refine wpAnyH_take (i := 26) (v := ?_) rfl (by kernel_rfl) (by kernel_rfl) (by kernel_rfl) (fun _ _ _ h => h) (Or.inl ⟨by kernel_rfl, ?_⟩) hSD ?_
      rotate_left
      · intro w hSw
        obtain ⟨s0, s1, s2, s3⟩ := hSw
        go_simp
        first | done | with_reducible rfl
      try simp only [List.getElem_toArray, List.getElem_cons_succ, List.getElem_cons_zero, Act.put, List.setIfInBounds_toArray, List.set_cons_zero, List.set_cons_succ]
      refine wpAnyH_ready (rs := [27]) (by kernel_rfl) (by simp) ?_
      refine AllReadyH.cons rfl (fun K hK => ?_) AllReadyH.nil
      go_simp
      have hSE0 := SM.out (wD.alloc (.cells #[.string X4] 9)) ((heap_alloc_old wD _ (Nat.lt_of_lt_of_le hgs HBwD.out.size)).trans (HBwD.out.block g hgs))
      refine hK.out _ _ hSE0 (fun hSE => ?_)
      clear hK K
      try simp only [List.getElem_toArray, List.getElem_cons_succ, List.getElem_cons_zero, Act.put, List.setIfInBounds_toArray, List.set_cons_zero, List.set_cons_succ]
      refine wpAnyH_ready (rs := [28]) (by kernel_rfl) (by simp) ?_
      refine AllReadyH.cons rfl (fun K hK => ?_) AllReadyH.nil
      refine Eq.mpr (if_pos (by rfl)) ?_
      refine wp_append_lies (wD.alloc (.cells #[.string X4] 9)) (.tmp 16) (.tmp 43) 28 rfl w.heap.size 9 i0 (.string ByteArray.empty) 1 16 Tryz.underlying28 hi hz0 hz1 hz2 rfl (by decide) u3 k ((upTo (rkS s n) k).map .string) rfl ((own_texts_below HO.out HBwD.out).alloc _) ⟨wD.heap.size, 0, none⟩ 1 1 [.string X4] rfl rfl (World.news_of_block (cs := #[.string X4]) (heap_alloc_new wD _)) (by simp [Value.oneCell']) (by omega) (by unfold maxLen; omega) (by omega) (by have := HSZ.out; have := HBwD.out.size; simp; omega) (wD.heap.size + 1) (by simp) ?_
      intro g2 cap2 w6 hown6 hgrow hat hlt6
      have FIN := Lib.hid (texts_up HX.out (own_texts_below HO.out HBwD.out) HN.out (HB.out.trans (HBwD.out.mono HSZ.out)) (Nat.lt_of_lt_of_le hgs HBwD.out.size) hown6 hgrow hat)
      have hbl := FIN.out.2.2.1.trans (HBwD.out.block g hgs)
      have hSF0 := SM.out w6 hbl
      have HGS : Hid (g < w6.heap.size) := Lib.hid (Nat.lt_of_lt_of_le (Nat.lt_of_lt_of_le hgs HBwD.out.size) (by have := hgrow.size; simp at this; omega))
      clear hown6 hgrow hat hlt6
      refine hK.out _ _ hSF0 (fun hSF => ?_)
      clear hK K
      try simp only [List.getElem_toArray, List.getElem_cons_succ, List.getElem_cons_zero, Act.put, List.setIfInBounds_toArray, List.set_cons_zero, List.set_cons_succ]
      refine wpAnyH_take (i := 29) (v := ?_) rfl (by kernel_rfl) (by kernel_rfl) (by kernel_rfl) (fun _ _ _ h => h) (Or.inl ⟨by kernel_rfl, ?_⟩) hSF ?_
      rotate_left
      · intro w hSw
        obtain ⟨s0, s1, s2, s3⟩ := hSw
        go_simp
        first | done | with_reducible rfl
      try simp only [List.getElem_toArray, List.getElem_cons_succ, List.getElem_cons_zero, Act.put, List.setIfInBounds_toArray, List.set_cons_zero, List.set_cons_succ]
      refine wpAnyH_done (by kernel_rfl) ?_ _
      obtain ⟨f1, f2, f3, f4⟩ := FIN.out
      have HGR2 := Lib.hid (hbl.trans HGR.out)
      have F1 := Lib.hid f1
      have F2 := Lib.hid f2
      have F4 := Lib.hid f4
      clear f1 f2 f3 f4 FIN hbl hS hSA hSB hSC hSD hSE hSF hSA0 hSB0 hSC0 hSD0 hSE0 hSF0 hS0 SM
      go_wp2
      go_roundw
      case rel => exact ⟨k + 1, by omega, by have := HI.out; go_num, F1.out, F2.out, HGR2.out, F4.out, HGS.out⟩
      case measure => simp [intOf]; omega
    · obtain rfl : k = n + 7 := by omega
      have hz : ¬ (4 * (n + 7) : Int) + 3 < (L : Int) := by have := HL.out; omega
      have hz2 : ¬ ((4 * (n + 7) : Nat) : Int) + 3 < (L : Int) := by have := HL.out; omega
      have HO : Hid (wr.ownsRow w.heap.size 9 1 u3 (upTo (rkS s n) (n + 7)).length ((upTo (rkS s n) (n + 7)).map .string)) := Lib.hid (by rw [upTo_length]; exact hown)
      have HB := Lib.hid hbel
      clear hown hbel hne hgr HW E1 B1
      obtain ⟨i, hi4⟩ : ∃ i, 4 * (n + 7) = i := ⟨_, rfl⟩
      have r3 : IntKind.i64.wrap ((i : Int) + 3) = (i : Int) + 3 := IntWalk.i64_in _ (by have := HLE.out; omega)
      rw [hi4] at hz2 ⊢
      clear hz hi4
      go_wp2

      go_ret
      exact ⟨_, rfl, HO.out, HB.out⟩
set_option maxRecDepth 100000 in
theorem l07Keys_no (s : ByteArray) (h : ¬ kOk s) (w : World) :
    Calls Tryz.prog 30 #[.string s] w fun e w' => OwnTextsS w [] e w' := by
  have H1 := fun w => Lib.hid (Expand_spec s w)
  rw [exInts_no s h] at H1
  clear h
  have e0 := empty_own w w.heap.size (Nat.le_refl _)
  have b0 : Below w.heap.size w (w.alloc (.cells #[] 9)) := (Below.refl _ _).alloc (Nat.le_refl _) _
  go_enter Tryz.func30, Tryz.ntmps30
  go_wp2_with fail
  refine (H1 _).out.mono ?_; rintro e w1 ⟨v, rfl, hown, hb1⟩
  obtain ⟨A, c, rfl⟩ : ∃ A c, v = .slice A 0 c := by
    rcases hown.2 with ⟨rfl, _⟩ | ⟨g, cap, cur, rfl, _⟩
    · exact ⟨_, _, rfl⟩
    · exact ⟨_, _, rfl⟩
  have E1 := Lib.hid (own_texts_below e0 hb1)
  have B1 := Lib.hid (b0.trans (hb1.mono (by simp)))
  clear hown hb1 e0 b0 H1
  go_wp2
  go_loopw [3, 5] (fun v i wr => i = .int .i64 0 ∧ v = .slice (some ⟨w.heap.size, 0, none⟩) 0 0 ∧ wr = w1) (fun _ i _ => 0 - (intOf i).toNat)
  case atStart => exact ⟨rfl, rfl, rfl⟩
  case round =>
    obtain ⟨rfl, rfl, rfl⟩ := hrel
    go_wp2
    refine bodyPost_ret (results_tmp rfl _ _ _) rfl ?_
    exact ⟨_, rfl, E1.out, B1.out⟩
end Go.Proofs.YtipcgdhjlpjcaaaGreatDoor
