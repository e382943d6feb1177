/-
  toIntS of what can be read: a list of the call's own.
-/
import Derived.Test.YtkbnnlhilnnpeabDoorBase
import Derived.Test.YtkbnnlhilnnpeabDoorKey
set_option linter.unusedVariables false
set_option linter.unusedSimpArgs false
namespace Go.Proofs.YtkbnnlhilnnpeabDoor
open Go.RowKit
attribute [local go_sem ↓] Go.wp_at_zero Go.wp_at_succ

set_option maxRecDepth 100000 in
set_option maxHeartbeats 800000 in
theorem toints_own (w : World) (A : Option Addr) (n c : Nat) (l : List Int) (h : IRow w A n l) (hn : n ≤ 1048576) :
    Calls Tryd.prog 7 #[.slice A n c] w fun e w' => e = .returned (.slice (some ⟨w.heap.size, 0, none⟩) n n) ∧ w'.ownsRow w.heap.size 3 1 (.slice (some ⟨w.heap.size, 0, none⟩) n n) n (cells64 l) ∧ Below w.heap.size w w' := by
  obtain ⟨i0, hi, hz0, hz1, hz2⟩ := info_parts info64
  have hmk := run_make64 Tryd.underlying22 hi hz0 hz1 hz2 n n (by omega) (by omega) w
  have H := Lib.hid h
  clear h
  go_enter Tryd.func7, Tryd.ntmps7
  go_wp2
  go_loopw [4] (fun i wr => ∃ k : Nat, k ≤ n ∧ i = .int .i64 k ∧ wr.ownsRow w.heap.size 3 1 (.slice (some ⟨w.heap.size, 0, none⟩) n n) n (cells64 (fillTo l k)) ∧ Below w.heap.size w wr) (fun i _ => n - (intOf i).toNat)
  case atStart =>
    refine ⟨0, Nat.zero_le _, rfl, ?_, (Below.refl _ _).alloc (Nat.le_refl _) _⟩
    have h0 := World.ownsRow_lit w (e := 3) (size := 1) (mk64 n) n (Nat.le_refl w.heap.size) (by unfold maxLen; omega) (by rw [mk64_size]; omega)
    rw [mk64_list] at h0
    rw [fillTo_zero, H.out.1]
    exact h0
  case round =>
    obtain ⟨k, hk, rfl, hown, hbel⟩ := hrel
    by_cases hlt : k < n
    · have hkl : k < l.length := by have := H.out.1; omega
      obtain ⟨b, o, rfl, hb, hc⟩ := H.out.2 k hkl
      have hc1 := (hbel.cell (p := ⟨b, o + k, none⟩) hb).trans hc
      have hk0 : (0 : Int) ≤ (k : Int) := by omega
      have hk1 : (k : Int) < (n : Int) := by omega
      have hne : ¬ b = w.heap.size := by omega
      obtain ⟨u, hcell⟩ : ∃ u, wr.cell? ⟨w.heap.size, k, none⟩ = some u := by
        have hl : (cells64 (fillTo l k)).length = n := by rw [cells64, List.length_map, fillTo_length l k (by omega)]; exact H.out.1
        exact ⟨_, (hown.cellAt k (by omega)).trans (List.getElem?_eq_getElem (by omega))⟩
      have hfr := hown.frozenAt k
      have hown2 := hown.stored k (.int .i64 l[k])
      have hbel2 : Below w.heap.size w (wr.setCell ⟨w.heap.size, k, none⟩ (.int .i64 l[k])) := hbel.setCell (Nat.le_refl _) _
      have hcs : (cells64 (fillTo l k)).set k (.int .i64 l[k]) = cells64 (fillTo l (k + 1)) := by rw [← fillTo_set l k hkl]; simp [cells64, List.map_set]
      rw [hcs] at hown2
      generalize l[k] = x at *
      have HO := Lib.hid hown2
      have HB := Lib.hid hbel2
      clear hown2 hbel2 hcs hc
      go_wp2
      go_roundw
      case rel => exact ⟨k + 1, by omega, by go_num, HO.out.1, HB.out⟩
      case measure => simp [intOf]; omega
    · have HI : wr.ownsRow w.heap.size 3 1 (.slice (some ⟨w.heap.size, 0, none⟩) n n) n (cells64 l) := by
        have h := hown
        rwa [fillTo_all l k (by have := H.out.1; omega)] at h
      go_wp2
      go_ret
      exact ⟨rfl, HI, hbel⟩
theorem irow8 {w : World} {A : Option Addr} {n c : Nat} {zs : List Int} (h : IsRow .i64 w A n c zs) : IRow w A n (zs.take n) ∧ n ≤ c ∧ c ≤ 9223372036854775807 := by
  rcases h with ⟨rfl, rfl, rfl, rfl⟩ | ⟨x, rfl, hl, hm, hz, hcell, hwz⟩
  · exact ⟨⟨rfl, fun j hj => by simp at hj⟩, by omega, by omega⟩
  · unfold maxLen at hm
    have hlen : (zs.take n).length = n := by rw [List.length_take]; omega
    refine ⟨⟨hlen, fun j hj => ?_⟩, hl, by omega⟩
    obtain ⟨b, off, spot⟩ := x
    have hspot : spot = none := by simpa [Addr.add] using World.cell?_spot (hcell 0 (by omega))
    subst hspot
    have hc0 : w.cell? ⟨b, off + j, none⟩ = some (.int .i64 (zs.getD j 0)) := by
      rw [← hcell j (by omega), show (⟨b, off, none⟩ : Addr).add j = ⟨b, off + j, none⟩ by unfold Addr.add; split <;> simp_all]
    have he : (zs.take n)[j] = zs.getD j 0 := by
      rw [List.getElem_take, List.getD_eq_getElem?_getD, List.getElem?_eq_getElem (by omega)]
      rfl
    exact ⟨b, off, rfl, World.block_lt_of_cell? w _ hc0, by rw [hc0, he]⟩
/-- a row of integers of the call's own, wherever it begins. -/
def Rw (w : World) (v : Value) (n : Nat) (l : List Int) : Prop := ∃ base, w.ownsRow base 3 1 v n (cells64 l)
theorem Rw.below {w w' : World} {v : Value} {n : Nat} {l : List Int} (h : Rw w v n l) (hb : Below w.heap.size w w') : Rw w' v n l := let ⟨b, k⟩ := h; ⟨b, own_below k hb⟩
theorem Rw.kept {w w' : World} {v : Value} {n g : Nat} {l : List Int} (h : Rw w v n l) (hg : w.grownBy w' (some g)) (hne : v.ownBlock ≠ some g) : Rw w' v n l := let ⟨b, k⟩ := h; ⟨b, k.kept hg (.inr hne)⟩
theorem Rw.drewN {w : World} {v : Value} {n : Nat} {l : List Int} (h : Rw w v n l) (k : Nat) : Rw (w.drewN k) v n l := h
theorem Rw.irow {w : World} {A : Option Addr} {n c : Nat} {l : List Int} (h : Rw w (.slice A n c) n l) : IRow w A n l := let ⟨_, k⟩ := h; own_irow k
theorem Rw.lt {w : World} {v : Value} {n : Nat} {l : List Int} (h : Rw w v n l) (b : Nat) (hb : v.ownBlock = some b) : b < w.heap.size := let ⟨_, k⟩ := h; (k.lt b hb).2
theorem Rw.ne {w : World} {v : Value} {n : Nat} {l : List Int} (h : Rw w v n l) : v.ownBlock ≠ some w.heap.size := fun e => absurd (h.lt _ e) (Nat.lt_irrefl _)
theorem own_ne {w : World} {B n g : Nat} {e : TypeId} {v : Value} {xs : List Value} (h : w.ownsRow B e 1 v n xs) (hg : g < B) : v.ownBlock ≠ some g := fun e => by have := (h.lt _ e).1; omega
theorem mark_own_rel {w wr : World} {B g n c K j : Nat} {l : List Int} {e : TypeId} (hown : wr.ownsRow B e 1 (.slice (some ⟨g, 0, none⟩) n c) n (cells64 (rowTo (markF K) (oldF l) n j))) (hb : Below B w wr) (hg : B ≤ g) (hgr : w.grownBy wr (some g)) :
    (wr.setCell ⟨g, j, none⟩ (.int .i64 ((K : Int) + (j : Int)))).ownsRow B e 1 (.slice (some ⟨g, 0, none⟩) n c) n (cells64 (rowTo (markF K) (oldF l) n (j + 1))) ∧ Below B w (wr.setCell ⟨g, j, none⟩ (.int .i64 ((K : Int) + (j : Int)))) ∧ w.grownBy (wr.setCell ⟨g, j, none⟩ (.int .i64 ((K : Int) + (j : Int)))) (some g) :=
  ⟨(mark_rel hown hb hg).1, (mark_rel hown hb hg).2, only_setCell (p := ⟨g, j, none⟩) hgr (.inl rfl) _⟩
set_option maxRecDepth 100000 in
set_option maxHeartbeats 1600000 in
theorem marki_own (w : World) (B g : Nat) (n c K : Nat) (l : List Int) (h : w.ownsRow B 3 1 (.slice (some ⟨g, 0, none⟩) n c) n (cells64 l)) (hn : n ≤ 1048576) (hK2 : K ≤ 4000000) :
    Calls Tryd.prog 10 #[.slice (some ⟨g, 0, none⟩) n c, .int .i64 K] w fun e w' => e = .returned (.int .i64 ((K + n : Nat) : Int)) ∧ Rw w' (.slice (some ⟨g, 0, none⟩) n c) n (upTo (markF K) n) ∧ w.grownBy w' (some g) := by
  have hl : l.length = n := by have := h.1; simpa [cells64] using this
  have H0 : w.ownsRow B 3 1 (.slice (some ⟨g, 0, none⟩) n c) n (cells64 (rowTo (markF K) (oldF l) n 0)) := by rw [rowTo_zero, old_up l n hl]; exact h
  have HO := Lib.hid H0
  have hgB : B ≤ g := (h.lt g rfl).1
  clear h H0 hl
  go_enter Tryd.func10, Tryd.ntmps10
  go_wp2
  go_loopw [1, 5] (fun m i wr => ∃ j : Nat, j ≤ n ∧ i = .int .i64 j ∧ m = .int .i64 ((K : Int) + (j : Int)) ∧ wr.ownsRow B 3 1 (.slice (some ⟨g, 0, none⟩) n c) n (cells64 (rowTo (markF K) (oldF l) n j)) ∧ Below B w wr ∧ w.grownBy wr (some g)) (fun _ i _ => n - (intOf i).toNat)
  case atStart => exact ⟨0, Nat.zero_le _, rfl, by simp, HO.out, Below.refl _ _, only_refl _ _⟩
  case round =>
    obtain ⟨j, hj, rfl, rfl, hown, hbel, hgr⟩ := hrel
    by_cases hlt : j < n
    · have hcl : (cells64 (rowTo (markF K) (oldF l) n j)).length = n := by rw [cells64, List.length_map, rowTo_length]
      obtain ⟨u, hcell⟩ : ∃ u, wr.cell? ⟨g, j, none⟩ = some u := ⟨_, (hown.cellAt j (by omega)).trans (List.getElem?_eq_getElem (by omega))⟩
      have hfr := hown.frozenAt j
      have HX := Lib.hid (mark_own_rel hown hbel hgB hgr)
      have hj0 : (0 : Int) ≤ (j : Int) := by omega
      have hj1 : (j : Int) < (n : Int) := by omega
      have hK3 : (K : Int) ≤ 4000000 := by omega
      have hn3 : (n : Int) ≤ 1048576 := by omega
      clear hown hbel hcl hgr
      go_wp2
      go_roundw
      case rel => exact ⟨j + 1, by omega, by go_num, by congr 1, HX.out⟩
      case measure => simp [intOf]; omega
    · have hj1 : ¬ (j : Int) < (n : Int) := by omega
      obtain rfl : n = j := by omega
      rw [rowTo_all _ _ _ _ (Nat.le_refl _)] at hown
      go_wp2
      go_ret
      exact ⟨by simp, ⟨_, hown⟩, hgr⟩
theorem marki_keep (w : World) (A : Option Addr) (n c K : Nat) (l : List Int) (h : Rw w (.slice A n c) n l) (hn : n ≤ 1048576) (hK2 : K ≤ 4000000)
    (v' : Value) (n' : Nat) (l' : List Int) (hw : Rw w v' n' l') (hne : ∀ b, (Value.slice A n c).ownBlock = some b → v'.ownBlock ≠ some b) (B0 : Nat) (hB0 : B0 ≤ w.heap.size) (hAb : ∀ b, (Value.slice A n c).ownBlock = some b → B0 ≤ b) :
    Calls Tryd.prog 10 #[.slice A n c, .int .i64 K] w fun e w' => e = .returned (.int .i64 ((K + n : Nat) : Int)) ∧ Rw w' (.slice A n c) n (upTo (markF K) n) ∧ Rw w' v' n' l' ∧ Below B0 w w' := by
  obtain ⟨b, hb⟩ := h
  rcases hb.2 with ⟨hv, hn0⟩ | ⟨g, cap, cur, hv, hB, rest⟩
  · cases hv
    have hb2 : w.ownsRow w.heap.size 3 1 (.slice none 0 0) 0 (cells64 l) := ⟨hb.1, .inl ⟨rfl, rfl⟩⟩
    refine (marki_any w w.heap.size none 0 0 K l hb2 hn hK2).mono ?_
    rintro e w' ⟨rfl, h1, h2⟩
    exact ⟨rfl, ⟨_, h1⟩, hw.below h2, h2.mono hB0⟩
  · injection hv with hA _ hc
    subst hA hc
    refine (marki_own w b g n c K l hb hn hK2).mono ?_
    rintro e w' ⟨rfl, h1, h2⟩
    exact ⟨rfl, h1, hw.kept h2 (hne g rfl), below_only (Below.refl _ _) h2 (hAb g rfl) hB0⟩
end Go.Proofs.YtkbnnlhilnnpeabDoor
