/-
  What spec's PlaneTimes answers.
-/
import Derived.Test.YtbbjcgnoialidaaPlU
set_option linter.unusedVariables false
set_option linter.unusedSimpArgs false
namespace Go.Proofs.Ytbbjcgnoialidaa
open Go Go.RowKit

def HoldT (w : World) (P1 P2 Z : Array Value) (V : World) : Prop := RQ V w.heap.size 27 P1 ∧ RQ V (w.heap.size + 1) 27 P2 ∧ RQ V (w.heap.size + 1 + 1) 27 Z ∧ Below w.heap.size w V
theorem HoldT.next {w V V' : World} {P1 P2 Z : Array Value} (h : HoldT w P1 P2 Z V) (hb : Below V.heap.size V V') : HoldT w P1 P2 Z V' :=
  ⟨h.1.up hb, h.2.1.up hb, h.2.2.1.up hb, h.2.2.2.trans (hb.mono h.2.2.2.size)⟩
theorem up_rel_d {s : Nat → UInt8} {w w2 w1 : World} {i : Nat} {e : TypeId} {u v : Value} {o : Obj} {x : UInt8} (hx : s i = x)
    (hown2 : w2.ownsRow w.heap.size e 1 u i (cells8 (upTo s i))) (hbel2 : Below w.heap.size w w2)
    (hown3 : w1.ownsRow w.heap.size e 1 v (i + 1) (cells8 (upTo s i) ++ cells8 [x]))
    (hgrow : (w2.alloc o).drew.grownBy w1 u.ownBlock) :
    w1.ownsRow w.heap.size e 1 v (i + 1) (cells8 (upTo s (i + 1))) ∧ Below w.heap.size w w1 := by
  refine ⟨?_, ?_⟩
  · rw [upTo_succ, cells8_append, hx]
    exact hown3
  · have h1 : Below w.heap.size w (w2.alloc o).drew := (hbel2.alloc hbel2.size _).drew
    exact h1.grown hgrow h1.size (fun b hb => (hown2.lt b hb).1)
theorem idx_txt (s : Nat → UInt8) (k : Nat) (hk : k < 64) (w : World) : (Instr.index 9 (.string (txt s 64)) (.int .i64 (k : Int))).run Try.prog w = .ok (.int .u8 ((s k).toNat : Int)) w := by
  rw [idx_byte (txt s 64) (k : Int) k rfl (by rw [txt_size]; exact hk) w, txt_byte s 64 k hk]
theorem mulI_at (a b : UInt8) (w : World) : Calls Try.prog 53 #[.int .i64 (a.toNat : Int), .int .i64 (b.toNat : Int)] w fun e w' => e = .returned (.int .i64 ((mul a b).toNat : Int)) ∧ w = w' := by
  have h := Times_spec (a.toNat : Int) (b.toNat : Int) w
  rwa [b8_of, b8_of] at h
set_option maxRecDepth 100000 in
set_option maxHeartbeats 6400000 in
theorem PlaneTimes_spec (s u : Nat → UInt8) (w : World) :
    Calls Try.prog 28 #[.agg (pc s), .agg (pc u)] w fun e w' => e = .returned (.agg (pc (fun i => mul (s i) (u i)))) ∧ Below w.heap.size w w' := by
  obtain ⟨i0, hi, hz0, hz1, hz2⟩ := info_parts Try.info5
  have C1 := fun W => Lib.hid (FromPlanes_spec s W)
  have C2 := fun W => Lib.hid (FromPlanes_spec u W)
  have C3 := fun W => Lib.hid (ToPlanes_txt (fun i => mul (s i) (u i)) W)
  have CM := fun k W => Lib.hid (mulI_at (s k) (u k) W)
  have IX1 := fun k hk W => Lib.hid (idx_txt s k hk W)
  have IX2 := fun k hk W => Lib.hid (idx_txt u k hk W)
  obtain ⟨r, hr⟩ : ∃ r : Nat → UInt8, (fun i => mul (s i) (u i)) = r := ⟨_, rfl⟩
  have hrk : ∀ k, mul (s k) (u k) = r k := fun k => congrFun hr k
  simp only [hrk] at CM
  rw [hr] at C3 ⊢
  clear hr hrk
  have i1 := planes_info s
  have i2 := planes_info u
  have hsi := planes_info r
  have hone := pc_one r
  have hz : zeroQ.size = (pc r).size := by rw [pc_size]; rfl
  generalize pc r = R at *
  generalize pc s = P1 at *
  generalize pc u = P2 at *
  generalize txt s 64 = T1 at *
  generalize txt u 64 = T2 at *
  obtain ⟨W0, hW⟩ : ∃ W0, ((w.alloc (.cells P1 27)).alloc (.cells P2 27)).alloc (.cells zeroQ 27) = W0 := ⟨_, rfl⟩
  obtain ⟨a1, a2, az, hb0⟩ := newQ3 w _ _ _ _ _ _ hW
  have hS0 : HoldT w P1 P2 zeroQ W0.drew := ⟨a1, a2, az, hb0.drew⟩
  have HW := Lib.hid hW
  clear hW a1 a2 az hb0
  unfold zeroQ at HW
  go_enter Try.func28, Try.ntmps28
  go_wp2
  rw [HW.out]
  refine wp_region_held_drew (S := HoldT w P1 P2 zeroQ) (by kernel_rfl) hS0 (fun hS1 => ?_)
  refine wpAnyH_take (i := 0) (v := .agg P1) rfl (by kernel_rfl) (by kernel_rfl) (by kernel_rfl) (fun _ _ _ h => h) (Or.inl ⟨by kernel_rfl, fun V hV => exec_load_row 27 _ rfl w.heap.size rfl 27 P1 _ hV.1 Try.underlying27 rfl i1⟩) (by assumption) ?_
  try simp only [List.getElem_toArray, List.getElem_cons_succ, List.getElem_cons_zero, Act.put, List.setIfInBounds_toArray, List.set_cons_zero, List.set_cons_succ]
  refine wpAnyH_take (i := 2) (v := .agg P2) rfl (by kernel_rfl) (by kernel_rfl) (by kernel_rfl) (fun _ _ _ h => h) (Or.inl ⟨by kernel_rfl, fun V hV => exec_load_row 27 _ rfl (w.heap.size + 1) rfl 27 P2 _ hV.2.1 Try.underlying27 rfl i2⟩) (by assumption) ?_
  try simp only [List.getElem_toArray, List.getElem_cons_succ, List.getElem_cons_zero, Act.put, List.setIfInBounds_toArray, List.set_cons_zero, List.set_cons_succ]
  refine wpAnyH_ready (rs := [1]) (by kernel_rfl) (by simp) ?_
  refine AllReadyH.cons rfl (fun K hK => ?_) AllReadyH.nil
  go_simp
  refine (C1 _).out.mono ?_; rintro e x1 ⟨rfl, hb⟩
  have hS2 := hS1.next hb
  clear hb
  refine hK.out _ _ hS2 (fun hS2 => ?_)
  clear hK K
  try simp only [List.getElem_toArray, List.getElem_cons_succ, List.getElem_cons_zero, Act.put, List.setIfInBounds_toArray, List.set_cons_zero, List.set_cons_succ]
  refine wpAnyH_ready (rs := [3]) (by kernel_rfl) (by simp) ?_
  refine AllReadyH.cons rfl (fun K hK => ?_) AllReadyH.nil
  go_simp
  refine (C2 _).out.mono ?_; rintro e x2 ⟨rfl, hb⟩
  have hS3 := hS2.next hb
  clear hb
  refine hK.out _ _ hS3 (fun hS3 => ?_)
  clear hK K
  try simp only [List.getElem_toArray, List.getElem_cons_succ, List.getElem_cons_zero, Act.put, List.setIfInBounds_toArray, List.set_cons_zero, List.set_cons_succ]
  refine wpAnyH_ready (rs := [4]) (by kernel_rfl) (by simp) ?_
  refine AllReadyH.cons rfl (fun K hK => ?_) AllReadyH.nil
  go_simp
  refine hK.out _ _ hS3 (fun _ => ?_)
  clear hK K
  try simp only [List.getElem_toArray, List.getElem_cons_succ, List.getElem_cons_zero, Act.put, List.setIfInBounds_toArray, List.set_cons_zero, List.set_cons_succ]
  refine wpAnyH_ready (rs := [5]) (by kernel_rfl) (by simp) ?_
  refine AllReadyH.cons rfl (fun K hK => ?_) AllReadyH.nil
  go_simp
  refine hK.out _ _ hS3 (fun _ => ?_)
  clear hK K
  try simp only [List.getElem_toArray, List.getElem_cons_succ, List.getElem_cons_zero, Act.put, List.setIfInBounds_toArray, List.set_cons_zero, List.set_cons_succ]
  refine wpAnyH_done (by kernel_rfl) ?_ _
  have B0 := Lib.hid hS3.2.2.2
  have AZ := Lib.hid hS3.2.2.1
  clear hS0 hS1 hS2 hS3 HW C1 C2 i1 i2
  go_wp2
  have BB : Hid (∀ W', Below x2.heap.size x2 W' → RQ W' (w.heap.size + 1 + 1) 27 zeroQ ∧ Below w.heap.size w W') := Lib.hid (fun W' h => ⟨AZ.out.up h, B0.out.trans (h.mono B0.out.size)⟩)
  clear AZ B0
  go_loopw [7, 8] (fun v i wr => ∃ k : Nat, k ≤ 64 ∧ i = .int .i64 k ∧ wr.ownsRow x2.heap.size 5 1 v k (cells8 (upTo r k)) ∧ Below x2.heap.size x2 wr) (fun _ i _ => 64 - (intOf i).toNat)
  case atStart => exact ⟨0, by omega, rfl, World.ownsRow_lit x2 #[] 0 (Nat.le_refl _) (by simp [maxLen]) rfl, (Below.refl _ _).alloc (Nat.le_refl _) _⟩
  case round =>
    obtain ⟨k, hk, rfl, hown, hbel⟩ := hrel
    by_cases hlt : k < 64
    · have hk1 : (k : Int) < 64 := by omega
      have hk0 : (0 : Int) ≤ (k : Int) := by omega
      have hi1 := fun W => (IX1 k hlt W).out
      have hi2 := fun W => (IX2 k hlt W).out
      have CK := fun W => CM k W
      obtain ⟨c, hc⟩ : ∃ c, r k = c := ⟨_, rfl⟩
      rw [hc] at CK
      have HC := Lib.hid hc
      have hl1 := (s k).toNat_lt
      have hl2 := (u k).toNat_lt
      have hl3 := c.toNat_lt
      have m1 : ((s k).toNat : Int) < 256 := by omega
      have m2 : ((u k).toNat : Int) < 256 := by omega
      have m3 : (c.toNat : Int) < 256 := by omega
      have q1 : IntKind.i64.wrap ((s k).toNat : Int) = ((s k).toNat : Int) := IntWalk.i64_in _ (by omega)
      have q2 : IntKind.i64.wrap ((u k).toNat : Int) = ((u k).toNat : Int) := IntWalk.i64_in _ (by omega)
      have q3 : IntKind.u8.wrap (c.toNat : Int) = (c.toNat : Int) := by rw [IntKind.wrap_u8]; omega
      generalize (s k).toNat = a at *
      generalize (u k).toNat = b at *
      clear IX1 IX2 CM hc hl1 hl2 hl3 BB
      go_wp2
      go_region_held3 (fun _ => True) (trivial)
        (first
          | (with_reducible refine (CK _).out.mono ?_; rintro e w' ⟨rfl, rfl⟩)
          | (refine step_append_lies _ (by rfl) _ _ _ (by rfl) x2.heap.size 5 i0 _ 1 1 Try.underlying22 hi hz0 hz1 hz2 rfl (by omega) u7 k (cells8 (upTo r k)) (by rfl) ((hown.alloc _).drew) ⟨wr.heap.size, 0, none⟩ 1 1 (cells8 [c]) (by rfl) (by rfl) (cells8_one _ _ _) (cells8_oneCell _) (by omega) (by unfold maxLen; omega) (by omega) (by have := hbel.size; simp; omega) (wr.heap.size + 1) (by simp) ?_; intro g cap w5 hown5 hgrow hat hlt5))
      all_goals
        have hrel := up_rel_d HC.out hown hbel hown5 hgrow
        clear hown hbel hown5 hgrow hat hlt5
        go_wp2
        go_roundw
        case rel => exact ⟨k + 1, by omega, by go_num, hrel.1, hrel.2⟩
        case measure => simp [intOf]; omega
    · obtain rfl : k = 64 := by omega
      have hconv := run_string_own Try.underlying22 Try.underlying5 Try.underlying9 hown
      obtain ⟨AZ, BE⟩ := BB.out wr hbel
      have AZ0 := Lib.hid AZ
      have BE0 := Lib.hid BE
      clear AZ BE hown hbel IX1 IX2 CM BB
      go_wp2_with fail
      refine (C3 _).out.mono ?_; rintro e w3 ⟨rfl, hb3⟩
      have AZ3 := Lib.hid (AZ0.out.up hb3)
      have B3 := Lib.hid (BE0.out.trans (hb3.mono BE0.out.size))
      have HSR := Lib.hid (AZ3.out.row R)
      have HB := Lib.hid (below_setRow B3.out (show w.heap.size ≤ w.heap.size + 1 + 1 by omega) R)
      clear hb3 AZ0 BE0 C3
      go_wp2_with (refine wpList_store_row rfl 27 _ _ rfl (w.heap.size + 1 + 1) R rfl rfl 27 _ (by have h := AZ3.out; exact h) hsi hz hone ?_)
      refine bodyPost_ret (v := .agg R) ?_ rfl ⟨rfl, HB.out⟩
      exact results_cell_row rfl _ _ (w.heap.size + 1 + 1) 27 R (0, 0) _ rfl (by have h := HSR.out; exact h) Try.underlying27 rfl hsi
end Go.Proofs.Ytbbjcgnoialidaa
