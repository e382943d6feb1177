/-
  The small steps of a passage that change its block alone: rows, columns, boxes.
-/
import Derived.Test.YtipcgdhjlpjcaaaGreatDoorPassB
set_option linter.unusedVariables false
set_option linter.unusedSimpArgs false
namespace Go.Proofs.YtipcgdhjlpjcaaaGreatDoor
open Go Go.RowKit
attribute [local go_sem ↓] Go.wp_at_zero Go.wp_at_succ

set_option maxRecDepth 100000 in
set_option maxHeartbeats 1600000 in
theorem shiftRows_step (p B : Nat) (kv sv uv bv : Value) (f g : Nat → UInt8) (w : World) (hp : PsAt w p kv f sv uv bv) (hB : B ≤ w.heap.size)
    (HC : Hid (Calls Tryz.prog 41 #[.agg (stA f)] w fun e w' => e = .returned (.agg (stA g)) ∧ Below w.heap.size w w')) :
    Calls Tryz.prog 67 #[.pointer (some ⟨p, 0, none⟩)] w fun e w' => e = .returned (.tuple #[]) ∧ PsAt w' p kv g sv uv bv ∧ Moved p B w w' ∧ w.heap.size ≤ w'.heap.size := by
  have hi := st_info16
  have hr := Lib.hid hp.range
  have hlen : (Tryz.prog.info? 48).map (·.size) = some (cells8 (upTo f 16)).length := by rw [cells8_length, upTo_length]; exact hi
  have hps : Hid (∀ w1, Below w.heap.size w w1 → PsAt w1 p kv f sv uv bv) := Lib.hid (fun w1 h => hp.of_block (h.block p hp.lt))
  unfold stA at HC
  obtain ⟨L, hL⟩ : ∃ L, cells8 (upTo f 16) = L := ⟨_, rfl⟩
  rw [hL] at hr hlen HC
  clear hL hp
  go_enter Tryz.func67, Tryz.ntmps67
  go_wp2_with (refine wpList_load_mid rfl 48 _ rfl p 1 rfl L _ hr.out Tryz.underlying48 rfl hlen ?_)
  refine HC.out.mono ?_; rintro e w1 ⟨rfl, hb1⟩
  have q1 := Lib.hid (hps.out w1 hb1)
  have M1 := Lib.hid ((Moved.of_below (p := p) hb1 hB).setRow (psC kv g sv uv bv).toArray)
  have M2 : Hid (PsAt (w1.setRow p (psC kv g sv uv bv).toArray) p kv g sv uv bv) := Lib.hid (setRow_heap w1 p _ _ _ _ q1.out)
  have M3 : Hid (w.heap.size ≤ (w1.setRow p (psC kv g sv uv bv).toArray).heap.size) := Lib.hid (by rw [size_setRow]; exact hb1.size)
  clear hb1 hps HC hr hlen
  go_wp2_with (refine wpList_store_ps rfl 48 _ _ rfl p g rfl rfl 71 kv f sv uv bv q1.out hi ?_)
  go_end0
  exact ⟨rfl, M2.out, M1.out, M3.out⟩
set_option maxRecDepth 100000 in
set_option maxHeartbeats 1600000 in
theorem unshiftRows_step (p B : Nat) (kv sv uv bv : Value) (f g : Nat → UInt8) (w : World) (hp : PsAt w p kv f sv uv bv) (hB : B ≤ w.heap.size)
    (HC : Hid (Calls Tryz.prog 86 #[.agg (stA f)] w fun e w' => e = .returned (.agg (stA g)) ∧ Below w.heap.size w w')) :
    Calls Tryz.prog 56 #[.pointer (some ⟨p, 0, none⟩)] w fun e w' => e = .returned (.tuple #[]) ∧ PsAt w' p kv g sv uv bv ∧ Moved p B w w' ∧ w.heap.size ≤ w'.heap.size := by
  have hi := st_info16
  have hr := Lib.hid hp.range
  have hlen : (Tryz.prog.info? 48).map (·.size) = some (cells8 (upTo f 16)).length := by rw [cells8_length, upTo_length]; exact hi
  have hps : Hid (∀ w1, Below w.heap.size w w1 → PsAt w1 p kv f sv uv bv) := Lib.hid (fun w1 h => hp.of_block (h.block p hp.lt))
  unfold stA at HC
  obtain ⟨L, hL⟩ : ∃ L, cells8 (upTo f 16) = L := ⟨_, rfl⟩
  rw [hL] at hr hlen HC
  clear hL hp
  go_enter Tryz.func56, Tryz.ntmps56
  go_wp2_with (refine wpList_load_mid rfl 48 _ rfl p 1 rfl L _ hr.out Tryz.underlying48 rfl hlen ?_)
  refine HC.out.mono ?_; rintro e w1 ⟨rfl, hb1⟩
  have q1 := Lib.hid (hps.out w1 hb1)
  have M1 := Lib.hid ((Moved.of_below (p := p) hb1 hB).setRow (psC kv g sv uv bv).toArray)
  have M2 : Hid (PsAt (w1.setRow p (psC kv g sv uv bv).toArray) p kv g sv uv bv) := Lib.hid (setRow_heap w1 p _ _ _ _ q1.out)
  have M3 : Hid (w.heap.size ≤ (w1.setRow p (psC kv g sv uv bv).toArray).heap.size) := Lib.hid (by rw [size_setRow]; exact hb1.size)
  clear hb1 hps HC hr hlen
  go_wp2_with (refine wpList_store_ps rfl 48 _ _ rfl p g rfl rfl 71 kv f sv uv bv q1.out hi ?_)
  go_end0
  exact ⟨rfl, M2.out, M1.out, M3.out⟩
set_option maxRecDepth 100000 in
set_option maxHeartbeats 1600000 in
theorem mixColumns_step (p B : Nat) (kv sv uv bv : Value) (f g : Nat → UInt8) (w : World) (hp : PsAt w p kv f sv uv bv) (hB : B ≤ w.heap.size)
    (HC : Hid (Calls Tryz.prog 40 #[.agg (stA f)] w fun e w' => e = .returned (.agg (stA g)) ∧ Below w.heap.size w w')) :
    Calls Tryz.prog 68 #[.pointer (some ⟨p, 0, none⟩)] w fun e w' => e = .returned (.tuple #[]) ∧ PsAt w' p kv g sv uv bv ∧ Moved p B w w' ∧ w.heap.size ≤ w'.heap.size := by
  have hi := st_info16
  have hr := Lib.hid hp.range
  have hlen : (Tryz.prog.info? 48).map (·.size) = some (cells8 (upTo f 16)).length := by rw [cells8_length, upTo_length]; exact hi
  have hps : Hid (∀ w1, Below w.heap.size w w1 → PsAt w1 p kv f sv uv bv) := Lib.hid (fun w1 h => hp.of_block (h.block p hp.lt))
  unfold stA at HC
  obtain ⟨L, hL⟩ : ∃ L, cells8 (upTo f 16) = L := ⟨_, rfl⟩
  rw [hL] at hr hlen HC
  clear hL hp
  go_enter Tryz.func68, Tryz.ntmps68
  go_wp2_with (refine wpList_load_mid rfl 48 _ rfl p 1 rfl L _ hr.out Tryz.underlying48 rfl hlen ?_)
  refine HC.out.mono ?_; rintro e w1 ⟨rfl, hb1⟩
  have q1 := Lib.hid (hps.out w1 hb1)
  have M1 := Lib.hid ((Moved.of_below (p := p) hb1 hB).setRow (psC kv g sv uv bv).toArray)
  have M2 : Hid (PsAt (w1.setRow p (psC kv g sv uv bv).toArray) p kv g sv uv bv) := Lib.hid (setRow_heap w1 p _ _ _ _ q1.out)
  have M3 : Hid (w.heap.size ≤ (w1.setRow p (psC kv g sv uv bv).toArray).heap.size) := Lib.hid (by rw [size_setRow]; exact hb1.size)
  clear hb1 hps HC hr hlen
  go_wp2_with (refine wpList_store_ps rfl 48 _ _ rfl p g rfl rfl 71 kv f sv uv bv q1.out hi ?_)
  go_end0
  exact ⟨rfl, M2.out, M1.out, M3.out⟩
set_option maxRecDepth 100000 in
set_option maxHeartbeats 1600000 in
theorem unmixColumns_step (p B : Nat) (kv sv uv bv : Value) (f g : Nat → UInt8) (w : World) (hp : PsAt w p kv f sv uv bv) (hB : B ≤ w.heap.size)
    (HC : Hid (Calls Tryz.prog 88 #[.agg (stA f)] w fun e w' => e = .returned (.agg (stA g)) ∧ Below w.heap.size w w')) :
    Calls Tryz.prog 59 #[.pointer (some ⟨p, 0, none⟩)] w fun e w' => e = .returned (.tuple #[]) ∧ PsAt w' p kv g sv uv bv ∧ Moved p B w w' ∧ w.heap.size ≤ w'.heap.size := by
  have hi := st_info16
  have hr := Lib.hid hp.range
  have hlen : (Tryz.prog.info? 48).map (·.size) = some (cells8 (upTo f 16)).length := by rw [cells8_length, upTo_length]; exact hi
  have hps : Hid (∀ w1, Below w.heap.size w w1 → PsAt w1 p kv f sv uv bv) := Lib.hid (fun w1 h => hp.of_block (h.block p hp.lt))
  unfold stA at HC
  obtain ⟨L, hL⟩ : ∃ L, cells8 (upTo f 16) = L := ⟨_, rfl⟩
  rw [hL] at hr hlen HC
  clear hL hp
  go_enter Tryz.func59, Tryz.ntmps59
  go_wp2_with (refine wpList_load_mid rfl 48 _ rfl p 1 rfl L _ hr.out Tryz.underlying48 rfl hlen ?_)
  refine HC.out.mono ?_; rintro e w1 ⟨rfl, hb1⟩
  have q1 := Lib.hid (hps.out w1 hb1)
  have M1 := Lib.hid ((Moved.of_below (p := p) hb1 hB).setRow (psC kv g sv uv bv).toArray)
  have M2 : Hid (PsAt (w1.setRow p (psC kv g sv uv bv).toArray) p kv g sv uv bv) := Lib.hid (setRow_heap w1 p _ _ _ _ q1.out)
  have M3 : Hid (w.heap.size ≤ (w1.setRow p (psC kv g sv uv bv).toArray).heap.size) := Lib.hid (by rw [size_setRow]; exact hb1.size)
  clear hb1 hps HC hr hlen
  go_wp2_with (refine wpList_store_ps rfl 48 _ _ rfl p g rfl rfl 71 kv f sv uv bv q1.out hi ?_)
  go_end0
  exact ⟨rfl, M2.out, M1.out, M3.out⟩
set_option maxRecDepth 100000 in
set_option maxHeartbeats 1600000 in
theorem boxBytes_step (p B q : Nat) (kv uv bv : Value) (f g : Nat → UInt8) (w : World) (hp : PsAt w p kv f (reader q) uv bv) (hB : B ≤ w.heap.size)
    (HC : Hid (Calls Tryz.prog 87 #[.agg (stA f), reader q] w.drew fun e w' => e = .returned (.agg (stA g)) ∧ Below w.drew.heap.size w.drew w')) :
    Calls Tryz.prog 66 #[.pointer (some ⟨p, 0, none⟩)] w fun e w' => e = .returned (.tuple #[]) ∧ PsAt w' p kv g (reader q) uv bv ∧ Moved p B w w' ∧ w.heap.size ≤ w'.heap.size := by
  have hi := st_info16
  have P0 : Hid (PsAt w.drew p kv f (reader q) uv bv) := Lib.hid (hp.of_block rfl)
  have hr := Lib.hid P0.out.range
  have hlen : (Tryz.prog.info? 48).map (·.size) = some (cells8 (upTo f 16)).length := by rw [cells8_length, upTo_length]; exact hi
  have hps : Hid (∀ w1, Below w.drew.heap.size w.drew w1 → PsAt w1 p kv f (reader q) uv bv) := Lib.hid (fun w1 h => hp.of_block (h.block p hp.lt))
  unfold stA reader at HC
  obtain ⟨L, hL⟩ : ∃ L, cells8 (upTo f 16) = L := ⟨_, rfl⟩
  rw [hL] at hr hlen HC
  clear hL hp
  go_enter Tryz.func66, Tryz.ntmps66
  refine wp_region_held_drew (S := fun W' => ∃ h, PsAt W' p kv h (reader q) uv bv) (by kernel_rfl) ⟨_, P0.out⟩ (fun hS0 => ?_)
  refine wpAnyH_take (i := 0) (v := ?_) rfl (by kernel_rfl) (by kernel_rfl) (by kernel_rfl) (fun _ _ _ h => h) (Or.inl ⟨by kernel_rfl, ?_⟩) hS0 ?_
  rotate_left
  · intro w hSw
    go_simp
    first | done | with_reducible rfl
  try simp only [List.getElem_toArray, List.getElem_cons_succ, List.getElem_cons_zero, Act.put, List.setIfInBounds_toArray, List.set_cons_zero, List.set_cons_succ]
  refine wpAnyH_take (i := 1) (v := ?_) rfl (by kernel_rfl) (by kernel_rfl) (by kernel_rfl) (fun _ _ _ h => h) (Or.inl ⟨by kernel_rfl, ?_⟩) hS0 ?_
  rotate_left
  · intro w hSw
    go_simp
    first | done | with_reducible rfl
  try simp only [List.getElem_toArray, List.getElem_cons_succ, List.getElem_cons_zero, Act.put, List.setIfInBounds_toArray, List.set_cons_zero, List.set_cons_succ]
  refine wpAnyH_take (i := 2) (v := ?_) rfl (by kernel_rfl) (by kernel_rfl) (by kernel_rfl) (fun _ _ _ h => h) (Or.inl ⟨by kernel_rfl, ?_⟩) hS0 ?_
  rotate_left
  · intro w hSw
    go_simp
    first | done | with_reducible rfl
  try simp only [List.getElem_toArray, List.getElem_cons_succ, List.getElem_cons_zero, Act.put, List.setIfInBounds_toArray, List.set_cons_zero, List.set_cons_succ]
  refine wpAnyH_take (i := 3) (v := ?_) rfl (by kernel_rfl) (by kernel_rfl) (by kernel_rfl) (fun _ _ _ h => h) (Or.inl ⟨by kernel_rfl, ?_⟩) hS0 ?_
  rotate_left
  · intro w hSw
    go_simp
    first | done | with_reducible rfl
  try simp only [List.getElem_toArray, List.getElem_cons_succ, List.getElem_cons_zero, Act.put, List.setIfInBounds_toArray, List.set_cons_zero, List.set_cons_succ]
  refine wpAnyH_take (i := 5) (v := ?_) rfl (by kernel_rfl) (by kernel_rfl) (by kernel_rfl) (fun _ _ _ h => h) (Or.inl ⟨by kernel_rfl, ?_⟩) hS0 ?_
  rotate_left
  · intro w hSw
    go_simp
    first | done | with_reducible rfl
  try simp only [List.getElem_toArray, List.getElem_cons_succ, List.getElem_cons_zero, Act.put, List.setIfInBounds_toArray, List.set_cons_zero, List.set_cons_succ]
  refine wpAnyH_take (i := 6) (v := ?_) rfl (by kernel_rfl) (by kernel_rfl) (by kernel_rfl) (fun _ _ _ h => h) (Or.inl ⟨by kernel_rfl, ?_⟩) hS0 ?_
  rotate_left
  · intro w hSw
    go_simp
    first | done | with_reducible rfl
  try simp only [List.getElem_toArray, List.getElem_cons_succ, List.getElem_cons_zero, Act.put, List.setIfInBounds_toArray, List.set_cons_zero, List.set_cons_succ]
  refine wpAnyH_take (i := 7) (v := ?_) rfl (by kernel_rfl) (by kernel_rfl) (by kernel_rfl) (fun _ _ _ h => h) (Or.inl ⟨by kernel_rfl, ?_⟩) hS0 ?_
  rotate_left
  · intro w hSw
    go_simp
    first | done | with_reducible rfl
  try simp only [List.getElem_toArray, List.getElem_cons_succ, List.getElem_cons_zero, Act.put, List.setIfInBounds_toArray, List.set_cons_zero, List.set_cons_succ]
  refine wpAnyH_take (i := 8) (v := ?_) rfl (by kernel_rfl) (by kernel_rfl) (by kernel_rfl) (fun _ _ _ h => h) (Or.inl ⟨by kernel_rfl, ?_⟩) hS0 ?_
  rotate_left
  · intro w hSw
    obtain ⟨h, hh⟩ := hSw
    have hc := hh.c17
    unfold reader at hc
    clear hh
    go_simp
    first | done | with_reducible rfl
  try simp only [List.getElem_toArray, List.getElem_cons_succ, List.getElem_cons_zero, Act.put, List.setIfInBounds_toArray, List.set_cons_zero, List.set_cons_succ]
  refine wpAnyH_ready (rs := [4]) (by kernel_rfl) (by simp) ?_
  refine AllReadyH.cons rfl (fun K hK => ?_) AllReadyH.nil
  refine wp_load_mid 48 _ rfl p 1 rfl L _ hr.out Tryz.underlying48 rfl hlen ?_
  refine hK.out _ _ ⟨_, P0.out⟩ (fun hS1 => ?_)
  clear hK K
  try simp only [List.getElem_toArray, List.getElem_cons_succ, List.getElem_cons_zero, Act.put, List.setIfInBounds_toArray, List.set_cons_zero, List.set_cons_succ]
  refine wpAnyH_ready (rs := [9]) (by kernel_rfl) (by simp) ?_
  refine AllReadyH.cons rfl (fun K hK => ?_) AllReadyH.nil
  go_simp
  refine HC.out.mono ?_; rintro e w1 ⟨rfl, hb1⟩
  have q1 := Lib.hid (hps.out w1 hb1)
  have M1 := Lib.hid (((Moved.refl p B w).drew.trans (Moved.of_below (p := p) hb1 hB)).setRow (psC kv g (reader q) uv bv).toArray)
  have M2 : Hid (PsAt (w1.setRow p (psC kv g (reader q) uv bv).toArray) p kv g (reader q) uv bv) := Lib.hid (setRow_heap w1 p _ _ _ _ q1.out)
  have M3 : Hid (w.heap.size ≤ (w1.setRow p (psC kv g (reader q) uv bv).toArray).heap.size) := Lib.hid (by rw [size_setRow]; exact hb1.size)
  clear hb1
  refine hK.out _ _ ⟨_, q1.out⟩ (fun hS2 => ?_)
  clear hK K
  try simp only [List.getElem_toArray, List.getElem_cons_succ, List.getElem_cons_zero, Act.put, List.setIfInBounds_toArray, List.set_cons_zero, List.set_cons_succ]
  refine wpAnyH_take (i := 10) (v := ?_) rfl (by kernel_rfl) (by kernel_rfl) (by kernel_rfl) (fun _ _ _ h => h) (Or.inl ⟨by kernel_rfl, ?_⟩) hS2 ?_
  rotate_left
  · intro w hSw
    go_simp
    first | done | with_reducible rfl
  try simp only [List.getElem_toArray, List.getElem_cons_succ, List.getElem_cons_zero, Act.put, List.setIfInBounds_toArray, List.set_cons_zero, List.set_cons_succ]
  refine wpAnyH_take (i := 11) (v := ?_) rfl (by kernel_rfl) (by kernel_rfl) (by kernel_rfl) (fun _ _ _ h => h) (Or.inl ⟨by kernel_rfl, ?_⟩) hS2 ?_
  rotate_left
  · intro w hSw
    go_simp
    first | done | with_reducible rfl
  try simp only [List.getElem_toArray, List.getElem_cons_succ, List.getElem_cons_zero, Act.put, List.setIfInBounds_toArray, List.set_cons_zero, List.set_cons_succ]
  refine wpAnyH_ready (rs := [12]) (by kernel_rfl) (by simp) ?_
  refine AllReadyH.cons rfl (fun K hK => ?_) AllReadyH.nil
  refine wp_store_ps 48 _ _ rfl p g rfl rfl 71 kv f (reader q) uv bv q1.out hi ?_
  refine hK.out _ _ ⟨_, M2.out⟩ (fun hS3 => ?_)
  clear hK K
  try simp only [List.getElem_toArray, List.getElem_cons_succ, List.getElem_cons_zero, Act.put, List.setIfInBounds_toArray, List.set_cons_zero, List.set_cons_succ]
  refine wpAnyH_done (by kernel_rfl) ?_ _
  clear hS0 hS1 hS2 hS3
  go_wp2
  go_end0
  exact ⟨rfl, M2.out, M1.out, M3.out⟩
set_option maxRecDepth 100000 in
set_option maxHeartbeats 1600000 in
theorem unboxBytes_step (p B q : Nat) (kv sv bv : Value) (f g : Nat → UInt8) (w : World) (hp : PsAt w p kv f sv (reader q) bv) (hB : B ≤ w.heap.size)
    (HC : Hid (Calls Tryz.prog 87 #[.agg (stA f), reader q] w.drew fun e w' => e = .returned (.agg (stA g)) ∧ Below w.drew.heap.size w.drew w')) :
    Calls Tryz.prog 57 #[.pointer (some ⟨p, 0, none⟩)] w fun e w' => e = .returned (.tuple #[]) ∧ PsAt w' p kv g sv (reader q) bv ∧ Moved p B w w' ∧ w.heap.size ≤ w'.heap.size := by
  have hi := st_info16
  have P0 : Hid (PsAt w.drew p kv f sv (reader q) bv) := Lib.hid (hp.of_block rfl)
  have hr := Lib.hid P0.out.range
  have hlen : (Tryz.prog.info? 48).map (·.size) = some (cells8 (upTo f 16)).length := by rw [cells8_length, upTo_length]; exact hi
  have hps : Hid (∀ w1, Below w.drew.heap.size w.drew w1 → PsAt w1 p kv f sv (reader q) bv) := Lib.hid (fun w1 h => hp.of_block (h.block p hp.lt))
  unfold stA reader at HC
  obtain ⟨L, hL⟩ : ∃ L, cells8 (upTo f 16) = L := ⟨_, rfl⟩
  rw [hL] at hr hlen HC
  clear hL hp
  go_enter Tryz.func57, Tryz.ntmps57
  refine wp_region_held_drew (S := fun W' => ∃ h, PsAt W' p kv h sv (reader q) bv) (by kernel_rfl) ⟨_, P0.out⟩ (fun hS0 => ?_)
  refine wpAnyH_take (i := 0) (v := ?_) rfl (by kernel_rfl) (by kernel_rfl) (by kernel_rfl) (fun _ _ _ h => h) (Or.inl ⟨by kernel_rfl, ?_⟩) hS0 ?_
  rotate_left
  · intro w hSw
    go_simp
    first | done | with_reducible rfl
  try simp only [List.getElem_toArray, List.getElem_cons_succ, List.getElem_cons_zero, Act.put, List.setIfInBounds_toArray, List.set_cons_zero, List.set_cons_succ]
  refine wpAnyH_take (i := 1) (v := ?_) rfl (by kernel_rfl) (by kernel_rfl) (by kernel_rfl) (fun _ _ _ h => h) (Or.inl ⟨by kernel_rfl, ?_⟩) hS0 ?_
  rotate_left
  · intro w hSw
    go_simp
    first | done | with_reducible rfl
  try simp only [List.getElem_toArray, List.getElem_cons_succ, List.getElem_cons_zero, Act.put, List.setIfInBounds_toArray, List.set_cons_zero, List.set_cons_succ]
  refine wpAnyH_take (i := 2) (v := ?_) rfl (by kernel_rfl) (by kernel_rfl) (by kernel_rfl) (fun _ _ _ h => h) (Or.inl ⟨by kernel_rfl, ?_⟩) hS0 ?_
  rotate_left
  · intro w hSw
    go_simp
    first | done | with_reducible rfl
  try simp only [List.getElem_toArray, List.getElem_cons_succ, List.getElem_cons_zero, Act.put, List.setIfInBounds_toArray, List.set_cons_zero, List.set_cons_succ]
  refine wpAnyH_take (i := 3) (v := ?_) rfl (by kernel_rfl) (by kernel_rfl) (by kernel_rfl) (fun _ _ _ h => h) (Or.inl ⟨by kernel_rfl, ?_⟩) hS0 ?_
  rotate_left
  · intro w hSw
    go_simp
    first | done | with_reducible rfl
  try simp only [List.getElem_toArray, List.getElem_cons_succ, List.getElem_cons_zero, Act.put, List.setIfInBounds_toArray, List.set_cons_zero, List.set_cons_succ]
  refine wpAnyH_take (i := 5) (v := ?_) rfl (by kernel_rfl) (by kernel_rfl) (by kernel_rfl) (fun _ _ _ h => h) (Or.inl ⟨by kernel_rfl, ?_⟩) hS0 ?_
  rotate_left
  · intro w hSw
    go_simp
    first | done | with_reducible rfl
  try simp only [List.getElem_toArray, List.getElem_cons_succ, List.getElem_cons_zero, Act.put, List.setIfInBounds_toArray, List.set_cons_zero, List.set_cons_succ]
  refine wpAnyH_take (i := 6) (v := ?_) rfl (by kernel_rfl) (by kernel_rfl) (by kernel_rfl) (fun _ _ _ h => h) (Or.inl ⟨by kernel_rfl, ?_⟩) hS0 ?_
  rotate_left
  · intro w hSw
    go_simp
    first | done | with_reducible rfl
  try simp only [List.getElem_toArray, List.getElem_cons_succ, List.getElem_cons_zero, Act.put, List.setIfInBounds_toArray, List.set_cons_zero, List.set_cons_succ]
  refine wpAnyH_take (i := 7) (v := ?_) rfl (by kernel_rfl) (by kernel_rfl) (by kernel_rfl) (fun _ _ _ h => h) (Or.inl ⟨by kernel_rfl, ?_⟩) hS0 ?_
  rotate_left
  · intro w hSw
    go_simp
    first | done | with_reducible rfl
  try simp only [List.getElem_toArray, List.getElem_cons_succ, List.getElem_cons_zero, Act.put, List.setIfInBounds_toArray, List.set_cons_zero, List.set_cons_succ]
  refine wpAnyH_take (i := 8) (v := ?_) rfl (by kernel_rfl) (by kernel_rfl) (by kernel_rfl) (fun _ _ _ h => h) (Or.inl ⟨by kernel_rfl, ?_⟩) hS0 ?_
  rotate_left
  · intro w hSw
    obtain ⟨h, hh⟩ := hSw
    have hc := hh.c18
    unfold reader at hc
    clear hh
    go_simp
    first | done | with_reducible rfl
  try simp only [List.getElem_toArray, List.getElem_cons_succ, List.getElem_cons_zero, Act.put, List.setIfInBounds_toArray, List.set_cons_zero, List.set_cons_succ]
  refine wpAnyH_ready (rs := [4]) (by kernel_rfl) (by simp) ?_
  refine AllReadyH.cons rfl (fun K hK => ?_) AllReadyH.nil
  refine wp_load_mid 48 _ rfl p 1 rfl L _ hr.out Tryz.underlying48 rfl hlen ?_
  refine hK.out _ _ ⟨_, P0.out⟩ (fun hS1 => ?_)
  clear hK K
  try simp only [List.getElem_toArray, List.getElem_cons_succ, List.getElem_cons_zero, Act.put, List.setIfInBounds_toArray, List.set_cons_zero, List.set_cons_succ]
  refine wpAnyH_ready (rs := [9]) (by kernel_rfl) (by simp) ?_
  refine AllReadyH.cons rfl (fun K hK => ?_) AllReadyH.nil
  go_simp
  refine HC.out.mono ?_; rintro e w1 ⟨rfl, hb1⟩
  have q1 := Lib.hid (hps.out w1 hb1)
  have M1 := Lib.hid (((Moved.refl p B w).drew.trans (Moved.of_below (p := p) hb1 hB)).setRow (psC kv g sv (reader q) bv).toArray)
  have M2 : Hid (PsAt (w1.setRow p (psC kv g sv (reader q) bv).toArray) p kv g sv (reader q) bv) := Lib.hid (setRow_heap w1 p _ _ _ _ q1.out)
  have M3 : Hid (w.heap.size ≤ (w1.setRow p (psC kv g sv (reader q) bv).toArray).heap.size) := Lib.hid (by rw [size_setRow]; exact hb1.size)
  clear hb1
  refine hK.out _ _ ⟨_, q1.out⟩ (fun hS2 => ?_)
  clear hK K
  try simp only [List.getElem_toArray, List.getElem_cons_succ, List.getElem_cons_zero, Act.put, List.setIfInBounds_toArray, List.set_cons_zero, List.set_cons_succ]
  refine wpAnyH_take (i := 10) (v := ?_) rfl (by kernel_rfl) (by kernel_rfl) (by kernel_rfl) (fun _ _ _ h => h) (Or.inl ⟨by kernel_rfl, ?_⟩) hS2 ?_
  rotate_left
  · intro w hSw
    go_simp
    first | done | with_reducible rfl
  try simp only [List.getElem_toArray, List.getElem_cons_succ, List.getElem_cons_zero, Act.put, List.setIfInBounds_toArray, List.set_cons_zero, List.set_cons_succ]
  refine wpAnyH_take (i := 11) (v := ?_) rfl (by kernel_rfl) (by kernel_rfl) (by kernel_rfl) (fun _ _ _ h => h) (Or.inl ⟨by kernel_rfl, ?_⟩) hS2 ?_
  rotate_left
  · intro w hSw
    go_simp
    first | done | with_reducible rfl
  try simp only [List.getElem_toArray, List.getElem_cons_succ, List.getElem_cons_zero, Act.put, List.setIfInBounds_toArray, List.set_cons_zero, List.set_cons_succ]
  refine wpAnyH_ready (rs := [12]) (by kernel_rfl) (by simp) ?_
  refine AllReadyH.cons rfl (fun K hK => ?_) AllReadyH.nil
  refine wp_store_ps 48 _ _ rfl p g rfl rfl 71 kv f sv (reader q) bv q1.out hi ?_
  refine hK.out _ _ ⟨_, M2.out⟩ (fun hS3 => ?_)
  clear hK K
  try simp only [List.getElem_toArray, List.getElem_cons_succ, List.getElem_cons_zero, Act.put, List.setIfInBounds_toArray, List.set_cons_zero, List.set_cons_succ]
  refine wpAnyH_done (by kernel_rfl) ?_ _
  clear hS0 hS1 hS2 hS3
  go_wp2
  go_end0
  exact ⟨rfl, M2.out, M1.out, M3.out⟩
end Go.Proofs.YtipcgdhjlpjcaaaGreatDoor
