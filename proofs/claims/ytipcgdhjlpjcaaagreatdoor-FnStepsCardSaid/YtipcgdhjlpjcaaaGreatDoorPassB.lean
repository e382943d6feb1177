/-
  The small steps of a passage: each key that is added, each change of the block.
-/
import Derived.Test.YtipcgdhjlpjcaaaGreatDoorPassA
import Derived.Test.YtipcgdhjlpjcaaaGreatDoorSums
import Derived.StillTailTactics
import Derived.Great.BuildSlice
set_option linter.unusedVariables false
set_option linter.unusedSimpArgs false
namespace Go.Proofs.YtipcgdhjlpjcaaaGreatDoor
open Go Go.RowKit
attribute [local go_sem] u8_xor_bytes
attribute [local go_sem ↓] Go.wp_at_zero Go.wp_at_succ

/-- bytes of which k are added to. -/
def adTo (f g : Nat → UInt8) (k : Nat) : Nat → UInt8 := fun j => if j < k then f j ^^^ g j else f j
theorem adTo_0 (f g : Nat → UInt8) : adTo f g 0 = f := by funext j; simp [adTo]
theorem adTo_at (f g : Nat → UInt8) (k : Nat) : adTo f g k k = f k := by unfold adTo; rw [if_neg (Nat.lt_irrefl _)]
theorem adTo_set (f g : Nat → UInt8) (k i : Nat) : (if i = k then f k ^^^ g k else adTo f g k i) = adTo f g (k + 1) i := by
  unfold adTo
  by_cases he : i = k
  · subst he; rw [if_pos rfl, if_pos (by omega)]
  · rw [if_neg he]
    by_cases hl : i < k
    · rw [if_pos hl, if_pos (by omega)]
    · rw [if_neg hl, if_neg (by omega)]
theorem adTo_16 (f g : Nat → UInt8) (i : Nat) (hi : i < 16) : adTo f g 16 i = f i ^^^ g i := by unfold adTo; rw [if_pos hi]
/-- the text of a state that lies in a passage. -/
theorem conv_ps {w : World} {p : Nat} {kv sv uv bv : Value} {f : Nat → UInt8} (h : PsAt w p kv f sv uv bv) :
    (convert 22 9 (.slice (some ⟨p, 1, none⟩) 16 16)).run Tryz.prog w = .ok (.string (txt f 16)) w := by
  have hB : Lib.Bytes w p 1 (txt f 16) := fun i hi => by
    have hi' : i < 16 := by rw [txt_size] at hi; exact hi
    rw [h.ci i hi', byteOf_at, txt_byte f 16 i hi']
  have := Lib.run_convert_whole (P := Tryz.prog) w 22 5 9 Tryz.underlying22 Tryz.underlying5 Tryz.underlying9 p 1 (txt f 16) hB 16
  rw [txt_size] at this
  exact this
theorem own_far {w : World} {B p e n size : Nat} {v : Value} {xs : List Value} (h : w.ownsRow B e size v n xs) (hp : p < B) (j : Nat) (u : Value) : (w.setCell ⟨p, j, none⟩ u).ownsRow B e size v n xs := by
  refine ⟨h.1, ?_⟩
  rcases h.2 with hn | ⟨g, cap, cur, hv, hB, hg, rest⟩
  · exact .inl hn
  · exact .inr ⟨g, cap, cur, hv, hB, (heap_setCell_other w ⟨p, j, none⟩ g u (by show g ≠ p; omega)).trans hg, rest⟩
/-- what the append and the store behind it leave. -/
theorem add_fin {w W : World} {p B m : Nat} {kv sv uv bv : Value} {F : Nat → UInt8} {l : List Value} {X : ByteArray} (hm : m ≤ 1000) (hpB : p < B) (hB : B ≤ W.heap.size)
    (h1 : PsAt (W.alloc (.cells #[.string X] 9)) p kv F sv uv bv) (ho : W.ownsRow B 9 1 bv m l) (hmv : Moved p B w W) (hsz : w.heap.size ≤ W.heap.size) :
    ∀ g2 cap2 w5, w5.ownsRow B 9 1 (.slice (some ⟨g2, 0, none⟩) (m + 1) cap2) (m + 1) (l ++ [.string X]) → (W.alloc (.cells #[.string X] 9)).grownBy w5 bv.ownBlock →
      Hid (PsAt w5 p kv F sv uv bv) ∧ Hid (PsAt (w5.setCell ⟨p, 19, none⟩ (.slice (some ⟨g2, 0, none⟩) (m + 1) cap2)) p kv F sv uv (.slice (some ⟨g2, 0, none⟩) (m + 1) cap2)) ∧
      Hid ((w5.setCell ⟨p, 19, none⟩ (.slice (some ⟨g2, 0, none⟩) (m + 1) cap2)).ownsRow B 9 1 (.slice (some ⟨g2, 0, none⟩) (m + 1) cap2) (m + 1) (l ++ [.string X])) ∧
      Hid (Moved p B w (w5.setCell ⟨p, 19, none⟩ (.slice (some ⟨g2, 0, none⟩) (m + 1) cap2))) ∧ Hid (w.heap.size ≤ (w5.setCell ⟨p, 19, none⟩ (.slice (some ⟨g2, 0, none⟩) (m + 1) cap2)).heap.size) := by
  intro g2 cap2 w5 hown5 hgrow
  have hr : ∀ k, bv.ownBlock = some k → B ≤ k := fun k e => (ho.lt k e).1
  have q1 : PsAt w5 p kv F sv uv bv := h1.of_block (hgrow.block p h1.lt (fun e => by have := hr p e.symm; omega))
  have hm2 : Moved p B w (W.alloc (.cells #[.string X] 9)) := hmv.trans (Moved.of_below ((Below.refl _ _).alloc (Nat.le_refl _) _) hB)
  have hm3 := hm2.grown hgrow (by simp; omega) hr
  refine ⟨Lib.hid q1, Lib.hid (q1.blocks _), Lib.hid (own_far hown5 hpB _ _), Lib.hid (hm3.setCell _ _), Lib.hid ?_⟩
  have h5 := hgrow.size
  simp [World.setCell] at h5 ⊢
  omega
set_option maxRecDepth 100000 in
set_option maxHeartbeats 1600000 in
theorem add_impl (p B : Nat) (kv sv uv bv : Value) (f g : Nat → UInt8) (m : Nat) (l : List Value) (hm : m ≤ 1000) (w : World) (hp : PsAt w p kv f sv uv bv) (ho : w.ownsRow B 9 1 bv m l) (hpB : p < B) (hB : B ≤ w.heap.size) :
    Calls Tryz.prog 85 #[.pointer (some ⟨p, 0, none⟩), .agg (stA g)] w fun e w' => e = .returned (.tuple #[]) ∧ ∃ bv', PsAt w' p kv (fun i => f i ^^^ g i) sv uv bv' ∧ w'.ownsRow B 9 1 bv' (m + 1) (l ++ [.string (txt (fun i => f i ^^^ g i) 16)]) ∧ Moved p B w w' ∧ w.heap.size ≤ w'.heap.size := by
  obtain ⟨F, hF⟩ : ∃ F : Nat → UInt8, (fun i => f i ^^^ g i) = F := ⟨_, rfl⟩
  rw [hF]
  have HF := Lib.hid hF
  obtain ⟨X, hX⟩ : ∃ X, txt F 16 = X := ⟨_, rfl⟩
  rw [hX]
  have HX := Lib.hid hX
  clear hF hX
  have hsA := stA_info g
  have n1 := heap_alloc_new w (.cells (stA g) 48)
  have hp2 : PsAt (w.alloc (.cells (stA g) 48)) p kv (adTo f g 0) sv uv bv := by rw [adTo_0]; exact hp.of_block (heap_alloc_old _ _ hp.lt)
  have ho2 := ho.alloc (.cells (stA g) 48)
  have hmv : Moved p B w (w.alloc (.cells (stA g) 48)) := Moved.of_below ((Below.refl _ _).alloc (Nat.le_refl _) _) hB
  have hsz : w.heap.size ≤ (w.alloc (.cells (stA g) 48)).heap.size := by simp
  have IX := fun k hk W => Lib.hid (index_st g k hk W)
  obtain ⟨A, hA⟩ : ∃ A, stA g = A := ⟨_, rfl⟩
  rw [hA] at n1 hp2 ho2 hmv hsz hsA IX ⊢
  clear hA hp ho
  go_enter Tryz.func85, Tryz.ntmps85
  go_wp2_with (refine wpList_load_row rfl 48 _ rfl w.heap.size rfl 48 A (0, 0) _ n1 Tryz.underlying48 rfl hsA ?_)
  generalize w.alloc (.cells A 48) = W at *
  clear n1 hsA
  go_loopw [7] (fun v wr => ∃ k : Nat, k ≤ 16 ∧ v = .int .i64 k ∧ PsAt wr p kv (adTo f g k) sv uv bv ∧ wr.ownsRow B 9 1 bv m l ∧ Moved p B w wr ∧ w.heap.size ≤ wr.heap.size) (fun v _ => 16 - (intOf v).toNat)
  case atStart => exact ⟨0, by omega, rfl, hp2, ho2, hmv, hsz⟩
  case round =>
    obtain ⟨k, hk, rfl, g1, g2, g3, g4⟩ := hrel
    by_cases hlt : k < 16
    · have hk1 : (k : Int) < 16 := by omega
      have hk0 : (0 : Int) ≤ (k : Int) := by omega
      have hix := (IX k hlt wr).out
      have hz := g1.ci k hlt
      rw [adTo_at] at hz
      have hfz := g1.fz (1 + k)
      have G1 : Hid (PsAt (wr.drew.setCell ⟨p, 1 + k, none⟩ (.int .u8 (((f k ^^^ g k)).toNat : Int))) p kv (adTo f g (k + 1)) sv uv bv) := Lib.hid (PsAt.congr (PsAt.byte (w := wr.drew) (g1.of_block rfl) k hlt (f k ^^^ g k)) (fun i hi => adTo_set f g k i))
      have G2 : Hid ((wr.drew.setCell ⟨p, 1 + k, none⟩ (.int .u8 (((f k ^^^ g k)).toNat : Int))).ownsRow B 9 1 bv m l) := Lib.hid (own_far (w := wr.drew) g2 hpB _ _)
      have G3 : Hid (Moved p B w (wr.drew.setCell ⟨p, 1 + k, none⟩ (.int .u8 (((f k ^^^ g k)).toNat : Int)))) := Lib.hid (g3.drew.setCell _ _)
      have G4 : Hid (w.heap.size ≤ (wr.drew.setCell ⟨p, 1 + k, none⟩ (.int .u8 (((f k ^^^ g k)).toNat : Int))).heap.size) := Lib.hid (by simpa [World.setCell] using g4)
      generalize f k = x at *
      generalize g k = y at *
      rw [UInt8.toNat_xor] at G1 G2 G3 G4
      clear g1 g2 g3 g4 hp2 ho2 hmv hsz IX
      go_wp2
      go_still_tail 11, (by kernel_rfl)
      change wpList _ _ _ _ _ wr.drew
      go_wp2
      go_roundw
      case rel => exact ⟨k + 1, by omega, by go_num, G1.out, G2.out, G3.out, G4.out⟩
      case measure => simp [intOf]; omega
    · obtain rfl : k = 16 := by omega
      have g1 := g1.congr (fun i hi => adTo_16 f g i hi)
      rw [HF.out] at g1
      obtain ⟨i0, hi, hz0, hz1, hz2⟩ := info_parts Lk.infoS
      have P0 : Hid (PsAt wr.drew p kv F sv uv bv) := Lib.hid (g1.of_block rfl)
      have hX := HX.out
      have P1 : Hid (PsAt (wr.drew.alloc (.cells #[.string X] 9)) p kv F sv uv bv) := Lib.hid (P0.out.of_block (heap_alloc_old _ _ P0.out.lt))
      have OW : Hid (wr.drew.ownsRow B 9 1 bv m l) := Lib.hid g2
      have HSZ : Hid (B ≤ wr.heap.size) := Lib.hid (by omega)
      have FIN := Lib.hid (add_fin (X := X) hm hpB (show B ≤ wr.drew.heap.size from HSZ.out) P1.out OW.out g3.drew (show w.heap.size ≤ wr.drew.heap.size from g4))
      have c19 := P0.out.c19
      have c19b : (wr.alloc (.cells #[.string X] 9)).cell? ⟨p, 19, none⟩ = some bv := P1.out.c19
      clear g1 g2 g3 g4 hp2 ho2 hmv hsz IX
      go_wp2
      refine wp_region_held_drew (S := fun W' => ∃ v, PsAt W' p kv F sv uv v) (by kernel_rfl) ⟨_, P0.out⟩ (fun hS0 => ?_)
      refine wpAnyH_take (i := 0) (v := ?_) rfl (by kernel_rfl) (by kernel_rfl) (by kernel_rfl) (fun _ _ _ h => h) (Or.inl ⟨by kernel_rfl, ?_⟩) hS0 ?_
      rotate_left
      · intro w hSw
        go_simp
        first | done | with_reducible rfl
      try simp only [List.getElem_toArray, List.getElem_cons_succ, List.getElem_cons_zero, Act.put, List.setIfInBounds_toArray, List.set_cons_zero, List.set_cons_succ]
      refine wpAnyH_take (i := 1) (v := ?_) rfl (by kernel_rfl) (by kernel_rfl) (by kernel_rfl) (fun _ _ _ h => h) (Or.inl ⟨by kernel_rfl, ?_⟩) hS0 ?_
      rotate_left
      · intro w hSw
        go_simp
        first | done | with_reducible rfl
      try simp only [List.getElem_toArray, List.getElem_cons_succ, List.getElem_cons_zero, Act.put, List.setIfInBounds_toArray, List.set_cons_zero, List.set_cons_succ]
      refine wpAnyH_take (i := 2) (v := ?_) rfl (by kernel_rfl) (by kernel_rfl) (by kernel_rfl) (fun _ _ _ h => h) (Or.inl ⟨by kernel_rfl, ?_⟩) hS0 ?_
      rotate_left
      · intro w hSw
        go_simp
        first | done | with_reducible rfl
      try simp only [List.getElem_toArray, List.getElem_cons_succ, List.getElem_cons_zero, Act.put, List.setIfInBounds_toArray, List.set_cons_zero, List.set_cons_succ]
      refine wpAnyH_take (i := 3) (v := ?_) rfl (by kernel_rfl) (by kernel_rfl) (by kernel_rfl) (fun _ _ _ h => h) (Or.inl ⟨by kernel_rfl, ?_⟩) hS0 ?_
      rotate_left
      · intro w hSw
        go_simp
        first | done | with_reducible rfl
      try simp only [List.getElem_toArray, List.getElem_cons_succ, List.getElem_cons_zero, Act.put, List.setIfInBounds_toArray, List.set_cons_zero, List.set_cons_succ]
      refine wpAnyH_take (i := 5) (v := ?_) rfl (by kernel_rfl) (by kernel_rfl) (by kernel_rfl) (fun _ _ _ h => h) (Or.inl ⟨by kernel_rfl, ?_⟩) hS0 ?_
      rotate_left
      · intro w hSw
        go_simp
        first | done | with_reducible rfl
      try simp only [List.getElem_toArray, List.getElem_cons_succ, List.getElem_cons_zero, Act.put, List.setIfInBounds_toArray, List.set_cons_zero, List.set_cons_succ]
      refine wpAnyH_take (i := 6) (v := ?_) rfl (by kernel_rfl) (by kernel_rfl) (by kernel_rfl) (fun _ _ _ h => h) (Or.inl ⟨by kernel_rfl, ?_⟩) hS0 ?_
      rotate_left
      · intro w hSw
        go_simp
        first | done | with_reducible rfl
      try simp only [List.getElem_toArray, List.getElem_cons_succ, List.getElem_cons_zero, Act.put, List.setIfInBounds_toArray, List.set_cons_zero, List.set_cons_succ]
      refine wpAnyH_take (i := 7) (v := ?_) rfl (by kernel_rfl) (by kernel_rfl) (by kernel_rfl) (fun _ _ _ h => h) (Or.inl ⟨by kernel_rfl, ?_⟩) hS0 ?_
      rotate_left
      · intro w hSw
        go_simp
        first | done | with_reducible rfl
      try simp only [List.getElem_toArray, List.getElem_cons_succ, List.getElem_cons_zero, Act.put, List.setIfInBounds_toArray, List.set_cons_zero, List.set_cons_succ]
      refine wpAnyH_take (i := 8) (v := ?_) rfl (by kernel_rfl) (by kernel_rfl) (by kernel_rfl) (fun _ _ _ h => h) (Or.inl ⟨by kernel_rfl, ?_⟩) hS0 ?_
      rotate_left
      · intro w hSw
        go_simp
        first | done | with_reducible rfl
      try simp only [List.getElem_toArray, List.getElem_cons_succ, List.getElem_cons_zero, Act.put, List.setIfInBounds_toArray, List.set_cons_zero, List.set_cons_succ]
      refine wpAnyH_take (i := 9) (v := ?_) rfl (by kernel_rfl) (by kernel_rfl) (by kernel_rfl) (fun _ _ _ h => h) (Or.inl ⟨by kernel_rfl, ?_⟩) hS0 ?_
      rotate_left
      · intro w hSw
        obtain ⟨v, hv⟩ := hSw
        have hcv := conv_ps hv
        rw [hX] at hcv
        clear hv
        go_simp
        first | done | with_reducible rfl
      try simp only [List.getElem_toArray, List.getElem_cons_succ, List.getElem_cons_zero, Act.put, List.setIfInBounds_toArray, List.set_cons_zero, List.set_cons_succ]
      refine wpAnyH_ready (rs := [4, 10]) (by kernel_rfl) (by simp) ?_
      refine AllReadyH.cons rfl (fun K hK => ?_) (AllReadyH.cons rfl (fun K hK => ?_) AllReadyH.nil)
      · go_simp
        refine hK.out _ _ ⟨_, P0.out⟩ (fun hS1 => ?_)
        clear hK K
        try simp only [List.getElem_toArray, List.getElem_cons_succ, List.getElem_cons_zero, Act.put, List.setIfInBounds_toArray, List.set_cons_zero, List.set_cons_succ]
        refine wpAnyH_ready (rs := [10]) (by kernel_rfl) (by simp) ?_
        refine AllReadyH.cons rfl (fun K hK => ?_) AllReadyH.nil
        go_simp
        refine hK.out _ _ ⟨_, P1.out⟩ (fun hS1 => ?_)
        clear hK K
        try simp only [List.getElem_toArray, List.getElem_cons_succ, List.getElem_cons_zero, Act.put, List.setIfInBounds_toArray, List.set_cons_zero, List.set_cons_succ]
        refine wpAnyH_ready (rs := [11]) (by kernel_rfl) (by simp) ?_
        refine AllReadyH.cons rfl (fun K hK => ?_) AllReadyH.nil
        refine Eq.mpr (if_pos (by rfl)) ?_
        refine wp_append_lies (wr.drew.alloc (.cells #[.string X] 9)) (.tmp 27) (.tmp 33) 28 rfl B 9 i0 (.string ByteArray.empty) 1 16 Tryz.underlying28 hi hz0 hz1 hz2 rfl (by decide) bv m l rfl (OW.out.alloc _) ⟨wr.heap.size, 0, none⟩ 1 1 [.string X] rfl rfl (World.news_of_block (cs := #[.string X]) (heap_alloc_new wr.drew _)) (by simp [Value.oneCell']) (by omega) (by unfold maxLen; omega) (by omega) (by have := HSZ.out; simp; omega) (wr.heap.size + 1) (by simp) ?_
        intro g2 cap2 w5 hown5 hgrow hat hlt5
        obtain ⟨Q1, Q2, Q3, Q4, Q5⟩ := FIN.out g2 cap2 w5 hown5 hgrow
        have k19 := Q1.out.c19
        have k19f := Q1.out.fz 19
        clear hown5 hgrow hat hlt5
        refine hK.out _ _ ⟨_, Q1.out⟩ (fun hS2 => ?_)
        clear hK K
        try simp only [List.getElem_toArray, List.getElem_cons_succ, List.getElem_cons_zero, Act.put, List.setIfInBounds_toArray, List.set_cons_zero, List.set_cons_succ]
        refine wpAnyH_take (i := 12) (v := ?_) rfl (by kernel_rfl) (by kernel_rfl) (by kernel_rfl) (fun _ _ _ h => h) (Or.inl ⟨by kernel_rfl, ?_⟩) hS2 ?_
        rotate_left
        · intro w hSw
          go_simp
          first | done | with_reducible rfl
        try simp only [List.getElem_toArray, List.getElem_cons_succ, List.getElem_cons_zero, Act.put, List.setIfInBounds_toArray, List.set_cons_zero, List.set_cons_succ]
        refine wpAnyH_take (i := 13) (v := ?_) rfl (by kernel_rfl) (by kernel_rfl) (by kernel_rfl) (fun _ _ _ h => h) (Or.inl ⟨by kernel_rfl, ?_⟩) hS2 ?_
        rotate_left
        · intro w hSw
          go_simp
          first | done | with_reducible rfl
        try simp only [List.getElem_toArray, List.getElem_cons_succ, List.getElem_cons_zero, Act.put, List.setIfInBounds_toArray, List.set_cons_zero, List.set_cons_succ]
        refine wpAnyH_ready (rs := [14]) (by kernel_rfl) (by simp) ?_
        refine AllReadyH.cons rfl (fun K hK => ?_) AllReadyH.nil
        go_simp
        refine hK.out _ _ ⟨_, Q2.out⟩ (fun hS3 => ?_)
        clear hK K
        try simp only [List.getElem_toArray, List.getElem_cons_succ, List.getElem_cons_zero, Act.put, List.setIfInBounds_toArray, List.set_cons_zero, List.set_cons_succ]
        refine wpAnyH_done (by kernel_rfl) ?_ _
        clear hS0 hS1 hS2 hS3
        go_wp2
        go_end0
        exact ⟨rfl, _, Q2.out, Q3.out, Q4.out, Q5.out⟩
      · go_simp
        refine hK.out _ _ ⟨_, P1.out⟩ (fun hS1 => ?_)
        clear hK K
        try simp only [List.getElem_toArray, List.getElem_cons_succ, List.getElem_cons_zero, Act.put, List.setIfInBounds_toArray, List.set_cons_zero, List.set_cons_succ]
        refine wpAnyH_ready (rs := [4]) (by kernel_rfl) (by simp) ?_
        refine AllReadyH.cons rfl (fun K hK => ?_) AllReadyH.nil
        go_simp
        refine hK.out _ _ ⟨_, P1.out⟩ (fun hS1 => ?_)
        clear hK K
        try simp only [List.getElem_toArray, List.getElem_cons_succ, List.getElem_cons_zero, Act.put, List.setIfInBounds_toArray, List.set_cons_zero, List.set_cons_succ]
        refine wpAnyH_ready (rs := [11]) (by kernel_rfl) (by simp) ?_
        refine AllReadyH.cons rfl (fun K hK => ?_) AllReadyH.nil
        refine Eq.mpr (if_pos (by rfl)) ?_
        refine wp_append_lies (wr.drew.alloc (.cells #[.string X] 9)) (.tmp 27) (.tmp 33) 28 rfl B 9 i0 (.string ByteArray.empty) 1 16 Tryz.underlying28 hi hz0 hz1 hz2 rfl (by decide) bv m l rfl (OW.out.alloc _) ⟨wr.heap.size, 0, none⟩ 1 1 [.string X] rfl rfl (World.news_of_block (cs := #[.string X]) (heap_alloc_new wr.drew _)) (by simp [Value.oneCell']) (by omega) (by unfold maxLen; omega) (by omega) (by have := HSZ.out; simp; omega) (wr.heap.size + 1) (by simp) ?_
        intro g2 cap2 w5 hown5 hgrow hat hlt5
        obtain ⟨Q1, Q2, Q3, Q4, Q5⟩ := FIN.out g2 cap2 w5 hown5 hgrow
        have k19 := Q1.out.c19
        have k19f := Q1.out.fz 19
        clear hown5 hgrow hat hlt5
        refine hK.out _ _ ⟨_, Q1.out⟩ (fun hS2 => ?_)
        clear hK K
        try simp only [List.getElem_toArray, List.getElem_cons_succ, List.getElem_cons_zero, Act.put, List.setIfInBounds_toArray, List.set_cons_zero, List.set_cons_succ]
        refine wpAnyH_take (i := 12) (v := ?_) rfl (by kernel_rfl) (by kernel_rfl) (by kernel_rfl) (fun _ _ _ h => h) (Or.inl ⟨by kernel_rfl, ?_⟩) hS2 ?_
        rotate_left
        · intro w hSw
          go_simp
          first | done | with_reducible rfl
        try simp only [List.getElem_toArray, List.getElem_cons_succ, List.getElem_cons_zero, Act.put, List.setIfInBounds_toArray, List.set_cons_zero, List.set_cons_succ]
        refine wpAnyH_take (i := 13) (v := ?_) rfl (by kernel_rfl) (by kernel_rfl) (by kernel_rfl) (fun _ _ _ h => h) (Or.inl ⟨by kernel_rfl, ?_⟩) hS2 ?_
        rotate_left
        · intro w hSw
          go_simp
          first | done | with_reducible rfl
        try simp only [List.getElem_toArray, List.getElem_cons_succ, List.getElem_cons_zero, Act.put, List.setIfInBounds_toArray, List.set_cons_zero, List.set_cons_succ]
        refine wpAnyH_ready (rs := [14]) (by kernel_rfl) (by simp) ?_
        refine AllReadyH.cons rfl (fun K hK => ?_) AllReadyH.nil
        go_simp
        refine hK.out _ _ ⟨_, Q2.out⟩ (fun hS3 => ?_)
        clear hK K
        try simp only [List.getElem_toArray, List.getElem_cons_succ, List.getElem_cons_zero, Act.put, List.setIfInBounds_toArray, List.set_cons_zero, List.set_cons_succ]
        refine wpAnyH_done (by kernel_rfl) ?_ _
        clear hS0 hS1 hS2 hS3
        go_wp2
        go_end0
        exact ⟨rfl, _, Q2.out, Q3.out, Q4.out, Q5.out⟩
end Go.Proofs.YtipcgdhjlpjcaaaGreatDoor
