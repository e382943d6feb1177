/-
  What impl.tablesOf answers, of any box and any factors.
-/
import Derived.Test.YtkbnnlhilnnpeaaGreatDoorBigI
import Derived.Test.YtkbnnlhilnnpeaaGreatDoorBase
import Derived.Test.YtkbnnlhilnnpeaaGreatDoorUnmix
set_option linter.unusedVariables false
set_option linter.unusedSimpArgs false
namespace Go.Proofs.YtkbnnlhilnnpeaaGreatDoor
open Go Go.RowKit

/-- the words of the first table, and of all of them. -/
def sprF (f : UInt8 → UInt8) (fc : Nat → UInt8) (i : Nat) : UInt32 := spr fc (f (UInt8.ofNat i))
def tbF (f : UInt8 → UInt8) (fc : Nat → UInt8) : Nat → UInt32 := ttF fun k i => rot (sprF f fc i) (upBy k)
theorem four_at (w : World) (A B C D : Array Value) (a b c d : TypeId) {W : World} (hW : (((w.alloc (.cells A a)).alloc (.cells B b)).alloc (.cells C c)).alloc (.cells D d) = W) :
    RAt W w.heap.size a A ∧ RAt W (w.heap.size + 1) b B ∧ RAt W (w.heap.size + 1 + 1) c C ∧ RAt W (w.heap.size + 1 + 1 + 1) d D ∧ Below w.heap.size w W := by
  obtain ⟨W2, h2⟩ : ∃ W2, (w.alloc (.cells A a)).alloc (.cells B b) = W2 := ⟨_, rfl⟩
  obtain ⟨r1, r2, b2, s2⟩ := two_at w A B a b h2
  rw [h2] at hW
  obtain ⟨r3, r4, b3, s3⟩ := two_at W2 C D c d hW
  rw [s2] at r3 r4
  exact ⟨r1.up b3, r2.up b3, r3, r4, b2.trans (b3.mono b2.size)⟩
theorem fac4_of {W : World} {g : Nat} {t : TypeId} {fc : Nat → UInt8} (h : RAt W g t (fac fc)) : Fac4 W g fc := ⟨h.lt, h.cell rfl, h.cell rfl, h.cell rfl, h.cell rfl⟩
set_option maxRecDepth 100000 in
set_option maxHeartbeats 6400000 in
theorem tablesOf_impl (f : UInt8 → UInt8) (fc : Nat → UInt8) (w : World) :
    Calls Tryz.prog 80 #[.agg (tabOf f), .agg (fac fc)] w fun e w' => e = .returned (.agg (ar32 (tbF f fc) 1024)) ∧ Below w.heap.size w w' := by
  have hmf : ∀ (fn : Fn) (first cap : Array Value) (w : World), (Instr.makeFunc fn first cap).run Tryz.prog w = .ok (.func fn first cap) w := fun _ _ _ _ => rfl
  obtain ⟨W, hW⟩ : ∃ W, (((w.alloc (.cells (tabOf f) 52)).alloc (.cells (fac fc) 93)).alloc (.cells z1024 91)).alloc (.cells z256 90) = W := ⟨_, rfl⟩
  obtain ⟨n1, n2, n3, n4, nb⟩ := four_at w _ _ _ _ _ _ _ _ hW
  obtain ⟨G, hG⟩ : ∃ G, sprF f fc = G := ⟨_, rfl⟩
  have HGG : Hid (∀ j, spr fc (f (UInt8.ofNat j)) = G j) := Lib.hid fun j => by rw [← hG]; rfl
  have hTF : tbF f fc = ttF fun k i => rot (G i) (upBy k) := by rw [← hG]; rfl
  rw [hTF]
  rw [z256_ar G] at n4
  have HSP := fun j W => Lib.hid (spread_impl (f (UInt8.ofNat j)) fc W)
  simp only [fac] at HSP
  have HBX : Hid (∀ j, j < 256 → (tabOf f)[j]? = some (.int .u8 ((f (UInt8.ofNat j)).toNat : Int))) := Lib.hid fun j hj => by
    have h := tabOf_at f (UInt8.ofNat j)
    rwa [UInt8.toNat_ofNat', Nat.mod_eq_of_lt (by omega)] at h
  have N1 := Lib.hid n1
  have N2 := Lib.hid (fac4_of n2)
  have N3 := Lib.hid n3
  have N4 := Lib.hid n4
  have NB := Lib.hid nb
  clear n1 n2 n3 n4 nb hTF hG
  generalize tabOf f = TB at *
  generalize hFC : fac fc = FC at *
  go_enter Tryz.func80, Tryz.ntmps80
  apply wp_seq
  apply wp_region_lit
  refine Great.wpList_runTo rfl (some 2) rfl (.pointer (some ⟨w.heap.size, 0, none⟩)) (w.alloc (.cells TB 52)) (by kernel_rfl) ?_
  refine Great.wpList_runTo rfl (some 3) rfl (.pointer (some ⟨(w.alloc (.cells TB 52)).heap.size, 0, none⟩)) ((w.alloc (.cells TB 52)).alloc (.cells FC 93)) (by kernel_rfl) ?_
  refine Great.wpList_runTo rfl (some 4) rfl (.pointer (some ⟨((w.alloc (.cells TB 52)).alloc (.cells FC 93)).heap.size, 0, none⟩)) (((w.alloc (.cells TB 52)).alloc (.cells FC 93)).alloc (.cells z1024 91)) (by kernel_rfl) ?_
  apply wpList_nil
  simp only [Exit.then]
  apply wp_seq
  apply wp_region_lit
  refine Great.wpList_runTo rfl (some 5) rfl (.pointer (some ⟨(((w.alloc (.cells TB 52)).alloc (.cells FC 93)).alloc (.cells z1024 91)).heap.size, 0, none⟩)) ((((w.alloc (.cells TB 52)).alloc (.cells FC 93)).alloc (.cells z1024 91)).alloc (.cells z256 90)) (by kernel_rfl) ?_
  rw [hW, al_sz, al_sz, al_sz]
  apply wpList_nil
  simp only [Exit.then]
  clear hW hFC
  go_wp2
  go_loopw [7] (fun v wr => ∃ j : Nat, j ≤ 256 ∧ v = .int .i64 j ∧ RAt wr w.heap.size 52 TB ∧ Fac4 wr (w.heap.size + 1) fc ∧ RAt wr (w.heap.size + 1 + 1) 91 z1024 ∧ RAt wr (w.heap.size + 1 + 1 + 1) 90 (arTo32 G 256 j) ∧ Below w.heap.size w wr) (fun v _ => 256 - (intOf v).toNat)
  case atStart => exact ⟨0, by omega, rfl, N1.out, N2.out, N3.out, N4.out, NB.out⟩
  case round =>
    obtain ⟨j, hj, rfl, g1, g2, g3, g4, hbel⟩ := hrel
    by_cases hlt : j < 256
    · have hj1 : (j : Int) < 256 := by omega
      have hj0 : (0 : Int) ≤ (j : Int) := by omega
      have bx := g1.cell (HBX.out j hlt)
      have HC := fun W => HSP j W
      simp only [HGG.out j] at HC
      have HD : Hid (Below w.heap.size w wr.drew) := Lib.hid hbel.drew
      have HSF : Hid (∀ W, Below wr.drew.heap.size wr.drew W → W.cell? ⟨w.heap.size, j, none⟩ = some (.int .u8 ((f (UInt8.ofNat j)).toNat : Int)) ∧ W.cell? ⟨w.heap.size + 1, 0, none⟩ = some (.int .u8 ((fc 0).toNat : Int)) ∧ W.cell? ⟨w.heap.size + 1, 1, none⟩ = some (.int .u8 ((fc 1).toNat : Int)) ∧ W.cell? ⟨w.heap.size + 1, 2, none⟩ = some (.int .u8 ((fc 2).toNat : Int)) ∧ W.cell? ⟨w.heap.size + 1, 3, none⟩ = some (.int .u8 ((fc 3).toNat : Int))) := Lib.hid fun W hW =>
        ⟨(hW.cell (p := ⟨w.heap.size, j, none⟩) g1.lt).trans bx, (hW.cell (p := ⟨w.heap.size + 1, 0, none⟩) g2.1).trans g2.2.1, (hW.cell (p := ⟨w.heap.size + 1, 1, none⟩) g2.1).trans g2.2.2.1, (hW.cell (p := ⟨w.heap.size + 1, 2, none⟩) g2.1).trans g2.2.2.2.1, (hW.cell (p := ⟨w.heap.size + 1, 3, none⟩) g2.1).trans g2.2.2.2.2⟩
      have HUP : Hid (∀ W, Below wr.drew.heap.size wr.drew W → RAt W w.heap.size 52 TB ∧ Fac4 W (w.heap.size + 1) fc ∧ RAt W (w.heap.size + 1 + 1) 91 z1024 ∧ RAt W (w.heap.size + 1 + 1 + 1) 90 (arTo32 G 256 j)) := Lib.hid fun W hW0 =>
        have hW : Below wr.heap.size wr W := ⟨hW0.os, hW0.tape, hW0.output, hW0.size, hW0.block⟩
        ⟨g1.below hW g1.lt, Fac4.below g2 hW g2.1, g3.below hW g3.lt, g4.below hW g4.lt⟩
      have hfar : ∀ (W : World) (v : Value) (b i : Nat), b < w.heap.size + 1 + 1 → (W.setCell ⟨w.heap.size + 1 + 1 + 1, j, none⟩ v).cell? ⟨b, i, none⟩ = W.cell? ⟨b, i, none⟩ := fun W v b i hb => World.cell?_setCell_far _ _ _ _ (show w.heap.size + 1 + 1 + 1 ≠ b by omega)
      have HFAR := Lib.hid hfar
      have hS0 := HSF.out wr.drew (Below.refl _ _)
      obtain ⟨y, hy⟩ : ∃ y, G j = y := ⟨_, rfl⟩
      simp only [hy] at HC
      have HY := Lib.hid hy
      have hxl := (f (UInt8.ofNat j)).toNat_lt
      have hx2 : ((f (UInt8.ofNat j)).toNat : Int) < 256 := by omega
      generalize f (UInt8.ofNat j) = x at *
      clear g1 g2 g3 g4 hbel hfar bx hy HSP HBX HGG N1 N2 N3 N4 NB hxl
      go_wp2
      refine wp_region_held_drew (S := fun w' => w'.cell? ⟨w.heap.size, j, none⟩ = some (.int .u8 (x.toNat : Int)) ∧ w'.cell? ⟨w.heap.size + 1, 0, none⟩ = some (.int .u8 ((fc 0).toNat : Int)) ∧ w'.cell? ⟨w.heap.size + 1, 1, none⟩ = some (.int .u8 ((fc 1).toNat : Int)) ∧ w'.cell? ⟨w.heap.size + 1, 2, none⟩ = some (.int .u8 ((fc 2).toNat : Int)) ∧ w'.cell? ⟨w.heap.size + 1, 3, none⟩ = some (.int .u8 ((fc 3).toNat : Int))) (by kernel_rfl) hS0 (fun hS => ?_)
      refine wpAnyH_take (i := 0) (v := ?_) rfl (by kernel_rfl) (by kernel_rfl) (by kernel_rfl) (fun _ _ _ h => h) (Or.inl ⟨by kernel_rfl, ?_⟩) hS ?_
      rotate_left
      · intro w hSw
        obtain ⟨s0, s1, s2, s3, s4⟩ := hSw
        go_simp
        first | done | with_reducible rfl
      try simp only [List.getElem_toArray, List.getElem_cons_succ, List.getElem_cons_zero, Act.put, List.setIfInBounds_toArray, List.set_cons_zero, List.set_cons_succ]
      refine wpAnyH_take (i := 1) (v := ?_) rfl (by kernel_rfl) (by kernel_rfl) (by kernel_rfl) (fun _ _ _ h => h) (Or.inl ⟨by kernel_rfl, ?_⟩) hS ?_
      rotate_left
      · intro w hSw
        obtain ⟨s0, s1, s2, s3, s4⟩ := hSw
        go_simp
        first | done | with_reducible rfl
      try simp only [List.getElem_toArray, List.getElem_cons_succ, List.getElem_cons_zero, Act.put, List.setIfInBounds_toArray, List.set_cons_zero, List.set_cons_succ]
      refine wpAnyH_take (i := 2) (v := ?_) rfl (by kernel_rfl) (by kernel_rfl) (by kernel_rfl) (fun _ _ _ h => h) (Or.inl ⟨by kernel_rfl, ?_⟩) hS ?_
      rotate_left
      · intro w hSw
        obtain ⟨s0, s1, s2, s3, s4⟩ := hSw
        go_simp
        first | done | with_reducible rfl
      try simp only [List.getElem_toArray, List.getElem_cons_succ, List.getElem_cons_zero, Act.put, List.setIfInBounds_toArray, List.set_cons_zero, List.set_cons_succ]
      refine wpAnyH_take (i := 3) (v := ?_) rfl (by kernel_rfl) (by kernel_rfl) (by kernel_rfl) (fun _ _ _ h => h) (Or.inl ⟨by kernel_rfl, ?_⟩) hS ?_
      rotate_left
      · intro w hSw
        obtain ⟨s0, s1, s2, s3, s4⟩ := hSw
        go_simp
        first | done | with_reducible rfl
      try simp only [List.getElem_toArray, List.getElem_cons_succ, List.getElem_cons_zero, Act.put, List.setIfInBounds_toArray, List.set_cons_zero, List.set_cons_succ]
      refine wpAnyH_take (i := 4) (v := ?_) rfl (by kernel_rfl) (by kernel_rfl) (by kernel_rfl) (fun _ _ _ h => h) (Or.inl ⟨by kernel_rfl, ?_⟩) hS ?_
      rotate_left
      · intro w hSw
        obtain ⟨s0, s1, s2, s3, s4⟩ := hSw
        go_simp
        first | done | with_reducible rfl
      try simp only [List.getElem_toArray, List.getElem_cons_succ, List.getElem_cons_zero, Act.put, List.setIfInBounds_toArray, List.set_cons_zero, List.set_cons_succ]
      refine wpAnyH_ready (rs := [5]) (by kernel_rfl) (by simp) ?_
      refine AllReadyH.cons rfl (fun K hK => ?_) AllReadyH.nil
      go_simp
      refine (HC _).out.mono ?_; rintro e w2 ⟨rfl, hb2⟩
      have HB2 := Lib.hid (HD.out.trans (hb2.mono HD.out.size))
      have hS2 := HSF.out w2 hb2
      have HU2 := Lib.hid (HUP.out w2 hb2)
      have hz := HU2.out.2.2.2.cell (arTo32_at G 256 j hlt)
      have hfz := HU2.out.2.2.2.fz j
      clear hb2
      refine hK.out _ _ hS2 (fun hS3 => ?_)
      clear hK K
      try simp only [List.getElem_toArray, List.getElem_cons_succ, List.getElem_cons_zero, Act.put, List.setIfInBounds_toArray, List.set_cons_zero, List.set_cons_succ]
      refine wpAnyH_take (i := 6) (v := ?_) rfl (by kernel_rfl) (by kernel_rfl) (by kernel_rfl) (fun _ _ _ h => h) (Or.inl ⟨by kernel_rfl, ?_⟩) hS3 ?_
      rotate_left
      · intro w hSw
        obtain ⟨s0, s1, s2, s3, s4⟩ := hSw
        go_simp
        first | done | with_reducible rfl
      try simp only [List.getElem_toArray, List.getElem_cons_succ, List.getElem_cons_zero, Act.put, List.setIfInBounds_toArray, List.set_cons_zero, List.set_cons_succ]
      refine wpAnyH_ready (rs := [7]) (by kernel_rfl) (by simp) ?_
      refine AllReadyH.cons rfl (fun K hK => ?_) AllReadyH.nil
      go_simp
      refine hK.out _ _ ⟨(HFAR.out _ _ _ _ (by omega)).trans hS2.1, (HFAR.out _ _ _ _ (by omega)).trans hS2.2.1, (HFAR.out _ _ _ _ (by omega)).trans hS2.2.2.1, (HFAR.out _ _ _ _ (by omega)).trans hS2.2.2.2.1, (HFAR.out _ _ _ _ (by omega)).trans hS2.2.2.2.2⟩ (fun hS4 => ?_)
      clear hK K
      try simp only [List.getElem_toArray, List.getElem_cons_succ, List.getElem_cons_zero, Act.put, List.setIfInBounds_toArray, List.set_cons_zero, List.set_cons_succ]
      refine wpAnyH_done (by kernel_rfl) ?_ _
      have M1 := Lib.hid (HU2.out.1.far (b := w.heap.size + 1 + 1 + 1) j (.int .u32 (y.toNat : Int)) (by omega))
      have M2 : Hid (Fac4 (w2.setCell ⟨w.heap.size + 1 + 1 + 1, j, none⟩ (.int .u32 (y.toNat : Int))) (w.heap.size + 1) fc) := Lib.hid ⟨by have := HU2.out.2.1.1; simpa [World.setCell] using this, (HFAR.out _ _ _ _ (by omega)).trans HU2.out.2.1.2.1, (HFAR.out _ _ _ _ (by omega)).trans HU2.out.2.1.2.2.1, (HFAR.out _ _ _ _ (by omega)).trans HU2.out.2.1.2.2.2.1, (HFAR.out _ _ _ _ (by omega)).trans HU2.out.2.1.2.2.2.2⟩
      have M3 := Lib.hid (HU2.out.2.2.1.far (b := w.heap.size + 1 + 1 + 1) j (.int .u32 (y.toNat : Int)) (by omega))
      have M4 := Lib.hid (HU2.out.2.2.2.set32 (v := .int .u32 (y.toNat : Int)) (by rw [HY.out]))
      have MB := Lib.hid (HB2.out.setCell (p := ⟨w.heap.size + 1 + 1 + 1, j, none⟩) (by simp; omega) (.int .u32 (y.toNat : Int)))
      clear hS hS2 hS3 hS4 hz hfz
      go_wp2
      go_roundw
      case rel => exact ⟨j + 1, by omega, by go_num, M1.out, M2.out, M3.out, M4.out, MB.out⟩
      case measure => simp [intOf]; omega
    · obtain rfl : j = 256 := by omega
      rw [arTo32_all] at g4
      have HCF : Hid (Calls Tryz.prog 110 #[.func (.func 111) #[] #[.pointer (some ⟨w.heap.size + 1 + 1 + 1, 0, none⟩)]] wr fun e w' => e = .returned (.agg (ar32 (ttF fun k i => rot (G i) (upBy k)) 1024)) ∧ Below wr.heap.size wr w') := Lib.hid
        (fourT_impl _ _ _ wr (enters_of Tryz.func111 (by kernel_rfl) rfl) (fun k hk W3 hW3 => tab1_impl G _ k hk W3 (g4.up hW3)))
      have hsi := t1024_info (ttF fun k i => rot (G i) (upBy k))
      have hone := ar32_one (ttF fun k i => rot (G i) (upBy k)) 1024
      have hz : z1024.size = (ar32 (ttF fun k i => rot (G i) (upBy k)) 1024).size := by rw [ar32_size]; unfold z1024; rw [Array.size_replicate]
      generalize hR : ar32 (ttF fun k i => rot (G i) (upBy k)) 1024 = R at *
      have HR := Lib.hid hR
      clear hR
      have G3 := Lib.hid g3
      have HB := Lib.hid hbel
      clear g1 g2 g3 g4 hbel HSP HBX HGG N1 N2 N3 N4 NB
      go_wp2_with fail
      refine HCF.out.mono ?_; rintro e w2 ⟨rfl, hb2⟩
      have M := Lib.hid (G3.out.up hb2)
      have MS := Lib.hid (setRow_heap w2 _ _ R _ _ M.out)
      have MB : Hid (Below w.heap.size w (w2.setRow (w.heap.size + 1 + 1) R)) := Lib.hid (below_setRow (HB.out.trans (hb2.mono HB.out.size)) (by omega) _)
      clear hb2 HCF HB G3
      generalize z1024 = Z at *
      go_wp2_with (refine wpList_store_row rfl 91 _ _ rfl (w.heap.size + 1 + 1) R rfl rfl 91 _ M.out hsi hz hone ?_)
      refine bodyPost_ret (v := .agg R) ?_ rfl ⟨by rw [HR.out], MB.out⟩
      exact results_cell_row rfl _ _ (w.heap.size + 1 + 1) 91 R (0, 0) _ rfl MS.out Tryz.underlying91 rfl hsi
end Go.Proofs.YtkbnnlhilnnpeaaGreatDoor
