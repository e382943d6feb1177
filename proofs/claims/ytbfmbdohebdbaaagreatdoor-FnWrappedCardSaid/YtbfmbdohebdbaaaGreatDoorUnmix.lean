/-
  Contracts and facts that the laws of this seat use: UnmixI, UnmixS.
-/
import Derived.Test.YtbfmbdohebdbaaaGreatDoorPure
import Derived.Test.YtbfmbdohebdbaaaGreatDoorKey
import Derived.WalkKit
import Derived.LoopTactic
import Derived.OwnWalk
import Derived.WalkLawsBesides
import Derived.WalkSpells
import Derived.Outline
import Derived.Below
import Derived.Laws.OwnMore
import Derived.Deep.RegionHeld3
import Derived.Deep.QuietTactic
import Derived.BigQuiet
import Derived.IntWalk
set_option linter.unusedVariables false
set_option linter.unusedSimpArgs false
namespace Go.Proofs.YtbfmbdohebdbaaaGreatDoor
open Go.RowKit

/-- four factors as an array. -/
def fac (f : Nat → UInt8) : Array Value := #[.int .u8 (f 0).toNat, .int .u8 (f 1).toNat, .int .u8 (f 2).toNat, .int .u8 (f 3).toNat]
theorem neg_and31 : ∀ n : Fin 4, bits .and .u64 (IntKind.u64.wrap (-8 * (n.val : Int))) 31 = ((upBy n.val : Nat) : Int) := by decide +kernel
set_option maxRecDepth 100000 in
theorem rot32_neg (x : UInt32) (k : Nat) (hk : k < 4) (w : World) :
    Calls Tryz.prog 164 #[.int .u32 x.toNat, .int .i64 (-8 * (k : Int))] w fun e w' => e = .returned (.int .u32 (rot x (upBy k)).toNat) ∧ w = w' := by
  have hu : upBy k < 32 := Nat.mod_lt _ (by omega)
  have HV := Lib.hid (rot_u32 x (upBy k) (by omega))
  have hA := neg_and31 ⟨k, hk⟩
  simp only at hA
  generalize upBy k = s at *
  generalize -8 * (k : Int) = q at *
  have hk1 : (s : Int) < 32 := by omega
  go_enter Tryz.func164, Tryz.ntmps164
  go_wp2
  go_ret
  exact ⟨ret_i HV.out, rfl⟩
theorem index_fac4 (f : Nat → UInt8) (W : World) : (Instr.index 128 (.agg (fac f)) (.int .i64 0)).run Tryz.prog W = .ok (.int .u8 ((f 0).toNat : Int)) W ∧ (Instr.index 128 (.agg (fac f)) (.int .i64 1)).run Tryz.prog W = .ok (.int .u8 ((f 1).toNat : Int)) W ∧ (Instr.index 128 (.agg (fac f)) (.int .i64 2)).run Tryz.prog W = .ok (.int .u8 ((f 2).toNat : Int)) W ∧ (Instr.index 128 (.agg (fac f)) (.int .i64 3)).run Tryz.prog W = .ok (.int .u8 ((f 3).toNat : Int)) W :=
  ⟨by kernel_rfl, by kernel_rfl, by kernel_rfl, by kernel_rfl⟩
theorem index_fac (f : Nat → UInt8) (k : Nat) (hk : k < 4) (W : World) : (Instr.index 128 (.agg (fac f)) (.int .i64 (k : Int))).run Tryz.prog W = .ok (.int .u8 ((f k).toNat : Int)) W := by
  have h4 : k = 0 ∨ k = 1 ∨ k = 2 ∨ k = 3 := by omega
  rcases h4 with rfl | rfl | rfl | rfl
  · exact (index_fac4 f W).1
  · exact (index_fac4 f W).2.1
  · exact (index_fac4 f W).2.2.1
  · exact (index_fac4 f W).2.2.2
theorem times_flip (a b : UInt8) (w : World) :
    Calls Tryz.prog 163 #[.int .u8 b.toNat, .int .u8 a.toNat] w fun e w' => e = .returned (.int .u8 (mul a b).toNat) ∧ w = w' := by
  rw [mul_comm a b]; exact times_impl b a w
set_option maxRecDepth 100000 in
set_option maxHeartbeats 800000 in
theorem spread_impl (b : UInt8) (f : Nat → UInt8) (w : World) :
    Calls Tryz.prog 121 #[.int .u8 b.toNat, .agg (fac f)] w fun e w' => e = .returned (.int .u32 (spr f b).toNat) ∧ Below w.heap.size w w' := by
  have HT := fun k W => Lib.hid (times_flip (f k) b W)
  have HI := Lib.hid (index_fac f)
  unfold fac at HI
  unfold fac
  have HB : Hid (Below w.heap.size w (w.alloc (.cells (fac f) 128))) := Lib.hid ((Below.refl _ _).alloc (Nat.le_refl _) _)
  unfold fac at HB
  go_enter Tryz.func121, Tryz.ntmps121
  go_wp2
  go_loop [5, 9] (fun v i => ∃ k : Nat, k ≤ 4 ∧ i = .int .i64 k ∧ v = .int .u32 (sprTo f b k)) (fun _ i => 4 - (intOf i).toNat)
  case atStart => exact ⟨0, by omega, rfl, rfl⟩
  case round =>
    obtain ⟨k, hk, rfl, rfl⟩ := hrel
    by_cases hlt : k < 4
    · have hix := HI.out k hlt
      have HC := HT k
      have hl := sprTo_lt f b k
      have HU := Lib.hid (sprTo_up f b k (mul (f k) b) rfl)
      have hyl := (mul (f k) b).toNat_lt
      generalize mul (f k) b = y at *
      generalize f k = x at *
      have hk1 : (k : Int) < 4 := by omega
      have hyl2 : (y.toNat : Int) < 256 := by omega
      clear HT hyl
      go_wp2_with fail
      refine (HC _).out.mono ?_; rintro e w' ⟨rfl, rfl⟩
      go_wp2
      go_round
      case rel => exact ⟨k + 1, by omega, by go_num, val_i HU.out⟩
      case measure => simp [intOf]; omega
    · obtain rfl : k = 4 := by omega
      have HU := Lib.hid (sprTo_4 f b)
      go_wp2
      go_ret
      exact ⟨ret_i (by rw [HU.out]), HB.out⟩
/-- a block that holds four factors. -/
def Fac4 (w : World) (g : Nat) (f : Nat → UInt8) : Prop := g < w.heap.size ∧ w.cell? ⟨g, 0, none⟩ = some (.int .u8 ((f 0).toNat : Int)) ∧ w.cell? ⟨g, 1, none⟩ = some (.int .u8 ((f 1).toNat : Int)) ∧ w.cell? ⟨g, 2, none⟩ = some (.int .u8 ((f 2).toNat : Int)) ∧ w.cell? ⟨g, 3, none⟩ = some (.int .u8 ((f 3).toNat : Int))
theorem Fac4.below {w w' : World} {g : Nat} {f : Nat → UInt8} {B : Nat} (h : Fac4 w g f) (hb : Below B w w') (hB : g < B) : Fac4 w' g f :=
  ⟨Nat.lt_of_lt_of_le h.1 hb.size, (hb.cell (p := ⟨g, 0, none⟩) hB).trans h.2.1, (hb.cell (p := ⟨g, 1, none⟩) hB).trans h.2.2.1, (hb.cell (p := ⟨g, 2, none⟩) hB).trans h.2.2.2.1, (hb.cell (p := ⟨g, 3, none⟩) hB).trans h.2.2.2.2⟩
theorem fac4_new (w : World) (f : Nat → UInt8) : Fac4 (w.alloc (.cells (fac f) 128)) w.heap.size f :=
  ⟨by simp, (cell_of_row _ w.heap.size 0 _ _ _ (heap_alloc_new w _)).trans rfl, (cell_of_row _ w.heap.size 1 _ _ _ (heap_alloc_new w _)).trans rfl, (cell_of_row _ w.heap.size 2 _ _ _ (heap_alloc_new w _)).trans rfl, (cell_of_row _ w.heap.size 3 _ _ _ (heap_alloc_new w _)).trans rfl⟩
theorem mixTo_lt (f : Nat → UInt8) (x : UInt32) (k : Nat) : (mixTo f x k).toNat < 4294967296 := w32_lt _
set_option maxRecDepth 100000 in
set_option maxHeartbeats 800000 in
theorem mix_impl (x : UInt32) (f : Nat → UInt8) (w : World) :
    Calls Tryz.prog 153 #[.int .u32 x.toNat, .agg (fac f)] w fun e w' => e = .returned (.int .u32 (mixW f x).toNat) ∧ Below w.heap.size w w' := by
  have H1 := fun k hk W => Lib.hid (byteOf_impl x k hk W)
  have H2 := fun b W => Lib.hid (spread_impl b f W)
  have H3 := fun y k hk W => Lib.hid (rot32_neg y k hk W)
  simp only [fac] at H2
  have HF : Hid (Fac4 (w.alloc (.cells (fac f) 128)) w.heap.size f) := Lib.hid (fac4_new w f)
  have HB : Hid (Below w.heap.size w (w.alloc (.cells (fac f) 128))) := Lib.hid ((Below.refl _ _).alloc (Nat.le_refl _) _)
  unfold fac at HF HB
  unfold fac
  go_enter Tryz.func153, Tryz.ntmps153
  go_wp2
  go_loopw [5, 7] (fun v i wr => ∃ k : Nat, k ≤ 4 ∧ i = .int .i64 k ∧ v = .int .u32 (mixTo f x k).toNat ∧ Fac4 wr w.heap.size f ∧ Below w.heap.size w wr) (fun _ i _ => 4 - (intOf i).toNat)
  case atStart => exact ⟨0, by omega, rfl, rfl, HF.out, HB.out⟩
  case round =>
    obtain ⟨k, hk, rfl, rfl, hf, hbel⟩ := hrel
    by_cases hlt : k < 4
    · have hk1 : (k : Int) < 4 := by omega
      have hm : bits .xor .u32 ((mixTo f x k).toNat : Int) ((rot (spr f (wb x k)) (upBy k)).toNat : Int) = ((mixTo f x (k + 1)).toNat : Int) := u32_xor _ _
      have HM := Lib.hid hm
      have q1 : IntKind.i64.wrap (-8 * (k : Int)) = -8 * (k : Int) := IntWalk.i64_in _ (by omega)
      have C1 := fun W => H1 k hlt W
      have C2 := fun W => H2 (wb x k) W
      have C3 := fun W => H3 (spr f (wb x k)) k hlt W
      have hl1 := w32_lt (mixTo f x k)
      have hl2 := w32_lt (rot (spr f (wb x k)) (upBy k))
      generalize rot (spr f (wb x k)) (upBy k) = y at *
      generalize spr f (wb x k) = u at *
      generalize wb x k = b at *
      have hg := hf.1
      obtain ⟨_, c0, c1, c2, c3⟩ := hf
      have HB2 := Lib.hid hbel
      clear H1 H2 H3 hm hbel HB HF
      go_wp2
      go_region_held3 (fun w' => w'.cell? ⟨w.heap.size, 0, none⟩ = some (.int .u8 ((f 0).toNat : Int)) ∧ w'.cell? ⟨w.heap.size, 1, none⟩ = some (.int .u8 ((f 1).toNat : Int)) ∧ w'.cell? ⟨w.heap.size, 2, none⟩ = some (.int .u8 ((f 2).toNat : Int)) ∧ w'.cell? ⟨w.heap.size, 3, none⟩ = some (.int .u8 ((f 3).toNat : Int)))
        (first
          | exact ⟨c0, c1, c2, c3⟩
          | exact ⟨(hb2.cell (p := ⟨w.heap.size, 0, none⟩) hg).trans c0, (hb2.cell (p := ⟨w.heap.size, 1, none⟩) hg).trans c1, (hb2.cell (p := ⟨w.heap.size, 2, none⟩) hg).trans c2, (hb2.cell (p := ⟨w.heap.size, 3, none⟩) hg).trans c3⟩)
        (first
          | (with_reducible refine (C1 _).out.mono ?_; rintro e w' ⟨rfl, rfl⟩)
          | (with_reducible refine (C2 _).out.mono ?_; rintro e w2 ⟨rfl, hb2⟩)
          | (with_reducible refine (C3 _).out.mono ?_; rintro e w' ⟨rfl, rfl⟩))
      have HF2 : Hid (Fac4 w2 w.heap.size f) := Lib.hid ((show Fac4 wr.drew w.heap.size f from ⟨hg, c0, c1, c2, c3⟩).below hb2 hg)
      have HB3 := Lib.hid ((HB2.out.drew).trans (hb2.mono HB2.out.size))
      clear hb2 c0 c1 c2 c3
      go_wp2
      go_roundw
      case rel => exact ⟨k + 1, by omega, by go_num, val_i HM.out, HF2.out, HB3.out⟩
      case measure => simp [intOf]; omega
    · obtain rfl : k = 4 := by omega
      go_wp2
      go_ret
      exact ⟨rfl, hbel⟩
/-- what the package's table of factors holds. -/
def UnF (w : World) : Prop := Fac4 w 2 unF
theorem mix_uw (s : ByteArray) (n i : Nat) (h4 : 4 ≤ i) (hi : i < kL n - 4) : mixW unF (ew s n i) = uw s n i := by
  rw [unmix_f, uw_in s n i ⟨h4, hi⟩]
theorem info32' : (Tryz.prog.info? 121).map (fun i => (i.zero, i.size, i.bytes)) = some (some (.int .u32 0), 1, 4) := by kernel_rfl
/-- the words for the other way, as numbers. -/
def unInts (s : ByteArray) : List Int := if kOk s then upTo (fun i => ((uw s (s.size / 4) i).toNat : Int)) (kL (s.size / 4)) else []
theorem unInts_no (s : ByteArray) (h : ¬ kOk s) : unInts s = [] := if_neg h
theorem unInts_of (s : ByteArray) (n : Nat) (h : kOf s n) : unInts s = nums (upTo (uw s n) (kL n)) := by
  unfold unInts nums; rw [if_pos h.ok, h.div, upTo_map]
theorem un_rel {w wr : World} {g n k : Nat} {s : ByteArray} {L : Nat} {x : UInt32} {e : TypeId} (hx : uw s n k = x)
    (hown : wr.ownsRow w.heap.size e 1 (.slice (some ⟨g, 0, none⟩) L L) L (cells32 (rowTo (uw s n) (ew s n) L k))) (hb : Below w.heap.size w wr) (hg : w.heap.size ≤ g) :
    (wr.setCell ⟨g, k, none⟩ (.int .u32 (x.toNat : Int))).ownsRow w.heap.size e 1 (.slice (some ⟨g, 0, none⟩) L L) L (cells32 (rowTo (uw s n) (ew s n) L (k + 1))) ∧ Below w.heap.size w (wr.setCell ⟨g, k, none⟩ (.int .u32 (x.toNat : Int))) := by
  refine ⟨?_, hb.setCell hg _⟩
  have h := (hown.stored k (cell32 x)).1
  have e : (cells32 (rowTo (uw s n) (ew s n) L k)).set k (cell32 x) = cells32 (rowTo (uw s n) (ew s n) L (k + 1)) := by
    rw [cells32_set, ← hx, rowTo_set]
  rw [e] at h
  exact h
set_option maxRecDepth 100000 in
set_option maxHeartbeats 1600000 in
theorem unmixed_yes (s : ByteArray) (n : Nat) (hn : kOf s n) (w : World) (hu : UnF w) :
    Calls Tryz.prog 104 #[.string s] w fun e w' => e = .returned (.slice (some ⟨w.heap.size, 0, none⟩) (kL n) (kL n)) ∧ w'.ownsRow w.heap.size 121 1 (.slice (some ⟨w.heap.size, 0, none⟩) (kL n) (kL n)) (kL n) (cells32 (upTo (uw s n) (kL n))) ∧ Below w.heap.size w w' := by
  have H1 := Lib.hid (expanded_yes s n hn)
  have hle := hn.le
  have HM := fun i W => Lib.hid (mix_impl (ew s n i) unF W)
  simp only [fac] at HM
  have HU := Lib.hid hu
  clear hu
  obtain ⟨L, hL2⟩ : ∃ L, kL n = L := ⟨_, rfl⟩
  have HLN : Hid (L = 4 * (n + 7)) := Lib.hid (by rw [← hL2]; rfl)
  have HS : Hid (upTo (ew s n) L = rowTo (uw s n) (ew s n) L 4) := Lib.hid (rowTo_start _ _ _ _ (fun j hj => uw_out s n j (by omega))).symm
  have HE : Hid (rowTo (uw s n) (ew s n) L (L - 4) = upTo (uw s n) L) := Lib.hid (rowTo_end _ _ _ _ (fun j h1 h2 => uw_out s n j (by rw [hL2]; omega)))
  have HX : Hid (∀ i, 4 ≤ i → i < L - 4 → mixW unF (ew s n i) = uw s n i) := Lib.hid (fun i h4 hi => mix_uw s n i h4 (by rw [hL2]; exact hi))
  rw [hL2] at H1 ⊢
  have hL60 : (L : Int) ≤ 60 := by have := HLN.out; omega
  have hL44 : (44 : Int) ≤ (L : Int) := by have := HLN.out; omega
  clear hL2 hle
  go_enter Tryz.func104, Tryz.ntmps104
  go_wp2_with fail
  refine (H1.out _).mono ?_; rintro e w1 ⟨rfl, hown, hb1⟩
  rw [HS.out] at hown
  have HO := Lib.hid hown
  have HB := Lib.hid hb1
  clear hown hb1
  have hG : 2 < w.heap.size := HU.out.1
  have HF : Hid (Fac4 w1 2 unF) := Lib.hid (HU.out.below HB.out hG)
  generalize unF = f at *
  go_wp2
  go_loopw [4] (fun v wr => ∃ k : Nat, 4 ≤ k ∧ k ≤ L - 4 ∧ v = .int .i64 k ∧ wr.ownsRow w.heap.size 121 1 (.slice (some ⟨w.heap.size, 0, none⟩) L L) L (cells32 (rowTo (uw s n) (ew s n) L k)) ∧ Fac4 wr 2 f ∧ Below w.heap.size w wr) (fun v _ => L - (intOf v).toNat)
  case atStart => exact ⟨4, by omega, by omega, rfl, HO.out, HF.out, HB.out⟩
  case round =>
    obtain ⟨k, hk4, hk, rfl, hown, hf, hbel⟩ := hrel
    by_cases hlt : k < L - 4
    · have hk1 : (k : Int) < (L : Int) - 4 := by omega
      have hk2 : (k : Int) < (L : Int) := by omega
      have hk0 : (0 : Int) ≤ (k : Int) := by omega
      have hca := (hown.cellAt k (by omega)).trans (cells32_at _ _ _ (rowTo_hi (uw s n) (ew s n) L k k (by omega) (Nat.le_refl _)))
      have hg := (hown.lt w.heap.size rfl).2
      have hG2 := hf.1
      have HOW := Lib.hid hown
      have HBW := Lib.hid hbel
      have HC := fun W => HM k W
      rw [HX.out k hk4 hlt] at HC
      have HUX : Hid (uw s n k = uw s n k) := Lib.hid rfl
      obtain ⟨_, c0, c1, c2, c3⟩ := hf
      have hy := w32_lt (ew s n k)
      generalize ew s n k = y at *
      have HK4 := Lib.hid hk4
      obtain ⟨x, hx⟩ : ∃ x, uw s n k = x := ⟨_, rfl⟩
      rw [hx] at HC
      have hxl := w32_lt x
      have HXX := Lib.hid hx
      have hfar : ∀ (W : World) (v : Value) (j : Nat), (W.setCell ⟨w.heap.size, k, none⟩ v).cell? ⟨2, j, none⟩ = W.cell? ⟨2, j, none⟩ := fun W v j => World.cell?_setCell_far _ _ _ _ (Nat.ne_of_gt hG)
      clear hown hbel HM hx HX hk4
      go_wp2
      refine wp_region_held_drew (S := (fun w' => w'.cell? ⟨2, 0, none⟩ = some (.int .u8 ((f 0).toNat : Int)) ∧ w'.cell? ⟨2, 1, none⟩ = some (.int .u8 ((f 1).toNat : Int)) ∧ w'.cell? ⟨2, 2, none⟩ = some (.int .u8 ((f 2).toNat : Int)) ∧ w'.cell? ⟨2, 3, none⟩ = some (.int .u8 ((f 3).toNat : Int)))) (by kernel_rfl) ⟨c0, c1, c2, c3⟩ (fun hHeld => ?_)
      refine tk 0 (v := ?_) ?_ (by assumption) ?_
      rotate_left
      · intro w hSw
        try (obtain ⟨s0, s1, s2, s3⟩ := hSw)
        go_simp
        first | done | with_reducible rfl
      try simp only [lay]
      refine tk 1 (v := ?_) ?_ (by assumption) ?_
      rotate_left
      · intro w hSw
        try (obtain ⟨s0, s1, s2, s3⟩ := hSw)
        go_simp
        first | done | with_reducible rfl
      try simp only [lay]
      refine tk 2 (v := ?_) ?_ (by assumption) ?_
      rotate_left
      · intro w hSw
        try (obtain ⟨s0, s1, s2, s3⟩ := hSw)
        go_simp
        first | done | with_reducible rfl
      try simp only [lay]
      refine tk 3 (v := ?_) ?_ (by assumption) ?_
      rotate_left
      · intro w hSw
        try (obtain ⟨s0, s1, s2, s3⟩ := hSw)
        go_simp
        first | done | with_reducible rfl
      try simp only [lay]
      refine tk 4 (v := ?_) ?_ (by assumption) ?_
      rotate_left
      · intro w hSw
        try (obtain ⟨s0, s1, s2, s3⟩ := hSw)
        go_simp
        first | done | with_reducible rfl
      try simp only [lay]
      refine tk 6 (v := ?_) ?_ (by assumption) ?_
      rotate_left
      · intro w hSw
        try (obtain ⟨s0, s1, s2, s3⟩ := hSw)
        go_simp
        first | done | with_reducible rfl
      try simp only [lay]
      refine wpAnyH_ready (rs := [5]) (by kernel_rfl) (by simp) ?_
      refine AllReadyH.cons rfl (fun K hK => ?_) AllReadyH.nil
      go_simp
      refine hK.out _ _ ⟨c0, c1, c2, c3⟩ (fun hHeld => ?_)
      clear hK K
      try simp only [lay]
      refine wpAnyH_ready (rs := [7]) (by kernel_rfl) (by simp) ?_
      refine AllReadyH.cons rfl (fun K hK => ?_) AllReadyH.nil
      go_simp
      refine (HC _).out.mono ?_; rintro e w2 ⟨rfl, hb2⟩
      have hc1 := (hb2.cell (p := ⟨w.heap.size, k, none⟩) (by simpa using hg)).trans hca
      have hf1 := (own_below (w := wr.drew) HOW.out hb2).frozenAt k
      refine hK.out _ _ ⟨(hb2.cell (p := ⟨_, 0, none⟩) hG2).trans c0, (hb2.cell (p := ⟨_, 1, none⟩) hG2).trans c1, (hb2.cell (p := ⟨_, 2, none⟩) hG2).trans c2, (hb2.cell (p := ⟨_, 3, none⟩) hG2).trans c3⟩ (fun hHeld => ?_)
      clear hK K
      try simp only [lay]
      refine tk 8 (v := ?_) ?_ (by assumption) ?_
      rotate_left
      · intro w hSw
        try (obtain ⟨s0, s1, s2, s3⟩ := hSw)
        go_simp
        first | done | with_reducible rfl
      try simp only [lay]
      refine wpAnyH_ready (rs := [9]) (by kernel_rfl) (by simp) ?_
      refine AllReadyH.cons rfl (fun K hK => ?_) AllReadyH.nil
      go_simp
      refine hK.out _ _ ⟨(hfar _ _ 0).trans ((hb2.cell (p := ⟨_, 0, none⟩) hG2).trans c0), (hfar _ _ 1).trans ((hb2.cell (p := ⟨_, 1, none⟩) hG2).trans c1), (hfar _ _ 2).trans ((hb2.cell (p := ⟨_, 2, none⟩) hG2).trans c2), (hfar _ _ 3).trans ((hb2.cell (p := ⟨_, 3, none⟩) hG2).trans c3)⟩ (fun hHeld => ?_)
      clear hK K
      try simp only [lay]
      refine wpAnyH_done (by kernel_rfl) ?_ _
      have hown1 := own_below (w := wr.drew) HOW.out hb2
      have hbel1 := (HBW.out.drew).trans (hb2.mono HBW.out.size)
      have HX2 := Lib.hid (un_rel (x := x) HXX.out hown1 hbel1 (Nat.le_refl _))
      have HF2 : Hid (Fac4 (w2.setCell ⟨w.heap.size, k, none⟩ (.int .u32 (x.toNat : Int))) 2 f) := Lib.hid
        ⟨Nat.lt_of_lt_of_le hG HX2.out.2.size, (hfar _ _ 0).trans ((hb2.cell (p := ⟨_, 0, none⟩) hG2).trans c0), (hfar _ _ 1).trans ((hb2.cell (p := ⟨_, 1, none⟩) hG2).trans c1), (hfar _ _ 2).trans ((hb2.cell (p := ⟨_, 2, none⟩) hG2).trans c2), (hfar _ _ 3).trans ((hb2.cell (p := ⟨_, 3, none⟩) hG2).trans c3)⟩
      clear hown1 hbel1 hb2 c0 c1 c2 c3 hca hfar
      go_wp2
      go_roundw
      case rel => exact ⟨k + 1, by have := HK4.out; omega, by omega, by go_num, HX2.out.1, HF2.out, HX2.out.2⟩
      case measure => simp [intOf]; omega
    · obtain rfl : k = L - 4 := by omega
      rw [HE.out] at hown
      have HOF := Lib.hid hown
      have HBF := Lib.hid hbel
      clear hown hbel
      go_wp2
      go_ret
      exact ⟨rfl, HOF.out, HBF.out⟩
set_option maxRecDepth 100000 in
theorem unmixed_no (s : ByteArray) (h : ¬ kOk s) (w : World) :
    Calls Tryz.prog 104 #[.string s] w fun e w' => e = .returned (.slice none 0 0) ∧ w = w' := by
  have H1 := Lib.hid (expanded_no s h)
  clear h
  go_enter Tryz.func104, Tryz.ntmps104
  go_wp2_with fail
  refine (H1.out _).mono ?_; rintro e w' ⟨rfl, rfl⟩
  go_wp2
  go_loop [4] (fun v => v = .int .i64 4) (fun _ => 0)
  case atStart => exact rfl
  case round =>
    obtain rfl := hrel
    go_wp2
    go_ret
    exact ⟨rfl, rfl⟩
end Go.Proofs.YtbfmbdohebdbaaaGreatDoor
set_option linter.unusedVariables false
namespace Go.Proofs.YtbfmbdohebdbaaaGreatDoor
open Go.RowKit

/-- a row of four numbers that can be read. -/
def Row4 (w : World) (g : Nat) (r : Nat → UInt8) : Prop := g < w.heap.size ∧ ∀ j, j < 4 → w.cell? ⟨g, j, none⟩ = some (.int .i64 ((r j).toNat : Int))
theorem Row4.below {w w' : World} {B g : Nat} {r : Nat → UInt8} (h : Row4 w g r) (hb : Below B w w') (hB : w.heap.size ≤ B) : Row4 w' g r :=
  ⟨Nat.lt_of_lt_of_le h.1 hb.size, fun j hj => (hb.cell (p := ⟨g, j, none⟩) (Nat.lt_of_lt_of_le h.1 hB)).trans (h.2 j hj)⟩
theorem putW_byte (x : UInt32) (k : Nat) (hk : k < 4) : byteOf (putW x) k = wb x k := by
  have h4 : k = 0 ∨ k = 1 ∨ k = 2 ∨ k = 3 := by omega
  rcases h4 with rfl | rfl | rfl | rfl <;> rfl
theorem times_same (a b : UInt8) (w : World) :
    Calls Tryz.prog 155 #[.int .i64 a.toNat, .int .i64 b.toNat] w fun e w' => e = .returned (.int .i64 (mul a b).toNat) ∧ w' = w :=
  (Times_spec8 a b w).mono fun e w' ⟨h1, h2⟩ => ⟨h1, h2.symm⟩
theorem col_rel {F : Nat → UInt8} {w w2 w1 : World} {k : Nat} {e : TypeId} {u v : Value} {o : Obj} {c : UInt8} (hx : F k = c)
    (hown2 : w2.ownsRow w.heap.size e 1 u k (cells8 (upTo F k))) (hbel2 : Below w.heap.size w w2)
    (hown3 : w1.ownsRow w.heap.size e 1 v (k + 1) (cells8 (upTo F k) ++ [.int .u8 (c.toNat : Int)]))
    (hgrow : (w2.alloc o).grownBy w1 u.ownBlock) :
    w1.ownsRow w.heap.size e 1 v (k + 1) (cells8 (upTo F (k + 1))) ∧ Below w.heap.size w w1 := by
  refine ⟨?_, ?_⟩
  · rw [upTo_succ, hx, cells8_append]
    exact hown3
  · have h1 : Below w.heap.size w (w2.alloc o) := hbel2.alloc hbel2.size _
    exact h1.grown hgrow h1.size (fun b hb => (hown2.lt b hb).1)
set_option maxRecDepth 100000 in
set_option maxHeartbeats 1600000 in
theorem column_spec (x : UInt32) (r : Nat → UInt8) (g : Nat) (w : World) (hr : Row4 w g r) :
    Calls Tryz.prog 112 #[.string (putW x), .slice (some ⟨g, 0, none⟩) 4 4] w fun e w' => e = .returned (.string ⟨#[colTo r x 0 4, colTo r x 1 4, colTo r x 2 4, colTo r x 3 4]⟩) ∧ Below w.heap.size w w' := by
  obtain ⟨i0, hi, hz0, hz1, hz2⟩ := info_parts Tryz.info5
  have HR := Lib.hid hr
  clear hr
  go_enter Tryz.func112, Tryz.ntmps112
  have HI := Lib.hid (fun k hk => putW_byte x k hk)
  go_wp2
  go_loopw [5, 6] (fun v i wr => ∃ k : Nat, k ≤ 4 ∧ i = .int .i64 k ∧ wr.ownsRow w.heap.size 5 1 v k (cells8 (upTo (fun j => colTo r x j 4) k)) ∧ Below w.heap.size w wr) (fun _ i _ => 4 - (intOf i).toNat)
  case atStart => exact ⟨0, by omega, rfl, World.ownsRow_lit w #[] 0 (Nat.le_refl _) (by simp [maxLen]) rfl, (Below.refl _ _).alloc (Nat.le_refl _) _⟩
  case round =>
    obtain ⟨k, hk, rfl, hown, hbel⟩ := hrel
    have HB := Lib.hid hbel
    have HO := Lib.hid hown
    by_cases hlt : k < 4
    · have hk1 : (k : Int) < 4 := by omega
      have HRW := Lib.hid (HR.out.below hbel (Nat.le_refl _))
      clear hown hbel
      go_wp2
      go_loopw [7, 8] (fun b j wr2 => ∃ m : Nat, m ≤ 4 ∧ j = .int .i64 m ∧ b = .int .i64 (colTo r x k m).toNat ∧ Row4 wr2 g r ∧ wr2.ownsRow w.heap.size 5 1 u5 k (cells8 (upTo (fun j => colTo r x j 4) k)) ∧ Below w.heap.size w wr2) (fun _ j _ => 4 - (intOf j).toNat)
      case atStart => exact ⟨0, by omega, rfl, rfl, HRW.out, HO.out, HB.out⟩
      case round =>
        obtain ⟨m, hm, rfl, rfl, hrow, hown, hbel⟩ := hrel
        by_cases hlm : m < 4
        · obtain ⟨j, hj⟩ : ∃ j, (m + 4 - k) % 4 = j := ⟨_, rfl⟩
          have hj4 : j < 4 := by omega
          have em : ((m : Int) + 4 - (k : Int)).tmod 4 = (j : Int) := by rw [Int.tmod_eq_emod_of_nonneg (by omega)]; omega
          have q1 : IntKind.i64.wrap ((m : Int) + 4) = (m : Int) + 4 := IntWalk.i64_in _ (by omega)
          have q2 : IntKind.i64.wrap ((m : Int) + 4 - (k : Int)) = (m : Int) + 4 - (k : Int) := IntWalk.i64_in _ (by omega)
          have hc := hrow.2 j hj4
          have HRW2 := Lib.hid hrow
          have HO2 := Lib.hid hown
          have HB2 := Lib.hid hbel
          have hsx := fun W => index_byte (putW x) (m : Int) m rfl (by rw [putW_size]; exact hlm) W
          rw [HI.out m hlm] at hsx
          have hX : bits .xor .i64 ((colTo r x k m).toNat : Int) ((mul (r j) (wb x m)).toNat : Int) = ((colTo r x k (m + 1)).toNat : Int) := by
            rw [i64_x, ← hj]; rfl
          have HX := Lib.hid hX
          have HT := fun W => Lib.hid (times_same (r j) (wb x m) W)
          have hm1 : (m : Int) < 4 := by omega
          have hj0 : (0 : Int) ≤ (j : Int) := by omega
          have hj1 : (j : Int) < 4 := by omega
          have hb := (wb x m).toNat_lt
          have hb2 : ((wb x m).toNat : Int) < 256 := by omega
          generalize wb x m = b at *
          generalize r j = y at *
          have q3 : IntKind.i64.wrap (b.toNat : Int) = (b.toNat : Int) := IntWalk.i64_in _ (by omega)
          clear hX hj HB HO HRW HR hb hrow hown hbel
          go_wp2
          go_quiet ((go_at_call 155; exact Calls.quiet_of_same (HT _).out))
          go_wp2
          go_roundw
          case rel => exact ⟨m + 1, by omega, by go_num, val_i HX.out, HRW2.out, HO2.out, below_drewN HB2.out _⟩
          case measure => simp [intOf]; omega
        · obtain rfl : m = 4 := by omega
          have hl := (colTo r x k 4).toNat_lt
          have hl2 : ((colTo r x k 4).toNat : Int) < 256 := by omega
          have HX : Hid ((fun j => colTo r x j 4) k = colTo r x k 4) := Lib.hid rfl
          have HO2 := Lib.hid hown
          have HB2 := Lib.hid hbel
          clear hrow hown hbel
          generalize colTo r x k 4 = c at *
          clear HO HB HRW hl
          go_wp2_with (at_builtin; refine stp ?_)
          refine unstp ?_
          refine wpList_append_lies _ rfl (.tmp 33) (.tmp 36) 22 rfl w.heap.size 5 i0 (.int .u8 0) 1 1 Tryz.underlying22 hi hz0 hz1 hz2 rfl (by decide) u5 k (cells8 (upTo (fun j => colTo r x j 4) k)) rfl (HO2.out.alloc _) ⟨wr.heap.size, 0, none⟩ 1 1 [.int .u8 (c.toNat : Int)] rfl rfl (World.news_of_block (cs := #[.int .u8 (c.toNat : Int)]) (heap_alloc_new wr _)) (by simp [Value.oneCell']) (by omega) (by unfold maxLen; omega) (by omega) (by have := HB2.out.size; simp; omega) (wr.heap.size + 1) (by simp) ?_
          intro g2 cap2 w5 hown5 hgrow hat hlt5
          have hrel := col_rel (F := fun j => colTo r x j 4) HX.out HO2.out HB2.out hown5 hgrow
          clear hown5 hgrow hat hlt5
          go_wp2
          go_roundw
          case rel => exact ⟨k + 1, by omega, by go_num, hrel.1, hrel.2⟩
          case measure => simp [intOf]; omega
    · obtain rfl : k = 4 := by omega
      have hconv := run_string_own Tryz.underlying22 Tryz.underlying5 Tryz.underlying9 hown
      clear hown hbel HO
      go_wp2
      go_ret
      exact ⟨rfl, HB.out⟩
/-- the words for the other way, as numbers; the ones ahead of that. -/
def uwI (s : ByteArray) (n i : Nat) : Int := ((uw s n i).toNat : Int)
/-- the row [14, 11, 13, 9], new in the heap. -/
theorem row4_new (w : World) : Row4 (w.alloc (.cells #[.int .i64 14, .int .i64 11, .int .i64 13, .int .i64 9] 3)) w.heap.size unR :=
  ⟨by simp, fun j hj => by
    have h4 : j = 0 ∨ j = 1 ∨ j = 2 ∨ j = 3 := by omega
    rcases h4 with rfl | rfl | rfl | rfl
    · exact (cell_of_row _ w.heap.size 0 _ _ _ (heap_alloc_new w _)).trans rfl
    · exact (cell_of_row _ w.heap.size 1 _ _ _ (heap_alloc_new w _)).trans rfl
    · exact (cell_of_row _ w.heap.size 2 _ _ _ (heap_alloc_new w _)).trans rfl
    · exact (cell_of_row _ w.heap.size 3 _ _ _ (heap_alloc_new w _)).trans rfl⟩
def colB (x : UInt32) : ByteArray := ⟨#[colTo unR x 0 4, colTo unR x 1 4, colTo unR x 2 4, colTo unR x 3 4]⟩
theorem colB_size (x : UInt32) : (colB x).size = 4 := rfl
theorem colB_word (x : UInt32) : getW (colB x) 0 = unmixW x := unmix_r x
theorem column_new (x : UInt32) (w : World) :
    Calls Tryz.prog 112 #[.string (putW x), .slice (some ⟨w.heap.size, 0, none⟩) 4 4] (w.alloc (.cells #[.int .i64 14, .int .i64 11, .int .i64 13, .int .i64 9] 3)) fun e w' => e = .returned (.string (colB x)) ∧ Below w.heap.size w w' :=
  (column_spec x unR w.heap.size _ (row4_new w)).mono fun e w' ⟨h1, h2⟩ => ⟨h1, ((Below.refl _ _).alloc (Nat.le_refl _) _).trans (h2.mono (by simp))⟩
theorem unI_rel {w wr : World} {g n k c : Nat} {s : ByteArray} {L : Nat} {x : Int} {e : TypeId} (hx : uwI s n k = x)
    (hown : wr.ownsRow w.heap.size e 1 (.slice (some ⟨g, 0, none⟩) L c) L (cells64 (rowTo (uwI s n) (ewI s n) L k))) (hb : Below w.heap.size w wr) (hg : w.heap.size ≤ g) :
    (wr.setCell ⟨g, k, none⟩ (.int .i64 x)).ownsRow w.heap.size e 1 (.slice (some ⟨g, 0, none⟩) L c) L (cells64 (rowTo (uwI s n) (ewI s n) L (k + 1))) ∧ Below w.heap.size w (wr.setCell ⟨g, k, none⟩ (.int .i64 x)) := by
  refine ⟨?_, hb.setCell hg _⟩
  have h := (hown.stored k (.int .i64 x)).1
  have e : (cells64 (rowTo (uwI s n) (ewI s n) L k)).set k (.int .i64 x) = cells64 (rowTo (uwI s n) (ewI s n) L (k + 1)) := by
    rw [← hx, ← rowTo_set]; simp [cells64, List.map_set]
  rw [e] at h
  exact h
theorem cells64_row (l : List Int) (j : Nat) (x : Int) (h : l[j]? = some x) : (cells64 l)[j]? = some (.int .i64 x) := by
  unfold cells64; rw [List.getElem?_map, h]; rfl
end Go.Proofs.YtbfmbdohebdbaaaGreatDoor
