/-
  Contracts and facts that the laws of this seat use: TabI, FourI, RndI, BigI, TabsI, TlI.
-/
import Derived.Test.YtbfmbdohebdbaaaGreatDoorTableMath
import Derived.Test.YtbfmbdohebdbaaaGreatDoorUnmix
import Derived.Test.YtbfmbdohebdbaaaGreatDoorBase
import Derived.WalkKit
import Derived.LoopTactic
import Derived.OwnWalk
import Derived.WalkLawsBesides
import Derived.WalkSpells
import Derived.Outline
import Derived.Below
import Derived.Deep.RegionHeld3
import Derived.Deep.QuietTactic
import Derived.BigQuiet
import Derived.IntWalk
import Derived.Test.YtbfmbdohebdbaaaGreatDoorArr32
import Derived.Test.YtbfmbdohebdbaaaGreatDoorShift
import Derived.Deep.WholeRow
import Derived.Great.Walk
import Derived.Laws.OwnMore
import Derived.Test.YtbfmbdohebdbaaaGreatDoorWord
import Derived.Test.YtbfmbdohebdbaaaGreatDoorStoreAt
set_option linter.unusedVariables false
set_option linter.unusedSimpArgs false
namespace Go.Proofs.YtbfmbdohebdbaaaGreatDoor
open Go.RowKit

theorem rot8n (x y : UInt32) (h : rot x 24 = y) (w : World) :
    Calls Tryz.prog 164 #[.int .u32 x.toNat, .int .i64 (-8)] w fun e w' => e = .returned (.int .u32 y.toNat) ∧ w = w' := by
  subst h; exact rot32_neg x 1 (by omega) w
set_option maxRecDepth 100000 in
theorem place_0 (x y : UInt32) (h : rot x (upBy 0) = y) (w : World) :
    Calls Tryz.prog 124 #[.int .i64 0, .int .u32 x.toNat] w fun e w' => e = .returned (.int .i64 y.toNat) ∧ w = w' := by
  rw [show upBy 0 = 0 from rfl, rot_0] at h
  subst h
  have l := w32_lt x
  have l2 : (x.toNat : Int) < 4294967296 := by omega
  clear l
  go_enter Tryz.func124, Tryz.ntmps124
  go_wp2
  go_ret
  exact ⟨rfl, rfl⟩
set_option maxRecDepth 100000 in
theorem place_1 (x y : UInt32) (h : rot x (upBy 1) = y) (w : World) :
    Calls Tryz.prog 124 #[.int .i64 1, .int .u32 x.toNat] w fun e w' => e = .returned (.int .i64 y.toNat) ∧ w = w' := by
  have hl : rot x 24 = y := h
  have H1 := fun W => Lib.hid (rot8n x y hl W)
  have l := w32_lt y
  have l2 : (y.toNat : Int) < 4294967296 := by omega
  clear l hl h
  go_enter Tryz.func124, Tryz.ntmps124
  go_wp2_with fail
  refine (H1 _).out.mono ?_; rintro e w' ⟨rfl, rfl⟩
  go_wp2
  go_ret
  exact ⟨rfl, rfl⟩
set_option maxRecDepth 100000 in
theorem place_2 (x y : UInt32) (h : rot x (upBy 2) = y) (w : World) :
    Calls Tryz.prog 124 #[.int .i64 2, .int .u32 x.toNat] w fun e w' => e = .returned (.int .i64 y.toNat) ∧ w = w' := by
  obtain ⟨x1, h1⟩ : ∃ z, rot x 24 = z := ⟨_, rfl⟩
  have hl : rot x1 24 = y := by rw [← h1, rot_rot x 24 24 (by omega) (by omega)]; exact h
  have H1 := fun W => Lib.hid (rot8n x x1 h1 W)
  have H2 := fun W => Lib.hid (rot8n x1 y hl W)
  have l := w32_lt y
  have l2 : (y.toNat : Int) < 4294967296 := by omega
  clear l hl h h1
  go_enter Tryz.func124, Tryz.ntmps124
  go_wp2_with fail
  refine (H1 _).out.mono ?_; rintro e w' ⟨rfl, rfl⟩
  go_wp2_with fail
  refine (H2 _).out.mono ?_; rintro e w' ⟨rfl, rfl⟩
  go_wp2
  go_ret
  exact ⟨rfl, rfl⟩
set_option maxRecDepth 100000 in
theorem place_3 (x y : UInt32) (h : rot x (upBy 3) = y) (w : World) :
    Calls Tryz.prog 124 #[.int .i64 3, .int .u32 x.toNat] w fun e w' => e = .returned (.int .i64 y.toNat) ∧ w = w' := by
  obtain ⟨x1, h1⟩ : ∃ z, rot x 24 = z := ⟨_, rfl⟩
  obtain ⟨x2, h2⟩ : ∃ z, rot x1 24 = z := ⟨_, rfl⟩
  have hl : rot x2 24 = y := by rw [← h2, ← h1, rot_rot x 24 24 (by omega) (by omega), rot_rot x _ 24 (by omega) (by omega)]; exact h
  have H1 := fun W => Lib.hid (rot8n x x1 h1 W)
  have H2 := fun W => Lib.hid (rot8n x1 x2 h2 W)
  have H3 := fun W => Lib.hid (rot8n x2 y hl W)
  have l := w32_lt y
  have l2 : (y.toNat : Int) < 4294967296 := by omega
  clear l hl h h1 h2
  go_enter Tryz.func124, Tryz.ntmps124
  go_wp2_with fail
  refine (H1 _).out.mono ?_; rintro e w' ⟨rfl, rfl⟩
  go_wp2_with fail
  refine (H2 _).out.mono ?_; rintro e w' ⟨rfl, rfl⟩
  go_wp2_with fail
  refine (H3 _).out.mono ?_; rintro e w' ⟨rfl, rfl⟩
  go_wp2
  go_ret
  exact ⟨rfl, rfl⟩
theorem atPlace_at (k : Nat) (hk : k ≤ 3) (x : UInt32) (w : World) :
    Calls Tryz.prog 124 #[.int .i64 (k : Int), .int .u32 x.toNat] w fun e w' => e = .returned (.int .i64 (rot x (upBy k)).toNat) ∧ w = w' := by
  have h4 : k = 0 ∨ k = 1 ∨ k = 2 ∨ k = 3 := by omega
  rcases h4 with rfl | rfl | rfl | rfl
  · exact place_0 x _ rfl w
  · exact place_1 x _ rfl w
  · exact place_2 x _ rfl w
  · exact place_3 x _ rfl w
/-- a word where place k has it, or -1. -/
def placeI (k : Int) (x : UInt32) : Int := if 0 ≤ k ∧ k ≤ 3 then ((rot x (upBy k.toNat)).toNat : Int) else -1
set_option maxRecDepth 100000 in
theorem atPlace_impl (k : Int) (x : UInt32) (w : World) :
    Calls Tryz.prog 124 #[.int .i64 k, .int .u32 x.toNat] w fun e w' => e = .returned (.int .i64 (placeI k x)) ∧ w = w' := by
  by_cases h : 0 ≤ k ∧ k ≤ 3
  · obtain ⟨j, rfl⟩ := Int.eq_ofNat_of_zero_le h.1
    have e : placeI (j : Int) x = ((rot x (upBy j)).toNat : Int) := by unfold placeI; rw [if_pos h]; rfl
    rw [e]; exact atPlace_at j (by omega) x w
  · have e : placeI k x = -1 := if_neg h
    rw [e]
    have n0 : ¬ k = 0 := by omega
    have n1 : ¬ k = 1 := by omega
    have n2 : ¬ k = 2 := by omega
    have n3 : ¬ k = 3 := by omega
    clear h e
    go_enter Tryz.func124, Tryz.ntmps124
    go_wp2
    go_ret
    exact ⟨rfl, rfl⟩
theorem place_tab (k b : Int) : placeI k (spr mxF (sbox (b8 b))) = tableI k b := rfl
theorem place_utab (k b : Int) : placeI k (spr unF (ubox (b8 b))) = untableI k b := rfl
end Go.Proofs.YtbfmbdohebdbaaaGreatDoor
set_option linter.unusedVariables false
set_option linter.unusedSimpArgs false
namespace Go.Proofs.YtbfmbdohebdbaaaGreatDoor
open Go Go.RowKit

theorem four_info (h : Nat → UInt32) : (Tryz.prog.info? 131).map (·.size) = some (ar32 h 4).size := by rw [ar32_size]; kernel_rfl
theorem two_at (w : World) (A B : Array Value) (t u : TypeId) {W : World} (hW : (w.alloc (.cells A t)).alloc (.cells B u) = W) :
    RAt W w.heap.size t A ∧ RAt W (w.heap.size + 1) u B ∧ Below w.heap.size w W ∧ W.heap.size = w.heap.size + 1 + 1 := by
  subst hW; exact two_new w A B t u
set_option maxRecDepth 100000 in
set_option maxHeartbeats 1600000 in
theorem four_impl (F : FuncId) (cap : Array Value) (h : Nat → UInt32) (w : World) (HE : ∀ (args : Array Value) (W : World), (callFunc F args).run Tryz.prog W = .ok (.enter F args) W)
    (HF : ∀ k, k < 4 → ∀ W, Below w.heap.size w W → Calls Tryz.prog F (#[.int .i64 (k : Int)] ++ cap) W fun e w' => e = .returned (.int .u32 (h k).toNat) ∧ Below W.heap.size W w') :
    Calls Tryz.prog 128 #[.func (.func F) #[] cap] w fun e w' => e = .returned (.agg (ar32 h 4)) ∧ Below w.heap.size w w' := by
  have HFH := fun k hk W hW => Lib.hid (HF k hk W hW)
  clear HF
  go_enter Tryz.func128, Tryz.ntmps128
  go_wp2
  rw [zero4_ar h]
  obtain ⟨W, hW⟩ : ∃ W, (w.alloc (.cells (arTo32 h 4 0) 131)).alloc (.cells (arTo32 h 4 0) 131) = W := ⟨_, rfl⟩
  obtain ⟨h1, h2, hb, hsz⟩ := two_at w _ _ _ _ hW
  rw [hW]
  clear hW
  go_loopw [5] (fun v wr => ∃ k : Nat, k ≤ 4 ∧ v = .int .i64 k ∧ RAt wr w.heap.size 131 (arTo32 h 4 0) ∧ RAt wr (w.heap.size + 1) 131 (arTo32 h 4 k) ∧ Below w.heap.size w wr) (fun v _ => 4 - (intOf v).toNat)
  case atStart => exact ⟨0, by omega, rfl, h1, h2, hb⟩
  case round =>
    obtain ⟨k, hk, rfl, g1, g2, hbel⟩ := hrel
    by_cases hlt : k < 4
    · have hk1 : (k : Int) < 4 := by omega
      have hk0 : (0 : Int) ≤ (k : Int) := by omega
      have HC := HFH k hlt wr hbel
      have HL := Lib.hid (w32_lt (h k))
      obtain ⟨y, hy⟩ : ∃ y, h k = y := ⟨_, rfl⟩
      rw [hy] at HC HL
      have HY := Lib.hid hy
      have G1 := Lib.hid g1
      have G2 := Lib.hid g2
      have HB := Lib.hid hbel
      clear g1 g2 hbel HFH h1 h2 hb hy
      go_wp2_with fail
      refine HC.out.mono ?_; rintro e w2 ⟨rfl, hb2⟩
      have K1 := G1.out.up hb2
      have K2 := G2.out.up hb2
      have hz := K2.cell (arTo32_at h 4 k hlt)
      have hfz := K2.fz k
      have N1 := fun v => Lib.hid (K1.far (b := w.heap.size + 1) k v (by omega))
      have N2 := fun v hv => Lib.hid (K2.set32 (v := v) hv)
      have NB := fun v => Lib.hid ((HB.out.trans (hb2.mono HB.out.size)).setCell (p := ⟨w.heap.size + 1, k, none⟩) (by simp) v)
      clear K1 K2 hb2 HC
      go_wp2
      go_roundw
      case rel => exact ⟨k + 1, by omega, by go_num, (N1 _).out, (N2 _ (by rw [HY.out])).out, (NB _).out⟩
      case measure => simp [intOf]; omega
    · obtain rfl : k = 4 := by omega
      rw [arTo32_all] at g2
      have hone := ar32_one h 4
      have hsi := four_info h
      have hz : (arTo32 h 4 0).size = (ar32 h 4).size := by rw [ar32_size, arTo32_size]
      have hsr := setRow_heap wr _ _ (ar32 h 4) _ _ g1
      have hbs : Hid (Below w.heap.size w (wr.setRow w.heap.size (ar32 h 4))) := Lib.hid (below_setRow hbel (by omega) _)
      generalize hR : ar32 h 4 = R at *
      generalize arTo32 h 4 0 = Z at *
      have HR := Lib.hid hR
      clear hR hb hbel h1 h2 HFH
      have G1 := Lib.hid g1
      have G2 := Lib.hid g2
      have HSR := Lib.hid hsr
      clear g1 g2 hsr
      go_wp2_with (first
        | (refine wpList_load_row rfl 131 _ rfl (w.heap.size + 1) rfl 131 R (0, 0) _ G2.out Tryz.underlying131 rfl hsi ?_)
        | (refine wpList_store_row rfl 131 _ _ rfl w.heap.size R rfl rfl 131 Z G1.out hsi hz hone ?_))
      refine bodyPost_ret (v := .agg R) ?_ rfl ⟨by rw [HR.out], hbs.out⟩
      exact results_cell_row rfl _ _ w.heap.size 131 R (0, 0) _ rfl HSR.out Tryz.underlying131 rfl hsi
end Go.Proofs.YtbfmbdohebdbaaaGreatDoor
set_option linter.unusedVariables false
set_option linter.unusedSimpArgs false
namespace Go.Proofs.YtbfmbdohebdbaaaGreatDoor
open Go Go.RowKit

theorem al_up (W : World) (o : Obj) : Below W.heap.size W (W.alloc o) := (Below.refl _ W).alloc (Nat.le_refl _) _
theorem al_sz (W : World) (o : Obj) : (W.alloc o).heap.size = W.heap.size + 1 := by simp
theorem five_at (w : World) (A B C D E : Array Value) (a b c d e : TypeId) {W : World} (hW : ((((w.alloc (.cells A a)).alloc (.cells B b)).alloc (.cells C c)).alloc (.cells D d)).alloc (.cells E e) = W) :
    RAt W w.heap.size a A ∧ RAt W (w.heap.size + 1) b B ∧ RAt W (w.heap.size + 1 + 1) c C ∧ RAt W (w.heap.size + 1 + 1 + 1) d D ∧ RAt W (w.heap.size + 1 + 1 + 1 + 1) e E ∧ Below w.heap.size w W := by
  obtain ⟨W1, h1⟩ : ∃ W1, w.alloc (.cells A a) = W1 := ⟨_, rfl⟩
  have r1 : RAt W1 w.heap.size a A := h1 ▸ RAt.new w a A
  have s1 : W1.heap.size = w.heap.size + 1 := by rw [← h1, al_sz]
  have u1 : Below w.heap.size w W1 := h1 ▸ al_up w _
  rw [h1] at hW
  obtain ⟨W2, h2⟩ : ∃ W2, W1.alloc (.cells B b) = W2 := ⟨_, rfl⟩
  have v2 : Below W1.heap.size W1 W2 := h2 ▸ al_up W1 _
  have r2 : RAt W2 W1.heap.size b B := h2 ▸ RAt.new W1 b B
  have s2 : W2.heap.size = w.heap.size + 1 + 1 := by rw [← h2, al_sz, s1]
  rw [h2] at hW
  obtain ⟨W3, h3⟩ : ∃ W3, W2.alloc (.cells C c) = W3 := ⟨_, rfl⟩
  have v3 : Below W2.heap.size W2 W3 := h3 ▸ al_up W2 _
  have r3 : RAt W3 W2.heap.size c C := h3 ▸ RAt.new W2 c C
  have s3 : W3.heap.size = w.heap.size + 1 + 1 + 1 := by rw [← h3, al_sz, s2]
  rw [h3] at hW
  obtain ⟨W4, h4⟩ : ∃ W4, W3.alloc (.cells D d) = W4 := ⟨_, rfl⟩
  have v4 : Below W3.heap.size W3 W4 := h4 ▸ al_up W3 _
  have r4 : RAt W4 W3.heap.size d D := h4 ▸ RAt.new W3 d D
  have s4 : W4.heap.size = w.heap.size + 1 + 1 + 1 + 1 := by rw [← h4, al_sz, s3]
  rw [h4] at hW
  have v5 : Below W4.heap.size W4 W := hW ▸ al_up W4 _
  have r5 : RAt W W4.heap.size e E := hW ▸ RAt.new W4 e E
  rw [s1] at r2; rw [s2] at r3; rw [s3] at r4; rw [s4] at r5
  have u2 := u1.trans (v2.mono (by omega))
  have u3 := u2.trans (v3.mono (by omega))
  have u4 := u3.trans (v4.mono (by omega))
  exact ⟨(((r1.up v2).up v3).up v4).up v5, ((r2.up v3).up v4).up v5, (r3.up v4).up v5, r4.up v5, r5, u4.trans (v5.mono (by omega))⟩
theorem rnd_num (i d k p : Nat) (hp : (i + d * k) % 4 = p) : ((i : Int) + (d : Int) * (k : Int)).tmod 4 = (p : Int) := by
  rw [show (i : Int) + (d : Int) * (k : Int) = ((i + d * k : Nat) : Int) by rw [Int.natCast_add, Int.natCast_mul]]
  rw [Int.tmod_eq_emod_of_nonneg (by omega)]
  omega
theorem rnd_bound (d k : Nat) (hd : d ≤ 3) (hk : k < 4) : 0 ≤ (d : Int) * (k : Int) ∧ (d : Int) * (k : Int) ≤ 9 := by
  have h : d * k ≤ 3 * 3 := Nat.mul_le_mul hd (by omega)
  rw [show (d : Int) * (k : Int) = ((d * k : Nat) : Int) by rw [Int.natCast_mul]]
  omega
set_option maxRecDepth 100000 in
set_option maxHeartbeats 3200000 in
theorem rnd1_impl (G : FuncId) (fst : Array Value) (T : Nat → UInt8 → UInt32) (d : Nat) (hd : d ≤ 3) (s c : Nat → UInt32) (gk ga gs gd : Nat) (i : Nat) (hi : i < 4) (w : World)
    (HE : ∀ (args : Array Value) (W : World), (callFunc G args).run Tryz.prog W = .ok (.enter G args) W)
    (HG : ∀ k, k < 4 → ∀ (b : UInt8) (W : World), Below w.heap.size w W → Calls Tryz.prog G (fst ++ #[.int .i64 (k : Int), .int .u8 b.toNat]) W fun e w' => e = .returned (.int .u32 (T k b).toNat) ∧ Below W.heap.size W w')
    (hk : RAt w gk 132 (ar32 c 4)) (ha : RAt w ga 250 #[.func (.func G) fst #[]]) (hs : RAt w gs 132 (ar32 s 4)) (hdd : RAt w gd 3 #[.int .i64 (d : Int)]) :
    Calls Tryz.prog 227 #[.int .i64 (i : Int), .pointer (some ⟨gk, 0, none⟩), .pointer (some ⟨ga, 0, none⟩), .pointer (some ⟨gs, 0, none⟩), .pointer (some ⟨gd, 0, none⟩)] w fun e w' => e = .returned (.int .u32 (rndW T d s c i).toNat) ∧ Below w.heap.size w w' := by
  have HGH := fun k hk b W hW => Lib.hid (HG k hk b W hW)
  have hci := hk.cell (ar32_at c 4 i hi)
  have hi1 : (i : Int) < 4 := by omega
  have hi0 : (0 : Int) ≤ (i : Int) := by omega
  have HA := Lib.hid ha
  have HS := Lib.hid hs
  have HD := Lib.hid hdd
  clear HG hk ha hs hdd
  go_enter Tryz.func227, Tryz.ntmps227
  go_wp2
  clear hci
  go_loopw [7, 12] (fun v j wr => ∃ k : Nat, k ≤ 4 ∧ j = .int .i64 k ∧ v = .int .u32 (rndTo T d s i (c i) k).toNat ∧ Below w.heap.size w wr) (fun _ j _ => 4 - (intOf j).toNat)
  case atStart => exact ⟨0, by omega, rfl, rfl, Below.refl _ _⟩
  case round =>
    obtain ⟨k, hk, rfl, rfl, hbel⟩ := hrel
    by_cases hlt : k < 4
    · have hk1 : (k : Int) < 4 := by omega
      obtain ⟨p, hp⟩ : ∃ p, (i + d * k) % 4 = p := ⟨_, rfl⟩
      have hp4 : p < 4 := by rw [← hp]; exact Nat.mod_lt _ (by omega)
      have hm : bits .xor .u32 ((rndTo T d s i (c i) k).toNat : Int) ((T k (wb (s p) k)).toNat : Int) = ((rndTo T d s i (c i) (k + 1)).toNat : Int) := by rw [rndTo, hp]; exact u32_xor _ _
      have HM := Lib.hid hm
      have hmod := rnd_num i d k p hp
      obtain ⟨m0, m9⟩ := rnd_bound d k hd hlt
      have q1 : IntKind.i64.wrap ((d : Int) * (k : Int)) = (d : Int) * (k : Int) := IntWalk.i64_in _ (by omega)
      have q2 : IntKind.i64.wrap ((i : Int) + (d : Int) * (k : Int)) = (i : Int) + (d : Int) * (k : Int) := IntWalk.i64_in _ (by omega)
      have hp1 : (p : Int) < 4 := by omega
      have hp0 : (0 : Int) ≤ (p : Int) := by omega
      have ks := HS.out.up hbel
      have ka := HA.out.up hbel
      have kd := HD.out.up hbel
      have ls := ks.lt
      have la := ka.lt
      have ld := kd.lt
      have cs := ks.cell (ar32_at s 4 p hp4)
      have ca : wr.cell? ⟨ga, 0, none⟩ = some (.func (.func G) fst #[]) := ka.cell rfl
      have cd : wr.cell? ⟨gd, 0, none⟩ = some (.int .i64 (d : Int)) := kd.cell rfl
      have C1 := fun W => Lib.hid (byteOf_impl (s p) k hlt W)
      have C2 := fun W hW => HGH k hlt (wb (s p) k) W hW
      have hl1 := w32_lt (rndTo T d s i (c i) k)
      have hl2 := w32_lt (T k (wb (s p) k))
      have HB := Lib.hid hbel
      have HD1 : Hid (Below w.heap.size w wr.drew) := Lib.hid hbel.drew
      generalize T k (wb (s p) k) = y at *
      generalize wb (s p) k = b at *
      generalize s p = x at *
      clear hm hp hbel HGH ks ka kd m0 m9
      go_wp2
      go_region_held3 (fun w' => w'.cell? ⟨ga, 0, none⟩ = some (.func (.func G) fst #[]) ∧ w'.cell? ⟨gd, 0, none⟩ = some (.int .i64 (d : Int)) ∧ w'.cell? ⟨gs, p, none⟩ = some (.int .u32 (x.toNat : Int)))
        (first
          | exact ⟨ca, cd, cs⟩
          | exact ⟨(hb2.cell (p := ⟨ga, 0, none⟩) la).trans ca, (hb2.cell (p := ⟨gd, 0, none⟩) ld).trans cd, (hb2.cell (p := ⟨gs, p, none⟩) ls).trans cs⟩)
        (first
          | (with_reducible refine (C1 _).out.mono ?_; rintro e w' ⟨rfl, rfl⟩)
          | (with_reducible refine (C2 _ HD1.out).out.mono ?_; rintro e w2 ⟨rfl, hb2⟩))
      have HB3 := Lib.hid (HD1.out.trans (hb2.mono HD1.out.size))
      clear hb2 ca cd cs
      go_wp2
      go_roundw
      case rel => exact ⟨k + 1, by omega, by go_num, val_i HM.out, HB3.out⟩
      case measure => simp [intOf]; omega
    · obtain rfl : k = 4 := by omega
      go_wp2
      go_ret
      exact ⟨rfl, hbel⟩
theorem fourWords_info (h : Nat → UInt32) : (Tryz.prog.info? 132).map (·.size) = some (ar32 h 4).size := by rw [ar32_size]; kernel_rfl
def zr4 : Array Value := #[.int .u32 0, .int .u32 0, .int .u32 0, .int .u32 0]
set_option maxRecDepth 100000 in
set_option maxHeartbeats 1600000 in
theorem roundOf_impl (G : FuncId) (fst : Array Value) (T : Nat → UInt8 → UInt32) (d : Nat) (hd : d ≤ 3) (s c : Nat → UInt32) (w : World)
    (HE : ∀ (args : Array Value) (W : World), (callFunc G args).run Tryz.prog W = .ok (.enter G args) W)
    (HG : ∀ k, k < 4 → ∀ (b : UInt8) (W : World), Below w.heap.size w W → Calls Tryz.prog G (fst ++ #[.int .i64 (k : Int), .int .u8 b.toNat]) W fun e w' => e = .returned (.int .u32 (T k b).toNat) ∧ Below W.heap.size W w') :
    Calls Tryz.prog 224 #[.agg (ar32 s 4), .agg (ar32 c 4), .int .i64 (d : Int), .func (.func G) fst #[]] w fun e w' => e = .returned (.agg (ar32 (rndW T d s c) 4)) ∧ Below w.heap.size w w' := by
  have hmf : ∀ (fn : Fn) (first cap : Array Value) (w : World), (Instr.makeFunc fn first cap).run Tryz.prog w = .ok (.func fn first cap) w := fun _ _ _ _ => rfl
  obtain ⟨W, hW⟩ : ∃ W, ((((w.alloc (.cells (ar32 s 4) 132)).alloc (.cells (ar32 c 4) 132)).alloc (.cells #[.int .i64 (d : Int)] 3)).alloc (.cells #[.func (.func G) fst #[]] 250)).alloc (.cells zr4 132) = W := ⟨_, rfl⟩
  obtain ⟨r1, r2, r3, r4, r5, hb⟩ := five_at w _ _ _ _ _ _ _ _ _ _ hW
  have HC : Hid (Calls Tryz.prog 128 #[.func (.func 227) #[] #[.pointer (some ⟨w.heap.size + 1, 0, none⟩), .pointer (some ⟨w.heap.size + 1 + 1 + 1, 0, none⟩), .pointer (some ⟨w.heap.size, 0, none⟩), .pointer (some ⟨w.heap.size + 1 + 1, 0, none⟩)]] W fun e w' => e = .returned (.agg (ar32 (rndW T d s c) 4)) ∧ Below W.heap.size W w') := Lib.hid
    (four_impl _ _ (rndW T d s c) W (enters_of Tryz.func227 (by kernel_rfl) rfl) (fun i hi W2 hW2 =>
      rnd1_impl G fst T d hd s c _ _ _ _ i hi W2 HE (fun k hk b W3 hW3 => HG k hk b W3 ((hb.trans (hW2.mono hb.size)).trans (hW3.mono (Nat.le_trans hb.size hW2.size)))) (r2.up hW2) (r4.up hW2) (r1.up hW2) (r3.up hW2)))
  have hsi := fourWords_info (rndW T d s c)
  have hone := ar32_one (rndW T d s c) 4
  have hz : zr4.size = (ar32 (rndW T d s c) 4).size := by rw [ar32_size]; rfl
  generalize ar32 (rndW T d s c) 4 = R at *
  generalize ar32 s 4 = A1 at *
  generalize ar32 c 4 = A2 at *
  have R5 := Lib.hid r5
  have HB := Lib.hid hb
  have HW := Lib.hid hW
  clear r1 r2 r3 r4 r5 hb hW HG
  unfold zr4 at HW
  go_enter Tryz.func224, Tryz.ntmps224
  go_wp2_with fail
  rw [HW.out]
  refine HC.out.mono ?_; rintro e w2 ⟨rfl, hb2⟩
  have M := Lib.hid (R5.out.up hb2)
  have MS := Lib.hid (setRow_heap w2 _ _ R _ _ M.out)
  have MB : Hid (Below w.heap.size w (w2.setRow (w.heap.size + 1 + 1 + 1 + 1) R)) := Lib.hid (below_setRow (HB.out.trans (hb2.mono HB.out.size)) (by omega) _)
  clear hb2 HC HB R5
  go_wp2_with (refine wpList_store_row rfl 132 _ _ rfl (w.heap.size + 1 + 1 + 1 + 1) R rfl rfl 132 _ M.out hsi hz hone ?_)
  refine bodyPost_ret (v := .agg R) ?_ rfl ⟨rfl, MB.out⟩
  exact results_cell_row rfl _ _ (w.heap.size + 1 + 1 + 1 + 1) 132 R (0, 0) _ rfl MS.out Tryz.underlying132 rfl hsi
end Go.Proofs.YtbfmbdohebdbaaaGreatDoor
set_option linter.unusedVariables false
set_option linter.unusedSimpArgs false
namespace Go.Proofs.YtbfmbdohebdbaaaGreatDoor
open Go Go.RowKit

def z256 : Array Value := Array.replicate 256 (.int .u32 0)
def z1024 : Array Value := Array.replicate 1024 (.int .u32 0)
theorem z_ar (n : Nat) : Array.replicate n (Value.int .u32 0) = ar32 (fun _ => 0) n := by
  unfold ar32 cells32
  rw [upTo_const, List.map_replicate]
  rw [List.toArray_replicate]; rfl
theorem z256_ar (h : Nat → UInt32) : z256 = arTo32 h 256 0 := by rw [arTo32_0]; exact z_ar 256
theorem z1024_ar (h : Nat → UInt32) : z1024 = arTo32 h 1024 0 := by rw [arTo32_0]; exact z_ar 1024
theorem t256_info (h : Nat → UInt32) : (Tryz.prog.info? 122).map (·.size) = some (ar32 h 256).size := by rw [ar32_size]; kernel_rfl
theorem t1024_info (h : Nat → UInt32) : (Tryz.prog.info? 123).map (·.size) = some (ar32 h 1024).size := by rw [ar32_size]; kernel_rfl
theorem u32_infos : (Tryz.prog.info? 121).map (·.size) = some 1 := by kernel_rfl
theorem index_256 (h : Nat → UInt32) (k : Nat) (hk : k < 256) (W : World) : (Instr.index 122 (.agg (ar32 h 256)) (.int .i64 (k : Int))).run Tryz.prog W = .ok (.int .u32 ((h k).toNat : Int)) W := by
  cases hq : Tryz.prog.info? 121 with
  | none => have := u32_infos; rw [hq] at this; cases this
  | some i =>
    have h1 : i.size = 1 := by have := u32_infos; rw [hq] at this; simpa using this
    exact run_index_ar _ 121 256 k _ _ _ i W Tryz.underlying122 Tryz.underlying121 rfl hq h1 hk (ar32_at h 256 k hk)
set_option maxRecDepth 100000 in
set_option maxHeartbeats 3200000 in
theorem tab1_impl (h : Nat → UInt32) (g k : Nat) (hk : k < 4) (w : World) (hg : RAt w g 122 (ar32 h 256)) :
    Calls Tryz.prog 123 #[.int .i64 (k : Int), .pointer (some ⟨g, 0, none⟩)] w fun e w' => e = .returned (.agg (ar32 (fun i => rot (h i) (upBy k)) 256)) ∧ Below w.heap.size w w' := by
  obtain ⟨F, hF⟩ : ∃ F : Nat → UInt32, (fun i => rot (h i) (upBy k)) = F := ⟨_, rfl⟩
  have HP : Hid (∀ i W, Calls Tryz.prog 124 #[.int .i64 (k : Int), .int .u32 (h i).toNat] W fun e w' => e = .returned (.int .i64 (F i).toNat) ∧ W = w') := Lib.hid fun i W => by rw [← hF]; exact atPlace_at k (by omega) (h i) W
  rw [hF]
  obtain ⟨W, hW⟩ : ∃ W, (w.alloc (.cells z256 122)).alloc (.cells z256 122) = W := ⟨_, rfl⟩
  obtain ⟨n1, n2, nb, nz⟩ := two_at w _ _ _ _ hW
  have hl1 := t256_info h
  have HIX := Lib.hid (index_256 h)
  have hg2 : RAt W g 122 (ar32 h 256) := hg.below nb hg.lt
  obtain ⟨RH, hRH⟩ : ∃ RH, ar32 h 256 = RH := ⟨_, rfl⟩
  rw [hRH] at hg2 hl1 HIX
  rw [z256_ar F] at n1 n2
  have N1 := Lib.hid n1
  have N2 := Lib.hid n2
  have NB := Lib.hid nb
  have HG2 := Lib.hid hg2
  clear n1 n2 nb nz hg hF hRH hg2
  go_enter Tryz.func123, Tryz.ntmps123
  apply wp_seq
  apply wp_region_lit
  refine Great.wpList_runTo rfl (some 3) rfl (.pointer (some ⟨w.heap.size, 0, none⟩)) (w.alloc (.cells z256 122)) (by kernel_rfl) ?_
  apply wpList_nil
  simp only [Exit.then]
  apply wp_seq
  apply wp_region_lit
  refine Great.wpList_runTo rfl (some 4) rfl (.pointer (some ⟨(w.alloc (.cells z256 122)).heap.size, 0, none⟩)) ((w.alloc (.cells z256 122)).alloc (.cells z256 122)) (by kernel_rfl) ?_
  rw [al_sz, hW]
  apply wpList_nil
  simp only [Exit.then]
  clear hW
  go_wp2_with (refine wpList_load_row rfl 122 _ rfl g rfl 122 RH (0, 0) _ HG2.out Tryz.underlying122 rfl hl1 ?_)
  go_loopw [8] (fun v wr => ∃ j : Nat, j ≤ 256 ∧ v = .int .i64 j ∧ RAt wr w.heap.size 122 (arTo32 F 256 0) ∧ RAt wr (w.heap.size + 1) 122 (arTo32 F 256 j) ∧ Below w.heap.size w wr) (fun v _ => 256 - (intOf v).toNat)
  case atStart => exact ⟨0, by omega, rfl, N1.out, N2.out, NB.out⟩
  case round =>
    obtain ⟨j, hj, rfl, g1, g2, hbel⟩ := hrel
    by_cases hlt : j < 256
    · have hj1 : (j : Int) < 256 := by omega
      have hj0 : (0 : Int) ≤ (j : Int) := by omega
      have hix := fun W => HIX.out j hlt W
      have HC := fun W => Lib.hid (HP.out j W)
      have hfl := w32_lt (F j)
      have hf2 : ((F j).toNat : Int) < 4294967296 := by omega
      have hz := g2.cell (arTo32_at F 256 j hlt)
      have hfz := g2.fz j
      have G1 := fun v => Lib.hid (g1.far (b := w.heap.size + 1) j v (by omega))
      have G2 := fun v hv => Lib.hid (g2.set32 (v := v) hv)
      have HB := fun v => Lib.hid (hbel.setCell (p := ⟨w.heap.size + 1, j, none⟩) (by simp) v)
      obtain ⟨y, hy⟩ : ∃ y, F j = y := ⟨_, rfl⟩
      rw [hy] at hf2
      simp only [hy] at HC
      have HY := Lib.hid hy
      generalize h j = x at *
      clear g1 g2 hbel HIX HP hy hfl
      go_wp2_with fail
      refine (HC _).out.mono ?_; rintro e w' ⟨rfl, rfl⟩
      go_wp2
      go_roundw
      case rel => exact ⟨j + 1, by omega, by go_num, (G1 _).out, (G2 _ (by rw [HY.out])).out, (HB _).out⟩
      case measure => simp [intOf]; omega
    · obtain rfl : j = 256 := by omega
      rw [arTo32_all] at g2
      have hone := ar32_one F 256
      have hsi := t256_info F
      have hz : (arTo32 F 256 0).size = (ar32 F 256).size := by rw [ar32_size, arTo32_size]
      have hsr := setRow_heap wr _ _ (ar32 F 256) _ _ g1
      have hbs : Hid (Below w.heap.size w (wr.setRow w.heap.size (ar32 F 256))) := Lib.hid (below_setRow hbel (by omega) _)
      generalize hR : ar32 F 256 = R at *
      generalize arTo32 F 256 0 = Z at *
      have HR := Lib.hid hR
      clear hR hbel N1 N2 NB HP HIX
      have G1 := Lib.hid g1
      have G2 := Lib.hid g2
      have HSR := Lib.hid hsr
      clear g1 g2 hsr
      go_wp2_with (first
        | (refine wpList_load_row rfl 122 _ rfl (w.heap.size + 1) rfl 122 R (0, 0) _ G2.out Tryz.underlying122 rfl hsi ?_)
        | (refine wpList_store_row rfl 122 _ _ rfl w.heap.size R rfl rfl 122 Z G1.out hsi hz hone ?_))
      refine bodyPost_ret (v := .agg R) ?_ rfl ⟨by rw [HR.out], hbs.out⟩
      exact results_cell_row rfl _ _ w.heap.size 122 R (0, 0) _ rfl HSR.out Tryz.underlying122 rfl hsi
/-- four tables, one behind the other. -/
def ttF (T : Nat → Nat → UInt32) (i : Nat) : UInt32 := T (i / 256) (i % 256)
theorem tt_put (T : Nat → Nat → UInt32) (k : Nat) (hk : k < 4) : putAt (arTo32 (ttF T) 1024 (256 * k)) (256 * k) (ar32 (T k) 256) = arTo32 (ttF T) 1024 (256 * (k + 1)) := by
  have h1 := arTo32_size (ttF T) 1024 (256 * k)
  have h2 := ar32_size (T k) 256
  apply Array.ext_getElem?
  intro j
  rw [putAt_get _ _ _ (by rw [h1, h2]; omega), h2]
  have get : ∀ q, j < 1024 → (arTo32 (ttF T) 1024 q)[j]? = some (.int .u32 ((if j < q then ttF T j else 0).toNat : Int)) := fun q hj => by
    unfold arTo32
    rw [List.getElem?_toArray]
    exact cells32_at _ _ _ (rowTo_at (ttF T) (fun _ => 0) 1024 q j hj)
  by_cases hj : j < 1024
  · rw [get _ hj, get _ hj]
    by_cases a : j < 256 * k
    · rw [if_pos a, if_pos a, if_pos (by omega)]
    · rw [if_neg a, if_neg a]
      by_cases b : j < 256 * k + 256
      · rw [if_pos b, if_pos (by omega), ar32_at _ _ _ (by omega)]
        have e : ttF T j = T k (j - 256 * k) := by
          unfold ttF
          rw [show j / 256 = k by omega, show j % 256 = j - 256 * k by omega]
        rw [e]
      · rw [if_neg b, if_neg (by omega)]
  · have hn : ∀ q, (arTo32 (ttF T) 1024 q)[j]? = none := fun q => Array.getElem?_eq_none (by rw [arTo32_size]; omega)
    rw [hn, hn, if_neg (by omega), if_neg (by omega)]
set_option maxRecDepth 100000 in
set_option maxHeartbeats 3200000 in
theorem fourT_impl (F : FuncId) (cap : Array Value) (T : Nat → Nat → UInt32) (w : World) (HE : ∀ (args : Array Value) (W : World), (callFunc F args).run Tryz.prog W = .ok (.enter F args) W)
    (HF : ∀ k, k < 4 → ∀ W, Below w.heap.size w W → Calls Tryz.prog F (#[.int .i64 (k : Int)] ++ cap) W fun e w' => e = .returned (.agg (ar32 (T k) 256)) ∧ Below W.heap.size W w') :
    Calls Tryz.prog 122 #[.func (.func F) #[] cap] w fun e w' => e = .returned (.agg (ar32 (ttF T) 1024)) ∧ Below w.heap.size w w' := by
  have HFH := fun k hk W hW => Lib.hid (HF k hk W hW)
  obtain ⟨W, hW⟩ : ∃ W, (w.alloc (.cells z1024 123)).alloc (.cells z1024 123) = W := ⟨_, rfl⟩
  obtain ⟨n1, n2, nb, nz⟩ := two_at w _ _ _ _ hW
  rw [z1024_ar (ttF T)] at n1 n2
  have N1 := Lib.hid n1
  have N2 := Lib.hid n2
  have NB := Lib.hid nb
  clear n1 n2 nb nz HF
  go_enter Tryz.func122, Tryz.ntmps122
  apply wp_seq
  apply wp_region_lit
  refine Great.wpList_runTo rfl (some 2) rfl (.pointer (some ⟨w.heap.size, 0, none⟩)) (w.alloc (.cells z1024 123)) (by kernel_rfl) ?_
  apply wpList_nil
  simp only [Exit.then]
  apply wp_seq
  apply wp_region_lit
  refine Great.wpList_runTo rfl (some 3) rfl (.pointer (some ⟨(w.alloc (.cells z1024 123)).heap.size, 0, none⟩)) ((w.alloc (.cells z1024 123)).alloc (.cells z1024 123)) (by kernel_rfl) ?_
  rw [al_sz, hW]
  apply wpList_nil
  simp only [Exit.then]
  clear hW
  go_wp2
  go_loopw [5] (fun v wr => ∃ k : Nat, k ≤ 4 ∧ v = .int .i64 k ∧ RAt wr w.heap.size 123 (arTo32 (ttF T) 1024 0) ∧ RAt wr (w.heap.size + 1) 123 (arTo32 (ttF T) 1024 (256 * k)) ∧ Below w.heap.size w wr) (fun v _ => 4 - (intOf v).toNat)
  case atStart => exact ⟨0, by omega, rfl, N1.out, N2.out, NB.out⟩
  case round =>
    obtain ⟨k, hk, rfl, g1, g2, hbel⟩ := hrel
    by_cases hlt : k < 4
    · have hk1 : (k : Int) < 4 := by omega
      have hk0 : (0 : Int) ≤ (k : Int) := by omega
      have HC := HFH k hlt wr hbel
      have G1 := Lib.hid g1
      have G2 := Lib.hid g2
      have HB := Lib.hid hbel
      have HPU := Lib.hid (tt_put T k hlt)
      have hfit : 256 * k + (ar32 (T k) 256).size ≤ (arTo32 (ttF T) 1024 (256 * k)).size := by rw [ar32_size, arTo32_size]; omega
      have hone : ∀ v ∈ (ar32 (T k) 256).toList, v.oneCell' = true := fun v hv => cells32_one (upTo (T k) 256) v (by simpa [ar32] using hv)
      have hsi := t256_info (T k)
      have HFIT := Lib.hid hfit
      have HONE := Lib.hid hone
      generalize ar32 (T k) 256 = R at *
      clear g1 g2 hbel HFH N1 N2 NB hfit hone
      go_wp2_with fail
      refine HC.out.mono ?_; rintro e w2 ⟨rfl, hb2⟩
      have K1 := Lib.hid (G1.out.up hb2)
      have K2 := Lib.hid (G2.out.up hb2)
      have BB := Lib.hid (HB.out.trans (hb2.mono HB.out.size))
      clear hb2 G1 G2 HC HB
      have hmul : k * 256 = 256 * k := Nat.mul_comm _ _
      obtain ⟨X, hX⟩ : ∃ X, putAt (arTo32 (ttF T) 1024 (256 * k)) (256 * k) R = X := ⟨_, rfl⟩
      have P1 : Hid (RAt (w2.setRow (w.heap.size + 1) X) w.heap.size 123 (arTo32 (ttF T) 1024 0)) := Lib.hid ((setRow_other w2 (w.heap.size + 1) w.heap.size X (by omega)).trans K1.out)
      have P2 : Hid (RAt (w2.setRow (w.heap.size + 1) X) (w.heap.size + 1) 123 (arTo32 (ttF T) 1024 (256 * (k + 1)))) := Lib.hid (by rw [← HPU.out, hX]; exact K2.out.row X)
      have P3 := Lib.hid (below_setRow BB.out (show w.heap.size ≤ w.heap.size + 1 by omega) X)
      have HX := Lib.hid hX
      clear hX HPU K1 BB
      go_wp2_with (refine wpList_store_at rfl 122 _ _ rfl (w.heap.size + 1) (256 * k) R (by first | rfl | (simp [hmul]; done)) rfl 123 _ K2.out HFIT.out HONE.out hsi ?_)
      rw [HX.out]
      go_wp2
      go_roundw
      case rel => exact ⟨k + 1, by omega, by go_num, P1.out, P2.out, P3.out⟩
      case measure => simp [intOf]; omega
    · obtain rfl : k = 4 := by omega
      rw [show 256 * 4 = 1024 from rfl, arTo32_all] at g2
      have hone := ar32_one (ttF T) 1024
      have hsi := t1024_info (ttF T)
      have hz : (arTo32 (ttF T) 1024 0).size = (ar32 (ttF T) 1024).size := by rw [ar32_size, arTo32_size]
      have hsr := setRow_heap wr _ _ (ar32 (ttF T) 1024) _ _ g1
      have hbs : Hid (Below w.heap.size w (wr.setRow w.heap.size (ar32 (ttF T) 1024))) := Lib.hid (below_setRow hbel (by omega) _)
      generalize hR : ar32 (ttF T) 1024 = R at *
      generalize arTo32 (ttF T) 1024 0 = Z at *
      have HR := Lib.hid hR
      clear hR hbel N1 N2 NB HFH
      have G1 := Lib.hid g1
      have G2 := Lib.hid g2
      have HSR := Lib.hid hsr
      clear g1 g2 hsr
      go_wp2_with (first
        | (refine wpList_load_row rfl 123 _ rfl (w.heap.size + 1) rfl 123 R (0, 0) _ G2.out Tryz.underlying123 rfl hsi ?_)
        | (refine wpList_store_row rfl 123 _ _ rfl w.heap.size R rfl rfl 123 Z G1.out hsi hz hone ?_))
      refine bodyPost_ret (v := .agg R) ?_ rfl ⟨by rw [HR.out], hbs.out⟩
      exact results_cell_row rfl _ _ w.heap.size 123 R (0, 0) _ rfl HSR.out Tryz.underlying123 rfl hsi
end Go.Proofs.YtbfmbdohebdbaaaGreatDoor
set_option linter.unusedVariables false
set_option linter.unusedSimpArgs false
namespace Go.Proofs.YtbfmbdohebdbaaaGreatDoor
open Go Go.RowKit

/-- the words of the first table, and of all of them. -/
def sprF (f : UInt8 → UInt8) (fc : Nat → UInt8) (i : Nat) : UInt32 := spr fc (f (UInt8.ofNat i))
def tbF (f : UInt8 → UInt8) (fc : Nat → UInt8) : Nat → UInt32 := ttF fun k i => rot (sprF f fc i) (upBy k)
theorem four_at (w : World) (A B C D : Array Value) (a b c d : TypeId) {W : World} (hW : (((w.alloc (.cells A a)).alloc (.cells B b)).alloc (.cells C c)).alloc (.cells D d) = W) :
    RAt W w.heap.size a A ∧ RAt W (w.heap.size + 1) b B ∧ RAt W (w.heap.size + 1 + 1) c C ∧ RAt W (w.heap.size + 1 + 1 + 1) d D ∧ Below w.heap.size w W := by
  obtain ⟨W2, h2⟩ : ∃ W2, (w.alloc (.cells A a)).alloc (.cells B b) = W2 := ⟨_, rfl⟩
  obtain ⟨r1, r2, b2, s2⟩ := two_at w A B a b h2
  rw [h2] at hW
  obtain ⟨r3, r4, b3, s3⟩ := two_at W2 C D c d hW
  rw [s2] at r3 r4
  exact ⟨r1.up b3, r2.up b3, r3, r4, b2.trans (b3.mono b2.size)⟩
theorem fac4_of {W : World} {g : Nat} {t : TypeId} {fc : Nat → UInt8} (h : RAt W g t (fac fc)) : Fac4 W g fc := ⟨h.lt, h.cell rfl, h.cell rfl, h.cell rfl, h.cell rfl⟩
set_option maxRecDepth 100000 in
set_option maxHeartbeats 6400000 in
theorem tablesOf_impl (f : UInt8 → UInt8) (fc : Nat → UInt8) (w : World) :
    Calls Tryz.prog 86 #[.agg (tabOf f), .agg (fac fc)] w fun e w' => e = .returned (.agg (ar32 (tbF f fc) 1024)) ∧ Below w.heap.size w w' := by
  have hmf : ∀ (fn : Fn) (first cap : Array Value) (w : World), (Instr.makeFunc fn first cap).run Tryz.prog w = .ok (.func fn first cap) w := fun _ _ _ _ => rfl
  obtain ⟨W, hW⟩ : ∃ W, (((w.alloc (.cells (tabOf f) 126)).alloc (.cells (fac fc) 128)).alloc (.cells z1024 123)).alloc (.cells z256 122) = W := ⟨_, rfl⟩
  obtain ⟨n1, n2, n3, n4, nb⟩ := four_at w _ _ _ _ _ _ _ _ hW
  obtain ⟨G, hG⟩ : ∃ G, sprF f fc = G := ⟨_, rfl⟩
  have HGG : Hid (∀ j, spr fc (f (UInt8.ofNat j)) = G j) := Lib.hid fun j => by rw [← hG]; rfl
  have hTF : tbF f fc = ttF fun k i => rot (G i) (upBy k) := by rw [← hG]; rfl
  rw [hTF]
  rw [z256_ar G] at n4
  have HSP := fun j W => Lib.hid (spread_impl (f (UInt8.ofNat j)) fc W)
  simp only [fac] at HSP
  have HBX : Hid (∀ j, j < 256 → (tabOf f)[j]? = some (.int .u8 ((f (UInt8.ofNat j)).toNat : Int))) := Lib.hid fun j hj => by
    have h := tabOf_at f (UInt8.ofNat j)
    rwa [UInt8.toNat_ofNat', Nat.mod_eq_of_lt (by omega)] at h
  have N1 := Lib.hid n1
  have N2 := Lib.hid (fac4_of n2)
  have N3 := Lib.hid n3
  have N4 := Lib.hid n4
  have NB := Lib.hid nb
  clear n1 n2 n3 n4 nb hTF hG
  generalize tabOf f = TB at *
  generalize hFC : fac fc = FC at *
  go_enter Tryz.func86, Tryz.ntmps86
  apply wp_seq
  apply wp_region_lit
  refine Great.wpList_runTo rfl (some 2) rfl (.pointer (some ⟨w.heap.size, 0, none⟩)) (w.alloc (.cells TB 126)) (by kernel_rfl) ?_
  refine Great.wpList_runTo rfl (some 3) rfl (.pointer (some ⟨(w.alloc (.cells TB 126)).heap.size, 0, none⟩)) ((w.alloc (.cells TB 126)).alloc (.cells FC 128)) (by kernel_rfl) ?_
  refine Great.wpList_runTo rfl (some 4) rfl (.pointer (some ⟨((w.alloc (.cells TB 126)).alloc (.cells FC 128)).heap.size, 0, none⟩)) (((w.alloc (.cells TB 126)).alloc (.cells FC 128)).alloc (.cells z1024 123)) (by kernel_rfl) ?_
  apply wpList_nil
  simp only [Exit.then]
  apply wp_seq
  apply wp_region_lit
  refine Great.wpList_runTo rfl (some 5) rfl (.pointer (some ⟨(((w.alloc (.cells TB 126)).alloc (.cells FC 128)).alloc (.cells z1024 123)).heap.size, 0, none⟩)) ((((w.alloc (.cells TB 126)).alloc (.cells FC 128)).alloc (.cells z1024 123)).alloc (.cells z256 122)) (by kernel_rfl) ?_
  rw [hW, al_sz, al_sz, al_sz]
  apply wpList_nil
  simp only [Exit.then]
  clear hW hFC
  go_wp2
  go_loopw [7] (fun v wr => ∃ j : Nat, j ≤ 256 ∧ v = .int .i64 j ∧ RAt wr w.heap.size 126 TB ∧ Fac4 wr (w.heap.size + 1) fc ∧ RAt wr (w.heap.size + 1 + 1) 123 z1024 ∧ RAt wr (w.heap.size + 1 + 1 + 1) 122 (arTo32 G 256 j) ∧ Below w.heap.size w wr) (fun v _ => 256 - (intOf v).toNat)
  case atStart => exact ⟨0, by omega, rfl, N1.out, N2.out, N3.out, N4.out, NB.out⟩
  case round =>
    obtain ⟨j, hj, rfl, g1, g2, g3, g4, hbel⟩ := hrel
    by_cases hlt : j < 256
    · have hj1 : (j : Int) < 256 := by omega
      have hj0 : (0 : Int) ≤ (j : Int) := by omega
      have bx := g1.cell (HBX.out j hlt)
      have HC := fun W => HSP j W
      simp only [HGG.out j] at HC
      have HD : Hid (Below w.heap.size w wr.drew) := Lib.hid hbel.drew
      have HSF : Hid (∀ W, Below wr.drew.heap.size wr.drew W → W.cell? ⟨w.heap.size, j, none⟩ = some (.int .u8 ((f (UInt8.ofNat j)).toNat : Int)) ∧ W.cell? ⟨w.heap.size + 1, 0, none⟩ = some (.int .u8 ((fc 0).toNat : Int)) ∧ W.cell? ⟨w.heap.size + 1, 1, none⟩ = some (.int .u8 ((fc 1).toNat : Int)) ∧ W.cell? ⟨w.heap.size + 1, 2, none⟩ = some (.int .u8 ((fc 2).toNat : Int)) ∧ W.cell? ⟨w.heap.size + 1, 3, none⟩ = some (.int .u8 ((fc 3).toNat : Int))) := Lib.hid fun W hW =>
        ⟨(hW.cell (p := ⟨w.heap.size, j, none⟩) g1.lt).trans bx, (hW.cell (p := ⟨w.heap.size + 1, 0, none⟩) g2.1).trans g2.2.1, (hW.cell (p := ⟨w.heap.size + 1, 1, none⟩) g2.1).trans g2.2.2.1, (hW.cell (p := ⟨w.heap.size + 1, 2, none⟩) g2.1).trans g2.2.2.2.1, (hW.cell (p := ⟨w.heap.size + 1, 3, none⟩) g2.1).trans g2.2.2.2.2⟩
      have HUP : Hid (∀ W, Below wr.drew.heap.size wr.drew W → RAt W w.heap.size 126 TB ∧ Fac4 W (w.heap.size + 1) fc ∧ RAt W (w.heap.size + 1 + 1) 123 z1024 ∧ RAt W (w.heap.size + 1 + 1 + 1) 122 (arTo32 G 256 j)) := Lib.hid fun W hW0 =>
        have hW : Below wr.heap.size wr W := ⟨hW0.os, hW0.tape, hW0.output, hW0.size, hW0.block⟩
        ⟨g1.below hW g1.lt, Fac4.below g2 hW g2.1, g3.below hW g3.lt, g4.below hW g4.lt⟩
      have hfar : ∀ (W : World) (v : Value) (b i : Nat), b < w.heap.size + 1 + 1 → (W.setCell ⟨w.heap.size + 1 + 1 + 1, j, none⟩ v).cell? ⟨b, i, none⟩ = W.cell? ⟨b, i, none⟩ := fun W v b i hb => World.cell?_setCell_far _ _ _ _ (show w.heap.size + 1 + 1 + 1 ≠ b by omega)
      have HFAR := Lib.hid hfar
      have hS0 := HSF.out wr.drew (Below.refl _ _)
      obtain ⟨y, hy⟩ : ∃ y, G j = y := ⟨_, rfl⟩
      simp only [hy] at HC
      have HY := Lib.hid hy
      have hxl := (f (UInt8.ofNat j)).toNat_lt
      have hx2 : ((f (UInt8.ofNat j)).toNat : Int) < 256 := by omega
      generalize f (UInt8.ofNat j) = x at *
      clear g1 g2 g3 g4 hbel hfar bx hy HSP HBX HGG N1 N2 N3 N4 NB hxl
      go_wp2
      refine wp_region_held_drew (S := fun w' => w'.cell? ⟨w.heap.size, j, none⟩ = some (.int .u8 (x.toNat : Int)) ∧ w'.cell? ⟨w.heap.size + 1, 0, none⟩ = some (.int .u8 ((fc 0).toNat : Int)) ∧ w'.cell? ⟨w.heap.size + 1, 1, none⟩ = some (.int .u8 ((fc 1).toNat : Int)) ∧ w'.cell? ⟨w.heap.size + 1, 2, none⟩ = some (.int .u8 ((fc 2).toNat : Int)) ∧ w'.cell? ⟨w.heap.size + 1, 3, none⟩ = some (.int .u8 ((fc 3).toNat : Int))) (by kernel_rfl) hS0 (fun hS => ?_)
      refine tk 0 (v := ?_) ?_ hS ?_
      rotate_left
      · intro w hSw
        obtain ⟨s0, s1, s2, s3, s4⟩ := hSw
        go_simp
        first | done | with_reducible rfl
      try simp only [lay]
      refine tk 1 (v := ?_) ?_ hS ?_
      rotate_left
      · intro w hSw
        obtain ⟨s0, s1, s2, s3, s4⟩ := hSw
        go_simp
        first | done | with_reducible rfl
      try simp only [lay]
      refine tk 2 (v := ?_) ?_ hS ?_
      rotate_left
      · intro w hSw
        obtain ⟨s0, s1, s2, s3, s4⟩ := hSw
        go_simp
        first | done | with_reducible rfl
      try simp only [lay]
      refine tk 3 (v := ?_) ?_ hS ?_
      rotate_left
      · intro w hSw
        obtain ⟨s0, s1, s2, s3, s4⟩ := hSw
        go_simp
        first | done | with_reducible rfl
      try simp only [lay]
      refine tk 4 (v := ?_) ?_ hS ?_
      rotate_left
      · intro w hSw
        obtain ⟨s0, s1, s2, s3, s4⟩ := hSw
        go_simp
        first | done | with_reducible rfl
      try simp only [lay]
      refine wpAnyH_ready (rs := [5]) (by kernel_rfl) (by simp) ?_
      refine AllReadyH.cons rfl (fun K hK => ?_) AllReadyH.nil
      go_simp
      refine (HC _).out.mono ?_; rintro e w2 ⟨rfl, hb2⟩
      have HB2 := Lib.hid (HD.out.trans (hb2.mono HD.out.size))
      have hS2 := HSF.out w2 hb2
      have HU2 := Lib.hid (HUP.out w2 hb2)
      have hz := HU2.out.2.2.2.cell (arTo32_at G 256 j hlt)
      have hfz := HU2.out.2.2.2.fz j
      clear hb2
      refine hK.out _ _ hS2 (fun hS3 => ?_)
      clear hK K
      try simp only [lay]
      refine tk 6 (v := ?_) ?_ hS3 ?_
      rotate_left
      · intro w hSw
        obtain ⟨s0, s1, s2, s3, s4⟩ := hSw
        go_simp
        first | done | with_reducible rfl
      try simp only [lay]
      refine wpAnyH_ready (rs := [7]) (by kernel_rfl) (by simp) ?_
      refine AllReadyH.cons rfl (fun K hK => ?_) AllReadyH.nil
      go_simp
      refine hK.out _ _ ⟨(HFAR.out _ _ _ _ (by omega)).trans hS2.1, (HFAR.out _ _ _ _ (by omega)).trans hS2.2.1, (HFAR.out _ _ _ _ (by omega)).trans hS2.2.2.1, (HFAR.out _ _ _ _ (by omega)).trans hS2.2.2.2.1, (HFAR.out _ _ _ _ (by omega)).trans hS2.2.2.2.2⟩ (fun hS4 => ?_)
      clear hK K
      try simp only [lay]
      refine wpAnyH_done (by kernel_rfl) ?_ _
      have M1 := Lib.hid (HU2.out.1.far (b := w.heap.size + 1 + 1 + 1) j (.int .u32 (y.toNat : Int)) (by omega))
      have M2 : Hid (Fac4 (w2.setCell ⟨w.heap.size + 1 + 1 + 1, j, none⟩ (.int .u32 (y.toNat : Int))) (w.heap.size + 1) fc) := Lib.hid ⟨by have := HU2.out.2.1.1; simpa [World.setCell] using this, (HFAR.out _ _ _ _ (by omega)).trans HU2.out.2.1.2.1, (HFAR.out _ _ _ _ (by omega)).trans HU2.out.2.1.2.2.1, (HFAR.out _ _ _ _ (by omega)).trans HU2.out.2.1.2.2.2.1, (HFAR.out _ _ _ _ (by omega)).trans HU2.out.2.1.2.2.2.2⟩
      have M3 := Lib.hid (HU2.out.2.2.1.far (b := w.heap.size + 1 + 1 + 1) j (.int .u32 (y.toNat : Int)) (by omega))
      have M4 := Lib.hid (HU2.out.2.2.2.set32 (v := .int .u32 (y.toNat : Int)) (by rw [HY.out]))
      have MB := Lib.hid (HB2.out.setCell (p := ⟨w.heap.size + 1 + 1 + 1, j, none⟩) (by simp; omega) (.int .u32 (y.toNat : Int)))
      clear hS hS2 hS3 hS4 hz hfz
      go_wp2
      go_roundw
      case rel => exact ⟨j + 1, by omega, by go_num, M1.out, M2.out, M3.out, M4.out, MB.out⟩
      case measure => simp [intOf]; omega
    · obtain rfl : j = 256 := by omega
      rw [arTo32_all] at g4
      have HCF : Hid (Calls Tryz.prog 122 #[.func (.func 123) #[] #[.pointer (some ⟨w.heap.size + 1 + 1 + 1, 0, none⟩)]] wr fun e w' => e = .returned (.agg (ar32 (ttF fun k i => rot (G i) (upBy k)) 1024)) ∧ Below wr.heap.size wr w') := Lib.hid
        (fourT_impl _ _ _ wr (enters_of Tryz.func123 (by kernel_rfl) rfl) (fun k hk W3 hW3 => tab1_impl G _ k hk W3 (g4.up hW3)))
      have hsi := t1024_info (ttF fun k i => rot (G i) (upBy k))
      have hone := ar32_one (ttF fun k i => rot (G i) (upBy k)) 1024
      have hz : z1024.size = (ar32 (ttF fun k i => rot (G i) (upBy k)) 1024).size := by rw [ar32_size]; unfold z1024; rw [Array.size_replicate]
      generalize hR : ar32 (ttF fun k i => rot (G i) (upBy k)) 1024 = R at *
      have HR := Lib.hid hR
      clear hR
      have G3 := Lib.hid g3
      have HB := Lib.hid hbel
      clear g1 g2 g3 g4 hbel HSP HBX HGG N1 N2 N3 N4 NB
      go_wp2_with fail
      refine HCF.out.mono ?_; rintro e w2 ⟨rfl, hb2⟩
      have M := Lib.hid (G3.out.up hb2)
      have MS := Lib.hid (setRow_heap w2 _ _ R _ _ M.out)
      have MB : Hid (Below w.heap.size w (w2.setRow (w.heap.size + 1 + 1) R)) := Lib.hid (below_setRow (HB.out.trans (hb2.mono HB.out.size)) (by omega) _)
      clear hb2 HCF HB G3
      generalize z1024 = Z at *
      go_wp2_with (refine wpList_store_row rfl 123 _ _ rfl (w.heap.size + 1 + 1) R rfl rfl 123 _ M.out hsi hz hone ?_)
      refine bodyPost_ret (v := .agg R) ?_ rfl ⟨by rw [HR.out], MB.out⟩
      exact results_cell_row rfl _ _ (w.heap.size + 1 + 1) 123 R (0, 0) _ rfl MS.out Tryz.underlying123 rfl hsi
end Go.Proofs.YtbfmbdohebdbaaaGreatDoor
set_option linter.unusedVariables false
set_option linter.unusedSimpArgs false
namespace Go.Proofs.YtbfmbdohebdbaaaGreatDoor
open Go Go.RowKit

/-- the cells of a tableLock: tables, box, keys, step. -/
structure TlX (X : Array Value) (h : Nat → UInt32) (f : UInt8 → UInt8) (kv : Value) (d : Int) : Prop where
  size : X.size = 1282
  tab : ∀ i, i < 1024 → X[i]? = some (.int .u32 ((h i).toNat : Int))
  box : ∀ i, i < 256 → X[1024 + i]? = some (.int .u8 ((f (UInt8.ofNat i)).toNat : Int))
  keys : X[1280]? = some kv
  step : X[1281]? = some (.int .i64 d)
theorem tlx_put (Z : Array Value) (h : Nat → UInt32) (f : UInt8 → UInt8) (kv : Value) (d : Int) (hZ : Z.size = 1282) :
    TlX (putAt (putAt (putAt (putAt Z 0 (ar32 h 1024)) 1024 (tabOf f)) 1280 #[kv]) 1281 #[.int .i64 d]) h f kv d := by
  have s1 : (putAt Z 0 (ar32 h 1024)).size = 1282 := by rw [putAt_size _ _ _ (by rw [ar32_size, hZ]; omega), hZ]
  have s2 : (putAt (putAt Z 0 (ar32 h 1024)) 1024 (tabOf f)).size = 1282 := by rw [putAt_size _ _ _ (by rw [tabOf_size, s1]; omega), s1]
  have s3 : (putAt (putAt (putAt Z 0 (ar32 h 1024)) 1024 (tabOf f)) 1280 #[kv]).size = 1282 := by rw [putAt_size _ _ _ (by rw [s2]; simp), s2]
  have g4 := fun j => putAt_get (putAt (putAt (putAt Z 0 (ar32 h 1024)) 1024 (tabOf f)) 1280 #[kv]) 1281 #[.int .i64 d] (by rw [s3]; simp) j
  have g3 := fun j => putAt_get (putAt (putAt Z 0 (ar32 h 1024)) 1024 (tabOf f)) 1280 #[kv] (by rw [s2]; simp) j
  have g2 := fun j => putAt_get (putAt Z 0 (ar32 h 1024)) 1024 (tabOf f) (by rw [s1, tabOf_size]; omega) j
  have g1 := fun j => putAt_get Z 0 (ar32 h 1024) (by rw [hZ, ar32_size]; omega) j
  refine ⟨by rw [putAt_size _ _ _ (by rw [s3]; simp), s3], fun i hi => ?_, fun i hi => ?_, ?_, ?_⟩
  · rw [g4, if_pos (by omega), g3, if_pos (by omega), g2, if_pos hi, g1, if_neg (by omega), if_pos (by rw [ar32_size]; omega)]
    exact ar32_at h 1024 i hi
  · rw [g4, if_pos (by omega), g3, if_pos (by omega), g2, if_neg (by omega), if_pos (by rw [tabOf_size]; omega), Nat.add_sub_cancel_left]
    have e := tabOf_at f (UInt8.ofNat i)
    rwa [UInt8.toNat_ofNat', Nat.mod_eq_of_lt (by omega)] at e
  · rw [g4, if_pos (by omega), g3, if_neg (by omega), if_pos (by simp)]; rfl
  · rw [g4, if_neg (by omega), if_pos (by simp)]; rfl
set_option maxRecDepth 100000 in
set_option maxHeartbeats 1600000 in
theorem mixed_impl (p k : Nat) (hk : k < 4) (X : Array Value) (T : Nat → UInt8 → UInt32) (f : UInt8 → UInt8) (kv : Value) (d : Int) (hX : TlX X (ttF fun k i => T k (UInt8.ofNat i)) f kv d) (b : UInt8) (w : World) (hp : RAt w p 130 X) :
    Calls Tryz.prog 225 #[.pointer (some ⟨p, 0, none⟩), .int .i64 (k : Int), .int .u8 b.toNat] w fun e w' => e = .returned (.int .u32 (T k b).toNat) ∧ Below w.heap.size w w' := by
  have hb := b.toNat_lt
  have hv : X[256 * k + b.toNat]? = some (.int .u32 ((T k b).toNat : Int)) := by
    rw [hX.tab _ (by omega)]
    unfold ttF
    rw [show (256 * k + b.toNat) / 256 = k by omega, show (256 * k + b.toNat) % 256 = b.toNat by omega]
    show some (Value.int IntKind.u32 ((T k (UInt8.ofNat b.toNat)).toNat : Int)) = _
    rw [UInt8.ofNat_toNat]
  have hcell := hp.cell hv
  have hcell2 : w.cell? ⟨p, k * 256 + b.toNat, none⟩ = some (.int .u32 ((T k b).toNat : Int)) := by rw [Nat.mul_comm k 256]; exact hcell
  have hb1 : (b.toNat : Int) < 256 := by omega
  have hk1 : (k : Int) < 4 := by omega
  have hk0 : (0 : Int) ≤ (k : Int) := by omega
  have HB : Hid (Below w.heap.size w w) := Lib.hid (Below.refl _ _)
  generalize T k b = y at *
  clear hX hp hv
  go_enter Tryz.func225, Tryz.ntmps225
  go_wp2
  go_ret
  exact ⟨rfl, HB.out⟩
theorem boxT_shl (f : UInt8 → UInt8) (k : Nat) (hk : k < 4) (b : UInt8) (m : Nat) (hm : m = 2 ^ (24 - 8 * k)) : ((f b).toNat : Int) * (m : Int) = ((boxT f k b).toNat : Int) := by
  rw [boxT_nat f k hk b m hm, Int.natCast_mul]
set_option maxRecDepth 100000 in
set_option maxHeartbeats 1600000 in
theorem boxed_impl (p k : Nat) (hk : k < 4) (X : Array Value) (h : Nat → UInt32) (f : UInt8 → UInt8) (kv : Value) (d : Int) (hX : TlX X h f kv d) (b : UInt8) (w : World) (hp : RAt w p 130 X) :
    Calls Tryz.prog 226 #[.pointer (some ⟨p, 0, none⟩), .int .i64 (k : Int), .int .u8 b.toNat] w fun e w' => e = .returned (.int .u32 (boxT f k b).toNat) ∧ Below w.heap.size w w' := by
  have hb := b.toNat_lt
  have hv := hX.box b.toNat (by omega)
  rw [UInt8.ofNat_toNat] at hv
  have hcell := hp.cell hv
  have hb1 : (b.toNat : Int) < 256 := by omega
  have hk1 : (k : Int) < 4 := by omega
  have hk0 : (0 : Int) ≤ (k : Int) := by omega
  have hfl := (f b).toNat_lt
  have hf1 : ((f b).toNat : Int) < 256 := by omega
  have HB : Hid (Below w.heap.size w w) := Lib.hid (Below.refl _ _)
  have h4 : k = 0 ∨ k = 1 ∨ k = 2 ∨ k = 3 := by omega
  clear hX hp hv
  rcases h4 with rfl | rfl | rfl | rfl
  · have HV : Hid (((f b).toNat : Int) * 16777216 = ((boxT f 0 b).toNat : Int)) := Lib.hid (boxT_shl f 0 (by omega) b 16777216 rfl)
    generalize boxT f 0 b = y at *
    generalize f b = x at *
    go_enter Tryz.func226, Tryz.ntmps226
    go_wp2
    go_ret
    exact ⟨ret_i HV.out, HB.out⟩
  · have HV : Hid (((f b).toNat : Int) * 65536 = ((boxT f 1 b).toNat : Int)) := Lib.hid (boxT_shl f 1 (by omega) b 65536 rfl)
    generalize boxT f 1 b = y at *
    generalize f b = x at *
    go_enter Tryz.func226, Tryz.ntmps226
    go_wp2
    go_ret
    exact ⟨ret_i HV.out, HB.out⟩
  · have HV : Hid (((f b).toNat : Int) * 256 = ((boxT f 2 b).toNat : Int)) := Lib.hid (boxT_shl f 2 (by omega) b 256 rfl)
    generalize boxT f 2 b = y at *
    generalize f b = x at *
    go_enter Tryz.func226, Tryz.ntmps226
    go_wp2
    go_ret
    exact ⟨ret_i HV.out, HB.out⟩
  · have HV : Hid (((f b).toNat : Int) = ((boxT f 3 b).toNat : Int)) := Lib.hid ((Int.mul_one _).symm.trans (boxT_shl f 3 (by omega) b 1 rfl))
    generalize boxT f 3 b = y at *
    generalize f b = x at *
    go_enter Tryz.func226, Tryz.ntmps226
    go_wp2
    go_ret
    exact ⟨ret_i HV.out, HB.out⟩
end Go.Proofs.YtbfmbdohebdbaaaGreatDoor
