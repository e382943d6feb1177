/-
  What impl.roundOf answers, by whatever function tells what a byte adds.
-/
import Derived.Test.YtkbnnlhilnnpeaaGreatDoorFourI
import Derived.Test.YtkbnnlhilnnpeaaGreatDoorTableMath
import Derived.Test.YtkbnnlhilnnpeaaGreatDoorWord
import Derived.Deep.RegionHeld3
import Derived.Deep.QuietTactic
import Derived.BigQuiet
set_option linter.unusedVariables false
set_option linter.unusedSimpArgs false
namespace Go.Proofs.YtkbnnlhilnnpeaaGreatDoor
open Go Go.RowKit

theorem al_up (W : World) (o : Obj) : Below W.heap.size W (W.alloc o) := (Below.refl _ W).alloc (Nat.le_refl _) _
theorem al_sz (W : World) (o : Obj) : (W.alloc o).heap.size = W.heap.size + 1 := by simp
theorem five_at (w : World) (A B C D E : Array Value) (a b c d e : TypeId) {W : World} (hW : ((((w.alloc (.cells A a)).alloc (.cells B b)).alloc (.cells C c)).alloc (.cells D d)).alloc (.cells E e) = W) :
    RAt W w.heap.size a A ∧ RAt W (w.heap.size + 1) b B ∧ RAt W (w.heap.size + 1 + 1) c C ∧ RAt W (w.heap.size + 1 + 1 + 1) d D ∧ RAt W (w.heap.size + 1 + 1 + 1 + 1) e E ∧ Below w.heap.size w W := by
  obtain ⟨W1, h1⟩ : ∃ W1, w.alloc (.cells A a) = W1 := ⟨_, rfl⟩
  have r1 : RAt W1 w.heap.size a A := h1 ▸ RAt.new w a A
  have s1 : W1.heap.size = w.heap.size + 1 := by rw [← h1, al_sz]
  have u1 : Below w.heap.size w W1 := h1 ▸ al_up w _
  rw [h1] at hW
  obtain ⟨W2, h2⟩ : ∃ W2, W1.alloc (.cells B b) = W2 := ⟨_, rfl⟩
  have v2 : Below W1.heap.size W1 W2 := h2 ▸ al_up W1 _
  have r2 : RAt W2 W1.heap.size b B := h2 ▸ RAt.new W1 b B
  have s2 : W2.heap.size = w.heap.size + 1 + 1 := by rw [← h2, al_sz, s1]
  rw [h2] at hW
  obtain ⟨W3, h3⟩ : ∃ W3, W2.alloc (.cells C c) = W3 := ⟨_, rfl⟩
  have v3 : Below W2.heap.size W2 W3 := h3 ▸ al_up W2 _
  have r3 : RAt W3 W2.heap.size c C := h3 ▸ RAt.new W2 c C
  have s3 : W3.heap.size = w.heap.size + 1 + 1 + 1 := by rw [← h3, al_sz, s2]
  rw [h3] at hW
  obtain ⟨W4, h4⟩ : ∃ W4, W3.alloc (.cells D d) = W4 := ⟨_, rfl⟩
  have v4 : Below W3.heap.size W3 W4 := h4 ▸ al_up W3 _
  have r4 : RAt W4 W3.heap.size d D := h4 ▸ RAt.new W3 d D
  have s4 : W4.heap.size = w.heap.size + 1 + 1 + 1 + 1 := by rw [← h4, al_sz, s3]
  rw [h4] at hW
  have v5 : Below W4.heap.size W4 W := hW ▸ al_up W4 _
  have r5 : RAt W W4.heap.size e E := hW ▸ RAt.new W4 e E
  rw [s1] at r2; rw [s2] at r3; rw [s3] at r4; rw [s4] at r5
  have u2 := u1.trans (v2.mono (by omega))
  have u3 := u2.trans (v3.mono (by omega))
  have u4 := u3.trans (v4.mono (by omega))
  exact ⟨(((r1.up v2).up v3).up v4).up v5, ((r2.up v3).up v4).up v5, (r3.up v4).up v5, r4.up v5, r5, u4.trans (v5.mono (by omega))⟩
theorem rnd_num (i d k p : Nat) (hp : (i + d * k) % 4 = p) : ((i : Int) + (d : Int) * (k : Int)).tmod 4 = (p : Int) := by
  rw [show (i : Int) + (d : Int) * (k : Int) = ((i + d * k : Nat) : Int) by rw [Int.natCast_add, Int.natCast_mul]]
  rw [Int.tmod_eq_emod_of_nonneg (by omega)]
  omega
theorem rnd_bound (d k : Nat) (hd : d ≤ 3) (hk : k < 4) : 0 ≤ (d : Int) * (k : Int) ∧ (d : Int) * (k : Int) ≤ 9 := by
  have h : d * k ≤ 3 * 3 := Nat.mul_le_mul hd (by omega)
  rw [show (d : Int) * (k : Int) = ((d * k : Nat) : Int) by rw [Int.natCast_mul]]
  omega
set_option maxRecDepth 100000 in
set_option maxHeartbeats 3200000 in
theorem rnd1_impl (G : FuncId) (fst : Array Value) (T : Nat → UInt8 → UInt32) (d : Nat) (hd : d ≤ 3) (s c : Nat → UInt32) (gk ga gs gd : Nat) (i : Nat) (hi : i < 4) (w : World)
    (HE : ∀ (args : Array Value) (W : World), (callFunc G args).run Tryz.prog W = .ok (.enter G args) W)
    (HG : ∀ k, k < 4 → ∀ (b : UInt8) (W : World), Below w.heap.size w W → Calls Tryz.prog G (fst ++ #[.int .i64 (k : Int), .int .u8 b.toNat]) W fun e w' => e = .returned (.int .u32 (T k b).toNat) ∧ Below W.heap.size W w')
    (hk : RAt w gk 100 (ar32 c 4)) (ha : RAt w ga 126 #[.func (.func G) fst #[]]) (hs : RAt w gs 100 (ar32 s 4)) (hdd : RAt w gd 3 #[.int .i64 (d : Int)]) :
    Calls Tryz.prog 125 #[.int .i64 (i : Int), .pointer (some ⟨gk, 0, none⟩), .pointer (some ⟨ga, 0, none⟩), .pointer (some ⟨gs, 0, none⟩), .pointer (some ⟨gd, 0, none⟩)] w fun e w' => e = .returned (.int .u32 (rndW T d s c i).toNat) ∧ Below w.heap.size w w' := by
  have HGH := fun k hk b W hW => Lib.hid (HG k hk b W hW)
  have hci := hk.cell (ar32_at c 4 i hi)
  have hi1 : (i : Int) < 4 := by omega
  have hi0 : (0 : Int) ≤ (i : Int) := by omega
  have HA := Lib.hid ha
  have HS := Lib.hid hs
  have HD := Lib.hid hdd
  clear HG hk ha hs hdd
  go_enter Tryz.func125, Tryz.ntmps125
  go_wp2
  clear hci
  go_loopw [7, 12] (fun v j wr => ∃ k : Nat, k ≤ 4 ∧ j = .int .i64 k ∧ v = .int .u32 (rndTo T d s i (c i) k).toNat ∧ Below w.heap.size w wr) (fun _ j _ => 4 - (intOf j).toNat)
  case atStart => exact ⟨0, by omega, rfl, rfl, Below.refl _ _⟩
  case round =>
    obtain ⟨k, hk, rfl, rfl, hbel⟩ := hrel
    by_cases hlt : k < 4
    · have hk1 : (k : Int) < 4 := by omega
      obtain ⟨p, hp⟩ : ∃ p, (i + d * k) % 4 = p := ⟨_, rfl⟩
      have hp4 : p < 4 := by rw [← hp]; exact Nat.mod_lt _ (by omega)
      have hm : bits .xor .u32 ((rndTo T d s i (c i) k).toNat : Int) ((T k (wb (s p) k)).toNat : Int) = ((rndTo T d s i (c i) (k + 1)).toNat : Int) := by rw [rndTo, hp]; exact u32_xor _ _
      have HM := Lib.hid hm
      have hmod := rnd_num i d k p hp
      obtain ⟨m0, m9⟩ := rnd_bound d k hd hlt
      have q1 : IntKind.i64.wrap ((d : Int) * (k : Int)) = (d : Int) * (k : Int) := IntWalk.i64_in _ (by omega)
      have q2 : IntKind.i64.wrap ((i : Int) + (d : Int) * (k : Int)) = (i : Int) + (d : Int) * (k : Int) := IntWalk.i64_in _ (by omega)
      have hp1 : (p : Int) < 4 := by omega
      have hp0 : (0 : Int) ≤ (p : Int) := by omega
      have ks := HS.out.up hbel
      have ka := HA.out.up hbel
      have kd := HD.out.up hbel
      have ls := ks.lt
      have la := ka.lt
      have ld := kd.lt
      have cs := ks.cell (ar32_at s 4 p hp4)
      have ca : wr.cell? ⟨ga, 0, none⟩ = some (.func (.func G) fst #[]) := ka.cell rfl
      have cd : wr.cell? ⟨gd, 0, none⟩ = some (.int .i64 (d : Int)) := kd.cell rfl
      have C1 := fun W => Lib.hid (byteOf_impl (s p) k hlt W)
      have C2 := fun W hW => HGH k hlt (wb (s p) k) W hW
      have hl1 := w32_lt (rndTo T d s i (c i) k)
      have hl2 := w32_lt (T k (wb (s p) k))
      have HB := Lib.hid hbel
      have HD1 : Hid (Below w.heap.size w wr.drew) := Lib.hid hbel.drew
      generalize T k (wb (s p) k) = y at *
      generalize wb (s p) k = b at *
      generalize s p = x at *
      clear hm hp hbel HGH ks ka kd m0 m9
      go_wp2
      go_region_held3 (fun w' => w'.cell? ⟨ga, 0, none⟩ = some (.func (.func G) fst #[]) ∧ w'.cell? ⟨gd, 0, none⟩ = some (.int .i64 (d : Int)) ∧ w'.cell? ⟨gs, p, none⟩ = some (.int .u32 (x.toNat : Int)))
        (first
          | exact ⟨ca, cd, cs⟩
          | exact ⟨(hb2.cell (p := ⟨ga, 0, none⟩) la).trans ca, (hb2.cell (p := ⟨gd, 0, none⟩) ld).trans cd, (hb2.cell (p := ⟨gs, p, none⟩) ls).trans cs⟩)
        (first
          | (with_reducible refine (C1 _).out.mono ?_; rintro e w' ⟨rfl, rfl⟩)
          | (with_reducible refine (C2 _ HD1.out).out.mono ?_; rintro e w2 ⟨rfl, hb2⟩))
      have HB3 := Lib.hid (HD1.out.trans (hb2.mono HD1.out.size))
      clear hb2 ca cd cs
      go_wp2
      go_roundw
      case rel => exact ⟨k + 1, by omega, by go_num, val_i HM.out, HB3.out⟩
      case measure => simp [intOf]; omega
    · obtain rfl : k = 4 := by omega
      go_wp2
      go_ret
      exact ⟨rfl, hbel⟩
theorem fourWords_info (h : Nat → UInt32) : (Tryz.prog.info? 100).map (·.size) = some (ar32 h 4).size := by rw [ar32_size]; kernel_rfl
def zr4 : Array Value := #[.int .u32 0, .int .u32 0, .int .u32 0, .int .u32 0]
set_option maxRecDepth 100000 in
set_option maxHeartbeats 1600000 in
theorem roundOf_impl (G : FuncId) (fst : Array Value) (T : Nat → UInt8 → UInt32) (d : Nat) (hd : d ≤ 3) (s c : Nat → UInt32) (w : World)
    (HE : ∀ (args : Array Value) (W : World), (callFunc G args).run Tryz.prog W = .ok (.enter G args) W)
    (HG : ∀ k, k < 4 → ∀ (b : UInt8) (W : World), Below w.heap.size w W → Calls Tryz.prog G (fst ++ #[.int .i64 (k : Int), .int .u8 b.toNat]) W fun e w' => e = .returned (.int .u32 (T k b).toNat) ∧ Below W.heap.size W w') :
    Calls Tryz.prog 106 #[.agg (ar32 s 4), .agg (ar32 c 4), .int .i64 (d : Int), .func (.func G) fst #[]] w fun e w' => e = .returned (.agg (ar32 (rndW T d s c) 4)) ∧ Below w.heap.size w w' := by
  have hmf : ∀ (fn : Fn) (first cap : Array Value) (w : World), (Instr.makeFunc fn first cap).run Tryz.prog w = .ok (.func fn first cap) w := fun _ _ _ _ => rfl
  obtain ⟨W, hW⟩ : ∃ W, ((((w.alloc (.cells (ar32 s 4) 100)).alloc (.cells (ar32 c 4) 100)).alloc (.cells #[.int .i64 (d : Int)] 3)).alloc (.cells #[.func (.func G) fst #[]] 126)).alloc (.cells zr4 100) = W := ⟨_, rfl⟩
  obtain ⟨r1, r2, r3, r4, r5, hb⟩ := five_at w _ _ _ _ _ _ _ _ _ _ hW
  have HC : Hid (Calls Tryz.prog 104 #[.func (.func 125) #[] #[.pointer (some ⟨w.heap.size + 1, 0, none⟩), .pointer (some ⟨w.heap.size + 1 + 1 + 1, 0, none⟩), .pointer (some ⟨w.heap.size, 0, none⟩), .pointer (some ⟨w.heap.size + 1 + 1, 0, none⟩)]] W fun e w' => e = .returned (.agg (ar32 (rndW T d s c) 4)) ∧ Below W.heap.size W w') := Lib.hid
    (four_impl _ _ (rndW T d s c) W (enters_of Tryz.func125 (by kernel_rfl) rfl) (fun i hi W2 hW2 =>
      rnd1_impl G fst T d hd s c _ _ _ _ i hi W2 HE (fun k hk b W3 hW3 => HG k hk b W3 ((hb.trans (hW2.mono hb.size)).trans (hW3.mono (Nat.le_trans hb.size hW2.size)))) (r2.up hW2) (r4.up hW2) (r1.up hW2) (r3.up hW2)))
  have hsi := fourWords_info (rndW T d s c)
  have hone := ar32_one (rndW T d s c) 4
  have hz : zr4.size = (ar32 (rndW T d s c) 4).size := by rw [ar32_size]; rfl
  generalize ar32 (rndW T d s c) 4 = R at *
  generalize ar32 s 4 = A1 at *
  generalize ar32 c 4 = A2 at *
  have R5 := Lib.hid r5
  have HB := Lib.hid hb
  have HW := Lib.hid hW
  clear r1 r2 r3 r4 r5 hb hW HG
  unfold zr4 at HW
  go_enter Tryz.func106, Tryz.ntmps106
  go_wp2_with fail
  rw [HW.out]
  refine HC.out.mono ?_; rintro e w2 ⟨rfl, hb2⟩
  have M := Lib.hid (R5.out.up hb2)
  have MS := Lib.hid (setRow_heap w2 _ _ R _ _ M.out)
  have MB : Hid (Below w.heap.size w (w2.setRow (w.heap.size + 1 + 1 + 1 + 1) R)) := Lib.hid (below_setRow (HB.out.trans (hb2.mono HB.out.size)) (by omega) _)
  clear hb2 HC HB R5
  go_wp2_with (refine wpList_store_row rfl 100 _ _ rfl (w.heap.size + 1 + 1 + 1 + 1) R rfl rfl 100 _ M.out hsi hz hone ?_)
  refine bodyPost_ret (v := .agg R) ?_ rfl ⟨rfl, MB.out⟩
  exact results_cell_row rfl _ _ (w.heap.size + 1 + 1 + 1 + 1) 100 R (0, 0) _ rfl MS.out Tryz.underlying100 rfl hsi
end Go.Proofs.YtkbnnlhilnnpeaaGreatDoor
