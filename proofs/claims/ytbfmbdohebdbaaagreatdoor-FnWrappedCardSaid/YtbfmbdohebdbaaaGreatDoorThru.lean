/-
  Contracts and facts that the laws of this seat use: Thru1, ThruI.
-/
import Derived.Test.YtbfmbdohebdbaaaGreatDoorLks
import Derived.Test.YtbfmbdohebdbaaaGreatDoorWord
import Derived.Test.YtbfmbdohebdbaaaGreatDoorPure
import Derived.Deep.QuietTactic
import Derived.BigQuiet
import Derived.Test.YtbfmbdohebdbaaaGreatDoorStoreAt
set_option linter.unusedVariables false
set_option linter.unusedSimpArgs false
namespace Go.Proofs.YtbfmbdohebdbaaaGreatDoor
open Go Go.RowKit

theorem w_getW (t : ByteArray) (i : Nat) : wb (getW t i) 0 = byteOf t i ∧ wb (getW t i) 1 = byteOf t (i + 1) ∧ wb (getW t i) 2 = byteOf t (i + 2) ∧ wb (getW t i) 3 = byteOf t (i + 3) := by
  unfold getW
  exact ⟨wb0_mk _ _ _ _, wb1_mk _ _ _ _, wb2_mk _ _ _ _, wb3_mk _ _ _ _⟩
/-- a text's bytes that can be read. -/
def TCell (w : World) (g : Nat) (t : ByteArray) : Prop := g < w.heap.size ∧ ∀ j, j < t.size → w.cell? ⟨g, j, none⟩ = some (cell8 (byteOf t j))
theorem TCell.below {w w' : World} {g : Nat} {t : ByteArray} (h : TCell w g t) (hb : Below w.heap.size w w') : TCell w' g t :=
  ⟨Nat.lt_of_lt_of_le h.1 hb.size, fun j hj => (hb.cell (p := ⟨g, j, none⟩) h.1).trans (h.2 j hj)⟩
set_option maxRecDepth 100000 in
set_option maxHeartbeats 3200000 in
theorem thru1_impl (bt bl gt cap p : Nat) (t : ByteArray) (ht : t.size = 16) (hc1 : 16 ≤ cap) (hc2 : cap ≤ 9223372036854775807) (X : Array Value) (h : Nat → UInt32) (f : UInt8 → UInt8) (kv : Value) (d : Int) (hX : TlX X h f kv d) (m : Nat) (hm : 1 ≤ m) (K : Nat → UInt32) (i : Nat) (hi : i < 4) (w : World)
    (h1 : RAt w bt 22 #[.slice (some ⟨gt, 0, none⟩) 16 cap]) (h2 : RAt w bl 76 #[.pointer (some ⟨p, 0, none⟩)]) (h3 : TCell w gt t) (h4 : RAt w p 130 X) (h5 : KeysAt w kv m K) :
    Calls Tryz.prog 223 #[.int .i64 (i : Int), .pointer (some ⟨bt, 0, none⟩), .pointer (some ⟨bl, 0, none⟩)] w fun e w' => e = .returned (.int .u32 (colW t i ^^^ K i).toNat) ∧ Below w.heap.size w w' := by
  obtain ⟨g, c, rfl, hmc, hcm, hg, hk⟩ := h5
  have c1 : w.cell? ⟨bt, 0, none⟩ = some (.slice (some ⟨gt, 0, none⟩) 16 cap) := h1.cell rfl
  have c2 : w.cell? ⟨bl, 0, none⟩ = some (.pointer (some ⟨p, 0, none⟩)) := h2.cell rfl
  have c3 := h4.cell hX.keys
  have c4 := hk i (by omega)
  obtain ⟨b0, b1, b2, b3⟩ := w_getW t (4 * i)
  have HG : Hid (∀ k, Calls Tryz.prog 132 #[.slice (some ⟨gt, 0, none⟩) 16 cap, .int .i64 (4 * (i : Int))] (w.drewN k) fun e w' => e = .returned (.int .u32 (colW t i).toNat) ∧ w' = w.drewN k) := Lib.hid fun k => by
    have hh := get_impl gt 16 cap (4 * i) (getW t (4 * i)) (w.drewN k) (by omega) hc1 hc2 ⟨by rw [b0]; exact h3.2 _ (by omega), by rw [b1]; exact h3.2 _ (by omega), by rw [b2]; exact h3.2 _ (by omega), by rw [b3]; exact h3.2 _ (by omega)⟩
    rw [show ((4 * i : Nat) : Int) = 4 * (i : Int) by omega] at hh
    exact hh.mono fun e w' ⟨e1, e2⟩ => ⟨e1, e2.symm⟩
  have hx : bits .xor .u32 ((colW t i).toNat : Int) ((K i).toNat : Int) = ((colW t i ^^^ K i).toNat : Int) := u32_xor _ _
  have HX := Lib.hid hx
  have hi1 : (i : Int) < 4 := by omega
  have hi0 : (0 : Int) ≤ (i : Int) := by omega
  have hm1 : (0 : Int) < (m : Int) := by omega
  have q1 : IntKind.i64.wrap (4 * (i : Int)) = 4 * (i : Int) := IntWalk.i64_in _ (by omega)
  have HB : Hid (∀ k, Below w.heap.size w (w.drewN k)) := Lib.hid fun k => below_drewN (Below.refl _ _) k
  generalize colW t i ^^^ K i = z at *
  generalize colW t i = y at *
  generalize K i = x at *
  clear h1 h2 h3 h4 hX hk hx b0 b1 b2 b3
  go_enter Tryz.func223, Tryz.ntmps223
  go_wp2
  go_quiet ((go_at_call 132; exact Calls.quiet_of_same (HG.out _)))
  go_wp2
  go_ret
  exact ⟨ret_i HX.out, HB.out _⟩
end Go.Proofs.YtbfmbdohebdbaaaGreatDoor
set_option linter.unusedVariables false
set_option linter.unusedSimpArgs false
namespace Go.Proofs.YtbfmbdohebdbaaaGreatDoor
open Go Go.RowKit
attribute [local go_sem ↓] Go.wp_at_zero Go.wp_at_succ

theorem rng_of {w : World} {g : Nat} {t : TypeId} {h : Nat → UInt32} (r : RAt w g t (ar32 h 4)) : w.rangeAt g 0 (cells32 (upTo h 4)) := fun j v hv => by
  have hj : j < 4 := by have := (List.getElem?_eq_some_iff.1 hv).1; rwa [cells32_length, upTo_length] at this
  rw [Nat.zero_add, r.cell (ar32_at h 4 j hj), ← hv]
  exact (cells32_at _ _ _ (upTo_at h 4 j hj)).symm
theorem rng_key {w : World} {g m : Nat} {K : Nat → UInt32} (hk : ∀ i, i < 4 * m → w.cell? ⟨g, i, none⟩ = some (.int .u32 ((K i).toNat : Int))) (j : Nat) (hj : j < m) : w.rangeAt g (4 * j) (cells32 (upTo (fun i => K (4 * j + i)) 4)) := fun i v hv => by
  have hi : i < 4 := by have := (List.getElem?_eq_some_iff.1 hv).1; rwa [cells32_length, upTo_length] at this
  rw [hk _ (by omega), ← hv]
  exact (cells32_at _ _ _ (upTo_at (fun i => K (4 * j + i)) 4 i hi)).symm
theorem rng_up {w w' : World} {B g o : Nat} {l : List Value} (h : w.rangeAt g o l) (hb : Below B w w') (hg : g < B) : w'.rangeAt g o l := fun j v hv => (World.cell?_of_block (a := ⟨g, o + j, none⟩) (hb.block g hg)).trans (h j v hv)
theorem arr4_len (h : Nat → UInt32) : (Tryz.prog.info? 131).map (·.size) = some (cells32 (upTo h 4)).length := by rw [cells32_length, upTo_length]; kernel_rfl
theorem fwo_len (h : Nat → UInt32) : (Tryz.prog.info? 132).map (·.size) = some (cells32 (upTo h 4)).length := by rw [cells32_length, upTo_length]; kernel_rfl
theorem slice4_wr {w : World} {g : Nat} {t : TypeId} {h : Nat → UInt32} (r : RAt w g t (ar32 h 4)) : ∀ j, j < 4 → w.cell? ⟨g, 0 + j, none⟩ = some (.int .u32 ((h j).toNat : Int)) := fun j hj => by rw [Nat.zero_add]; exact r.cell (ar32_at h 4 j hj)
set_option maxRecDepth 100000 in
set_option maxHeartbeats 12800000 in
theorem through_impl (p : Nat) (t : ByteArray) (ht : t.size = 16) (X : Array Value) (f : UInt8 → UInt8) (kv : Value) (D : Nat) (hD : D ≤ 3) (T : Nat → UInt8 → UInt32) (hX : TlX X (ttF fun k i => T k (UInt8.ofNat i)) f kv (D : Int)) (q : Nat) (hq : q ≤ 1000) (K : Nat → UInt32) (w : World)
    (h4 : RAt w p 130 X) (h5 : KeysAt w kv (q + 1 + 1) K) :
    Calls Tryz.prog 222 #[.pointer (some ⟨p, 0, none⟩), .string t] w fun e w' => e = .returned (.string (ofW (rndW (boxT f) D (wlkW T D (fun j i => K (4 * j + i)) t q) (fun i => K (4 * (q + 1) + i))))) ∧ Below w.heap.size w w' := by
  have hmf : ∀ (fn : Fn) (first cap : Array Value) (w : World), (Instr.makeFunc fn first cap).run Tryz.prog w = .ok (.func fn first cap) w := fun _ _ _ _ => rfl
  have EM := enters_of Tryz.func225 (by kernel_rfl) rfl
  have EB := enters_of Tryz.func226 (by kernel_rfl) rfl
  obtain ⟨W1, hW1⟩ : ∃ W1, w.alloc (.cells #[.pointer (some ⟨p, 0, none⟩)] 76) = W1 := ⟨_, rfl⟩
  have rl : RAt W1 w.heap.size 76 #[.pointer (some ⟨p, 0, none⟩)] := hW1 ▸ RAt.new w _ _
  have b1 : Below w.heap.size w W1 := hW1 ▸ al_up w _
  have s1 : W1.heap.size = w.heap.size + 1 := by rw [← hW1, al_sz]
  have p1 := h4.up b1
  have k1 := h5.below b1
  obtain ⟨cap, W2, hconv, hc1, hc2, hb2, hcells⟩ := bytes_made t (by omega) W1
  rw [ht, s1] at hconv
  rw [ht] at hc1
  have tc : TCell W2 W1.heap.size t := ⟨World.block_lt_of_cell? W2 _ (hcells 0 (by omega)), fun j hj => by rw [hcells j hj, byteOf_at t j hj]⟩
  obtain ⟨W3, hW3⟩ : ∃ W3, W2.alloc (.cells #[.slice (some ⟨w.heap.size + 1, 0, none⟩) 16 cap] 22) = W3 := ⟨_, rfl⟩
  have r3 : RAt W3 W2.heap.size 22 #[.slice (some ⟨w.heap.size + 1, 0, none⟩) 16 cap] := hW3 ▸ RAt.new W2 _ _
  have b3 : Below W2.heap.size W2 W3 := hW3 ▸ al_up W2 _
  rw [s1] at tc
  have HC : Hid (Calls Tryz.prog 128 #[.func (.func 223) #[] #[.pointer (some ⟨W2.heap.size, 0, none⟩), .pointer (some ⟨w.heap.size, 0, none⟩)]] W3 fun e w' => e = .returned (.agg (ar32 (wlkW T D (fun j i => K (4 * j + i)) t 0) 4)) ∧ Below W3.heap.size W3 w') := Lib.hid
    (four_impl _ _ (wlkW T D (fun j i => K (4 * j + i)) t 0) W3 (enters_of Tryz.func223 (by kernel_rfl) rfl) (fun i hi W4 hW4 => by
      have hh := thru1_impl _ _ _ cap p t ht hc1 hc2 X _ f kv _ hX (q + 1 + 1) (by omega) K i hi W4 (r3.up hW4) (((rl.up hb2).up b3).up hW4) ((tc.below b3).below hW4) (((p1.up hb2).up b3).up hW4) (((k1.below hb2).below b3).below hW4)
      have ez : wlkW T D (fun j i => K (4 * j + i)) t 0 i = colW t i ^^^ K i := by show colW t i ^^^ K (4 * 0 + i) = _; rw [Nat.mul_zero, Nat.zero_add]
      rw [ez]; exact hh))
  have RL := Lib.hid ((rl.up hb2).up b3)
  have B3 := Lib.hid (b1.trans ((hb2.mono b1.size).trans (b3.mono (Nat.le_trans b1.size hb2.size))))
  have L3 : Hid (w.heap.size < W3.heap.size) := Lib.hid ((rl.up hb2).up b3).lt
  obtain ⟨g, c, rfl, hmc, hcm, hg1, hk1⟩ := h5
  have c1 : W1.cell? ⟨w.heap.size, 0, none⟩ = some (.pointer (some ⟨p, 0, none⟩)) := rl.cell rfl
  have c2 := p1.cell hX.keys
  have HW1 := Lib.hid hW1
  have HW3 := Lib.hid hW3
  have HP : Hid (∀ W, Below w.heap.size w W → RAt W p 130 X) := Lib.hid fun W hW => h4.up hW
  have HX := Lib.hid hX
  have HKY : Hid (∀ W, Below w.heap.size w W → ∀ j, j < q + 1 + 1 → W.rangeAt g (4 * j) (cells32 (upTo (fun i => K (4 * j + i)) 4))) := Lib.hid fun W hW j hj => rng_up (rng_key hk1 j hj) hW hg1
  have HKV : Hid (∀ W, Below w.heap.size w W → W.cell? ⟨p, 1280, none⟩ = some (.slice (some ⟨g, 0, none⟩) (q + 1 + 1) c) ∧ W.cell? ⟨p, 1281, none⟩ = some (.int .i64 (D : Int))) := Lib.hid fun W hW => ⟨(h4.up hW).cell hX.keys, (h4.up hW).cell hX.step⟩
  have hq2 : (q : Int) ≤ 1000 := by omega
  have hq3 : (q : Int) + 1 ≤ (c : Int) := by omega
  have q1 : IntKind.i64.wrap ((q : Int) + 1) = (q : Int) + 1 := IntWalk.i64_in _ (by omega)
  have HMC := Lib.hid hmc
  clear hW1 hW3 hcells tc r3 rl p1 k1 b1 b3 hb2 h4 hg1 hk1 hX hmc
  go_enter Tryz.func222, Tryz.ntmps222
  apply wp_seq
  apply wp_region_lit
  refine Great.wpList_runTo rfl (some 2) rfl (.pointer (some ⟨w.heap.size, 0, none⟩)) (w.alloc (.cells #[.pointer (some ⟨p, 0, none⟩)] 76)) (by kernel_rfl) ?_
  rw [HW1.out]
  go_wp2_with fail
  rw [HW3.out]
  refine HC.out.mono ?_; rintro e w4 ⟨rfl, hb4⟩
  obtain ⟨V0, hV0⟩ : ∃ V0, ar32 (wlkW T D (fun j i => K (4 * j + i)) t 0) 4 = V0 := ⟨_, rfl⟩
  have M := Lib.hid (RAt.new w4 131 #[.int .u32 0, .int .u32 0, .int .u32 0, .int .u32 0])
  obtain ⟨W5, hW5⟩ : ∃ W5, (w4.alloc (.cells #[.int .u32 0, .int .u32 0, .int .u32 0, .int .u32 0] 131)).setRow w4.heap.size V0 = W5 := ⟨_, rfl⟩
  have rw5 : RAt W5 w4.heap.size 131 V0 := hW5 ▸ M.out.row V0
  have b45 : Below w4.heap.size w4 W5 := hW5 ▸ below_setRow (al_up w4 _) (Nat.le_refl _) V0
  have hb34 := B3.out.trans (hb4.mono B3.out.size)
  have HB5 := Lib.hid (hb34.trans (b45.mono hb34.size))
  have RL5 := Lib.hid ((RL.out.up hb4).up b45)
  have LT : Hid (w.heap.size < w4.heap.size) := Lib.hid (Nat.lt_of_lt_of_le L3.out hb4.size)
  have hsi : (Tryz.prog.info? 131).map (·.size) = some V0.size := by rw [← hV0]; exact four_info _
  have hone : V0.all (·.oneCell') = true := by rw [← hV0]; exact ar32_one _ 4
  have hz : (#[.int .u32 0, .int .u32 0, .int .u32 0, .int .u32 0] : Array Value).size = V0.size := by rw [← hV0, ar32_size]; rfl
  have RW5 : Hid (RAt W5 w4.heap.size 131 (ar32 (wlkW T D (fun j i => K (4 * j + i)) t 0) 4)) := Lib.hid (by rw [hV0]; exact rw5)
  have c5 : W5.cell? ⟨w.heap.size, 0, none⟩ = some (.pointer (some ⟨p, 0, none⟩)) := RL5.out.cell rfl
  have c6 := (HKV.out W5 HB5.out).1
  have HW5 := Lib.hid hW5
  have HV0 := Lib.hid hV0
  rw [hV0]
  clear hW5 hV0 rw5 b45 hb4 hb34 c1 c2 RL B3 L3
  go_wp2_with (refine wpList_store_row rfl 131 _ _ rfl w4.heap.size V0 rfl rfl 131 _ M.out hsi hz hone ?_; rw [HW5.out])
  · rename_i h; exact absurd h (by have := HMC.out; omega)
  clear c5 c6 hsi hone hz M hconv
  go_loopw [27] (fun v wr => ∃ j : Nat, j ≤ q ∧ v = .int .i64 j ∧ RAt wr w.heap.size 76 #[.pointer (some ⟨p, 0, none⟩)] ∧ RAt wr w4.heap.size 131 (ar32 (wlkW T D (fun j i => K (4 * j + i)) t j) 4) ∧ Below w.heap.size w wr) (fun v _ => q - (intOf v).toNat)
  case atStart => exact ⟨0, by omega, rfl, RL5.out, RW5.out, HB5.out⟩
  case round =>
    obtain ⟨j, hj, rfl, g1, g2, hbel⟩ := hrel
    by_cases hlt : j < q
    · have hj1 : (j : Int) < (q : Int) := by omega
      have hj0 : (0 : Int) ≤ (j : Int) := by omega
      have HB := Lib.hid hbel
      have RK := HKY.out wr hbel (j + 1) (by omega)
      obtain ⟨LK, hLK⟩ : ∃ LK, cells32 (upTo (fun i => K (4 * (j + 1) + i)) 4) = LK := ⟨_, rfl⟩
      have hlk := fwo_len (fun i => K (4 * (j + 1) + i))
      have elk : LK.toArray = ar32 (fun i => K (4 * (j + 1) + i)) 4 := by rw [← hLK]; rfl
      rw [hLK] at RK hlk
      have HRK := Lib.hid RK
      have M := Lib.hid (RAt.new wr 132 #[.int .u32 0, .int .u32 0, .int .u32 0, .int .u32 0])
      obtain ⟨W6, hW6⟩ : ∃ W6, (wr.alloc (.cells #[.int .u32 0, .int .u32 0, .int .u32 0, .int .u32 0] 132)).setRow wr.heap.size LK.toArray = W6 := ⟨_, rfl⟩
      have r6 : RAt W6 wr.heap.size 132 (ar32 (fun i => K (4 * (j + 1) + i)) 4) := by rw [← hW6, elk]; exact M.out.row _
      have b6 : Below wr.heap.size wr W6 := hW6 ▸ below_setRow (al_up wr _) (Nat.le_refl _) _
      have hB6 := hbel.trans (b6.mono hbel.size)
      have HB6 := Lib.hid (hB6.drew)
      have hsi : (Tryz.prog.info? 132).map (·.size) = some LK.toArray.size := by rw [elk]; exact fourWords_info _
      have hone : LK.toArray.all (·.oneCell') = true := by rw [elk]; exact ar32_one _ 4
      have hz : (#[.int .u32 0, .int .u32 0, .int .u32 0, .int .u32 0] : Array Value).size = LK.toArray.size := by rw [elk, ar32_size]; rfl
      have RNG6 := rng_of r6
      rw [hLK] at RNG6
      have G1 : Hid (RAt W6.drew w.heap.size 76 #[.pointer (some ⟨p, 0, none⟩)]) := Lib.hid (g1.up b6.drew)
      have G2 : Hid (RAt W6.drew w4.heap.size 131 (ar32 (wlkW T D (fun j i => K (4 * j + i)) t j) 4)) := Lib.hid (g2.up b6.drew)
      have HW6 := Lib.hid hW6
      have LB : Hid (w4.heap.size < wr.heap.size) := Lib.hid g2.lt
      have hgap : Hid (w.heap.size < W6.heap.size ∧ wr.heap.size < W6.heap.size) := Lib.hid ⟨(g1.up b6).lt, r6.lt⟩
      have CRO : Hid (Calls Tryz.prog 224 #[.agg (ar32 (wlkW T D (fun j i => K (4 * j + i)) t j) 4), .agg (ar32 (fun i => K (4 * (j + 1) + i)) 4), .int .i64 (D : Int), .func (.func 225) #[.pointer (some ⟨p, 0, none⟩)] #[]] W6.drew fun e w' => e = .returned (.agg (ar32 (wlkW T D (fun j i => K (4 * j + i)) t (j + 1)) 4)) ∧ Below W6.drew.heap.size W6.drew w') := Lib.hid
        (roundOf_impl _ _ T D hD _ _ W6.drew EM (fun k hk x W7 hW7 => mixed_impl p k hk X T f _ _ HX.out x W7 (HP.out W7 (HB6.out.trans (hW7.mono HB6.out.size)))))
      have hS0 : W6.drew.cell? ⟨w.heap.size, 0, none⟩ = some (.pointer (some ⟨p, 0, none⟩)) ∧ W6.drew.cell? ⟨p, 1281, none⟩ = some (.int .i64 (D : Int)) ∧ W6.drew.rangeAt wr.heap.size 0 LK := ⟨G1.out.cell rfl, (HKV.out _ HB6.out).2, RNG6⟩
      have SUP : Hid (∀ W, Below W6.drew.heap.size W6.drew W → W.cell? ⟨w.heap.size, 0, none⟩ = some (.pointer (some ⟨p, 0, none⟩)) ∧ W.cell? ⟨p, 1281, none⟩ = some (.int .i64 (D : Int)) ∧ W.rangeAt wr.heap.size 0 LK) := Lib.hid fun W hW =>
        ⟨(hW.cell (p := ⟨w.heap.size, 0, none⟩) hgap.out.1).trans hS0.1, (HKV.out W (HB6.out.trans (hW.mono HB6.out.size))).2, rng_up hS0.2.2 hW hgap.out.2⟩
      obtain ⟨LV, hLV⟩ : ∃ LV, cells32 (upTo (wlkW T D (fun j i => K (4 * j + i)) t j) 4) = LV := ⟨_, rfl⟩
      have elv : ar32 (wlkW T D (fun j i => K (4 * j + i)) t j) 4 = LV.toArray := by rw [← hLV]; rfl
      have hlv := arr4_len (wlkW T D (fun j i => K (4 * j + i)) t j)
      have RV : Hid (W6.drew.rangeAt w4.heap.size 0 LV) := Lib.hid (by have := rng_of G2.out; rwa [hLV] at this)
      rw [hLV] at hlv
      rw [elv, ← elk] at CRO
      have hsn := four_info (wlkW T D (fun j i => K (4 * j + i)) t (j + 1))
      have honen := ar32_one (wlkW T D (fun j i => K (4 * j + i)) t (j + 1)) 4
      have hzn : (ar32 (wlkW T D (fun j i => K (4 * j + i)) t j) 4).size = (ar32 (wlkW T D (fun j i => K (4 * j + i)) t (j + 1)) 4).size := by rw [ar32_size, ar32_size]
      obtain ⟨VO, hVO⟩ : ∃ VO, ar32 (wlkW T D (fun j i => K (4 * j + i)) t j) 4 = VO := ⟨_, rfl⟩
      obtain ⟨VN, hVN⟩ : ∃ VN, ar32 (wlkW T D (fun j i => K (4 * j + i)) t (j + 1)) 4 = VN := ⟨_, rfl⟩
      rw [hVO] at G2 hzn
      rw [hVN] at CRO hsn honen hzn
      have HVN := Lib.hid hVN
      have HLT := Lib.hid hlt
      clear g1 g2 hbel RK hLK elk r6 b6 hB6 RNG6 hW6 hLV elv hVO hVN RL5 RW5 HB5 EM EB
      go_wp2_with (first
        | (refine wpList_load_mid rfl 132 _ rfl g _ rfl LK _ (by first | exact HRK.out | (rw [show ∀ a : Nat, 4 + a * 4 = 4 * (a + 1) from fun a => by omega]; exact HRK.out) | (rw [show ∀ a : Nat, (1 + a) * 4 = 4 * (a + 1) from fun a => by omega]; exact HRK.out)) Tryz.underlying132 rfl hlk ?_)
        | (refine wpList_store_row rfl 132 _ _ rfl wr.heap.size LK.toArray rfl rfl 132 _ M.out hsi hz hone ?_; rw [HW6.out]))
      refine wp_region_held_drew (S := fun w' => w'.cell? ⟨w.heap.size, 0, none⟩ = some (.pointer (some ⟨p, 0, none⟩)) ∧ w'.cell? ⟨p, 1281, none⟩ = some (.int .i64 (D : Int)) ∧ w'.rangeAt wr.heap.size 0 LK) (by kernel_rfl) hS0 (fun hS => ?_)
      refine wpAnyH_take (i := 1) (v := .agg LK.toArray) rfl (by kernel_rfl) (by kernel_rfl) (by kernel_rfl) (fun _ _ _ h => h) (yieldsIf_load_mid (by kernel_rfl) 132 _ rfl wr.heap.size 0 rfl LK _ (fun w hw => hw.2.2) Tryz.underlying132 rfl hlk) hS ?_
      try simp only [lay]
      refine tk 2 (v := ?_) ?_ hS ?_
      rotate_left
      · intro w hSw
        obtain ⟨s0, s1, s2⟩ := hSw
        go_simp
        first | done | with_reducible rfl
      try simp only [lay]
      refine tk 3 (v := ?_) ?_ hS ?_
      rotate_left
      · intro w hSw
        obtain ⟨s0, s1, s2⟩ := hSw
        go_simp
        first | done | with_reducible rfl
      try simp only [lay]
      refine tk 4 (v := ?_) ?_ hS ?_
      rotate_left
      · intro w hSw
        obtain ⟨s0, s1, s2⟩ := hSw
        go_simp
        first | done | with_reducible rfl
      try simp only [lay]
      refine tk 5 (v := ?_) ?_ hS ?_
      rotate_left
      · intro w hSw
        obtain ⟨s0, s1, s2⟩ := hSw
        go_simp
        first | done | with_reducible rfl
      try simp only [lay]
      refine tk 6 (v := ?_) ?_ hS ?_
      rotate_left
      · intro w hSw
        obtain ⟨s0, s1, s2⟩ := hSw
        go_simp
        first | done | with_reducible rfl
      try simp only [lay]
      refine wpAnyH_ready (rs := [0, 7]) (by kernel_rfl) (by simp) ?_
      refine AllReadyH.cons rfl (fun K hK => ?_) (AllReadyH.cons rfl (fun K hK => ?_) (AllReadyH.nil))
      · refine Eq.mpr (if_pos (by rfl)) ?_
        refine wp_load_mid 131 _ rfl w4.heap.size 0 rfl LV _ RV.out Tryz.underlying131 rfl hlv ?_
        refine hK.out _ _ hS (fun _ => ?_)
        clear hK K
        try simp only [lay]
        refine wpAnyH_ready (rs := [7]) (by kernel_rfl) (by simp) ?_
        refine AllReadyH.cons rfl (fun K hK => ?_) (AllReadyH.nil)
        go_simp
        refine hK.out _ _ hS (fun _ => ?_)
        clear hK K
        try simp only [lay]
        refine wpAnyH_ready (rs := [8]) (by kernel_rfl) (by simp) ?_
        refine AllReadyH.cons rfl (fun K hK => ?_) (AllReadyH.nil)
        go_simp
        refine CRO.out.mono ?_; rintro e w7 ⟨rfl, hb7⟩
        have hS7 := SUP.out w7 hb7
        have K1 := Lib.hid (G1.out.up hb7)
        have K2 := Lib.hid (G2.out.up hb7)
        have KB := Lib.hid (HB6.out.trans (hb7.mono HB6.out.size))
        clear hb7
        refine hK.out _ _ hS7 (fun _ => ?_)
        clear hK K
        try simp only [lay]
        refine wpAnyH_ready (rs := [9]) (by kernel_rfl) (by simp) ?_
        refine AllReadyH.cons rfl (fun K hK => ?_) (AllReadyH.nil)
        refine Eq.mpr (if_pos (by rfl)) ?_
        have J1 : Hid (RAt (w7.setRow w4.heap.size VN) w.heap.size 76 #[.pointer (some ⟨p, 0, none⟩)]) := Lib.hid ((setRow_other w7 w4.heap.size w.heap.size VN (by have := LT.out; omega)).trans K1.out)
        have J2 : Hid (RAt (w7.setRow w4.heap.size VN) w4.heap.size 131 VN) := Lib.hid (K2.out.row VN)
        have JB := Lib.hid (below_setRow KB.out (Nat.le_of_lt LT.out) VN)
        refine wp_store_row 131 _ _ rfl w4.heap.size VN rfl rfl 131 VO K2.out hsn hzn honen ?_
        refine hK.out _ _ ⟨J1.out.cell rfl, (HKV.out _ JB.out).2, fun j v hv => (World.cell?_of_block (a := ⟨wr.heap.size, 0 + j, none⟩) (setRow_other w7 w4.heap.size wr.heap.size VN (by have := LB.out; omega))).trans (hS7.2.2 j v hv)⟩ (fun _ => ?_)
        clear hK K
        try simp only [lay]
        refine wpAnyH_done (by kernel_rfl) ?_ _
        clear hS hS7
        go_wp2
        go_roundw
        case rel => exact ⟨j + 1, HLT.out, by go_num, J1.out, by rw [HVN.out]; exact J2.out, JB.out⟩
        case measure => simp [intOf]; omega
      · go_simp
        refine hK.out _ _ hS (fun _ => ?_)
        clear hK K
        try simp only [lay]
        refine wpAnyH_ready (rs := [0]) (by kernel_rfl) (by simp) ?_
        refine AllReadyH.cons rfl (fun K hK => ?_) (AllReadyH.nil)
        refine Eq.mpr (if_pos (by rfl)) ?_
        refine wp_load_mid 131 _ rfl w4.heap.size 0 rfl LV _ RV.out Tryz.underlying131 rfl hlv ?_
        refine hK.out _ _ hS (fun _ => ?_)
        clear hK K
        try simp only [lay]
        refine wpAnyH_ready (rs := [8]) (by kernel_rfl) (by simp) ?_
        refine AllReadyH.cons rfl (fun K hK => ?_) (AllReadyH.nil)
        go_simp
        refine CRO.out.mono ?_; rintro e w7 ⟨rfl, hb7⟩
        have hS7 := SUP.out w7 hb7
        have K1 := Lib.hid (G1.out.up hb7)
        have K2 := Lib.hid (G2.out.up hb7)
        have KB := Lib.hid (HB6.out.trans (hb7.mono HB6.out.size))
        clear hb7
        refine hK.out _ _ hS7 (fun _ => ?_)
        clear hK K
        try simp only [lay]
        refine wpAnyH_ready (rs := [9]) (by kernel_rfl) (by simp) ?_
        refine AllReadyH.cons rfl (fun K hK => ?_) (AllReadyH.nil)
        refine Eq.mpr (if_pos (by rfl)) ?_
        have J1 : Hid (RAt (w7.setRow w4.heap.size VN) w.heap.size 76 #[.pointer (some ⟨p, 0, none⟩)]) := Lib.hid ((setRow_other w7 w4.heap.size w.heap.size VN (by have := LT.out; omega)).trans K1.out)
        have J2 : Hid (RAt (w7.setRow w4.heap.size VN) w4.heap.size 131 VN) := Lib.hid (K2.out.row VN)
        have JB := Lib.hid (below_setRow KB.out (Nat.le_of_lt LT.out) VN)
        refine wp_store_row 131 _ _ rfl w4.heap.size VN rfl rfl 131 VO K2.out hsn hzn honen ?_
        refine hK.out _ _ ⟨J1.out.cell rfl, (HKV.out _ JB.out).2, fun j v hv => (World.cell?_of_block (a := ⟨wr.heap.size, 0 + j, none⟩) (setRow_other w7 w4.heap.size wr.heap.size VN (by have := LB.out; omega))).trans (hS7.2.2 j v hv)⟩ (fun _ => ?_)
        clear hK K
        try simp only [lay]
        refine wpAnyH_done (by kernel_rfl) ?_ _
        clear hS hS7
        go_wp2
        go_roundw
        case rel => exact ⟨j + 1, HLT.out, by go_num, J1.out, by rw [HVN.out]; exact J2.out, JB.out⟩
        case measure => simp [intOf]; omega
    · obtain rfl : q = j := by omega
      have HB := Lib.hid hbel.drew
      have RK := HKY.out wr.drew hbel.drew (q + 1) (by omega)
      obtain ⟨LK, hLK⟩ : ∃ LK, cells32 (upTo (fun i => K (4 * (q + 1) + i)) 4) = LK := ⟨_, rfl⟩
      have hlk := fwo_len (fun i => K (4 * (q + 1) + i))
      have elk : LK.toArray = ar32 (fun i => K (4 * (q + 1) + i)) 4 := by rw [← hLK]; rfl
      rw [hLK] at RK hlk
      have G1 : Hid (RAt wr.drew w.heap.size 76 #[.pointer (some ⟨p, 0, none⟩)]) := Lib.hid (g1.up (Below.refl _ _).drew)
      have G2 : Hid (RAt wr.drew w4.heap.size 131 (ar32 (wlkW T D (fun j i => K (4 * j + i)) t q) 4)) := Lib.hid (g2.up (Below.refl _ _).drew)
      have hgap : Hid (w.heap.size < wr.heap.size) := Lib.hid g1.lt
      have CRO : Hid (Calls Tryz.prog 224 #[.agg (ar32 (wlkW T D (fun j i => K (4 * j + i)) t q) 4), .agg (ar32 (fun i => K (4 * (q + 1) + i)) 4), .int .i64 (D : Int), .func (.func 226) #[.pointer (some ⟨p, 0, none⟩)] #[]] wr.drew fun e w' => e = .returned (.agg (ar32 (rndW (boxT f) D (wlkW T D (fun j i => K (4 * j + i)) t q) (fun i => K (4 * (q + 1) + i))) 4)) ∧ Below wr.drew.heap.size wr.drew w') := Lib.hid
        (roundOf_impl _ _ (boxT f) D hD _ _ wr.drew EB (fun k hk x W7 hW7 => boxed_impl p k hk X _ f _ _ HX.out x W7 (HP.out W7 (HB.out.trans (hW7.mono HB.out.size)))))
      have hS0 : wr.drew.cell? ⟨w.heap.size, 0, none⟩ = some (.pointer (some ⟨p, 0, none⟩)) ∧ wr.drew.cell? ⟨p, 1281, none⟩ = some (.int .i64 (D : Int)) ∧ wr.drew.cell? ⟨p, 1280, none⟩ = some (.slice (some ⟨g, 0, none⟩) (q + 1 + 1) c) ∧ wr.drew.rangeAt g (4 * (q + 1)) LK := ⟨G1.out.cell rfl, (HKV.out _ HB.out).2, (HKV.out _ HB.out).1, RK⟩
      have SUP : Hid (∀ W, Below wr.drew.heap.size wr.drew W → W.cell? ⟨w.heap.size, 0, none⟩ = some (.pointer (some ⟨p, 0, none⟩)) ∧ W.cell? ⟨p, 1281, none⟩ = some (.int .i64 (D : Int)) ∧ W.cell? ⟨p, 1280, none⟩ = some (.slice (some ⟨g, 0, none⟩) (q + 1 + 1) c) ∧ W.rangeAt g (4 * (q + 1)) LK) := Lib.hid fun W hW =>
        have hh := HB.out.trans (hW.mono HB.out.size)
        ⟨(hW.cell (p := ⟨w.heap.size, 0, none⟩) hgap.out).trans hS0.1, (HKV.out W hh).2, (HKV.out W hh).1, hLK ▸ HKY.out W hh (q + 1) (by omega)⟩
      obtain ⟨LV, hLV⟩ : ∃ LV, cells32 (upTo (wlkW T D (fun j i => K (4 * j + i)) t q) 4) = LV := ⟨_, rfl⟩
      have elv : ar32 (wlkW T D (fun j i => K (4 * j + i)) t q) 4 = LV.toArray := by rw [← hLV]; rfl
      have hlv := arr4_len (wlkW T D (fun j i => K (4 * j + i)) t q)
      have RV : Hid (wr.drew.rangeAt w4.heap.size 0 LV) := Lib.hid (by have := rng_of G2.out; rwa [hLV] at this)
      rw [hLV] at hlv
      rw [elv, ← elk] at CRO
      generalize hFN : rndW (boxT f) D (wlkW T D (fun j i => K (4 * j + i)) t q) (fun i => K (4 * (q + 1) + i)) = FN at *
      have hsn := four_info FN
      have honen := ar32_one FN 4
      have hzn : (ar32 (wlkW T D (fun j i => K (4 * j + i)) t q) 4).size = (ar32 FN 4).size := by rw [ar32_size, ar32_size]
      obtain ⟨VO, hVO⟩ : ∃ VO, ar32 (wlkW T D (fun j i => K (4 * j + i)) t q) 4 = VO := ⟨_, rfl⟩
      obtain ⟨VN, hVN⟩ : ∃ VN, ar32 FN 4 = VN := ⟨_, rfl⟩
      rw [hVO] at G2 hzn
      rw [hVN] at CRO hsn honen hzn
      have HVN := Lib.hid hVN
      have HFN := Lib.hid hFN
      have HSO : Hid (∀ W : World, W.cell? ⟨p, 1281, none⟩ = W.cell? ⟨p, 1281, none⟩) := Lib.hid fun _ => rfl
      have hq4 : (0 : Int) ≤ (q : Int) + 1 := by omega
      have hq5 : (q : Int) + 1 < (q : Int) + 1 + 1 := by omega
      have hq6 : ((q : Int) + 1).toNat = q + 1 := by omega
      clear hFN HSO g1 g2 hbel RK elk hLV elv hVO hVN RL5 RW5 HB5 EM EB hlt
      have HLK := Lib.hid hLK
      clear hLK
      go_wp2_with fail
      refine wp_region_held_drew (S := fun w' => w'.cell? ⟨w.heap.size, 0, none⟩ = some (.pointer (some ⟨p, 0, none⟩)) ∧ w'.cell? ⟨p, 1281, none⟩ = some (.int .i64 (D : Int)) ∧ w'.cell? ⟨p, 1280, none⟩ = some (.slice (some ⟨g, 0, none⟩) (q + 1 + 1) c) ∧ w'.rangeAt g (4 * (q + 1)) LK) (by kernel_rfl) hS0 (fun hS => ?_)
      refine tk 1 (v := ?_) ?_ hS ?_
      rotate_left
      · intro w hSw
        obtain ⟨s0, s1, s2, s3⟩ := hSw
        go_simp
        first | done | with_reducible rfl
      try simp only [lay]
      refine tk 2 (v := ?_) ?_ hS ?_
      rotate_left
      · intro w hSw
        obtain ⟨s0, s1, s2, s3⟩ := hSw
        go_simp
        first | done | with_reducible rfl
      try simp only [lay]
      refine tk 3 (v := ?_) ?_ hS ?_
      rotate_left
      · intro w hSw
        obtain ⟨s0, s1, s2, s3⟩ := hSw
        go_simp
        first | done | with_reducible rfl
      try simp only [lay]
      refine tk 4 (v := ?_) ?_ hS ?_
      rotate_left
      · intro w hSw
        obtain ⟨s0, s1, s2, s3⟩ := hSw
        go_simp
        first | done | with_reducible rfl
      try simp only [lay]
      refine tk 5 (v := ?_) ?_ hS ?_
      rotate_left
      · intro w hSw
        obtain ⟨s0, s1, s2, s3⟩ := hSw
        go_simp
        first | done | with_reducible rfl
      try simp only [lay]
      refine tk 6 (v := ?_) ?_ hS ?_
      rotate_left
      · intro w hSw
        obtain ⟨s0, s1, s2, s3⟩ := hSw
        go_simp
        first | done | with_reducible rfl
      try simp only [lay]
      refine wpAnyH_take (i := 7) (v := .agg LK.toArray) rfl (by kernel_rfl) (by kernel_rfl) (by kernel_rfl) (fun _ _ _ h => h) (yieldsIf_load_mid (by kernel_rfl) 132 _ rfl g _ rfl LK _ (fun w hw => by first | exact hw.2.2.2 | (rw [show (q + 1) * 4 = 4 * (q + 1) from by omega]; exact hw.2.2.2)) Tryz.underlying132 rfl hlk) hS ?_
      try simp only [lay]
      refine tk 8 (v := ?_) ?_ hS ?_
      rotate_left
      · intro w hSw
        obtain ⟨s0, s1, s2, s3⟩ := hSw
        go_simp
        first | done | with_reducible rfl
      try simp only [lay]
      refine tk 9 (v := ?_) ?_ hS ?_
      rotate_left
      · intro w hSw
        obtain ⟨s0, s1, s2, s3⟩ := hSw
        go_simp
        first | done | with_reducible rfl
      try simp only [lay]
      refine tk 10 (v := ?_) ?_ hS ?_
      rotate_left
      · intro w hSw
        obtain ⟨s0, s1, s2, s3⟩ := hSw
        go_simp
        first | done | with_reducible rfl
      try simp only [lay]
      refine tk 11 (v := ?_) ?_ hS ?_
      rotate_left
      · intro w hSw
        obtain ⟨s0, s1, s2, s3⟩ := hSw
        go_simp
        first | done | with_reducible rfl
      try simp only [lay]
      refine tk 12 (v := ?_) ?_ hS ?_
      rotate_left
      · intro w hSw
        obtain ⟨s0, s1, s2, s3⟩ := hSw
        go_simp
        first | done | with_reducible rfl
      try simp only [lay]
      refine wpAnyH_ready (rs := [0, 13]) (by kernel_rfl) (by simp) ?_
      refine AllReadyH.cons rfl (fun K hK => ?_) (AllReadyH.cons rfl (fun K hK => ?_) (AllReadyH.nil))
      · refine Eq.mpr (if_pos (by rfl)) ?_
        refine wp_load_mid 131 _ rfl w4.heap.size 0 rfl LV _ RV.out Tryz.underlying131 rfl hlv ?_
        refine hK.out _ _ hS (fun _ => ?_)
        clear hK K
        try simp only [lay]
        refine wpAnyH_ready (rs := [13]) (by kernel_rfl) (by simp) ?_
        refine AllReadyH.cons rfl (fun K hK => ?_) (AllReadyH.nil)
        go_simp
        refine hK.out _ _ hS (fun _ => ?_)
        clear hK K
        try simp only [lay]
        refine wpAnyH_ready (rs := [14]) (by kernel_rfl) (by simp) ?_
        refine AllReadyH.cons rfl (fun K hK => ?_) (AllReadyH.nil)
        go_simp
        refine CRO.out.mono ?_; rintro e w7 ⟨rfl, hb7⟩
        have hS7 := SUP.out w7 hb7
        have K1 := Lib.hid (G1.out.up hb7)
        have K2 := Lib.hid (G2.out.up hb7)
        have KB := Lib.hid (HB.out.trans (hb7.mono HB.out.size))
        clear hb7
        refine hK.out _ _ hS7 (fun _ => ?_)
        clear hK K
        try simp only [lay]
        refine wpAnyH_ready (rs := [15]) (by kernel_rfl) (by simp) ?_
        refine AllReadyH.cons rfl (fun K hK => ?_) (AllReadyH.nil)
        refine Eq.mpr (if_pos (by rfl)) ?_
        have J1 : Hid (RAt (w7.setRow w4.heap.size VN) w.heap.size 76 #[.pointer (some ⟨p, 0, none⟩)]) := Lib.hid ((setRow_other w7 w4.heap.size w.heap.size VN (by have := LT.out; omega)).trans K1.out)
        have J2 : Hid (RAt (w7.setRow w4.heap.size VN) w4.heap.size 131 VN) := Lib.hid (K2.out.row VN)
        have JB := Lib.hid (below_setRow KB.out (Nat.le_of_lt LT.out) VN)
        have HR8 := HLK.out ▸ HKY.out _ JB.out (q + 1) (by omega)
        refine wp_store_row 131 _ _ rfl w4.heap.size VN rfl rfl 131 VO K2.out hsn hzn honen ?_
        refine hK.out _ _ ⟨J1.out.cell rfl, (HKV.out _ JB.out).2, (HKV.out _ JB.out).1, HR8⟩ (fun _ => ?_)
        clear hK K
        try simp only [lay]
        refine wpAnyH_done (by kernel_rfl) ?_ _
        have HBK : Hid (Calls Tryz.prog 89 #[.slice (some ⟨w4.heap.size, 0, none⟩) 4 4] (w7.setRow w4.heap.size VN) fun e w' => e = .returned (.string (ofW FN)) ∧ Below (w7.setRow w4.heap.size VN).heap.size (w7.setRow w4.heap.size VN) w') := Lib.hid (blockOf_impl FN w4.heap.size 0 4 _ J2.out.lt (slice4_wr (by rw [HVN.out]; exact J2.out)))
        clear hS hS7 HR8
        go_wp2_with fail
        refine HBK.out.mono ?_; rintro e w8 ⟨rfl, hb8⟩
        have HE := Lib.hid (JB.out.trans (hb8.mono JB.out.size))
        clear hb8
        go_wp2
        exact ⟨rfl, _, results_tmp rfl _ _ _, by rw [HFN.out]; rfl, HE.out⟩
      · go_simp
        refine hK.out _ _ hS (fun _ => ?_)
        clear hK K
        try simp only [lay]
        refine wpAnyH_ready (rs := [0]) (by kernel_rfl) (by simp) ?_
        refine AllReadyH.cons rfl (fun K hK => ?_) (AllReadyH.nil)
        refine Eq.mpr (if_pos (by rfl)) ?_
        refine wp_load_mid 131 _ rfl w4.heap.size 0 rfl LV _ RV.out Tryz.underlying131 rfl hlv ?_
        refine hK.out _ _ hS (fun _ => ?_)
        clear hK K
        try simp only [lay]
        refine wpAnyH_ready (rs := [14]) (by kernel_rfl) (by simp) ?_
        refine AllReadyH.cons rfl (fun K hK => ?_) (AllReadyH.nil)
        go_simp
        refine CRO.out.mono ?_; rintro e w7 ⟨rfl, hb7⟩
        have hS7 := SUP.out w7 hb7
        have K1 := Lib.hid (G1.out.up hb7)
        have K2 := Lib.hid (G2.out.up hb7)
        have KB := Lib.hid (HB.out.trans (hb7.mono HB.out.size))
        clear hb7
        refine hK.out _ _ hS7 (fun _ => ?_)
        clear hK K
        try simp only [lay]
        refine wpAnyH_ready (rs := [15]) (by kernel_rfl) (by simp) ?_
        refine AllReadyH.cons rfl (fun K hK => ?_) (AllReadyH.nil)
        refine Eq.mpr (if_pos (by rfl)) ?_
        have J1 : Hid (RAt (w7.setRow w4.heap.size VN) w.heap.size 76 #[.pointer (some ⟨p, 0, none⟩)]) := Lib.hid ((setRow_other w7 w4.heap.size w.heap.size VN (by have := LT.out; omega)).trans K1.out)
        have J2 : Hid (RAt (w7.setRow w4.heap.size VN) w4.heap.size 131 VN) := Lib.hid (K2.out.row VN)
        have JB := Lib.hid (below_setRow KB.out (Nat.le_of_lt LT.out) VN)
        have HR8 := HLK.out ▸ HKY.out _ JB.out (q + 1) (by omega)
        refine wp_store_row 131 _ _ rfl w4.heap.size VN rfl rfl 131 VO K2.out hsn hzn honen ?_
        refine hK.out _ _ ⟨J1.out.cell rfl, (HKV.out _ JB.out).2, (HKV.out _ JB.out).1, HR8⟩ (fun _ => ?_)
        clear hK K
        try simp only [lay]
        refine wpAnyH_done (by kernel_rfl) ?_ _
        have HBK : Hid (Calls Tryz.prog 89 #[.slice (some ⟨w4.heap.size, 0, none⟩) 4 4] (w7.setRow w4.heap.size VN) fun e w' => e = .returned (.string (ofW FN)) ∧ Below (w7.setRow w4.heap.size VN).heap.size (w7.setRow w4.heap.size VN) w') := Lib.hid (blockOf_impl FN w4.heap.size 0 4 _ J2.out.lt (slice4_wr (by rw [HVN.out]; exact J2.out)))
        clear hS hS7 HR8
        go_wp2_with fail
        refine HBK.out.mono ?_; rintro e w8 ⟨rfl, hb8⟩
        have HE := Lib.hid (JB.out.trans (hb8.mono JB.out.size))
        clear hb8
        go_wp2
        exact ⟨rfl, _, results_tmp rfl _ _ _, by rw [HFN.out]; rfl, HE.out⟩
end Go.Proofs.YtbfmbdohebdbaaaGreatDoor
