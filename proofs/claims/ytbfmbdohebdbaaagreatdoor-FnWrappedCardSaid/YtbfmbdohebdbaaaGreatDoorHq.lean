/-
  Contracts and facts that the laws of this seat use: HpK, HpL, HpN.
-/
import Derived.Test.YtbfmbdohebdbaaaGreatDoorHp
import Derived.Test.YtbfmbdohebdbaaaGreatDoorSt
set_option linter.unusedVariables false
set_option linter.unusedSimpArgs false
namespace Go.Proofs.YtbfmbdohebdbaaaGreatDoor
open Go Go.RowKit
attribute [local go_sem ↓] Go.wp_at_zero Go.wp_at_succ

theorem wbC_eq (s : Nat → UInt8) (k : Nat) : wbC (blk s) k = .int .i64 (k : Int) :: cells8 (upTo (fun i => s (16 * k + i)) 16) := rfl
/-- where the parts of a waiting block stand. -/
def wbPl (x : Nat) : Option (Nat × Nat) := (#[(0, 1), (1, 16)] : Array (Nat × Nat))[x]?
theorem put_two (Z : Array Value) (v : Value) (L : List Value) (hZ : Z.size = 17) (hL : L.length = 16) : putAt (putAt Z 0 #[v]) 1 L.toArray = (v :: L).toArray := by
  have s1 : (putAt Z 0 #[v]).size = 17 := by rw [putAt_size _ _ _ (by rw [hZ]; simp), hZ]
  apply Array.ext_getElem?
  intro i
  rw [putAt_get _ _ _ (by rw [s1, List.size_toArray]; omega), List.size_toArray, hL, putAt_get _ _ _ (by rw [hZ]; simp)]
  by_cases h0 : i < 1
  · have e : i = 0 := by omega
    subst e
    rfl
  · rw [if_neg h0]
    by_cases h1 : i < 1 + 16
    · rw [if_pos h1, List.getElem?_toArray, List.getElem?_toArray, ← List.getElem?_cons_succ (a := v), show i - 1 + 1 = i by omega]
    · rw [if_neg h1, if_neg (by omega), if_neg (by simp; omega), Array.getElem?_eq_none (by omega), Array.getElem?_eq_none (by rw [List.size_toArray, List.length_cons]; omega)]
set_option maxRecDepth 100000 in
theorem built_wb (v : Value) (L : List Value) (hv : v.cells = #[v]) (hL : L.length = 16) : Tryz.prog.built 149 [(0, v), (1, .agg L.toArray)] = some (v :: L).toArray := by
  obtain ⟨i0, hi, hz0, hz1, hz2⟩ := info_parts infoWB
  have e : Tryz.prog.built 149 [(0, v), (1, .agg L.toArray)] = Instr.fill wbPl zero17 [(0, v), (1, .agg L.toArray)] := by kernel_rfl
  rw [e]
  rw [fill_at wbPl _ 0 0 1 v #[v] _ rfl hv rfl (by show 0 + 1 ≤ 17; omega)]
  rw [fill_at wbPl _ 1 1 16 (.agg L.toArray) L.toArray _ rfl rfl (by rw [List.size_toArray]; exact hL) (by rw [putAt_size _ _ _ (by show 0 + 1 ≤ 17; omega)]; show 1 + 16 ≤ 17; omega)]
  rw [Instr.fill, put_two zero17 v L rfl hL]
set_option maxRecDepth 100000 in
set_option maxHeartbeats 6400000 in
theorem waitingBlocksOf_impl (t : ByteArray) (m : Nat) (hm : t.size / 16 = m) (ht : t.size ≤ 1048576) (w : World) :
    Calls Tryz.prog 61 #[.string t] w fun e w' => ∃ p g c, e = .returned (.pointer (some ⟨p, 0, none⟩)) ∧ WQ w' p g c m (blk (byteOf t)) (fun i => i) ∧ w.heap.size ≤ p ∧ w.heap.size ≤ g ∧ Below w.heap.size w w' := by
  obtain ⟨W1, hW1⟩ : ∃ W1, (w.alloc (.cells #[] 149)).alloc (.cells #[.slice (some ⟨w.heap.size, 0, none⟩) 0 0] 143) = W1 := ⟨_, rfl⟩
  have hp1 : RAt W1 (w.heap.size + 1) 143 #[.slice (some ⟨w.heap.size, 0, none⟩) 0 0] := by
    have h := RAt.new (w.alloc (.cells #[] 149)) 143 #[.slice (some ⟨w.heap.size, 0, none⟩) 0 0]
    rw [World.size_alloc] at h
    rw [← hW1]; exact h
  have ho1 : W1.ownsRow w.heap.size 149 17 (.slice (some ⟨w.heap.size, 0, none⟩) 0 0) 0 [] := by
    rw [← hW1]
    exact (World.ownsRow_lit w #[] 0 (Nat.le_refl _) (by simp [maxLen]) rfl).alloc _
  have hb1 : Below w.heap.size w W1 := by rw [← hW1]; exact ((Below.refl _ w).alloc (Nat.le_refl _) _).alloc (by simp) _
  have hs1 : W1.heap.size = w.heap.size + 2 := by rw [← hW1]; simp
  have CS := Lib.hid (statesOf_impl t m hm (by omega) W1)
  have HPU := fun p g c k B hk hpg W hp hB hv => Lib.hid (heapPush_impl (blk (byteOf t)) (fun v => blk_size _ v) p g c k B hk hpg W hp hB hv)
  have HL := fun f => Lib.hid (st_len f)
  have HSZ := fun f => Lib.hid (sts_size f)
  have HP1 := Lib.hid hp1
  have HO1 := Lib.hid ho1
  have HB1 := Lib.hid hb1
  have HS1 := Lib.hid hs1
  have HW1 := Lib.hid hW1
  have hmI : (m : Int) ≤ 65536 := by omega
  have HM : Hid (m ≤ 65536) := Lib.hid (by omega)
  generalize byteOf t = s at *
  clear hp1 ho1 hb1 hs1 hW1 hm ht
  go_enter Tryz.func61, Tryz.ntmps61
  go_wp2_with fail
  rw [HW1.out]
  refine CS.out.mono ?_; rintro e w2 ⟨rfl, hr, hb2⟩
  have SB := Lib.hid (StBl.of_own hr)
  have HP2 := Lib.hid (HP1.out.up hb2)
  have HO2 := Lib.hid (own_below HO1.out hb2)
  have HB2 := Lib.hid (HB1.out.trans (hb2.mono HB1.out.size))
  obtain ⟨s0, hs0⟩ : ∃ s0, W1.heap.size = s0 := ⟨_, rfl⟩
  have HS2 : Hid (s0 = w.heap.size + 2) := Lib.hid (by rw [← hs0]; exact HS1.out)
  rw [hs0] at SB ⊢
  clear hr hb2 HP1 HO1 HB1 HW1 CS hs0
  go_wp2
  go_loopw [11] (fun v wr => ∃ k g c : Nat, k ≤ m ∧ v = .int .i64 k ∧ RAt wr (w.heap.size + 1) 143 #[.slice (some ⟨g, 0, none⟩) k c] ∧ wr.ownsRow w.heap.size 149 17 (.slice (some ⟨g, 0, none⟩) k c) k (hpL (blk s) k) ∧ w.heap.size + 1 ≠ g ∧ s0 ≠ g ∧ StBl wr s0 m s ∧ Below w.heap.size w wr) (fun v _ => m - (intOf v).toNat)
  case atStart => exact ⟨0, w.heap.size, 0, by omega, rfl, HP2.out, HO2.out, by omega, by have := HS2.out; omega, SB.out, HB2.out⟩
  case round =>
    obtain ⟨k, g, c, hk, rfl, h1, h2, h3, h4, h5, hbel⟩ := hrel
    by_cases hlt : k < m
    · have hk1 : (k : Int) < (m : Int) := by omega
      have hk0 : (0 : Int) ≤ (k : Int) := by omega
      have q2 : IntKind.i64.wrap ((k : Int) + 1) = (k : Int) + 1 := IntWalk.i64_in _ (by omega)
      have RK := Lib.hid (h5.2 k hlt)
      have hlk := (HL (fun i => s (16 * k + i))).out
      have hsk := (HSZ (fun i => s (16 * k + i))).out
      have hone := sts_one (upTo (fun i => s (16 * k + i)) 16)
      have hwb := wbC_eq s k
      obtain ⟨LK, hLK⟩ : ∃ LK, cells8 (upTo (fun i => s (16 * k + i)) 16) = LK := ⟨_, rfl⟩
      have hl1 : Hid (LK.length = 16) := Lib.hid (by rw [← hLK, cells8_length, upTo_length])
      rw [hLK] at RK hlk hsk hone hwb
      have hbd := built_wb (.int .i64 (k : Int)) LK rfl hl1.out
      rw [← hwb] at hbd
      obtain ⟨WB, hWB⟩ : ∃ WB, (wbC (blk s) k).toArray = WB := ⟨_, rfl⟩
      rw [hWB] at hbd
      have HBD := Lib.hid hbd
      have M := Lib.hid (RAt.new wr 146 zero16)
      have hz : zero16.size = LK.toArray.size := (show zero16.size = 16 from rfl).trans (by rw [List.size_toArray, hl1.out])
      obtain ⟨W6, hW6⟩ : ∃ W6, (wr.alloc (.cells zero16 146)).setRow wr.heap.size LK.toArray = W6 := ⟨_, rfl⟩
      have r6 : Hid (RAt W6 wr.heap.size 146 LK.toArray) := Lib.hid (by rw [← hW6]; exact M.out.row _)
      have b6 : Below wr.heap.size wr W6 := hW6 ▸ below_setRow ((Below.refl _ _).alloc (Nat.le_refl _) _) (Nat.le_refl _) _
      have CP := Lib.hid ((HPU (w.heap.size + 1) g c k w.heap.size (by have := HM.out; omega) h3 W6 (h1.up b6) (Nat.le_trans hbel.size b6.size) (own_below h2 b6)).out)
      rw [hWB] at CP
      have HB6 := Lib.hid (hbel.trans (b6.mono hbel.size))
      have H5 := Lib.hid (h5.up b6)
      have HX : Hid (w.heap.size ≤ g ∧ s0 < wr.heap.size ∧ s0 ≠ g ∧ wr.heap.size ≤ W6.heap.size) := Lib.hid ⟨(h2.lt g rfl).1, h5.1, h4, b6.size⟩
      have HW6 := Lib.hid hW6
      unfold zero16 at M HW6 hz
      clear h1 h2 h3 h4 h5 hbel hLK hW6 b6 HL HSZ HPU hwb SB HP2 HO2 HB2 hbd hWB
      go_wp2_with (first
        | (refine wpList_load_mid rfl 146 _ rfl s0 _ rfl LK _ (by first | exact RK.out | (rw [Nat.mul_comm]; exact RK.out)) Tryz.underlying146 rfl hlk ?_)
        | (refine wpList_store_row rfl 146 _ _ rfl wr.heap.size LK.toArray rfl rfl 146 _ M.out hsk hz hone ?_; rw [HW6.out])
        | (refine wpList_load_row rfl 146 _ rfl wr.heap.size rfl 146 LK.toArray (0, 0) _ r6.out Tryz.underlying146 rfl hsk ?_)
        | (refine wpList_buildTo rfl 149 _ rfl (some 20) rfl WB (Eq.trans (congrArg (Tryz.prog.built 149) (by kernel_rfl : _ = [(0, Value.int .i64 (k : Int)), (1, Value.agg LK.toArray)])) HBD.out) ?_))
      refine CP.out.mono ?_; rintro e w7 ⟨rfl, g', c', h1, h2, h3, h4, h5⟩
      have hne : s0 ≠ g' := by
        rcases h3 with h | h
        · rw [h]; exact HX.out.2.2.1
        · have := HX.out; omega
      have HF : Hid (RAt w7 (w.heap.size + 1) 143 #[.slice (some ⟨g', 0, none⟩) (k + 1) c'] ∧ w7.ownsRow w.heap.size 149 17 (.slice (some ⟨g', 0, none⟩) (k + 1) c') (k + 1) (hpL (blk s) (k + 1)) ∧ w.heap.size + 1 ≠ g' ∧ s0 ≠ g' ∧ StBl w7 s0 m s ∧ Below w.heap.size w w7) := Lib.hid
        ⟨h1, h2, h4, hne, ⟨by have := H5.out.1; have := h5.size; omega, fun j hj q v hv => (World.cell?_of_block (a := ⟨s0, 16 * j + q, none⟩) (h5.block s0 H5.out.1 (by have := HS2.out; omega) (by have := HX.out; exact this.2.2.1))).trans (H5.out.2 j hj q v hv)⟩, HB6.out.trans (h5.below (by omega) HX.out.1 HB6.out.size)⟩
      clear h1 h2 h3 h4 h5 hne CP HB6 H5 HX M r6 RK HBD
      go_wp2
      go_roundw
      case rel => exact ⟨k + 1, g', c', by omega, by go_num, HF.out⟩
      case measure => simp [intOf]; omega
    · obtain rfl : k = m := by omega
      obtain ⟨cur, hr, hmc, hcm, hcs, htk, hB⟩ := own_capH h2
      have HF : Hid (WQ wr (w.heap.size + 1) g c k (blk s) (fun i => i)) := Lib.hid ⟨h1, ⟨cur, hr, by omega, fun i hi q hq => by
        have e1 : (cur.toList.take (k * 17))[17 * i + q]? = cur[17 * i + q]? := by rw [List.getElem?_take_of_lt (by omega)]; simp
        rw [← e1, htk]
        exact hpL_at (blk s) (fun v => blk_size _ v) i q hq k hi⟩, hmc, hcm, h3⟩
      have HB := Lib.hid hbel
      have HG := Lib.hid hB
      clear h1 h2 h3 h4 h5 hbel hr htk hcs HL HSZ HPU SB HP2 HO2 HB2
      go_wp2
      go_ret
      exact ⟨w.heap.size + 1, g, c, rfl, HF.out, by omega, HG.out, HB.out⟩
end Go.Proofs.YtbfmbdohebdbaaaGreatDoor
set_option linter.unusedVariables false
set_option linter.unusedSimpArgs false
namespace Go.Proofs.YtbfmbdohebdbaaaGreatDoor
open Go Go.RowKit
attribute [local go_sem ↓] Go.wp_at_zero Go.wp_at_succ

theorem setCell_sz (w : World) (a : Addr) (v : Value) : (w.setCell a v).heap.size = w.heap.size := by simp [World.setCell]
set_option maxRecDepth 100000 in
set_option maxHeartbeats 3200000 in
theorem wPop_impl (b : Nat → ByteArray) (hb : ∀ v, (b v).size = 16) (f : Nat → Nat) (p g c m M : Nat) (hM : m + 1 = M) (hm : m ≤ 65535) (w : World) (hw : WQ w p g c M b f) :
    Calls Tryz.prog 242 #[.pointer (some ⟨p, 0, none⟩)] w fun e w' => e = .returned (.iface 149 (.agg (wbC b (f m)).toArray)) ∧ WQ w' p g c m b f ∧ Off p g w w' := by
  obtain ⟨hp, ⟨cur, hr, hcs, his⟩, hmc, hcm, hne⟩ := hw
  have RK := Lib.hid (his.range hr hb (i := m) (by omega))
  have hlk := wb_len b hb (f m)
  have hsk := wb_size b hb (f m)
  have hone : (wbC b (f m)).toArray.all (·.oneCell') = true := all_oneCell_toArray (wbC_one b (f m))
  have hl1 : Hid ((wbC b (f m)).length = 17) := Lib.hid (wbC_len b hb (f m))
  generalize wbC b (f m) = LK at *
  have M1 := Lib.hid (RAt.new w 149 zero17)
  have hz : zero17.size = LK.toArray.size := (show zero17.size = 17 from rfl).trans (by rw [List.size_toArray, hl1.out])
  obtain ⟨W6, hW6⟩ : ∃ W6, (w.alloc (.cells zero17 149)).setRow w.heap.size LK.toArray = W6 := ⟨_, rfl⟩
  have r6 : Hid (RAt W6 w.heap.size 149 LK.toArray) := Lib.hid (by rw [← hW6]; exact M1.out.row _)
  have b6 : Below w.heap.size w W6 := hW6 ▸ below_setRow ((Below.refl _ _).alloc (Nat.le_refl _) _) (Nat.le_refl _) _
  have p6 := hp.up b6
  have g6 := hr.up b6
  have c0 : w.cell? ⟨p, 0, none⟩ = some (.slice (some ⟨g, 0, none⟩) M c) := hp.cell rfl
  have c6 : W6.cell? ⟨p, 0, none⟩ = some (.slice (some ⟨g, 0, none⟩) M c) := p6.cell rfl
  have f6 : W6.frozen? ⟨p, 0, none⟩ = false := p6.fz 0
  have R7 : Hid (RAt (W6.setCell ⟨p, 0, none⟩ (.slice (some ⟨g, 0, none⟩) m c)) w.heap.size 149 LK.toArray) := Lib.hid (r6.out.far 0 _ (by have := hp.lt; omega))
  have HF : Hid (WQ (W6.setCell ⟨p, 0, none⟩ (.slice (some ⟨g, 0, none⟩) m c)) p g c m b f ∧ Off p g w (W6.setCell ⟨p, 0, none⟩ (.slice (some ⟨g, 0, none⟩) m c))) := Lib.hid
    ⟨⟨p6.set _, ⟨cur, g6.far 0 _ (fun e => hne e.symm), hcs, his.fewer (by omega)⟩, by omega, hcm, hne⟩, (Off.of_below b6).setCell 0 _⟩
  have HW6 := Lib.hid hW6
  have q1 : IntKind.i64.wrap ((M : Int) - 1) = (m : Int) := by rw [show (M : Int) - 1 = (m : Int) by omega]; exact IntWalk.i64_in _ (by omega)
  have hmI : (m : Int) < (M : Int) := by omega
  have hm0 : (0 : Int) ≤ (m : Int) := by omega
  have hmc2 : (m : Int) ≤ (c : Int) := by omega
  unfold zero17 at M1 HW6 hz
  clear hp hr hcs his hmc hcm hne hW6 b6 p6 g6 hM hm
  go_enter Tryz.func242, Tryz.ntmps242
  go_wp2_with (first
    | (refine wpList_load_mid rfl 149 _ rfl g _ rfl LK _ (by first | exact RK.out | (rw [Nat.mul_comm]; exact RK.out)) Tryz.underlying149 rfl hlk ?_)
    | (refine wpList_store_row rfl 149 _ _ rfl w.heap.size LK.toArray rfl rfl 149 _ M1.out hsk hz hone ?_; rw [HW6.out])
    | (refine wpList_load_row rfl 149 _ rfl w.heap.size rfl 149 LK.toArray (0, 0) _ R7.out Tryz.underlying149 rfl hsk ?_))
  go_ret
  exact ⟨rfl, HF.out⟩
theorem less_wq (b : Nat → ByteArray) (f : Nat → Nat) (p g c m i j : Nat) (hi : i < m) (hj : j < m) (w : World) (hw : WQ w p g c m b f) :
    Calls Tryz.prog 241 #[.slice (some ⟨g, 0, none⟩) m c, .int .i64 (i : Int), .int .i64 (j : Int)] w fun e w' => e = .returned (.bool (decide (f i < f j))) ∧ WQ w' p g c m b f ∧ Off p g w w' := by
  obtain ⟨cur, hr, hcs, his⟩ := hw.row
  have h := wLess_impl g m c i j (f i : Int) (f j : Int) hi hj hw.le w (hr.cell (his.place hi)) (hr.cell (his.place hj))
  refine h.mono ?_
  rintro e w' ⟨rfl, hb⟩
  refine ⟨?_, hw.up hb, Off.of_below hb⟩
  congr 2
  exact decide_eq_decide.2 (by omega)
set_option maxRecDepth 100000 in
set_option maxHeartbeats 6400000 in
theorem down_impl (b : Nat → ByteArray) (hb : ∀ v, (b v).size = 16) (f : Nat → Nat) (p g c m M k n : Nat) (hM : m + 1 = M) (hm : m ≤ 65535) (w : World) (hw : WQ w p g c M b f) (hbut : HeapBut f m 0) (hbag : Bag f m k n) :
    Calls Tryz.prog 140 #[.iface 88 (.pointer (some ⟨p, 0, none⟩)), .int .i64 0, .int .i64 (m : Int)] w fun e w' => ∃ r f', e = .returned r ∧ WQ w' p g c M b f' ∧ Heap f' m ∧ Bag f' m k n ∧ f' m = f m ∧ Off p g w w' := by
  have HW0 := Lib.hid hw
  have HH0 := Lib.hid hbut
  have HB0 := Lib.hid hbag
  have HM := Lib.hid (And.intro hM hm)
  have CSW := fun f' i j hi hj W hW => Lib.hid (wSwap_impl b hb f' p g c M i j hi hj (by omega) W hW)
  have CLS := fun f' i j hi hj W hW => Lib.hid (less_wq b f' p g c M i j hi hj W hW)
  have hmI : (m : Int) ≤ 65536 := by omega
  clear hw hbut hbag hM hm
  go_enter Tryz.func140, Tryz.ntmps140
  go_wp2
  go_loopw [7] (fun i wr => ∃ (q : Nat) (f' : Nat → Nat), q ≤ m ∧ i = .int .i64 (q : Int) ∧ WQ wr p g c M b f' ∧ HeapBut f' m q ∧ Bag f' m k n ∧ f' m = f m ∧ Off p g w wr) (fun i _ => m - (intOf i).toNat)
  case atStart => exact ⟨0, f, by omega, rfl, HW0.out, HH0.out, HB0.out, rfl, Off.refl _ _ _⟩
  case round =>
    obtain ⟨q, f', hq, rfl, hwq, hbt, hbg, hls, hof⟩ := hrel
    have HWQ := Lib.hid hwq
    have HBT := Lib.hid hbt
    have HBG := Lib.hid hbg
    have HLS := Lib.hid hls
    have HOF := Lib.hid hof
    obtain ⟨J1, hJ1⟩ : ∃ J1, 2 * q + 1 = J1 := ⟨_, rfl⟩
    obtain ⟨J2, hJ2⟩ : ∃ J2, J1 + 1 = J2 := ⟨_, rfl⟩
    have hq0 : (0 : Int) ≤ (q : Int) := by omega
    have hj0 : (0 : Int) ≤ (J1 : Int) := by omega
    have q1 : IntKind.i64.wrap (2 * (q : Int)) = 2 * (q : Int) := IntWalk.i64_in _ (by omega)
    have q2 : IntKind.i64.wrap (2 * (q : Int) + 1) = (J1 : Int) := by rw [show 2 * (q : Int) + 1 = (J1 : Int) by omega]; exact IntWalk.i64_in _ (by omega)
    have q3 : IntKind.i64.wrap ((J1 : Int) + 1) = (J2 : Int) := by rw [show (J1 : Int) + 1 = (J2 : Int) by omega]; exact IntWalk.i64_in _ (by omega)
    have HJ := Lib.hid (And.intro hJ1 hJ2)
    have HQM := Lib.hid hq
    clear hwq hbt hbg hls hof hJ1 hJ2 hq
    by_cases h1 : J1 < m
    · have h1a : (J1 : Int) < (m : Int) := by omega
      have h1b : ¬ (m : Int) ≤ (J1 : Int) := by omega
      have h1c : ¬ (J1 : Int) < 0 := by omega
      have ml := meth_Less p _ wr HWQ.out.cell
      by_cases h2 : J2 < m
      · have h2a : (J2 : Int) < (m : Int) := by omega
        have CL := CLS f' J2 J1 (by have := HM.out; omega) (by have := HM.out; omega) wr HWQ.out
        by_cases h3 : f' J2 < f' J1
        · rw [decide_eq_true h3] at CL
          go_wp2_with fail
          refine CL.out.mono ?_; rintro e w2 ⟨rfl, hw2, ho2⟩
          have HQ2 := Lib.hid hw2
          have HO2 := Lib.hid (HOF.out.trans ho2)
          have HCH : Hid (∀ d, d = 2 * q + 1 ∨ d = 2 * q + 2 → d < m → f' J2 ≤ f' d) := Lib.hid fun d hd hdm => by
            have := HJ.out
            rcases hd with h | h
            · rw [h, this.1]; omega
            · rw [h, show 2 * q + 2 = J2 by omega]; exact Nat.le_refl _
          have HIS : Hid (J2 = 2 * q + 1 ∨ J2 = 2 * q + 2) := Lib.hid (by have := HJ.out; omega)
          have hJM : Hid (J2 < m) := Lib.hid h2
          clear hw2 ho2 CL ml h1a h1b h1c h2a
          have mlt := meth_Less p _ w2 HQ2.out.cell
          have CLT := CLS f' J2 q (by have := HM.out; have := hJM.out; omega) (by have := HM.out; have := HQM.out; omega) w2 HQ2.out
          by_cases h4 : f' J2 < f' q
          · rw [decide_eq_true h4] at CLT
            go_wp2_with fail
            refine CLT.out.mono ?_; rintro e w3 ⟨rfl, hw3, ho3⟩
            have HQ3 := Lib.hid hw3
            have HO3 := Lib.hid (HO2.out.trans ho3)
            clear hw3 ho3 mlt CLT
            have mls := meth_Swap p _ w3 HQ3.out.cell
            have CS := CSW f' q J2 (by have := HM.out; have := HQM.out; omega) (by have := HM.out; have := hJM.out; omega) w3 HQ3.out
            go_wp2_with fail
            refine CS.out.mono ?_; rintro e w4 ⟨rfl, hw4, ho4⟩
            have HQ4 := Lib.hid hw4
            have HO4 := Lib.hid (HO3.out.trans ho4)
            have HST := Lib.hid (HBT.out.step HIS.out hJM.out HCH.out (Nat.le_of_lt h4))
            have HSB := Lib.hid (HBG.out.swap q J2 (by have := HIS.out; have := hJM.out; omega) hJM.out)
            have HSL : Hid (sw f' q J2 m = f m) := Lib.hid (by rw [sw_o f' q J2 m (by have := HIS.out; have := hJM.out; omega) (by have := hJM.out; omega)]; exact HLS.out)
            clear hw4 ho4 CS mls CSW CLS HW0 HH0 HB0
            go_wp2
            go_roundw
            case rel => exact ⟨J2, _, Nat.le_of_lt hJM.out, rfl, HQ4.out, HST.out, HSB.out, HSL.out, HO4.out⟩
            case measure => have := HIS.out; have := hJM.out; simp [intOf]; omega
          · rw [decide_eq_false h4] at CLT
            have HE : Hid (Heap f' m) := Lib.hid (HBT.out.stop fun d hd hdm => Nat.le_trans (by omega) (HCH.out d hd hdm))
            go_wp2_with fail
            refine CLT.out.mono ?_; rintro e w3 ⟨rfl, hw3, ho3⟩
            have HQ3 := Lib.hid hw3
            have HO3 := Lib.hid (HO2.out.trans ho3)
            clear hw3 ho3 mlt CLT CSW CLS HW0 HH0 HB0
            go_wp2
            go_ret
            exact ⟨_, f', rfl, HQ3.out, HE.out, HBG.out, HLS.out, HO3.out⟩
        · rw [decide_eq_false h3] at CL
          go_wp2_with fail
          refine CL.out.mono ?_; rintro e w2 ⟨rfl, hw2, ho2⟩
          have HQ2 := Lib.hid hw2
          have HO2 := Lib.hid (HOF.out.trans ho2)
          have HCH : Hid (∀ d, d = 2 * q + 1 ∨ d = 2 * q + 2 → d < m → f' J1 ≤ f' d) := Lib.hid fun d hd hdm => by
            have := HJ.out
            rcases hd with h | h
            · rw [h, this.1]; exact Nat.le_refl _
            · rw [h, show 2 * q + 2 = J2 by omega]; omega
          have HIS : Hid (J1 = 2 * q + 1 ∨ J1 = 2 * q + 2) := Lib.hid (by have := HJ.out; omega)
          have hJM : Hid (J1 < m) := Lib.hid h1
          clear hw2 ho2 CL ml h1a h1b h1c h2a
          have mlt := meth_Less p _ w2 HQ2.out.cell
          have CLT := CLS f' J1 q (by have := HM.out; have := hJM.out; omega) (by have := HM.out; have := HQM.out; omega) w2 HQ2.out
          by_cases h4 : f' J1 < f' q
          · rw [decide_eq_true h4] at CLT
            go_wp2_with fail
            refine CLT.out.mono ?_; rintro e w3 ⟨rfl, hw3, ho3⟩
            have HQ3 := Lib.hid hw3
            have HO3 := Lib.hid (HO2.out.trans ho3)
            clear hw3 ho3 mlt CLT
            have mls := meth_Swap p _ w3 HQ3.out.cell
            have CS := CSW f' q J1 (by have := HM.out; have := HQM.out; omega) (by have := HM.out; have := hJM.out; omega) w3 HQ3.out
            go_wp2_with fail
            refine CS.out.mono ?_; rintro e w4 ⟨rfl, hw4, ho4⟩
            have HQ4 := Lib.hid hw4
            have HO4 := Lib.hid (HO3.out.trans ho4)
            have HST := Lib.hid (HBT.out.step HIS.out hJM.out HCH.out (Nat.le_of_lt h4))
            have HSB := Lib.hid (HBG.out.swap q J1 (by have := HIS.out; have := hJM.out; omega) hJM.out)
            have HSL : Hid (sw f' q J1 m = f m) := Lib.hid (by rw [sw_o f' q J1 m (by have := HIS.out; have := hJM.out; omega) (by have := hJM.out; omega)]; exact HLS.out)
            clear hw4 ho4 CS mls CSW CLS HW0 HH0 HB0
            go_wp2
            go_roundw
            case rel => exact ⟨J1, _, Nat.le_of_lt hJM.out, rfl, HQ4.out, HST.out, HSB.out, HSL.out, HO4.out⟩
            case measure => have := HIS.out; have := hJM.out; simp [intOf]; omega
          · rw [decide_eq_false h4] at CLT
            have HE : Hid (Heap f' m) := Lib.hid (HBT.out.stop fun d hd hdm => Nat.le_trans (by omega) (HCH.out d hd hdm))
            go_wp2_with fail
            refine CLT.out.mono ?_; rintro e w3 ⟨rfl, hw3, ho3⟩
            have HQ3 := Lib.hid hw3
            have HO3 := Lib.hid (HO2.out.trans ho3)
            clear hw3 ho3 mlt CLT CSW CLS HW0 HH0 HB0
            go_wp2
            go_ret
            exact ⟨_, f', rfl, HQ3.out, HE.out, HBG.out, HLS.out, HO3.out⟩
      · have h2a : ¬ (J2 : Int) < (m : Int) := by omega
        have HCH : Hid (∀ d, d = 2 * q + 1 ∨ d = 2 * q + 2 → d < m → f' J1 ≤ f' d) := Lib.hid fun d hd hdm => by
          have := HJ.out
          rcases hd with h | h
          · rw [h, this.1]; exact Nat.le_refl _
          · omega
        have HIS : Hid (J1 = 2 * q + 1 ∨ J1 = 2 * q + 2) := Lib.hid (by have := HJ.out; omega)
        have hJM : Hid (J1 < m) := Lib.hid h1
        clear ml
        have mlt := meth_Less p _ wr HWQ.out.cell
        have CLT := CLS f' J1 q (by have := HM.out; have := hJM.out; omega) (by have := HM.out; have := HQM.out; omega) wr HWQ.out
        by_cases h4 : f' J1 < f' q
        · rw [decide_eq_true h4] at CLT
          go_wp2_with fail
          refine CLT.out.mono ?_; rintro e w3 ⟨rfl, hw3, ho3⟩
          have HQ3 := Lib.hid hw3
          have HO3 := Lib.hid (HOF.out.trans ho3)
          clear hw3 ho3 mlt CLT
          have mls := meth_Swap p _ w3 HQ3.out.cell
          have CS := CSW f' q J1 (by have := HM.out; have := HQM.out; omega) (by have := HM.out; have := hJM.out; omega) w3 HQ3.out
          go_wp2_with fail
          refine CS.out.mono ?_; rintro e w4 ⟨rfl, hw4, ho4⟩
          have HQ4 := Lib.hid hw4
          have HO4 := Lib.hid (HO3.out.trans ho4)
          have HST := Lib.hid (HBT.out.step HIS.out hJM.out HCH.out (Nat.le_of_lt h4))
          have HSB := Lib.hid (HBG.out.swap q J1 (by have := HIS.out; have := hJM.out; omega) hJM.out)
          have HSL : Hid (sw f' q J1 m = f m) := Lib.hid (by rw [sw_o f' q J1 m (by have := HIS.out; have := hJM.out; omega) (by have := hJM.out; omega)]; exact HLS.out)
          clear hw4 ho4 CS mls CSW CLS HW0 HH0 HB0
          go_wp2
          go_roundw
          case rel => exact ⟨J1, _, Nat.le_of_lt hJM.out, rfl, HQ4.out, HST.out, HSB.out, HSL.out, HO4.out⟩
          case measure => have := HIS.out; have := hJM.out; simp [intOf]; omega
        · rw [decide_eq_false h4] at CLT
          have HE : Hid (Heap f' m) := Lib.hid (HBT.out.stop fun d hd hdm => Nat.le_trans (by omega) (HCH.out d hd hdm))
          go_wp2_with fail
          refine CLT.out.mono ?_; rintro e w3 ⟨rfl, hw3, ho3⟩
          have HQ3 := Lib.hid hw3
          have HO3 := Lib.hid (HOF.out.trans ho3)
          clear hw3 ho3 mlt CLT CSW CLS HW0 HH0 HB0
          go_wp2
          go_ret
          exact ⟨_, f', rfl, HQ3.out, HE.out, HBG.out, HLS.out, HO3.out⟩
    · have h1a : ¬ (J1 : Int) < (m : Int) := by omega
      have h1b : (m : Int) ≤ (J1 : Int) := by omega
      have HE : Hid (Heap f' m) := Lib.hid (HBT.out.stop fun d hd hdm => by have := HJ.out; omega)
      clear CSW CLS HW0 HH0 HB0
      go_wp2
      go_ret
      exact ⟨⟨_, rfl⟩, f', HWQ.out, HE.out, HBG.out, HLS.out, HOF.out⟩
set_option maxRecDepth 100000 in
set_option maxHeartbeats 3200000 in
theorem heapPop_impl (b : Nat → ByteArray) (hb : ∀ v, (b v).size = 16) (f : Nat → Nat) (p g c m M k n : Nat) (hM : m + 1 = M) (hm : m ≤ 65535) (hk : k < n) (w : World) (hw : WQ w p g c M b f) (hh : Heap f M) (hbag : Bag f M k n) :
    Calls Tryz.prog 96 #[.iface 88 (.pointer (some ⟨p, 0, none⟩))] w fun e w' => e = .returned (.iface 149 (.agg (wbC b k).toArray)) ∧ ∃ f', WQ w' p g c m b f' ∧ Heap f' m ∧ Bag f' m (k + 1) n ∧ Off p g w w' := by
  have hcut := Bag.cut (f := f) (m := m) (by rw [hM]; exact hbag) (by rw [hM]; exact hh) hk
  have ml := meth_Len p _ w hw.cell
  have CL := Lib.hid (wLen_impl (some ⟨g, 0, none⟩) M c w)
  have ms := meth_Swap p _ w hw.cell
  have CS := Lib.hid (wSwap_impl b hb f p g c M 0 m (by omega) (by omega) (by omega) w hw)
  have CD := fun W hW => Lib.hid (down_impl b hb (sw f 0 m) p g c m M (k + 1) n hM hm W hW hcut.2.1 hcut.1)
  have CP := fun f' W hW => Lib.hid (wPop_impl b hb f' p g c m M hM hm W hW)
  have HC := Lib.hid hcut.2.2
  have q1 : IntKind.i64.wrap ((M : Int) - 1) = (m : Int) := by rw [show (M : Int) - 1 = (m : Int) by omega]; exact IntWalk.i64_in _ (by omega)
  have h00 : ((0 : Nat) : Int) = 0 := rfl
  rw [h00] at CS
  clear hcut hw hh hbag hM hm h00
  go_enter Tryz.func96, Tryz.ntmps96
  go_wp2_with fail
  refine CL.out.mono ?_; rintro e w1 ⟨rfl, rfl⟩
  clear CL
  go_wp2_with fail
  refine CS.out.mono ?_; rintro e w2 ⟨rfl, hw2, ho2⟩
  have HQ2 := Lib.hid hw2
  have HO2 := Lib.hid ho2
  clear hw2 ho2 CS ml ms
  go_wp2_with fail
  refine (CD _ HQ2.out).out.mono ?_; rintro e w3 ⟨r, f', rfl, hw3, hh3, hb3, hl3, ho3⟩
  have HQ3 := Lib.hid hw3
  have HO3 := Lib.hid (HO2.out.trans ho3)
  have HH3 := Lib.hid hh3
  have HB3 := Lib.hid hb3
  have HL3 := Lib.hid (hl3.trans HC.out)
  have CP3 := CP f' w3 hw3
  rw [HL3.out] at CP3
  clear hw3 ho3 hh3 hb3 hl3 CD CP
  have mp := meth_Pop p
  go_wp2_with fail
  refine CP3.out.mono ?_; rintro e w4 ⟨rfl, hw4, ho4⟩
  have HQ4 := Lib.hid hw4
  have HO4 := Lib.hid (HO3.out.trans ho4)
  clear hw4 ho4 CP3 mp
  go_wp2
  go_ret
  exact ⟨rfl, f', HQ4.out, HH3.out, HB3.out, HO4.out⟩
end Go.Proofs.YtbfmbdohebdbaaaGreatDoor
set_option linter.unusedVariables false
set_option linter.unusedSimpArgs false
namespace Go.Proofs.YtbfmbdohebdbaaaGreatDoor
open Go Go.RowKit
attribute [local go_sem ↓] Go.wp_at_zero Go.wp_at_succ

theorem own_shape {w : World} {B n s : Nat} {e : TypeId} {v : Value} {xs : List Value} (h : w.ownsRow B e s v n xs) : ∃ A c, v = .slice A n c := by
  rcases h.2 with ⟨rfl, h0⟩ | ⟨g, cap, cur, rfl, _⟩
  · exact ⟨none, 0, by rw [h0]⟩
  · exact ⟨_, cap, rfl⟩
theorem block_cells (s : Nat → UInt8) (k j : Nat) : cells8 (upTo (fun i => s (16 * k + i)) (16 * j)) ++ cells8 (upTo (fun i => s (16 * (k + j) + i)) 16) = cells8 (upTo (fun i => s (16 * k + i)) (16 * (j + 1))) := by
  rw [← cells8_16 (fun i => s (16 * k + i)) j]
  congr 2
  exact upTo_congr _ _ _ fun i _ => by rw [show 16 * (k + j) + i = 16 * k + (16 * j + i) by omega]
theorem WQ.far {w w' : World} {p g c m : Nat} {b : Nat → ByteArray} {f : Nat → Nat} (h : WQ w p g c m b f) (hp : w'.heap[p]? = w.heap[p]?) (hg : w'.heap[g]? = w.heap[g]?) : WQ w' p g c m b f :=
  ⟨hp.trans h.ptr, let ⟨cur, h1, h2⟩ := h.row; ⟨cur, hg.trans h1, h2⟩, h.le, h.cm, h.ne⟩
theorem Off.grow {p g : Nat} {a b c : World} {o : Obj} {row : Option Nat} (h : Off p g a b) (hg : (b.alloc o).grownBy c row) (hr : ∀ q, row = some q → a.heap.size ≤ q) : Off p g a c := by
  have hs := h.size
  have hsz : (b.alloc o).heap.size = b.heap.size + 1 := by simp
  refine ⟨hg.os.trans h.os, hg.tape.trans h.tape, hg.output.trans h.output, by have := hg.size; omega, fun k hk h1 h2 => ?_⟩
  have e1 := hg.block k (by omega) (fun e => by have := hr k e.symm; omega)
  rw [e1, heap_alloc_old (h := (by omega : k < b.heap.size))]
  exact h.block k hk h1 h2
theorem far_grow {b c : World} {o : Obj} {row : Option Nat} {B k : Nat} (hg : (b.alloc o).grownBy c row) (hr : ∀ q, row = some q → B ≤ q) (hk : k < B) (hB : B ≤ b.heap.size) : c.heap[k]? = b.heap[k]? := by
  have hsz : (b.alloc o).heap.size = b.heap.size + 1 := by simp
  rw [hg.block k (by omega) (fun e => by have := hr k e.symm; omega), heap_alloc_old (h := (by omega : k < b.heap.size))]
theorem tail_cells (v : Value) (L : List Value) (hL : L.length = 16) : (v :: L).toArray.extract 1 (1 + 16) = L.toArray := by
  apply Array.ext'
  rw [Array.toList_extract]
  simp [List.extract, hL, List.take_of_length_le]
set_option maxRecDepth 100000 in
theorem field_wb (v : Value) (L : List Value) (hL : L.length = 16) (w : World) : (Instr.field 149 (.agg (v :: L).toArray) 1).run Tryz.prog w = .ok (.agg L.toArray) w := by
  have e : (Instr.field 149 (.agg (v :: L).toArray) 1).run Tryz.prog w = .ok (.agg ((v :: L).toArray.extract 1 (1 + 16))) w := by kernel_rfl
  rw [e, tail_cells v L hL]
set_option maxRecDepth 100000 in
set_option maxHeartbeats 6400000 in
theorem next_impl (s : Nat → UInt8) (f : Nat → Nat) (p g c M k n most : Nat) (hM : M ≤ 65536) (hmost : most ≤ 1000) (hk : k + M = n) (w : World) (hw : WQ w p g c M (blk s) f) (hh : Heap f M) (hbag : Bag f M k n) (hpl : p < w.heap.size) (hgl : g < w.heap.size) :
    Calls Tryz.prog 63 #[.pointer (some ⟨p, 0, none⟩), .int .i64 (most : Int)] w fun e w' => ∃ v f' q R, e = .returned v ∧ q + R = M ∧ q ≤ most ∧ (0 < M → 0 < most → 0 < q) ∧ WQ w' p g c R (blk s) f' ∧ Heap f' R ∧ Bag f' R (k + q) n ∧ w'.ownsRow w.heap.size 146 16 v q (cells8 (upTo (fun i => s (16 * k + i)) (16 * q))) ∧ Off p g w w' := by
  obtain ⟨i0, hi, hz0, hz1, hz2⟩ := info_parts infoSt
  have HW0 := Lib.hid hw
  have HH0 := Lib.hid hh
  have HB0 := Lib.hid hbag
  have HN := Lib.hid (And.intro hM (And.intro hmost (And.intro hk (And.intro hpl hgl))))
  have hmI : (most : Int) ≤ 1000 := by omega
  clear hw hh hbag hM hmost hk hpl hgl
  go_enter Tryz.func63, Tryz.ntmps63
  go_wp2
  go_loopw [5] (fun v wr => ∃ (j R : Nat) (f' : Nat → Nat), j + R = M ∧ j ≤ most ∧ WQ wr p g c R (blk s) f' ∧ Heap f' R ∧ Bag f' R (k + j) n ∧ wr.ownsRow w.heap.size 146 16 v j (cells8 (upTo (fun i => s (16 * k + i)) (16 * j))) ∧ Off p g w wr) (fun v _ => match v with | .slice _ j _ => most - j | _ => 0)
  case atStart => exact ⟨0, M, f, by omega, by omega, HW0.out, HH0.out, HB0.out, World.ownsRow_nil _ _ _ _, Off.refl _ _ _⟩
  case round =>
    obtain ⟨j, R, f', hjR, hjm, hwq, hhp, hbg, hown, hof⟩ := hrel
    obtain ⟨A, cc, rfl⟩ := own_shape hown
    have hc := hwq.cell
    have HWQ := Lib.hid hwq
    have HH := Lib.hid hhp
    have HBG := Lib.hid hbg
    have HO := Lib.hid hown
    have HOF := Lib.hid hof
    have HJR := Lib.hid (And.intro hjR hjm)
    clear hwq hhp hbg hown hof hjR
    by_cases h1 : j < most
    · have h1a : (j : Int) < (most : Int) := by omega
      have CL := Lib.hid (wLen_impl (some ⟨g, 0, none⟩) R c wr)
      by_cases h2 : 0 < R
      · have h2a : (0 : Int) < (R : Int) := by omega
        obtain ⟨m, hm⟩ : ∃ m, m + 1 = R := ⟨R - 1, by omega⟩
        have CP := Lib.hid (heapPop_impl (blk s) (fun v => blk_size _ v) f' p g c m R (k + j) n hm (by have := HJR.out; have := HN.out; omega) (by have := HJR.out; have := HN.out; omega) wr HWQ.out HH.out HBG.out)
        rw [wbC_eq] at CP
        have hcells := block_cells s k j
        obtain ⟨LK, hLK⟩ : ∃ LK, cells8 (upTo (fun i => s (16 * (k + j) + i)) 16) = LK := ⟨_, rfl⟩
        have hl1 : LK.length = 16 := by rw [← hLK, cells8_length, upTo_length]
        have HN1 : Hid (∀ u ∈ LK, u.oneCell' = true) := Lib.hid (by rw [← hLK]; exact cells8_oneCell _)
        rw [hLK] at CP hcells
        have hfd := field_wb (.int .i64 ((k + j : Nat) : Int)) LK hl1
        have hta := wb_assert
        have HL1 := Lib.hid hl1
        obtain ⟨XA, hXA⟩ : ∃ XA, (Value.int .i64 ((k + j : Nat) : Int) :: LK).toArray = XA := ⟨_, rfl⟩
        obtain ⟨YA, hYA⟩ : ∃ YA, LK.toArray = YA := ⟨_, rfl⟩
        rw [hXA] at CP hfd
        rw [hYA] at hfd
        have HCE := Lib.hid hcells
        have HYA := Lib.hid hYA
        have hys : YA.size = 16 := by rw [← hYA, List.size_toArray]; exact hl1
        have HYS := Lib.hid hys
        clear hcells hLK hl1 hXA hYA hys
        go_wp2_with fail
        refine CL.out.mono ?_; rintro e w1 ⟨rfl, rfl⟩
        clear CL
        go_wp2_with fail
        refine CP.out.mono ?_; rintro e w2 ⟨rfl, f2, hw2, hh2, hb2, ho2⟩
        have HQ2 := Lib.hid hw2
        have HH2 := Lib.hid hh2
        have HB2 := Lib.hid hb2
        have HOF2 := Lib.hid (HOF.out.trans ho2)
        have HO2 := Lib.hid (own_off HO.out ho2 (fun e => by have := (HO.out.lt _ e).1; have := HN.out; omega) (fun e => by have := (HO.out.lt _ e).1; have := HN.out; omega))
        clear hw2 hh2 hb2 ho2 CP HO HWQ HH HBG hc
        go_wp2_with (first
          | (refine Go.wpList_buildSlice rfl 90 146 1 _ rfl YA i0 (.agg zero16) Tryz.underlying90 hi hz0 (by rw [hz1]; decide) (by rw [hz1]; decide) (by rw [hz1]; exact Eq.trans (congrArg (Instr.fill _ _) (by kernel_rfl : _ = [(0, Value.agg YA)])) (fill_whole 16 _ YA (by kernel_rfl) HYS.out)) ?_)
          | (at_builtin; refine stp ?_))
        refine unstp ?_
        refine wpList_append_lies (w2.alloc (.cells YA 146)) rfl (.tmp 17) (.tmp 23) 90 rfl w.heap.size 146 i0 (.agg zero16) 16 16 Tryz.underlying90 hi hz0 hz1 hz2 rfl (by decide) (.slice A j cc) j (cells8 (upTo (fun i => s (16 * k + i)) (16 * j))) rfl (HO2.out.alloc _) ⟨w2.heap.size, 0, none⟩ 1 1 LK rfl (by rw [HL1.out]) (by have h := World.news_of_block (cs := YA) (heap_alloc_new w2 (.cells YA 146)); exact fun jj u hu => h jj u (by rw [← HYA.out]; exact hu)) HN1.out (by omega) (by have := HJR.out; have := HN.out; unfold maxLen; omega) (by have := HJR.out; have := HN.out; omega) (by have := HOF2.out.size; simp; omega) (w2.heap.size + 1) (by simp) ?_
        intro g2 c2 w7 hown7 hgrow hat hlt7
        rw [HCE.out] at hown7
        have hrow : ∀ q, (Value.slice A j cc).ownBlock = some q → w.heap.size ≤ q := fun q e => (HO2.out.lt q e).1
        have HOF7 := Lib.hid (HOF2.out.grow hgrow hrow)
        have HQ7 := Lib.hid (HQ2.out.far (far_grow hgrow hrow HN.out.2.2.2.1 HOF2.out.size) (far_grow hgrow hrow HN.out.2.2.2.2 HOF2.out.size))
        have HO7 := Lib.hid hown7
        have HM2 := Lib.hid hm
        clear hown7 hgrow hat hlt7 hrow HO2 HQ2 HOF2 HOF
        go_wp2
        go_roundw
        case rel => exact ⟨j + 1, m, f2, by have := HM2.out; have := HJR.out; omega, by omega, HQ7.out, HH2.out, by rw [← Nat.add_assoc]; exact HB2.out, HO7.out, HOF7.out⟩
        case measure => simp; omega
      · have h2a : ¬ (0 : Int) < (R : Int) := by omega
        have hR : R = 0 := by omega
        subst hR
        go_wp2_with fail
        refine CL.out.mono ?_; rintro e w1 ⟨rfl, rfl⟩
        clear CL
        go_wp2
        go_ret
        exact ⟨_, f', j, 0, rfl, HJR.out.1, HJR.out.2, fun h _ => by have := HJR.out; omega, HWQ.out, HH.out, HBG.out, HO.out, HOF.out⟩
    · have h1a : ¬ (j : Int) < (most : Int) := by omega
      go_wp2
      go_ret
      exact ⟨_, rfl, f', j, R, HJR.out.1, HJR.out.2, fun _ _ => by omega, HWQ.out, HH.out, HBG.out, HO.out, HOF.out⟩
end Go.Proofs.YtbfmbdohebdbaaaGreatDoor
