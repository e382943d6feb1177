/-
  What impl's and spec's FromPlanes answer.
-/
import Derived.Test.YtbbjcgnoialidaaDoorTpI
import Derived.Test.YtbbjcgnoialidaaDoorPlK
import Derived.Test.YtbbjcgnoialidaaDoorBase
set_option linter.unusedVariables false
set_option linter.unusedSimpArgs false
namespace Go.Proofs.YtbbjcgnoialidaaDoor
open Go Go.RowKit

/-- bytes of a call's own, of which the first k are told by f, and byte k by x. -/
def bAr (f : Nat → UInt8) (n k : Nat) : Array Value := (cells8 (rowTo f (fun _ => 0) n k)).toArray
def bAt (f : Nat → UInt8) (n k x : Nat) : Array Value := (bAr f n k).setIfInBounds k (.int .u8 (x : Int))
theorem bAr_size (f : Nat → UInt8) (n k : Nat) : (bAr f n k).size = n := by simp [bAr, cells8_length, rowTo_length]
theorem bAt_k (f : Nat → UInt8) (n k x : Nat) (hk : k < n) : (bAt f n k x)[k]? = some (.int .u8 (x : Int)) := by
  unfold bAt; rw [Array.getElem?_setIfInBounds_self_of_lt (by rw [bAr_size]; exact hk)]
theorem bAt_set (f : Nat → UInt8) (n k x y : Nat) : (bAt f n k x).setIfInBounds k (.int .u8 (y : Int)) = bAt f n k y := by
  unfold bAt; rw [Array.setIfInBounds_setIfInBounds]
theorem bAt_0 (f : Nat → UInt8) (n k : Nat) (hk : k < n) : bAt f n k 0 = bAr f n k := by
  unfold bAt
  apply Array.ext_getElem?
  intro i
  rw [Array.getElem?_setIfInBounds]
  split
  · rename_i h; subst h
    rw [if_pos (by rw [bAr_size]; exact hk)]
    unfold bAr cells8
    rw [List.getElem?_toArray, List.getElem?_map, rowTo_hi f (fun _ => 0) n k k hk (Nat.le_refl _)]; rfl
  · rfl
theorem bAt_f (f : Nat → UInt8) (n k : Nat) : bAt f n k (f k).toNat = bAr f n (k + 1) := by
  unfold bAt bAr
  rw [List.setIfInBounds_toArray, ← rowTo_set]
  simp [cells8, cell8, List.map_set]
theorem bAr_made (f : Nat → UInt8) (n : Nat) : mk8 n = bAr f n 0 := by
  unfold bAr
  rw [rowTo_zero, upTo_const, ← mk8_list]
theorem RQ.setB {w : World} {g k n x y : Nat} {t : TypeId} {f : Nat → UInt8} (hr : RQ w g t (bAt f n k x)) {v : Value} (hv : v = .int .u8 (y : Int)) : RQ (w.setCell ⟨g, k, none⟩ v) g t (bAt f n k y) := by
  subst hv
  have h2 := hr.set (k := k) (.int .u8 (y : Int))
  rwa [bAt_set] at h2
theorem conv_b (w : World) (g n : Nat) (u : TypeId) (f : Nat → UInt8) (hg : RQ w g u (bAr f n n)) :
    (convert 22 9 (.slice (some ⟨g, 0, none⟩) n n)).run Tryd.prog w = .ok (.string (txt f n)) w := by
  have hB : Lib.Bytes w g 0 (txt f n) := fun i hi => by
    have hi' : i < n := by rw [txt_size] at hi; exact hi
    have hc : (bAr f n n)[i]? = some (.int .u8 ((f i).toNat : Int)) := by
      unfold bAr cells8
      rw [rowTo_all _ _ _ _ (Nat.le_refl _), List.getElem?_toArray, List.getElem?_map, upTo_at f n i hi']; rfl
    rw [Nat.zero_add, hg.cell hc, byteOf_at, txt_byte f n i hi']
  have := Lib.run_convert_whole (P := Tryd.prog) w 22 5 9 Tryd.underlying22 Tryd.underlying5 Tryd.underlying9 g 0 (txt f n) hB n
  rw [txt_size] at this
  exact this
set_option maxRecDepth 100000 in
set_option maxHeartbeats 3200000 in
theorem FromPlanes_impl (s : Nat → UInt8) (w : World) :
    Calls Tryd.prog 23 #[.agg (pc s)] w fun e w' => e = .returned (.string (txt s 64)) ∧ Below w.heap.size w w' := by
  obtain ⟨i0, hi, hz0, hz1, hz2⟩ := info_parts Tryd.info5
  have hmk : ∀ W : World, (Instr.makeSlice 22 (.int .i64 64) (.int .i64 64)).run Tryd.prog W = .ok (.slice (some ⟨W.heap.size, 0, none⟩) 64 64) (W.alloc (.cells (mk8 64) 5)) := fun W => run_make8 Tryd.underlying22 hi hz0 hz1 hz2 64 64 (by omega) (by omega) W
  have HQ := fun i k h => Lib.hid (q_bit s i k h)
  have HO := fun c k m hk hm => Lib.hid (b_or8 c k m hk hm)
  have HIX := fun k hk W => Lib.hid (index_pc s k hk W)
  have hst := planes_info s
  obtain ⟨W, hW⟩ : ∃ W, (w.alloc (.cells (pc s) 26)).alloc (.cells (mk8 64) 5) = W := ⟨_, rfl⟩
  obtain ⟨h1, h3, hb⟩ := newQ2 w _ _ _ _ hW
  rw [bAr_made s] at h3
  have HW := Lib.hid hW
  obtain ⟨A, hA⟩ : ∃ A, pc s = A := ⟨_, rfl⟩
  rw [hA] at HW h1 hst HIX ⊢
  clear hW hA hi hz0 hz1 hz2
  go_enter Tryd.func23, Tryd.ntmps23
  go_wp2
  rw [HW.out]
  clear hmk
  go_loopw [10] (fun v wr => ∃ i : Nat, i ≤ 64 ∧ v = .int .i64 i ∧ RQ wr w.heap.size 26 A ∧ RQ wr (w.heap.size + 1) 5 (bAr s 64 i) ∧ Below w.heap.size w wr) (fun v _ => 64 - (intOf v).toNat)
  case atStart => exact ⟨0, by omega, rfl, h1, h3, hb⟩
  case round =>
    obtain ⟨i, hi, rfl, g1, g3, hbel⟩ := hrel
    by_cases hlt : i < 64
    · have hi1 : (i : Int) < 64 := by omega
      have hi0 : (0 : Int) ≤ (i : Int) := by omega
      obtain ⟨c, hc⟩ : ∃ c, s i = c := ⟨_, rfl⟩
      have e0 : RQ wr (w.heap.size + 1) 5 (bAt s 64 i (fbW c 0)) := by
        have : fbW c 0 = 0 := rfl
        rw [this, bAt_0 s 64 i hlt]; exact g3
      have HC := Lib.hid hc
      have G1 := Lib.hid g1
      have HBE := Lib.hid hbel
      clear h1 h3 hb hc g1 g3 hbel
      go_wp2_with (refine wpList_load_row rfl 26 _ rfl w.heap.size rfl 26 A (0, 0) _ (by have h := G1.out; exact h) Tryd.underlying26 rfl hst ?_)
      obtain ⟨wk, rfl⟩ : ∃ x, x = wr := ⟨_, rfl⟩
      go_loopw [14] (fun v wr => ∃ k : Nat, k ≤ 8 ∧ v = .int .i64 k ∧ RQ wr w.heap.size 26 A ∧ RQ wr (w.heap.size + 1) 5 (bAt s 64 i (fbW c k)) ∧ Below w.heap.size w wr) (fun v _ => 8 - (intOf v).toNat)
      case atStart => exact ⟨0, by omega, rfl, G1.out, e0, HBE.out⟩
      case round =>
        obtain ⟨k, hk, rfl, i1, i3, ibel⟩ := hrel
        by_cases hkt : k < 8
        · have hk1 : (k : Int) < 8 := by omega
          have hk0 : (0 : Int) ≤ (k : Int) := by omega
          have hix := fun W => (HIX k hkt W).out
          obtain ⟨m, hm⟩ : ∃ m, (bt c k).toNat = m := ⟨_, rfl⟩
          have hq := (HQ i k hlt).out
          rw [HC.out, hm] at hq
          have hx := (HO c k m hkt hm).out
          have hm2 : (m : Int) < 2 := by rw [← hm]; cases bt c k <;> simp
          have hm0 : (0 : Int) ≤ (m : Int) := by omega
          have hc3 := i3.cell (bAt_k s 64 i (fbW c k) hlt)
          have hfz := i3.fz i
          have d1 : RQ wr.drew w.heap.size 26 A := i1
          have d3 : RQ wr.drew (w.heap.size + 1) 5 (bAt s 64 i (fbW c k)) := i3
          have N1 := fun v => Lib.hid (d1.far (b := w.heap.size + 1) i v (by omega))
          have N3 := fun v (hv : v = .int .u8 (fbW c (k + 1) : Int)) => Lib.hid (d3.setB (v := v) hv)
          have NB := fun v => Lib.hid (ibel.drew.setCell (p := ⟨w.heap.size + 1, i, none⟩) (by simp) v)
          clear i1 i3 ibel d1 d3 HQ HO HIX hm e0
          go_wp2
          go_still_tail 13, (by kernel_rfl)
          change wpList _ _ _ _ _ wr.drew
          go_wp2
          go_roundw
          case rel => exact ⟨k + 1, by omega, by go_num, (N1 _).out, (N3 _ (by first | rfl | rw [hx])).out, (NB _).out⟩
          case measure => simp [intOf]; omega
        · obtain rfl : k = 8 := by omega
          rw [fbW_8, ← HC.out, bAt_f] at i3
          clear e0
          go_wp2
          go_roundw
          case rel => exact ⟨i + 1, by omega, by go_num, i1, i3, ibel⟩
          case measure => simp [intOf]; omega
    · obtain rfl : i = 64 := by omega
      have hconv := conv_b wr (w.heap.size + 1) 64 _ s g3
      clear g1 g3 h1 h3 hb HQ HO HIX
      go_wp2
      go_ret
      exact ⟨rfl, hbel⟩
theorem val_q {k : IntKind} {a b : Int} (h : a = b) : Value.int k a = .int k b := by rw [h]
theorem up_relP {s : Nat → UInt8} {w w2 w1 : World} {i : Nat} {e : TypeId} {u v : Value} {o : Obj} {x : UInt8} (hx : s i = x)
    (hown2 : w2.ownsRow w.heap.size e 1 u i (cells8 (upTo s i))) (hbel2 : Below w.heap.size w w2)
    (hown3 : w1.ownsRow w.heap.size e 1 v (i + 1) (cells8 (upTo s i) ++ [.int .u8 (x.toNat : Int)]))
    (hgrow : (w2.alloc o).grownBy w1 u.ownBlock) :
    w1.ownsRow w.heap.size e 1 v (i + 1) (cells8 (upTo s (i + 1))) ∧ Below w.heap.size w w1 := by
  refine ⟨?_, ?_⟩
  · rw [upTo_succ, cells8_append, hx]
    exact hown3
  · have h1 : Below w.heap.size w (w2.alloc o) := hbel2.alloc hbel2.size _
    exact h1.grown hgrow h1.size (fun b hb => (hown2.lt b hb).1)
set_option maxRecDepth 100000 in
set_option maxHeartbeats 3200000 in
theorem FromPlanes_spec (s : Nat → UInt8) (w : World) :
    Calls Tryd.prog 32 #[.agg (pc s)] w fun e w' => e = .returned (.string (txt s 64)) ∧ Below w.heap.size w w' := by
  obtain ⟨i0, hi, hz0, hz1, hz2⟩ := info_parts Tryd.info5
  have HQ := fun i k h => Lib.hid (q_bit s i k h)
  have HO := fun c k m hk hm => Lib.hid (b_or64 c k m hk hm)
  obtain ⟨W, hW⟩ : ∃ W, w.alloc (.cells (pc s) 26) = W := ⟨_, rfl⟩
  have h1 : RQ W w.heap.size 26 (pc s) := hW ▸ RQ.new w _ _
  have hb : Below w.heap.size w W := hW ▸ alQ_up w _
  have hsz : W.heap.size = w.heap.size + 1 := by rw [← hW, alQ_sz]
  have HW := Lib.hid hW
  have H1 := Lib.hid h1
  have HB := Lib.hid hb
  have HSZ := Lib.hid hsz
  clear hW h1 hb hsz
  go_enter Tryd.func32, Tryd.ntmps32
  go_wp2
  rw [HW.out, ← HSZ.out]
  have HRQ : Hid (∀ W', Below W.heap.size W W' → RQ W' w.heap.size 26 (pc s)) := Lib.hid (fun W' h => H1.out.below h (by rw [HSZ.out]; omega))
  have HSZ2 : Hid (w.heap.size ≤ W.heap.size) := Lib.hid (by rw [HSZ.out]; omega)
  clear HW H1 HSZ
  go_loopw [3, 4] (fun v i wr => ∃ k : Nat, k ≤ 64 ∧ i = .int .i64 k ∧ wr.ownsRow W.heap.size 5 1 v k (cells8 (upTo s k)) ∧ Below W.heap.size W wr) (fun _ i _ => 64 - (intOf i).toNat)
  case atStart => exact ⟨0, by omega, rfl, World.ownsRow_lit W #[] 0 (Nat.le_refl _) (by simp [maxLen]) rfl, (Below.refl _ _).alloc (Nat.le_refl _) _⟩
  case round =>
    obtain ⟨k, hk, rfl, hown, hbel⟩ := hrel
    by_cases hlt : k < 64
    · have hk1 : (k : Int) < 64 := by omega
      have hk0 : (0 : Int) ≤ (k : Int) := by omega
      have hkm : min k 64 = k := by omega
      obtain ⟨c, hc⟩ : ∃ c, s k = c := ⟨_, rfl⟩
      have HC := Lib.hid hc
      have HCS : Hid (∀ j, j < 8 → wr.cell? ⟨w.heap.size, j, none⟩ = some (.int .u64 (plW s j : Int))) := Lib.hid (fun j hj => (HRQ.out wr hbel).cell (pc_at s j hj))
      have HOW := Lib.hid hown
      have HBE := Lib.hid hbel
      have hc256 : (c.toNat : Int) < 256 := by have := c.toNat_lt; omega
      have hc0 : (0 : Int) ≤ (c.toNat : Int) := by omega
      clear hc hown hbel
      go_wp2
      go_loop [5, 6] (fun b x => ∃ j : Nat, j ≤ 8 ∧ x = .int .i64 j ∧ b = .int .i64 (fbW c j : Int)) (fun _ x => 8 - (intOf x).toNat)
      case atStart => exact ⟨0, by omega, rfl, rfl⟩
      case round =>
        obtain ⟨j, hj, rfl, rfl⟩ := hrel
        by_cases hjt : j < 8
        · have hj1 : (j : Int) < 8 := by omega
          have hj0 : (0 : Int) ≤ (j : Int) := by omega
          obtain ⟨m, hm⟩ : ∃ m, (bt c j).toNat = m := ⟨_, rfl⟩
          have hq := (HQ k j hlt).out
          rw [HC.out, hm] at hq
          have hx := (HO c j m hjt hm).out
          have hm2 : (m : Int) < 2 := by rw [← hm]; cases bt c j <;> simp
          have hm0 : (0 : Int) ≤ (m : Int) := by omega
          have hcell := HCS.out j hjt
          clear HQ HO hm
          go_wp2
          go_round
          case rel => exact ⟨j + 1, by omega, by go_num, (by first | rfl | exact val_q hx)⟩
          case measure => simp [intOf]; omega
        · obtain rfl : j = 8 := by omega
          have h8 := fbW_8 c
          go_wp2_with (at_builtin; refine stp ?_)
          refine unstp ?_
          have hown := HOW.out
          have hbel := HBE.out
          refine wpList_append_lies _ rfl (.tmp 29) (.tmp 32) 22 rfl W.heap.size 5 i0 (.int .u8 0) 1 1 Tryd.underlying22 hi hz0 hz1 hz2 rfl (by decide) u3 k (cells8 (upTo s k)) rfl (hown.alloc _) ⟨wr.heap.size, 0, none⟩ 1 1 [.int .u8 (c.toNat : Int)] rfl rfl (World.news_of_block (cs := #[.int .u8 (c.toNat : Int)]) (heap_alloc_new wr _)) (by simp [Value.oneCell']) (by omega) (by unfold maxLen; omega) (by omega) (by have := hbel.size; simp; omega) (wr.heap.size + 1) (by simp) ?_
          intro g2 cap2 w5 hown5 hgrow hat hlt5
          have hrel := up_relP HC.out hown hbel hown5 hgrow
          clear hown hbel hown5 hgrow hat hlt5
          go_wp2
          go_roundw
          case rel => exact ⟨k + 1, by omega, by go_num, hrel.1, hrel.2⟩
          case measure => simp [intOf]; omega
    · obtain rfl : k = 64 := by omega
      have hconv := run_string_own Tryd.underlying22 Tryd.underlying5 Tryd.underlying9 hown
      have HBE := Lib.hid (HB.out.trans (hbel.mono HSZ2.out))
      clear hown hbel HQ HO
      go_wp2
      go_ret
      exact ⟨rfl, HBE.out⟩
end Go.Proofs.YtbbjcgnoialidaaDoor
