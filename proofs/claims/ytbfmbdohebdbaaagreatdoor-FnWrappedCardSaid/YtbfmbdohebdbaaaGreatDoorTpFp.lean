/-
  Contracts and facts that the laws of this seat use: TpM, TpI, FpI.
-/
import Derived.Test.YtbfmbdohebdbaaaGreatDoorArr64
import Derived.Test.YtbfmbdohebdbaaaGreatDoorBits
import Derived.Test.YtbfmbdohebdbaaaGreatDoorPure
import Derived.Test.YtbfmbdohebdbaaaGreatDoorCirc
import Derived.Test.YtbfmbdohebdbaaaGreatDoorShift
import Derived.Test.YtbfmbdohebdbaaaGreatDoorBase
set_option linter.unusedVariables false
set_option linter.unusedSimpArgs false
namespace Go.Proofs.YtbfmbdohebdbaaaGreatDoor
open Go Go.RowKit

theorem wOf_stop (f : Nat → Bool) (m n : Nat) (h : m ≤ n) (hf : ∀ j, m ≤ j → j < n → f j = false) : wOf f n = wOf f m := by
  induction n with
  | zero => rw [show m = 0 by omega]
  | succ n ih =>
    by_cases e : m = n + 1
    · rw [e]
    · rw [wOf, ih (by omega) (fun j h1 h2 => hf j h1 (by omega)), hf n (by omega) (by omega)]; simp
/-- plane k of the first n bytes of a text. -/
def ptW (s : ByteArray) (n k : Nat) : Nat := wOf (fun j => bt (byteOf s j) k) n
theorem ptW_lt (s : ByteArray) (n k : Nat) : ptW s n k < 2 ^ n := wOf_lt _ _
theorem ptW_up (s : ByteArray) (n k : Nat) : ptW s (n + 1) k = ptW s n k + (byteOf s n).toNat / 2 ^ k % 2 * 2 ^ n := by
  unfold ptW; rw [wOf, bt_div]
theorem byteOf_out (s : ByteArray) (j : Nat) (h : s.size ≤ j) : byteOf s j = 0 := by
  unfold byteOf
  rw [List.getD_eq_getElem?_getD, List.getElem?_eq_none (by simpa using h)]; rfl
theorem ptW_all (s : ByteArray) (m k : Nat) (hm : m ≤ 64) (h : m = 64 ∨ s.size ≤ m) : ptW s m k = plW (byteOf s) k := by
  unfold ptW plW
  rw [wOf_stop (fun i => bt (byteOf s i) k) m 64 hm (fun j h1 h2 => ?_)]
  rw [byteOf_out s j (by omega), bt_0]
theorem or_up (x b n : Nat) (h : x < 2 ^ n) : x ||| b * 2 ^ n = x + b * 2 ^ n := by
  rw [Nat.or_comm, nat_or_add b x n h, Nat.add_comm]
theorem up_lt (x b n N : Nat) (h : x < 2 ^ n) (hb : b < 2) (hn : n < N) : x + b * 2 ^ n < 2 ^ N ∧ b * 2 ^ n < 2 ^ N := by
  have h1 : 2 ^ (n + 1) ≤ 2 ^ N := Nat.pow_le_pow_right (by omega) (by omega)
  rw [Nat.pow_succ] at h1
  have h2 : b * 2 ^ n ≤ 1 * 2 ^ n := Nat.mul_le_mul_right _ (by omega)
  omega
theorem q_or (s : ByteArray) (n k : Nat) (hn : n < 64) (c : UInt8) (hc : byteOf s n = c) :
    bits .or .u64 (ptW s n k : Int) (IntKind.u64.wrap ((c.toNat : Int) / 2 ^ k % 2 * 2 ^ n)) = (ptW s (n + 1) k : Int) := by
  subst hc
  have hl := ptW_lt s n k
  obtain ⟨h1, h2⟩ := up_lt (ptW s n k) ((byteOf s n).toNat / 2 ^ k % 2) n 64 hl (Nat.mod_lt _ (by omega)) hn
  have h3 : ptW s n k < 2 ^ 64 := by omega
  have e : ((byteOf s n).toNat : Int) / 2 ^ k % 2 * 2 ^ n = (((byteOf s n).toNat / 2 ^ k % 2 * 2 ^ n : Nat) : Int) := by
    rw [Int.natCast_mul, Int.natCast_emod, Int.natCast_ediv, Int.natCast_pow, Int.natCast_pow]; rfl
  rw [e, ptW_up]
  generalize ptW s n k = x at *
  generalize (byteOf s n).toNat / 2 ^ k % 2 = b at *
  rw [wrapQ _ h2, u64_or_nat _ _ h3 h2, or_up _ _ _ hl]
/-- the first k bits of a byte. -/
def fbW (c : UInt8) (k : Nat) : Nat := wOf (fun j => bt c j) k
theorem fbW_lt (c : UInt8) (k : Nat) : fbW c k < 2 ^ k := wOf_lt _ _
theorem fbW_8 (c : UInt8) : fbW c 8 = c.toNat := by
  apply Nat.eq_of_testBit_eq
  intro i
  unfold fbW bt
  rw [wOf_bit]
  by_cases h : i < 8
  · simp [h]
  · have : c.toNat < 2 ^ i := Nat.lt_of_lt_of_le c.toNat_lt (Nat.pow_le_pow_right (n := 2) (by omega) (show 8 ≤ i by omega))
    rw [Nat.testBit_lt_two_pow this]; simp [h]
/-- bit k of the byte at place i, out of a plane. -/
theorem q_bit (s : Nat → UInt8) (i k : Nat) (hi : i < 64) : bits .and .u64 ((plW s k : Int) / 2 ^ i) 1 = ((bt (s i) k).toNat : Int) := by
  have hb := plW_bit s k i hi
  have hx := plW_lt' s k
  have e : (plW s k : Int) / 2 ^ i = ((plW s k / 2 ^ i : Nat) : Int) := by rw [Int.natCast_ediv, Int.natCast_pow]; rfl
  rw [e, show (1 : Int) = ((1 : Nat) : Int) by rfl, u64_and_nat _ _ (Nat.lt_of_le_of_lt (Nat.div_le_self _ _) hx) (by omega), Nat.and_one_is_mod]
  rw [← hb, Nat.testBit_eq_decide_div_mod_eq]
  have := Nat.mod_two_eq_zero_or_one (plW s k / 2 ^ i)
  rcases this with h | h <;> rw [h] <;> rfl
theorem b_or8 (c : UInt8) (k m : Nat) (hk : k < 8) (hm : (bt c k).toNat = m) : bits .or .u8 (fbW c k : Int) ((m : Int) * 2 ^ k % 256) = (fbW c (k + 1) : Int) := by
  subst hm
  have hl := fbW_lt c k
  have hb : (bt c k).toNat < 2 := by cases bt c k <;> simp
  obtain ⟨h1, h2⟩ := up_lt (fbW c k) _ k 8 hl hb hk
  have h3 : fbW c k < 2 ^ 8 := by omega
  have e : ((bt c k).toNat : Int) * 2 ^ k = (((bt c k).toNat * 2 ^ k : Nat) : Int) := by rw [Int.natCast_mul, Int.natCast_pow]; rfl
  have e2 : fbW c (k + 1) = fbW c k + (bt c k).toNat * 2 ^ k := rfl
  rw [e, e2]
  generalize fbW c k = x at *
  generalize (bt c k).toNat = b at *
  have e3 : ((b * 2 ^ k : Nat) : Int) % 256 = ((b * 2 ^ k : Nat) : Int) := by omega
  rw [e3, u8_or_nat _ _ h3 h2, or_up _ _ _ hl]
theorem b_or64 (c : UInt8) (k m : Nat) (hk : k < 8) (hm : (bt c k).toNat = m) : bits .or .i64 (fbW c k : Int) (wrap64 ((m : Int) * 2 ^ k)) = (fbW c (k + 1) : Int) := by
  subst hm
  have hl := fbW_lt c k
  have hb : (bt c k).toNat < 2 := by cases bt c k <;> simp
  obtain ⟨h1, h2⟩ := up_lt (fbW c k) _ k 8 hl hb hk
  have h3 : fbW c k < 2 ^ 8 := by omega
  have e : ((bt c k).toNat : Int) * 2 ^ k = (((bt c k).toNat * 2 ^ k : Nat) : Int) := by rw [Int.natCast_mul, Int.natCast_pow]; rfl
  have e2 : fbW c (k + 1) = fbW c k + (bt c k).toNat * 2 ^ k := rfl
  rw [e, e2]
  generalize fbW c k = x at *
  generalize (bt c k).toNat = b at *
  have e3 : wrap64 ((b * 2 ^ k : Nat) : Int) = ((b * 2 ^ k : Nat) : Int) := wrap64_id _ (by omega) (by omega)
  rw [e3, i64_or_nat _ _ (by omega) (by omega), or_up _ _ _ hl]
end Go.Proofs.YtbfmbdohebdbaaaGreatDoor
set_option linter.unusedVariables false
set_option linter.unusedSimpArgs false
namespace Go.Proofs.YtbfmbdohebdbaaaGreatDoor
open Go Go.RowKit

theorem idx_at (s : ByteArray) (j : Nat) (c : UInt8) (hc : byteOf s j = c) (hj : j < s.size) (w : World) : (Instr.index 9 (.string s) (.int .i64 (j : Int))).run Tryz.prog w = .ok (.int .u8 (c.toNat : Int)) w := by
  subst hc; exact idx_byte s j j rfl hj w
theorem ptW_zero (s : ByteArray) : arQ (ptW s 0) 8 = zeroQ := by
  have : ptW s 0 = fun _ => 0 := by funext k; rfl
  rw [this]; rfl
theorem min_len (n : Nat) : (Builtin.min_ #[3, 3] 3 #[.int .i64 (n : Int), .int .i64 64]).run Tryz.prog = fun w => .ok (.int .i64 ((min n 64 : Nat) : Int)) w := by
  funext w
  simp [Builtin.min_, Builtin.min2]
  split <;> omega
set_option maxRecDepth 100000 in
set_option maxHeartbeats 3200000 in
theorem ToPlanes_impl (s : ByteArray) (w : World) (hs : s.size ≤ 1073741824) :
    Calls Tryz.prog 125 #[.string s] w fun e w' => e = .returned (.agg (pc (byteOf s))) ∧ Below w.heap.size w w' := by
  have HX := fun n k hn c hc => Lib.hid (q_or s n k hn c hc)
  have HI := fun j c hc hj W => Lib.hid (idx_at s j c hc hj W)
  obtain ⟨m, hm⟩ : ∃ m, min s.size 64 = m := ⟨_, rfl⟩
  have hmn := min_len s.size
  rw [hm] at hmn
  have hm1 : m ≤ 64 := by omega
  have hm2 : m ≤ s.size := by omega
  have hmm : m = 64 ∨ s.size ≤ m := by omega
  clear hm
  obtain ⟨W, hW⟩ : ∃ W, (w.alloc (.cells zeroQ 135)).alloc (.cells zeroQ 135) = W := ⟨_, rfl⟩
  obtain ⟨h1, h3, hb⟩ := newQ2 w _ _ _ _ hW
  have h3 : RQ W (w.heap.size + 1) 135 (arQ (ptW s 0) 8) := by rw [ptW_zero]; exact h3
  have HW := Lib.hid hW
  clear hW
  unfold zeroQ at HW
  go_enter Tryz.func125, Tryz.ntmps125
  have hmw := fun w => congrFun hmn w
  clear hmn
  go_wp2
  rw [HW.out]
  go_loopw [9] (fun v wr => ∃ i : Nat, i ≤ m ∧ v = .int .i64 i ∧ RQ wr w.heap.size 135 zeroQ ∧ RQ wr (w.heap.size + 1) 135 (arQ (ptW s i) 8) ∧ Below w.heap.size w wr) (fun v _ => m - (intOf v).toNat)
  case atStart => exact ⟨0, by omega, rfl, h1, h3, hb⟩
  case round =>
    obtain ⟨i, hi, rfl, g1, g3, hbel⟩ := hrel
    by_cases hlt : i < m
    · have hi1 : (i : Int) < (m : Int) := by omega
      have hi0 : (0 : Int) ≤ (i : Int) := by omega
      have hi64 : i < 64 := by omega
      have hi6 : (i : Int) < 64 := by omega
      have his : (i : Int) < (s.size : Int) := by omega
      obtain ⟨c, hc⟩ : ∃ c, byteOf s i = c := ⟨_, rfl⟩
      have hix := fun W => (HI i c hc (by omega) W).out
      have hcl := c.toNat_lt
      have hcl2 : (c.toNat : Int) < 256 := by omega
      clear hcl
      clear h1 h3 hb
      rw [← arToQ_0 (ptW s (i + 1)) (ptW s i)] at g3
      go_wp2
      obtain ⟨wk, rfl⟩ : ∃ x, x = wr := ⟨_, rfl⟩
      go_loopw [12] (fun v wr => ∃ k : Nat, k ≤ 8 ∧ v = .int .i64 k ∧ RQ wr w.heap.size 135 zeroQ ∧ RQ wr (w.heap.size + 1) 135 (arToQ (ptW s (i + 1)) (ptW s i) 8 k) ∧ Below w.heap.size w wr) (fun v _ => 8 - (intOf v).toNat)
      case atStart => exact ⟨0, by omega, rfl, g1, g3, hbel⟩
      case round =>
        obtain ⟨k, hk, rfl, i1, i3, ibel⟩ := hrel
        by_cases hkt : k < 8
        · have hk1 : (k : Int) < 8 := by omega
          have hk0 : (0 : Int) ≤ (k : Int) := by omega
          have hx := (HX i k hi64 c hc).out
          have hbit := bit_of c k
          have hc3 := i3.cell (arToQ_hi (ptW s (i + 1)) (ptW s i) 8 k k hkt (Nat.le_refl _))
          have hfz := i3.fz k
          have d1 : RQ wr.drew w.heap.size 135 zeroQ := i1
          have d3 : RQ wr.drew (w.heap.size + 1) 135 (arToQ (ptW s (i + 1)) (ptW s i) 8 k) := i3
          have N1 := fun v => Lib.hid (d1.far (b := w.heap.size + 1) k v (by omega))
          have N3 := fun v hv => Lib.hid (d3.setQ (v := v) hv)
          have NB := fun v => Lib.hid (ibel.drew.setCell (p := ⟨w.heap.size + 1, k, none⟩) (by simp) v)
          clear i1 i3 ibel g1 g3 hbel d1 d3 HX HI hc
          generalize c.toNat = cn at *
          go_wp2
          go_still_tail 14, (by kernel_rfl)
          change wpList _ _ _ _ _ wr.drew
          go_wp2
          go_roundw
          case rel => exact ⟨k + 1, by omega, by go_num, (N1 _).out, (N3 _ (by first | rfl | rw [hx])).out, (NB _).out⟩
          case measure => simp [intOf]; omega
        · obtain rfl : k = 8 := by omega
          rw [arToQ_all] at i3
          clear g1 g3 hbel
          go_wp2
          go_roundw
          case rel => exact ⟨i + 1, by omega, by go_num, i1, i3, ibel⟩
          case measure => simp [intOf]; omega
    · obtain rfl : i = m := by omega
      have e8 : arQ (ptW s i) 8 = pc (byteOf s) := arQ_congr fun k _ => ptW_all s i k hm1 hmm
      rw [e8] at g3
      have hone := pc_one (byteOf s)
      have hsi := planes_info (byteOf s)
      have hz : zeroQ.size = (pc (byteOf s)).size := by rw [pc_size]; rfl
      have hsr := g1.row (pc (byteOf s))
      have hbs : Hid (Below w.heap.size w (wr.setRow (w.heap.size) (pc (byteOf s)))) := Lib.hid (below_setRow hbel (by omega) _)
      generalize hR : pc (byteOf s) = R at *
      generalize zeroQ = Z at *
      have HR := Lib.hid hR
      clear hR
      have G1 := Lib.hid g3
      have G3 := Lib.hid g1
      have HSR := Lib.hid hsr
      clear g1 g3 hsr hbel h1 h3 hb HX HI
      unfold RQ at G1 G3 HSR
      go_wp2_with (first
        | (refine wpList_load_row rfl 135 _ rfl (w.heap.size + 1) rfl 135 R (0, 0) _ G1.out Tryz.underlying135 rfl hsi ?_)
        | (refine wpList_store_row rfl 135 _ _ rfl (w.heap.size) R rfl rfl 135 Z G3.out hsi hz hone ?_))
      refine bodyPost_ret (v := .agg R) ?_ rfl ⟨by rw [HR.out], hbs.out⟩
      exact results_cell_row rfl _ _ (w.heap.size) 135 R (0, 0) _ rfl HSR.out Tryz.underlying135 rfl hsi
end Go.Proofs.YtbfmbdohebdbaaaGreatDoor
set_option linter.unusedVariables false
set_option linter.unusedSimpArgs false
namespace Go.Proofs.YtbfmbdohebdbaaaGreatDoor
open Go Go.RowKit

/-- bytes of a call's own, of which the first k are told by f, and byte k by x. -/
def bAr (f : Nat → UInt8) (n k : Nat) : Array Value := (cells8 (rowTo f (fun _ => 0) n k)).toArray
def bAt (f : Nat → UInt8) (n k x : Nat) : Array Value := (bAr f n k).setIfInBounds k (.int .u8 (x : Int))
theorem bAr_size (f : Nat → UInt8) (n k : Nat) : (bAr f n k).size = n := by simp [bAr, cells8_length, rowTo_length]
theorem bAt_k (f : Nat → UInt8) (n k x : Nat) (hk : k < n) : (bAt f n k x)[k]? = some (.int .u8 (x : Int)) := by
  unfold bAt; rw [Array.getElem?_setIfInBounds_self_of_lt (by rw [bAr_size]; exact hk)]
theorem bAt_set (f : Nat → UInt8) (n k x y : Nat) : (bAt f n k x).setIfInBounds k (.int .u8 (y : Int)) = bAt f n k y := by
  unfold bAt; rw [Array.setIfInBounds_setIfInBounds]
theorem bAt_0 (f : Nat → UInt8) (n k : Nat) (hk : k < n) : bAt f n k 0 = bAr f n k := by
  unfold bAt
  apply Array.ext_getElem?
  intro i
  rw [Array.getElem?_setIfInBounds]
  split
  · rename_i h; subst h
    rw [if_pos (by rw [bAr_size]; exact hk)]
    unfold bAr cells8
    rw [List.getElem?_toArray, List.getElem?_map, rowTo_hi f (fun _ => 0) n k k hk (Nat.le_refl _)]; rfl
  · rfl
theorem bAt_f (f : Nat → UInt8) (n k : Nat) : bAt f n k (f k).toNat = bAr f n (k + 1) := by
  unfold bAt bAr
  rw [List.setIfInBounds_toArray, ← rowTo_set]
  simp [cells8, cell8, List.map_set]
theorem bAr_made (f : Nat → UInt8) (n : Nat) : mk8 n = bAr f n 0 := by
  unfold bAr
  rw [rowTo_zero, upTo_const, ← mk8_list]
theorem RQ.setB {w : World} {g k n x y : Nat} {t : TypeId} {f : Nat → UInt8} (hr : RQ w g t (bAt f n k x)) {v : Value} (hv : v = .int .u8 (y : Int)) : RQ (w.setCell ⟨g, k, none⟩ v) g t (bAt f n k y) := by
  subst hv
  have h2 := hr.set (k := k) (.int .u8 (y : Int))
  rwa [bAt_set] at h2
theorem conv_b (w : World) (g n : Nat) (u : TypeId) (f : Nat → UInt8) (hg : RQ w g u (bAr f n n)) :
    (convert 22 9 (.slice (some ⟨g, 0, none⟩) n n)).run Tryz.prog w = .ok (.string (txt f n)) w := by
  have hB : Lib.Bytes w g 0 (txt f n) := fun i hi => by
    have hi' : i < n := by rw [txt_size] at hi; exact hi
    have hc : (bAr f n n)[i]? = some (.int .u8 ((f i).toNat : Int)) := by
      unfold bAr cells8
      rw [rowTo_all _ _ _ _ (Nat.le_refl _), List.getElem?_toArray, List.getElem?_map, upTo_at f n i hi']; rfl
    rw [Nat.zero_add, hg.cell hc, byteOf_at, txt_byte f n i hi']
  have := Lib.run_convert_whole (P := Tryz.prog) w 22 5 9 Tryz.underlying22 Tryz.underlying5 Tryz.underlying9 g 0 (txt f n) hB n
  rw [txt_size] at this
  exact this
set_option maxRecDepth 100000 in
set_option maxHeartbeats 3200000 in
theorem FromPlanes_impl (s : Nat → UInt8) (w : World) :
    Calls Tryz.prog 231 #[.agg (pc s)] w fun e w' => e = .returned (.string (txt s 64)) ∧ Below w.heap.size w w' := by
  obtain ⟨i0, hi, hz0, hz1, hz2⟩ := info_parts Tryz.info5
  have hmk : ∀ W : World, (Instr.makeSlice 22 (.int .i64 64) (.int .i64 64)).run Tryz.prog W = .ok (.slice (some ⟨W.heap.size, 0, none⟩) 64 64) (W.alloc (.cells (mk8 64) 5)) := fun W => run_make8 Tryz.underlying22 hi hz0 hz1 hz2 64 64 (by omega) (by omega) W
  have HQ := fun i k h => Lib.hid (q_bit s i k h)
  have HO := fun c k m hk hm => Lib.hid (b_or8 c k m hk hm)
  have HIX := fun k hk W => Lib.hid (index_pc s k hk W)
  have hst := planes_info s
  obtain ⟨W, hW⟩ : ∃ W, (w.alloc (.cells (pc s) 135)).alloc (.cells (mk8 64) 5) = W := ⟨_, rfl⟩
  obtain ⟨h1, h3, hb⟩ := newQ2 w _ _ _ _ hW
  rw [bAr_made s] at h3
  have HW := Lib.hid hW
  obtain ⟨A, hA⟩ : ∃ A, pc s = A := ⟨_, rfl⟩
  rw [hA] at HW h1 hst HIX ⊢
  clear hW hA hi hz0 hz1 hz2
  go_enter Tryz.func231, Tryz.ntmps231
  go_wp2
  rw [HW.out]
  clear hmk
  go_loopw [10] (fun v wr => ∃ i : Nat, i ≤ 64 ∧ v = .int .i64 i ∧ RQ wr w.heap.size 135 A ∧ RQ wr (w.heap.size + 1) 5 (bAr s 64 i) ∧ Below w.heap.size w wr) (fun v _ => 64 - (intOf v).toNat)
  case atStart => exact ⟨0, by omega, rfl, h1, h3, hb⟩
  case round =>
    obtain ⟨i, hi, rfl, g1, g3, hbel⟩ := hrel
    by_cases hlt : i < 64
    · have hi1 : (i : Int) < 64 := by omega
      have hi0 : (0 : Int) ≤ (i : Int) := by omega
      obtain ⟨c, hc⟩ : ∃ c, s i = c := ⟨_, rfl⟩
      have e0 : RQ wr (w.heap.size + 1) 5 (bAt s 64 i (fbW c 0)) := by
        have : fbW c 0 = 0 := rfl
        rw [this, bAt_0 s 64 i hlt]; exact g3
      have HC := Lib.hid hc
      have G1 := Lib.hid g1
      have HBE := Lib.hid hbel
      clear h1 h3 hb hc g1 g3 hbel
      go_wp2_with (refine wpList_load_row rfl 135 _ rfl w.heap.size rfl 135 A (0, 0) _ (by have h := G1.out; exact h) Tryz.underlying135 rfl hst ?_)
      obtain ⟨wk, rfl⟩ : ∃ x, x = wr := ⟨_, rfl⟩
      go_loopw [14] (fun v wr => ∃ k : Nat, k ≤ 8 ∧ v = .int .i64 k ∧ RQ wr w.heap.size 135 A ∧ RQ wr (w.heap.size + 1) 5 (bAt s 64 i (fbW c k)) ∧ Below w.heap.size w wr) (fun v _ => 8 - (intOf v).toNat)
      case atStart => exact ⟨0, by omega, rfl, G1.out, e0, HBE.out⟩
      case round =>
        obtain ⟨k, hk, rfl, i1, i3, ibel⟩ := hrel
        by_cases hkt : k < 8
        · have hk1 : (k : Int) < 8 := by omega
          have hk0 : (0 : Int) ≤ (k : Int) := by omega
          have hix := fun W => (HIX k hkt W).out
          obtain ⟨m, hm⟩ : ∃ m, (bt c k).toNat = m := ⟨_, rfl⟩
          have hq := (HQ i k hlt).out
          rw [HC.out, hm] at hq
          have hx := (HO c k m hkt hm).out
          have hm2 : (m : Int) < 2 := by rw [← hm]; cases bt c k <;> simp
          have hm0 : (0 : Int) ≤ (m : Int) := by omega
          have hc3 := i3.cell (bAt_k s 64 i (fbW c k) hlt)
          have hfz := i3.fz i
          have d1 : RQ wr.drew w.heap.size 135 A := i1
          have d3 : RQ wr.drew (w.heap.size + 1) 5 (bAt s 64 i (fbW c k)) := i3
          have N1 := fun v => Lib.hid (d1.far (b := w.heap.size + 1) i v (by omega))
          have N3 := fun v (hv : v = .int .u8 (fbW c (k + 1) : Int)) => Lib.hid (d3.setB (v := v) hv)
          have NB := fun v => Lib.hid (ibel.drew.setCell (p := ⟨w.heap.size + 1, i, none⟩) (by simp) v)
          clear i1 i3 ibel d1 d3 HQ HO HIX hm e0
          go_wp2
          go_still_tail 13, (by kernel_rfl)
          change wpList _ _ _ _ _ wr.drew
          go_wp2
          go_roundw
          case rel => exact ⟨k + 1, by omega, by go_num, (N1 _).out, (N3 _ (by first | rfl | rw [hx])).out, (NB _).out⟩
          case measure => simp [intOf]; omega
        · obtain rfl : k = 8 := by omega
          rw [fbW_8, ← HC.out, bAt_f] at i3
          clear e0
          go_wp2
          go_roundw
          case rel => exact ⟨i + 1, by omega, by go_num, i1, i3, ibel⟩
          case measure => simp [intOf]; omega
    · obtain rfl : i = 64 := by omega
      have hconv := conv_b wr (w.heap.size + 1) 64 _ s g3
      clear g1 g3 h1 h3 hb HQ HO HIX
      go_wp2
      go_ret
      exact ⟨rfl, hbel⟩
theorem val_q {k : IntKind} {a b : Int} (h : a = b) : Value.int k a = .int k b := by rw [h]
theorem up_relP {s : Nat → UInt8} {w w2 w1 : World} {i : Nat} {e : TypeId} {u v : Value} {o : Obj} {x : UInt8} (hx : s i = x)
    (hown2 : w2.ownsRow w.heap.size e 1 u i (cells8 (upTo s i))) (hbel2 : Below w.heap.size w w2)
    (hown3 : w1.ownsRow w.heap.size e 1 v (i + 1) (cells8 (upTo s i) ++ [.int .u8 (x.toNat : Int)]))
    (hgrow : (w2.alloc o).grownBy w1 u.ownBlock) :
    w1.ownsRow w.heap.size e 1 v (i + 1) (cells8 (upTo s (i + 1))) ∧ Below w.heap.size w w1 := by
  refine ⟨?_, ?_⟩
  · rw [upTo_succ, cells8_append, hx]
    exact hown3
  · have h1 : Below w.heap.size w (w2.alloc o) := hbel2.alloc hbel2.size _
    exact h1.grown hgrow h1.size (fun b hb => (hown2.lt b hb).1)
end Go.Proofs.YtbfmbdohebdbaaaGreatDoor
