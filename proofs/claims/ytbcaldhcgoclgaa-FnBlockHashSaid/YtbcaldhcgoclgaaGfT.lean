/-
  What impl's product of two wides answers; BlockTimes.
-/
import Derived.Test.YtbcaldhcgoclgaaGfI
import Derived.Test.YtbcaldhcgoclgaaStoreAt
set_option linter.unusedVariables false
set_option linter.unusedSimpArgs false
namespace Go.Proofs.Ytbcaldhcgoclgaa
open Go Go.RowKit

/-- the cells of a number's two halves. -/
def wcN (N : Nat) : Array Value := #[.int .u64 ((N / 18446744073709551616 : Nat) : Int), .int .u64 ((N % 18446744073709551616 : Nat) : Int)]
theorem wdN_c (N : Nat) : wdN N = .agg (wcN N) := rfl
/-- block g holds a number. -/
def GW (w : World) (g N : Nat) : Prop := w.heap[g]? = some (.cells (wcN N) 34 (0, 0))
theorem GW.lt {w : World} {g N : Nat} (h : GW w g N) : g < w.heap.size := (Array.getElem?_eq_some_iff.1 h).1
theorem GW.up {w w' : World} {g N : Nat} (h : GW w g N) (hb : Below w.heap.size w w') : GW w' g N := (hb.block g h.lt).trans h
theorem GW.c0 {w : World} {g N : Nat} (h : GW w g N) : w.cell? ⟨g, 0, none⟩ = some (.int .u64 ((N / 18446744073709551616 : Nat) : Int)) := (cell_of_row w g 0 _ _ _ h).trans rfl
theorem GW.c1 {w : World} {g N : Nat} (h : GW w g N) : w.cell? ⟨g, 1, none⟩ = some (.int .u64 ((N % 18446744073709551616 : Nat) : Int)) := (cell_of_row w g 1 _ _ _ h).trans rfl
theorem GW.set {w : World} {g N : Nat} (h : GW w g N) (M : Nat) : GW (w.setRow g (wcN M)) g M := setRow_heap w g _ (wcN M) _ _ h
theorem GW.far {w : World} {g b N : Nat} (h : GW w g N) (R : Array Value) (hb : g ≠ b) : GW (w.setRow b R) g N := (setRow_other w b g R hb).trans h
theorem wcN_size (N : Nat) : (Try.prog.info? 34).map (·.size) = some (wcN N).size := by
  rw [show (wcN N).size = 2 from rfl]; exact wide_info
theorem wcN_one (N : Nat) : (wcN N).all (·.oneCell') = true := two_one _ _ _
theorem wcN_0 : wcN 0 = #[.int .u64 0, .int .u64 0] := rfl
theorem wcN_same (N M : Nat) : (wcN N).size = (wcN M).size := rfl
theorem four_new (w : World) (A B C D : Array Value) (t : TypeId) {W : World} (hW : (((w.alloc (.cells A t)).alloc (.cells B t)).alloc (.cells C t)).alloc (.cells D t) = W) :
    W.heap[w.heap.size]? = some (.cells A t (0, 0)) ∧ W.heap[w.heap.size + 1]? = some (.cells B t (0, 0)) ∧ W.heap[w.heap.size + 1 + 1]? = some (.cells C t (0, 0)) ∧ W.heap[w.heap.size + 1 + 1 + 1]? = some (.cells D t (0, 0)) ∧ Below w.heap.size w W := by
  subst hW
  have al : ∀ (V : World) (o : Obj), Below V.heap.size V (V.alloc o) := fun V o => (Below.refl _ V).alloc (Nat.le_refl _) _
  have sz : ∀ (V : World) (o : Obj), (V.alloc o).heap.size = V.heap.size + 1 := fun V o => by simp
  have keep : ∀ (V : World) (o : Obj) (b : Nat), b < V.heap.size → (V.alloc o).heap[b]? = V.heap[b]? := fun V o b hb => (al V o).block b hb
  have nw : ∀ (V : World) (A : Array Value), (V.alloc (.cells A t)).heap[V.heap.size]? = some (.cells A t (0, 0)) := fun V A => heap_alloc_new V _
  have h1 := nw w A
  have h2 := nw (w.alloc (.cells A t)) B
  have h3 := nw ((w.alloc (.cells A t)).alloc (.cells B t)) C
  have h4 := nw (((w.alloc (.cells A t)).alloc (.cells B t)).alloc (.cells C t)) D
  rw [sz] at h2
  rw [sz, sz] at h3
  rw [sz, sz, sz] at h4
  refine ⟨?_, ?_, ?_, h4, ?_⟩
  · rw [keep _ _ _ (by rw [sz, sz, sz]; omega), keep _ _ _ (by rw [sz, sz]; omega), keep _ _ _ (by rw [sz]; omega)]; exact h1
  · rw [keep _ _ _ (by rw [sz, sz, sz]; omega), keep _ _ _ (by rw [sz, sz]; omega)]; exact h2
  · rw [keep _ _ _ (by rw [sz, sz, sz]; omega)]; exact h3
  · exact (al w _).trans (((al _ _).mono (by rw [sz]; omega)).trans (((al _ _).mono (by rw [sz, sz]; omega)).trans ((al _ _).mono (by rw [sz, sz, sz]; omega))))
/-- the half of a number by which place it is. -/
def gfHf (b i : Nat) : Nat := if i = 0 then b / 18446744073709551616 else b % 18446744073709551616
theorem gfHf_lt (b i : Nat) (hb : b < 340282366920938463463374607431768211456) : gfHf b i < 18446744073709551616 := by unfold gfHf; split <;> omega
theorem half_bit (b i q : Nat) (hb : b < 340282366920938463463374607431768211456) (hi : i < 2) (hq : q < 64) :
    bits .and .u64 ((gfHf b i : Int) / 2 ^ q) 1 = if b.testBit (127 - (64 * i + (63 - q))) then 1 else 0 := by
  have hx := gfHf_lt b i hb
  have e : (gfHf b i : Int) / 2 ^ q = ((gfHf b i / 2 ^ q : Nat) : Int) := by rw [Int.natCast_ediv, Int.natCast_pow]; rfl
  rw [e, show (1 : Int) = ((1 : Nat) : Int) by rfl, u64_and_nat _ _ (Nat.lt_of_le_of_lt (Nat.div_le_self _ _) hx) (by omega), Nat.and_one_is_mod]
  have hN : b = b / 18446744073709551616 * 18446744073709551616 + b % 18446744073709551616 := by omega
  have hbit : b.testBit (127 - (64 * i + (63 - q))) = decide (gfHf b i / 2 ^ q % 2 = 1) := by
    have h2 : i = 0 ∨ i = 1 := by omega
    rcases h2 with rfl | rfl
    · have h := gf_bit_hi (b / 18446744073709551616) (b % 18446744073709551616) (63 - q) (by omega) (by omega)
      rw [← hN, show 63 - (63 - q) = q by omega] at h
      rw [show 127 - (64 * 0 + (63 - q)) = 127 - (63 - q) by omega, h]; rfl
    · have h := gf_bit_lo (b / 18446744073709551616) (b % 18446744073709551616) (63 - q) (by omega)
      rw [← hN, show 63 - (63 - q) = q by omega] at h
      rw [show 127 - (64 * 1 + (63 - q)) = 127 - (64 + (63 - q)) by omega, h]; rfl
  rw [hbit]
  rcases Nat.mod_two_eq_zero_or_one (gfHf b i / 2 ^ q) with h | h <;> rw [h] <;> rfl
theorem index_hf (b i : Nat) (hi : i < 2) (w : World) : (Instr.index 53 (.agg #[.int .u64 ((b / 18446744073709551616 : Nat) : Int), .int .u64 ((b % 18446744073709551616 : Nat) : Int)]) (.int .i64 (i : Int))).run Try.prog w = .ok (.int .u64 (gfHf b i : Int)) w := by
  obtain ⟨j, hj, h1⟩ : ∃ j : TypeInfo, Try.prog.info? 32 = some j ∧ j.size = 1 := ⟨_, rfl, rfl⟩
  refine run_index_ar 53 32 2 i _ _ _ j w Try.underlying53 Try.underlying32 rfl hj h1 hi ?_
  have h2 : i = 0 ∨ i = 1 := by omega
  rcases h2 with rfl | rfl <;> rfl
theorem turned_L (Z P Z0 Z1 P0 P1 : Nat) (hZ : Z < 2 ^ 128) (hP : P < 2 ^ 128) (z0 : Z / 18446744073709551616 = Z0) (z1 : Z % 18446744073709551616 = Z1) (p0 : P / 18446744073709551616 = P0) (p1 : P % 18446744073709551616 = P1) (W : World) :
    Calls Try.prog 34 #[.agg #[.int .u64 (Z0 : Int), .int .u64 (Z1 : Int)], .agg #[.int .u64 (P0 : Int), .int .u64 (P1 : Int)]] W fun e w' => e = .returned (.agg (wcN (Z ^^^ P))) ∧ Below W.heap.size W w' := by
  subst z0 z1 p0 p1
  exact wturned_N Z P hZ hP W
theorem moved_L (P P0 P1 : Nat) (hP : P < 2 ^ 128) (p0 : P / 18446744073709551616 = P0) (p1 : P % 18446744073709551616 = P1) (W : World) :
    Calls Try.prog 35 #[.agg #[.int .u64 (P0 : Int), .int .u64 (P1 : Int)]] W fun e w' => e = .returned (.agg (wcN (gfD P))) ∧ Below W.heap.size W w' := by
  subst p0 p1
  exact movedDown_N P hP W
theorem GW.cs {w : World} {g N N0 N1 : Nat} (h : GW w g N) (h0 : N / 18446744073709551616 = N0) (h1 : N % 18446744073709551616 = N1) : w.cell? ⟨g, 0, none⟩ = some (.int .u64 (N0 : Int)) ∧ w.cell? ⟨g, 1, none⟩ = some (.int .u64 (N1 : Int)) := by
  subst h0 h1
  exact ⟨h.c0, h.c1⟩
/-- where the product stands after k places. -/
structure TmAt (w0 wr : World) (B a b k : Nat) : Prop where
  p : GW wr B (gfP k a)
  z : GW wr (B + 1 + 1 + 1) (gfK k a b)
  r : GW wr (B + 1 + 1) 0
  bel : Below B w0 wr
set_option maxRecDepth 100000 in
set_option maxHeartbeats 3200000 in
theorem wtimes_impl (a b : Nat) (ha : a < 2 ^ 128) (hb : b < 2 ^ 128) (w : World) :
    Calls Try.prog 19 #[wdN a, wdN b] w fun e w' => e = .returned (wdN (gfM a b)) ∧ Below w.heap.size w w' := by
  have hb2 : b < 340282366920938463463374607431768211456 := by simpa using hb
  have HIX := fun i hi W => Lib.hid (index_hf b i hi W)
  have HBT := fun i q hi hq => Lib.hid (half_bit b i q hb2 hi hq)
  obtain ⟨W, hW⟩ : ∃ W, (((w.alloc (.cells (wcN a) 34)).alloc (.cells (wcN b) 34)).alloc (.cells (wcN 0) 34)).alloc (.cells (wcN 0) 34) = W := ⟨_, rfl⟩
  obtain ⟨g1, g2, g3, g4, hbel⟩ := four_new w _ _ _ _ _ hW
  have H0 : TmAt w W w.heap.size a b 0 := ⟨g1, g4, g3, hbel⟩
  have b0 : W.cell? ⟨w.heap.size + 1, 0, none⟩ = some (.int .u64 ((b / 18446744073709551616 : Nat) : Int)) := GW.c0 (N := b) g2
  have b1 : W.cell? ⟨w.heap.size + 1, 1, none⟩ = some (.int .u64 ((b % 18446744073709551616 : Nat) : Int)) := GW.c1 (N := b) g2
  rw [wcN_0] at hW
  have HW := Lib.hid (show (((w.alloc (.cells #[.int .u64 ((a / 18446744073709551616 : Nat) : Int), .int .u64 ((a % 18446744073709551616 : Nat) : Int)] 34)).alloc (.cells #[.int .u64 ((b / 18446744073709551616 : Nat) : Int), .int .u64 ((b % 18446744073709551616 : Nat) : Int)] 34)).alloc (.cells #[.int .u64 0, .int .u64 0] 34)).alloc (.cells #[.int .u64 0, .int .u64 0] 34) = W from hW)
  have HE : wdN (gfM a b) = .agg (wcN (gfK 128 a b)) := rfl
  rw [HE]
  show Calls Try.prog 19 #[.agg #[.int .u64 ((a / 18446744073709551616 : Nat) : Int), .int .u64 ((a % 18446744073709551616 : Nat) : Int)], .agg #[.int .u64 ((b / 18446744073709551616 : Nat) : Int), .int .u64 ((b % 18446744073709551616 : Nat) : Int)]] w _
  generalize b / 18446744073709551616 = bh at *
  generalize b % 18446744073709551616 = bl at *
  generalize a / 18446744073709551616 = ah at *
  generalize a % 18446744073709551616 = al at *
  clear hW g1 g2 g3 g4 hbel HE
  go_enter Try.func19, Try.ntmps19
  go_wp2
  rw [HW.out]
  clear HW b0 b1
  go_loopw [14] (fun v wr => ∃ i : Nat, i ≤ 2 ∧ v = .int .i64 i ∧ TmAt w wr w.heap.size a b (64 * i)) (fun v _ => 2 - (intOf v).toNat)
  case atStart => exact ⟨0, by omega, rfl, H0⟩
  case round =>
    obtain ⟨i, hi, rfl, hT⟩ := hrel
    by_cases hlt : i < 2
    · have hi1 : (i : Int) < 2 := by omega
      have hi0 : (0 : Int) ≤ (i : Int) := by omega
      have hix := fun W => (HIX i hlt W).out
      clear H0 HIX
      go_wp2
      obtain ⟨wk, rfl⟩ : ∃ x, x = wr := ⟨_, rfl⟩
      clear hix
      go_loopw [8] (fun v wr => ∃ r : Nat, r ≤ 64 ∧ v = .int .i64 ((r : Int) - 1) ∧ TmAt w wr w.heap.size a b (64 * i + (64 - r))) (fun v _ => (intOf v + 1).toNat)
      case atStart => exact ⟨64, by omega, rfl, hT⟩
      case round =>
        clear hT
        obtain ⟨r, hr, rfl, hT⟩ := hrel
        by_cases h0 : r = 0
        · subst h0
          have hneg : ¬ (0 : Int) ≤ ((0 : Nat) : Int) - 1 := by omega
          clear HBT
          go_wp2
          go_roundw
          case rel => exact ⟨i + 1, by omega, by go_num, hT⟩
          case measure => simp [intOf]; omega
        · obtain ⟨q, rfl⟩ : ∃ q, r = q + 1 := ⟨r - 1, by omega⟩
          have hbt := (HBT i q hlt (by omega)).out
          have ek : 64 * i + (64 - (q + 1)) = 64 * i + (63 - q) := by omega
          have ek2 : 64 * i + (64 - q) = 64 * i + (63 - q) + 1 := by omega
          have hq0 : (0 : Int) ≤ (q : Int) := by omega
          have hq1 : (q : Int) < 64 := by omega
          rw [show ((q + 1 : Nat) : Int) - 1 = (q : Int) by omega]
          rw [ek] at hT
          obtain ⟨k, hk⟩ : ∃ k, 64 * i + (63 - q) = k := ⟨_, rfl⟩
          rw [hk] at hT hbt ek2
          obtain ⟨tp, tz, tr, tb⟩ := hT
          obtain ⟨P0, p0⟩ : ∃ P0, gfP k a / 18446744073709551616 = P0 := ⟨_, rfl⟩
          obtain ⟨P1, p1⟩ : ∃ P1, gfP k a % 18446744073709551616 = P1 := ⟨_, rfl⟩
          have hm := fun W => Lib.hid (moved_L _ P0 P1 (gfP_lt k a ha) p0 p1 W)
          rw [show gfD (gfP k a) = gfP (k + 1) a from rfl] at hm
          have ek3 : 64 * i + (64 - q) = k + 1 := ek2
          clear HBT hk ek ek2
          cases hbit : b.testBit (127 - k) with
          | true =>
            obtain ⟨Z0, z0⟩ : ∃ Z0, gfK k a b / 18446744073709551616 = Z0 := ⟨_, rfl⟩
            obtain ⟨Z1, z1⟩ : ∃ Z1, gfK k a b % 18446744073709551616 = Z1 := ⟨_, rfl⟩
            have ht := fun W => Lib.hid (turned_L _ _ Z0 Z1 P0 P1 (gfK_lt k a b ha) (gfP_lt k a ha) z0 z1 p0 p1 W)
            rw [show gfK k a b ^^^ gfP k a = gfK (k + 1) a b by rw [gfK_succ, if_pos hbit]] at ht
            rw [hbit, if_pos rfl] at hbt
            obtain ⟨cz0, cz1⟩ := tz.cs z0 z1
            obtain ⟨cp0, cp1⟩ := tp.cs p0 p1
            have hBl := tb.size
            generalize hX : gfK (k + 1) a b = X at *
            generalize hY : gfP (k + 1) a = Y at *
            go_wp2_with fail
            refine (ht _).out.mono ?_; rintro e w1 ⟨rfl, hb1⟩
            have tz1 := tz.up hb1
            have tp1 := (tp.up hb1).far (b := w.heap.size + 1 + 1 + 1) (wcN X) (by omega)
            have tr1 := (tr.up hb1).far (b := w.heap.size + 1 + 1 + 1) (wcN X) (by omega)
            have tz2 := tz1.set X
            have tb1 := below_setRow (tb.trans (hb1.mono hBl)) (Nat.le_trans (Nat.le_succ _) (Nat.le_trans (Nat.le_succ _) (Nat.le_succ _))) (wcN X) (g := w.heap.size + 1 + 1 + 1)
            obtain ⟨cq0, cq1⟩ := tp1.cs p0 p1
            clear hb1 cz0 cz1 cp0 cp1 tz tp tr tb ht
            go_wp2_with (refine wpList_store_row rfl 34 _ _ rfl (w.heap.size + 1 + 1 + 1) (wcN X) rfl rfl 34 _ tz1 (wcN_size _) (wcN_same _ _) (wcN_one _) ?_)
            generalize hV : w1.setRow (w.heap.size + 1 + 1 + 1) (wcN X) = V at *
            refine (hm _).out.mono ?_; rintro e w2 ⟨rfl, hb2⟩
            have tp2 := tp1.up hb2
            have tz3 := (tz2.up hb2).far (b := w.heap.size) (wcN Y) (by omega)
            have tr3 := (tr1.up hb2).far (b := w.heap.size) (wcN Y) (by omega)
            have tp3 := tp2.set Y
            have tb3 := below_setRow (tb1.trans (hb2.mono tb1.size)) (Nat.le_refl w.heap.size) (wcN Y)
            clear hb2 cq0 cq1 tp1 tz2 tr1 tb1 hm hbt hBl
            go_wp2_with (refine wpList_store_row rfl 34 _ _ rfl w.heap.size (wcN Y) rfl rfl 34 _ tp2 (wcN_size _) (wcN_same _ _) (wcN_one _) ?_)
            go_roundw
            case rel => exact ⟨q, by omega, by go_num, by rw [ek3]; exact ⟨by rw [hY]; exact tp3, by rw [hX]; exact tz3, tr3, tb3⟩⟩
            case measure => simp [intOf]
          | false =>
            rw [hbit, if_neg (by decide)] at hbt
            obtain ⟨cq0, cq1⟩ := tp.cs p0 p1
            have hX : gfK (k + 1) a b = gfK k a b := by rw [gfK_succ, if_neg (by rw [hbit]; decide), Nat.xor_zero]
            have hBl := tb.size
            generalize hY : gfP (k + 1) a = Y at *
            go_wp2_with fail
            refine (hm _).out.mono ?_; rintro e w2 ⟨rfl, hb2⟩
            have tp2 := tp.up hb2
            have tz3 := (tz.up hb2).far (b := w.heap.size) (wcN Y) (by omega)
            have tr3 := (tr.up hb2).far (b := w.heap.size) (wcN Y) (by omega)
            have tp3 := tp2.set Y
            have tb3 := below_setRow (tb.trans (hb2.mono tb.size)) (Nat.le_refl w.heap.size) (wcN Y)
            clear hb2 cq0 cq1 tp tz tr tb hm hbt hBl
            go_wp2_with (refine wpList_store_row rfl 34 _ _ rfl w.heap.size (wcN Y) rfl rfl 34 _ tp2 (wcN_size _) (wcN_same _ _) (wcN_one _) ?_)
            go_roundw
            case rel => exact ⟨q, by omega, by go_num, by rw [ek3]; exact ⟨by rw [hY]; exact tp3, by rw [hX]; exact tz3, tr3, tb3⟩⟩
            case measure => simp [intOf]
    · obtain rfl : i = 2 := by omega
      have hneg : ¬ ((2 : Nat) : Int) < 2 := by omega
      obtain ⟨tp, tz, tr, tb⟩ := hT
      have tz : GW wr (w.heap.size + 1 + 1 + 1) (gfK 128 a b) := tz
      clear HIX HBT H0 tp
      generalize hX : gfK 128 a b = X at *
      obtain ⟨Z0, z0⟩ : ∃ Z0, X / 18446744073709551616 = Z0 := ⟨_, rfl⟩
      obtain ⟨Z1, z1⟩ : ∃ Z1, X % 18446744073709551616 = Z1 := ⟨_, rfl⟩
      obtain ⟨cz0, cz1⟩ := tz.cs z0 z1
      have tr1 := tr.set X
      have tb1 := below_setRow tb (Nat.le_trans (Nat.le_succ _) (Nat.le_succ _)) (wcN X) (g := w.heap.size + 1 + 1)
      have hwc : wcN X = #[.int .u64 (Z0 : Int), .int .u64 (Z1 : Int)] := by subst z0 z1; rfl
      rw [hwc] at tr1 tb1
      have hsi := wcN_size X
      have hone := wcN_one X
      have hz : (wcN 0).size = (wcN X).size := rfl
      unfold GW at tr
      rw [hwc] at hsi hone hz
      have HWC := Lib.hid hwc
      clear hwc tz z0 z1
      go_wp2_with (refine wpList_store_row rfl 34 _ _ rfl (w.heap.size + 1 + 1) #[.int .u64 (Z0 : Int), .int .u64 (Z1 : Int)] rfl rfl 34 _ tr hsi hz hone ?_)
      have G3 := setRow_heap wr (w.heap.size + 1 + 1) _ #[.int .u64 (Z0 : Int), .int .u64 (Z1 : Int)] _ _ tr
      refine bodyPost_ret (v := .agg #[.int .u64 (Z0 : Int), .int .u64 (Z1 : Int)]) ?_ rfl ⟨by first | rw [HWC.out] | rw [hX, HWC.out], tb1⟩
      exact results_cell_row rfl _ _ (w.heap.size + 1 + 1) 34 #[.int .u64 (Z0 : Int), .int .u64 (Z1 : Int)] (0, 0) _ rfl G3 Try.underlying34 rfl hsi
theorem wide_in (s : ByteArray) (hs : s.size = 16) (w : World) :
    Calls Try.prog 18 #[.string s] w fun e w' => e = .returned (wdN (gfN s)) ∧ Below w.heap.size w w' := by
  have h := wideOf_impl s hs w
  rw [wdN_of] at h
  exact h
theorem wide_out (N : Nat) (h : N < 2 ^ 128) (w : World) :
    Calls Try.prog 20 #[wdN N] w fun e w' => e = .returned (.string (gfT N)) ∧ Below w.heap.size w w' := by
  have h2 : N < 340282366920938463463374607431768211456 := by simpa using h
  have k := wblock_impl (N / 18446744073709551616) (N % 18446744073709551616) (by omega) (by omega) w
  rw [wdN_txt N h] at k
  exact k
set_option maxRecDepth 100000 in
set_option maxHeartbeats 1600000 in
theorem BlockTimes_yes (a b : ByteArray) (ha : a.size = 16) (hb : b.size = 16) (w : World) :
    Calls Try.prog 9 #[.string a, .string b] w fun e w' => e = .returned (.string (tmB a b)) ∧ Below w.heap.size w w' := by
  have h1 : (a.size : Int) = 16 := by omega
  have h2 : (b.size : Int) = 16 := by omega
  have H1 := fun W => Lib.hid (wide_in a ha W)
  have H2 := fun W => Lib.hid (wide_in b hb W)
  have H3 := fun W => Lib.hid (wtimes_impl (gfN a) (gfN b) (gfN_lt a) (gfN_lt b) W)
  have H4 := fun W => Lib.hid (wide_out (gfM (gfN a) (gfN b)) (gfM_lt _ _ (gfN_lt a)) W)
  rw [show gfT (gfM (gfN a) (gfN b)) = tmB a b from rfl] at H4
  generalize wdN (gfN a) = x at *
  generalize wdN (gfN b) = y at *
  generalize wdN (gfM (gfN a) (gfN b)) = z at *
  generalize tmB a b = r at *
  clear ha hb
  go_enter Try.func9, Try.ntmps9
  go_wp2_with fail
  refine (H1 _).out.mono ?_; rintro e w1 ⟨rfl, hb1⟩
  go_wp2_with fail
  refine (H2 _).out.mono ?_; rintro e w2 ⟨rfl, hb2⟩
  go_wp2_with fail
  refine (H3 _).out.mono ?_; rintro e w3 ⟨rfl, hb3⟩
  go_wp2_with fail
  refine (H4 _).out.mono ?_; rintro e w4 ⟨rfl, hb4⟩
  have hb12 := hb1.trans (hb2.mono hb1.size)
  have hb13 := hb12.trans (hb3.mono hb12.size)
  have hb14 := hb13.trans (hb4.mono hb13.size)
  clear hb1 hb2 hb3 hb4 hb12 hb13
  go_wp2
  go_ret
  exact ⟨rfl, hb14⟩
set_option maxRecDepth 100000 in
theorem BlockTimes_no (a b : ByteArray) (h : ¬ (a.size = 16 ∧ b.size = 16)) (w : World) :
    Calls Try.prog 9 #[.string a, .string b] w fun e w' => e = .returned (.string ⟨#[]⟩) ∧ Below w.heap.size w w' := by
  by_cases h1 : a.size = 16
  · have h2 : ¬ (b.size : Int) = 16 := by omega
    have h3 : (a.size : Int) = 16 := by omega
    go_enter Try.func9, Try.ntmps9
    go_wp2
    go_ret
    exact ⟨rfl, Below.refl _ _⟩
  · have h2 : ¬ (a.size : Int) = 16 := by omega
    go_enter Try.func9, Try.ntmps9
    go_wp2
    go_ret
    exact ⟨rfl, Below.refl _ _⟩
theorem BlockTimes_impl (a b : ByteArray) (w : World) :
    Calls Try.prog 9 #[.string a, .string b] w fun e w' => e = .returned (.string (tmI a b)) ∧ Below w.heap.size w w' := by
  by_cases h : a.size = 16 ∧ b.size = 16
  · rw [tmI_yes a b h.1 h.2]; exact BlockTimes_yes a b h.1 h.2 w
  · rw [tmI_no a b h]; exact BlockTimes_no a b h w
end Go.Proofs.Ytbcaldhcgoclgaa
