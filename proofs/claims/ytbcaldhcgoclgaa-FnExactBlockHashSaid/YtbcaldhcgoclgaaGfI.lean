/-
  What impl's wides answer that are turned, moved down and multiplied; BlockTimes.
-/
import Derived.Test.YtbcaldhcgoclgaaGf
import Derived.Test.YtbcaldhcgoclgaaWideW
set_option linter.unusedVariables false
set_option linter.unusedSimpArgs false
namespace Go.Proofs.Ytbcaldhcgoclgaa
open Go Go.RowKit

/-- a number as a value of two halves. -/
def wdN (N : Nat) : Value := wdV (N / 18446744073709551616) (N % 18446744073709551616)
theorem wdN_V (h l : Nat) (hl : l < 18446744073709551616) : wdN (h * 18446744073709551616 + l) = wdV h l := by
  unfold wdN
  rw [(gf_cut h l hl).1, (gf_cut h l hl).2]
theorem wdN_txt (N : Nat) (h : N < 2 ^ 128) : ofW (halW (N / 18446744073709551616) (N % 18446744073709551616)) = gfT N := by
  rw [hal_txt _ _ (by simp only [Nat.reducePow] at h; omega) (by omega)]
  unfold gfT
  congr 2; omega
theorem wdN_of (s : ByteArray) : wdV (hlfN s 0) (hlfN s 2) = wdN (gfN s) := by
  unfold wdN gfN
  rw [hlf_hi, hlf_lo]
theorem and_one (l : Nat) (hl : l < 18446744073709551616) : bits .and .u64 (l : Int) 1 = ((l % 2 : Nat) : Int) := by
  have h := u64_and_nat l 1 hl (by omega)
  rw [show ((1 : Nat) : Int) = 1 by rfl, Nat.and_one_is_mod] at h
  exact h
theorem wrap_red (l : Nat) : IntKind.u64.wrap (((l % 2 : Nat) : Int) * 16212958658533785600) = ((l % 2 * gfH : Nat) : Int) := by
  rw [IntKind.wrap_u64]; unfold gfH; omega
theorem red_xor (h l : Nat) (hh : h < 18446744073709551616) : bits .xor .u64 ((h : Int) / 2) ((l % 2 * gfH : Nat) : Int) = ((h / 2 ^^^ (l % 2 * gfH) : Nat) : Int) := by
  have h1 : l % 2 * gfH < 18446744073709551616 := by unfold gfH; omega
  rw [show (h : Int) / 2 = ((h / 2 : Nat) : Int) by omega]
  exact u64_xor_nat _ _ (by omega) h1
theorem low_or (h l : Nat) (hl : l < 18446744073709551616) : bits .or .u64 (IntKind.u64.wrap ((h : Int) * 9223372036854775808)) ((l : Int) / 2) = ((h % 2 * 9223372036854775808 + l / 2 : Nat) : Int) := by
  have e1 : IntKind.u64.wrap ((h : Int) * 9223372036854775808) = ((h % 2 * 9223372036854775808 : Nat) : Int) := by rw [IntKind.wrap_u64]; omega
  have e2 : (l : Int) / 2 = ((l / 2 : Nat) : Int) := by omega
  rw [e1, e2]
  have h3 := nat_or_add (h % 2) (l / 2) 63 (by omega)
  rw [show (2 : Nat) ^ 63 = 9223372036854775808 by rfl] at h3
  rw [u64_or_nat _ _ (by omega) (by omega), h3]
set_option maxRecDepth 100000 in
set_option maxHeartbeats 1600000 in
theorem movedDown_impl (h l : Nat) (hh : h < 18446744073709551616) (hl : l < 18446744073709551616) (w : World) :
    Calls Try.prog 35 #[wdV h l] w fun e w' => e = .returned (wdV (h / 2 ^^^ (l % 2 * gfH)) (h % 2 * 9223372036854775808 + l / 2)) ∧ Below w.heap.size w w' := by
  have hand := and_one l hl
  have hwr := wrap_red l
  have hxor := red_xor h l hh
  have hor := low_or h l hl
  obtain ⟨q, hq⟩ : ∃ q, l % 2 = q := ⟨_, rfl⟩
  obtain ⟨u, hu⟩ : ∃ u, q * gfH = u := ⟨_, rfl⟩
  obtain ⟨k, hk⟩ : ∃ k, h / 2 ^^^ u = k := ⟨_, rfl⟩
  obtain ⟨m, hm⟩ : ∃ m, h % 2 * 9223372036854775808 + l / 2 = m := ⟨_, rfl⟩
  rw [hq] at hand
  rw [hq, hu] at hwr
  rw [hq, hu, hk] at hxor
  rw [hm] at hor
  rw [hq, hu, hk, hm]
  have hq2 : (q : Int) < 2 := by omega
  have hh1 : (h : Int) < 18446744073709551616 := by omega
  have hl1 : (l : Int) < 18446744073709551616 := by omega
  obtain ⟨_, G2, HB, _⟩ := wide_two w #[Value.int .u64 (h : Int), .int .u64 (l : Int)] #[Value.int .u64 (k : Int), .int .u64 (m : Int)] 34 34
  have hsi : (Try.prog.info? 34).map (·.size) = some (#[Value.int .u64 (k : Int), .int .u64 (m : Int)] : Array Value).size := by rw [two_size]; exact wide_info
  have H2 := Lib.hid G2
  have H3 := Lib.hid HB
  clear G2 HB hk hm hu hq hh hl
  unfold wdV
  go_enter Try.func35, Try.ntmps35
  go_wp2
  refine bodyPost_ret (v := .agg #[.int .u64 (k : Int), .int .u64 (m : Int)]) ?_ rfl ⟨rfl, H3.out⟩
  exact results_cell_row rfl _ _ (w.heap.size + 1) 34 #[Value.int .u64 (k : Int), .int .u64 (m : Int)] (0, 0) _ rfl H2.out Try.underlying34 rfl hsi
theorem movedDown_N (N : Nat) (hN : N < 2 ^ 128) (w : World) :
    Calls Try.prog 35 #[wdN N] w fun e w' => e = .returned (wdN (gfD N)) ∧ Below w.heap.size w w' := by
  have hN2 : N < 340282366920938463463374607431768211456 := by simpa using hN
  have h := movedDown_impl (N / 18446744073709551616) (N % 18446744073709551616) (by omega) (by omega) w
  have hd := gfD_half (N / 18446744073709551616) (N % 18446744073709551616) (by omega) (by omega)
  rw [show N / 18446744073709551616 * 18446744073709551616 + N % 18446744073709551616 = N by omega] at hd
  rw [hd, wdN_V _ _ (by omega)]
  exact h
set_option maxRecDepth 100000 in
set_option maxHeartbeats 1600000 in
theorem wturned_impl (h l h2 l2 : Nat) (hh : h < 18446744073709551616) (hl : l < 18446744073709551616) (hh2 : h2 < 18446744073709551616) (hl2 : l2 < 18446744073709551616) (w : World) :
    Calls Try.prog 34 #[wdV h l, wdV h2 l2] w fun e w' => e = .returned (wdV (h ^^^ h2) (l ^^^ l2)) ∧ Below w.heap.size w w' := by
  have hx1 := u64_xor_nat h h2 hh hh2
  have hx2 := u64_xor_nat l l2 hl hl2
  obtain ⟨k, hk⟩ : ∃ k, h ^^^ h2 = k := ⟨_, rfl⟩
  obtain ⟨m, hm⟩ : ∃ m, l ^^^ l2 = m := ⟨_, rfl⟩
  rw [hk] at hx1 ⊢
  rw [hm] at hx2 ⊢
  obtain ⟨V, hV⟩ : ∃ V, w.alloc (.cells #[Value.int .u64 (h : Int), .int .u64 (l : Int)] 34) = V := ⟨_, rfl⟩
  have hb0 : Below w.heap.size w V := by rw [← hV]; exact (Below.refl _ _).alloc (Nat.le_refl _) _
  have hvs : V.heap.size = w.heap.size + 1 := by rw [← hV]; simp
  obtain ⟨_, G2, HB, _⟩ := wide_two V #[Value.int .u64 (h2 : Int), .int .u64 (l2 : Int)] #[Value.int .u64 (k : Int), .int .u64 (m : Int)] 34 34
  rw [hvs] at G2
  have HB2 := hb0.trans (HB.mono hb0.size)
  rw [← hV] at G2 HB2
  have hsi : (Try.prog.info? 34).map (·.size) = some (#[Value.int .u64 (k : Int), .int .u64 (m : Int)] : Array Value).size := by rw [two_size]; exact wide_info
  have H2 := Lib.hid G2
  have H3 := Lib.hid HB2
  clear G2 HB HB2 hb0 hvs hV hk hm hh hl hh2 hl2
  unfold wdV
  go_enter Try.func34, Try.ntmps34
  go_wp2
  refine bodyPost_ret (v := .agg #[.int .u64 (k : Int), .int .u64 (m : Int)]) ?_ rfl ⟨rfl, H3.out⟩
  exact results_cell_row rfl _ _ (w.heap.size + 1 + 1) 34 #[Value.int .u64 (k : Int), .int .u64 (m : Int)] (0, 0) _ rfl H2.out Try.underlying34 rfl hsi
theorem wturned_N (a b : Nat) (ha : a < 2 ^ 128) (hb : b < 2 ^ 128) (w : World) :
    Calls Try.prog 34 #[wdN a, wdN b] w fun e w' => e = .returned (wdN (a ^^^ b)) ∧ Below w.heap.size w w' := by
  have ha2 : a < 340282366920938463463374607431768211456 := by simpa using ha
  have hb2 : b < 340282366920938463463374607431768211456 := by simpa using hb
  have h := wturned_impl (a / 18446744073709551616) (a % 18446744073709551616) (b / 18446744073709551616) (b % 18446744073709551616) (by omega) (by omega) (by omega) (by omega) w
  have hd := gf_halves (a / 18446744073709551616) (a % 18446744073709551616) (b / 18446744073709551616) (b % 18446744073709551616) (by omega) (by omega)
  rw [show a / 18446744073709551616 * 18446744073709551616 + a % 18446744073709551616 = a by omega, show b / 18446744073709551616 * 18446744073709551616 + b % 18446744073709551616 = b by omega] at hd
  rw [hd, wdN_V _ _ (Nat.xor_lt_two_pow (n := 64) (by simp only [Nat.reducePow]; omega) (by simp only [Nat.reducePow]; omega))]
  exact h
end Go.Proofs.Ytbcaldhcgoclgaa
