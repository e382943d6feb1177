/-
  What impl's Count and Doubled answer: a block as two halves.
-/
import Derived.Test.YtlmbgkcchekdmaaWideS
import Derived.Test.YtlmbgkcchekdmaaWord
import Derived.Test.YtlmbgkcchekdmaaKey
import Derived.Test.YtlmbgkcchekdmaaPure
import Derived.Deep.QuietTactic
import Derived.BigQuiet
import Derived.Laws.Externs
import Derived.Laws.CopyOwn
import Derived.Deep.WholeRow
import Derived.Great.Walk
import Derived.Laws.BitsAllLaws
set_option linter.unusedVariables false
set_option linter.unusedSimpArgs false
namespace Go.Proofs.Ytlmbgkcchekdmaa
open Go Go.RowKit

theorem w_getW (t : ByteArray) (i : Nat) : wb (getW t i) 0 = byteOf t i ∧ wb (getW t i) 1 = byteOf t (i + 1) ∧ wb (getW t i) 2 = byteOf t (i + 2) ∧ wb (getW t i) 3 = byteOf t (i + 3) := by
  unfold getW
  exact ⟨wb0_mk _ _ _ _, wb1_mk _ _ _ _, wb2_mk _ _ _ _, wb3_mk _ _ _ _⟩
/-- a half as a value: two words put together. -/
theorem half_or (x y : Nat) (hx : x < 4294967296) (hy : y < 4294967296) : bits .or .u64 ((x : Int) * 4294967296) (y : Int) = ((x * 4294967296 + y : Nat) : Int) := by
  have h := nat_or_add x y 32 (by omega)
  rw [show (2 : Nat) ^ 32 = 4294967296 by rfl] at h
  rw [show (x : Int) * 4294967296 = ((x * 4294967296 : Nat) : Int) by omega, u64_or_nat _ _ (by omega) (by omega), h]
set_option maxRecDepth 100000 in
set_option maxHeartbeats 1600000 in
theorem half_impl (s : ByteArray) (gt cap gp a : Nat) (ha : a + 8 ≤ 16) (hc1 : 16 ≤ cap) (hc2 : cap ≤ 9223372036854775807) (w : World)
    (hs : ∀ j, j < 16 → w.cell? ⟨gt, j, none⟩ = some (cell8 (byteOf s j))) (hp : w.cell? ⟨gp, 0, none⟩ = some (.slice (some ⟨gt, 0, none⟩) 16 cap)) :
    Calls Try.prog 53 #[.int .i64 (a : Int), .pointer (some ⟨gp, 0, none⟩)] w fun e w' => e = .returned (.int .u64 (((getW s a).toNat * 4294967296 + (getW s (a + 4)).toNat : Nat) : Int)) ∧ Below w.heap.size w w' := by
  have HG : ∀ i : Nat, i + 4 ≤ 16 → Hid (∀ k, Calls Try.prog 54 #[.slice (some ⟨gt, 0, none⟩) 16 cap, .int .i64 (i : Int)] (w.drewN k) fun e w' => e = .returned (.int .u32 (getW s i).toNat) ∧ w' = w.drewN k) := fun i hi => Lib.hid fun k => by
    obtain ⟨b0, b1, b2, b3⟩ := w_getW s i
    have hh := get_impl gt 16 cap i (getW s i) (w.drewN k) (by omega) hc1 hc2 ⟨by rw [b0]; exact hs _ (by omega), by rw [b1]; exact hs _ (by omega), by rw [b2]; exact hs _ (by omega), by rw [b3]; exact hs _ (by omega)⟩
    exact hh.mono fun e w' ⟨e1, e2⟩ => ⟨e1, e2.symm⟩
  have G1 := HG a (by omega)
  have G2 := HG (a + 4) (by omega)
  have hx := w32_lt (getW s a)
  have hy := w32_lt (getW s (a + 4))
  obtain ⟨X, hX⟩ : ∃ X, (getW s a).toNat = X := ⟨_, rfl⟩
  obtain ⟨Y, hY⟩ : ∃ Y, (getW s (a + 4)).toNat = Y := ⟨_, rfl⟩
  rw [hX] at hx G1 ⊢
  rw [hY] at hy G2 ⊢
  have hor := half_or X Y hx hy
  obtain ⟨z, hz⟩ : ∃ z, X * 4294967296 + Y = z := ⟨_, rfl⟩
  rw [hz] at hor ⊢
  clear hX hY hz
  have q1 : IntKind.i64.wrap ((a : Int) + 4) = (a : Int) + 4 := IntWalk.i64_in _ (by omega)
  rw [show ((a + 4 : Nat) : Int) = (a : Int) + 4 by omega] at G2
  have ha0 : (a : Int) ≤ 8 := by omega
  have HB : Hid (∀ k, Below w.heap.size w (w.drewN k)) := Lib.hid fun k => ⟨rfl, rfl, rfl, Nat.le_refl _, fun _ _ => rfl⟩
  clear HG hs
  go_enter Try.func53, Try.ntmps53
  go_wp2
  go_quiet ((go_at_call 54; first | (with_reducible exact Calls.quiet_of_same (G1.out _)) | (with_reducible exact Calls.quiet_of_same (G2.out _))))
  go_wp2
  go_ret
  exact ⟨rfl, HB.out _⟩
theorem bytes_brow2 (s : ByteArray) (hs : s.size ≤ 1073741824) (w : World) :
    ∃ cap w2, (convert 9 22 (.string s)).run Try.prog w = .ok (.slice (some ⟨w.heap.size, 0, none⟩) s.size cap) w2 ∧ BRow w2 w.heap.size s.data.toList ∧ Below w.heap.size w w2 ∧ s.size ≤ cap ∧ cap ≤ 9223372036854775807 := by
  obtain ⟨cap, w2, h1, h2, h3⟩ := bytes_brow s w
  refine ⟨cap, w2, h1, h2, h3, ?_⟩
  have h := run_bytes_of_string (P := Try.prog) w 9 22 5 s Try.underlying9 Try.underlying22 Try.underlying5
  rw [h1] at h
  have e : cap = grownCap w s.size 0 5 := by
    injection h with h _
    injection h
  rw [e]
  have hm := grownCap_le_maxLen w s.size 0 5 (by unfold maxLen; omega)
  unfold maxLen at hm
  exact ⟨grownCap_ge _ _ _ _, by omega⟩
/-- two halves as a value. -/
def wdV (h l : Nat) : Value := .agg #[.int .u64 (h : Int), .int .u64 (l : Int)]
theorem hlf_0 (s : ByteArray) : (getW s 0).toNat * 4294967296 + (getW s (0 + 4)).toNat = hlfN s 0 := by
  have h1 : getW s 0 = colW s 0 := by unfold colW; rw [show 4 * 0 = 0 by omega]
  have h2 : getW s (0 + 4) = colW s (0 + 1) := by unfold colW; rw [show 4 * (0 + 1) = 0 + 4 by omega]
  rw [h1, h2]; unfold hlfN; exact Eq.refl _
theorem hlf_8 (s : ByteArray) : (getW s 8).toNat * 4294967296 + (getW s (8 + 4)).toNat = hlfN s 2 := by
  have h1 : getW s 8 = colW s 2 := by unfold colW; rw [show 4 * 2 = 8 by omega]
  have h2 : getW s (8 + 4) = colW s (2 + 1) := by unfold colW; rw [show 4 * (2 + 1) = 8 + 4 by omega]
  rw [h1, h2]; unfold hlfN; exact Eq.refl _
theorem two_size (a b : Value) : (#[a, b] : Array Value).size = 2 := rfl
theorem two_one (k : IntKind) (a b : Int) : (#[Value.int k a, .int k b] : Array Value).all (·.oneCell') = true := by kernel_rfl
theorem wide_info : (Try.prog.info? 51).map (·.size) = some 2 := by kernel_rfl
set_option maxRecDepth 100000 in
set_option maxHeartbeats 1600000 in
theorem wideOf_impl (s : ByteArray) (hs : s.size = 16) (w : World) :
    Calls Try.prog 48 #[.string s] w fun e w' => e = .returned (wdV (hlfN s 0) (hlfN s 2)) ∧ Below w.heap.size w w' := by
  have hmf : ∀ (fn : Fn) (first cap : Array Value) (w : World), (Instr.makeFunc fn first cap).run Try.prog w = .ok (.func fn first cap) w := fun _ _ _ _ => rfl
  obtain ⟨cap, W1, hconv, hrow, hbel, hcap1, hcap2⟩ := bytes_brow2 s (by omega) (w.alloc (.cells #[.int .u64 0, .int .u64 0] 51))
  rw [hs] at hconv hcap1
  have hsz : (w.alloc (.cells #[.int .u64 0, .int .u64 0] 51)).heap.size = w.heap.size + 1 := by simp
  rw [hsz] at hrow hbel
  have hg1 : W1.heap[w.heap.size]? = some (.cells #[.int .u64 0, .int .u64 0] 51 (0, 0)) := (hbel.block _ (by omega)).trans (heap_alloc_new w _)
  have hb1 : Below w.heap.size w W1 := ((Below.refl _ _).alloc (Nat.le_refl _) _).trans (hbel.mono (by omega))
  obtain ⟨W2, hW2⟩ : ∃ W2, W1.alloc (.cells #[.slice (some ⟨w.heap.size + 1, 0, none⟩) 16 cap] 22) = W2 := ⟨_, rfl⟩
  have hl1 : w.heap.size + 1 < W1.heap.size := hrow.lt
  have hb2 : Below W1.heap.size W1 W2 := by rw [← hW2]; exact (Below.refl _ _).alloc (Nat.le_refl _) _
  have hl2 : W1.heap.size < W2.heap.size := by rw [← hW2]; simp
  have hp2 : W2.cell? ⟨W1.heap.size, 0, none⟩ = some (.slice (some ⟨w.heap.size + 1, 0, none⟩) 16 cap) := by rw [← hW2]; exact (cell_of_row _ W1.heap.size 0 _ _ _ (heap_alloc_new W1 _)).trans rfl
  have hr2 := hrow.below hb2
  have hs16 : s.data.toList.length = 16 := by simpa using hs
  have HH := fun a ha (W : World) (hB : Below W2.heap.size W2 W) => Lib.hid (half_impl s (w.heap.size + 1) cap W1.heap.size a ha hcap1 hcap2 W (fun j hj => by
      have h := (BRow.below hr2 hB).cells j (by omega)
      rw [h, ← byteOf_at s j (by omega)]
      rfl) ((hB.cell (p := ⟨W1.heap.size, 0, none⟩) hl2).trans hp2))
  have e0 := hlf_0 s
  have e8 := hlf_8 s
  have HH0 := HH 0 (by omega)
  have HH8 := HH 8 (by omega)
  rw [e0] at HH0
  rw [e8] at HH8
  clear HH e0 e8
  generalize hlfN s 0 = h at *
  generalize hlfN s 2 = l at *
  have hsi : (Try.prog.info? 51).map (·.size) = some (#[Value.int .u64 (h : Int), .int .u64 (l : Int)] : Array Value).size := by rw [two_size]; exact wide_info
  have hone : (#[Value.int .u64 (h : Int), .int .u64 (l : Int)] : Array Value).all (·.oneCell') = true := two_one _ _ _
  have hz : (#[Value.int .u64 0, .int .u64 0] : Array Value).size = (#[Value.int .u64 (h : Int), .int .u64 (l : Int)] : Array Value).size := by rw [two_size, two_size]
  clear hrow hbel hr2
  go_enter Try.func48, Try.ntmps48
  go_wp2_with fail
  refine (HH0 W2 (Below.refl _ _)).out.mono ?_; rintro e w3 ⟨rfl, hb3⟩
  go_wp2_with fail
  refine (HH8 w3 hb3).out.mono ?_; rintro e w4 ⟨rfl, hb4⟩
  have hb24 := hb3.trans (hb4.mono hb3.size)
  have hg4 : w4.heap[w.heap.size]? = some (.cells #[.int .u64 0, .int .u64 0] 51 (0, 0)) := (hb24.block _ (by omega)).trans ((hb2.block _ (by omega)).trans hg1)
  have hbw : Below w.heap.size w w4 := (hb1.trans (hb2.mono (by omega))).trans (hb24.mono (by omega))
  have G4 := Lib.hid hg4
  have G5 := Lib.hid (setRow_heap w4 _ _ #[Value.int .u64 (h : Int), .int .u64 (l : Int)] _ _ hg4)
  have HB := Lib.hid (below_setRow hbw (Nat.le_refl _) #[Value.int .u64 (h : Int), .int .u64 (l : Int)])
  clear hg4 hb24 hb4 hb3 hbw HH0 HH8 hb1 hb2 hg1 hp2
  go_wp2_with (refine wpList_store_row rfl 51 _ _ rfl w.heap.size #[Value.int .u64 (h : Int), .int .u64 (l : Int)] rfl rfl 51 _ G4.out hsi hz hone ?_)
  refine bodyPost_ret (v := wdV h l) ?_ rfl ⟨rfl, HB.out⟩
  exact results_cell_row rfl _ _ w.heap.size 51 #[Value.int .u64 (h : Int), .int .u64 (l : Int)] (0, 0) _ rfl G5.out Try.underlying51 rfl hsi
theorem wide_two (w : World) (A B : Array Value) (t u : TypeId) : ((w.alloc (.cells A t)).alloc (.cells B u)).heap[w.heap.size]? = some (.cells A t (0, 0)) ∧ ((w.alloc (.cells A t)).alloc (.cells B u)).heap[w.heap.size + 1]? = some (.cells B u (0, 0)) ∧ Below w.heap.size w ((w.alloc (.cells A t)).alloc (.cells B u)) ∧ ((w.alloc (.cells A t)).alloc (.cells B u)).heap.size = w.heap.size + 1 + 1 :=
  ⟨heap_alloc2_old _ _ _, heap_alloc2_new _ _ _, ((Below.refl _ _).alloc (Nat.le_refl _) _).alloc (by simp) _, by simp⟩
set_option maxRecDepth 100000 in
set_option maxHeartbeats 1600000 in
theorem wblock_impl (h l : Nat) (hh : h < 18446744073709551616) (hl : l < 18446744073709551616) (w : World) :
    Calls Try.prog 49 #[wdV h l] w fun e w' => e = .returned (.string (ofW (halW h l))) ∧ Below w.heap.size w w' := by
  have hh0 : (0 : Int) ≤ (h : Int) := by omega
  have hl0 : (0 : Int) ≤ (l : Int) := by omega
  have hh1 : (h : Int) < 18446744073709551616 := by omega
  have hl1 : (l : Int) < 18446744073709551616 := by omega
  obtain ⟨_, g2, hb, hsz⟩ := wide_two w #[Value.int .u64 (h : Int), .int .u64 (l : Int)] #[Value.int .u32 ((h : Int) / 4294967296), .int .u32 ((h : Int) % 4294967296), .int .u32 ((l : Int) / 4294967296), .int .u32 ((l : Int) % 4294967296)] 51 67
  obtain ⟨W, hW⟩ : ∃ W, (w.alloc (.cells #[Value.int .u64 (h : Int), .int .u64 (l : Int)] 51)).alloc (.cells #[Value.int .u32 ((h : Int) / 4294967296), .int .u32 ((h : Int) % 4294967296), .int .u32 ((l : Int) / 4294967296), .int .u32 ((l : Int) % 4294967296)] 67) = W := ⟨_, rfl⟩
  rw [hW] at g2 hb hsz
  have HC : Hid (Calls Try.prog 55 #[.slice (some ⟨w.heap.size + 1, 0, none⟩) 4 4] W fun e w' => e = .returned (.string (ofW (halW h l))) ∧ Below W.heap.size W w') := Lib.hid (by
    refine blockOf_impl (halW h l) (w.heap.size + 1) 0 4 W (by omega) (fun j hj => ?_)
    rw [Nat.zero_add, cell_of_row W _ j _ _ _ g2]
    have h4 : j = 0 ∨ j = 1 ∨ j = 2 ∨ j = 3 := by omega
    rcases h4 with rfl | rfl | rfl | rfl
    · rw [halW_0 h l hh]; rfl
    · rw [halW_1 h l]; rfl
    · rw [halW_2 h l hl]; rfl
    · rw [halW_3 h l]; rfl)
  have HB := Lib.hid hb
  have HS := Lib.hid hsz
  clear g2 hb hsz
  generalize ofW (halW h l) = r at *
  clear hh hl
  unfold wdV
  go_enter Try.func49, Try.ntmps49
  go_wp2_with fail
  refine HC.out.mono ?_; rintro e w1 ⟨rfl, hb1⟩
  have HB1 := Lib.hid (HB.out.trans (hb1.mono (by have := HS.out; omega)))
  clear hb1 hW
  go_wp2
  go_ret
  exact ⟨rfl, HB1.out⟩
theorem add64_run (x y : Nat) (w : World) : (callFunc 50 #[.int .u64 (x : Int), .int .u64 (y : Int), .int .u64 0]).run Try.prog w = .ok (.value (.tuple #[.int .u64 (((x + y) % 18446744073709551616 : Nat) : Int), .int .u64 (((x + y) / 18446744073709551616 : Nat) : Int)])) w := by
  rw [run_callFunc_extern Try.func50 (by kernel_rfl) (by kernel_rfl) (by kernel_rfl) (e := add64Entry) (by kernel_rfl), run_add64 (x : Int) (y : Int) 0 (by omega) (by omega) (by omega) (by omega)]
  simp only [Result.andThen]
  congr 5 <;> omega
set_option maxRecDepth 100000 in
set_option maxHeartbeats 1600000 in
theorem plus_impl (h l n : Nat) (hh : h < 18446744073709551616) (hl : l < 18446744073709551616) (hn : n < 18446744073709551616) (w : World) :
    Calls Try.prog 40 #[wdV h l, .int .u64 n] w fun e w' => e = .returned (wdV ((h + (l + n) / 18446744073709551616) % 18446744073709551616) ((l + n) % 18446744073709551616)) ∧ Below w.heap.size w w' := by
  have hadd := fun W => add64_run l n W
  obtain ⟨c, hc⟩ : ∃ c, (l + n) / 18446744073709551616 = c := ⟨_, rfl⟩
  obtain ⟨m, hm⟩ : ∃ m, (l + n) % 18446744073709551616 = m := ⟨_, rfl⟩
  obtain ⟨k, hk⟩ : ∃ k, (h + c) % 18446744073709551616 = k := ⟨_, rfl⟩
  rw [hc, hm] at hadd ⊢
  rw [hk]
  have hk2 : IntKind.u64.wrap ((h : Int) + (c : Int)) = (k : Int) := by rw [IntKind.wrap_u64]; omega
  obtain ⟨_, G2, HB, _⟩ := wide_two w #[Value.int .u64 (h : Int), .int .u64 (l : Int)] #[Value.int .u64 (k : Int), .int .u64 (m : Int)] 51 51
  have hl1 : (l : Int) < 18446744073709551616 := by omega
  have hn1 : (n : Int) < 18446744073709551616 := by omega
  clear hc hm hk hh hl hn
  have hsi : (Try.prog.info? 51).map (·.size) = some (#[Value.int .u64 (k : Int), .int .u64 (m : Int)] : Array Value).size := by rw [two_size]; exact wide_info
  have H2 := Lib.hid G2
  have H3 := Lib.hid HB
  clear G2 HB
  unfold wdV
  go_enter Try.func40, Try.ntmps40
  go_wp2
  refine bodyPost_ret (v := .agg #[.int .u64 (k : Int), .int .u64 (m : Int)]) ?_ rfl ⟨rfl, H3.out⟩
  exact results_cell_row rfl _ _ (w.heap.size + 1) 51 #[Value.int .u64 (k : Int), .int .u64 (m : Int)] (0, 0) _ rfl H2.out Try.underlying51 rfl hsi
theorem wrap_twice (h : Nat) : IntKind.u64.wrap ((h : Int) * 2) = ((h * 2 % 18446744073709551616 : Nat) : Int) := by rw [IntKind.wrap_u64]; omega
theorem twice_or (h l : Nat) (hl : l < 18446744073709551616) :
    bits .or .u64 (IntKind.u64.wrap ((h : Int) * 2)) ((l : Int) / 9223372036854775808) = ((h * 2 % 18446744073709551616 + l / 9223372036854775808 : Nat) : Int) := by
  have e1 : h * 2 % 18446744073709551616 = (h % 9223372036854775808) * 2 := by omega
  have e2 : (l : Int) / 9223372036854775808 = ((l / 9223372036854775808 : Nat) : Int) := by omega
  have hb : l / 9223372036854775808 < 2 := by omega
  have hq : h % 9223372036854775808 < 9223372036854775808 := Nat.mod_lt _ (by omega)
  rw [wrap_twice, e1, e2]
  generalize l / 9223372036854775808 = b at *
  generalize h % 9223372036854775808 = q at *
  have h3 := nat_or_add q b 1 (by omega)
  rw [Nat.pow_one] at h3
  rw [u64_or_nat _ _ (by omega) (by omega), h3]
theorem twice_xor (h l : Nat) (hh : h < 18446744073709551616) :
    bits .xor .u64 (IntKind.u64.wrap ((l : Int) * 2)) ((h : Int) / 9223372036854775808 * 135) = ((l * 2 % 18446744073709551616 ^^^ h / 9223372036854775808 * 135 : Nat) : Int) := by
  have e2 : (h : Int) / 9223372036854775808 * 135 = ((h / 9223372036854775808 * 135 : Nat) : Int) := by omega
  have h1 : h / 9223372036854775808 * 135 < 18446744073709551616 := by omega
  have h2 : l * 2 % 18446744073709551616 < 18446744073709551616 := Nat.mod_lt _ (by omega)
  rw [wrap_twice, e2]
  generalize h / 9223372036854775808 * 135 = a at *
  generalize l * 2 % 18446744073709551616 = b at *
  exact u64_xor_nat b a h2 h1
set_option maxRecDepth 100000 in
set_option maxHeartbeats 1600000 in
theorem wdoubled_impl (h l : Nat) (hh : h < 18446744073709551616) (hl : l < 18446744073709551616) (w : World) :
    Calls Try.prog 41 #[wdV h l] w fun e w' => e = .returned (wdV (h * 2 % 18446744073709551616 + l / 9223372036854775808) ((l * 2 % 18446744073709551616) ^^^ (h / 9223372036854775808 * 135))) ∧ Below w.heap.size w w' := by
  have hor := twice_or h l hl
  have hxor := twice_xor h l hh
  obtain ⟨k, hk⟩ : ∃ k, h * 2 % 18446744073709551616 + l / 9223372036854775808 = k := ⟨_, rfl⟩
  obtain ⟨m, hm⟩ : ∃ m, l * 2 % 18446744073709551616 ^^^ h / 9223372036854775808 * 135 = m := ⟨_, rfl⟩
  rw [hk] at hor ⊢
  rw [hm] at hxor ⊢
  have hh1 : (h : Int) < 18446744073709551616 := by omega
  have hl1 : (l : Int) < 18446744073709551616 := by omega
  obtain ⟨_, G2, HB, _⟩ := wide_two w #[Value.int .u64 (h : Int), .int .u64 (l : Int)] #[Value.int .u64 (k : Int), .int .u64 (m : Int)] 51 51
  have hsi : (Try.prog.info? 51).map (·.size) = some (#[Value.int .u64 (k : Int), .int .u64 (m : Int)] : Array Value).size := by rw [two_size]; exact wide_info
  have H2 := Lib.hid G2
  have H3 := Lib.hid HB
  clear G2 HB hk hm hh hl
  unfold wdV
  go_enter Try.func41, Try.ntmps41
  go_wp2
  refine bodyPost_ret (v := .agg #[.int .u64 (k : Int), .int .u64 (m : Int)]) ?_ rfl ⟨rfl, H3.out⟩
  exact results_cell_row rfl _ _ (w.heap.size + 1) 51 #[Value.int .u64 (k : Int), .int .u64 (m : Int)] (0, 0) _ rfl H2.out Try.underlying51 rfl hsi
set_option maxRecDepth 100000 in
set_option maxHeartbeats 1600000 in
theorem count1_impl (h l n gn : Nat) (hh : h < 18446744073709551616) (hl : l < 18446744073709551616) (hn : n ≤ 9223372036854775807) (w : World) (hc : w.cell? ⟨gn, 0, none⟩ = some (.int .i64 n)) (hg : gn < w.heap.size) :
    Calls Try.prog 39 #[wdV h l, .pointer (some ⟨gn, 0, none⟩)] w fun e w' => e = .returned (wdV ((h + (l + n) / 18446744073709551616) % 18446744073709551616) ((l + n) % 18446744073709551616)) ∧ Below w.heap.size w w' := by
  have hn1 : (n : Int) ≤ 9223372036854775807 := by omega
  have hn0 : (0 : Int) ≤ (n : Int) := by omega
  have HP := fun W => Lib.hid (plus_impl h l n hh hl (by omega) W)
  obtain ⟨m, hm⟩ : ∃ m, (l + n) % 18446744073709551616 = m := ⟨_, rfl⟩
  obtain ⟨k, hk⟩ : ∃ k, (h + (l + n) / 18446744073709551616) % 18446744073709551616 = k := ⟨_, rfl⟩
  rw [hk, hm] at HP ⊢
  obtain ⟨g1, g2, hb, hsz⟩ := wide_two w #[Value.int .u64 (h : Int), .int .u64 (l : Int)] #[Value.int .u64 0, .int .u64 0] 51 51
  obtain ⟨W, hW⟩ : ∃ W, (w.alloc (.cells #[Value.int .u64 (h : Int), .int .u64 (l : Int)] 51)).alloc (.cells #[Value.int .u64 0, .int .u64 0] 51) = W := ⟨_, rfl⟩
  rw [hW] at g1 g2 hb hsz
  have c0 : W.cell? ⟨w.heap.size, 0, none⟩ = some (.int .u64 (h : Int)) := (cell_of_row W _ 0 _ _ _ g1).trans rfl
  have c1 : W.cell? ⟨w.heap.size, 1, none⟩ = some (.int .u64 (l : Int)) := (cell_of_row W _ 1 _ _ _ g1).trans rfl
  have hsi : (Try.prog.info? 51).map (·.size) = some (#[Value.int .u64 (k : Int), .int .u64 (m : Int)] : Array Value).size := by rw [two_size]; exact wide_info
  have hone : (#[Value.int .u64 (k : Int), .int .u64 (m : Int)] : Array Value).all (·.oneCell') = true := two_one _ _ _
  have hz : (#[Value.int .u64 0, .int .u64 0] : Array Value).size = (#[Value.int .u64 (k : Int), .int .u64 (m : Int)] : Array Value).size := by rw [two_size, two_size]
  have hc2 : W.cell? ⟨gn, 0, none⟩ = some (.int .i64 n) := (hb.cell (p := ⟨gn, 0, none⟩) hg).trans hc
  have HG := Lib.hid g2
  have HB := Lib.hid hb
  have HS := Lib.hid hsz
  clear hk hm hh hl hn hc g1 g2 hb hsz
  unfold wdV at HP ⊢
  go_enter Try.func39, Try.ntmps39
  go_wp2_with fail
  refine (HP W).out.mono ?_; rintro e w1 ⟨rfl, hb1⟩
  have G1 := Lib.hid ((hb1.block (w.heap.size + 1) (by have := HS.out; omega)).trans HG.out)
  have G3 := Lib.hid (setRow_heap w1 _ _ #[Value.int .u64 (k : Int), .int .u64 (m : Int)] _ _ G1.out)
  have HB1 := Lib.hid (below_setRow (HB.out.trans (hb1.mono (by have := HS.out; omega))) (Nat.le_succ w.heap.size) #[Value.int .u64 (k : Int), .int .u64 (m : Int)])
  clear hb1 hW c0 c1 hc2
  go_wp2_with (refine wpList_store_row rfl 51 _ _ rfl (w.heap.size + 1) #[Value.int .u64 (k : Int), .int .u64 (m : Int)] rfl rfl 51 _ G1.out hsi hz hone ?_)
  refine bodyPost_ret (v := .agg #[.int .u64 (k : Int), .int .u64 (m : Int)]) ?_ rfl ⟨rfl, HB1.out⟩
  exact results_cell_row rfl _ _ (w.heap.size + 1) 51 #[Value.int .u64 (k : Int), .int .u64 (m : Int)] (0, 0) _ rfl G3.out Try.underlying51 rfl hsi
set_option maxRecDepth 100000 in
set_option maxHeartbeats 1600000 in
theorem changeWide_bare (F : FuncId) (s : ByteArray) (hs : s.size = 16) (h l : Nat) (hh : h < 18446744073709551616) (hl : l < 18446744073709551616) (w : World) (HE : ∀ (args : Array Value) (W : World), (callFunc F args).run Try.prog W = .ok (.enter F args) W)
    (HF : ∀ W, Below w.heap.size w W → Calls Try.prog F #[wdV (hlfN s 0) (hlfN s 2)] W fun e w' => e = .returned (wdV h l) ∧ Below W.heap.size W w') :
    Calls Try.prog 38 #[.string s, .func (.func F) #[] #[]] w fun e w' => e = .returned (.string (ofW (halW h l))) ∧ Below w.heap.size w w' := by
  have hs2 : (s.size : Int) = 16 := by omega
  have H1 := Lib.hid (wideOf_impl s hs w)
  have H2 := fun W => Lib.hid (wblock_impl h l hh hl W)
  have HF1 := fun W hW => Lib.hid (HF W hW)
  generalize wdV (hlfN s 0) (hlfN s 2) = v0 at *
  generalize wdV h l = v1 at *
  generalize ofW (halW h l) = r at *
  clear HF hs hh hl
  go_enter Try.func38, Try.ntmps38
  go_wp2_with fail
  refine H1.out.mono ?_; rintro e w1 ⟨rfl, hb1⟩
  go_wp2_with fail
  refine (HF1 w1 hb1).out.mono ?_; rintro e w2 ⟨rfl, hb2⟩
  go_wp2_with fail
  refine (H2 w2).out.mono ?_; rintro e w3 ⟨rfl, hb3⟩
  have hb12 := hb1.trans (hb2.mono hb1.size)
  have HB := Lib.hid (hb12.trans (hb3.mono hb12.size))
  clear hb1 hb2 hb3 hb12
  go_wp2
  go_ret
  exact ⟨rfl, HB.out⟩
set_option maxRecDepth 100000 in
set_option maxHeartbeats 1600000 in
theorem changeWide_held (F : FuncId) (p : Value) (s : ByteArray) (hs : s.size = 16) (h l : Nat) (hh : h < 18446744073709551616) (hl : l < 18446744073709551616) (w : World) (HE : ∀ (args : Array Value) (W : World), (callFunc F args).run Try.prog W = .ok (.enter F args) W)
    (HF : ∀ W, Below w.heap.size w W → Calls Try.prog F #[wdV (hlfN s 0) (hlfN s 2), p] W fun e w' => e = .returned (wdV h l) ∧ Below W.heap.size W w') :
    Calls Try.prog 38 #[.string s, .func (.func F) #[] #[p]] w fun e w' => e = .returned (.string (ofW (halW h l))) ∧ Below w.heap.size w w' := by
  have hs2 : (s.size : Int) = 16 := by omega
  have H1 := Lib.hid (wideOf_impl s hs w)
  have H2 := fun W => Lib.hid (wblock_impl h l hh hl W)
  have HF1 := fun W hW => Lib.hid (HF W hW)
  generalize wdV (hlfN s 0) (hlfN s 2) = v0 at *
  generalize wdV h l = v1 at *
  generalize ofW (halW h l) = r at *
  clear HF hs hh hl
  go_enter Try.func38, Try.ntmps38
  go_wp2_with fail
  refine H1.out.mono ?_; rintro e w1 ⟨rfl, hb1⟩
  go_wp2_with fail
  refine (HF1 w1 hb1).out.mono ?_; rintro e w2 ⟨rfl, hb2⟩
  go_wp2_with fail
  refine (H2 w2).out.mono ?_; rintro e w3 ⟨rfl, hb3⟩
  have hb12 := hb1.trans (hb2.mono hb1.size)
  have HB := Lib.hid (hb12.trans (hb3.mono hb12.size))
  clear hb1 hb2 hb3 hb12
  go_wp2
  go_ret
  exact ⟨rfl, HB.out⟩
set_option maxRecDepth 100000 in
theorem changeWide_no (v : Value) (s : ByteArray) (hs : ¬ s.size = 16) (w : World) :
    Calls Try.prog 38 #[.string s, v] w fun e w' => e = .returned (.string ⟨#[]⟩) ∧ Below w.heap.size w w' := by
  have hs2 : ¬ (s.size : Int) = 16 := by omega
  clear hs
  go_enter Try.func38, Try.ntmps38
  go_wp2
  go_ret
  exact ⟨rfl, Below.refl _ _⟩
theorem dbl_lt (s : ByteArray) : hlfN s 0 * 2 % 18446744073709551616 + hlfN s 2 / 9223372036854775808 < 18446744073709551616 ∧ (hlfN s 2 * 2 % 18446744073709551616) ^^^ (hlfN s 0 / 9223372036854775808 * 135) < 18446744073709551616 := by
  have h0 := hlfN_lt s 0
  have h2 := hlfN_lt s 2
  refine ⟨by omega, Nat.xor_lt_two_pow (n := 64) (Nat.mod_lt _ (by omega)) ?_⟩
  have : hlfN s 0 / 9223372036854775808 * 135 < 18446744073709551616 := by omega
  exact this
set_option maxRecDepth 100000 in
theorem Doubled_impl (s : ByteArray) (w : World) :
    Calls Try.prog 23 #[.string s] w fun e w' => e = .returned (.string (dblI s)) ∧ Below w.heap.size w w' := by
  have H : Calls Try.prog 38 #[.string s, .func (.func 41) #[] #[]] w fun e w' => e = .returned (.string (dblI s)) ∧ Below w.heap.size w w' := by
    by_cases h : s.size = 16
    · rw [dblI_yes s h, ← dbl_hal s]
      exact changeWide_bare _ s h _ _ (dbl_lt s).1 (dbl_lt s).2 w (enters_of Try.func41 (by kernel_rfl) rfl) (fun W _ => wdoubled_impl _ _ (hlfN_lt s 0) (hlfN_lt s 2) W)
    · rw [dblI_no s h]
      exact changeWide_no _ s h w
  generalize dblI s = r at *
  go_enter Try.func23, Try.ntmps23
  go_wp2_with fail
  refine H.mono ?_; rintro e w1 ⟨rfl, hb1⟩
  go_wp2
  go_ret
  exact ⟨rfl, hb1⟩
set_option maxRecDepth 100000 in
set_option maxHeartbeats 1600000 in
theorem Count_impl (s : ByteArray) (n : Int) (hn : n ≤ 9223372036854775807) (w : World) :
    Calls Try.prog 19 #[.string s, .int .i64 n] w fun e w' => e = .returned (.string (cntI s n)) ∧ Below w.heap.size w w' := by
  have hmf : ∀ (fn : Fn) (first cap : Array Value) (w : World), (Instr.makeFunc fn first cap).run Try.prog w = .ok (.func fn first cap) w := fun _ _ _ _ => rfl
  by_cases h0 : n < 0
  · rw [cntI_no s n (by omega)]
    have hb : Below w.heap.size w (w.alloc (.cells #[.int .i64 n] 3)) := (Below.refl _ _).alloc (Nat.le_refl _) _
    go_enter Try.func19, Try.ntmps19
    go_wp2
    go_ret
    exact ⟨rfl, hb⟩
  · obtain ⟨k, rfl⟩ := Int.eq_ofNat_of_zero_le (show 0 ≤ n by omega)
    have hb : Below w.heap.size w (w.alloc (.cells #[.int .i64 (k : Int)] 3)) := (Below.refl _ _).alloc (Nat.le_refl _) _
    have hg : w.heap.size < (w.alloc (.cells #[.int .i64 (k : Int)] 3)).heap.size := by simp
    have hc : (w.alloc (.cells #[.int .i64 (k : Int)] 3)).cell? ⟨w.heap.size, 0, none⟩ = some (.int .i64 (k : Int)) := (cell_of_row _ w.heap.size 0 _ _ _ (heap_alloc_new w _)).trans rfl
    obtain ⟨W, hW⟩ : ∃ W, w.alloc (.cells #[.int .i64 (k : Int)] 3) = W := ⟨_, rfl⟩
    rw [hW] at hb hg hc
    have H : Calls Try.prog 38 #[.string s, .func (.func 39) #[] #[.pointer (some ⟨w.heap.size, 0, none⟩)]] W fun e w' => e = .returned (.string (cntI s (k : Int))) ∧ Below W.heap.size W w' := by
      by_cases h : s.size = 16
      · rw [cntI_yes s k h, ← cnt_hal s k (by omega)]
        exact changeWide_held _ _ s h _ _ (Nat.mod_lt _ (by omega)) (Nat.mod_lt _ (by omega)) W (enters_of Try.func39 (by kernel_rfl) rfl)
          (fun V hV => count1_impl _ _ k w.heap.size (hlfN_lt s 0) (hlfN_lt s 2) (by omega) V ((hV.cell (p := ⟨w.heap.size, 0, none⟩) hg).trans hc) (Nat.lt_of_lt_of_le hg hV.size))
      · rw [cntI_no s _ (by omega)]
        exact changeWide_no _ s h W
    have HH := Lib.hid H
    have HB := Lib.hid hb
    have h1 : ¬ (k : Int) < 0 := by omega
    generalize cntI s (k : Int) = r at *
    clear H hb hg h0 hn
    go_enter Try.func19, Try.ntmps19
    go_wp2_with fail
    refine HH.out.mono ?_; rintro e w1 ⟨rfl, hb1⟩
    have HB1 := Lib.hid (HB.out.trans (hb1.mono HB.out.size))
    clear hb1 hW hc
    go_wp2
    go_ret
    exact ⟨rfl, HB1.out⟩
end Go.Proofs.Ytlmbgkcchekdmaa
