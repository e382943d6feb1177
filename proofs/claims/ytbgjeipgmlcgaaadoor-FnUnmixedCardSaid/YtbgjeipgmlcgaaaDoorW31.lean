/-
  The walk of laws.FnMix.
-/
import Derived.Test.YtbgjeipgmlcgaaaDoorW30
import Derived.Test.YtbgjeipgmlcgaaaDoorSums
import Derived.Test.YtbgjeipgmlcgaaaDoorDraws
set_option linter.unusedVariables false
set_option linter.unusedSimpArgs false
namespace Go.Proofs.YtbgjeipgmlcgaaaDoor
open Go.RowKit

theorem ofW_alike (v : UInt8) : mxT (ofW fun _ => mkW v v v v) = ofW fun _ => mkW v v v v := by
  rw [mxT_yes _ (ofW_size _)]
  refine ofW_ext _ _ fun j hj => ?_
  rw [colW_ofW _ j hj, mx_alike]
theorem outW_1 (F : Nat → UInt32) : putW (F 0) = outW F 1 := by
  refine b_ext _ _ 4 rfl (outW_size F 1) fun i hi => ?_
  rw [putW_b _ i hi]
  unfold outW
  rw [txt_byte _ _ i (by omega), show i / 4 = 0 by omega, show i % 4 = i by omega]
theorem lit_v (v : UInt8) (w : World) :
    (convert 22 9 (.slice (some ⟨w.heap.size, 0, none⟩) 4 4)).run Tryd.prog (w.alloc (.cells #[.int .u8 (v.toNat : Int), .int .u8 (v.toNat : Int), .int .u8 (v.toNat : Int), .int .u8 (v.toNat : Int)] 5))
      = .ok (.string (putW (mkW v v v v))) (w.alloc (.cells #[.int .u8 (v.toNat : Int), .int .u8 (v.toNat : Int), .int .u8 (v.toNat : Int), .int .u8 (v.toNat : Int)] 5)) := by
  have h : (w.alloc (.cells #[cell8 v, cell8 v, cell8 v, cell8 v] 5)).ownsRow w.heap.size 5 1 (.slice (some ⟨w.heap.size, 0, none⟩) 4 4) 4 (cells8 [v, v, v, v]) :=
    World.ownsRow_lit w (e := 5) (size := 1) #[cell8 v, cell8 v, cell8 v, cell8 v] 4 (Nat.le_refl w.heap.size) (by unfold maxLen; omega) rfl
  rw [← mkW_put]
  exact run_string_own Tryd.underlying22 Tryd.underlying5 Tryd.underlying9 h
theorem XorI_16 (a b : ByteArray) (ha : a.size = 16) (hb : b.size = 16) (c : ByteArray) (hc : xorS a b = c) (w : World) :
    Calls Tryd.prog 23 #[.string a, .string b] w fun e w' => e = .returned (.string c) ∧ Below w.heap.size w w' := by
  rw [← hc, ← xorOf_S a b ha hb]; exact xor_impl a b w (by omega) (by omega)
theorem XorS_16 (a b : ByteArray) (ha : a.size = 16) (hb : b.size = 16) (c : ByteArray) (hc : xorS a b = c) (w : World) :
    Calls Tryd.prog 25 #[.string a, .string b] w fun e w' => e = .returned (.string c) ∧ Below w.heap.size w w' := by
  rw [← hc, ← xorOf_S a b ha hb]; exact xor_spec a b w (by omega) (by omega)
theorem Mix_16 (a c : ByteArray) (ha : a.size = 16) (hc : mxS a = c) (w : World) (hf : MxF w) :
    Calls Tryd.prog 16 #[.string a] w fun e w' => e = .returned (.string c) ∧ Below w.heap.size w w' := by
  rw [← hc, ← mxT_yes a ha]; exact MixColumns_impl a w hf
theorem MixS_16 (a c : ByteArray) (ha : a.size = 16) (hc : mxS a = c) (w : World) :
    Calls Tryd.prog 20 #[.string a] w fun e w' => e = .returned (.string c) ∧ Below w.heap.size w w' := by
  rw [← hc, ← mxT_yes a ha, ← each_mx]; exact MixColumns_spec a w
theorem Shift_16 (a c : ByteArray) (ha : a.size = 16) (hc : shS 1 a = c) (w : World) :
    Calls Tryd.prog 26 #[.string a] w fun e w' => e = .returned (.string c) ∧ Below w.heap.size w w' := by
  rw [← hc, ← shT_yes 1 a ha]; exact ShiftRows_impl a w
theorem cat_is (a b c : ByteArray) (h : a ++ b = c) (ha : a.size ≤ 1000) (hb : b.size ≤ 1000) (W : World) : (Op.stringOp .add a b).run Tryd.prog W = .ok (.string c) W := by
  rw [← h]; exact run_string_add_sum (P := Tryd.prog) (w := W) a b (by omega)
set_option maxRecDepth 100000 in
set_option maxHeartbeats 3200000 in
theorem walk_FnMix (a0 : Option Addr) (len0 cap0 : Nat) (z0 : List Int) (w : World) (w0 : IsRow .u8 w a0 len0 cap0 z0) (hf : MxF w) :
    Calls Tryd.prog 5 #[.slice a0 len0 cap0] w fun e w' => e = .returned (.bool true) ∧ Below w.heap.size w w' := by
  obtain ⟨hcode, hlen⟩ := w0.code
  clear w0
  by_cases hl : len0 ≤ 1048576
  · have H := Lib.hid hcode
    have HF : Hid (∀ W, Below w.heap.size w W → MxF W) := Lib.hid (fun W hW => hf.below hW (Nat.le_refl _))
    obtain ⟨v, HAT⟩ := at_told 1 (by omega) w a0 len0 cap0 hcode hl
    have hv := v.toNat_lt
    have hv2 : (v.toNat : Int) < 256 := by omega
    clear hcode hf hv
    go_enter Tryd.func5, Tryd.ntmps5
    go_wp2_with fail
    refine (big_small _ _ _ _ hl).mono ?_; rintro e w' ⟨rfl, rfl⟩
    go_wp2_with fail
    refine (bytes_law 0 16 (by omega) _ _ _ _ H.out hl).mono ?_; rintro e w1 ⟨a, rfl, ha, hb1⟩
    have HC := Lib.hid ((H.out.below hb1 (Nat.le_refl _)).up hb1.size)
    go_wp2_with fail
    refine (bytes_law 20 16 (by omega) _ _ _ _ HC.out hl).mono ?_; rintro e w2 ⟨b, rfl, hb, hb2⟩
    have hbb := hb1.trans (hb2.mono hb1.size)
    clear hb1 hb2 HC
    obtain ⟨x, hx⟩ : ∃ x, xorS a b = x := ⟨_, rfl⟩
    have hx16 : x.size = 16 := by rw [← hx]; exact xorS_size _ _
    obtain ⟨y, hy⟩ : ∃ y, mxS x = y := ⟨_, rfl⟩
    obtain ⟨p, hp⟩ : ∃ p, mxS a = p := ⟨_, rfl⟩
    have hp16 : p.size = 16 := by rw [← hp]; exact mxS_size _
    obtain ⟨q, hq⟩ : ∃ q, mxS b = q := ⟨_, rfl⟩
    have hq16 : q.size = 16 := by rw [← hq]; exact mxS_size _
    have hpq : xorS p q = y := by rw [← hp, ← hq, ← mxS_xor, hx, hy]
    obtain ⟨z, hz⟩ : ∃ z, shS 1 x = z := ⟨_, rfl⟩
    obtain ⟨r, hr⟩ : ∃ r, shS 1 a = r := ⟨_, rfl⟩
    have hr16 : r.size = 16 := by rw [← hr]; exact shS_size _ _
    obtain ⟨s, hs⟩ : ∃ s, shS 1 b = s := ⟨_, rfl⟩
    have hs16 : s.size = 16 := by rw [← hs]; exact shS_size _ _
    have hrs : xorS r s = z := by rw [← hr, ← hs, ← shS_xor, hx, hz]
    have c1 := fun W => Lib.hid (XorI_16 a b ha hb x hx W)
    have c2 := fun W hW => Lib.hid (Mix_16 x y hx16 hy W (HF.out W hW))
    have c3 := fun W => Lib.hid (XorS_16 a b ha hb x hx W)
    have c4 := fun W => Lib.hid (MixS_16 x y hx16 hy W)
    have c5 := fun W hW => Lib.hid (Mix_16 a p ha hp W (HF.out W hW))
    have c6 := fun W hW => Lib.hid (Mix_16 b q hb hq W (HF.out W hW))
    have c7 := fun W => Lib.hid (XorI_16 p q hp16 hq16 y hpq W)
    have c9 := fun W => Lib.hid (Shift_16 x z hx16 hz W)
    have c10 := fun W => Lib.hid (Shift_16 a r ha hr W)
    have c11 := fun W => Lib.hid (Shift_16 b s hb hs W)
    have c12 := fun W => Lib.hid (XorI_16 r s hr16 hs16 z hrs W)
    have hlit := fun W => lit_v v W
    have hF0 : putW (mkW v v v v) = outW (fun _ => mkW v v v v) 1 := outW_1 (fun _ => mkW v v v v)
    obtain ⟨k1, hk1⟩ : ∃ k, putW (mkW v v v v) = k := ⟨_, rfl⟩
    obtain ⟨k2, hk2⟩ : ∃ k, outW (fun _ => mkW v v v v) 2 = k := ⟨_, rfl⟩
    obtain ⟨k3, hk3⟩ : ∃ k, outW (fun _ => mkW v v v v) 3 = k := ⟨_, rfl⟩
    obtain ⟨k4, hk4⟩ : ∃ k, outW (fun _ => mkW v v v v) 4 = k := ⟨_, rfl⟩
    have u1 := outW_up (fun _ => mkW v v v v) 1
    have u2 := outW_up (fun _ => mkW v v v v) 2
    have u3 := outW_up (fun _ => mkW v v v v) 3
    have z1 : k1.size = 4 := by rw [← hk1]; rfl
    have z2 : k2.size = 8 := by rw [← hk2]; exact outW_size _ 2
    have z3 : k3.size = 12 := by rw [← hk3]; exact outW_size _ 3
    have z4 : k4.size = 16 := by rw [← hk4]; exact outW_size _ 4
    have hmk : mxT k4 = k4 := by rw [← hk4, outW_4]; exact ofW_alike v
    rw [hk1] at hF0
    simp only [hk1, ← hF0, hk2, hk3, hk4] at u1 u2 u3
    simp only [hk1] at hlit
    have t1 := fun W => cat_is k1 k1 k2 u1 (by omega) (by omega) W
    have t2 := fun W => cat_is k2 k1 k3 u2 (by omega) (by omega) W
    have t3 := fun W => cat_is k3 k1 k4 u3 (by omega) (by omega) W
    have c8 := fun W hW => Lib.hid (MixColumns_impl k4 W (HF.out W hW))
    rw [hmk] at c8
    have s1 : (k1.size : Int) + (k1.size : Int) ≤ 140737488355328 := by omega
    have s2 : (k2.size : Int) + (k1.size : Int) ≤ 140737488355328 := by omega
    have s3 : (k3.size : Int) + (k1.size : Int) ≤ 140737488355328 := by omega
    clear hx hx16 hy hp hp16 hq hq16 hpq hz hr hr16 hs hs16 hrs ha hb hF0 hk1 hk2 hk3 hk4 u1 u2 u3 hmk z1 z2 z3 z4 HF
    go_wp2_with fail
    refine ((c1 _).out).mono ?_; rintro e wq ⟨rfl, hq⟩
    replace hbb := hbb.trans (hq.mono hbb.size)
    clear hq
    go_wp2_with fail
    refine ((c2 _ hbb).out).mono ?_; rintro e wq ⟨rfl, hq⟩
    replace hbb := hbb.trans (hq.mono hbb.size)
    clear hq
    go_wp2_with fail
    refine ((HAT _ hbb).out).mono ?_; rintro e w' ⟨rfl, rfl⟩
    go_wp2_with fail
    refine ((HAT _ hbb).out).mono ?_; rintro e w' ⟨rfl, rfl⟩
    go_wp2_with fail
    refine ((HAT _ hbb).out).mono ?_; rintro e w' ⟨rfl, rfl⟩
    go_wp2_with fail
    refine ((HAT _ hbb).out).mono ?_; rintro e w' ⟨rfl, rfl⟩
    go_wp2_with fail
    refine ((c3 _).out).mono ?_; rintro e wq ⟨rfl, hq⟩
    have hb3 := (hbb.alloc hbb.size _).trans (hq.mono (by have := hbb.size; simp; omega))
    replace hbb := hb3
    clear hb3 hq
    go_wp2_with fail
    refine ((c4 _).out).mono ?_; rintro e wq ⟨rfl, hq⟩
    replace hbb := hbb.trans (hq.mono hbb.size)
    clear hq
    go_wp2_with fail
    refine ((c5 _ hbb).out).mono ?_; rintro e wq ⟨rfl, hq⟩
    replace hbb := hbb.trans (hq.mono hbb.size)
    clear hq
    go_wp2_with fail
    refine ((c6 _ hbb).out).mono ?_; rintro e wq ⟨rfl, hq⟩
    replace hbb := hbb.trans (hq.mono hbb.size)
    clear hq
    go_wp2_with fail
    refine ((c7 _).out).mono ?_; rintro e wq ⟨rfl, hq⟩
    replace hbb := hbb.trans (hq.mono hbb.size)
    clear hq
    go_wp2_with fail
    refine ((c8 _ hbb).out).mono ?_; rintro e wq ⟨rfl, hq⟩
    replace hbb := hbb.trans (hq.mono hbb.size)
    clear hq
    go_wp2_with fail
    refine ((c1 _).out).mono ?_; rintro e wq ⟨rfl, hq⟩
    replace hbb := hbb.trans (hq.mono hbb.size)
    clear hq
    go_wp2_with fail
    refine ((c9 _).out).mono ?_; rintro e wq ⟨rfl, hq⟩
    replace hbb := hbb.trans (hq.mono hbb.size)
    clear hq
    go_wp2_with fail
    refine ((c10 _).out).mono ?_; rintro e wq ⟨rfl, hq⟩
    replace hbb := hbb.trans (hq.mono hbb.size)
    clear hq
    go_wp2_with fail
    refine ((c11 _).out).mono ?_; rintro e wq ⟨rfl, hq⟩
    replace hbb := hbb.trans (hq.mono hbb.size)
    clear hq
    go_wp2_with fail
    refine ((c12 _).out).mono ?_; rintro e wq ⟨rfl, hq⟩
    replace hbb := hbb.trans (hq.mono hbb.size)
    clear hq
    go_wp2
    go_ret
    exact ⟨rfl, hbb⟩
  · go_enter Tryd.func5, Tryd.ntmps5
    go_wp2_with fail
    refine (big_great _ _ _ _ (by omega) hlen).mono ?_; rintro e w' ⟨rfl, rfl⟩
    go_wp2
    go_ret
    exact ⟨rfl, Below.refl _ _⟩
end Go.Proofs.YtbgjeipgmlcgaaaDoor
