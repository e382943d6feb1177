/-
  The walks of laws.FnExactBlockHash and laws.FnBlockHash.
-/
import Derived.Test.YtbcaldhcgoclgaaHashI
import Derived.Test.YtbcaldhcgoclgaaHashS
import Derived.Test.YtbcaldhcgoclgaaW69
import Derived.Deep.RegionHeld3
set_option linter.unusedVariables false
set_option linter.unusedSimpArgs false
namespace Go.Proofs.Ytbcaldhcgoclgaa
open Go.RowKit

set_option maxHeartbeats 800000 in
theorem walk_FnExactBlockHash (a0 a1 : ByteArray) (w0 : a0.size ≤ maxLen) (w1 : a1.size ≤ maxLen) (w : World) :
    Calls Try.prog 6 #[.string a0, .string a1] w fun e w' => e = .returned (.bool true) ∧ Below w.heap.size w w' := by
  unfold maxLen at w0 w1
  have h0 : (a0.size : Int) ≤ 9223372036854775807 := by omega
  have h1 : (a1.size : Int) ≤ 9223372036854775807 := by omega
  by_cases hs : (1048576 : Int) < a0.size
  · go_enter Try.func6, Try.ntmps6
    go_wp2
    go_ret
    exact ⟨rfl, Below.refl _ _⟩
  · by_cases hs1 : (1048576 : Int) < a1.size
    · go_enter Try.func6, Try.ntmps6
      go_wp2
      go_ret
      exact ⟨rfl, Below.refl _ _⟩
    · have H1 := fun W => Lib.hid (BlockHash_spec a0 a1 (by omega) W)
      have H2 := fun W => Lib.hid (BlockHash_impl a0 a1 (by omega) W)
      generalize hsI a0 a1 = b at *
      go_enter Try.func6, Try.ntmps6
      go_wp2_with fail
      refine (H1 _).out.mono ?_; rintro e w1 ⟨rfl, hb1⟩
      go_wp2_with fail
      refine (H2 _).out.mono ?_; rintro e w2 ⟨rfl, hb2⟩
      have hb := hb1.trans (hb2.mono hb1.size)
      clear hb1 hb2
      go_wp2
      go_ret
      exact ⟨rfl, hb⟩
theorem hash_is (h s r : ByteArray) (hs : s.size ≤ 1073741824) (e : hsI h s = r) (w : World) :
    Calls Try.prog 14 #[.string h, .string s] w fun e w' => e = .returned (.string r) ∧ Below w.heap.size w w' := by
  rw [← e]; exact BlockHash_impl h s hs w
theorem hash_sp (h s r : ByteArray) (hs : s.size ≤ 1073741824) (e : hsI h s = r) (w : World) :
    Calls Try.prog 15 #[.string h, .string s] w fun e w' => e = .returned (.string r) ∧ Below w.heap.size w w' := by
  rw [← e]; exact BlockHash_spec h s hs w
/-- sixteen bytes 0, made by the call. -/
def ZZ (w : World) (g : Nat) : Prop := w.heap[g]? = some (.cells (mk8 16) 5 (0, 0))
theorem ZZ.lt {w : World} {g : Nat} (h : ZZ w g) : g < w.heap.size := (Array.getElem?_eq_some_iff.1 h).1
theorem zero_up {w w' : World} {g : Nat} (h : ZZ w g) (hb : Below w.heap.size w w') : ZZ w' g := (hb.block g h.lt).trans h
theorem zero_conv {w : World} {g : Nat} (h : ZZ w g) : (convert 22 9 (.slice (some ⟨g, 0, none⟩) 16 16)).run Try.prog w = .ok (.string zer16) w := by
  have h2 := made_conv (by omega) h
  rw [zer16_txt] at h2
  exact h2
set_option maxRecDepth 100000 in
set_option maxHeartbeats 3200000 in
theorem walk_FnBlockHash (a0 : Option Addr) (len0 cap0 : Nat) (z0 : List Int) (w : World) (w0 : IsRow .u8 w a0 len0 cap0 z0) :
    Calls Try.prog 4 #[.slice a0 len0 cap0] w fun e w' => e = .returned (.bool true) ∧ Below w.heap.size w w' := by
  obtain ⟨hcode, hlen⟩ := w0.code
  clear w0
  by_cases hl : len0 ≤ 1048576
  · have H := Lib.hid hcode
    clear hcode
    go_enter Try.func4, Try.ntmps4
    go_wp2_with fail
    refine (big_small _ _ _ _ hl).mono ?_; rintro e w' ⟨rfl, rfl⟩
    go_wp2_with fail
    refine (draw_BlockHash _ _ _ _ H.out hl).mono ?_; rintro e w1 ⟨h, s, rfl, hh, hs, hb1⟩
    have hbb := hb1
    clear hb1
    obtain ⟨x, hx⟩ : ∃ x, hsI h s = x := ⟨_, rfl⟩
    have c1 := fun W => Lib.hid (hash_is h s x (by omega) hx W)
    have c2 := fun W => Lib.hid (hash_sp h s x (by omega) hx W)
    go_wp2_with fail
    refine ((c1 _).out).mono ?_; rintro e wq ⟨rfl, hq⟩
    replace hbb := hbb.trans (hq.mono hbb.size)
    clear hq
    go_wp2_with fail
    refine ((c2 _).out).mono ?_; rintro e wq ⟨rfl, hq⟩
    replace hbb := hbb.trans (hq.mono hbb.size)
    clear hq
    by_cases h16 : h.size = 16
    · have kh : (h.size : Int) = 16 := by omega
      obtain ⟨i0, hi, hz0, hz1, hz2⟩ := info_parts Try.info5
      have HMK : ∀ W : World, Below w.heap.size w W → ∃ W', (Instr.makeSlice 22 (.int .i64 16) (.int .i64 16)).run Try.prog W = .ok (.slice (some ⟨W.heap.size, 0, none⟩) 16 16) W' ∧ Below w.heap.size w W' ∧ ZZ W' W.heap.size := fun W hW => ⟨_, run_make8 Try.underlying22 hi hz0 hz1 hz2 16 16 (by omega) (by omega) W, hW.alloc hW.size _, heap_alloc_new W _⟩
      have hr : (s.size : Int).tmod 16 = ((s.size % 16 : Nat) : Int) := by rw [Int.tmod_eq_emod_of_nonneg (by omega)]; omega
      have hr2 : ((16 : Int) - ((s.size % 16 : Nat) : Int)).tmod 16 = ((zpN s : Nat) : Int) := by rw [Int.tmod_eq_emod_of_nonneg (by omega), zpN_mod]; omega
      have hzl := zpN_lt s
      have hmk : ∀ W : World, (Instr.makeSlice 22 (.int .i64 ((zpN s : Nat) : Int)) (.int .i64 ((zpN s : Nat) : Int))).run Try.prog W = .ok (.slice (some ⟨W.heap.size, 0, none⟩) (zpN s) (zpN s)) (W.alloc (.cells (mk8 (zpN s)) 5)) := fun W => run_make8 Try.underlying22 hi hz0 hz1 hz2 (zpN s) (zpN s) (Nat.le_refl _) (by omega) W
      have hcv : ∀ W : World, (convert 22 9 (.slice (some ⟨W.heap.size, 0, none⟩) (zpN s) (zpN s))).run Try.prog (W.alloc (.cells (mk8 (zpN s)) 5)) = .ok (.string (txt (fun _ => 0) (zpN s))) (W.alloc (.cells (mk8 (zpN s)) 5)) := fun W => made_conv (by omega) (heap_alloc_new W _)
      have hcat : s ++ txt (fun _ => 0) (zpN s) = zpT s := rfl
      have hz : (txt (fun _ => 0) (zpN s)).size = zpN s := txt_size _ _
      have htot : ¬ 9223372036854775807 < s.size + zpN s := by omega
      have hzs := zpT_size s
      rw [hsI_yes h s h16] at hx
      have hx16 : x.size = 16 := by rw [← hx]; exact hsT_size _ _
      have kx : (x.size : Int) = 16 := by omega
      have e1 : hsI h (zpT s) = x := by rw [hsI_yes h _ h16, hsT_zp, hx]
      have e5 : hsI h ⟨#[]⟩ = zer16 := by rw [hsI_yes h _ h16]; exact hsT_nil h
      have e2 : ∀ b : ByteArray, b.size = 16 → hsI h (zpT s ++ b) = tmB (xorS x b) h := fun b hb => by rw [hsI_yes h _ h16, hsT_more h s b hb, hx]
      have d1 := fun W => Lib.hid (hash_is h (zpT s) x (by rw [hzs]; omega) e1 W)
      have d5 := fun W => Lib.hid (hash_is h ⟨#[]⟩ zer16 (by show 0 ≤ 1073741824; omega) e5 W)
      have hmod1 : ((s.size % 16 : Nat) : Int) < 16 := by omega
      have hmod0 : (0 : Int) ≤ ((s.size % 16 : Nat) : Int) := by omega
      have hzn1 : ((zpN s : Nat) : Int) < 16 := by omega
      have hzn0 : (0 : Int) ≤ ((zpN s : Nat) : Int) := by omega
      have hs1 : (s.size : Int) ≤ 1000 := by omega
      clear c1 c2 hx e1 e5 hi hz0 hz1 hz2 hh
      obtain ⟨wl, hwl⟩ : ∃ wl, zpT s = wl := ⟨_, rfl⟩
      rw [hwl] at hcat hzs e2 d1
      have hwz : wl.size ≤ 1100 := by rw [hzs]; omega
      clear hwl hzs
      generalize txt (fun _ => 0) (zpN s) = o15 at *
      generalize zpN s = n at *
      generalize s.size % 16 = r at *
      go_wp2_with fail
      replace hbb := hbb.alloc hbb.size (.cells (mk8 n) 5)
      refine (bytes_law 5 16 (by omega) _ _ _ _ ((H.out.below hbb (Nat.le_refl _)).up hbb.size) hl).mono ?_; rintro e w2 ⟨b, rfl, hb, hq⟩
      replace hbb := hbb.trans (hq.mono hbb.size)
      clear hq
      obtain ⟨u, hu⟩ : ∃ u, xorS x b = u := ⟨_, rfl⟩
      obtain ⟨y, hy⟩ : ∃ y, tmB u h = y := ⟨_, rfl⟩
      obtain ⟨wb, hwb⟩ : ∃ wb, wl ++ b = wb := ⟨_, rfl⟩
      have hu16 : u.size = 16 := by rw [← hu]; exact xorS_size _ _
      have hwbs : wb.size ≤ 1073741824 := by rw [← hwb, ByteArray.size_append]; omega
      have d2 := fun W => Lib.hid (hash_is h wb y hwbs (by rw [← hwb, e2 b hb, hu, hy]) W)
      have d3 := fun W => Lib.hid (gfxor_is x b u hx16 hb hu W)
      have d4 := fun W => Lib.hid (times_is u h y (by rw [tmI_yes u h hu16 h16, hy]) W)
      have hct : ¬ 9223372036854775807 < wl.size + 16 := by omega
      have hct2 : ¬ 9223372036854775807 < wl.size + b.size := by omega
      clear hu hy hu16 hwbs e2 hx16 h16 hmk hcv hcat hz htot hr hr2
      go_wp2_with fail
      refine wp_region_held_drew (S := fun W => Below w.heap.size w W) (by kernel_rfl) hbb.drew (fun hS => ?_)
      refine tk 0 (v := ?_) ?_ hS ?_
      rotate_left
      · intro w hSw
        go_simp
        first | done | with_reducible rfl
      try simp only [lay]
      refine tk 1 (v := ?_) ?_ hS ?_
      rotate_left
      · intro w hSw
        go_simp
        first | done | with_reducible rfl
      try simp only [lay]
      refine tk 2 (v := ?_) ?_ hS ?_
      rotate_left
      · intro w hSw
        go_simp
        first | done | with_reducible rfl
      try simp only [lay]
      refine tk 3 (v := ?_) ?_ hS ?_
      rotate_left
      · intro w hSw
        go_simp
        first | done | with_reducible rfl
      try simp only [lay]
      refine tk 4 (v := ?_) ?_ hS ?_
      rotate_left
      · intro w hSw
        go_simp
        first | done | with_reducible rfl
      try simp only [lay]
      refine tk 5 (v := ?_) ?_ hS ?_
      rotate_left
      · intro w hSw
        go_simp
        first | done | with_reducible rfl
      try simp only [lay]
      refine tk 7 (v := ?_) ?_ hS ?_
      rotate_left
      · intro w hSw
        go_simp
        first | done | with_reducible rfl
      try simp only [lay]
      refine wpAnyH_ready (rs := [6]) (by kernel_rfl) (by simp) ?_
      refine AllReadyH.cons rfl (fun K hK => ?_) AllReadyH.nil
      go_simp
      refine ((d1 _).out).mono ?_; rintro e x1 ⟨rfl, hq⟩
      have hS1 := hS.trans (hq.mono hS.size)
      clear hq
      refine hK.out _ _ hS1 (fun _ => ?_)
      clear hK K
      try simp only [lay]
      refine tk 8 (v := ?_) ?_ hS1 ?_
      rotate_left
      · intro w hSw
        go_simp
        first | done | with_reducible rfl
      try simp only [lay]
      refine tk 9 (v := ?_) ?_ hS1 ?_
      rotate_left
      · intro w hSw
        go_simp
        first | done | with_reducible rfl
      try simp only [lay]
      refine tk 10 (v := ?_) ?_ hS1 ?_
      rotate_left
      · intro w hSw
        go_simp
        first | done | with_reducible rfl
      try simp only [lay]
      refine tk 11 (v := ?_) ?_ hS1 ?_
      rotate_left
      · intro w hSw
        go_simp
        first | done | with_reducible rfl
      try simp only [lay]
      refine tk 12 (v := ?_) ?_ hS1 ?_
      rotate_left
      · intro w hSw
        go_simp
        first | done | with_reducible rfl
      try simp only [lay]
      refine tk 13 (v := ?_) ?_ hS1 ?_
      rotate_left
      · intro w hSw
        go_simp
        first | done | with_reducible rfl
      try simp only [lay]
      refine tk 14 (v := ?_) ?_ hS1 ?_
      rotate_left
      · intro w hSw
        go_simp
        first | done | with_reducible rfl
      try simp only [lay]
      refine tk 16 (v := ?_) ?_ hS1 ?_
      rotate_left
      · intro w hSw
        go_simp
        first | done | with_reducible rfl
      try simp only [lay]
      refine tk 17 (v := ?_) ?_ hS1 ?_
      rotate_left
      · intro w hSw
        go_simp
        first | done | with_reducible rfl
      try simp only [lay]
      refine tk 19 (v := ?_) ?_ hS1 ?_
      rotate_left
      · intro w hSw
        go_simp
        first | done | with_reducible rfl
      try simp only [lay]
      refine wpAnyH_ready (rs := [15]) (by kernel_rfl) (by simp) ?_
      refine AllReadyH.cons rfl (fun K hK => ?_) AllReadyH.nil
      go_simp
      refine ((d2 _).out).mono ?_; rintro e x2 ⟨rfl, hq⟩
      have hS2 := hS1.trans (hq.mono hS1.size)
      clear hq
      refine hK.out _ _ hS2 (fun _ => ?_)
      clear hK K
      try simp only [lay]
      refine wpAnyH_ready (rs := [18]) (by kernel_rfl) (by simp) ?_
      refine AllReadyH.cons rfl (fun K hK => ?_) AllReadyH.nil
      go_simp
      refine ((d3 _).out).mono ?_; rintro e x3 ⟨rfl, hq⟩
      have hS3 := hS2.trans (hq.mono hS2.size)
      clear hq
      refine hK.out _ _ hS3 (fun _ => ?_)
      clear hK K
      try simp only [lay]
      refine wpAnyH_ready (rs := [20]) (by kernel_rfl) (by simp) ?_
      refine AllReadyH.cons rfl (fun K hK => ?_) AllReadyH.nil
      go_simp
      refine ((d4 _).out).mono ?_; rintro e x4 ⟨rfl, hq⟩
      have hS4 := hS3.trans (hq.mono hS3.size)
      clear hq
      refine hK.out _ _ hS4 (fun _ => ?_)
      clear hK K
      try simp only [lay]
      refine tk 21 (v := ?_) ?_ hS4 ?_
      rotate_left
      · intro w hSw
        go_simp
        first | done | with_reducible rfl
      try simp only [lay]
      refine tk 22 (v := ?_) ?_ hS4 ?_
      rotate_left
      · intro w hSw
        go_simp
        first | done | with_reducible rfl
      try simp only [lay]
      refine tk 23 (v := ?_) ?_ hS4 ?_
      rotate_left
      · intro w hSw
        go_simp
        first | done | with_reducible rfl
      try simp only [lay]
      refine tk 24 (v := ?_) ?_ hS4 ?_
      rotate_left
      · intro w hSw
        go_simp
        first | done | with_reducible rfl
      try simp only [lay]
      refine wpAnyH_ready (rs := [25, 26]) (by kernel_rfl) (by simp) ?_
      refine AllReadyH.cons rfl (fun K hK => ?_) (AllReadyH.cons rfl (fun K hK => ?_) AllReadyH.nil)
      · go_simp
        refine ((d5 _).out).mono ?_; rintro e x5 ⟨rfl, hq⟩
        have hS5 := hS4.trans (hq.mono hS4.size)
        clear hq
        refine hK.out _ _ hS5 (fun _ => ?_)
        clear hK K
        try simp only [lay]
        refine wpAnyH_ready (rs := [26]) (by kernel_rfl) (by simp) ?_
        refine AllReadyH.cons rfl (fun K hK => ?_) AllReadyH.nil
        have hmk := HMK _ hS5
        obtain ⟨x6, hmk1, hS6, HZ⟩ := hmk
        have HZ1 := Lib.hid HZ
        clear HZ
        go_simp
        refine hK.out _ _ hS6 (fun _ => ?_)
        clear hK K hmk1
        try simp only [lay]
        refine wpAnyH_ready (rs := [27]) (by kernel_rfl) (by simp) ?_
        refine AllReadyH.cons rfl (fun K hK => ?_) AllReadyH.nil
        have hcv := zero_conv HZ1.out
        go_simp
        refine hK.out _ _ hS6 (fun _ => ?_)
        clear hK K hcv
        try simp only [lay]
        refine tk 28 (v := ?_) ?_ hS6 ?_
        rotate_left
        · intro w hSw
          go_simp
          first | done | with_reducible rfl
        try simp only [lay]
        refine tk 29 (v := ?_) ?_ hS6 ?_
        rotate_left
        · intro w hSw
          go_simp
          first | done | with_reducible rfl
        try simp only [lay]
        refine tk 30 (v := ?_) ?_ hS6 ?_
        rotate_left
        · intro w hSw
          go_simp
          first | done | with_reducible rfl
        try simp only [lay]
        refine wpAnyH_done (by kernel_rfl) ?_ _
        go_wp2
        go_ret
        exact ⟨rfl, hS6⟩
      · have hmk := HMK _ hS4
        obtain ⟨x8, hmk1, hS8, HZ⟩ := hmk
        have HZ1 := Lib.hid HZ
        clear HZ
        go_simp
        refine hK.out _ _ hS8 (fun _ => ?_)
        clear hK K hmk1
        try simp only [lay]
        refine wpAnyH_ready (rs := [25, 27]) (by kernel_rfl) (by simp) ?_
        refine AllReadyH.cons rfl (fun K hK => ?_) (AllReadyH.cons rfl (fun K hK => ?_) AllReadyH.nil)
        · go_simp
          refine ((d5 _).out).mono ?_; rintro e x9 ⟨rfl, hq⟩
          have hS9 := hS8.trans (hq.mono hS8.size)
          have HZ1n := Lib.hid (zero_up HZ1.out hq)
          clear hq
          refine hK.out _ _ hS9 (fun _ => ?_)
          clear hK K
          try simp only [lay]
          refine wpAnyH_ready (rs := [27]) (by kernel_rfl) (by simp) ?_
          refine AllReadyH.cons rfl (fun K hK => ?_) AllReadyH.nil
          have hcv := zero_conv HZ1n.out
          go_simp
          refine hK.out _ _ hS9 (fun _ => ?_)
          clear hK K hcv
          try simp only [lay]
          refine tk 28 (v := ?_) ?_ hS9 ?_
          rotate_left
          · intro w hSw
            go_simp
            first | done | with_reducible rfl
          try simp only [lay]
          refine tk 29 (v := ?_) ?_ hS9 ?_
          rotate_left
          · intro w hSw
            go_simp
            first | done | with_reducible rfl
          try simp only [lay]
          refine tk 30 (v := ?_) ?_ hS9 ?_
          rotate_left
          · intro w hSw
            go_simp
            first | done | with_reducible rfl
          try simp only [lay]
          refine wpAnyH_done (by kernel_rfl) ?_ _
          go_wp2
          go_ret
          exact ⟨rfl, hS9⟩
        · have hcv := zero_conv HZ1.out
          go_simp
          refine hK.out _ _ hS8 (fun _ => ?_)
          clear hK K hcv
          try simp only [lay]
          refine wpAnyH_ready (rs := [25]) (by kernel_rfl) (by simp) ?_
          refine AllReadyH.cons rfl (fun K hK => ?_) AllReadyH.nil
          go_simp
          refine ((d5 _).out).mono ?_; rintro e x12 ⟨rfl, hq⟩
          have hS12 := hS8.trans (hq.mono hS8.size)
          have HZ1n := Lib.hid (zero_up HZ1.out hq)
          clear hq
          refine hK.out _ _ hS12 (fun _ => ?_)
          clear hK K
          try simp only [lay]
          refine tk 28 (v := ?_) ?_ hS12 ?_
          rotate_left
          · intro w hSw
            go_simp
            first | done | with_reducible rfl
          try simp only [lay]
          refine tk 29 (v := ?_) ?_ hS12 ?_
          rotate_left
          · intro w hSw
            go_simp
            first | done | with_reducible rfl
          try simp only [lay]
          refine tk 30 (v := ?_) ?_ hS12 ?_
          rotate_left
          · intro w hSw
            go_simp
            first | done | with_reducible rfl
          try simp only [lay]
          refine wpAnyH_done (by kernel_rfl) ?_ _
          go_wp2
          go_ret
          exact ⟨rfl, hS12⟩
    · have kh : ¬ (h.size : Int) = 16 := by omega
      rw [hsI_no h s h16] at hx
      subst hx
      clear c1 c2 hh hs h16
      go_wp2
      go_ret
      exact ⟨rfl, hbb⟩
  · go_enter Try.func4, Try.ntmps4
    go_wp2_with fail
    refine (big_great _ _ _ _ (by omega) hlen).mono ?_; rintro e w' ⟨rfl, rfl⟩
    go_wp2
    go_ret
    exact ⟨rfl, Below.refl _ _⟩
end Go.Proofs.Ytbcaldhcgoclgaa
