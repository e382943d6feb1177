/-
  The walks of laws.FnPad and FnUnpad.
-/
import Derived.Test.YtlmbgkcchekdmaaUnpadI
import Derived.Test.YtlmbgkcchekdmaaPadDraw
import Derived.Test.YtlmbgkcchekdmaaDraws
import Derived.Deep.RegionHeld3
set_option linter.unusedVariables false
set_option linter.unusedSimpArgs false
namespace Go.Proofs.Ytlmbgkcchekdmaa
open Go.RowKit

set_option maxRecDepth 100000 in
set_option maxHeartbeats 3200000 in
theorem walk_FnPad (a0 : Option Addr) (len0 cap0 : Nat) (z0 : List Int) (w : World) (w0 : IsRow .u8 w a0 len0 cap0 z0) :
    Calls Try.prog 3 #[.slice a0 len0 cap0] w fun e w' => e = .returned (.bool true) ∧ Below w.heap.size w w' := by
  obtain ⟨hcode, hlen⟩ := w0.code
  clear w0
  by_cases hl : len0 ≤ 1048576
  · have H := Lib.hid hcode
    clear hcode
    go_enter Try.func3, Try.ntmps3
    go_wp2_with fail
    refine (big_small _ _ _ _ hl).mono ?_; rintro e w' ⟨rfl, rfl⟩
    go_wp2_with fail
    refine (draw_Pad _ _ _ _ H.out hl).mono ?_; rintro e w1 ⟨s, rfl, hs, hb1⟩
    have HC := Lib.hid ((H.out.below hb1 (Nat.le_refl _)).up hb1.size)
    obtain ⟨x, hx⟩ : ∃ x, padT s = x := ⟨_, rfl⟩
    have hpn := padN_in s
    have hxs : x.size = s.size + padN s := by rw [← hx]; exact padT_size s
    have hxw : x.size % 16 = 0 := by rw [← hx]; exact padT_whole s
    have c1 := fun W => Lib.hid (Pad_impl s (by omega) W)
    have c2 := fun W => Lib.hid (Pad_spec s (by omega) W)
    have c3 := fun W => Lib.hid (Unpad_impl x (by omega) W)
    have hun : unT x = s := by rw [← hx]; exact un_pad s
    have hok : decide (unOk x) = true := by rw [← hx]; exact decide_eq_true (un_pad_ok s)
    simp only [hx, hun, hok] at c1 c2 c3
    have hm : (x.size : Int).tmod 16 = 0 := by rw [Int.tmod_eq_emod_of_nonneg (by omega)]; omega
    have h1 : (s.size : Int) < (x.size : Int) := by omega
    have h2 : (x.size : Int) ≤ (s.size : Int) + 16 := by omega
    have h3 : (s.size : Int) ≤ 1000 := by omega
    clear hx hpn hxs hxw hun hok hs
    have hbb := hb1
    clear hb1
    go_wp2_with fail
    refine ((c1 _).out).mono ?_; rintro e wq ⟨rfl, hq⟩
    replace hbb := hbb.trans (hq.mono hbb.size)
    clear hq
    go_wp2_with fail
    refine (draw_Unpad _ _ _ _ ((H.out.below hbb (Nat.le_refl _)).up hbb.size) hl).mono ?_; rintro e w2 ⟨t, rfl, ht, hq⟩
    replace hbb := hbb.trans (hq.mono hbb.size)
    clear hq HC
    have c4 := fun W => Lib.hid (Unpad_impl t (by omega) W)
    have c5 := fun W => Lib.hid (Unpad_spec t (by omega) W)
    by_cases hu : unOk t
    · have hy : padT (unT t) = t := pad_un t hu
      obtain ⟨y, hyy⟩ : ∃ y, unT t = y := ⟨_, rfl⟩
      have hys : y.size ≤ 1000 := by
        have h5 := congrArg ByteArray.size hy
        rw [padT_size, hyy] at h5
        omega
      have c6 := fun W => Lib.hid (Pad_impl y (by omega) W)
      rw [hyy] at hy
      simp only [hyy, hy, decide_eq_true hu] at c4 c5 c6
      clear hyy hy hys hu ht
      go_wp2_with fail
      refine ((c4 _).out).mono ?_; rintro e wq ⟨rfl, hq⟩
      replace hbb := hbb.trans (hq.mono hbb.size)
      clear hq
      go_wp2_with fail
      refine ((c5 _).out).mono ?_; rintro e wq ⟨rfl, hq⟩
      replace hbb := hbb.trans (hq.mono hbb.size)
      clear hq
      go_wp2_with fail
      refine ((c2 _).out).mono ?_; rintro e wq ⟨rfl, hq⟩
      replace hbb := hbb.trans (hq.mono hbb.size)
      clear hq
      go_wp2_with fail
      refine ((c6 _).out).mono ?_; rintro e wq ⟨rfl, hq⟩
      replace hbb := hbb.trans (hq.mono hbb.size)
      clear hq
      go_wp2_with fail
      refine ((c3 _).out).mono ?_; rintro e wq ⟨rfl, hq⟩
      replace hbb := hbb.trans (hq.mono hbb.size)
      clear hq
      go_wp2
      go_ret
      exact ⟨rfl, hbb⟩
    · obtain ⟨y, hyy⟩ : ∃ y, unT t = y := ⟨_, rfl⟩
      simp only [hyy, decide_eq_false hu] at c4 c5
      clear hyy hu ht
      go_wp2_with fail
      refine ((c4 _).out).mono ?_; rintro e wq ⟨rfl, hq⟩
      replace hbb := hbb.trans (hq.mono hbb.size)
      clear hq
      go_wp2_with fail
      refine ((c5 _).out).mono ?_; rintro e wq ⟨rfl, hq⟩
      replace hbb := hbb.trans (hq.mono hbb.size)
      clear hq
      go_wp2_with fail
      refine ((c2 _).out).mono ?_; rintro e wq ⟨rfl, hq⟩
      replace hbb := hbb.trans (hq.mono hbb.size)
      clear hq
      go_wp2_with fail
      refine ((c3 _).out).mono ?_; rintro e wq ⟨rfl, hq⟩
      replace hbb := hbb.trans (hq.mono hbb.size)
      clear hq
      go_wp2
      go_ret
      exact ⟨rfl, hbb⟩
  · go_enter Try.func3, Try.ntmps3
    go_wp2_with fail
    refine (big_great _ _ _ _ (by omega) hlen).mono ?_; rintro e w' ⟨rfl, rfl⟩
    go_wp2
    go_ret
    exact ⟨rfl, Below.refl _ _⟩
/-- a text whose last byte is b. -/
def endT (s : ByteArray) (b : UInt8) : ByteArray := s.extract 0 (s.size - 1) ++ ⟨#[b]⟩
theorem endT_size (s : ByteArray) (b : UInt8) (h : 0 < s.size) : (endT s b).size = s.size := by
  unfold endT
  rw [ByteArray.size_append, ByteArray.size_extract]
  show _ + 1 = _
  omega
theorem endT_last (s : ByteArray) (b : UInt8) (h : 0 < s.size) : lastN (endT s b) = b.toNat := by
  unfold lastN
  rw [endT_size s b h]
  unfold endT
  have hs : (s.extract 0 (s.size - 1)).size = s.size - 1 := by rw [ByteArray.size_extract]; omega
  rw [bo_app, hs, if_neg (by omega), Nat.sub_self]
  rfl
theorem end_zero (s : ByteArray) (h : 0 < s.size) : decide (unOk (endT s 0)) = false :=
  decide_eq_false (unOk_not_last _ (by rw [endT_last s 0 h]; decide))
theorem end_many (s : ByteArray) (h : 0 < s.size) : decide (unOk (endT s 17)) = false :=
  decide_eq_false (unOk_not_last _ (by rw [endT_last s 17 h]; decide))
theorem end_one (s : ByteArray) (h : 0 < s.size) (h2 : s.size % 16 = 0) : decide (unOk (endT s 1)) = true := by
  refine decide_eq_true ((unOk_iff _).2 ?_)
  rw [endT_last s 1 h, endT_size s 1 h]
  refine ⟨h, h2, by decide, by decide, fun i h3 h4 => ?_⟩
  have : (1 : UInt8).toNat = 1 := rfl
  rw [this] at h3
  congr 1
  omega
theorem end_any (s : ByteArray) (b : UInt8) (h : 0 < s.size) (hu : unOk (endT s b)) : 1 ≤ b.toNat ∧ b.toNat ≤ 16 := by
  have h2 := (unOk_iff _).1 hu
  rw [endT_last s b h] at h2
  exact ⟨h2.2.2.1, h2.2.2.2.1⟩
theorem tail_run (s : ByteArray) (h : 1 ≤ s.size) (W : World) :
    (Instr.slice 9 (.string s) (some (.int .i64 1)) none none).run Try.prog W = .ok (.string (s.extract 1 s.size)) W := by
  rw [run_slice_string_l (P := Try.prog) W 9 s Try.underlying9 .i64 1 (by omega) (by omega)]
  rfl
set_option maxRecDepth 100000 in
set_option maxHeartbeats 3200000 in
theorem walk_FnUnpad (a0 : Option Addr) (len0 cap0 : Nat) (z0 : List Int) (w : World) (w0 : IsRow .u8 w a0 len0 cap0 z0) :
    Calls Try.prog 6 #[.slice a0 len0 cap0] w fun e w' => e = .returned (.bool true) ∧ Below w.heap.size w w' := by
  obtain ⟨hcode, hlen⟩ := w0.code
  clear w0
  by_cases hl : len0 ≤ 1048576
  · have H := Lib.hid hcode
    clear hcode
    go_enter Try.func6, Try.ntmps6
    go_wp2_with fail
    refine (big_small _ _ _ _ hl).mono ?_; rintro e w' ⟨rfl, rfl⟩
    have hA0 := at_any 0 (by omega) w a0 len0 cap0 H.out hl
    go_wp2_with fail
    refine hA0.mono ?_; rintro e w'' ⟨⟨a, rfl, ha⟩, rfl⟩
    obtain ⟨r, hr⟩ : ∃ r, a % 3 = r := ⟨_, rfl⟩
    have hr3 : r < 3 := by omega
    have hm : (a : Int).tmod 3 = (r : Int) := by rw [Int.tmod_eq_emod_of_nonneg (by omega)]; omega
    have hm2 : (a : Int) % 3 = (r : Int) := by omega
    have hr3i : (r : Int) < 3 := by omega
    have hby := bytes_law 3 (16 + 16 * r) (by omega) w a0 len0 cap0 H.out hl
    rw [show ((16 + 16 * r : Nat) : Int) = 16 + 16 * (r : Int) by omega] at hby
    have HBY := Lib.hid hby
    have HA := Lib.hid ha
    clear hby hr ha hA0
    go_wp2_with fail
    refine HBY.out.mono ?_; rintro e w1 ⟨s, rfl, hs, hb1⟩
    have hA1 := at_any 1 (by omega) w1 a0 len0 cap0 ((H.out.below hb1 (Nat.le_refl _)).up hb1.size) hl
    go_wp2_with fail
    refine hA1.mono ?_; rintro e w2 ⟨⟨n, rfl, hn⟩, rfl⟩
    clear hA1 hm hm2 HBY
    have hs0 : 0 < s.size := by omega
    have hs1 : (1 : Int) ≤ (s.size : Int) := by omega
    have hs2 : (s.size : Int) ≤ 48 := by omega
    have hsw : s.size % 16 = 0 := by omega
    obtain ⟨b, rfl⟩ : ∃ b : UInt8, n = b.toNat := ⟨UInt8.ofNat n, by rw [UInt8.toNat_ofNat', Nat.mod_eq_of_lt (by omega)]⟩
    have hsl := fun W => head_run s 1 (by omega) W
    rw [show ((1 : Nat) : Int) = 1 by rfl] at hsl
    have hsa : ∀ W : World, (Instr.sliceAt 9 (.string s) none (some (.int .i64 ((s.size : Int) - 1))) none).run Try.prog W = .ok (.string (s.extract 0 (s.size - 1))) W := fun W => by
      rw [run_sliceAt_string (P := Try.prog) (w := W) 9 _ _ _ _ Try.underlying9]; exact hsl W
    have hstl := fun W => tail_run s (by omega) W
    have hcv : (convert 22 9 (.slice (some ⟨w1.heap.size, 0, none⟩) 1 1)).run Try.prog ((w1.alloc (.cells #[.int .u8 (b.toNat : Int)] 5)).drew) = .ok (.string ⟨#[b]⟩) ((w1.alloc (.cells #[.int .u8 (b.toNat : Int)] 5)).drew) := lit1 b (b.toNat : Int) rfl w1.drew
    have hb2 := Lib.hid ((hb1.alloc hb1.size (.cells #[.int .u8 (b.toNat : Int)] 5)).drew)
    have hwr : IntKind.i64.wrap ((s.size : Int) - 1) = (s.size : Int) - 1 := IntWalk.i64_in _ (by omega)
    have hwb : IntKind.u8.wrap (b.toNat : Int) = (b.toNat : Int) := by rw [IntKind.wrap_u8]; omega
    have hes : (s.extract 0 (s.size - 1)).size = s.size - 1 := by rw [ByteArray.size_extract]; omega
    have h1s : ∀ c : UInt8, (⟨#[c]⟩ : ByteArray).size = 1 := fun c => rfl
    have hct := fun c W => run_string_add_sum (P := Try.prog) (w := W) (s.extract 0 (s.size - 1)) ⟨#[c]⟩ (by rw [hes, h1s]; omega)
    have hcb := hct b
    have hc0 := hct 0
    have hc17 := hct 17
    have hc1 := hct 1
    have c1 := fun W => Lib.hid (Unpad_impl (endT s b) (by rw [endT_size s b hs0]; omega) W)
    have c2 := fun W => Lib.hid (Unpad_spec (endT s b) (by rw [endT_size s b hs0]; omega) W)
    have c3 := fun W => Lib.hid (Unpad_impl (endT s 0) (by rw [endT_size s 0 hs0]; omega) W)
    have c4 := fun W => Lib.hid (Unpad_impl (endT s 17) (by rw [endT_size s 17 hs0]; omega) W)
    have c5 := fun W => Lib.hid (Unpad_impl (endT s 1) (by rw [endT_size s 1 hs0]; omega) W)
    have c6 := fun W => Lib.hid (Unpad_impl (s.extract 1 s.size) (by rw [ByteArray.size_extract]; omega) W)
    have hsh : decide (unOk (s.extract 1 s.size)) = false := decide_eq_false (unOk_not_whole _ (by rw [ByteArray.size_extract]; omega))
    have hany := end_any s b hs0
    simp only [end_zero s hs0, end_many s hs0, end_one s hs0 hsw, hsh] at c3 c4 c5 c6
    have hn1 : (b.toNat : Int) < 256 := by omega
    have hsz : ((s.extract 0 (s.size - 1)).size : Int) + 1 ≤ 48 := by rw [hes]; omega
    clear hs hs0 hsw hes hct h1s hsh hb1 hr3 HA
    unfold endT at c1 c2 c3 c4 c5 hany
    generalize s.extract 0 (s.size - 1) = T at *
    generalize hTb : T ++ ⟨#[b]⟩ = Tb at *
    generalize hT0 : T ++ ⟨#[0]⟩ = T0 at *
    generalize hT17 : T ++ ⟨#[17]⟩ = T17 at *
    generalize hT1 : T ++ ⟨#[1]⟩ = T1 at *
    generalize s.extract 1 s.size = Tl at *
    generalize unT Tb = ub at *
    generalize unT T0 = u0' at *
    generalize unT T17 = u17' at *
    generalize unT T1 = u1' at *
    generalize unT Tl = ul at *
    clear hTb hT0 hT17 hT1
    go_wp2_with fail
    refine wp_region_held_drew (S := fun _ => True) (by kernel_rfl) trivial (fun hS => ?_)
    refine wpAnyH_take (i := 0) (v := ?_) rfl (by kernel_rfl) (by kernel_rfl) (by kernel_rfl) (fun _ _ _ h => h) (Or.inl ⟨by kernel_rfl, ?_⟩) (by assumption) ?_
    rotate_left
    · intro w hSw
      go_simp
      first | done | with_reducible rfl
    try simp only [List.getElem_toArray, List.getElem_cons_succ, List.getElem_cons_zero, Act.put, List.setIfInBounds_toArray, List.set_cons_zero, List.set_cons_succ]
    refine wpAnyH_take (i := 1) (v := ?_) rfl (by kernel_rfl) (by kernel_rfl) (by kernel_rfl) (fun _ _ _ h => h) (Or.inl ⟨by kernel_rfl, ?_⟩) (by assumption) ?_
    rotate_left
    · intro w hSw
      go_simp
      first | done | with_reducible rfl
    try simp only [List.getElem_toArray, List.getElem_cons_succ, List.getElem_cons_zero, Act.put, List.setIfInBounds_toArray, List.set_cons_zero, List.set_cons_succ]
    refine wpAnyH_take (i := 2) (v := ?_) rfl (by kernel_rfl) (by kernel_rfl) (by kernel_rfl) (fun _ _ _ h => h) (Or.inl ⟨by kernel_rfl, ?_⟩) (by assumption) ?_
    rotate_left
    · intro w hSw
      go_simp
      first | done | with_reducible rfl
    try simp only [List.getElem_toArray, List.getElem_cons_succ, List.getElem_cons_zero, Act.put, List.setIfInBounds_toArray, List.set_cons_zero, List.set_cons_succ]
    refine wpAnyH_take (i := 3) (v := ?_) rfl (by kernel_rfl) (by kernel_rfl) (by kernel_rfl) (fun _ _ _ h => h) (Or.inl ⟨by kernel_rfl, ?_⟩) (by assumption) ?_
    rotate_left
    · intro w hSw
      go_simp
      first | done | with_reducible rfl
    try simp only [List.getElem_toArray, List.getElem_cons_succ, List.getElem_cons_zero, Act.put, List.setIfInBounds_toArray, List.set_cons_zero, List.set_cons_succ]
    refine wpAnyH_take (i := 4) (v := ?_) rfl (by kernel_rfl) (by kernel_rfl) (by kernel_rfl) (fun _ _ _ h => h) (Or.inl ⟨by kernel_rfl, ?_⟩) (by assumption) ?_
    rotate_left
    · intro w hSw
      go_simp
      first | done | with_reducible rfl
    try simp only [List.getElem_toArray, List.getElem_cons_succ, List.getElem_cons_zero, Act.put, List.setIfInBounds_toArray, List.set_cons_zero, List.set_cons_succ]
    refine wpAnyH_take (i := 5) (v := ?_) rfl (by kernel_rfl) (by kernel_rfl) (by kernel_rfl) (fun _ _ _ h => h) (Or.inl ⟨by kernel_rfl, ?_⟩) (by assumption) ?_
    rotate_left
    · intro w hSw
      go_simp
      first | done | with_reducible rfl
    try simp only [List.getElem_toArray, List.getElem_cons_succ, List.getElem_cons_zero, Act.put, List.setIfInBounds_toArray, List.set_cons_zero, List.set_cons_succ]
    refine wpAnyH_take (i := 6) (v := ?_) rfl (by kernel_rfl) (by kernel_rfl) (by kernel_rfl) (fun _ _ _ h => h) (Or.inl ⟨by kernel_rfl, ?_⟩) (by assumption) ?_
    rotate_left
    · intro w hSw
      go_simp
      first | done | with_reducible rfl
    try simp only [List.getElem_toArray, List.getElem_cons_succ, List.getElem_cons_zero, Act.put, List.setIfInBounds_toArray, List.set_cons_zero, List.set_cons_succ]
    refine wpAnyH_ready (rs := [7]) (by kernel_rfl) (by simp) ?_
    refine AllReadyH.cons rfl (fun K hK => ?_) AllReadyH.nil
    go_simp
    refine hK.out _ _ trivial (fun _ => ?_)
    clear hK K
    try simp only [List.getElem_toArray, List.getElem_cons_succ, List.getElem_cons_zero, Act.put, List.setIfInBounds_toArray, List.set_cons_zero, List.set_cons_succ]
    refine wpAnyH_ready (rs := [8]) (by kernel_rfl) (by simp) ?_
    refine AllReadyH.cons rfl (fun K hK => ?_) AllReadyH.nil
    go_simp
    refine hK.out _ _ trivial (fun _ => ?_)
    clear hK K
    try simp only [List.getElem_toArray, List.getElem_cons_succ, List.getElem_cons_zero, Act.put, List.setIfInBounds_toArray, List.set_cons_zero, List.set_cons_succ]
    refine wpAnyH_take (i := 9) (v := ?_) rfl (by kernel_rfl) (by kernel_rfl) (by kernel_rfl) (fun _ _ _ h => h) (Or.inl ⟨by kernel_rfl, ?_⟩) (by assumption) ?_
    rotate_left
    · intro w hSw
      go_simp
      first | done | with_reducible rfl
    try simp only [List.getElem_toArray, List.getElem_cons_succ, List.getElem_cons_zero, Act.put, List.setIfInBounds_toArray, List.set_cons_zero, List.set_cons_succ]
    refine wpAnyH_take (i := 10) (v := ?_) rfl (by kernel_rfl) (by kernel_rfl) (by kernel_rfl) (fun _ _ _ h => h) (Or.inl ⟨by kernel_rfl, ?_⟩) (by assumption) ?_
    rotate_left
    · intro w hSw
      go_simp
      first | done | with_reducible rfl
    try simp only [List.getElem_toArray, List.getElem_cons_succ, List.getElem_cons_zero, Act.put, List.setIfInBounds_toArray, List.set_cons_zero, List.set_cons_succ]
    refine wpAnyH_done (by kernel_rfl) ?_ _
    clear hwr hwb
    have hbb := hb2.out
    clear hb2 hcv
    by_cases hu : unOk Tb
    · obtain ⟨hy1, hy2⟩ := hany hu
      have hy3 : (b.toNat : Int) ≤ 16 := by omega
      have hy4 : (0 : Int) < (b.toNat : Int) := by omega
      simp only [decide_eq_true hu] at c1 c2
      clear hany hu hy1 hy2
      go_wp2_with fail
      refine ((c1 _).out).mono ?_; rintro e wq ⟨rfl, hq⟩
      replace hbb := hbb.trans (hq.mono hbb.size)
      clear hq
      go_wp2_with fail
      refine ((c2 _).out).mono ?_; rintro e wq ⟨rfl, hq⟩
      replace hbb := hbb.trans (hq.mono hbb.size)
      clear hq
      go_wp2_with fail
      refine ((c3 _).out).mono ?_; rintro e wq ⟨rfl, hq⟩
      replace hbb := hbb.trans (hq.mono hbb.size)
      clear hq
      go_wp2_with fail
      refine ((c4 _).out).mono ?_; rintro e wq ⟨rfl, hq⟩
      replace hbb := hbb.trans (hq.mono hbb.size)
      clear hq
      go_wp2_with fail
      refine ((c5 _).out).mono ?_; rintro e wq ⟨rfl, hq⟩
      replace hbb := hbb.trans (hq.mono hbb.size)
      clear hq
      go_wp2_with fail
      refine ((c6 _).out).mono ?_; rintro e wq ⟨rfl, hq⟩
      replace hbb := hbb.trans (hq.mono hbb.size)
      clear hq
      go_wp2
      go_ret
      exact ⟨rfl, hbb⟩
    · simp only [decide_eq_false hu] at c1 c2
      clear hany hu
      go_wp2_with fail
      refine ((c1 _).out).mono ?_; rintro e wq ⟨rfl, hq⟩
      replace hbb := hbb.trans (hq.mono hbb.size)
      clear hq
      go_wp2_with fail
      refine ((c2 _).out).mono ?_; rintro e wq ⟨rfl, hq⟩
      replace hbb := hbb.trans (hq.mono hbb.size)
      clear hq
      go_wp2_with fail
      refine ((c3 _).out).mono ?_; rintro e wq ⟨rfl, hq⟩
      replace hbb := hbb.trans (hq.mono hbb.size)
      clear hq
      go_wp2_with fail
      refine ((c4 _).out).mono ?_; rintro e wq ⟨rfl, hq⟩
      replace hbb := hbb.trans (hq.mono hbb.size)
      clear hq
      go_wp2_with fail
      refine ((c5 _).out).mono ?_; rintro e wq ⟨rfl, hq⟩
      replace hbb := hbb.trans (hq.mono hbb.size)
      clear hq
      go_wp2_with fail
      refine ((c6 _).out).mono ?_; rintro e wq ⟨rfl, hq⟩
      replace hbb := hbb.trans (hq.mono hbb.size)
      clear hq
      by_cases h16 : (b.toNat : Int) ≤ 16
      · by_cases h0 : (0 : Int) < (b.toNat : Int)
        · go_wp2
          go_ret
          exact ⟨rfl, hbb⟩
        · go_wp2
          go_ret
          exact ⟨rfl, hbb⟩
      · go_wp2
        go_ret
        exact ⟨rfl, hbb⟩
  · go_enter Try.func6, Try.ntmps6
    go_wp2_with fail
    refine (big_great _ _ _ _ (by omega) hlen).mono ?_; rintro e w' ⟨rfl, rfl⟩
    go_wp2
    go_ret
    exact ⟨rfl, Below.refl _ _⟩
end Go.Proofs.Ytlmbgkcchekdmaa
