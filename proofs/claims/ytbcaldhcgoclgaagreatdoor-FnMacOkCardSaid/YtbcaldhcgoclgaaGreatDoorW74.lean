/-
  The draw of a seal that is shortened, and the walk of laws.FnMacOk.
-/
import Derived.Test.YtbcaldhcgoclgaaGreatDoorSealD
import Derived.Test.YtbcaldhcgoclgaaGreatDoorWideW
import Derived.Deep.RegionHeld3
set_option linter.unusedVariables false
set_option linter.unusedSimpArgs false
namespace Go.Proofs.YtbcaldhcgoclgaaGreatDoor
open Go.RowKit
attribute [local go_sem ↓] Go.wp_at_zero Go.wp_at_succ

theorem macT_le (key s : ByteArray) : (macT key s).size ≤ 16 := by
  by_cases hk : kOk key
  · rw [macT_size key s hk]; omega
  · rw [macT_no key s hk]; exact Nat.zero_le _
set_option maxRecDepth 100000 in
set_option maxHeartbeats 1600000 in
theorem draw_MacOk (w : World) (A : Option Addr) (len cap : Nat) (hcode : CodeAt w w.heap.size A len) (hl : len ≤ 1048576) :
    Calls Tryz.prog 23 #[.slice A len cap] w fun e w' => ∃ k s t : ByteArray, e = .returned (.tuple #[.string k, .string s, .string t]) ∧ s.size ≤ 1000 ∧ Below w.heap.size w w' := by
  have H := Lib.hid hcode
  clear hcode
  go_enter Tryz.func23, Tryz.ntmps23
  go_wp2_with fail
  refine (new_any _ _ _ _ H.out hl).mono ?_; rintro e w1 ⟨gg, rfl, hc1, hb1⟩
  go_wp2_with fail
  refine (odd_any _ _ _ _ _ _ hc1).mono ?_; rintro e w2 ⟨k, rfl, hkz, hc2, hg2⟩
  have hb2 := below_only hb1 hg2 hc1.1 hb1.size
  have HL := Lib.hid hc1.1
  clear hg2 hb1 hc1 hkz
  go_wp2_with fail
  refine (text11_any _ _ _ _ _ _ hc2).mono ?_; rintro e w3 ⟨s, rfl, ht, hc3, hg3⟩
  have HY := Lib.hid (show s.size ≤ 1000 by omega)
  have hb3 := below_only hb2 hg3 HL.out hb2.size
  have HM := fun W => Lib.hid (Mac_spec k s (by omega) W)
  have hml := macT_le k s
  clear ht hg3 hb2 hc2
  generalize macT k s = m at *
  go_wp2_with fail
  refine (HM _).out.mono ?_; rintro e w4 ⟨rfl, hb4⟩
  have hc4 : CurIn w4 _ _ _ _ _ := hc3.grown ⟨hb4.os, hb4.tape, hb4.output, hb4.size, fun k hk _ => hb4.block k hk⟩ (row := none) (fun _ e => by cases e)
  have hb5 := hb3.trans (hb4.mono hb3.size)
  clear hb4 hb3 hc3
  go_wp2_with fail
  refine (pickint_any (fun u => 0 ≤ u ∧ u ≤ 16) 6 w4.heap.size 3 _ (by omega) (by omega) _ _ _ _ _ _ (hc4.alloc _) (heap_alloc_new w4 _) hc4.lt (lits [16, 16, 4, 3, 8, 0] (by simp))).mono ?_
  rintro e w5 ⟨u, rfl, ⟨hu0, hu1⟩, hc5, hg5⟩
  obtain ⟨n, rfl⟩ := Int.eq_ofNat_of_zero_le hu0
  have hb6 := below_only (hb5.alloc hb5.size _) hg5 HL.out (by simp; have := hb5.size; omega)
  have hm1 : (m.size : Int) ≤ 16 := by omega
  clear hb5 hg5 hc4 HM hu0
  by_cases hn : (m.size : Int) < (n : Int)
  · have hto := to_run m m.size (Nat.le_refl _)
    have hez : (m.extract 0 m.size).size ≤ 16 := by rw [ByteArray.size_extract]; omega
    generalize m.extract 0 m.size = x at *
    go_wp2_with fail
    refine (bent_any x (by omega) _ _ _ _ _ _ hc5).mono ?_; rintro e w6 ⟨t, rfl, htz, hc6, hg6⟩
    have hb7 := below_only hb6 hg6 HL.out hb6.size
    clear htz hc6 hg6 hb6 hez
    go_wp2
    refine bodyPost_ret (v := .tuple #[.string k, .string s, .string t]) ?_ rfl ⟨_, _, _, rfl, HY.out, hb7⟩
    kernel_rfl
  · have hn2 : (n : Int) ≤ (m.size : Int) := by omega
    have hto := to_run m n (by omega)
    have hez : (m.extract 0 n).size ≤ 16 := by rw [ByteArray.size_extract]; omega
    generalize m.extract 0 n = x at *
    go_wp2_with fail
    refine (bent_any x (by omega) _ _ _ _ _ _ hc5).mono ?_; rintro e w6 ⟨t, rfl, htz, hc6, hg6⟩
    have hb7 := below_only hb6 hg6 HL.out hb6.size
    clear htz hc6 hg6 hb6 hez
    go_wp2
    refine bodyPost_ret (v := .tuple #[.string k, .string s, .string t]) ?_ rfl ⟨_, _, _, rfl, HY.out, hb7⟩
    kernel_rfl
theorem macok_sp (key s tag : ByteArray) (b : Bool) (hs : s.size ≤ 1048576) (h : okT key s tag = b) (w : World) :
    Calls Tryz.prog 24 #[.string key, .string s, .string tag] w fun e w' => e = .returned (.bool b) ∧ Below w.heap.size w w' := by
  rw [← h]; exact MacOk_spec key s tag hs w
/-- a seal with a byte turned. -/
def bentM (m : ByteArray) (i : Nat) (c : UInt8) : ByteArray := ⟨(m.data.toList.set i (byteOf m i ^^^ c)).toArray⟩
theorem bentM_size (m : ByteArray) (i : Nat) (c : UInt8) : (bentM m i c).size = m.size := by
  unfold bentM
  show (m.data.toList.set i _).toArray.size = _
  simp
theorem bentM_ne (m : ByteArray) (i : Nat) (c : UInt8) (hi : i < m.size) (hc : c ≠ 0) : bentM m i c ≠ m := by
  intro e
  have h := congrArg (fun x => byteOf x i) e
  have h2 : byteOf (bentM m i c) i = byteOf m i ^^^ c := by
    unfold bentM byteOf
    simp [hi]
  simp only [h2] at h
  have h3 := congrArg (fun x => byteOf m i ^^^ x) h
  simp only [← UInt8.xor_assoc, UInt8.xor_self, UInt8.zero_xor] at h3
  exact hc h3
theorem ok_bent (k s : ByteArray) (hk : kOk k) (i : Nat) (c : UInt8) (hi : i < 16) (hc : c ≠ 0) : okT k s (bentM (macT k s) i c) = false := by
  have hz := macT_size k s hk
  unfold okT
  rw [pre_yes _ _ (by rw [bentM_size]; omega), bentM_size, text_ne (fun e => bentM_ne (macT k s) i c (by omega) hc (by
    rw [← e]
    exact b_ext _ _ 16 (by rw [ByteArray.size_extract]; omega) hz fun j hj => by rw [byte_cut _ _ _ _ (by omega) (by omega), Nat.zero_add])), Bool.and_false]
theorem ok_head (k s : ByteArray) (hk : kOk k) (n : Nat) (hn : n ≤ 16) : okT k s ((macT k s).extract 0 n) = decide (4 ≤ n) := by
  have hz := macT_size k s hk
  have hx : ((macT k s).extract 0 n).size = n := by rw [ByteArray.size_extract]; omega
  unfold okT
  rw [pre_yes _ _ (by rw [hx]; omega), hx, beq_self_eq_true, Bool.and_true]
theorem ok_long (k s : ByteArray) (hk : kOk k) : okT k s (macT k s ++ ⟨#[120]⟩) = false := by
  have hz := macT_size k s hk
  unfold okT
  rw [pre_no _ _ (by rw [ByteArray.size_append]; show _ < _ + 1; omega), Bool.and_false]
theorem facts_FnMacOk {W : World} (h : laidMetH Tryz.prog Rows.fnMacOkRow.laid W) : MxF W := mxf_laid h
set_option maxRecDepth 100000 in
set_option maxHeartbeats 3200000 in
theorem walk_FnMacOk (a0 : Option Addr) (len0 cap0 : Nat) (z0 : List Int) (w : World) (w0 : IsRow .u8 w a0 len0 cap0 z0) (hf : MxF w) :
    Calls Tryz.prog 4 #[.slice a0 len0 cap0] w fun e w' => e = .returned (.bool true) ∧ Below w.heap.size w w' := by
  obtain ⟨hcode, hlen⟩ := w0.code
  clear w0
  have HF : Hid (∀ W, Below w.heap.size w W → MxF W) := Lib.hid (fun W hW => hf.below hW (Nat.le_refl _))
  clear hf
  by_cases hl : len0 ≤ 1048576
  · have H := Lib.hid hcode
    obtain ⟨x0, hx0, A0⟩ := at_fix 0 (by omega) w a0 len0 cap0 hcode hl
    obtain ⟨x1, hx1, A1⟩ := at_fix 1 (by omega) w a0 len0 cap0 hcode hl
    obtain ⟨x2, hx2, A2⟩ := at_fix 2 (by omega) w a0 len0 cap0 hcode hl
    have HA0 := Lib.hid A0
    have HA1 := Lib.hid A1
    have HA2 := Lib.hid A2
    clear hcode A0 A1 A2
    go_enter Tryz.func4, Tryz.ntmps4
    go_wp2_with fail
    refine (big_small _ _ _ _ hl).mono ?_; rintro e w' ⟨rfl, rfl⟩
    go_wp2_with fail
    refine (draw_MacOk _ _ _ _ H.out hl).mono ?_; rintro e w1 ⟨key, s, tag, rfl, hs, hb1⟩
    have hbb := hb1
    clear hb1
    obtain ⟨b0, hb0⟩ : ∃ b0, okT key s tag = b0 := ⟨_, rfl⟩
    have c1 := fun W hW => Lib.hid (macok_is key s tag b0 (by omega) hb0 W hW)
    have c2 := fun W => Lib.hid (macok_sp key s tag b0 (by omega) hb0 W)
    clear hb0
    go_wp2_with fail
    refine ((c1 _ (HF.out _ hbb)).out).mono ?_; rintro e wq ⟨rfl, hq⟩
    replace hbb := hbb.trans (hq.mono hbb.size)
    clear hq
    go_wp2_with fail
    refine ((c2 _).out).mono ?_; rintro e wq ⟨rfl, hq⟩
    replace hbb := hbb.trans (hq.mono hbb.size)
    clear hq
    have hbq : (b0 != b0) = false := by cases b0 <;> rfl
    go_wp2_with fail
    refine (aKey_any _ _ _ _ ((H.out.below hbb (Nat.le_refl _)).up hbb.size) hl).mono ?_; rintro e w2 ⟨k, rfl, hk, hq⟩
    replace hbb := hbb.trans (hq.mono hbb.size)
    clear hq
    go_wp2_with fail
    refine (HA0.out _ hbb).mono ?_; rintro e w3 ⟨rfl, rfl⟩
    have hr0 : (x0 : Int).tmod 18 = ((x0 % 18 : Nat) : Int) := by rw [Int.tmod_eq_emod_of_nonneg (by omega)]; omega
    have hx01 : (x0 : Int) < 256 := by omega
    have hx00 : (0 : Int) ≤ (x0 : Int) := by omega
    obtain ⟨m, hm⟩ : ∃ m, macT k s = m := ⟨_, rfl⟩
    have hmz : m.size = 16 := by rw [← hm]; exact macT_size k s hk
    have km : (m.size : Int) = 16 := by omega
    have c3 := fun W => Lib.hid (mac_sp k s m (by omega) hm W)
    have hn18 : x0 % 18 < 18 := Nat.mod_lt _ (by omega)
    obtain ⟨n, hn⟩ : ∃ n, x0 % 18 = n := ⟨_, rfl⟩
    rw [hn] at hr0 hn18
    have hn1 : (n : Int) < 18 := by omega
    have hn0 : (0 : Int) ≤ (n : Int) := by omega
    go_wp2_with fail
    refine ((c3 _).out).mono ?_; rintro e wq ⟨rfl, hq⟩
    replace hbb := hbb.trans (hq.mono hbb.size)
    clear hq
    by_cases h16 : 16 < n
    · have k1 : (16 : Int) < (n : Int) := by omega
      obtain ⟨mx, hmx⟩ : ∃ mx, m ++ (⟨#[120]⟩ : ByteArray) = mx := ⟨_, rfl⟩
      have c4 := fun W hW => Lib.hid (macok_is k s mx false (by omega) (by rw [← hmx, ← hm]; exact ok_long k s hk) W hW)
      have hcat : ¬ 9223372036854775807 < m.size + 1 := by omega
      have hcat2 : ¬ (9223372036854775807 : Nat) < 16 + 1 := by omega
      clear hm hk h16
      go_wp2_with fail
      refine ((c4 _ (HF.out _ hbb)).out).mono ?_; rintro e wq ⟨rfl, hq⟩
      replace hbb := hbb.trans (hq.mono hbb.size)
      clear hq
      go_wp2
      go_ret
      exact ⟨rfl, hbb⟩
    · have k1 : ¬ (16 : Int) < (n : Int) := by omega
      obtain ⟨cap, W1, hconv, hrow, hbel⟩ := bytes_brow m wq
      rw [hmz] at hconv
      have hb2 := hbb.trans (hbel.mono hbb.size)
      have hgl : w.heap.size ≤ wq.heap.size := hbb.size
      obtain ⟨i, hi⟩ : ∃ i, x1 % 4 = i := ⟨_, rfl⟩
      have hr1 : (x1 : Int).tmod 4 = (i : Int) := by rw [Int.tmod_eq_emod_of_nonneg (by omega)]; omega
      have hi4 : i < 4 := by omega
      obtain ⟨r2, hr2⟩ : ∃ r2, x2 % 255 = r2 := ⟨_, rfl⟩
      have hr2m : (x2 : Int).tmod 255 = (r2 : Int) := by rw [Int.tmod_eq_emod_of_nonneg (by omega)]; omega
      have hr255 : r2 < 255 := by omega
      obtain ⟨c, hc⟩ : ∃ c, UInt8.ofNat (1 + r2) = c := ⟨_, rfl⟩
      have hct : c.toNat = 1 + r2 := by rw [← hc, UInt8.toNat_ofNat']; omega
      have hc0 : c ≠ 0 := fun e => by rw [e] at hct; have h0 : (0 : UInt8).toNat = 0 := rfl; omega
      have hmlen : m.data.toList.length = 16 := (show m.data.toList.length = m.size by simp).trans hmz
      have hli : i < m.data.toList.length := by omega
      have hby : m.data.toList[i] = byteOf m i := by unfold byteOf; rw [List.getD_eq_getElem?_getD, List.getElem?_eq_getElem hli]; rfl
      have hcell : W1.drew.cell? ⟨wq.heap.size, i, none⟩ = some (.int .u8 ((byteOf m i).toNat : Int)) := by rw [← hby]; exact hrow.cells i hli
      have hfree : W1.drew.frozen? ⟨wq.heap.size, i, none⟩ = false := hrow.free i hli
      have hr4 : BRow (W1.drew.setCell ⟨wq.heap.size, i, none⟩ (.int .u8 ((byteOf m i ^^^ c).toNat : Int))) wq.heap.size (m.data.toList.set i (byteOf m i ^^^ c)) := BRow.set (w := W1.drew) (hrow.drewN 1) i hli (byteOf m i ^^^ c)
      have hbd : Below w.heap.size w W1.drew := hb2.drew
      have hb4 : Below w.heap.size w (W1.drew.setCell ⟨wq.heap.size, i, none⟩ (.int .u8 ((byteOf m i ^^^ c).toNat : Int))) := hbd.setCell (p := ⟨wq.heap.size, i, none⟩) hgl _
      have hxor : bits .xor .u8 ((byteOf m i).toNat : Int) (1 + (r2 : Int)) = ((byteOf m i ^^^ c).toNat : Int) := by
        have h := u8_xor_bytes (byteOf m i) c
        rw [show ((c.toNat : Nat) : Int) = 1 + (r2 : Int) by omega] at h
        exact h
      have hst := to_run m n (by omega)
      have c5 := fun W hW => Lib.hid (macok_is k s (m.extract 0 n) (decide (4 ≤ n)) (by omega) (by rw [← hm]; exact ok_head k s hk n (by omega)) W hW)
      have c6 := fun W hW => Lib.hid (macok_is k s (bentM m i c) false (by omega) (by rw [← hm]; exact ok_bent k s hk i c (by omega) hc0) W hW)
      have HCV : Hid (∀ W, Below (W1.drew.setCell ⟨wq.heap.size, i, none⟩ (.int .u8 ((byteOf m i ^^^ c).toNat : Int))).heap.size (W1.drew.setCell ⟨wq.heap.size, i, none⟩ (.int .u8 ((byteOf m i ^^^ c).toNat : Int))) W → (convert 22 9 (.slice (some ⟨wq.heap.size, 0, none⟩) 16 cap)).run Tryz.prog W = .ok (.string (bentM m i c)) W) := Lib.hid (fun W hW => BRow.conv (c := cap) (BRow.below hr4 hW) (by rw [List.length_set]; exact hmlen))
      have HB4 := Lib.hid hb4
      have hb16 : ((byteOf m i).toNat : Int) < 256 := by have := (byteOf m i).toNat_lt; omega
      have hb17 : ((byteOf m i ^^^ c).toNat : Int) < 256 := by have := (byteOf m i ^^^ c).toNat_lt; omega
      have hi1 : (i : Int) < 16 := by omega
      have hi0 : (0 : Int) ≤ (i : Int) := by omega
      have hrr1 : (r2 : Int) < 255 := by omega
      have hrr0 : (0 : Int) ≤ (r2 : Int) := by omega
      have hw1 : IntKind.i64.wrap (1 + (r2 : Int)) = 1 + (r2 : Int) := IntWalk.i64_in _ (by omega)
      have hw2 : IntKind.u8.wrap (1 + (r2 : Int)) = 1 + (r2 : Int) := IntWalk.u8_in _ (by omega)
      have hx11 : (x1 : Int) < 256 := by omega
      have hx21 : (x2 : Int) < 256 := by omega
      generalize (byteOf m i ^^^ c).toNat = bx at *
      generalize (byteOf m i).toNat = by0 at *
      generalize bentM m i c = bm at *
      generalize m.extract 0 n = mh at *
      clear hmlen hm hk h16 hct hc0 hc hli hby hr4 hrow hbel hb4 c3 hbb HA0 hr0 hgl
      go_wp2_with fail
      refine (HA1.out _ hb2).mono ?_; rintro e w3 ⟨rfl, rfl⟩
      clear hconv
      go_wp2_with fail
      refine wp_region_held_drew (S := fun _ => True) (by kernel_rfl) trivial (fun hS => ?_)
      refine tk 0 (v := ?_) ?_ (by assumption) ?_
      rotate_left
      · intro w hSw
        go_simp
        first | done | with_reducible rfl
      try simp only [lay]
      refine tk 1 (v := ?_) ?_ (by assumption) ?_
      rotate_left
      · intro w hSw
        go_simp
        first | done | with_reducible rfl
      try simp only [lay]
      refine tk 2 (v := ?_) ?_ (by assumption) ?_
      rotate_left
      · intro w hSw
        go_simp
        first | done | with_reducible rfl
      try simp only [lay]
      refine tk 3 (v := ?_) ?_ (by assumption) ?_
      rotate_left
      · intro w hSw
        go_simp
        first | done | with_reducible rfl
      try simp only [lay]
      refine tk 4 (v := ?_) ?_ (by assumption) ?_
      rotate_left
      · intro w hSw
        go_simp
        first | done | with_reducible rfl
      try simp only [lay]
      refine tk 6 (v := ?_) ?_ (by assumption) ?_
      rotate_left
      · intro w hSw
        go_simp
        first | done | with_reducible rfl
      try simp only [lay]
      refine wpAnyH_ready (rs := [5, 7]) (by kernel_rfl) (by simp) ?_
      refine AllReadyH.cons rfl (fun K hK => ?_) (AllReadyH.cons rfl (fun K hK => ?_) AllReadyH.nil)
      · go_simp
        refine hK.out _ _ trivial (fun _ => ?_)
        clear hK K
        try simp only [lay]
        refine wpAnyH_ready (rs := [7]) (by kernel_rfl) (by simp) ?_
        refine AllReadyH.cons rfl (fun K hK => ?_) AllReadyH.nil
        go_simp
        refine (HA2.out _ hbd).mono ?_; rintro e wz ⟨rfl, rfl⟩
        refine hK.out _ _ trivial (fun _ => ?_)
        clear hK K
        try simp only [lay]
        refine tk 8 (v := ?_) ?_ (by assumption) ?_
        rotate_left
        · intro w hSw
          go_simp
          first | done | with_reducible rfl
        try simp only [lay]
        refine tk 9 (v := ?_) ?_ (by assumption) ?_
        rotate_left
        · intro w hSw
          go_simp
          first | done | with_reducible rfl
        try simp only [lay]
        refine tk 10 (v := ?_) ?_ (by assumption) ?_
        rotate_left
        · intro w hSw
          go_simp
          first | done | with_reducible rfl
        try simp only [lay]
        refine tk 11 (v := ?_) ?_ (by assumption) ?_
        rotate_left
        · intro w hSw
          go_simp
          first | done | with_reducible rfl
        try simp only [lay]
        refine tk 12 (v := ?_) ?_ (by assumption) ?_
        rotate_left
        · intro w hSw
          go_simp
          first | done | with_reducible rfl
        try simp only [lay]
        refine wpAnyH_ready (rs := [13]) (by kernel_rfl) (by simp) ?_
        refine AllReadyH.cons rfl (fun K hK => ?_) AllReadyH.nil
        go_simp
        refine hK.out _ _ trivial (fun _ => ?_)
        clear hK K
        try simp only [lay]
        refine wpAnyH_done (by kernel_rfl) ?_ _
        try rw [hxor]
        clear hcell hfree hbd hxor HA1 HA2
        go_wp2_with fail
        refine ((c5 _ (HF.out _ HB4.out)).out).mono ?_; rintro e w7 ⟨rfl, hq⟩
        have hb7 := HB4.out.trans (hq.mono HB4.out.size)
        have hcv7 := HCV.out _ hq
        clear hq
        by_cases h4 : 4 ≤ n
        · have k4 : (4 : Int) ≤ (n : Int) := by omega
          rw [decide_eq_true h4]
          clear h4
          go_wp2_with fail
          refine ((c6 _ (HF.out _ hb7)).out).mono ?_; rintro e w8 ⟨rfl, hq⟩
          have hb8 := hb7.trans (hq.mono hb7.size)
          clear hq hb7
          go_wp2
          go_ret
          exact ⟨rfl, hb8⟩
        · have k4 : ¬ (4 : Int) ≤ (n : Int) := by omega
          rw [decide_eq_false h4]
          clear h4
          go_wp2_with fail
          refine ((c6 _ (HF.out _ hb7)).out).mono ?_; rintro e w8 ⟨rfl, hq⟩
          have hb8 := hb7.trans (hq.mono hb7.size)
          clear hq hb7
          go_wp2
          go_ret
          exact ⟨by first | rfl | (show Ending.returned (.bool (!decide ((4 : Int) ≤ (n : Int)))) = _; rw [decide_eq_false (show ¬ (4 : Int) ≤ (n : Int) by omega)]; rfl), hb8⟩
      · go_simp
        refine (HA2.out _ hbd).mono ?_; rintro e wz ⟨rfl, rfl⟩
        refine hK.out _ _ trivial (fun _ => ?_)
        clear hK K
        try simp only [lay]
        refine tk 8 (v := ?_) ?_ (by assumption) ?_
        rotate_left
        · intro w hSw
          go_simp
          first | done | with_reducible rfl
        try simp only [lay]
        refine tk 9 (v := ?_) ?_ (by assumption) ?_
        rotate_left
        · intro w hSw
          go_simp
          first | done | with_reducible rfl
        try simp only [lay]
        refine tk 10 (v := ?_) ?_ (by assumption) ?_
        rotate_left
        · intro w hSw
          go_simp
          first | done | with_reducible rfl
        try simp only [lay]
        refine wpAnyH_ready (rs := [5]) (by kernel_rfl) (by simp) ?_
        refine AllReadyH.cons rfl (fun K hK => ?_) AllReadyH.nil
        go_simp
        refine hK.out _ _ trivial (fun _ => ?_)
        clear hK K
        try simp only [lay]
        refine tk 11 (v := ?_) ?_ (by assumption) ?_
        rotate_left
        · intro w hSw
          go_simp
          first | done | with_reducible rfl
        try simp only [lay]
        refine tk 12 (v := ?_) ?_ (by assumption) ?_
        rotate_left
        · intro w hSw
          go_simp
          first | done | with_reducible rfl
        try simp only [lay]
        refine wpAnyH_ready (rs := [13]) (by kernel_rfl) (by simp) ?_
        refine AllReadyH.cons rfl (fun K hK => ?_) AllReadyH.nil
        go_simp
        refine hK.out _ _ trivial (fun _ => ?_)
        clear hK K
        try simp only [lay]
        refine wpAnyH_done (by kernel_rfl) ?_ _
        try rw [hxor]
        clear hcell hfree hbd hxor HA1 HA2
        go_wp2_with fail
        refine ((c5 _ (HF.out _ HB4.out)).out).mono ?_; rintro e w7 ⟨rfl, hq⟩
        have hb7 := HB4.out.trans (hq.mono HB4.out.size)
        have hcv7 := HCV.out _ hq
        clear hq
        by_cases h4 : 4 ≤ n
        · have k4 : (4 : Int) ≤ (n : Int) := by omega
          rw [decide_eq_true h4]
          clear h4
          go_wp2_with fail
          refine ((c6 _ (HF.out _ hb7)).out).mono ?_; rintro e w8 ⟨rfl, hq⟩
          have hb8 := hb7.trans (hq.mono hb7.size)
          clear hq hb7
          go_wp2
          go_ret
          exact ⟨rfl, hb8⟩
        · have k4 : ¬ (4 : Int) ≤ (n : Int) := by omega
          rw [decide_eq_false h4]
          clear h4
          go_wp2_with fail
          refine ((c6 _ (HF.out _ hb7)).out).mono ?_; rintro e w8 ⟨rfl, hq⟩
          have hb8 := hb7.trans (hq.mono hb7.size)
          clear hq hb7
          go_wp2
          go_ret
          exact ⟨by first | rfl | (show Ending.returned (.bool (!decide ((4 : Int) ≤ (n : Int)))) = _; rw [decide_eq_false (show ¬ (4 : Int) ≤ (n : Int) by omega)]; rfl), hb8⟩
  · go_enter Tryz.func4, Tryz.ntmps4
    go_wp2_with fail
    refine (big_great _ _ _ _ (by omega) hlen).mono ?_; rintro e w' ⟨rfl, rfl⟩
    go_wp2
    go_ret
    exact ⟨rfl, Below.refl _ _⟩
end Go.Proofs.YtbcaldhcgoclgaaGreatDoor
