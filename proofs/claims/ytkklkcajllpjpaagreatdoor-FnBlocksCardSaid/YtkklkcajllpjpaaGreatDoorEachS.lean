/-
  What spec's LockSliced, UnlockSliced, LockBlocks and UnlockBlocks answer.
-/
import Derived.Test.YtkklkcajllpjpaaGreatDoorEng
import Derived.Test.YtkklkcajllpjpaaGreatDoorLockSp
import Derived.Test.YtkklkcajllpjpaaGreatDoorKey
import Derived.Lib.AppendStr
set_option linter.unusedVariables false
set_option linter.unusedSimpArgs false
namespace Go.Proofs.YtkklkcajllpjpaaGreatDoor
open Go Go.RowKit
attribute [local go_sem ↓] Go.wp_at_zero Go.wp_at_succ

theorem cut_blk (s : ByteArray) (j : Nat) (h : 16 * j + 16 ≤ s.size) : s.extract (16 * j) (16 * j + 16) = blk (byteOf s) j := by
  have e := txt_blk (byteOf s) s.size j h
  rwa [txt_own s s.size rfl] at e
theorem slice_16 (s : ByteArray) (j : Nat) (h : 16 * j + 16 ≤ s.size) (hs : s.size ≤ 4611686018427387903) (W : World) : (Instr.slice 9 (.string s) (some (.int .i64 (16 * (j : Int)))) (some (.int .i64 (16 * (j : Int) + 16))) none).run Tryz.prog W = .ok (.string (blk (byteOf s) j)) W := by
  have h1 := run_slice_string (P := Tryz.prog) W 9 s .i64 .i64 (16 * (j : Int)) (16 * (j : Int) + 16) Tryz.underlying9 (by omega) (by omega) (by omega)
  rw [h1]
  have e1 : (16 * (j : Int)).toNat = 16 * j := by omega
  have e2 : (16 * (j : Int) + 16).toNat = 16 * j + 16 := by omega
  rw [e1, e2, cut_blk s j h]
theorem each_up (r : Nat → UInt8) (j : Nat) : cells8 (upTo r (16 * j)) ++ Lib.strCells (blk r j) = cells8 (upTo r (16 * (j + 1))) := by
  have h := congrArg (fun x : ByteArray => x.data.toList) (txt_blk_up r j)
  have h2 : upTo r (16 * j) ++ upTo (fun i => r (16 * j + i)) 16 = upTo r (16 * (j + 1)) := by simpa [txt, blk] using h
  rw [← h2, cells8_append]
  rfl
set_option maxRecDepth 100000 in
theorem each_no (key s : ByteArray) (bk : Bool) (h : ¬ (kOk key ∧ s.size % 16 = 0)) (w : World) :
    Calls Tryz.prog 50 #[.string key, .string s, .bool bk] w fun e w' => e = .returned (.string ⟨#[]⟩) ∧ Below w.heap.size w w' := by
  have CK := fun W => Lib.hid (KeyOk_spec key W)
  have HB : Hid (Below w.heap.size w (w.alloc (.cells #[] 5))) := Lib.hid ((Below.refl _ _).alloc (Nat.le_refl _) _)
  by_cases hk : kOk key
  · rw [decide_eq_true hk] at CK
    have hr := rem16 s
    have hr2 : ¬ ((s.size % 16 : Nat) : Int) = 0 := by
      have : ¬ s.size % 16 = 0 := fun h2 => h ⟨hk, h2⟩
      omega
    generalize ((s.size % 16 : Nat) : Int) = r at *
    clear h hk
    go_enter Tryz.func50, Tryz.ntmps50
    go_wp2_with fail
    refine (CK _).out.mono ?_; rintro e w1 ⟨rfl, rfl⟩
    clear CK
    go_wp2
    go_ret
    exact ⟨rfl, HB.out⟩
  · rw [decide_eq_false hk] at CK
    clear h hk
    go_enter Tryz.func50, Tryz.ntmps50
    go_wp2_with fail
    refine (CK _).out.mono ?_; rintro e w1 ⟨rfl, rfl⟩
    clear CK
    go_wp2
    go_ret
    exact ⟨rfl, HB.out⟩
set_option maxRecDepth 100000 in
set_option maxHeartbeats 3200000 in
theorem each_there (key s : ByteArray) (hk : kOk key) (m : Nat) (hm : s.size = 16 * m) (hs : s.size ≤ 4194304) (w : World) :
    Calls Tryz.prog 50 #[.string key, .string s, .bool false] w fun e w' => e = .returned (.string (txt (eachB (wayT false key) (byteOf s)) (16 * m))) ∧ Below w.heap.size w w' := by
  obtain ⟨i0, hi, hz0, hz1, hz2⟩ := info_parts Tryz.info5
  obtain ⟨r, hr⟩ : ∃ r, eachB (wayT false key) (byteOf s) = r := ⟨_, rfl⟩
  have CK := fun W => Lib.hid (KeyOk_spec key W)
  rw [decide_eq_true hk] at CK
  have CL : Hid (∀ j W, Calls Tryz.prog 16 #[.string key, .string (blk (byteOf s) j)] W fun e w' => e = .returned (.string (blk r j)) ∧ Below W.heap.size W w') := Lib.hid (fun j W => by
    have h := Lock_spec key (blk (byteOf s) j) W
    have e1 := eachB_blk (wayT false key) (fun b hb => wayT_size false key b hk hb) (byteOf s) j
    rw [hr] at e1
    have e2 : wayT false key (blk (byteOf s) j) = lockT key (blk (byteOf s) j) := rfl
    rw [e1, e2]; exact h)
  have HSL := fun j h W => Lib.hid (slice_16 s j h (by omega) W)
  have HU := fun j => Lib.hid (each_up r j)
  have HBZ := fun j => Lib.hid (blk_size r j)
  have hls : ((s.size : Nat) : Int) = 16 * (m : Int) := by omega
  have hq : (16 * (m : Int)).tmod 16 = 0 := by rw [Int.tmod_eq_emod_of_nonneg (by omega)]; omega
  have HM : Hid (m ≤ 262144 ∧ s.size = 16 * m) := Lib.hid ⟨by omega, hm⟩
  rw [hr]
  clear hr hk hm hs
  go_enter Tryz.func50, Tryz.ntmps50
  go_wp2_with fail
  refine (CK _).out.mono ?_; rintro e w1 ⟨rfl, rfl⟩
  clear CK
  go_wp2
  go_loopw [7, 8] (fun v i wr => ∃ j : Nat, j ≤ m ∧ i = .int .i64 (16 * (j : Int)) ∧ wr.ownsRow w.heap.size 5 1 v (16 * j) (cells8 (upTo r (16 * j))) ∧ Below w.heap.size w wr) (fun _ i _ => 16 * m - (intOf i).toNat)
  case atStart => exact ⟨0, by omega, rfl, World.ownsRow_lit w #[] 0 (Nat.le_refl _) (by simp [maxLen]) rfl, (Below.refl _ _).alloc (Nat.le_refl _) _⟩
  case round =>
    obtain ⟨j, hj, rfl, hown, hbel⟩ := hrel
    by_cases hlt : j < m
    · have hj1 : 16 * (j : Int) < 16 * (m : Int) := by omega
      have hj0 : (0 : Int) ≤ (j : Int) := by omega
      have q1 : IntKind.i64.wrap (16 * (j : Int) + 16) = 16 * (j : Int) + 16 := IntWalk.i64_in _ (by have := HM.out; omega)
      have hsl := fun W => (HSL j (by have := HM.out; omega) W).out
      have z2 := HBZ j
      have HS := HU j
      have CJ := fun W => Lib.hid (CL.out j W)
      have HO := Lib.hid hown
      have HB := Lib.hid hbel
      clear HSL HU HBZ CL hown hbel hq
      generalize blk (byteOf s) j = D1 at *
      generalize blk r j = D at *
      go_wp2_with fail
      refine (CJ _).out.mono ?_; rintro e w2 ⟨rfl, hb2⟩
      have HO2 := Lib.hid (own_below HO.out hb2)
      have HB2 := Lib.hid (HB.out.trans (hb2.mono HB.out.size))
      clear hb2 HO HB CJ
      go_wp2_with (at_builtin; refine stp ?_)
      refine unstp ?_
      refine Lib.wpList_append_own_string _ rfl (.tmp 35) (.tmp 42) 22 9 rfl w.heap.size 5 i0 Tryz.underlying22 Tryz.underlying9 hi hz0 hz1 hz2 _ (16 * j) (cells8 (upTo r (16 * j))) rfl HO2.out D rfl (by rw [z2.out]; have := HM.out; unfold maxLen; omega) (by rw [z2.out]; have := HM.out; omega) HB2.out.size ?_
      intro v5 w5 hown5 hgrow hnil
      rw [HS.out, z2.out, show 16 * j + 16 = 16 * (j + 1) by omega] at hown5
      have HB5 := Lib.hid (HB2.out.grown hgrow HB2.out.size (fun b hb => (HO2.out.lt b hb).1))
      have HO5 := Lib.hid hown5
      clear hown5 hgrow hnil HO2 HB2 HS
      go_wp2
      go_roundw
      case rel => exact ⟨j + 1, by omega, by go_num, HO5.out, HB5.out⟩
      case measure => simp [intOf]; omega
    · obtain rfl : j = m := by omega
      have hconv := run_string_own Tryz.underlying22 Tryz.underlying5 Tryz.underlying9 hown
      have HB := Lib.hid hbel
      clear hown hbel HSL HU HBZ CL hq
      go_wp2
      go_ret
      exact ⟨rfl, HB.out⟩
theorem each_there_spec (key s : ByteArray) (hs : s.size ≤ 4194304) (w : World) :
    Calls Tryz.prog 50 #[.string key, .string s, .bool false] w fun e w' => e = .returned (.string (slT false key s)) ∧ Below w.heap.size w w' := by
  by_cases h : kOk key ∧ s.size % 16 = 0
  · rw [slT_yes _ _ _ h.1 h.2]
    have H := each_there key s h.1 (s.size / 16) (by omega) hs w
    rwa [show 16 * (s.size / 16) = s.size by omega] at H
  · rw [slT_no _ _ _ h]; exact each_no key s _ h w
set_option maxRecDepth 100000 in
theorem LockSliced_spec10 (key s : ByteArray) (hs : s.size ≤ 4194304) (w : World) :
    Calls Tryz.prog 23 #[.string key, .string s] w fun e w' => e = .returned (.string (slT false key s)) ∧ Below w.heap.size w w' := by
  have C := Lib.hid (each_there_spec key s hs w)
  generalize slT false key s = OUT at *
  clear hs
  go_enter Tryz.func23, Tryz.ntmps23
  go_wp2_with fail
  refine C.out.mono ?_; rintro e w2 ⟨rfl, hb⟩
  have HB := Lib.hid hb
  clear hb C
  go_wp2
  go_ret
  exact ⟨rfl, HB.out⟩
set_option maxRecDepth 100000 in
set_option maxHeartbeats 3200000 in
theorem each_back (key s : ByteArray) (hk : kOk key) (m : Nat) (hm : s.size = 16 * m) (hs : s.size ≤ 4194304) (w : World) :
    Calls Tryz.prog 50 #[.string key, .string s, .bool true] w fun e w' => e = .returned (.string (txt (eachB (wayT true key) (byteOf s)) (16 * m))) ∧ Below w.heap.size w w' := by
  obtain ⟨i0, hi, hz0, hz1, hz2⟩ := info_parts Tryz.info5
  obtain ⟨r, hr⟩ : ∃ r, eachB (wayT true key) (byteOf s) = r := ⟨_, rfl⟩
  have CK := fun W => Lib.hid (KeyOk_spec key W)
  rw [decide_eq_true hk] at CK
  have CL : Hid (∀ j W, Calls Tryz.prog 17 #[.string key, .string (blk (byteOf s) j)] W fun e w' => e = .returned (.string (blk r j)) ∧ Below W.heap.size W w') := Lib.hid (fun j W => by
    have h := Unlock_spec key (blk (byteOf s) j) W
    have e1 := eachB_blk (wayT true key) (fun b hb => wayT_size true key b hk hb) (byteOf s) j
    rw [hr] at e1
    have e2 : wayT true key (blk (byteOf s) j) = unlockT key (blk (byteOf s) j) := rfl
    rw [e1, e2]; exact h)
  have HSL := fun j h W => Lib.hid (slice_16 s j h (by omega) W)
  have HU := fun j => Lib.hid (each_up r j)
  have HBZ := fun j => Lib.hid (blk_size r j)
  have hls : ((s.size : Nat) : Int) = 16 * (m : Int) := by omega
  have hq : (16 * (m : Int)).tmod 16 = 0 := by rw [Int.tmod_eq_emod_of_nonneg (by omega)]; omega
  have HM : Hid (m ≤ 262144 ∧ s.size = 16 * m) := Lib.hid ⟨by omega, hm⟩
  rw [hr]
  clear hr hk hm hs
  go_enter Tryz.func50, Tryz.ntmps50
  go_wp2_with fail
  refine (CK _).out.mono ?_; rintro e w1 ⟨rfl, rfl⟩
  clear CK
  go_wp2
  go_loopw [7, 8] (fun v i wr => ∃ j : Nat, j ≤ m ∧ i = .int .i64 (16 * (j : Int)) ∧ wr.ownsRow w.heap.size 5 1 v (16 * j) (cells8 (upTo r (16 * j))) ∧ Below w.heap.size w wr) (fun _ i _ => 16 * m - (intOf i).toNat)
  case atStart => exact ⟨0, by omega, rfl, World.ownsRow_lit w #[] 0 (Nat.le_refl _) (by simp [maxLen]) rfl, (Below.refl _ _).alloc (Nat.le_refl _) _⟩
  case round =>
    obtain ⟨j, hj, rfl, hown, hbel⟩ := hrel
    by_cases hlt : j < m
    · have hj1 : 16 * (j : Int) < 16 * (m : Int) := by omega
      have hj0 : (0 : Int) ≤ (j : Int) := by omega
      have q1 : IntKind.i64.wrap (16 * (j : Int) + 16) = 16 * (j : Int) + 16 := IntWalk.i64_in _ (by have := HM.out; omega)
      have hsl := fun W => (HSL j (by have := HM.out; omega) W).out
      have z2 := HBZ j
      have HS := HU j
      have CJ := fun W => Lib.hid (CL.out j W)
      have HO := Lib.hid hown
      have HB := Lib.hid hbel
      clear HSL HU HBZ CL hown hbel hq
      generalize blk (byteOf s) j = D1 at *
      generalize blk r j = D at *
      go_wp2_with fail
      refine (CJ _).out.mono ?_; rintro e w2 ⟨rfl, hb2⟩
      have HO2 := Lib.hid (own_below HO.out hb2)
      have HB2 := Lib.hid (HB.out.trans (hb2.mono HB.out.size))
      clear hb2 HO HB CJ
      go_wp2_with (at_builtin; refine stp ?_)
      refine unstp ?_
      refine Lib.wpList_append_own_string _ rfl (.tmp 26) (.tmp 33) 22 9 rfl w.heap.size 5 i0 Tryz.underlying22 Tryz.underlying9 hi hz0 hz1 hz2 _ (16 * j) (cells8 (upTo r (16 * j))) rfl HO2.out D rfl (by rw [z2.out]; have := HM.out; unfold maxLen; omega) (by rw [z2.out]; have := HM.out; omega) HB2.out.size ?_
      intro v5 w5 hown5 hgrow hnil
      rw [HS.out, z2.out, show 16 * j + 16 = 16 * (j + 1) by omega] at hown5
      have HB5 := Lib.hid (HB2.out.grown hgrow HB2.out.size (fun b hb => (HO2.out.lt b hb).1))
      have HO5 := Lib.hid hown5
      clear hown5 hgrow hnil HO2 HB2 HS
      go_wp2
      go_roundw
      case rel => exact ⟨j + 1, by omega, by go_num, HO5.out, HB5.out⟩
      case measure => simp [intOf]; omega
    · obtain rfl : j = m := by omega
      have hconv := run_string_own Tryz.underlying22 Tryz.underlying5 Tryz.underlying9 hown
      have HB := Lib.hid hbel
      clear hown hbel HSL HU HBZ CL hq
      go_wp2
      go_ret
      exact ⟨rfl, HB.out⟩
theorem each_back_spec (key s : ByteArray) (hs : s.size ≤ 4194304) (w : World) :
    Calls Tryz.prog 50 #[.string key, .string s, .bool true] w fun e w' => e = .returned (.string (slT true key s)) ∧ Below w.heap.size w w' := by
  by_cases h : kOk key ∧ s.size % 16 = 0
  · rw [slT_yes _ _ _ h.1 h.2]
    have H := each_back key s h.1 (s.size / 16) (by omega) hs w
    rwa [show 16 * (s.size / 16) = s.size by omega] at H
  · rw [slT_no _ _ _ h]; exact each_no key s _ h w
set_option maxRecDepth 100000 in
theorem UnlockSliced_spec10 (key s : ByteArray) (hs : s.size ≤ 4194304) (w : World) :
    Calls Tryz.prog 24 #[.string key, .string s] w fun e w' => e = .returned (.string (slT true key s)) ∧ Below w.heap.size w w' := by
  have C := Lib.hid (each_back_spec key s hs w)
  generalize slT true key s = OUT at *
  clear hs
  go_enter Tryz.func24, Tryz.ntmps24
  go_wp2_with fail
  refine C.out.mono ?_; rintro e w2 ⟨rfl, hb⟩
  have HB := Lib.hid hb
  clear hb C
  go_wp2
  go_ret
  exact ⟨rfl, HB.out⟩
set_option maxRecDepth 100000 in
theorem in_spec (n a b : Int) (w : World) :
    Calls Tryz.prog 83 #[.int .i64 n, .int .i64 a, .int .i64 b] w fun e w' => e = .returned (.bool (decide (a ≤ n ∧ n ≤ b))) ∧ w = w' := by
  by_cases h0 : a ≤ n
  · by_cases h2 : n ≤ b
    · rw [decide_eq_true (And.intro h0 h2)]
      go_enter Tryz.func83, Tryz.ntmps83
      go_wp2
      go_ret
      exact ⟨rfl, rfl⟩
    · rw [decide_eq_false (fun h => h2 h.2)]
      go_enter Tryz.func83, Tryz.ntmps83
      go_wp2
      go_ret
      exact ⟨rfl, rfl⟩
  · rw [decide_eq_false (fun h => h0 h.1)]
    go_enter Tryz.func83, Tryz.ntmps83
    go_wp2
    go_ret
    exact ⟨rfl, rfl⟩
set_option maxRecDepth 100000 in
set_option maxHeartbeats 1600000 in
theorem code_spec (n : Int) (key s : ByteArray) (w : World) :
    Calls Tryz.prog 55 #[.int .i64 n, .string key, .string s] w fun e w' => e = .returned (.int .i64 (coT n key s)) ∧ w = w' := by
  have CE := fun W => Lib.hid (in_spec n 0 2 W)
  have CK := fun W => Lib.hid (KeyOk_spec key W)
  by_cases hn : 0 ≤ n ∧ n ≤ 2
  · rw [decide_eq_true hn] at CE
    by_cases hk : kOk key
    · rw [decide_eq_true hk] at CK
      have hr := rem16 s
      by_cases hs : s.size % 16 = 0
      · rw [coT_ok n key s hn hk hs]
        have hr2 : ((s.size % 16 : Nat) : Int) = 0 := by omega
        rw [hr2] at hr
        clear hn hk hs hr2
        go_enter Tryz.func55, Tryz.ntmps55
        go_wp2_with fail
        refine (CE _).out.mono ?_; rintro e w1 ⟨rfl, rfl⟩
        go_wp2_with fail
        refine (CK _).out.mono ?_; rintro e w1 ⟨rfl, rfl⟩
        clear CE CK
        go_wp2
        go_ret
        exact ⟨rfl, rfl⟩
      · rw [coT_len n key s hn hk hs]
        have hr2 : ¬ ((s.size % 16 : Nat) : Int) = 0 := by omega
        generalize ((s.size % 16 : Nat) : Int) = r at *
        clear hn hk hs
        go_enter Tryz.func55, Tryz.ntmps55
        go_wp2_with fail
        refine (CE _).out.mono ?_; rintro e w1 ⟨rfl, rfl⟩
        go_wp2_with fail
        refine (CK _).out.mono ?_; rintro e w1 ⟨rfl, rfl⟩
        clear CE CK
        go_wp2
        go_ret
        exact ⟨rfl, rfl⟩
    · rw [decide_eq_false hk] at CK
      rw [coT_key n key s hn hk]
      clear hn hk
      go_enter Tryz.func55, Tryz.ntmps55
      go_wp2_with fail
      refine (CE _).out.mono ?_; rintro e w1 ⟨rfl, rfl⟩
      go_wp2_with fail
      refine (CK _).out.mono ?_; rintro e w1 ⟨rfl, rfl⟩
      clear CE CK
      go_wp2
      go_ret
      exact ⟨rfl, rfl⟩
  · rw [decide_eq_false hn] at CE
    rw [coT_eng n key s hn]
    clear hn CK
    go_enter Tryz.func55, Tryz.ntmps55
    go_wp2_with fail
    refine (CE _).out.mono ?_; rintro e w1 ⟨rfl, rfl⟩
    clear CE
    go_wp2
    go_ret
    exact ⟨rfl, rfl⟩
set_option maxRecDepth 100000 in
theorem LockBlocks_spec (n : Int) (key s : ByteArray) (hs : s.size ≤ 4194304) (w : World) :
    Calls Tryz.prog 30 #[.int .i64 n, .string key, .string s] w fun e w' => e = .returned (.tuple #[.string (blT false n key s), .int .i64 (coT n key s)]) ∧ Below w.heap.size w w' := by
  have CC := Lib.hid (code_spec n key s w)
  by_cases h : coT n key s = 0
  · have CE := Lib.hid (each_there_spec key s hs w)
    rw [blT_ok _ n key s h, h]
    rw [h] at CC
    generalize slT false key s = OUT at *
    clear hs h
    go_enter Tryz.func30, Tryz.ntmps30
    go_wp2_with fail
    refine CC.out.mono ?_; rintro e w1 ⟨rfl, rfl⟩
    clear CC
    go_wp2_with fail
    refine CE.out.mono ?_; rintro e w2 ⟨rfl, hb⟩
    have HB := Lib.hid hb
    clear hb CE
    go_wp2
    go_ret2
    exact ⟨rfl, HB.out⟩
  · rw [blT_no _ n key s h]
    generalize coT n key s = CO at *
    clear hs
    go_enter Tryz.func30, Tryz.ntmps30
    go_wp2_with fail
    refine CC.out.mono ?_; rintro e w1 ⟨rfl, rfl⟩
    clear CC
    go_wp2
    go_ret2
    exact ⟨rfl, Below.refl _ _⟩
set_option maxRecDepth 100000 in
theorem UnlockBlocks_spec (n : Int) (key s : ByteArray) (hs : s.size ≤ 4194304) (w : World) :
    Calls Tryz.prog 31 #[.int .i64 n, .string key, .string s] w fun e w' => e = .returned (.tuple #[.string (blT true n key s), .int .i64 (coT n key s)]) ∧ Below w.heap.size w w' := by
  have CC := Lib.hid (code_spec n key s w)
  by_cases h : coT n key s = 0
  · have CE := Lib.hid (each_back_spec key s hs w)
    rw [blT_ok _ n key s h, h]
    rw [h] at CC
    generalize slT true key s = OUT at *
    clear hs h
    go_enter Tryz.func31, Tryz.ntmps31
    go_wp2_with fail
    refine CC.out.mono ?_; rintro e w1 ⟨rfl, rfl⟩
    clear CC
    go_wp2_with fail
    refine CE.out.mono ?_; rintro e w2 ⟨rfl, hb⟩
    have HB := Lib.hid hb
    clear hb CE
    go_wp2
    go_ret2
    exact ⟨rfl, HB.out⟩
  · rw [blT_no _ n key s h]
    generalize coT n key s = CO at *
    clear hs
    go_enter Tryz.func31, Tryz.ntmps31
    go_wp2_with fail
    refine CC.out.mono ?_; rintro e w1 ⟨rfl, rfl⟩
    clear CC
    go_wp2
    go_ret2
    exact ⟨rfl, Below.refl _ _⟩
end Go.Proofs.YtkklkcajllpjpaaGreatDoor
