/-
  The walk of laws.FnEqual: it returns true at every code.
-/
import Derived.Test.YtkklkcajllpjpaaDoorTabLaid
import Derived.Test.YtkklkcajllpjpaaDoorTabs
import Derived.Test.YtkklkcajllpjpaaDoorTableT
import Derived.Test.YtkklkcajllpjpaaDoorBlk16
import Derived.Test.YtkklkcajllpjpaaDoorLockSp
import Derived.Test.YtkklkcajllpjpaaDoorDraws
import Derived.Test.YtkklkcajllpjpaaDoorBase
import Derived.Test.YtkklkcajllpjpaaDoorUnmix
import Derived.Test.YtkklkcajllpjpaaDoorW24
set_option linter.unusedVariables false
set_option linter.unusedSimpArgs false
namespace Go.Proofs.YtkklkcajllpjpaaDoor
open Go Go.RowKit

theorem facts_FnEqual {W : World} (h : laidMetH Tryd.prog Rows.fnEqualRow.laid W) : Fac4 W 0 unF := Un8_laid h
/-- a text of the first k words. -/
def wte (f : Nat → UInt32) (k : Nat) : ByteArray := ⟨(rowW f k).toArray⟩
theorem wte_put (f : Nat → UInt32) (k : Nat) : wte f k ++ putW (f k) = wte f (k + 1) := rowW_put f k
theorem wte_size (f : Nat → UInt32) (k : Nat) : (wte f k).size = 4 * k := rowW_size f k
theorem wte_4 (f : Nat → UInt32) : wte f 4 = ofW f := blk_ofW f
/-- words as integers. -/
def wi (f : Nat → UInt32) (i : Nat) : Int := ((f i).toNat : Int)
theorem wi_nums (f : Nat → UInt32) (k : Nat) : upTo (wi f) k = nums (upTo f k) := by unfold nums; rw [upTo_map]; rfl
theorem irow_words {w : World} {A : Option Addr} {L : Nat} {f : Nat → UInt32} (h : IRow w A L (nums (upTo f L))) (h0 : 0 < L) : ∃ b o, A = some ⟨b, o, none⟩ ∧ b < w.heap.size ∧ ∀ j, j < L → w.cell? ⟨b, o + j, none⟩ = some (.int .i64 ((f j).toNat : Int)) := by
  have hll : (nums (upTo f L)).length = L := by rw [nums_length, upTo_length]
  obtain ⟨b, o, rfl, hb, -⟩ := h.2 0 (by omega)
  refine ⟨b, o, rfl, hb, fun j hj => ?_⟩
  obtain ⟨b2, o2, e2, -, hc2⟩ := h.2 j (by omega)
  cases e2
  rw [hc2]
  simp only [nums, List.getElem_map, upTo_get]
theorem eq_num (m k p : Nat) (hm : m < 4) (hk : k < 4) (hp : (m + 4 - k) % 4 = p) : ((m : Int) + 4 - (k : Int)).tmod 4 = (p : Int) := by
  rw [Int.tmod_eq_emod_of_nonneg (by omega)]; omega
set_option maxRecDepth 100000 in
set_option maxHeartbeats 12800000 in
theorem walk_FnEqual (a0 : Option Addr) (len0 cap0 : Nat) (z0 : List Int) (w : World) (w0 : IsRow .u8 w a0 len0 cap0 z0) (hf : Fac4 w 0 unF) :
    Calls Tryd.prog 3 #[.slice a0 len0 cap0] w fun e w' => e = .returned (.bool true) ∧ Below w.heap.size w w' := by
  obtain ⟨hcode, hlen⟩ := w0.code
  clear w0
  by_cases hl : len0 ≤ 1048576
  · have H := Lib.hid hcode
    have HF : Hid (∀ W, Below w.heap.size w W → Fac4 W 0 unF) := Lib.hid (fun W hW => hf.below hW hf.1)
    clear hcode hf
    obtain ⟨i0, hi, hz0, hz1, hz2⟩ := info_parts info64
    go_enter Tryd.func3, Tryd.ntmps3
    go_wp2_with fail
    refine (big_small _ _ _ _ hl).mono ?_; rintro e w' ⟨rfl, rfl⟩
    go_wp2_with fail
    refine (aKey_any _ _ _ _ H.out hl).mono ?_; rintro e w1 ⟨s, rfl, hk, hb1⟩
    have HC := Lib.hid ((H.out.below hb1 (Nat.le_refl _)).up hb1.size)
    have HB1 := Lib.hid hb1
    clear hb1
    go_wp2_with fail
    refine (bytes_law 40 16 (by omega) _ _ _ _ HC.out hl).mono ?_; rintro e w2 ⟨t, rfl, ht, hb2⟩
    have HB2 := Lib.hid (HB1.out.trans (hb2.mono HB1.out.size))
    clear hb2 HB1
    obtain ⟨n, hn⟩ := hk.of
    have hle := hn.le
    have CU := fun W hW => Lib.hid (Unmixed_impl s W hW)
    rw [unInts_of s n hn] at CU
    have CR := fun W => Lib.hid (rounds_yes_spec s n hn W)
    have CK := fun W => Lib.hid (rk16_impl s n hn 0 (by omega) _ rfl W)
    have h00 : ((0 : Nat) : Int) = 0 := rfl
    simp only [h00] at CK
    have CL := fun W => Lib.hid (Unlock_spec s t W)
    rw [unlockT_yes s t hk ht, hn.div] at CL
    have HFIN := Lib.hid (utW_last s n t ht)
    have HN8 : Hid (4 ≤ n ∧ n ≤ 8) := Lib.hid hle
    have HT := Lib.hid ht
    have U0 : Hid (∀ i, utW (uw s n) (n + 6) t 0 i = colW t i ^^^ uw s n (4 * (n + 6) + i)) := Lib.hid (fun i => rfl)
    have US : Hid (∀ j i, utW (uw s n) (n + 6) t (j + 1) i = utTo (utW (uw s n) (n + 6) t j) i (uw s n (4 * (n + 6 - 1 - j) + i)) 4) := Lib.hid (fun j i => rfl)
    generalize unlockS (rkS s n) (n + 6) t = RES at *
    have HKEY := Lib.hid (rkS_size s n 0)
    generalize rkS s n 0 = KEY0 at *
    obtain ⟨L, hL⟩ : ∃ L, kL n = L := ⟨_, rfl⟩
    have hLn : L = 4 * (n + 7) := by rw [← hL]; rfl
    rw [hL] at CU
    have O1 : Hid (∀ {e : Ending} {W W' : World}, OwnInts W (nums (upTo (uw s n) L)) e W' → ∃ A c, e = .returned (.slice A L c) ∧ W'.ownsRow W.heap.size 3 1 (.slice A L c) L (cells64 (nums (upTo (uw s n) L))) ∧ IRow W' A L (nums (upTo (uw s n) L)) ∧ L ≤ c ∧ c ≤ 9223372036854775807 ∧ Below W.heap.size W W') := Lib.hid (fun h => by have := OwnInts.open h; rwa [nums_length, upTo_length] at this)
    have hLI : (L : Int) = 4 * ((n : Int) + 6) + 4 := by omega
    have hn8 : (n : Int) ≤ 8 := by omega
    have hn4 : (4 : Int) ≤ (n : Int) := by omega
    have HLN := Lib.hid hLn
    clear hL hLn hle hk ht
    go_wp2_with fail
    refine (CU _ (HF.out _ HB2.out)).out.mono ?_; rintro e w3 ho3
    obtain ⟨A3, c3, rfl, hown3, hr3, hc3, hcm3, hb3⟩ := O1.out ho3
    obtain ⟨bw, ow, rfl, hbw, hcw⟩ := irow_words hr3 (by have := HLN.out; have := HN8.out; omega)
    have HBW := Lib.hid hbw
    have HCW := Lib.hid hcw
    have HB3 := Lib.hid (HB2.out.trans (hb3.mono HB2.out.size))
    clear ho3 hown3 hr3 hb3 hbw hcw CU O1 HB2
    go_wp2_with fail
    refine (CR _).out.mono ?_; rintro e w' ⟨rfl, rfl⟩
    have q1 : IntKind.i64.wrap ((n : Int) + 6) = (n : Int) + 6 := IntWalk.i64_in _ (by omega)
    have q2 : IntKind.i64.wrap (4 * ((n : Int) + 6)) = 4 * ((n : Int) + 6) := IntWalk.i64_in _ (by omega)
    have q3 : IntKind.i64.wrap (4 * ((n : Int) + 6) + 4) = 4 * ((n : Int) + 6) + 4 := IntWalk.i64_in _ (by omega)
    have HQ2 := Lib.hid q2
    have HLI := Lib.hid hLI
    go_wp2
    clear q1 q2 q3 hLI
    -- the first words
    go_loopw [7, 8] (fun v i wr => ∃ k : Nat, k ≤ 4 ∧ i = .int .i64 k ∧ wr.ownsRow w3.heap.size 3 1 v k (cells64 (upTo (wi (utW (uw s n) (n + 6) t 0)) k)) ∧ Below w3.heap.size w3 wr) (fun _ i _ => 4 - (intOf i).toNat)
    case atStart => exact ⟨0, by omega, rfl, World.ownsRow_lit w3 #[] 0 (Nat.le_refl _) (by simp [maxLen]) rfl, (Below.refl _ _).alloc (Nat.le_refl _) _⟩
    case round =>
      obtain ⟨k, hk, rfl, hown, hbel⟩ := hrel
      have HB := Lib.hid hbel
      have HO := Lib.hid hown
      by_cases hlt : k < 4
      · have HG := fun W => Lib.hid (GetWord_at_spec t (4 * k) (by have := HT.out; omega) (by have := HT.out; omega) W)
        rw [show ((4 * k : Nat) : Int) = 4 * (k : Int) by omega] at HG
        have hX : bits .xor .i64 ((colW t k).toNat : Int) ((uw s n (4 * (n + 6) + k)).toNat : Int) = wi (utW (uw s n) (n + 6) t 0) k := by
          unfold wi; rw [U0.out]; exact i64_xor32 _ _
        have HX := Lib.hid hX.symm
        have hgl := w32_lt (colW t k)
        have hul := w32_lt (uw s n (4 * (n + 6) + k))
        have SF : Hid (∀ W, Below w3.heap.size w3 W → W.cell? ⟨bw, ow + (4 * (n + 6) + k), none⟩ = some (.int .i64 ((uw s n (4 * (n + 6) + k)).toNat : Int))) := Lib.hid fun W hW => (hW.cell (p := ⟨bw, ow + (4 * (n + 6) + k), none⟩) HBW.out).trans (HCW.out _ (by have := HLN.out; omega))
        have HU : Hid (getW t (4 * k) = colW t k) := Lib.hid rfl
        simp only [HU.out] at HG
        obtain ⟨p, hp⟩ : ∃ p, 4 * (n + 6) + k = p := ⟨_, rfl⟩
        have hpI : 4 * ((n : Int) + 6) + (k : Int) = (p : Int) := by omega
        have hpL : (p : Int) < (L : Int) := by have := HLI.out; omega
        have hp0 : (0 : Int) ≤ (p : Int) := by omega
        have hpw : IntKind.i64.wrap (p : Int) = (p : Int) := IntWalk.i64_in _ (by have := HLI.out; omega)
        rw [hp] at SF hX hul HX
        obtain ⟨z, hzz⟩ : ∃ z, wi (utW (uw s n) (n + 6) t 0) k = z := ⟨_, rfl⟩
        rw [hzz] at hX
        have HZ := Lib.hid hzz
        generalize colW t k = y at *
        generalize uw s n p = x at *
        have hk0 : (0 : Int) ≤ (k : Int) := by omega
        have hk1 : (k : Int) < 4 := by omega
        have hy2 : (y.toNat : Int) < 4294967296 := by omega
        have hx2 : (x.toNat : Int) < 4294967296 := by omega
        have q2 := HQ2.out
        have q4 : IntKind.i64.wrap (4 * (k : Int)) = 4 * (k : Int) := IntWalk.i64_in _ (by omega)
        have hS0 := SF.out wr.drew HB.out.drew
        clear hown hbel hgl hul HX U0 US HFIN hp hzz
        go_wp2
        refine wp_region_held_drew (S := fun w' => w'.cell? ⟨bw, ow + p, none⟩ = some (.int .i64 (x.toNat : Int))) (by kernel_rfl) hS0 (fun hS => ?_)
        refine wpAnyH_take (i := 0) (v := ?_) rfl (by kernel_rfl) (by kernel_rfl) (by kernel_rfl) (fun _ _ _ h => h) (Or.inl ⟨by kernel_rfl, ?_⟩) hS ?_
        rotate_left
        · intro w hSw
          have s0 := hSw
          go_simp
          first | done | with_reducible rfl
        try simp only [List.getElem_toArray, List.getElem_cons_succ, List.getElem_cons_zero, Act.put, List.setIfInBounds_toArray, List.set_cons_zero, List.set_cons_succ]
        refine wpAnyH_take (i := 1) (v := ?_) rfl (by kernel_rfl) (by kernel_rfl) (by kernel_rfl) (fun _ _ _ h => h) (Or.inl ⟨by kernel_rfl, ?_⟩) hS ?_
        rotate_left
        · intro w hSw
          have s0 := hSw
          go_simp
          first | done | with_reducible rfl
        try simp only [List.getElem_toArray, List.getElem_cons_succ, List.getElem_cons_zero, Act.put, List.setIfInBounds_toArray, List.set_cons_zero, List.set_cons_succ]
        refine wpAnyH_take (i := 2) (v := ?_) rfl (by kernel_rfl) (by kernel_rfl) (by kernel_rfl) (fun _ _ _ h => h) (Or.inl ⟨by kernel_rfl, ?_⟩) hS ?_
        rotate_left
        · intro w hSw
          have s0 := hSw
          go_simp
          first | done | with_reducible rfl
        try simp only [List.getElem_toArray, List.getElem_cons_succ, List.getElem_cons_zero, Act.put, List.setIfInBounds_toArray, List.set_cons_zero, List.set_cons_succ]
        refine wpAnyH_take (i := 3) (v := ?_) rfl (by kernel_rfl) (by kernel_rfl) (by kernel_rfl) (fun _ _ _ h => h) (Or.inl ⟨by kernel_rfl, ?_⟩) hS ?_
        rotate_left
        · intro w hSw
          have s0 := hSw
          go_simp
          first | done | with_reducible rfl
        try simp only [List.getElem_toArray, List.getElem_cons_succ, List.getElem_cons_zero, Act.put, List.setIfInBounds_toArray, List.set_cons_zero, List.set_cons_succ]
        refine wpAnyH_take (i := 5) (v := ?_) rfl (by kernel_rfl) (by kernel_rfl) (by kernel_rfl) (fun _ _ _ h => h) (Or.inl ⟨by kernel_rfl, ?_⟩) hS ?_
        rotate_left
        · intro w hSw
          have s0 := hSw
          go_simp
          first | done | with_reducible rfl
        try simp only [List.getElem_toArray, List.getElem_cons_succ, List.getElem_cons_zero, Act.put, List.setIfInBounds_toArray, List.set_cons_zero, List.set_cons_succ]
        refine wpAnyH_take (i := 6) (v := ?_) rfl (by kernel_rfl) (by kernel_rfl) (by kernel_rfl) (fun _ _ _ h => h) (Or.inl ⟨by kernel_rfl, ?_⟩) hS ?_
        rotate_left
        · intro w hSw
          have s0 := hSw
          go_simp
          first | done | with_reducible rfl
        try simp only [List.getElem_toArray, List.getElem_cons_succ, List.getElem_cons_zero, Act.put, List.setIfInBounds_toArray, List.set_cons_zero, List.set_cons_succ]
        refine wpAnyH_take (i := 7) (v := ?_) rfl (by kernel_rfl) (by kernel_rfl) (by kernel_rfl) (fun _ _ _ h => h) (Or.inl ⟨by kernel_rfl, ?_⟩) hS ?_
        rotate_left
        · intro w hSw
          have s0 := hSw
          go_simp
          first | done | with_reducible rfl
        try simp only [List.getElem_toArray, List.getElem_cons_succ, List.getElem_cons_zero, Act.put, List.setIfInBounds_toArray, List.set_cons_zero, List.set_cons_succ]
        refine wpAnyH_take (i := 8) (v := ?_) rfl (by kernel_rfl) (by kernel_rfl) (by kernel_rfl) (fun _ _ _ h => h) (Or.inl ⟨by kernel_rfl, ?_⟩) hS ?_
        rotate_left
        · intro w hSw
          have s0 := hSw
          go_simp
          first | done | with_reducible rfl
        try simp only [List.getElem_toArray, List.getElem_cons_succ, List.getElem_cons_zero, Act.put, List.setIfInBounds_toArray, List.set_cons_zero, List.set_cons_succ]
        refine wpAnyH_take (i := 9) (v := ?_) rfl (by kernel_rfl) (by kernel_rfl) (by kernel_rfl) (fun _ _ _ h => h) (Or.inl ⟨by kernel_rfl, ?_⟩) hS ?_
        rotate_left
        · intro w hSw
          have s0 := hSw
          go_simp
          first | done | with_reducible rfl
        try simp only [List.getElem_toArray, List.getElem_cons_succ, List.getElem_cons_zero, Act.put, List.setIfInBounds_toArray, List.set_cons_zero, List.set_cons_succ]
        refine wpAnyH_take (i := 10) (v := ?_) rfl (by kernel_rfl) (by kernel_rfl) (by kernel_rfl) (fun _ _ _ h => h) (Or.inl ⟨by kernel_rfl, ?_⟩) hS ?_
        rotate_left
        · intro w hSw
          have s0 := hSw
          go_simp
          first | done | with_reducible rfl
        try simp only [List.getElem_toArray, List.getElem_cons_succ, List.getElem_cons_zero, Act.put, List.setIfInBounds_toArray, List.set_cons_zero, List.set_cons_succ]
        refine wpAnyH_take (i := 11) (v := ?_) rfl (by kernel_rfl) (by kernel_rfl) (by kernel_rfl) (fun _ _ _ h => h) (Or.inl ⟨by kernel_rfl, ?_⟩) hS ?_
        rotate_left
        · intro w hSw
          have s0 := hSw
          go_simp
          first | done | with_reducible rfl
        try simp only [List.getElem_toArray, List.getElem_cons_succ, List.getElem_cons_zero, Act.put, List.setIfInBounds_toArray, List.set_cons_zero, List.set_cons_succ]
        refine wpAnyH_ready (rs := [4]) (by kernel_rfl) (by simp) ?_
        refine AllReadyH.cons rfl (fun K hK => ?_) AllReadyH.nil
        go_simp
        refine (HG _).out.mono ?_; rintro e w5 ⟨rfl, hb5⟩
        have HB5 := Lib.hid (HB.out.drew.trans (hb5.mono HB.out.size))
        have HO5 := Lib.hid (own_below (w := wr.drew) HO.out hb5)
        clear hb5
        refine hK.out _ _ (SF.out _ HB5.out) (fun hS2 => ?_)
        clear hK K
        try simp only [List.getElem_toArray, List.getElem_cons_succ, List.getElem_cons_zero, Act.put, List.setIfInBounds_toArray, List.set_cons_zero, List.set_cons_succ]
        refine wpAnyH_take (i := 12) (v := ?_) rfl (by kernel_rfl) (by kernel_rfl) (by kernel_rfl) (fun _ _ _ h => h) (Or.inl ⟨by kernel_rfl, ?_⟩) hS2 ?_
        rotate_left
        · intro w hSw
          have s0 := hSw
          go_simp
          first | done | with_reducible rfl
        try simp only [List.getElem_toArray, List.getElem_cons_succ, List.getElem_cons_zero, Act.put, List.setIfInBounds_toArray, List.set_cons_zero, List.set_cons_succ]
        refine wpAnyH_ready (rs := [13]) (by kernel_rfl) (by simp) ?_
        refine AllReadyH.cons rfl (fun K hK => ?_) AllReadyH.nil
        go_simp
        refine hK.out _ _ (SF.out _ (HB5.out.alloc HB5.out.size _)) (fun hS3 => ?_)
        clear hK K
        try simp only [List.getElem_toArray, List.getElem_cons_succ, List.getElem_cons_zero, Act.put, List.setIfInBounds_toArray, List.set_cons_zero, List.set_cons_succ]
        refine wpAnyH_ready (rs := [14]) (by kernel_rfl) (by simp) ?_
        refine AllReadyH.cons rfl (fun K hK => ?_) AllReadyH.nil
        refine Eq.mpr (if_pos (by rfl)) ?_
        refine wp_append_lies (w5.alloc (.cells #[.int .i64 z] 3)) (.tmp 37) (.tmp 50) 26 rfl w3.heap.size 3 i0 (.int .i64 0) 1 8 Tryd.underlying26 hi hz0 hz1 hz2 rfl (by decide) u7 k (cells64 (upTo (wi (utW (uw s n) (n + 6) t 0)) k)) rfl (HO5.out.alloc _) ⟨w5.heap.size, 0, none⟩ 1 1 [.int .i64 z] rfl rfl (World.news_of_block (cs := #[.int .i64 z]) (heap_alloc_new w5 _)) (by simp [Value.oneCell']) (by omega) (by unfold maxLen; omega) (by omega) (by have := HB5.out.size; simp; omega) (w5.heap.size + 1) (by simp) ?_
        intro g2 cap2 w6 hown6 hgrow hat hlt6
        have HREL := Lib.hid (tr_rel (F := wi (utW (uw s n) (n + 6) t 0)) HZ.out HO5.out HB5.out hown6 hgrow)
        clear hown6 hgrow hat hlt6
        refine hK.out _ _ (SF.out _ HREL.out.2) (fun hS4 => ?_)
        clear hK K
        try simp only [List.getElem_toArray, List.getElem_cons_succ, List.getElem_cons_zero, Act.put, List.setIfInBounds_toArray, List.set_cons_zero, List.set_cons_succ]
        refine wpAnyH_take (i := 15) (v := ?_) rfl (by kernel_rfl) (by kernel_rfl) (by kernel_rfl) (fun _ _ _ h => h) (Or.inl ⟨by kernel_rfl, ?_⟩) hS4 ?_
        rotate_left
        · intro w hSw
          have s0 := hSw
          go_simp
          first | done | with_reducible rfl
        try simp only [List.getElem_toArray, List.getElem_cons_succ, List.getElem_cons_zero, Act.put, List.setIfInBounds_toArray, List.set_cons_zero, List.set_cons_succ]
        refine wpAnyH_done (by kernel_rfl) ?_ _
        clear hS hS2 hS3 hS4
        go_wp2
        go_roundw
        case rel => exact ⟨k + 1, by omega, by go_num, HREL.out.1, HREL.out.2⟩
        case measure => simp [intOf]; omega
      · obtain rfl : k = 4 := by omega
        have e4 : ((4 : Nat) : Int) = 4 := rfl
        try rw [e4]
        clear e4
        obtain ⟨wa, rfl⟩ : ∃ x, x = wr := ⟨_, rfl⟩
        obtain ⟨A4, c4, rfl, hnc4, hcm4⟩ := own_slice64 hown
        have hir := own_irow hown
        rw [wi_nums] at hir
        have HIR := Lib.hid hir
        have HB4 := Lib.hid (HB3.out.trans (HB.out.mono HB3.out.size))
        have HCW4 : Hid (∀ W, Below wa.heap.size wa W → ∀ j, j < L → W.cell? ⟨bw, ow + j, none⟩ = some (.int .i64 ((uw s n j).toNat : Int))) := Lib.hid fun W hW j hj => ((HB.out.trans (hW.mono HB.out.size)).cell (p := ⟨bw, ow + j, none⟩) HBW.out).trans (HCW.out j hj)
        clear hown hbel hir HO HCW HB3
        have q1 : IntKind.i64.wrap ((n : Int) + 6 - 1) = (n : Int) + 6 - 1 := IntWalk.i64_in _ (by omega)
        go_wp2
        clear q1
        -- the rounds
        go_loopw [7, 9] (fun v r wr2 => ∃ (j : Nat) (A : Option Addr) (c : Nat), j ≤ n + 5 ∧ r = .int .i64 ((n + 5 - j : Nat) : Int) ∧ v = .slice A 4 c ∧ 4 ≤ c ∧ c ≤ 9223372036854775807 ∧ IRow wr2 A 4 (nums (upTo (utW (uw s n) (n + 6) t j) 4)) ∧ Below wa.heap.size wa wr2) (fun _ r _ => (intOf r).toNat)
        case atStart => exact ⟨0, _, _, by omega, by go_num, rfl, hnc4, hcm4, HIR.out, Below.refl _ _⟩
        case round =>
          obtain ⟨wr2, rfl⟩ : ∃ x, x = wr := ⟨_, rfl⟩
          obtain ⟨j, A, c, hj, rfl, rfl, hnc, hcm, hir, hbel⟩ := hrel
          have HB := Lib.hid hbel
          obtain ⟨bs, os, rfl, hbs, hcs⟩ := irow_words hir (by omega)
          have HCS : Hid (∀ W, Below wr2.heap.size wr2 W → ∀ i, i < 4 → W.cell? ⟨bs, os + i, none⟩ = some (.int .i64 ((utW (uw s n) (n + 6) t j i).toNat : Int))) := Lib.hid fun W hW i hi => (hW.cell (p := ⟨bs, os + i, none⟩) hbs).trans (hcs i hi)
          obtain ⟨r, hr⟩ : ∃ r, n + 5 - j = r := ⟨_, rfl⟩
          rw [hr]
          by_cases hlt : j < n + 5
          · have hr1 : n + 6 - 1 - j = r := by omega
            have hr0 : (0 : Int) < (r : Int) := by omega
            have hdr : decide ((0 : Int) < (r : Int)) = true := decide_eq_true hr0
            have hdr2 : decide (0 < r) = true := decide_eq_true (by omega)
            have hrn : (r : Int) ≤ 13 := by omega
            have HUS : Hid (∀ i, utW (uw s n) (n + 6) t (j + 1) i = utTo (utW (uw s n) (n + 6) t j) i (uw s n (4 * r + i)) 4) := Lib.hid fun i => by rw [US.out, hr1]
            have HRL : Hid (∀ i, i < 4 → 4 * r + i < L) := Lib.hid fun i hi => by have := HLN.out; omega
            have HJ := Lib.hid hr
            have HJ2 := Lib.hid hlt
            obtain ⟨ST, hST⟩ : ∃ ST, utW (uw s n) (n + 6) t j = ST := ⟨_, rfl⟩
            rw [hST] at HCS HUS
            obtain ⟨NX, hNX⟩ : ∃ NX, utW (uw s n) (n + 6) t (j + 1) = NX := ⟨_, rfl⟩
            rw [hNX] at HUS
            have HNX := Lib.hid hNX
            clear hbel hir hbs hcs hr1 hr hlt hST hNX hj HIR hnc4 hcm4
            go_wp2
            go_loopw [10, 11] (fun v i wr3 => ∃ m : Nat, m ≤ 4 ∧ i = .int .i64 m ∧ wr3.ownsRow wr2.heap.size 3 1 v m (cells64 (upTo (wi NX) m)) ∧ Below wr2.heap.size wr2 wr3) (fun _ i _ => 4 - (intOf i).toNat)
            case atStart => exact ⟨0, by omega, rfl, World.ownsRow_lit wr2 #[] 0 (Nat.le_refl _) (by simp [maxLen]) rfl, (Below.refl _ _).alloc (Nat.le_refl _) _⟩
            case round =>
              obtain ⟨wr3, rfl⟩ : ∃ x, x = wr := ⟨_, rfl⟩
              obtain ⟨m, hm, rfl, hown, hbel⟩ := hrel
              have HB3 := Lib.hid hbel
              have HO := Lib.hid hown
              by_cases hltm : m < 4
              · have hcell : wr3.cell? ⟨bw, ow + (4 * r + m), none⟩ = some (.int .i64 ((uw s n (4 * r + m)).toNat : Int)) := HCW4.out _ (HB.out.trans (HB3.out.mono HB.out.size)) _ (HRL.out m hltm)
                have hm0 : (0 : Int) ≤ (m : Int) := by omega
                have hm1 : (m : Int) < 4 := by omega
                have q4 : IntKind.i64.wrap (4 * (r : Int)) = 4 * (r : Int) := IntWalk.i64_in _ (by omega)
                have q5 : IntKind.i64.wrap (4 * (r : Int) + (m : Int)) = 4 * (r : Int) + (m : Int) := IntWalk.i64_in _ (by omega)
                have hpL : 4 * (r : Int) + (m : Int) < (L : Int) := by have := HRL.out m hltm; omega
                have hp0 : (0 : Int) ≤ 4 * (r : Int) + (m : Int) := by omega
                have HUM := Lib.hid (HUS.out m)
                obtain ⟨U, hU⟩ : ∃ U, uw s n (4 * r + m) = U := ⟨_, rfl⟩
                rw [hU] at hcell HUM
                have hul := w32_lt U
                have hu2 : (U.toNat : Int) < 4294967296 := by omega
                clear hown hbel hU hul
                go_wp2
                clear hcell q4 q5 hpL hp0
                go_loopw [12, 13] (fun x q wr4 => ∃ d : Nat, d ≤ 4 ∧ q = .int .i64 d ∧ x = .int .i64 (utTo ST m U d).toNat ∧ wr4.ownsRow wr2.heap.size 3 1 u10 m (cells64 (upTo (wi NX) m)) ∧ Below wr2.heap.size wr2 wr4) (fun _ q _ => 4 - (intOf q).toNat)
                case atStart => exact ⟨0, by omega, rfl, rfl, HO.out, HB3.out⟩
                case round =>
                  obtain ⟨wr4, rfl⟩ : ∃ x, x = wr := ⟨_, rfl⟩
                  obtain ⟨d, hd, rfl, rfl, hown4, hbel4⟩ := hrel
                  have HB5 := Lib.hid hbel4
                  have HO5 := Lib.hid hown4
                  by_cases hltd : d < 4
                  · obtain ⟨p, hp⟩ : ∃ p, (m + 4 - d) % 4 = p := ⟨_, rfl⟩
                    have hp4 : p < 4 := by omega
                    have em := eq_num m d p hltm hltd hp
                    have hcell := HCS.out _ HB5.out p hp4
                    have hX : bits .xor .i64 ((utTo ST m U d).toNat : Int) ((utab d (wb (ST p) d)).toNat : Int) = ((utTo ST m U (d + 1)).toNat : Int) := by
                      rw [i64_xor32, ← hp]; rfl
                    have HX := Lib.hid hX
                    have HT4 := fun W hW => Lib.hid (untable_at d (by omega) (wb (ST p) d) W hW)
                    have hp0 : (0 : Int) ≤ (p : Int) := by omega
                    have hp1 : (p : Int) < 4 := by omega
                    obtain ⟨s0, s1, s2, s3⟩ := shr_and ((ST p).toNat : Int)
                    rw [w32_of] at s0 s1 s2 s3
                    have hd1 : (d : Int) < 4 := by omega
                    have HD := Lib.hid hd
                    have HFW := Lib.hid (HF.out _ (HB4.out.trans ((HB.out.trans (HB5.out.mono HB.out.size)).mono HB4.out.size)))
                    have hxl := w32_lt (ST p)
                    have hx2 : ((ST p).toNat : Int) < 4294967296 := by omega
                    generalize ST p = x at *
                    clear hX hown4 hbel4 hxl HO HB3
                    have h4 : d = 0 ∨ d = 1 ∨ d = 2 ∨ d = 3 := by omega
                    rcases h4 with rfl | rfl | rfl | rfl
                    · have em0 : ((m : Int) + 4).tmod 4 = (p : Int) := by have := em; simpa using this
                      have q1 : IntKind.i64.wrap ((m : Int) + 4) = (m : Int) + 4 := IntWalk.i64_in _ (by omega)
                      have e0 : ((0 : Nat) : Int) = 0 := rfl
                      simp only [e0] at HT4
                      generalize wb x 0 = b at *
                      clear hp e0 em s1 s2 s3
                      go_wp2_with fail
                      refine (HT4 _ HFW.out).out.mono ?_; rintro e w6 ⟨rfl, hb6⟩
                      have HB6 := Lib.hid (HB5.out.trans (hb6.mono HB5.out.size))
                      have HO6 := Lib.hid (own_below HO5.out hb6)
                      clear hb6 HT4 hcell
                      go_wp2
                      go_roundw
                      case rel => exact ⟨1, by omega, rfl, val_i HX.out, HO6.out, HB6.out⟩
                      case measure => simp [intOf]
                    · have em0 : ((m : Int) + 4 - 1).tmod 4 = (p : Int) := em
                      have q1 : IntKind.i64.wrap ((m : Int) + 4) = (m : Int) + 4 := IntWalk.i64_in _ (by omega)
                      have q2 : IntKind.i64.wrap ((m : Int) + 4 - 1) = (m : Int) + 4 - 1 := IntWalk.i64_in _ (by omega)
                      have e0 : ((1 : Nat) : Int) = 1 := rfl
                      simp only [e0] at HT4
                      generalize wb x 1 = b at *
                      clear hp e0 em s0 s2 s3
                      go_wp2_with fail
                      refine (HT4 _ HFW.out).out.mono ?_; rintro e w6 ⟨rfl, hb6⟩
                      have HB6 := Lib.hid (HB5.out.trans (hb6.mono HB5.out.size))
                      have HO6 := Lib.hid (own_below HO5.out hb6)
                      clear hb6 HT4 hcell
                      go_wp2
                      go_roundw
                      case rel => exact ⟨2, by omega, rfl, val_i HX.out, HO6.out, HB6.out⟩
                      case measure => simp [intOf]
                    · have em0 : ((m : Int) + 4 - 2).tmod 4 = (p : Int) := em
                      have q1 : IntKind.i64.wrap ((m : Int) + 4) = (m : Int) + 4 := IntWalk.i64_in _ (by omega)
                      have q2 : IntKind.i64.wrap ((m : Int) + 4 - 2) = (m : Int) + 4 - 2 := IntWalk.i64_in _ (by omega)
                      have e0 : ((2 : Nat) : Int) = 2 := rfl
                      simp only [e0] at HT4
                      generalize wb x 2 = b at *
                      clear hp e0 em s0 s1 s3
                      go_wp2_with fail
                      refine (HT4 _ HFW.out).out.mono ?_; rintro e w6 ⟨rfl, hb6⟩
                      have HB6 := Lib.hid (HB5.out.trans (hb6.mono HB5.out.size))
                      have HO6 := Lib.hid (own_below HO5.out hb6)
                      clear hb6 HT4 hcell
                      go_wp2
                      go_roundw
                      case rel => exact ⟨3, by omega, rfl, val_i HX.out, HO6.out, HB6.out⟩
                      case measure => simp [intOf]
                    · have em0 : ((m : Int) + 4 - 3).tmod 4 = (p : Int) := em
                      have q1 : IntKind.i64.wrap ((m : Int) + 4) = (m : Int) + 4 := IntWalk.i64_in _ (by omega)
                      have q2 : IntKind.i64.wrap ((m : Int) + 4 - 3) = (m : Int) + 4 - 3 := IntWalk.i64_in _ (by omega)
                      have e0 : ((3 : Nat) : Int) = 3 := rfl
                      simp only [e0] at HT4
                      generalize wb x 3 = b at *
                      clear hp e0 em s0 s1 s2
                      go_wp2_with fail
                      refine (HT4 _ HFW.out).out.mono ?_; rintro e w6 ⟨rfl, hb6⟩
                      have HB6 := Lib.hid (HB5.out.trans (hb6.mono HB5.out.size))
                      have HO6 := Lib.hid (own_below HO5.out hb6)
                      clear hb6 HT4 hcell
                      go_wp2
                      go_roundw
                      case rel => exact ⟨4, by omega, rfl, val_i HX.out, HO6.out, HB6.out⟩
                      case measure => simp [intOf]
                  · obtain rfl : d = 4 := by omega
                    have e4 : ((4 : Nat) : Int) = 4 := rfl
                    try rw [e4]
                    clear e4
                    have HXX : Hid (wi NX m = ((utTo ST m U 4).toNat : Int)) := Lib.hid (by unfold wi; rw [HUM.out])
                    have hyl := w32_lt (utTo ST m U 4)
                    have hy2 : ((utTo ST m U 4).toNat : Int) < 4294967296 := by omega
                    generalize utTo ST m U 4 = y at *
                    clear hown4 hbel4 hyl HO HB3
                    go_wp2_with (at_builtin; refine stp ?_)
                    refine unstp ?_
                    refine wpList_append_lies _ rfl (.tmp 92) (.tmp 94) 26 rfl wr2.heap.size 3 i0 (.int .i64 0) 1 8 Tryd.underlying26 hi hz0 hz1 hz2 rfl (by decide) u10 m (cells64 (upTo (wi NX) m)) rfl (HO5.out.alloc _) ⟨wr4.heap.size, 0, none⟩ 1 1 [.int .i64 (y.toNat : Int)] rfl rfl (World.news_of_block (cs := #[.int .i64 (y.toNat : Int)]) (heap_alloc_new wr4 _)) (by simp [Value.oneCell']) (by omega) (by unfold maxLen; omega) (by omega) (by have := HB5.out.size; simp; omega) (wr4.heap.size + 1) (by simp) ?_
                    intro g2 cap2 w5 hown5 hgrow hat hlt5
                    have hrel := tr_rel (F := wi NX) HXX.out HO5.out HB5.out hown5 hgrow
                    have HREL := Lib.hid hrel
                    clear hown5 hgrow hat hlt5 hrel
                    go_wp2
                    go_roundw
                    case rel => exact ⟨m + 1, by omega, by go_num, HREL.out.1, HREL.out.2⟩
                    case measure => simp [intOf]; omega
              · obtain rfl : m = 4 := by omega
                have e4 : ((4 : Nat) : Int) = 4 := rfl
                try rw [e4]
                clear e4
                obtain ⟨A5, c5, rfl, hnc5, hcm5⟩ := own_slice64 hown
                have hir := own_irow hown
                rw [wi_nums, ← HNX.out] at hir
                have HIR := Lib.hid hir
                have HBN := Lib.hid (HB.out.trans (HB3.out.mono HB.out.size))
                have hr5 : IntKind.i64.wrap ((r : Int) - 1) = (r : Int) - 1 := IntWalk.i64_in _ (by omega)
                clear hown hbel hir HO HB3
                go_wp2
                go_roundw
                case rel => exact ⟨j + 1, _, _, by have := HJ2.out; omega, by have := HJ.out; have := HJ2.out; go_num, rfl, hnc5, hcm5, HIR.out, HBN.out⟩
                case measure => simp [intOf]; omega
          · obtain rfl : j = n + 5 := by omega
            obtain rfl : r = 0 := by omega
            obtain ⟨ST, hST⟩ : ∃ ST, utW (uw s n) (n + 6) t (n + 5) = ST := ⟨_, rfl⟩
            rw [hST] at HCS HFIN
            clear hbel hir hbs hcs hr hlt hj hST U0 US HCW4 HIR
            have h00 : ((0 : Nat) : Int) = 0 := rfl
            rw [h00]
            go_wp2
            go_loopw [14, 15] (fun o i wr3 => ∃ m : Nat, m ≤ 4 ∧ i = .int .i64 m ∧ o = .string (wte ST m) ∧ Below wr2.heap.size wr2 wr3) (fun _ i _ => 4 - (intOf i).toNat)
            case atStart => exact ⟨0, by omega, rfl, rfl, Below.refl _ _⟩
            case round =>
              obtain ⟨wr3, rfl⟩ : ∃ x, x = wr := ⟨_, rfl⟩
              obtain ⟨m, hm, rfl, rfl, hbel⟩ := hrel
              have HB3 := Lib.hid hbel
              by_cases hltm : m < 4
              · have hcell := HCS.out _ HB3.out m hltm
                have HP := fun W => Lib.hid (PutWord_spec ((ST m).toNat : Int) W)
                simp only [w32_of] at HP
                have HS := Lib.hid (wte_put ST m)
                have hsz := wte_size ST m
                have hcat := fun W => run_string_add_sum (P := Tryd.prog) (w := W) (wte ST m) (putW (ST m)) (by rw [hsz, putW_size]; omega)
                have hxl := w32_lt (ST m)
                have hx2 : ((ST m).toNat : Int) < 4294967296 := by omega
                have hk0 : (0 : Int) ≤ (m : Int) := by omega
                have hk1 : (m : Int) < 4 := by omega
                generalize wte ST m = TX at *
                generalize putW (ST m) = DX at *
                generalize ST m = x at *
                clear hbel hxl hsz
                go_wp2_with fail
                refine (HP _).out.mono ?_; rintro e w5 ⟨rfl, hb5⟩
                have HB6 := Lib.hid (HB3.out.trans (hb5.mono HB3.out.size))
                clear hb5 hcell HP HB3
                go_wp2
                go_roundw
                case rel => exact ⟨m + 1, by omega, by go_num, by rw [HS.out], HB6.out⟩
                case measure => simp [intOf]; omega
              · obtain rfl : m = 4 := by omega
                have e4 : ((4 : Nat) : Int) = 4 := rfl
                try rw [e4]
                clear e4
                simp only [wte_4]
                have HBW2 := Lib.hid (HB4.out.trans ((HB.out.trans (HB3.out.mono HB.out.size)).mono HB4.out.size))
                have z1 : (ofW ST).size = 16 := txt_size _ _
                have Q1 := fun W => Lib.hid (unshift16_impl (ofW ST) _ z1 rfl W)
                have Q2 := fun W => Lib.hid (unsub16_impl (shS 3 (ofW ST)) _ (shS_size _ _) rfl W)
                have HFIN2 : Hid (xorS (mapT ubox (shS 3 (ofW ST))) KEY0 = RES) := HFIN
                have Q4 := fun W => Lib.hid (xor16_impl (mapT ubox (shS 3 (ofW ST))) KEY0 _ (by rw [mapT_size]; exact shS_size _ _) HKEY.out HFIN2.out W)
                generalize mapT ubox (shS 3 (ofW ST)) = M at *
                generalize shS 3 (ofW ST) = S at *
                generalize ofW ST = X at *
                clear hbel HB3 HFIN HFIN2 z1 HCS
                go_wp2_with fail
                refine (Q1 _).out.mono ?_; rintro e w5 ⟨rfl, hb5⟩
                have HB5 := Lib.hid (HBW2.out.trans (hb5.mono HBW2.out.size))
                clear hb5
                go_wp2_with fail
                refine (Q2 _).out.mono ?_; rintro e w6 ⟨rfl, hb6⟩
                have HB6 := Lib.hid (HB5.out.trans (hb6.mono HB5.out.size))
                clear hb6
                go_wp2_with fail
                refine (CK _).out.mono ?_; rintro e w7 ⟨rfl, hb7⟩
                have HB7 := Lib.hid (HB6.out.trans (hb7.mono HB6.out.size))
                clear hb7
                go_wp2_with fail
                refine (Q4 _).out.mono ?_; rintro e w8 ⟨rfl, hb8⟩
                have HB8 := Lib.hid (HB7.out.trans (hb8.mono HB7.out.size))
                clear hb8
                go_wp2_with fail
                refine (CL _).out.mono ?_; rintro e w9 ⟨rfl, hb9⟩
                have HB9 := Lib.hid (HB8.out.trans (hb9.mono HB8.out.size))
                clear hb9
                go_wp2
                go_ret
                exact ⟨rfl, HB9.out⟩
  · clear hcode hf
    go_enter Tryd.func3, Tryd.ntmps3
    go_wp2_with fail
    refine (big_great _ _ _ _ (by omega) hlen).mono ?_; rintro e w' ⟨rfl, rfl⟩
    go_wp2
    go_ret
    exact ⟨rfl, Below.refl _ _⟩
end Go.Proofs.YtkklkcajllpjpaaDoor
