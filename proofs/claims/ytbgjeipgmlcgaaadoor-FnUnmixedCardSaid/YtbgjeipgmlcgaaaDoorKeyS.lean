/-
  What spec.KeyOk, Rounds, Expand and RoundKey answer.
-/
import Derived.Test.YtbgjeipgmlcgaaaDoorKeyK
import Derived.Test.YtbgjeipgmlcgaaaDoorWordS
import Derived.WalkKit
import Derived.LoopTactic
import Derived.OwnWalk
import Derived.WalkLawsBesides
import Derived.WalkSpells
import Derived.Outline
import Derived.Below
import Derived.Laws.OwnMore
import Derived.Laws.AppendOwn
import Derived.Laws.MakeOwn
import Derived.Laws.IdiomStrings
import Derived.Deep.AppendLies
import Derived.Deep.RegionHeld3
import Derived.Deep.QuietTactic
import Derived.BigQuiet
import Derived.IntWalk
set_option linter.unusedVariables false
namespace Go.Proofs.YtbgjeipgmlcgaaaDoor
open Go.RowKit
attribute [local go_sem ↓] Go.wp_at_zero Go.wp_at_succ

set_option maxRecDepth 100000 in
theorem KeyOk_spec (s : ByteArray) (w : World) :
    Calls Tryd.prog 37 #[.string s] w fun e w' => e = .returned (.bool (decide (kOk s))) ∧ w = w' := by
  by_cases h1 : s.size = 16
  · rw [decide_eq_true (show kOk s from .inl h1)]
    go_enter Tryd.func37, Tryd.ntmps37
    go_wp2
    go_ret
    exact ⟨rfl, rfl⟩
  · by_cases h2 : s.size = 24
    · rw [decide_eq_true (show kOk s from .inr (.inl h2))]
      clear h1
      go_enter Tryd.func37, Tryd.ntmps37
      go_wp2
      go_ret
      exact ⟨rfl, rfl⟩
    · by_cases h3 : s.size = 32
      · rw [decide_eq_true (show kOk s from .inr (.inr h3))]
        clear h1 h2
        go_enter Tryd.func37, Tryd.ntmps37
        go_wp2
        go_ret
        exact ⟨rfl, rfl⟩
      · rw [decide_eq_false (show ¬ kOk s from fun h => by rcases h with h | h | h <;> omega)]
        have k1 : ((s.size : Int) == 16) = false := beq_eq_false_iff_ne.2 (by omega)
        have k2 : ((s.size : Int) == 24) = false := beq_eq_false_iff_ne.2 (by omega)
        have k3 : ((s.size : Int) == 32) = false := beq_eq_false_iff_ne.2 (by omega)
        clear h1 h2 h3
        go_enter Tryd.func37, Tryd.ntmps37
        go_wp2
        go_ret
        exact ⟨rfl, rfl⟩
theorem ok_yes_spec (s : ByteArray) (h : kOk s) (w : World) :
    Calls Tryd.prog 37 #[.string s] w fun e w' => e = .returned (.bool true) ∧ w = w' := by
  have := KeyOk_spec s w; rwa [decide_eq_true h] at this
theorem ok_no_spec (s : ByteArray) (h : ¬ kOk s) (w : World) :
    Calls Tryd.prog 37 #[.string s] w fun e w' => e = .returned (.bool false) ∧ w = w' := by
  have := KeyOk_spec s w; rwa [decide_eq_false h] at this
set_option maxRecDepth 100000 in
theorem rounds_yes_spec (s : ByteArray) (n : Nat) (h : kOf s n) (w : World) :
    Calls Tryd.prog 38 #[.string s] w fun e w' => e = .returned (.int .i64 ((n : Int) + 6)) ∧ w = w' := by
  have H1 := Lib.hid (ok_yes_spec s h.ok)
  have hle := h.le
  have hs := h.1
  have hv : (s.size : Int) / 4 = (n : Int) := by omega
  have hz : (s.size : Int) ≤ 32 := by omega
  have h8 : (n : Int) ≤ 8 := by omega
  clear h hle hs
  go_enter Tryd.func38, Tryd.ntmps38
  go_wp2_with fail
  refine (H1.out _).mono ?_; rintro e w' ⟨rfl, rfl⟩
  go_wp2
  go_ret
  exact ⟨rfl, rfl⟩
set_option maxRecDepth 100000 in
theorem rounds_no_spec (s : ByteArray) (h : ¬ kOk s) (w : World) :
    Calls Tryd.prog 38 #[.string s] w fun e w' => e = .returned (.int .i64 0) ∧ w = w' := by
  have H1 := Lib.hid (ok_no_spec s h)
  clear h
  go_enter Tryd.func38, Tryd.ntmps38
  go_wp2_with fail
  refine (H1.out _).mono ?_; rintro e w' ⟨rfl, rfl⟩
  go_wp2
  go_ret
  exact ⟨rfl, rfl⟩
theorem Rounds_spec (s : ByteArray) (w : World) :
    Calls Tryd.prog 38 #[.string s] w fun e w' => e = .returned (.int .i64 (kRi s)) ∧ w = w' := by
  by_cases h : kOk s
  · obtain ⟨n, hn⟩ := h.of
    rw [kRi_of s n hn]; exact rounds_yes_spec s n hn w
  · rw [kRi_no s h]; exact rounds_no_spec s h w
theorem up_rel {F : Nat → Int} {w w2 w1 : World} {k : Nat} {e : TypeId} {u v : Value} {o : Obj} {x : Int} (hx : F k = x)
    (hown2 : w2.ownsRow w.heap.size e 1 u k (cells64 (upTo F k))) (hbel2 : Below w.heap.size w w2)
    (hown3 : w1.ownsRow w.heap.size e 1 v (k + 1) (cells64 (upTo F k) ++ [.int .i64 x]))
    (hgrow : (w2.alloc o).grownBy w1 u.ownBlock) :
    w1.ownsRow w.heap.size e 1 v (k + 1) (cells64 (upTo F (k + 1))) ∧ Below w.heap.size w w1 := by
  refine ⟨?_, ?_⟩
  · rw [upTo_succ, hx, cells64, List.map_append]
    exact hown3
  · have h1 : Below w.heap.size w (w2.alloc o) := hbel2.alloc hbel2.size _
    exact h1.grown hgrow h1.size (fun b hb => (hown2.lt b hb).1)
theorem cells64_at (F : Nat → Int) (k j : Nat) (h : j < k) : (cells64 (upTo F k))[j]? = some (.int .i64 (F j)) := by
  unfold cells64; rw [List.getElem?_map, upTo_at F k j h]; rfl
/-- a word as a number. -/
def ewI (s : ByteArray) (n i : Nat) : Int := ((ew s n i).toNat : Int)
set_option maxRecDepth 100000 in
set_option maxHeartbeats 1600000 in
theorem Expand_yes_spec (s : ByteArray) (n : Nat) (h : kOf s n) (w : World) :
    Calls Tryd.prog 14 #[.string s] w fun e w' => ∃ v, e = .returned v ∧ w'.ownsRow w.heap.size 3 1 v (kL n) (cells64 (upTo (ewI s n) (kL n))) ∧ Below w.heap.size w w' := by
  obtain ⟨i0, hi, hz0, hz1, hz2⟩ := info_parts info64
  have H1 := Lib.hid (ok_yes_spec s h.ok)
  have H2 := fun W => Lib.hid (rounds_yes_spec s n h W)
  have hle := h.le
  have hs := h.1
  have hv : (s.size : Int) / 4 = (n : Int) := by omega
  have hz : (s.size : Int) ≤ 32 := by omega
  have h8 : (n : Int) ≤ 8 := by omega
  have h4 : (4 : Int) ≤ (n : Int) := by omega
  obtain ⟨L, hL⟩ : ∃ L, kL n = L := ⟨_, rfl⟩
  have hLn : L = 4 * (n + 7) := by rw [← hL]; rfl
  have hL60 : (L : Int) ≤ 60 := by omega
  have hLi : 4 * ((n : Int) + 6 + 1) = (L : Int) := by omega
  have HS := Lib.hid hs
  have HLN := Lib.hid hLn
  rw [hL]
  clear hs hLn hL
  go_enter Tryd.func14, Tryd.ntmps14
  go_wp2_with fail
  refine (H1.out _).mono ?_; rintro e w' ⟨rfl, rfl⟩
  go_wp2
  go_loopw [3, 5] (fun v i wr => ∃ k : Nat, k ≤ n ∧ i = .int .i64 k ∧ wr.ownsRow w.heap.size 3 1 v k (cells64 (upTo (ewI s n) k)) ∧ Below w.heap.size w wr) (fun _ i _ => n - (intOf i).toNat)
  case atStart => exact ⟨0, Nat.zero_le _, rfl, World.ownsRow_lit w #[] 0 (Nat.le_refl _) (by simp [maxLen]) rfl, (Below.refl _ _).alloc (Nat.le_refl _) _⟩
  case round =>
    obtain ⟨k, hk, rfl, hown, hbel⟩ := hrel
    by_cases hlt : k < n
    · have hk1 : (k : Int) < (n : Int) := by omega
      have HG := fun W => Lib.hid (GetWord_at_spec s (4 * k) (by have := HS.out; omega) (by omega) W)
      have HX : Hid (ewI s n k = ((getW s (4 * k)).toNat : Int)) := Lib.hid (by unfold ewI; rw [ew_lo s n k hlt])
      rw [show ((4 * k : Nat) : Int) = 4 * (k : Int) by omega] at HG
      have hgl := w32_lt (getW s (4 * k))
      generalize getW s (4 * k) = y at *
      go_wp2_with fail
      refine (HG _).out.mono ?_; rintro e w4 ⟨rfl, hb4⟩
      have hown4 := own_below hown hb4
      have hbel4 := hbel.trans (hb4.mono hbel.size)
      clear hown hbel hb4 HG
      go_wp2_with (at_builtin; refine stp ?_)
      refine unstp ?_
      refine wpList_append_lies _ rfl (.tmp 21) (.tmp 26) 25 rfl w.heap.size 3 i0 (.int .i64 0) 1 8 Tryd.underlying25 hi hz0 hz1 hz2 rfl (by decide) u3 k (cells64 (upTo (ewI s n) k)) rfl (hown4.alloc _) ⟨w4.heap.size, 0, none⟩ 1 1 [.int .i64 (y.toNat : Int)] rfl rfl (World.news_of_block (cs := #[.int .i64 (y.toNat : Int)]) (heap_alloc_new w4 _)) (by simp [Value.oneCell']) (by omega) (by unfold maxLen; omega) (by omega) (by have := hbel4.size; simp; omega) (w4.heap.size + 1) (by simp) ?_
      intro g2 cap2 w5 hown5 hgrow hat hlt5
      have hrel := up_rel HX.out hown4 hbel4 hown5 hgrow
      clear hown4 hbel4 hown5 hgrow hat hlt5
      go_wp2
      go_roundw
      case rel => exact ⟨k + 1, by omega, by go_num, hrel.1, hrel.2⟩
      case measure => simp [intOf]; omega
    · obtain rfl : n = k := by omega
      have HO := Lib.hid hown
      have HB := Lib.hid hbel
      clear hown hbel
      go_wp2
      go_loopw [3, 6] (fun v i wr => ∃ k : Nat, n ≤ k ∧ k ≤ L ∧ i = .int .i64 k ∧ wr.ownsRow w.heap.size 3 1 v k (cells64 (upTo (ewI s n) k)) ∧ Below w.heap.size w wr) (fun _ i _ => L - (intOf i).toNat)
      case atStart => exact ⟨n, by omega, by have := HLN.out; omega, rfl, HO.out, HB.out⟩
      case round =>
        obtain ⟨k, hnk, hk, rfl, hown, hbel⟩ := hrel
        by_cases hlt : k < L
        · have hk2 : (k : Int) < (L : Int) := by omega
          have hk0 : (0 : Int) ≤ (k : Int) := by omega
          obtain ⟨a, ha⟩ : ∃ a, k = a + n := ⟨k - n, by omega⟩
          obtain ⟨b, hb⟩ : ∃ b, k = b + 1 := ⟨k - 1, by have := h.le; omega⟩
          have hnx : ewI s n k = ((ew s n a ^^^ growW n k (ew s n b)).toNat : Int) := by
            unfold ewI
            rw [ew_hi s n k hnk (by have := h.le; omega), show k - n = a by omega, show k - 1 = b by omega]
          obtain ⟨g, cap, rfl, hgB, hg⟩ := hown.form (by have := h.le; omega)
          have hca : wr.cell? ⟨g, a, none⟩ = some (.int .i64 ((ew s n a).toNat : Int)) := (hown.cellAt a (by have := h.le; omega)).trans (cells64_at _ _ _ (by have := h.le; omega))
          have hcb : wr.cell? ⟨g, b, none⟩ = some (.int .i64 ((ew s n b).toNat : Int)) := (hown.cellAt b (by omega)).trans (cells64_at _ _ _ (by omega))
          have HOW := Lib.hid hown
          have HBW := Lib.hid hbel
          generalize ew s n a = x at *
          generalize ew s n b = y at *
          have hx := w32_lt x
          have hy := w32_lt y
          have hx2 : (x.toNat : Int) < 4294967296 := by omega
          have hy2 : (y.toNat : Int) < 4294967296 := by omega
          have q1 : (k : Int) - (n : Int) = (a : Int) := by omega
          have q2 : (k : Int) - 1 = (b : Int) := by omega
          have ha0 : (0 : Int) ≤ (a : Int) := by omega
          have haL : (a : Int) < (k : Int) := by have := h.le; omega
          have hb0 : (0 : Int) ≤ (b : Int) := by omega
          have hbL : (b : Int) < (k : Int) := by omega
          have HNK := Lib.hid hnk
          have hkn : ¬ k = 0 := by have := h.le; omega
          by_cases hm : k % n = 0
          · have HG : Hid (growW n k y = subW (rot y 8) ^^^ rcon (k / n)) := Lib.hid (growW_0 n k y hm)
            have HT := fun W => Lib.hid (Turn_spec (y.toNat : Int) 8 W)
            have e1 : turnI (y.toNat : Int) 8 = ((rot y 8).toNat : Int) := by
              have := turnI_at (y.toNat : Int) 8 (by omega)
              rw [w32_of] at this; exact this
            have HW := fun W => Lib.hid (SubWord_spec ((rot y 8).toNat : Int) W)
            have hq : 1 ≤ k / n := Nat.div_pos hnk (by have := h.le; omega)
            have hq2 : k / n ≤ 1000 := Nat.le_trans (Nat.div_le_self _ _) (by omega)
            have HR := fun W => Lib.hid (Rcon_spec ((k / n : Nat) : Int) (by omega) (by omega) W)
            have hX1 := i64_xor32 (subW (rot y 8)) (rcon (k / n))
            simp only [e1] at HT
            simp only [w32_of] at HW
            simp only [rconI_pos _ hq] at HR
            have ed : (k : Int).tdiv (n : Int) = ((k / n : Nat) : Int) := by rw [Int.tdiv_eq_ediv_of_nonneg (by omega)]; rfl
            have em : (k : Int).tmod (n : Int) = 0 := by rw [Int.tmod_eq_emod_of_nonneg (by omega)]; omega
            have hqi : ((k / n : Nat) : Int) ≤ 1000 := by omega
            have HGv := HG.out
            have hn0 : ¬ (n : Int) = 0 := by omega
            generalize k / n = q at *
            have qd : (k : Int) / (n : Int) = (q : Int) := by rw [← ed, Int.tdiv_eq_ediv_of_nonneg (by omega)]
            have qw : IntKind.i64.wrap (q : Int) = (q : Int) := IntWalk.i64_in _ (by omega)
            have hnn : ¬ n = 0 := by omega
            generalize rot y 8 = y2 at *
            generalize subW y2 = z at *
            generalize rcon q = r at *
            rw [HGv] at hnx
            generalize z ^^^ r = v at *
            have hX2 := i64_xor32 x v
            generalize x ^^^ v = t at *
            have HX := Lib.hid hnx
            have hy3 := w32_lt y2
            have hz3 := w32_lt z
            have hr3 := w32_lt r
            have hv3 := w32_lt v
            have ht3 := w32_lt t
            clear hnx HGv HG hq hq2 e1 hm hown hbel ha hb hnk hgB hkn ed
            go_wp2_with fail
            refine (H2 _).out.mono ?_; rintro e w' ⟨rfl, rfl⟩
            go_wp2
            go_region_held3 (fun _ => True) (trivial) (first
              | (go_at_call 40; refine (HT _).out.mono ?_; rintro e w' ⟨rfl, rfl⟩)
              | (go_at_call 39; refine (HW _).out.mono ?_; rintro e w4 ⟨rfl, hb4⟩)
              | (go_at_call 41; refine (HR _).out.mono ?_; rintro e w' ⟨rfl, rfl⟩))
            have hca4 := (hb4.cell (p := ⟨g, a, none⟩) (by simpa using hg)).trans hca
            have HO4 := Lib.hid (own_below (w := wr.drew) HOW.out hb4)
            have HB4 := Lib.hid ((HBW.out.drew).trans (hb4.mono HBW.out.size))
            clear hb4 hca hcb HOW HBW HT HW HR
            go_wp2_with (at_builtin; refine stp ?_)
            refine unstp ?_
            refine wpList_append_lies _ rfl (.tmp 63) (.tmp 72) 25 rfl w.heap.size 3 i0 (.int .i64 0) 1 8 Tryd.underlying25 hi hz0 hz1 hz2 rfl (by decide) (.slice (some ⟨g, 0, none⟩) k cap) k (cells64 (upTo (ewI s n) k)) rfl (HO4.out.alloc _) ⟨w4.heap.size, 0, none⟩ 1 1 [.int .i64 (t.toNat : Int)] rfl rfl (World.news_of_block (cs := #[.int .i64 (t.toNat : Int)]) (heap_alloc_new w4 _)) (by simp [Value.oneCell']) (by omega) (by unfold maxLen; omega) (by omega) (by have := HB4.out.size; simp; omega) (w4.heap.size + 1) (by simp) ?_
            intro g2 cap2 w5 hown5 hgrow hat hlt5
            have hrel := up_rel HX.out HO4.out HB4.out hown5 hgrow
            have hnk2 := HNK.out
            clear hown5 hgrow hat hlt5
            go_wp2
            go_roundw
            case rel => exact ⟨k + 1, by omega, by omega, by go_num, hrel.1, hrel.2⟩
            case measure => simp [intOf]; omega
          · by_cases hm4 : n = 8 ∧ k % 8 = 4
            · have HW := fun W => Lib.hid (SubWord_spec (y.toNat : Int) W)
              simp only [w32_of] at HW
              have hGv : growW n k y = subW y := by rw [hm4.1]; exact growW_4 k y hm4.2
              rw [hGv] at hnx
              have e8 : ((n : Int) == 8) = true := beq_iff_eq.2 (by omega)
              have em8 : (k : Int).tmod 8 = 4 := by rw [Int.tmod_eq_emod_of_nonneg (by omega)]; omega
              obtain ⟨m, hm2⟩ : ∃ m, k % n = m := ⟨_, rfl⟩
              have em : (k : Int).tmod (n : Int) = (m : Int) := by rw [Int.tmod_eq_emod_of_nonneg (by omega), ← hm2]; rfl
              have hm3 : ((m : Int) == 0) = false := beq_eq_false_iff_ne.2 (by omega)
              have hml : (m : Int) ≤ 8 := by have := Nat.mod_lt k (show 0 < n by omega); omega
              generalize subW y = v at *
              have hX2 := i64_xor32 x v
              generalize x ^^^ v = t at *
              have HX := Lib.hid hnx
              have hv3 := w32_lt v
              have ht3 := w32_lt t
              clear hnx hGv hm hm4 hm2 hown hbel ha hb hnk hgB hkn
              go_wp2_with fail
              refine (H2 _).out.mono ?_; rintro e w' ⟨rfl, rfl⟩
              go_wp2_with fail
              refine (HW _).out.mono ?_; rintro e w4 ⟨rfl, hb4⟩
              have hca4 := (hb4.cell (p := ⟨g, a, none⟩) (by simpa using hg)).trans hca
              have HO4 := Lib.hid (own_below HOW.out hb4)
              have HB4 := Lib.hid (HBW.out.trans (hb4.mono HBW.out.size))
              clear hb4 hca hcb HOW HBW HW
              go_wp2_with (at_builtin; refine stp ?_)
              refine unstp ?_
              refine wpList_append_lies _ rfl (.tmp 63) (.tmp 72) 25 rfl w.heap.size 3 i0 (.int .i64 0) 1 8 Tryd.underlying25 hi hz0 hz1 hz2 rfl (by decide) (.slice (some ⟨g, 0, none⟩) k cap) k (cells64 (upTo (ewI s n) k)) rfl (HO4.out.alloc _) ⟨w4.heap.size, 0, none⟩ 1 1 [.int .i64 (t.toNat : Int)] rfl rfl (World.news_of_block (cs := #[.int .i64 (t.toNat : Int)]) (heap_alloc_new w4 _)) (by simp [Value.oneCell']) (by omega) (by unfold maxLen; omega) (by omega) (by have := HB4.out.size; simp; omega) (w4.heap.size + 1) (by simp) ?_
              intro g2 cap2 w5 hown5 hgrow hat hlt5
              have hrel := up_rel HX.out HO4.out HB4.out hown5 hgrow
              have hnk2 := HNK.out
              clear hown5 hgrow hat hlt5
              go_wp2
              go_roundw
              case rel => exact ⟨k + 1, by omega, by omega, by go_num, hrel.1, hrel.2⟩
              case measure => simp [intOf]; omega
            · have hGv : growW n k y = y := growW_x n k y hm hm4
              rw [hGv] at hnx
              obtain ⟨m, hm2⟩ : ∃ m, k % n = m := ⟨_, rfl⟩
              obtain ⟨m8, hm8⟩ : ∃ m, k % 8 = m := ⟨_, rfl⟩
              have em : (k : Int).tmod (n : Int) = (m : Int) := by rw [Int.tmod_eq_emod_of_nonneg (by omega), ← hm2]; rfl
              have em8 : (k : Int).tmod 8 = (m8 : Int) := by rw [Int.tmod_eq_emod_of_nonneg (by omega)]; omega
              have hm3 : ((m : Int) == 0) = false := beq_eq_false_iff_ne.2 (by omega)
              have hml : (m : Int) ≤ 8 := by have := Nat.mod_lt k (show 0 < n by omega); omega
              have hml8 : (m8 : Int) ≤ 8 := by omega
              have hX2 := i64_xor32 x y
              generalize x ^^^ y = t at *
              have HX := Lib.hid hnx
              have ht3 := w32_lt t
              by_cases h8n : n = 8
              · have e8 : ((n : Int) == 8) = true := beq_iff_eq.2 (by omega)
                have e84 : ((m8 : Int) == 4) = false := beq_eq_false_iff_ne.2 (by omega)
                clear hnx hGv hm hm4 hm2 hm8 hown hbel ha hb hnk hgB hkn h8n
                go_wp2_with fail
                refine (H2 _).out.mono ?_; rintro e w' ⟨rfl, rfl⟩
                go_wp2_with (at_builtin; refine stp ?_)
                refine unstp ?_
                refine wpList_append_lies _ rfl (.tmp 63) (.tmp 72) 25 rfl w.heap.size 3 i0 (.int .i64 0) 1 8 Tryd.underlying25 hi hz0 hz1 hz2 rfl (by decide) (.slice (some ⟨g, 0, none⟩) k cap) k (cells64 (upTo (ewI s n) k)) rfl (HOW.out.alloc _) ⟨wr.heap.size, 0, none⟩ 1 1 [.int .i64 (t.toNat : Int)] rfl rfl (World.news_of_block (cs := #[.int .i64 (t.toNat : Int)]) (heap_alloc_new wr _)) (by simp [Value.oneCell']) (by omega) (by unfold maxLen; omega) (by omega) (by have := HBW.out.size; simp; omega) (wr.heap.size + 1) (by simp) ?_
                intro g2 cap2 w5 hown5 hgrow hat hlt5
                have hrel := up_rel HX.out HOW.out HBW.out hown5 hgrow
                have hnk2 := HNK.out
                clear hown5 hgrow hat hlt5
                go_wp2
                go_roundw
                case rel => exact ⟨k + 1, by omega, by omega, by go_num, hrel.1, hrel.2⟩
                case measure => simp [intOf]; omega
              · have e8 : ((n : Int) == 8) = false := beq_eq_false_iff_ne.2 (by omega)
                clear hnx hGv hm hm4 hm2 hm8 hown hbel ha hb hnk hgB hkn h8n em8 hml8
                go_wp2_with fail
                refine (H2 _).out.mono ?_; rintro e w' ⟨rfl, rfl⟩
                go_wp2_with (at_builtin; refine stp ?_)
                refine unstp ?_
                refine wpList_append_lies _ rfl (.tmp 63) (.tmp 72) 25 rfl w.heap.size 3 i0 (.int .i64 0) 1 8 Tryd.underlying25 hi hz0 hz1 hz2 rfl (by decide) (.slice (some ⟨g, 0, none⟩) k cap) k (cells64 (upTo (ewI s n) k)) rfl (HOW.out.alloc _) ⟨wr.heap.size, 0, none⟩ 1 1 [.int .i64 (t.toNat : Int)] rfl rfl (World.news_of_block (cs := #[.int .i64 (t.toNat : Int)]) (heap_alloc_new wr _)) (by simp [Value.oneCell']) (by omega) (by unfold maxLen; omega) (by omega) (by have := HBW.out.size; simp; omega) (wr.heap.size + 1) (by simp) ?_
                intro g2 cap2 w5 hown5 hgrow hat hlt5
                have hrel := up_rel HX.out HOW.out HBW.out hown5 hgrow
                have hnk2 := HNK.out
                clear hown5 hgrow hat hlt5
                go_wp2
                go_roundw
                case rel => exact ⟨k + 1, by omega, by omega, by go_num, hrel.1, hrel.2⟩
                case measure => simp [intOf]; omega
        · obtain rfl : L = k := by omega
          obtain ⟨A', c', rfl, hnc, hcm⟩ := own_slice64 hown
          go_wp2_with fail
          refine (H2 _).out.mono ?_; rintro e w' ⟨rfl, rfl⟩
          go_wp2
          go_ret
          exact ⟨_, rfl, hown, hbel⟩
theorem Expand_spec (s : ByteArray) (w : World) :
    Calls Tryd.prog 14 #[.string s] w fun e w' => OwnInts w (exInts s) e w' := by
  by_cases h : kOk s
  · obtain ⟨n, hn⟩ := h.of
    refine (Expand_yes_spec s n hn w).mono fun e w' ⟨v, h1, h2, h3⟩ => ?_
    rw [exInts_of s n hn]
    have e : nums (upTo (ew s n) (kL n)) = upTo (ewI s n) (kL n) := by unfold nums ewI; rw [upTo_map]
    rw [e]
    exact ⟨v, h1, by rw [upTo_length]; exact h2, h3⟩
  · rw [exInts_no s h]
    have H1 := Lib.hid (ok_no_spec s h)
    clear h
    go_enter Tryd.func14, Tryd.ntmps14
    go_wp2_with fail
    refine (H1.out _).mono ?_; rintro e w' ⟨rfl, rfl⟩
    go_wp2
    go_ret
    exact ⟨_, rfl, World.ownsRow_lit w #[] 0 (Nat.le_refl _) (by simp [maxLen]) rfl, (Below.refl _ _).alloc (Nat.le_refl _) _⟩
end Go.Proofs.YtbgjeipgmlcgaaaDoor
