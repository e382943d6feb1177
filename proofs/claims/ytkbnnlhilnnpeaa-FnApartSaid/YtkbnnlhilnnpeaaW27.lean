/-
  The walk of laws.FnApart: it returns true at every code.
-/
import Derived.Test.YtkbnnlhilnnpeaaW24
import Derived.Test.YtkbnnlhilnnpeaaW26
import Derived.Test.YtkbnnlhilnnpeaaW25
import Derived.Test.YtkbnnlhilnnpeaaDraws
import Derived.Test.YtkbnnlhilnnpeaaApartKey
import Derived.WalkKit
import Derived.LoopTactic
import Derived.OwnWalk
import Derived.WalkLawsBesides
import Derived.WalkSpells
import Derived.Outline
import Derived.Below
import Derived.Deep.RegionHeld3
import Derived.Deep.QuietTactic
import Derived.BigQuiet
import Derived.IntWalk
set_option linter.unusedVariables false
set_option linter.unusedSimpArgs false
namespace Go.Proofs.Ytkbnnlhilnnpeaa
open Go.RowKit

/-- bytes of the call's own, made of a text: their cells can be read and written. -/
structure BRow (w : World) (g : Nat) (l : List UInt8) : Prop where
  lt : g < w.heap.size
  cells : ∀ j (h : j < l.length), w.cell? ⟨g, j, none⟩ = some (cell8 l[j])
  free : ∀ j, j < l.length → w.frozen? ⟨g, j, none⟩ = false
theorem BRow.below {w w' : World} {g : Nat} {l : List UInt8} (h : BRow w g l) (hb : Below w.heap.size w w') : BRow w' g l :=
  ⟨Nat.lt_of_lt_of_le h.lt hb.size, fun j hj => (hb.cell (p := ⟨g, j, none⟩) h.lt).trans (h.cells j hj), fun j hj => (hb.frozen (p := ⟨g, j, none⟩) h.lt).trans (h.free j hj)⟩
theorem BRow.drewN {w : World} {g : Nat} {l : List UInt8} (h : BRow w g l) (k : Nat) : BRow (w.drewN k) g l := ⟨h.lt, h.cells, h.free⟩
theorem BRow.set {w : World} {g : Nat} {l : List UInt8} (h : BRow w g l) (q : Nat) (hq : q < l.length) (x : UInt8) : BRow (w.setCell ⟨g, q, none⟩ (cell8 x)) g (l.set q x) := by
  refine ⟨by simpa [World.setCell] using h.lt, fun j hj => ?_, fun j hj => ?_⟩
  · have hj2 : j < l.length := by simpa using hj
    by_cases e : q = j
    · subst e
      rw [World.cell?_setCell_same _ _ _ (h.cells q hj2)]
      simp
    · rw [World.cell?_setCell_other (h := by intro h2; injection h2; omega), h.cells j hj2]
      simp [List.getElem_set, e]
  · rw [World.frozen?_setCell]; exact h.free j (by simpa using hj)
theorem BRow.conv {w : World} {g S c : Nat} {l : List UInt8} (h : BRow w g l) (hS : l.length = S) : (convert 22 9 (.slice (some ⟨g, 0, none⟩) S c)).run Try.prog w = .ok (.string ⟨l.toArray⟩) w := by
  subst hS
  refine run_convert_bytes_back (P := Try.prog) w 22 9 5 ⟨g, 0, none⟩ c l Try.underlying22 Try.underlying5 Try.underlying9 (fun j hj => ?_)
  rw [show (⟨g, 0, none⟩ : Addr).add j = ⟨g, j, none⟩ by unfold Addr.add; split <;> simp_all]
  exact h.cells j hj
theorem bytes_brow (s : ByteArray) (w : World) :
    ∃ cap w2, (convert 9 22 (.string s)).run Try.prog w = .ok (.slice (some ⟨w.heap.size, 0, none⟩) s.size cap) w2 ∧ BRow w2 w.heap.size s.data.toList ∧ Below w.heap.size w w2 := by
  refine ⟨_, _, run_bytes_of_string (P := Try.prog) w 9 22 5 s Try.underlying9 Try.underlying22 Try.underlying5, ⟨by simp, fun j hj => ?_, fun j hj => ?_⟩, ((Below.refl _ _).drew).alloc (Nat.le_refl _) _⟩
  · have hj2 : j < s.data.size := by simpa using hj
    refine (World.cell?_alloc_mark w.drew _ _ _ j).trans ?_
    rw [bytesRow_at _ _ _ hj2]; rfl
  · have hj2 : j < s.data.size := by simpa using hj
    refine (World.frozen?_alloc_mark w.drew _ _ _ _ j).trans ?_
    have hb : s.data.size ≤ (bytesRow s (grownCap w s.size 0 5)).size := by unfold bytesRow; rw [Array.size_append, Array.size_map]; omega
    have hb2 : ¬ (bytesRow s (grownCap w s.size 0 5)).size ≤ j := by omega
    simp [hb2]
/-- a byte of the code, or a number told by its place and the code's length: the same in every world to come. -/
theorem at_fix (i : Nat) (hi : i ≤ 1000) (w : World) (A : Option Addr) (len cap : Nat) (h : CodeAt w w.heap.size A len) (hl : len ≤ 1048576) :
    ∃ x : Nat, x < 256 ∧ ∀ W, Below w.heap.size w W → Calls Try.prog 15 #[.slice A len cap, .int .i64 i] W fun e w' => e = .returned (.int .i64 x) ∧ w' = W := by
  by_cases hlt : i < len
  · obtain ⟨b, o, x, rfl, hb, hx, hcell⟩ := h i hlt
    refine ⟨x, hx, fun W hW => ?_⟩
    have hcell2 := (hW.cell (p := ⟨b, o + i, none⟩) hb).trans hcell
    have h0 : (0 : Int) ≤ (i : Int) := by omega
    have h1 : (i : Int) < (len : Int) := by omega
    clear hW hcell h
    go_enter Try.func15, Try.ntmps15
    go_wp2
    go_ret
    exact ⟨rfl, rfl⟩
  · refine ⟨(i * 7 + len) % 256, by omega, fun W hW => ?_⟩
    have h1 : ¬ (i : Int) < (len : Int) := by omega
    clear hW h
    go_enter Try.func15, Try.ntmps15
    go_wp2
    go_ret
    exact ⟨(congrArg (fun v => Ending.returned (.int .i64 v)) (show (((i * 7 + len) % 256 : Nat) : Int) = ((i : Int) * 7 + (len : Int)) % 256 by omega)).symm, rfl⟩
set_option maxRecDepth 100000 in
set_option maxHeartbeats 1600000 in
theorem walk_FnApart (a0 : Option Addr) (len0 cap0 : Nat) (z0 : List Int) (w : World) (w0 : IsRow .u8 w a0 len0 cap0 z0) :
    Calls Try.prog 4 #[.slice a0 len0 cap0] w fun e w' => e = .returned (.bool true) ∧ Below w.heap.size w w' := by
  obtain ⟨hcode, hlen⟩ := w0.code
  clear w0
  by_cases hl : len0 ≤ 1048576
  · have H := Lib.hid hcode
    clear hcode
    go_enter Try.func4, Try.ntmps4
    go_wp2_with fail
    refine (big_small _ _ _ _ hl).mono ?_; rintro e w' ⟨rfl, rfl⟩
    go_wp2_with fail
    refine (aKey_any _ _ _ _ H.out hl).mono ?_; rintro e w1 ⟨s, rfl, hk, hb1⟩
    have HB1 := Lib.hid hb1
    obtain ⟨n, hn⟩ := hk.of
    have hsz := hn.1
    have hle := hn.le
    obtain ⟨cap, w2, hconv, hbr, hb2⟩ := bytes_brow s w1
    have hsl : s.data.toList.length = s.size := by simp
    obtain ⟨S, hS⟩ : ∃ S, s.size = S := ⟨_, rfl⟩
    have HB2 := Lib.hid (HB1.out.trans (hb2.mono HB1.out.size))
    have HC := Lib.hid ((H.out.below HB2.out (Nat.le_refl _)).up HB2.out.size)
    have hS32 : (S : Int) ≤ 32 := by omega
    have hS16 : (16 : Int) ≤ (S : Int) := by omega
    have hS0 : ¬ (S : Int) = 0 := by omega
    have HSn : Hid (S = 4 * n) := Lib.hid (by omega)
    rw [hS] at hconv hsl
    obtain ⟨p, hp, C1⟩ := at_fix 0 (by omega) w2 a0 len0 cap0 HC.out hl
    obtain ⟨m, hm, C2⟩ := at_fix 5 (by omega) w2 a0 len0 cap0 HC.out hl
    have D1 := Lib.hid (C1 w2 (Below.refl _ _))
    have D2 := Lib.hid (C2 w2.drew (Below.refl _ _).drew)
    obtain ⟨q, hq⟩ : ∃ q, p % S = q := ⟨_, rfl⟩
    have eq : (p : Int).tmod (S : Int) = (q : Int) := by rw [Int.tmod_eq_emod_of_nonneg (by omega), ← hq]; rfl
    have hqS : q < S := by rw [← hq]; exact Nat.mod_lt _ (by omega)
    have hq0 : (0 : Int) ≤ (q : Int) := by omega
    have hq1 : (q : Int) < (S : Int) := by omega
    have hcell : w2.cell? ⟨w1.heap.size, q, none⟩ = some (.int .u8 ((byteOf s q).toNat : Int)) := by
      have h2 : q < s.data.toList.length := by rw [hsl]; exact hqS
      refine (hbr.cells q h2).trans ?_
      rw [show s.data.toList[q] = byteOf s q by unfold byteOf; rw [List.getD_eq_getElem?_getD, List.getElem?_eq_getElem h2]; rfl]
      rfl
    have hfr := hbr.free q (by rw [hsl]; exact hqS)
    obtain ⟨c, hc⟩ : ∃ c, UInt8.ofNat (1 + m % 255) = c := ⟨_, rfl⟩
    have hcv : c.toNat = 1 + m % 255 := by rw [← hc, UInt8.toNat_ofNat']; omega
    have hcn : c ≠ 0 := fun e => by rw [e] at hcv; simp at hcv; omega
    have em : (1 + (m : Int).tmod 255) = (c.toNat : Int) := by rw [Int.tmod_eq_emod_of_nonneg (by omega)]; omega
    have hX := u8_x (byteOf s q) c
    have hcl := c.toNat_lt
    have hcl2 : (c.toNat : Int) < 256 := by omega
    obtain ⟨W3, hW3⟩ : ∃ W3, (w2.setCell ⟨w1.heap.size, q, none⟩ (.int .u8 (bits .xor .u8 ((byteOf s q).toNat : Int) (c.toNat : Int)))).drew = W3 := ⟨_, rfl⟩
    have HBS : Hid (BRow W3 w1.heap.size (s.data.toList.set q (byteOf s q ^^^ c))) := Lib.hid (by
      have h := hbr.set q (by rw [hsl]; exact hqS) (byteOf s q ^^^ c)
      rw [cell8, ← hX] at h
      exact hW3 ▸ ⟨h.lt, h.cells, h.free⟩)
    have HB3 : Hid (Below w.heap.size w W3) := Lib.hid (hW3 ▸ (HB2.out.setCell (p := ⟨w1.heap.size, q, none⟩) HB1.out.size _).drew)
    have HLL : Hid ((s.data.toList.set q (byteOf s q ^^^ c)).length = S) := Lib.hid (by rw [List.length_set]; exact hsl)
    have hT : (⟨(s.data.toList.set q (byteOf s q ^^^ c)).toArray⟩ : ByteArray) = chg s q c := rfl
    have hqs : q < s.size := by omega
    have HM := Lib.hid (chg_many hn q c hqs hcn)
    have htn := chg_of hn q c
    have HLAST : Hid (n = 4 → blkW (fun j => ew s 4 (4 * 10 + j)) ≠ blkW (fun j => ew (chg s q c) 4 (4 * 10 + j))) := Lib.hid (fun e => by subst e; exact chg_last hn q c hqs hcn)
    have HSL := Lib.hid hsl
    clear hb1 hb2 hbr hsz hle hsl hq hp C1 C2 hc hcv hcl hqs
    go_wp2_with fail
    refine D1.out.mono ?_; intro e w' h1; obtain ⟨rfl, h1⟩ := h1; subst w'
    go_wp2
    refine wp_region_still_tail 13 (by kernel_rfl) (by kernel_rfl) ?_
    simp only [List.take_succ_cons, List.take_zero, List.drop_succ_cons, List.drop_zero]
    still_step
    still_step
    still_step
    still_step
    still_step
    still_step
    still_step
    still_call D2.out
    still_step
    still_step
    still_step
    still_step
    still_step
    refine wpStill_nil ?_
    change wpList _ _ _ _ _ w2.drew
    go_wp2
    rw [hW3]
    have HCV : Hid (∀ W, BRow W w1.heap.size (s.data.toList.set q (byteOf s q ^^^ c)) → (convert 22 9 (.slice (some ⟨w1.heap.size, 0, none⟩) S cap)).run Try.prog W = .ok (.string (chg s q c)) W) := Lib.hid (fun W h => h.conv HLL.out)
    generalize s.data.toList.set q (byteOf s q ^^^ c) = l2 at *
    generalize chg s q c = t at *
    obtain ⟨L, hL⟩ : ∃ L, kL n = L := ⟨_, rfl⟩
    have hLn : L = 4 * (n + 7) := by rw [← hL]; rfl
    have E1 := fun W => Lib.hid (Expand_impl s W)
    have E2 := fun W => Lib.hid (Expand_impl t W)
    have E3 := fun W => Lib.hid (Expand_spec s W)
    have E4 := fun W => Lib.hid (Expand_spec t W)
    rw [exInts_of s n hn, hL] at E1 E3
    rw [exInts_of t n htn, hL] at E2 E4
    have HWS : Hid (∀ w' A j, IRow w' A L (nums (upTo (ew s n) L)) → j < L → ∃ b o, A = some ⟨b, o, none⟩ ∧ b < w'.heap.size ∧ w'.cell? ⟨b, o + j, none⟩ = some (.int .i64 ((ew s n j).toNat : Int))) := Lib.hid (fun w' A j => irow_word)
    have HWT : Hid (∀ w' A j, IRow w' A L (nums (upTo (ew t n) L)) → j < L → ∃ b o, A = some ⟨b, o, none⟩ ∧ b < w'.heap.size ∧ w'.cell? ⟨b, o + j, none⟩ = some (.int .i64 ((ew t n j).toNat : Int))) := Lib.hid (fun w' A j => irow_word)
    have hl1 : (nums (upTo (ew s n) L)).length = L := by rw [nums_length, upTo_length]
    have hl2 : (nums (upTo (ew t n) L)).length = L := by rw [nums_length, upTo_length]
    generalize nums (upTo (ew s n) L) = ls at *
    generalize nums (upTo (ew t n) L) = lt at *
    have O1 : Hid (∀ {e : Ending} {W W' : World}, OwnInts W ls e W' → ∃ A c, e = .returned (.slice A L c) ∧ IRow W' A L ls ∧ L ≤ c ∧ c ≤ 9223372036854775807 ∧ Below W.heap.size W W') := Lib.hid (fun h => by
      obtain ⟨A, c, h1, h2, h3, h4, h5, h6⟩ := OwnInts.open h
      rw [hl1] at h1 h3 h4
      exact ⟨A, c, h1, h3, h4, h5, h6⟩)
    have O2 : Hid (∀ {e : Ending} {W W' : World}, OwnInts W lt e W' → ∃ A c, e = .returned (.slice A L c) ∧ IRow W' A L lt ∧ L ≤ c ∧ c ≤ 9223372036854775807 ∧ Below W.heap.size W W') := Lib.hid (fun h => by
      obtain ⟨A, c, h1, h2, h3, h4, h5, h6⟩ := OwnInts.open h
      rw [hl2] at h1 h3 h4
      exact ⟨A, c, h1, h3, h4, h5, h6⟩)
    rw [hL] at HM
    have hL60 : (L : Int) ≤ 60 := by have := hn.le; omega
    have CB := HCV.out W3 HBS.out
    have HLN := Lib.hid hLn
    clear hLn hL hl1 hl2 hW3 hT hX hcell hfr D1 D2 HLL
    refine wp_region_held_drew (S := fun W => (convert 22 9 (.slice (some ⟨w1.heap.size, 0, none⟩) S cap)).run Try.prog W = .ok (.string t) W) (by kernel_rfl) (HCV.out W3.drew ⟨HBS.out.lt, HBS.out.cells, HBS.out.free⟩) (fun hHeld => ?_)
    refine wpAnyH_take (i := 0) (v := ?_) rfl (by kernel_rfl) (by kernel_rfl) (by kernel_rfl) (fun _ _ _ h => h) (Or.inl ⟨by kernel_rfl, ?_⟩) (by assumption) ?_
    rotate_left
    · intro w hSw
      go_simp
      first | done | with_reducible rfl
    try simp only [List.getElem_toArray, List.getElem_cons_succ, List.getElem_cons_zero, Act.put, List.setIfInBounds_toArray, List.set_cons_zero, List.set_cons_succ]
    refine wpAnyH_take (i := 2) (v := ?_) rfl (by kernel_rfl) (by kernel_rfl) (by kernel_rfl) (fun _ _ _ h => h) (Or.inl ⟨by kernel_rfl, ?_⟩) (by assumption) ?_
    rotate_left
    · intro w hSw
      go_simp
      first | done | with_reducible rfl
    try simp only [List.getElem_toArray, List.getElem_cons_succ, List.getElem_cons_zero, Act.put, List.setIfInBounds_toArray, List.set_cons_zero, List.set_cons_succ]
    refine wpAnyH_take (i := 3) (v := ?_) rfl (by kernel_rfl) (by kernel_rfl) (by kernel_rfl) (fun _ _ _ h => h) (Or.inl ⟨by kernel_rfl, ?_⟩) (by assumption) ?_
    rotate_left
    · intro w hSw
      go_simp
      first | done | with_reducible rfl
    try simp only [List.getElem_toArray, List.getElem_cons_succ, List.getElem_cons_zero, Act.put, List.setIfInBounds_toArray, List.set_cons_zero, List.set_cons_succ]
    refine wpAnyH_ready (rs := [1]) (by kernel_rfl) (by simp) ?_
    refine AllReadyH.cons rfl (fun K hK => ?_) AllReadyH.nil
    go_simp
    refine (E1 _).out.mono ?_; rintro e w4 ho4
    obtain ⟨A4, c4, rfl, hr4, hc4, hcm4, hb4⟩ := O1.out ho4
    have HB4 := Lib.hid ((HB3.out.drew).trans (hb4.mono HB3.out.size))
    have BR4 := Lib.hid ((⟨HBS.out.lt, HBS.out.cells, HBS.out.free⟩ : BRow W3.drew _ _).below hb4)
    have R4 := Lib.hid hr4
    clear ho4 hr4 hb4
    refine hK.out _ _ (HCV.out w4 BR4.out) (fun hHeld => ?_)
    clear hK K
    try simp only [List.getElem_toArray, List.getElem_cons_succ, List.getElem_cons_zero, Act.put, List.setIfInBounds_toArray, List.set_cons_zero, List.set_cons_succ]
    refine wpAnyH_ready (rs := [4]) (by kernel_rfl) (by simp) ?_
    refine AllReadyH.cons rfl (fun K hK => ?_) AllReadyH.nil
    go_simp
    refine (E2 _).out.mono ?_; rintro e w5 ho5
    obtain ⟨A5, c5, rfl, hr5, hc5, hcm5, hb5⟩ := O2.out ho5
    have HB5 := Lib.hid (HB4.out.trans (hb5.mono HB4.out.size))
    have BR5 := Lib.hid (BR4.out.below hb5)
    have R45 := Lib.hid (R4.out.below hb5)
    have R5 := Lib.hid hr5
    clear ho5 hr5 hb5
    refine hK.out _ _ (HCV.out w5 BR5.out) (fun hHeld => ?_)
    clear hK K
    try simp only [List.getElem_toArray, List.getElem_cons_succ, List.getElem_cons_zero, Act.put, List.setIfInBounds_toArray, List.set_cons_zero, List.set_cons_succ]
    refine wpAnyH_take (i := 5) (v := ?_) rfl (by kernel_rfl) (by kernel_rfl) (by kernel_rfl) (fun _ _ _ h => h) (Or.inl ⟨by kernel_rfl, ?_⟩) (by assumption) ?_
    rotate_left
    · intro w hSw
      go_simp
      first | done | with_reducible rfl
    try simp only [List.getElem_toArray, List.getElem_cons_succ, List.getElem_cons_zero, Act.put, List.setIfInBounds_toArray, List.set_cons_zero, List.set_cons_succ]
    refine wpAnyH_take (i := 6) (v := ?_) rfl (by kernel_rfl) (by kernel_rfl) (by kernel_rfl) (fun _ _ _ h => h) (Or.inl ⟨by kernel_rfl, ?_⟩) (by assumption) ?_
    rotate_left
    · intro w hSw
      go_simp
      first | done | with_reducible rfl
    try simp only [List.getElem_toArray, List.getElem_cons_succ, List.getElem_cons_zero, Act.put, List.setIfInBounds_toArray, List.set_cons_zero, List.set_cons_succ]
    refine wpAnyH_done (by kernel_rfl) ?_ _
    have X5 := R45
    have Y5 := R5
    clear R4 R45 R5 BR4 HB4 HBS HB3 HB2 CB hHeld
    go_wp2_with fail
    refine (E3 _).out.mono ?_; rintro e w6 ho6
    obtain ⟨A6, c6, rfl, hr6, hc6, hcm6, hb6⟩ := O1.out ho6
    have HB6 := Lib.hid (HB5.out.trans (hb6.mono HB5.out.size))
    have BR6 := Lib.hid (BR5.out.below hb6)
    have X6 := Lib.hid (X5.out.below hb6)
    have Y6 := Lib.hid (Y5.out.below hb6)
    have R6 := Lib.hid hr6
    clear ho6 hr6 hb6 HB5 BR5 X5 Y5
    go_wp2_with fail
    refine (samei_any _ _ _ _ _ _ _ X6.out R6.out (by omega)).mono ?_; rintro e w7 ⟨rfl, k7, rfl⟩
    have HB7 := Lib.hid (below_drewN HB6.out k7)
    have BR7 := Lib.hid (BR6.out.drewN k7)
    have X7 := Lib.hid (X6.out.drewN k7)
    have Y7 := Lib.hid (Y6.out.drewN k7)
    clear R6 HB6 BR6 X6 Y6
    generalize w6.drewN k7 = w7 at *
    have CV7 := HCV.out w7 BR7.out
    go_wp2_with fail
    refine (E4 _).out.mono ?_; rintro e w8 ho8
    obtain ⟨A8, c8, rfl, hr8, hc8, hcm8, hb8⟩ := O2.out ho8
    have HB8 := Lib.hid (HB7.out.trans (hb8.mono HB7.out.size))
    have BR8 := Lib.hid (BR7.out.below hb8)
    have X8 := Lib.hid (X7.out.below hb8)
    have Y8 := Lib.hid (Y7.out.below hb8)
    have R8 := Lib.hid hr8
    clear ho8 hr8 hb8 HB7 BR7 X7 Y7
    go_wp2_with fail
    refine (samei_any _ _ _ _ _ _ _ Y8.out R8.out (by omega)).mono ?_; rintro e w9 ⟨rfl, k9, rfl⟩
    have HB9 := Lib.hid (below_drewN HB8.out k9)
    have BR9 := Lib.hid (BR8.out.drewN k9)
    have X9 := Lib.hid (X8.out.drewN k9)
    have Y9 := Lib.hid (Y8.out.drewN k9)
    clear R8 HB8 BR8 X8 Y8
    generalize w8.drewN k9 = w9 at *
    have CV9 := HCV.out w9 BR9.out
    obtain ⟨z, hz⟩ : ∃ z, zd s t n = z := ⟨_, rfl⟩
    rw [hz] at HM
    have HZS : Hid (∀ j, z j = true → (((ew s n j).toNat : Int) != ((ew t n j).toNat : Int)) = true) := Lib.hid (fun j h => by
      subst hz
      have := zd_yes h
      refine bne_iff_ne.2 (fun e => this (UInt32.toNat_inj.1 (by omega))))
    have HZN : Hid (∀ j, z j = false → ew s n j = ew t n j) := Lib.hid (fun j h => by subst hz; exact zd_no h)
    clear hz E1 E2 E3 E4 O1 O2 CV7
    have K1 := fun W => Lib.hid (RoundKey_impl s 0 W)
    have K2 := fun W => Lib.hid (RoundKey_spec s 0 W)
    have K3 := fun W => Lib.hid (RoundKey_impl s 10 W)
    have K4 := fun W => Lib.hid (RoundKey_impl t 10 W)
    obtain ⟨T0, hT0⟩ : ∃ T0, rkT s 0 = T0 := ⟨_, rfl⟩
    obtain ⟨T1, hT1⟩ : ∃ T1, rkT s 10 = T1 := ⟨_, rfl⟩
    obtain ⟨T2, hT2⟩ : ∃ T2, rkT t 10 = T2 := ⟨_, rfl⟩
    have HD : Hid (n = 4 → (T1.toList == T2.toList) = false) := Lib.hid (fun e => by
      subst e
      have h := HLAST.out rfl
      have e1 : rkT s 10 = blkW (fun j => ew s 4 (4 * 10 + j)) := rkT_of s 4 hn 10 (by omega)
      have e2 : rkT t 10 = blkW (fun j => ew t 4 (4 * 10 + j)) := rkT_of t 4 htn 10 (by omega)
      rw [← hT1, ← hT2, e1, e2]
      rw [ByteArray.toList_eq, ByteArray.toList_eq]
      exact beq_eq_false_iff_ne.2 (fun e => h (ByteArray.ext (Array.toList_inj.1 e))))
    rw [hT0] at K1 K2
    rw [hT1] at K3
    rw [hT2] at K4
    clear hT0 hT1 hT2 HLAST
    go_wp2
    go_loopw [8, 9] (fun v i wr => ∃ k : Nat, k ≤ L ∧ i = .int .i64 k ∧ v = .int .i64 (cnt z 0 k) ∧ IRow wr A4 L ls ∧ IRow wr A5 L lt ∧ BRow wr w1.heap.size l2 ∧ Below w.heap.size w wr) (fun _ i _ => L - (intOf i).toNat)
    case atStart => exact ⟨0, by omega, rfl, rfl, X9.out, Y9.out, BR9.out, HB9.out⟩
    case round =>
      obtain ⟨k, hk, rfl, rfl, hx, hy, hbr, hbel⟩ := hrel
      have hcl := cnt_le z k 0
      by_cases hlt : k < L
      · obtain ⟨b, o, rfl, hb, hc⟩ := HWS.out _ _ _ hx hlt
        obtain ⟨b', o', rfl, hb', hc'⟩ := HWT.out _ _ _ hy hlt
        have hk0 : (0 : Int) ≤ (k : Int) := by omega
        have hk1 : (k : Int) < (L : Int) := by omega
        have HX := Lib.hid hx
        have HY := Lib.hid hy
        have HBR2 := Lib.hid hbr
        have HBE := Lib.hid hbel
        have hs1 := cnt_snoc z k
        have hcl2 : (cnt z 0 k : Int) ≤ 60 := by omega
        clear hx hy hbr hbel
        cases hz : z k with
        | true =>
          have hne := HZS.out k hz
          rw [hz] at hs1
          simp only [Bool.toNat_true] at hs1
          have HS1 : Hid ((cnt z 0 k : Int) + 1 = (cnt z 0 (k + 1) : Int)) := Lib.hid (by omega)
          clear hs1 hz
          generalize ew s n k = x at *
          generalize ew t n k = y at *
          go_wp2
          go_quiet (fail)
          go_wp2
          go_roundw
          case rel => exact ⟨k + 1, by omega, by go_num, val_i HS1.out, HX.out.drewN _, HY.out.drewN _, HBR2.out.drewN _, below_drewN HBE.out _⟩
          case measure => simp [intOf]; omega
        | false =>
          have hne := HZN.out k hz
          rw [hz] at hs1
          simp only [Bool.toNat_false, Nat.add_zero] at hs1
          have HS1 : Hid ((cnt z 0 k : Int) = (cnt z 0 (k + 1) : Int)) := Lib.hid (by omega)
          rw [← hne] at hc'
          clear hs1 hz hne
          generalize ew s n k = x at *
          go_wp2
          go_quiet (fail)
          go_wp2
          go_roundw
          case rel => exact ⟨k + 1, by omega, by go_num, val_i HS1.out, HX.out.drewN _, HY.out.drewN _, HBR2.out.drewN _, below_drewN HBE.out _⟩
          case measure => simp [intOf]; omega
      · obtain rfl : L = k := by omega
        have hm := HM.out
        obtain ⟨N, hN⟩ : ∃ N, cnt z 0 L = N := ⟨_, rfl⟩
        rw [hN] at hm hcl
        have hm2 : (L : Int) / 4 < (N : Int) := by omega
        have hm3 : IntKind.i64.wrap ((L : Int) / 4) = (L : Int) / 4 := IntWalk.i64_in _ (by omega)
        have BR9 := Lib.hid hbr
        have HB9 := Lib.hid hbel
        have hheld := HCV.out wr.drew ⟨hbr.lt, hbr.cells, hbr.free⟩
        rw [hN]
        clear hm hcl hx hy hbr hbel HWS HWT HZS HZN HM X9 Y9 CV9 hN
        go_wp2
        by_cases hn4 : n = 4
        · have hd := HD.out hn4
          have hS4 : (S : Int) = 16 := by have := HSn.out; omega
          have hS5 : ((S : Int) != 16) = false := by rw [hS4]; rfl
          clear HD hS32 hS16 hS0
          refine wp_region_held_drew (S := fun W => (convert 22 9 (.slice (some ⟨w1.heap.size, 0, none⟩) S cap)).run Try.prog W = .ok (.string t) W) (by kernel_rfl) hheld (fun hHeld => ?_)
          refine wpAnyH_take (i := 0) (v := ?_) rfl (by kernel_rfl) (by kernel_rfl) (by kernel_rfl) (fun _ _ _ h => h) (Or.inl ⟨by kernel_rfl, ?_⟩) (by assumption) ?_
          rotate_left
          · intro w hSw
            go_simp
            first | done | with_reducible rfl
          try simp only [List.getElem_toArray, List.getElem_cons_succ, List.getElem_cons_zero, Act.put, List.setIfInBounds_toArray, List.set_cons_zero, List.set_cons_succ]
          refine wpAnyH_take (i := 1) (v := ?_) rfl (by kernel_rfl) (by kernel_rfl) (by kernel_rfl) (fun _ _ _ h => h) (Or.inl ⟨by kernel_rfl, ?_⟩) (by assumption) ?_
          rotate_left
          · intro w hSw
            go_simp
            first | done | with_reducible rfl
          try simp only [List.getElem_toArray, List.getElem_cons_succ, List.getElem_cons_zero, Act.put, List.setIfInBounds_toArray, List.set_cons_zero, List.set_cons_succ]
          refine wpAnyH_take (i := 2) (v := ?_) rfl (by kernel_rfl) (by kernel_rfl) (by kernel_rfl) (fun _ _ _ h => h) (Or.inl ⟨by kernel_rfl, ?_⟩) (by assumption) ?_
          rotate_left
          · intro w hSw
            go_simp
            first | done | with_reducible rfl
          try simp only [List.getElem_toArray, List.getElem_cons_succ, List.getElem_cons_zero, Act.put, List.setIfInBounds_toArray, List.set_cons_zero, List.set_cons_succ]
          refine wpAnyH_take (i := 3) (v := ?_) rfl (by kernel_rfl) (by kernel_rfl) (by kernel_rfl) (fun _ _ _ h => h) (Or.inl ⟨by kernel_rfl, ?_⟩) (by assumption) ?_
          rotate_left
          · intro w hSw
            go_simp
            first | done | with_reducible rfl
          try simp only [List.getElem_toArray, List.getElem_cons_succ, List.getElem_cons_zero, Act.put, List.setIfInBounds_toArray, List.set_cons_zero, List.set_cons_succ]
          refine wpAnyH_take (i := 4) (v := ?_) rfl (by kernel_rfl) (by kernel_rfl) (by kernel_rfl) (fun _ _ _ h => h) (Or.inl ⟨by kernel_rfl, ?_⟩) (by assumption) ?_
          rotate_left
          · intro w hSw
            go_simp
            first | done | with_reducible rfl
          try simp only [List.getElem_toArray, List.getElem_cons_succ, List.getElem_cons_zero, Act.put, List.setIfInBounds_toArray, List.set_cons_zero, List.set_cons_succ]
          refine wpAnyH_take (i := 5) (v := ?_) rfl (by kernel_rfl) (by kernel_rfl) (by kernel_rfl) (fun _ _ _ h => h) (Or.inl ⟨by kernel_rfl, ?_⟩) (by assumption) ?_
          rotate_left
          · intro w hSw
            go_simp
            first | done | with_reducible rfl
          try simp only [List.getElem_toArray, List.getElem_cons_succ, List.getElem_cons_zero, Act.put, List.setIfInBounds_toArray, List.set_cons_zero, List.set_cons_succ]
          refine wpAnyH_take (i := 6) (v := ?_) rfl (by kernel_rfl) (by kernel_rfl) (by kernel_rfl) (fun _ _ _ h => h) (Or.inl ⟨by kernel_rfl, ?_⟩) (by assumption) ?_
          rotate_left
          · intro w hSw
            go_simp
            first | done | with_reducible rfl
          try simp only [List.getElem_toArray, List.getElem_cons_succ, List.getElem_cons_zero, Act.put, List.setIfInBounds_toArray, List.set_cons_zero, List.set_cons_succ]
          refine wpAnyH_take (i := 8) (v := ?_) rfl (by kernel_rfl) (by kernel_rfl) (by kernel_rfl) (fun _ _ _ h => h) (Or.inl ⟨by kernel_rfl, ?_⟩) (by assumption) ?_
          rotate_left
          · intro w hSw
            go_simp
            first | done | with_reducible rfl
          try simp only [List.getElem_toArray, List.getElem_cons_succ, List.getElem_cons_zero, Act.put, List.setIfInBounds_toArray, List.set_cons_zero, List.set_cons_succ]
          refine wpAnyH_ready (rs := [7]) (by kernel_rfl) (by simp) ?_
          refine AllReadyH.cons rfl (fun K hK => ?_) AllReadyH.nil
          go_simp
          refine (K1 _).out.mono ?_; rintro e w11 ⟨rfl, hb11⟩
          have HB11 := Lib.hid ((HB9.out.drew).trans (hb11.mono HB9.out.size))
          have BR11 := Lib.hid (((⟨BR9.out.lt, BR9.out.cells, BR9.out.free⟩ : BRow wr.drew _ _)).below hb11)
          clear hb11
          refine hK.out _ _ (HCV.out w11 BR11.out) (fun hHeld => ?_)
          clear hK K
          try simp only [List.getElem_toArray, List.getElem_cons_succ, List.getElem_cons_zero, Act.put, List.setIfInBounds_toArray, List.set_cons_zero, List.set_cons_succ]
          refine wpAnyH_ready (rs := [9]) (by kernel_rfl) (by simp) ?_
          refine AllReadyH.cons rfl (fun K hK => ?_) AllReadyH.nil
          go_simp
          refine (K2 _).out.mono ?_; rintro e w12 ⟨rfl, hb12⟩
          have HB12 := Lib.hid (HB11.out.trans (hb12.mono HB11.out.size))
          have BR12 := Lib.hid ((BR11.out).below hb12)
          clear hb12
          refine hK.out _ _ (HCV.out w12 BR12.out) (fun hHeld => ?_)
          clear hK K
          try simp only [List.getElem_toArray, List.getElem_cons_succ, List.getElem_cons_zero, Act.put, List.setIfInBounds_toArray, List.set_cons_zero, List.set_cons_succ]
          refine wpAnyH_take (i := 10) (v := ?_) rfl (by kernel_rfl) (by kernel_rfl) (by kernel_rfl) (fun _ _ _ h => h) (Or.inl ⟨by kernel_rfl, ?_⟩) (by assumption) ?_
          rotate_left
          · intro w hSw
            go_simp
            first | done | with_reducible rfl
          try simp only [List.getElem_toArray, List.getElem_cons_succ, List.getElem_cons_zero, Act.put, List.setIfInBounds_toArray, List.set_cons_zero, List.set_cons_succ]
          refine wpAnyH_take (i := 11) (v := ?_) rfl (by kernel_rfl) (by kernel_rfl) (by kernel_rfl) (fun _ _ _ h => h) (Or.inl ⟨by kernel_rfl, ?_⟩) (by assumption) ?_
          rotate_left
          · intro w hSw
            go_simp
            first | done | with_reducible rfl
          try simp only [List.getElem_toArray, List.getElem_cons_succ, List.getElem_cons_zero, Act.put, List.setIfInBounds_toArray, List.set_cons_zero, List.set_cons_succ]
          refine wpAnyH_take (i := 12) (v := ?_) rfl (by kernel_rfl) (by kernel_rfl) (by kernel_rfl) (fun _ _ _ h => h) (Or.inl ⟨by kernel_rfl, ?_⟩) (by assumption) ?_
          rotate_left
          · intro w hSw
            go_simp
            first | done | with_reducible rfl
          try simp only [List.getElem_toArray, List.getElem_cons_succ, List.getElem_cons_zero, Act.put, List.setIfInBounds_toArray, List.set_cons_zero, List.set_cons_succ]
          refine wpAnyH_take (i := 13) (v := ?_) rfl (by kernel_rfl) (by kernel_rfl) (by kernel_rfl) (fun _ _ _ h => h) (Or.inl ⟨by kernel_rfl, ?_⟩) (by assumption) ?_
          rotate_left
          · intro w hSw
            go_simp
            first | done | with_reducible rfl
          try simp only [List.getElem_toArray, List.getElem_cons_succ, List.getElem_cons_zero, Act.put, List.setIfInBounds_toArray, List.set_cons_zero, List.set_cons_succ]
          refine wpAnyH_take (i := 14) (v := ?_) rfl (by kernel_rfl) (by kernel_rfl) (by kernel_rfl) (fun _ _ _ h => h) (Or.inl ⟨by kernel_rfl, ?_⟩) (by assumption) ?_
          rotate_left
          · intro w hSw
            go_simp
            first | done | with_reducible rfl
          try simp only [List.getElem_toArray, List.getElem_cons_succ, List.getElem_cons_zero, Act.put, List.setIfInBounds_toArray, List.set_cons_zero, List.set_cons_succ]
          refine wpAnyH_take (i := 15) (v := ?_) rfl (by kernel_rfl) (by kernel_rfl) (by kernel_rfl) (fun _ _ _ h => h) (Or.inl ⟨by kernel_rfl, ?_⟩) (by assumption) ?_
          rotate_left
          · intro w hSw
            go_simp
            first | done | with_reducible rfl
          try simp only [List.getElem_toArray, List.getElem_cons_succ, List.getElem_cons_zero, Act.put, List.setIfInBounds_toArray, List.set_cons_zero, List.set_cons_succ]
          refine wpAnyH_take (i := 16) (v := ?_) rfl (by kernel_rfl) (by kernel_rfl) (by kernel_rfl) (fun _ _ _ h => h) (Or.inl ⟨by kernel_rfl, ?_⟩) (by assumption) ?_
          rotate_left
          · intro w hSw
            go_simp
            first | done | with_reducible rfl
          try simp only [List.getElem_toArray, List.getElem_cons_succ, List.getElem_cons_zero, Act.put, List.setIfInBounds_toArray, List.set_cons_zero, List.set_cons_succ]
          refine wpAnyH_take (i := 17) (v := ?_) rfl (by kernel_rfl) (by kernel_rfl) (by kernel_rfl) (fun _ _ _ h => h) (Or.inl ⟨by kernel_rfl, ?_⟩) (by assumption) ?_
          rotate_left
          · intro w hSw
            go_simp
            first | done | with_reducible rfl
          try simp only [List.getElem_toArray, List.getElem_cons_succ, List.getElem_cons_zero, Act.put, List.setIfInBounds_toArray, List.set_cons_zero, List.set_cons_succ]
          refine wpAnyH_take (i := 19) (v := ?_) rfl (by kernel_rfl) (by kernel_rfl) (by kernel_rfl) (fun _ _ _ h => h) (Or.inl ⟨by kernel_rfl, ?_⟩) (by assumption) ?_
          rotate_left
          · intro w hSw
            go_simp
            first | done | with_reducible rfl
          try simp only [List.getElem_toArray, List.getElem_cons_succ, List.getElem_cons_zero, Act.put, List.setIfInBounds_toArray, List.set_cons_zero, List.set_cons_succ]
          refine wpAnyH_take (i := 20) (v := ?_) rfl (by kernel_rfl) (by kernel_rfl) (by kernel_rfl) (fun _ _ _ h => h) (Or.inl ⟨by kernel_rfl, ?_⟩) (by assumption) ?_
          rotate_left
          · intro w hSw
            go_simp
            first | done | with_reducible rfl
          try simp only [List.getElem_toArray, List.getElem_cons_succ, List.getElem_cons_zero, Act.put, List.setIfInBounds_toArray, List.set_cons_zero, List.set_cons_succ]
          refine wpAnyH_ready (rs := [18]) (by kernel_rfl) (by simp) ?_
          refine AllReadyH.cons rfl (fun K hK => ?_) AllReadyH.nil
          go_simp
          refine (K3 _).out.mono ?_; rintro e w13 ⟨rfl, hb13⟩
          have HB13 := Lib.hid (HB12.out.trans (hb13.mono HB12.out.size))
          have BR13 := Lib.hid ((BR12.out).below hb13)
          clear hb13
          refine hK.out _ _ (HCV.out w13 BR13.out) (fun hHeld => ?_)
          clear hK K
          try simp only [List.getElem_toArray, List.getElem_cons_succ, List.getElem_cons_zero, Act.put, List.setIfInBounds_toArray, List.set_cons_zero, List.set_cons_succ]
          refine wpAnyH_ready (rs := [21]) (by kernel_rfl) (by simp) ?_
          refine AllReadyH.cons rfl (fun K hK => ?_) AllReadyH.nil
          go_simp
          refine (K4 _).out.mono ?_; rintro e w14 ⟨rfl, hb14⟩
          have HB14 := Lib.hid (HB13.out.trans (hb14.mono HB13.out.size))
          have BR14 := Lib.hid ((BR13.out).below hb14)
          clear hb14
          refine hK.out _ _ (HCV.out w14 BR14.out) (fun hHeld => ?_)
          clear hK K
          try simp only [List.getElem_toArray, List.getElem_cons_succ, List.getElem_cons_zero, Act.put, List.setIfInBounds_toArray, List.set_cons_zero, List.set_cons_succ]
          refine wpAnyH_take (i := 22) (v := ?_) rfl (by kernel_rfl) (by kernel_rfl) (by kernel_rfl) (fun _ _ _ h => h) (Or.inl ⟨by kernel_rfl, ?_⟩) (by assumption) ?_
          rotate_left
          · intro w hSw
            go_simp
            first | done | with_reducible rfl
          try simp only [List.getElem_toArray, List.getElem_cons_succ, List.getElem_cons_zero, Act.put, List.setIfInBounds_toArray, List.set_cons_zero, List.set_cons_succ]
          refine wpAnyH_take (i := 23) (v := ?_) rfl (by kernel_rfl) (by kernel_rfl) (by kernel_rfl) (fun _ _ _ h => h) (Or.inl ⟨by kernel_rfl, ?_⟩) (by assumption) ?_
          rotate_left
          · intro w hSw
            go_simp
            first | done | with_reducible rfl
          try simp only [List.getElem_toArray, List.getElem_cons_succ, List.getElem_cons_zero, Act.put, List.setIfInBounds_toArray, List.set_cons_zero, List.set_cons_succ]
          refine wpAnyH_take (i := 24) (v := ?_) rfl (by kernel_rfl) (by kernel_rfl) (by kernel_rfl) (fun _ _ _ h => h) (Or.inl ⟨by kernel_rfl, ?_⟩) (by assumption) ?_
          rotate_left
          · intro w hSw
            go_simp
            first | done | with_reducible rfl
          try simp only [List.getElem_toArray, List.getElem_cons_succ, List.getElem_cons_zero, Act.put, List.setIfInBounds_toArray, List.set_cons_zero, List.set_cons_succ]
          refine wpAnyH_take (i := 25) (v := ?_) rfl (by kernel_rfl) (by kernel_rfl) (by kernel_rfl) (fun _ _ _ h => h) (Or.inl ⟨by kernel_rfl, ?_⟩) (by assumption) ?_
          rotate_left
          · intro w hSw
            go_simp
            first | done | with_reducible rfl
          try simp only [List.getElem_toArray, List.getElem_cons_succ, List.getElem_cons_zero, Act.put, List.setIfInBounds_toArray, List.set_cons_zero, List.set_cons_succ]
          refine wpAnyH_done (by kernel_rfl) ?_ _
          go_wp2
          go_ret
          exact ⟨rfl, HB14.out⟩
        · have hS5 : ((S : Int) != 16) = true := bne_iff_ne.2 (by have := HSn.out; omega)
          clear HD hS32 hS16 hS0
          refine wp_region_held_drew (S := fun W => (convert 22 9 (.slice (some ⟨w1.heap.size, 0, none⟩) S cap)).run Try.prog W = .ok (.string t) W) (by kernel_rfl) hheld (fun hHeld => ?_)
          refine wpAnyH_take (i := 0) (v := ?_) rfl (by kernel_rfl) (by kernel_rfl) (by kernel_rfl) (fun _ _ _ h => h) (Or.inl ⟨by kernel_rfl, ?_⟩) (by assumption) ?_
          rotate_left
          · intro w hSw
            go_simp
            first | done | with_reducible rfl
          try simp only [List.getElem_toArray, List.getElem_cons_succ, List.getElem_cons_zero, Act.put, List.setIfInBounds_toArray, List.set_cons_zero, List.set_cons_succ]
          refine wpAnyH_take (i := 1) (v := ?_) rfl (by kernel_rfl) (by kernel_rfl) (by kernel_rfl) (fun _ _ _ h => h) (Or.inl ⟨by kernel_rfl, ?_⟩) (by assumption) ?_
          rotate_left
          · intro w hSw
            go_simp
            first | done | with_reducible rfl
          try simp only [List.getElem_toArray, List.getElem_cons_succ, List.getElem_cons_zero, Act.put, List.setIfInBounds_toArray, List.set_cons_zero, List.set_cons_succ]
          refine wpAnyH_take (i := 2) (v := ?_) rfl (by kernel_rfl) (by kernel_rfl) (by kernel_rfl) (fun _ _ _ h => h) (Or.inl ⟨by kernel_rfl, ?_⟩) (by assumption) ?_
          rotate_left
          · intro w hSw
            go_simp
            first | done | with_reducible rfl
          try simp only [List.getElem_toArray, List.getElem_cons_succ, List.getElem_cons_zero, Act.put, List.setIfInBounds_toArray, List.set_cons_zero, List.set_cons_succ]
          refine wpAnyH_take (i := 3) (v := ?_) rfl (by kernel_rfl) (by kernel_rfl) (by kernel_rfl) (fun _ _ _ h => h) (Or.inl ⟨by kernel_rfl, ?_⟩) (by assumption) ?_
          rotate_left
          · intro w hSw
            go_simp
            first | done | with_reducible rfl
          try simp only [List.getElem_toArray, List.getElem_cons_succ, List.getElem_cons_zero, Act.put, List.setIfInBounds_toArray, List.set_cons_zero, List.set_cons_succ]
          refine wpAnyH_take (i := 4) (v := ?_) rfl (by kernel_rfl) (by kernel_rfl) (by kernel_rfl) (fun _ _ _ h => h) (Or.inl ⟨by kernel_rfl, ?_⟩) (by assumption) ?_
          rotate_left
          · intro w hSw
            go_simp
            first | done | with_reducible rfl
          try simp only [List.getElem_toArray, List.getElem_cons_succ, List.getElem_cons_zero, Act.put, List.setIfInBounds_toArray, List.set_cons_zero, List.set_cons_succ]
          refine wpAnyH_take (i := 5) (v := ?_) rfl (by kernel_rfl) (by kernel_rfl) (by kernel_rfl) (fun _ _ _ h => h) (Or.inl ⟨by kernel_rfl, ?_⟩) (by assumption) ?_
          rotate_left
          · intro w hSw
            go_simp
            first | done | with_reducible rfl
          try simp only [List.getElem_toArray, List.getElem_cons_succ, List.getElem_cons_zero, Act.put, List.setIfInBounds_toArray, List.set_cons_zero, List.set_cons_succ]
          refine wpAnyH_take (i := 6) (v := ?_) rfl (by kernel_rfl) (by kernel_rfl) (by kernel_rfl) (fun _ _ _ h => h) (Or.inl ⟨by kernel_rfl, ?_⟩) (by assumption) ?_
          rotate_left
          · intro w hSw
            go_simp
            first | done | with_reducible rfl
          try simp only [List.getElem_toArray, List.getElem_cons_succ, List.getElem_cons_zero, Act.put, List.setIfInBounds_toArray, List.set_cons_zero, List.set_cons_succ]
          refine wpAnyH_take (i := 8) (v := ?_) rfl (by kernel_rfl) (by kernel_rfl) (by kernel_rfl) (fun _ _ _ h => h) (Or.inl ⟨by kernel_rfl, ?_⟩) (by assumption) ?_
          rotate_left
          · intro w hSw
            go_simp
            first | done | with_reducible rfl
          try simp only [List.getElem_toArray, List.getElem_cons_succ, List.getElem_cons_zero, Act.put, List.setIfInBounds_toArray, List.set_cons_zero, List.set_cons_succ]
          refine wpAnyH_ready (rs := [7]) (by kernel_rfl) (by simp) ?_
          refine AllReadyH.cons rfl (fun K hK => ?_) AllReadyH.nil
          go_simp
          refine (K1 _).out.mono ?_; rintro e w11 ⟨rfl, hb11⟩
          have HB11 := Lib.hid ((HB9.out.drew).trans (hb11.mono HB9.out.size))
          have BR11 := Lib.hid (((⟨BR9.out.lt, BR9.out.cells, BR9.out.free⟩ : BRow wr.drew _ _)).below hb11)
          clear hb11
          refine hK.out _ _ (HCV.out w11 BR11.out) (fun hHeld => ?_)
          clear hK K
          try simp only [List.getElem_toArray, List.getElem_cons_succ, List.getElem_cons_zero, Act.put, List.setIfInBounds_toArray, List.set_cons_zero, List.set_cons_succ]
          refine wpAnyH_ready (rs := [9]) (by kernel_rfl) (by simp) ?_
          refine AllReadyH.cons rfl (fun K hK => ?_) AllReadyH.nil
          go_simp
          refine (K2 _).out.mono ?_; rintro e w12 ⟨rfl, hb12⟩
          have HB12 := Lib.hid (HB11.out.trans (hb12.mono HB11.out.size))
          have BR12 := Lib.hid ((BR11.out).below hb12)
          clear hb12
          refine hK.out _ _ (HCV.out w12 BR12.out) (fun hHeld => ?_)
          clear hK K
          try simp only [List.getElem_toArray, List.getElem_cons_succ, List.getElem_cons_zero, Act.put, List.setIfInBounds_toArray, List.set_cons_zero, List.set_cons_succ]
          refine wpAnyH_take (i := 10) (v := ?_) rfl (by kernel_rfl) (by kernel_rfl) (by kernel_rfl) (fun _ _ _ h => h) (Or.inl ⟨by kernel_rfl, ?_⟩) (by assumption) ?_
          rotate_left
          · intro w hSw
            go_simp
            first | done | with_reducible rfl
          try simp only [List.getElem_toArray, List.getElem_cons_succ, List.getElem_cons_zero, Act.put, List.setIfInBounds_toArray, List.set_cons_zero, List.set_cons_succ]
          refine wpAnyH_take (i := 11) (v := ?_) rfl (by kernel_rfl) (by kernel_rfl) (by kernel_rfl) (fun _ _ _ h => h) (Or.inl ⟨by kernel_rfl, ?_⟩) (by assumption) ?_
          rotate_left
          · intro w hSw
            go_simp
            first | done | with_reducible rfl
          try simp only [List.getElem_toArray, List.getElem_cons_succ, List.getElem_cons_zero, Act.put, List.setIfInBounds_toArray, List.set_cons_zero, List.set_cons_succ]
          refine wpAnyH_take (i := 12) (v := ?_) rfl (by kernel_rfl) (by kernel_rfl) (by kernel_rfl) (fun _ _ _ h => h) (Or.inl ⟨by kernel_rfl, ?_⟩) (by assumption) ?_
          rotate_left
          · intro w hSw
            go_simp
            first | done | with_reducible rfl
          try simp only [List.getElem_toArray, List.getElem_cons_succ, List.getElem_cons_zero, Act.put, List.setIfInBounds_toArray, List.set_cons_zero, List.set_cons_succ]
          refine wpAnyH_take (i := 13) (v := ?_) rfl (by kernel_rfl) (by kernel_rfl) (by kernel_rfl) (fun _ _ _ h => h) (Or.inl ⟨by kernel_rfl, ?_⟩) (by assumption) ?_
          rotate_left
          · intro w hSw
            go_simp
            first | done | with_reducible rfl
          try simp only [List.getElem_toArray, List.getElem_cons_succ, List.getElem_cons_zero, Act.put, List.setIfInBounds_toArray, List.set_cons_zero, List.set_cons_succ]
          refine wpAnyH_take (i := 14) (v := ?_) rfl (by kernel_rfl) (by kernel_rfl) (by kernel_rfl) (fun _ _ _ h => h) (Or.inl ⟨by kernel_rfl, ?_⟩) (by assumption) ?_
          rotate_left
          · intro w hSw
            go_simp
            first | done | with_reducible rfl
          try simp only [List.getElem_toArray, List.getElem_cons_succ, List.getElem_cons_zero, Act.put, List.setIfInBounds_toArray, List.set_cons_zero, List.set_cons_succ]
          refine wpAnyH_take (i := 15) (v := ?_) rfl (by kernel_rfl) (by kernel_rfl) (by kernel_rfl) (fun _ _ _ h => h) (Or.inl ⟨by kernel_rfl, ?_⟩) (by assumption) ?_
          rotate_left
          · intro w hSw
            go_simp
            first | done | with_reducible rfl
          try simp only [List.getElem_toArray, List.getElem_cons_succ, List.getElem_cons_zero, Act.put, List.setIfInBounds_toArray, List.set_cons_zero, List.set_cons_succ]
          refine wpAnyH_take (i := 16) (v := ?_) rfl (by kernel_rfl) (by kernel_rfl) (by kernel_rfl) (fun _ _ _ h => h) (Or.inl ⟨by kernel_rfl, ?_⟩) (by assumption) ?_
          rotate_left
          · intro w hSw
            go_simp
            first | done | with_reducible rfl
          try simp only [List.getElem_toArray, List.getElem_cons_succ, List.getElem_cons_zero, Act.put, List.setIfInBounds_toArray, List.set_cons_zero, List.set_cons_succ]
          refine wpAnyH_take (i := 17) (v := undef) rfl (by kernel_rfl) (by kernel_rfl) (by kernel_rfl) (fun _ _ _ h => h) (Or.inr ⟨by kernel_rfl, by kernel_rfl⟩) (by assumption) ?_
          try simp only [List.getElem_toArray, List.getElem_cons_succ, List.getElem_cons_zero, Act.put, List.setIfInBounds_toArray, List.set_cons_zero, List.set_cons_succ]
          refine wpAnyH_take (i := 18) (v := undef) rfl (by kernel_rfl) (by kernel_rfl) (by kernel_rfl) (fun _ _ _ h => h) (Or.inr ⟨by kernel_rfl, by kernel_rfl⟩) (by assumption) ?_
          try simp only [List.getElem_toArray, List.getElem_cons_succ, List.getElem_cons_zero, Act.put, List.setIfInBounds_toArray, List.set_cons_zero, List.set_cons_succ]
          refine wpAnyH_take (i := 19) (v := undef) rfl (by kernel_rfl) (by kernel_rfl) (by kernel_rfl) (fun _ _ _ h => h) (Or.inr ⟨by kernel_rfl, by kernel_rfl⟩) (by assumption) ?_
          try simp only [List.getElem_toArray, List.getElem_cons_succ, List.getElem_cons_zero, Act.put, List.setIfInBounds_toArray, List.set_cons_zero, List.set_cons_succ]
          refine wpAnyH_take (i := 20) (v := undef) rfl (by kernel_rfl) (by kernel_rfl) (by kernel_rfl) (fun _ _ _ h => h) (Or.inr ⟨by kernel_rfl, by kernel_rfl⟩) (by assumption) ?_
          try simp only [List.getElem_toArray, List.getElem_cons_succ, List.getElem_cons_zero, Act.put, List.setIfInBounds_toArray, List.set_cons_zero, List.set_cons_succ]
          refine wpAnyH_take (i := 21) (v := undef) rfl (by kernel_rfl) (by kernel_rfl) (by kernel_rfl) (fun _ _ _ h => h) (Or.inr ⟨by kernel_rfl, by kernel_rfl⟩) (by assumption) ?_
          try simp only [List.getElem_toArray, List.getElem_cons_succ, List.getElem_cons_zero, Act.put, List.setIfInBounds_toArray, List.set_cons_zero, List.set_cons_succ]
          refine wpAnyH_take (i := 22) (v := undef) rfl (by kernel_rfl) (by kernel_rfl) (by kernel_rfl) (fun _ _ _ h => h) (Or.inr ⟨by kernel_rfl, by kernel_rfl⟩) (by assumption) ?_
          try simp only [List.getElem_toArray, List.getElem_cons_succ, List.getElem_cons_zero, Act.put, List.setIfInBounds_toArray, List.set_cons_zero, List.set_cons_succ]
          refine wpAnyH_take (i := 23) (v := ?_) rfl (by kernel_rfl) (by kernel_rfl) (by kernel_rfl) (fun _ _ _ h => h) (Or.inl ⟨by kernel_rfl, ?_⟩) (by assumption) ?_
          rotate_left
          · intro w hSw
            go_simp
            first | done | with_reducible rfl
          try simp only [List.getElem_toArray, List.getElem_cons_succ, List.getElem_cons_zero, Act.put, List.setIfInBounds_toArray, List.set_cons_zero, List.set_cons_succ]
          refine wpAnyH_take (i := 24) (v := ?_) rfl (by kernel_rfl) (by kernel_rfl) (by kernel_rfl) (fun _ _ _ h => h) (Or.inl ⟨by kernel_rfl, ?_⟩) (by assumption) ?_
          rotate_left
          · intro w hSw
            go_simp
            first | done | with_reducible rfl
          try simp only [List.getElem_toArray, List.getElem_cons_succ, List.getElem_cons_zero, Act.put, List.setIfInBounds_toArray, List.set_cons_zero, List.set_cons_succ]
          refine wpAnyH_take (i := 25) (v := ?_) rfl (by kernel_rfl) (by kernel_rfl) (by kernel_rfl) (fun _ _ _ h => h) (Or.inl ⟨by kernel_rfl, ?_⟩) (by assumption) ?_
          rotate_left
          · intro w hSw
            go_simp
            first | done | with_reducible rfl
          try simp only [List.getElem_toArray, List.getElem_cons_succ, List.getElem_cons_zero, Act.put, List.setIfInBounds_toArray, List.set_cons_zero, List.set_cons_succ]
          refine wpAnyH_done (by kernel_rfl) ?_ _
          go_wp2
          go_ret
          exact ⟨rfl, HB12.out⟩
  · go_enter Try.func4, Try.ntmps4
    go_wp2_with fail
    refine (big_great _ _ _ _ (by omega) hlen).mono ?_; rintro e w' ⟨rfl, rfl⟩
    go_wp2
    go_ret
    exact ⟨rfl, Below.refl _ _⟩
end Go.Proofs.Ytkbnnlhilnnpeaa
