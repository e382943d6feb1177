/-
  Contracts and facts that the laws of this seat use: IntMarks, KeyI, KeyJ, KeyK, KeyS, KeyT.
-/
import Derived.Test.YtbfmbdohebdbaaaGreatDoorBase
import Derived.Test.YtbfmbdohebdbaaaGreatDoorPure
import Derived.WalkKit
import Derived.LoopTactic
import Derived.OwnWalk
import Derived.WalkLawsBesides
import Derived.WalkSpells
import Derived.Outline
import Derived.Below
import Derived.Laws.AppendOwn
import Derived.Laws.OwnMore
import Derived.Deep.QuietTactic
import Derived.Deep.Draws
import Derived.BigQuiet
import Derived.WalkSmall
import Derived.IntWalk
import Derived.Test.YtbfmbdohebdbaaaGreatDoorWord
import Derived.Laws.IdiomStrings
import Derived.Deep.RegionHeld3
import Derived.Laws.MakeOwn
import Derived.Laws.EntriesVeiled
import Derived.Shelf.Abstract
import Derived.Deep.AppendLies
set_option linter.unusedVariables false
namespace Go.Proofs.YtbfmbdohebdbaaaGreatDoor
open Go.RowKit
attribute [local go_sem ↓] Go.wp_at_zero Go.wp_at_succ

/-- the marks from K on. -/
def markF (K : Nat) (j : Nat) : Int := ((K + j : Nat) : Int)
def oldF (l : List Int) (j : Nat) : Int := l.getD j 0
theorem old_up (l : List Int) (n : Nat) (h : l.length = n) : upTo (oldF l) n = l := by
  apply List.ext_getElem
  · rw [upTo_length, h]
  · intro i h1 h2
    rw [upTo_get]
    unfold oldF
    rw [List.getD_eq_getElem?_getD, List.getElem?_eq_getElem h2]; rfl
theorem mark_rel {w wr : World} {B g n c K j : Nat} {l : List Int} {e : TypeId} (hown : wr.ownsRow B e 1 (.slice (some ⟨g, 0, none⟩) n c) n (cells64 (rowTo (markF K) (oldF l) n j))) (hb : Below B w wr) (hg : B ≤ g) :
    (wr.setCell ⟨g, j, none⟩ (.int .i64 ((K : Int) + (j : Int)))).ownsRow B e 1 (.slice (some ⟨g, 0, none⟩) n c) n (cells64 (rowTo (markF K) (oldF l) n (j + 1))) ∧ Below B w (wr.setCell ⟨g, j, none⟩ (.int .i64 ((K : Int) + (j : Int)))) := by
  refine ⟨?_, hb.setCell hg _⟩
  have h := (hown.stored j (.int .i64 ((K : Int) + (j : Int)))).1
  have e : (cells64 (rowTo (markF K) (oldF l) n j)).set j (.int .i64 ((K : Int) + (j : Int))) = cells64 (rowTo (markF K) (oldF l) n (j + 1)) := by
    rw [← rowTo_set]
    unfold cells64
    rw [List.map_set]
    congr 1
  rw [e] at h
  exact h
end Go.Proofs.YtbfmbdohebdbaaaGreatDoor
set_option linter.unusedVariables false
namespace Go.Proofs.YtbfmbdohebdbaaaGreatDoor
open Go.RowKit

def kSz (s : ByteArray) : Int := if s.size = 16 then 0 else if s.size = 24 then 1 else if s.size = 32 then 2 else -1
theorem kSz_ok (s : ByteArray) : (kSz s = -1) = ¬ kOk s := by
  unfold kSz kOk
  by_cases h1 : s.size = 16
  · simp [h1]
  · by_cases h2 : s.size = 24
    · simp [h2]
    · by_cases h3 : s.size = 32
      · simp [h3]
      · simp [h1, h2, h3]
set_option maxRecDepth 100000 in
theorem size_impl (s : ByteArray) (w : World) :
    Calls Tryz.prog 119 #[.string s] w fun e w' => e = .returned (.int .i64 (kSz s)) ∧ w = w' := by
  by_cases h1 : s.size = 16
  · have HV : Hid (kSz s = 0) := Lib.hid (by unfold kSz; simp [h1])
    go_enter Tryz.func119, Tryz.ntmps119
    go_wp2
    go_ret
    exact ⟨ret_i HV.out.symm, rfl⟩
  · by_cases h2 : s.size = 24
    · have HV : Hid (kSz s = 1) := Lib.hid (by unfold kSz; simp [h2])
      clear h1
      go_enter Tryz.func119, Tryz.ntmps119
      go_wp2
      go_ret
      exact ⟨ret_i HV.out.symm, rfl⟩
    · by_cases h3 : s.size = 32
      · have HV : Hid (kSz s = 2) := Lib.hid (by unfold kSz; simp [h3])
        clear h1 h2
        go_enter Tryz.func119, Tryz.ntmps119
        go_wp2
        go_ret
        exact ⟨ret_i HV.out.symm, rfl⟩
      · have HV : Hid (kSz s = -1) := Lib.hid (by unfold kSz; simp [h1, h2, h3])
        have k1 : ¬ (s.size : Int) = 16 := by omega
        have k2 : ¬ (s.size : Int) = 24 := by omega
        have k3 : ¬ (s.size : Int) = 32 := by omega
        clear h1 h2 h3
        go_enter Tryz.func119, Tryz.ntmps119
        go_wp2
        go_ret
        exact ⟨ret_i HV.out.symm, rfl⟩
theorem size_at (s : ByteArray) (v : Int) (h : kSz s = v) (w : World) :
    Calls Tryz.prog 119 #[.string s] w fun e w' => e = .returned (.int .i64 v) ∧ w = w' := by
  subst h; exact size_impl s w
set_option maxRecDepth 100000 in
theorem ok_yes (s : ByteArray) (h : kOk s) (w : World) :
    Calls Tryz.prog 83 #[.string s] w fun e w' => e = .returned (.bool true) ∧ w = w' := by
  have HS := Lib.hid (size_impl s)
  have hne : (kSz s != -1) = true := bne_iff_ne.2 (by rw [Ne, kSz_ok]; simpa using h)
  generalize kSz s = v at *
  clear h
  go_enter Tryz.func83, Tryz.ntmps83
  go_wp2_with fail
  refine (HS.out _).mono ?_; rintro e w' ⟨rfl, rfl⟩
  go_wp2
  go_ret
  exact ⟨rfl, rfl⟩
set_option maxRecDepth 100000 in
theorem ok_no (s : ByteArray) (h : ¬ kOk s) (w : World) :
    Calls Tryz.prog 83 #[.string s] w fun e w' => e = .returned (.bool false) ∧ w = w' := by
  have hne : kSz s = -1 := by rw [kSz_ok]; exact h
  have HS := Lib.hid (size_at s (-1) hne)
  clear h hne
  go_enter Tryz.func83, Tryz.ntmps83
  go_wp2_with fail
  refine (HS.out _).mono ?_; rintro e w' ⟨rfl, rfl⟩
  go_wp2
  go_ret
  exact ⟨rfl, rfl⟩
set_option maxRecDepth 100000 in
theorem words_impl (s : ByteArray) (n : Nat) (h : s.size = 4 * n) (hn : n ≤ 8) (w : World) :
    Calls Tryz.prog 131 #[.string s] w fun e w' => e = .returned (.int .i64 n) ∧ w = w' := by
  have hv : (s.size : Int) / 4 = (n : Int) := by omega
  have hz : (s.size : Int) ≤ 32 := by omega
  have HV := Lib.hid hv
  clear h hn hv
  go_enter Tryz.func131, Tryz.ntmps131
  go_wp2
  go_ret
  exact ⟨ret_i HV.out, rfl⟩
/-- a right key of n words. -/
def kOf (s : ByteArray) (n : Nat) : Prop := s.size = 4 * n ∧ (n = 4 ∨ n = 6 ∨ n = 8)
theorem kOk.of {s : ByteArray} (h : kOk s) : ∃ n, kOf s n := by
  rcases h with h | h | h
  · exact ⟨4, h, .inl rfl⟩
  · exact ⟨6, h, .inr (.inl rfl)⟩
  · exact ⟨8, h, .inr (.inr rfl)⟩
theorem kOf.ok {s : ByteArray} {n : Nat} (h : kOf s n) : kOk s := by
  obtain ⟨h1, rfl | rfl | rfl⟩ := h
  · exact .inl h1
  · exact .inr (.inl h1)
  · exact .inr (.inr h1)
theorem kOf.le {s : ByteArray} {n : Nat} (h : kOf s n) : 4 ≤ n ∧ n ≤ 8 := by rcases h.2 with rfl | rfl | rfl <;> omega
set_option maxRecDepth 100000 in
theorem rounds_yes (s : ByteArray) (n : Nat) (h : kOf s n) (w : World) :
    Calls Tryz.prog 130 #[.string s] w fun e w' => e = .returned (.int .i64 ((n + 6 : Nat) : Int)) ∧ w = w' := by
  have H1 := Lib.hid (ok_yes s h.ok)
  have hle := h.le
  have H2 := Lib.hid (words_impl s n h.1 hle.2)
  have h8 : (n : Int) ≤ 8 := by omega
  clear h hle
  go_enter Tryz.func130, Tryz.ntmps130
  go_wp2_with fail
  refine (H1.out _).mono ?_; rintro e w' ⟨rfl, rfl⟩
  go_wp2_with fail
  refine (H2.out _).mono ?_; rintro e w' ⟨rfl, rfl⟩
  go_wp2
  go_ret
  exact ⟨ret_i (by omega), rfl⟩
set_option maxRecDepth 100000 in
theorem rounds_no (s : ByteArray) (h : ¬ kOk s) (w : World) :
    Calls Tryz.prog 130 #[.string s] w fun e w' => e = .returned (.int .i64 0) ∧ w = w' := by
  have H1 := Lib.hid (ok_no s h)
  clear h
  go_enter Tryz.func130, Tryz.ntmps130
  go_wp2_with fail
  refine (H1.out _).mono ?_; rintro e w' ⟨rfl, rfl⟩
  go_wp2
  go_ret
  exact ⟨rfl, rfl⟩
/-- Rounds as the document tells it. -/
def kRi (s : ByteArray) : Int := if kOk s then ((s.size / 4 + 6 : Nat) : Int) else 0
theorem kRi_no (s : ByteArray) (h : ¬ kOk s) : kRi s = 0 := if_neg h
theorem kRi_of (s : ByteArray) (n : Nat) (h : kOf s n) : kRi s = ((n + 6 : Nat) : Int) := by
  unfold kRi; rw [if_pos h.ok, h.1, Nat.mul_div_cancel_left n (by omega)]
theorem KeyOk_impl (s : ByteArray) (w : World) :
    Calls Tryz.prog 55 #[.string s] w fun e w' => e = .returned (.bool (decide (kOk s))) ∧ w = w' := by
  have H1 : Hid (∀ w, Calls Tryz.prog 83 #[.string s] w fun e w' => e = .returned (.bool (decide (kOk s))) ∧ w = w') := Lib.hid (fun w => by
    by_cases h : kOk s
    · rw [decide_eq_true h]; exact ok_yes s h w
    · rw [decide_eq_false h]; exact ok_no s h w)
  generalize decide (kOk s) = b at *
  go_enter Tryz.func55, Tryz.ntmps55
  go_wp2_with fail
  refine (H1.out _).mono ?_; rintro e w' ⟨rfl, rfl⟩
  go_wp2
  go_ret
  exact ⟨rfl, rfl⟩
theorem rconI_pos (j : Nat) (h : 1 ≤ j) : rconI (j : Int) = ((rcon j).toNat : Int) := by
  unfold rconI; rw [if_neg (by omega)]; simp
theorem below_drewN1 {w w1 : World} {n B : Nat} (h : Below B (w.drewN n) w1) : Below B w w1 := ⟨h.os, h.tape, h.output, h.size, h.block⟩
/-- what grow tells: growW, but for the word in the middle of a key of eight words. -/
def growS (n i : Nat) (x : UInt32) : UInt32 := if i % n = 0 then subW (rot x 8) ^^^ rcon (i / n) else x
theorem growW_S (n i : Nat) (x : UInt32) (h : ¬ (n = 8 ∧ i % 8 = 4)) : growW n i x = growS n i x := by
  unfold growW growS; rw [if_neg h]
set_option maxRecDepth 100000 in
theorem grow_impl (s : ByteArray) (n : Nat) (h : kOf s n) (i : Nat) (hi : n ≤ i) (hi2 : i ≤ 1000) (x : UInt32) (w : World) :
    Calls Tryz.prog 169 #[.string s, .int .i64 i, .int .u32 x.toNat] w fun e w' => e = .returned (.int .u32 (growS n i x).toNat) ∧ Below w.heap.size w w' := by
  have hle := h.le
  have H2 := Lib.hid (words_impl s n h.1 hle.2)
  have h8 : (n : Int) ≤ 8 := by omega
  have h4 : (4 : Int) ≤ (n : Int) := by omega
  have hx := w32_lt x
  have hx2 : (x.toNat : Int) < 4294967296 := by omega
  have hi3 : (i : Int) ≤ 1000 := by omega
  by_cases hm : i % n = 0
  · have HT := Lib.hid (Turn_impl (x.toNat : Int) 8)
    have e1 : turnI (x.toNat : Int) 8 = ((rot x 8).toNat : Int) := by
      have := turnI_at (x.toNat : Int) 8 (by omega)
      rw [w32_of] at this; exact this
    have HW := Lib.hid (SubWord_impl ((rot x 8).toNat : Int))
    have hq : 1 ≤ i / n := Nat.div_pos hi (by omega)
    have hq2 : i / n ≤ 1000 := Nat.le_trans (Nat.div_le_self _ _) hi2
    have HR := Lib.hid (Rcon_impl ((i / n : Nat) : Int) (by omega) (by omega))
    have HV : Hid (growS n i x = subW (rot x 8) ^^^ rcon (i / n)) := Lib.hid (by unfold growS; rw [if_pos hm])
    have HX := Lib.hid (i64_xor32 (subW (rot x 8)) (rcon (i / n)))
    rw [e1] at HT
    rw [w32_of] at HW
    rw [rconI_pos _ hq] at HR
    have ed : (i : Int).tdiv (n : Int) = ((i / n : Nat) : Int) := by rw [Int.tdiv_eq_ediv_of_nonneg (by omega)]; rfl
    have em : (i : Int).tmod (n : Int) = 0 := by rw [Int.tmod_eq_emod_of_nonneg (by omega)]; omega
    have hqi : ((i / n : Nat) : Int) ≤ 1000 := by omega
    generalize i / n = q at *
    generalize rot x 8 = y at *
    generalize subW y = z at *
    generalize rcon q = v at *
    have hy := w32_lt y
    have hz := w32_lt z
    have hv := w32_lt v
    have hzv := w32_lt (z ^^^ v)
    have HZ : Hid (((z ^^^ v).toNat : Int) % 4294967296 = ((z ^^^ v).toNat : Int)) := Lib.hid (by omega)
    clear h hle hm hi hi2 hq hq2 e1
    go_enter Tryz.func169, Tryz.ntmps169
    go_wp2_with fail
    refine (H2.out _).mono ?_; rintro e w' ⟨rfl, rfl⟩
    go_wp2_with fail
    refine (HT.out _).mono ?_; rintro e w' ⟨rfl, rfl⟩
    go_wp2_with fail
    refine (HW.out _).mono ?_; rintro e w1 ⟨rfl, hb1⟩
    go_wp2_with fail
    refine (H2.out _).mono ?_; rintro e w' ⟨rfl, rfl⟩
    go_wp2_with fail
    refine (HR.out _).mono ?_; rintro e w' ⟨rfl, rfl⟩
    go_wp2
    go_ret
    exact ⟨ret_i (by rw [HV.out, HX.out, HZ.out]), hb1⟩
  · have HV : Hid (growS n i x = x) := Lib.hid (by unfold growS; rw [if_neg hm])
    obtain ⟨m, hm2⟩ : ∃ m, i % n = m := ⟨_, rfl⟩
    have em : (i : Int).tmod (n : Int) = (m : Int) := by rw [Int.tmod_eq_emod_of_nonneg (by omega), ← hm2]; rfl
    have hm3 : ((m : Int) != 0) = true := bne_iff_ne.2 (by omega)
    have hml : m ≤ 8 := by have := Nat.mod_lt i (show 0 < n by omega); omega
    have hm4 : (m : Int) ≤ 8 := by omega
    clear h hle hm hi hi2 hm2 hml
    go_enter Tryz.func169, Tryz.ntmps169
    go_wp2_with fail
    refine (H2.out _).mono ?_; rintro e w' ⟨rfl, rfl⟩
    go_wp2
    go_ret
    exact ⟨ret_i (by rw [HV.out]), Below.refl _ _⟩
set_option maxRecDepth 100000 in
theorem growLong_impl (s : ByteArray) (h : kOf s 8) (i : Nat) (hi : 8 ≤ i) (hi2 : i ≤ 1000) (x : UInt32) (w : World) :
    Calls Tryz.prog 170 #[.string s, .int .i64 i, .int .u32 x.toNat] w fun e w' => e = .returned (.int .u32 (growW 8 i x).toNat) ∧ Below w.heap.size w w' := by
  have H3 := Lib.hid (fun W => show Calls Tryz.prog 131 #[.string s] W fun e w' => e = .returned (.int .i64 8) ∧ w' = W from (words_impl s 8 h.1 (by omega) W).mono fun e w' h => ⟨h.1, h.2.symm⟩)
  have hx := w32_lt x
  have hx2 : (x.toNat : Int) < 4294967296 := by omega
  have hi3 : (i : Int) ≤ 1000 := by omega
  by_cases hm : i % 8 = 4
  · have HW := Lib.hid (SubWord_impl (x.toNat : Int))
    rw [w32_of] at HW
    have HV := Lib.hid (growW_4 i x hm)
    have em : (i : Int).tmod 8 = 4 := by rw [Int.tmod_eq_emod_of_nonneg (by omega)]; omega
    generalize subW x = z at *
    have hz := w32_lt z
    clear h hm hi hi2
    go_enter Tryz.func170, Tryz.ntmps170
    go_wp2
    go_quiet ((go_at_call 131; exact Calls.quiet_of_same (H3.out _)))
    go_wp2_with fail
    refine (HW.out _).mono ?_; rintro e w1 ⟨rfl, hb1⟩
    go_wp2
    go_ret
    exact ⟨ret_i (by rw [HV.out]), below_drewN1 hb1⟩
  · have HG := Lib.hid (grow_impl s 8 h i hi hi2 x)
    have HV := Lib.hid (growW_S 8 i x (by omega))
    obtain ⟨m, hm2⟩ : ∃ m, i % 8 = m := ⟨_, rfl⟩
    have em : (i : Int).tmod 8 = (m : Int) := by rw [Int.tmod_eq_emod_of_nonneg (by omega)]; omega
    have hm3 : ((m : Int) == 4) = false := beq_eq_false_iff_ne.2 (by omega)
    have hm4 : (m : Int) ≤ 8 := by omega
    generalize growS 8 i x = z at *
    clear h hm hi hi2 hm2
    go_enter Tryz.func170, Tryz.ntmps170
    go_wp2
    go_quiet ((go_at_call 131; exact Calls.quiet_of_same (H3.out _)))
    go_wp2_with fail
    refine (HG.out _).mono ?_; rintro e w1 ⟨rfl, hb1⟩
    go_wp2
    go_ret
    exact ⟨ret_i (by rw [HV.out]), below_drewN1 hb1⟩
end Go.Proofs.YtbfmbdohebdbaaaGreatDoor
set_option linter.unusedVariables false
namespace Go.Proofs.YtbfmbdohebdbaaaGreatDoor
open Go.RowKit
attribute [local go_sem ↓] Go.wp_at_zero Go.wp_at_succ

/-- a function as a value. -/
def gfn (f : FuncId) : Value := .func (.func f) #[] #[]
def growAgg : Array Value := #[gfn 169, gfn 169, gfn 170]
theorem grow_size : (Tryz.prog.info? 183).map (·.size) = some growAgg.size := by kernel_rfl
set_option maxRecDepth 100000 in
theorem growths_impl (w : World) : Calls Tryz.prog 133 #[] w fun e w' => e = .returned (.agg growAgg) ∧ Below w.heap.size w w' := by
  go_enter Tryz.func133, Tryz.ntmps133
  go_wp2
  refine bodyPost_ret (v := .agg growAgg) ?_ rfl ⟨rfl, (Below.refl _ _).alloc (Nat.le_refl _) _⟩
  exact results_cell_row rfl _ _ w.heap.size 183 _ (0, 0) _ rfl (heap_alloc_new w _) Tryz.underlying183 rfl grow_size
theorem own_below {w w' : World} {base n size : Nat} {e : TypeId} {v : Value} {xs : List Value} (h : w.ownsRow base e size v n xs) (hb : Below w.heap.size w w') : w'.ownsRow base e size v n xs := by
  refine ⟨h.1, ?_⟩
  rcases h.2 with hn | ⟨g, cap, cur, hv, hB, hg, rest⟩
  · exact .inl hn
  · refine .inr ⟨g, cap, cur, hv, hB, (hb.block g ?_).trans hg, rest⟩
    rcases Nat.lt_or_ge g w.heap.size with hlt | hge
    · exact hlt
    · rw [Array.getElem?_eq_none hge] at hg; cases hg
theorem bytes_made_k (s : ByteArray) (hs : s.size ≤ 1073741824) (w : World) :
    ∃ cap w2, (convert 78 22 (.string s)).run Tryz.prog w = .ok (.slice (some ⟨w.heap.size, 0, none⟩) s.size cap) w2 ∧ s.size ≤ cap ∧ cap ≤ 9223372036854775807 ∧ Below w.heap.size w w2 ∧ (∀ j (h : j < s.size), w2.cell? ⟨w.heap.size, j, none⟩ = some (cell8 s[j])) := by
  refine ⟨_, _, run_bytes_of_string (P := Tryz.prog) w 78 22 5 s Tryz.underlying78 Tryz.underlying22 Tryz.underlying5, grownCap_ge _ _ _ _, ?_, ?_, ?_⟩
  · have := grownCap_le_maxLen w s.size 0 5 (by unfold maxLen; omega)
    unfold maxLen at this; omega
  · exact ((Below.refl _ _).drew).alloc (Nat.le_refl _) _
  · intro j hj
    rw [cell_of_row _ w.heap.size j _ _ _ (heap_alloc_new w.drew _), bytesRow_at _ _ _ (by exact hj)]
    rfl
def mk32 (n : Nat) : Array Value := madeCells #[.int .u32 0] n
theorem mk32_size (n : Nat) : (mk32 n).size = n := size_madeCells _ _
theorem run_make32 {P : Program} {t e : TypeId} {i : TypeInfo} (ht : P.underlying t = some (.slice e)) (hi : P.info? e = some i) (hz : i.zero = some (.int .u32 0)) (h1 : i.size = 1) (h2 : i.bytes = 4)
    (l : Nat) (c : Int) (hc : c = (l : Int)) (hc2 : l ≤ 35184372088832) (w : World) :
    (Instr.makeSlice t (.int .i64 c) (.int .i64 c)).run P w = .ok (.slice (some ⟨w.heap.size, 0, none⟩) l l) (w.alloc (.cells (mk32 l) e)) := by
  subst hc
  have := run_make (P := P) w t e i (.int .u32 0) ht hi hz .i64 .i64 l l (by omega) (by omega) (by rw [h2]; omega) (by omega)
  rw [this]
  simp [h1, mk32, Value.cells]
theorem mk32_list (n : Nat) : (mk32 n).toList = cells32 (List.replicate n 0) := by
  unfold mk32
  rw [toList_madeCells_one]
  simp [cells32, cell32]
theorem info32 : (Tryz.prog.info? 121).map (fun i => (i.zero, i.size, i.bytes)) = some (some (.int .u32 0), 1, 4) := by kernel_rfl
/-- the words of a key as far as they have grown. -/
def exTo (s : ByteArray) (n k : Nat) : List UInt32 := rowTo (ew s n) (fun _ => 0) (kL n) k
theorem exTo_length (s : ByteArray) (n k : Nat) : (exTo s n k).length = kL n := rowTo_length _ _ _ _
theorem exTo_zero (s : ByteArray) (n : Nat) : exTo s n 0 = List.replicate (kL n) 0 := by unfold exTo; rw [rowTo_zero, upTo_const]
theorem exTo_all (s : ByteArray) (n : Nat) : exTo s n (kL n) = upTo (ew s n) (kL n) := rowTo_all _ _ _ _ (Nat.le_refl _)
theorem cells32_at (l : List UInt32) (j : Nat) (x : UInt32) (h : l[j]? = some x) : (cells32 l)[j]? = some (.int .u32 (x.toNat : Int)) := by
  unfold cells32; rw [List.getElem?_map, h]; rfl
theorem ex_rel {w wr : World} {g n c k : Nat} {s : ByteArray} {x : UInt32} {e : TypeId} (hx : ew s n k = x)
    (hown : wr.ownsRow w.heap.size e 1 (.slice (some ⟨g, 0, none⟩) c c) c (cells32 (exTo s n k))) (hb : Below w.heap.size w wr) (hg : w.heap.size ≤ g) :
    (wr.setCell ⟨g, k, none⟩ (.int .u32 (x.toNat : Int))).ownsRow w.heap.size e 1 (.slice (some ⟨g, 0, none⟩) c c) c (cells32 (exTo s n (k + 1))) ∧ Below w.heap.size w (wr.setCell ⟨g, k, none⟩ (.int .u32 (x.toNat : Int))) := by
  refine ⟨?_, hb.setCell hg _⟩
  have h := (hown.stored k (cell32 x)).1
  have e : (cells32 (exTo s n k)).set k (cell32 x) = cells32 (exTo s n (k + 1)) := by
    rw [cells32_set, ← hx, exTo, exTo, rowTo_set]
  rw [e] at h
  exact h
theorem index_grow (W : World) : (Instr.index 183 (.agg growAgg) (.int .i64 0)).run Tryz.prog W = .ok (gfn 169) W ∧ (Instr.index 183 (.agg growAgg) (.int .i64 1)).run Tryz.prog W = .ok (gfn 169) W ∧ (Instr.index 183 (.agg growAgg) (.int .i64 2)).run Tryz.prog W = .ok (gfn 170) W :=
  ⟨by kernel_rfl, by kernel_rfl, by kernel_rfl⟩
/-- how a key grows: the function at its size's place tells growW. -/
theorem grow_of (s : ByteArray) (n : Nat) (h : kOf s n) : ∃ (F : FuncId) (z : Int), kSz s = z ∧ (∀ W, (Instr.index 183 (.agg growAgg) (.int .i64 z)).run Tryz.prog W = .ok (.func (.func F) #[] #[]) W) ∧ (∀ (args : Array Value) (W : World), (callFunc F args).run Tryz.prog W = .ok (.enter F args) W) ∧
    ∀ (i : Nat) (x : UInt32) (W : World), n ≤ i → i ≤ 1000 → Calls Tryz.prog F #[.string s, .int .i64 i, .int .u32 x.toNat] W fun e w' => e = .returned (.int .u32 (growW n i x).toNat) ∧ Below W.heap.size W w' := by
  have h0 := h
  obtain ⟨h1, rfl | rfl | rfl⟩ := h
  · refine ⟨169, 0, by simp [kSz, h1], fun W => (index_grow W).1, enters_of Tryz.func169 (by kernel_rfl) rfl, fun i x W hi hi2 => ?_⟩
    rw [growW_S 4 i x (by omega)]
    exact grow_impl s 4 h0 i hi hi2 x W
  · refine ⟨169, 1, by simp [kSz, h1], fun W => (index_grow W).2.1, enters_of Tryz.func169 (by kernel_rfl) rfl, fun i x W hi hi2 => ?_⟩
    rw [growW_S 6 i x (by omega)]
    exact grow_impl s 6 h0 i hi hi2 x W
  · refine ⟨170, 2, by simp [kSz, h1], fun W => (index_grow W).2.2, enters_of Tryz.func170 (by kernel_rfl) rfl, fun i x W hi hi2 => ?_⟩
    exact growLong_impl s h0 i hi hi2 x W
set_option maxRecDepth 100000 in
set_option maxHeartbeats 1600000 in
theorem expanded_yes (s : ByteArray) (n : Nat) (h : kOf s n) (w : World) :
    Calls Tryz.prog 91 #[.string s] w fun e w' => e = .returned (.slice (some ⟨w.heap.size, 0, none⟩) (kL n) (kL n)) ∧ w'.ownsRow w.heap.size 121 1 (.slice (some ⟨w.heap.size, 0, none⟩) (kL n) (kL n)) (kL n) (cells32 (upTo (ew s n) (kL n))) ∧ Below w.heap.size w w' := by
  have hle := h.le
  have H1 := Lib.hid (ok_yes s h.ok)
  have H2 := Lib.hid (rounds_yes s n h)
  have H3 := Lib.hid (words_impl s n h.1 hle.2)
  obtain ⟨i0, hi, hz0, hz1, hz2⟩ := info_parts info32
  have hmk := fun c hc => run_make32 Tryz.underlying138 hi hz0 hz1 hz2 (kL n) c hc (by unfold kL; omega) w
  have hrow := World.ownsRow_lit w (e := 121) (size := 1) (mk32 (kL n)) (kL n) (Nat.le_refl w.heap.size) (by unfold maxLen kL; omega) (by rw [mk32_size]; omega)
  rw [mk32_list, ← exTo_zero s n] at hrow
  have HR := Lib.hid hrow
  have hN4 : (4 : Int) ≤ (n : Int) := by omega
  have hN8 : (n : Int) ≤ 8 := by omega
  have hmk2 := hmk (4 * ((n : Int) + 6 + 1)) (by unfold kL; omega)
  have HL : Hid (kL n = 4 * (n + 7)) := Lib.hid rfl
  clear hrow hmk
  go_enter Tryz.func91, Tryz.ntmps91
  go_wp2_with fail
  refine (H1.out _).mono ?_; rintro e w' ⟨rfl, rfl⟩
  go_wp2_with fail
  refine (H2.out _).mono ?_; rintro e w' ⟨rfl, rfl⟩
  go_wp2_with fail
  refine (H3.out _).mono ?_; rintro e w' ⟨rfl, rfl⟩
  have hbel : Below w.heap.size w (w.alloc (.cells (mk32 (kL n)) 121)) := (Below.refl _ _).alloc (Nat.le_refl _) _
  have HB := Lib.hid hbel
  clear hmk2 hbel
  generalize w.alloc (.cells (mk32 (kL n)) 121) = W at *
  obtain ⟨L, hL⟩ : ∃ L, kL n = L := ⟨_, rfl⟩
  rw [hL] at HR HL ⊢
  have hL2 : (L : Int) ≤ 60 := by have := HL.out; omega
  have hLn : (n : Int) ≤ (L : Int) := by have := HL.out; omega
  go_wp2
  go_loopw [19] (fun v wr => ∃ k : Nat, k ≤ n ∧ v = .int .i64 k ∧ wr.ownsRow w.heap.size 121 1 (.slice (some ⟨w.heap.size, 0, none⟩) L L) L (cells32 (exTo s n k)) ∧ Below w.heap.size w wr) (fun v _ => n - (intOf v).toNat)
  case atStart => exact ⟨0, by omega, rfl, HR.out, HB.out⟩
  case round =>
    obtain ⟨k, hk, rfl, hown, hbel⟩ := hrel
    by_cases hlt : k < n
    · have hk1 : (k : Int) < (n : Int) := by omega
      have hk2 : (k : Int) < (L : Int) := by omega
      have hsz := h.1
      obtain ⟨cap, W2, hconv, hc1, hc2, hb2, hcells⟩ := bytes_made_k s (by omega) wr
      have hB4 : Bytes4 W2 wr.heap.size (4 * k) (wb (getW s (4 * k)) 0) (wb (getW s (4 * k)) 1) (wb (getW s (4 * k)) 2) (wb (getW s (4 * k)) 3) := by
        refine ⟨?_, ?_, ?_, ?_⟩
        · rw [getW_at s _ 0 (by omega), Nat.add_zero, hcells (4 * k) (by omega), byteOf_at]
        · rw [getW_at s _ 1 (by omega), hcells (4 * k + 1) (by omega), byteOf_at]
        · rw [getW_at s _ 2 (by omega), hcells (4 * k + 2) (by omega), byteOf_at]
        · rw [getW_at s _ 3 (by omega), hcells (4 * k + 3) (by omega), byteOf_at]
      have HG := Lib.hid (get_impl wr.heap.size s.size cap (4 * k) (getW s (4 * k)) W2 (by omega) hc1 hc2 hB4)
      rw [show ((4 * k : Nat) : Int) = 4 * (k : Int) by omega] at HG
      have hown2 := own_below hown hb2
      have hbel2 := hbel.trans (hb2.mono hbel.size)
      have hcl : (cells32 (exTo s n k)).length = L := by rw [cells32_length, exTo_length, hL]
      obtain ⟨u, hcell⟩ : ∃ u, W2.cell? ⟨w.heap.size, k, none⟩ = some u := ⟨_, (hown2.cellAt k (by omega)).trans (List.getElem?_eq_getElem (by omega))⟩
      have hfr := hown2.frozenAt k
      have HX := Lib.hid (ex_rel (x := getW s (4 * k)) (ew_lo s n k hlt) hown2 hbel2 (Nat.le_refl _))
      have hgl := w32_lt (getW s (4 * k))
      generalize getW s (4 * k) = y at *
      clear hsz hB4 hcells hown hown2 hbel hbel2 hcl hc1 hc2 hb2
      go_wp2_with fail
      with_reducible refine HG.out.mono ?_; rintro e w' ⟨rfl, rfl⟩
      go_wp2
      go_roundw
      case rel => exact ⟨k + 1, by omega, by go_num, HX.out⟩
      case measure => simp [intOf]; omega
    · obtain rfl : n = k := by omega
      obtain ⟨F, z, hz, hix, hen, hF⟩ := grow_of s n h
      have HF := Lib.hid hF
      have HS := fun W => Lib.hid (size_at s z hz W)
      have HA := fun W => Lib.hid (growths_impl W)
      obtain ⟨A, hA⟩ : ∃ A, growAgg = A := ⟨_, rfl⟩
      rw [hA] at HA hix
      clear hA hF hz
      go_wp2_with fail
      refine (HA _).out.mono ?_; rintro e w1 ⟨rfl, hb1⟩
      have hown1 := own_below hown hb1
      have hbel1 := hbel.trans (hb1.mono hbel.size)
      clear hown hbel hb1 HA
      go_wp2_with fail
      refine (HS _).out.mono ?_; rintro e w' ⟨rfl, rfl⟩
      have HO := Lib.hid hown1
      have HB1 := Lib.hid hbel1
      clear hown1 hbel1
      go_wp2
      clear hix HS
      go_loopw [7] (fun v wr => ∃ k : Nat, n ≤ k ∧ k ≤ L ∧ v = .int .i64 k ∧ wr.ownsRow w.heap.size 121 1 (.slice (some ⟨w.heap.size, 0, none⟩) L L) L (cells32 (exTo s n k)) ∧ Below w.heap.size w wr) (fun v _ => L - (intOf v).toNat)
      case atStart => exact ⟨n, by omega, by omega, rfl, HO.out, HB1.out⟩
      case round =>
        obtain ⟨k, hnk, hk, rfl, hown, hbel⟩ := hrel
        by_cases hlt : k < L
        · have hk2 : (k : Int) < (L : Int) := by omega
          have hk0 : (0 : Int) ≤ (k : Int) := by omega
          obtain ⟨a, ha⟩ : ∃ a, k = a + n := ⟨k - n, by omega⟩
          obtain ⟨b, hb⟩ : ∃ b, k = b + 1 := ⟨k - 1, by have := h.le; omega⟩
          have hnx : ew s n k = ew s n a ^^^ growW n k (ew s n b) := by
            rw [ew_hi s n k hnk (by have := h.le; omega), show k - n = a by omega, show k - 1 = b by omega]
          have HOW := Lib.hid hown
          have hca := (hown.cellAt a (by omega)).trans (cells32_at _ _ _ (rowTo_lo (ew s n) (fun _ => 0) (kL n) k a (by omega) (by have := h.le; omega)))
          have hcb := (hown.cellAt b (by omega)).trans (cells32_at _ _ _ (rowTo_lo (ew s n) (fun _ => 0) (kL n) k b (by omega) (by omega)))
          have hcl : (cells32 (exTo s n k)).length = L := by rw [cells32_length, exTo_length, hL]
          obtain ⟨u, hcell⟩ : ∃ u, wr.cell? ⟨w.heap.size, k, none⟩ = some u := ⟨_, (hown.cellAt k (by omega)).trans (List.getElem?_eq_getElem (by omega))⟩
          have hg := (hown.lt w.heap.size rfl).2
          have HC := fun W => Lib.hid (HF.out k (ew s n b) W hnk (by omega))
          have HBW := Lib.hid hbel
          generalize ew s n a = x at *
          generalize ew s n b = y at *
          generalize growW n k y = v at *
          have hx := w32_lt x
          have hy := w32_lt y
          have hv := w32_lt v
          have hX := u32_xor x v
          generalize x ^^^ v = t at *
          have ht := w32_lt t
          have q1 : IntKind.i64.wrap ((k : Int) - (n : Int)) = (a : Int) := by rw [show (k : Int) - (n : Int) = (a : Int) by omega]; exact IntWalk.i64_in _ (by omega)
          have q2 : IntKind.i64.wrap ((k : Int) - 1) = (b : Int) := by rw [show (k : Int) - 1 = (b : Int) by omega]; exact IntWalk.i64_in _ (by omega)
          have ha0 : (0 : Int) ≤ (a : Int) := by omega
          have haL : (a : Int) < (L : Int) := by omega
          have hb0 : (0 : Int) ≤ (b : Int) := by omega
          have hbL : (b : Int) < (L : Int) := by omega
          have hnka : (⟨w.heap.size, k, none⟩ : Addr) ≠ ⟨w.heap.size, a, none⟩ := by intro h2; injection h2; have := h.le; omega
          have hnkb : (⟨w.heap.size, k, none⟩ : Addr) ≠ ⟨w.heap.size, b, none⟩ := by intro h2; injection h2; omega
          have HNK := Lib.hid hnk
          clear hown hbel HF hcl ha hb hnk
          go_wp2
          go_region_held3 (fun w' => w'.cell? ⟨w.heap.size, a, none⟩ = some (.int .u32 (x.toNat : Int)) ∧ w'.cell? ⟨w.heap.size, b, none⟩ = some (.int .u32 (y.toNat : Int)))
            (first
              | exact ⟨hca, hcb⟩
              | exact ⟨(hb1.cell (p := ⟨w.heap.size, a, none⟩) (by simpa using hg)).trans hca, (hb1.cell (p := ⟨w.heap.size, b, none⟩) (by simpa using hg)).trans hcb⟩
              | exact ⟨(World.cell?_setCell_other (h := hnka) ..).trans ((hb1.cell (p := ⟨w.heap.size, a, none⟩) (by simpa using hg)).trans hca), (World.cell?_setCell_other (h := hnkb) ..).trans ((hb1.cell (p := ⟨w.heap.size, b, none⟩) (by simpa using hg)).trans hcb)⟩)
            (first | (go_simp; refine (HC _).out.mono ?_; rintro e w1 ⟨rfl, hb1⟩; have hc1 := (hb1.cell (p := ⟨w.heap.size, k, none⟩) (by simpa using hg)).trans hcell; have hf1 := (own_below (w := wr.drew) HOW.out hb1).frozenAt k))
          have hown1 := own_below (w := wr.drew) HOW.out hb1
          have hbel1 := (HBW.out.drew).trans (hb1.mono HBW.out.size)
          have HX := Lib.hid (ex_rel (x := t) hnx hown1 hbel1 (Nat.le_refl _))
          clear hown1 hbel1 hb1
          go_wp2
          go_roundw
          case rel => exact ⟨k + 1, by have := HNK.out; omega, by omega, by go_num, HX.out⟩
          case measure => simp [intOf]; omega
        · obtain rfl : L = k := by omega
          go_wp2
          go_ret
          exact ⟨by rw [hL]; rfl, by rw [← exTo_all, hL]; exact hown, hbel⟩
end Go.Proofs.YtbfmbdohebdbaaaGreatDoor
set_option linter.unusedVariables false
namespace Go.Proofs.YtbfmbdohebdbaaaGreatDoor
open Go.RowKit
attribute [local go_sem ↓] Go.wp_at_zero Go.wp_at_succ

set_option maxRecDepth 100000 in
theorem expanded_no (s : ByteArray) (h : ¬ kOk s) (w : World) :
    Calls Tryz.prog 91 #[.string s] w fun e w' => e = .returned (.slice none 0 0) ∧ w = w' := by
  have H1 := Lib.hid (ok_no s h)
  clear h
  go_enter Tryz.func91, Tryz.ntmps91
  go_wp2_with fail
  refine (H1.out _).mono ?_; rintro e w' ⟨rfl, rfl⟩
  go_wp2
  go_ret
  exact ⟨rfl, rfl⟩
/-- words as numbers. -/
def nums (l : List UInt32) : List Int := l.map fun x => (x.toNat : Int)
theorem nums_length (l : List UInt32) : (nums l).length = l.length := by simp [nums]
theorem nums_take (l : List UInt32) (k : Nat) (h : k < l.length) : nums (l.take (k + 1)) = nums (l.take k) ++ [((l[k]).toNat : Int)] := by
  unfold nums; rw [List.take_succ_eq_append_getElem h, List.map_append]; rfl
theorem own_base {w : World} {b b2 n size : Nat} {e : TypeId} {v : Value} {xs : List Value} (h : w.ownsRow b e size v n xs) (hb : b2 ≤ b) : w.ownsRow b2 e size v n xs := by
  refine ⟨h.1, ?_⟩
  rcases h.2 with hn | ⟨g, cap, cur, hv, hB, rest⟩
  · exact .inl hn
  · exact .inr ⟨g, cap, cur, hv, Nat.le_trans hb hB, rest⟩
theorem own_nil (w : World) (base : Nat) (e : TypeId) : w.ownsRow base e 1 (.slice none 0 0) 0 (cells64 []) := ⟨rfl, .inl ⟨rfl, rfl⟩⟩
theorem nums_rel {l : List UInt32} {w w2 w1 : World} {k : Nat} {e : TypeId} {u v : Value} {o : Obj} {x : UInt32} (hlt : k < l.length) (hx : l[k] = x)
    (hown2 : w2.ownsRow w.heap.size e 1 u k (cells64 (nums (l.take k)))) (hbel2 : Below w.heap.size w w2)
    (hown3 : w1.ownsRow w.heap.size e 1 v (k + 1) (cells64 (nums (l.take k)) ++ [.int .i64 (x.toNat : Int)]))
    (hgrow : (w2.alloc o).grownBy w1 u.ownBlock) :
    w1.ownsRow w.heap.size e 1 v (k + 1) (cells64 (nums (l.take (k + 1)))) ∧ Below w.heap.size w w1 := by
  refine ⟨?_, ?_⟩
  · rw [nums_take l k hlt, hx, cells64, List.map_append]
    exact hown3
  · have h1 : Below w.heap.size w (w2.alloc o) := hbel2.alloc hbel2.size _
    exact h1.grown hgrow h1.size (fun b hb => (hown2.lt b hb).1)
theorem own_slice64 {w : World} {base n : Nat} {e : TypeId} {v : Value} {l : List Int} (h : w.ownsRow base e 1 v n (cells64 l)) : ∃ A c, v = .slice A n c ∧ n ≤ c ∧ c ≤ 9223372036854775807 := by
  rcases h.2 with ⟨rfl, rfl⟩ | ⟨g, cap, cur, rfl, hb, hg, hn, hm, _⟩
  · exact ⟨none, 0, rfl, by omega, by omega⟩
  · exact ⟨_, _, rfl, hn, by unfold maxLen at hm; omega⟩
/-- The words can be read. -/
def WRow (w : World) (g L : Nat) (l : List UInt32) : Prop := l.length = L ∧ ∀ j (h : j < l.length), g < w.heap.size ∧ w.cell? ⟨g, j, none⟩ = some (.int .u32 ((l[j]).toNat : Int))
theorem own_wrow {w : World} {base g n c : Nat} {e : TypeId} {l : List UInt32} (h : w.ownsRow base e 1 (.slice (some ⟨g, 0, none⟩) n c) n (cells32 l)) : WRow w g n l := by
  have hl : l.length = n := by have := h.1; rw [cells32_length] at this; omega
  refine ⟨hl, fun j hj => ⟨(h.lt g rfl).2, ?_⟩⟩
  exact (h.cellAt j (by omega)).trans (cells32_at _ _ _ (List.getElem?_eq_getElem hj))
theorem WRow.below {w w' : World} {g L : Nat} {l : List UInt32} (h : WRow w g L l) (hb : Below w.heap.size w w') : WRow w' g L l :=
  ⟨h.1, fun j hj => by
    obtain ⟨hg, hc⟩ := h.2 j hj
    exact ⟨Nat.lt_of_lt_of_le hg hb.size, (hb.cell (p := ⟨g, j, none⟩) hg).trans hc⟩⟩
/-- the numbers that Expand tells. -/
def exInts (s : ByteArray) : List Int := if kOk s then upTo (fun i => ((ew s (s.size / 4) i).toNat : Int)) (kL (s.size / 4)) else []
theorem exInts_no (s : ByteArray) (h : ¬ kOk s) : exInts s = [] := if_neg h
theorem kOf.div {s : ByteArray} {n : Nat} (h : kOf s n) : s.size / 4 = n := by rw [h.1, Nat.mul_div_cancel_left n (by omega)]
theorem exInts_of (s : ByteArray) (n : Nat) (h : kOf s n) : exInts s = nums (upTo (ew s n) (kL n)) := by
  unfold exInts nums; rw [if_pos h.ok, h.div, upTo_map]
/-- What a call that answers a list of numbers of its own leaves. -/
def OwnInts (w : World) (l : List Int) (e : Ending) (w' : World) : Prop := ∃ v, e = .returned v ∧ w'.ownsRow w.heap.size 3 1 v l.length (cells64 l) ∧ Below w.heap.size w w'
/-- the bytes of the first k words. -/
def rowW (f : Nat → UInt32) (k : Nat) : List UInt8 := (List.range k).flatMap fun j => [wb (f j) 0, wb (f j) 1, wb (f j) 2, wb (f j) 3]
theorem rowW_succ (f : Nat → UInt32) (k : Nat) : rowW f (k + 1) = rowW f k ++ [wb (f k) 0, wb (f k) 1, wb (f k) 2, wb (f k) 3] := by
  simp [rowW, List.range_succ]
/-- four words as a block. -/
def blkW (f : Nat → UInt32) : ByteArray := ⟨(rowW f 4).toArray⟩
theorem blkW_size (f : Nat → UInt32) : (blkW f).size = 16 := rfl
/-- a block of which the first k words are put. -/
def blkTo (f : Nat → UInt32) (k : Nat) : List UInt8 := rowW f k ++ List.replicate (16 - 4 * k) 0
theorem blkTo_4 (f : Nat → UInt32) : blkTo f 4 = rowW f 4 := by simp [blkTo]
theorem blkTo_put (f : Nat → UInt32) (k : Nat) (hk : k < 4) : putRow (blkTo f k) (4 * k) (f k) 4 = blkTo f (k + 1) := by
  have h4 : k = 0 ∨ k = 1 ∨ k = 2 ∨ k = 3 := by omega
  rcases h4 with rfl | rfl | rfl | rfl <;> simp [blkTo, rowW, putRow, List.range_succ, List.replicate]
/-- RoundKey as the document tells it. -/
def rkT (s : ByteArray) (i : Int) : ByteArray := if kOk s ∧ 0 ≤ i ∧ i ≤ kRi s then blkW (fun j => ew s (s.size / 4) (4 * i.toNat + j)) else ⟨#[]⟩
theorem rkT_no (s : ByteArray) (i : Int) (h : ¬ (kOk s ∧ 0 ≤ i ∧ i ≤ kRi s)) : rkT s i = ⟨#[]⟩ := if_neg h
theorem rkT_of (s : ByteArray) (n : Nat) (hn : kOf s n) (i : Nat) (h : i ≤ n + 6) : rkT s i = blkW (fun j => ew s n (4 * i + j)) := by
  unfold rkT
  rw [if_pos ⟨hn.ok, by omega, by rw [kRi_of s n hn]; omega⟩, hn.div]; rfl
theorem mk8_16 : (mk8 16).toList = cells8 (List.replicate 16 0) := mk8_list 16
set_option maxRecDepth 100000 in
set_option maxHeartbeats 1600000 in
theorem blockOf_impl (f : Nat → UInt32) (g o c : Nat) (w : World) (hg : g < w.heap.size) (h : ∀ j, j < 4 → w.cell? ⟨g, o + j, none⟩ = some (.int .u32 ((f j).toNat : Int))) :
    Calls Tryz.prog 89 #[.slice (some ⟨g, o, none⟩) 4 c] w fun e w' => e = .returned (.string (blkW f)) ∧ Below w.heap.size w w' := by
  obtain ⟨i0, hi0, hz0, hz1, hz2⟩ := info_parts Tryz.info5
  have hmk : ∀ W : World, (Instr.makeSlice 22 (.int .i64 16) (.int .i64 16)).run Tryz.prog W = .ok (.slice (some ⟨W.heap.size, 0, none⟩) 16 16) (W.alloc (.cells (mk8 16) 5)) := fun W => run_make8 Tryz.underlying22 hi0 hz0 hz1 hz2 16 16 (by omega) (by omega) W
  have h0 := World.ownsRow_lit w (e := 5) (size := 1) (mk8 16) 16 (Nat.le_refl w.heap.size) (by unfold maxLen; omega) (by rw [mk8_size])
  rw [mk8_16] at h0
  have HO := Lib.hid h0
  have HC := Lib.hid h
  have HG := Lib.hid hg
  clear h0 h hg
  go_enter Tryz.func89, Tryz.ntmps89
  go_wp2
  clear hmk
  go_loopw [9] (fun v wr => ∃ k : Nat, k ≤ 4 ∧ v = .int .i64 k ∧ wr.ownsRow w.heap.size 5 1 (.slice (some ⟨w.heap.size, 0, none⟩) 16 16) 16 (cells8 (blkTo f k)) ∧ Below w.heap.size w wr) (fun v _ => 4 - (intOf v).toNat)
  case atStart => exact ⟨0, by omega, rfl, HO.out, (Below.refl _ _).alloc (Nat.le_refl _) _⟩
  case round =>
    obtain ⟨k, hk, rfl, hown, hbel⟩ := hrel
    by_cases hlt : k < 4
    · have hcell : wr.cell? ⟨g, o + k, none⟩ = some (.int .u32 ((f k).toNat : Int)) := (hbel.cell (p := ⟨g, o + k, none⟩) HG.out).trans (HC.out k hlt)
      have HP := Lib.hid (put_impl w.heap.size 16 16 (4 * k) (blkTo f k) (f k) w.heap.size wr (by omega) (by omega) (by omega) hown)
      rw [blkTo_put f k hlt, show ((4 * k : Nat) : Int) = 4 * (k : Int) by omega] at HP
      have HB := Lib.hid hbel
      have hxl := w32_lt (f k)
      have hx2 : ((f k).toNat : Int) < 4294967296 := by omega
      have hk0 : (0 : Int) ≤ (k : Int) := by omega
      have hk1 : (k : Int) < 4 := by omega
      generalize f k = x at *
      clear hown hbel hxl
      go_wp2_with fail
      refine HP.out.mono ?_; rintro e w2 ⟨rfl, hown2, hgr⟩
      have hbel2 := below_only HB.out hgr (Nat.le_refl _) HB.out.size
      clear hgr hcell HP
      go_wp2
      go_roundw
      case rel => exact ⟨k + 1, by omega, by go_num, hown2, hbel2⟩
      case measure => simp [intOf]; omega
    · obtain rfl : k = 4 := by omega
      rw [blkTo_4] at hown
      have hconv := run_string_own Tryz.underlying22 Tryz.underlying5 Tryz.underlying9 hown
      have HB := Lib.hid hbel
      clear hown hbel
      go_wp2
      go_ret
      exact ⟨rfl, HB.out⟩
end Go.Proofs.YtbfmbdohebdbaaaGreatDoor
set_option linter.unusedVariables false
namespace Go.Proofs.YtbfmbdohebdbaaaGreatDoor
open Go.RowKit
attribute [local go_sem ↓] Go.wp_at_zero Go.wp_at_succ

set_option maxRecDepth 100000 in
theorem KeyOk_spec (s : ByteArray) (w : World) :
    Calls Tryz.prog 26 #[.string s] w fun e w' => e = .returned (.bool (decide (kOk s))) ∧ w = w' := by
  by_cases h1 : s.size = 16
  · rw [decide_eq_true (show kOk s from .inl h1)]
    go_enter Tryz.func26, Tryz.ntmps26
    go_wp2
    go_ret
    exact ⟨rfl, rfl⟩
  · by_cases h2 : s.size = 24
    · rw [decide_eq_true (show kOk s from .inr (.inl h2))]
      clear h1
      go_enter Tryz.func26, Tryz.ntmps26
      go_wp2
      go_ret
      exact ⟨rfl, rfl⟩
    · by_cases h3 : s.size = 32
      · rw [decide_eq_true (show kOk s from .inr (.inr h3))]
        clear h1 h2
        go_enter Tryz.func26, Tryz.ntmps26
        go_wp2
        go_ret
        exact ⟨rfl, rfl⟩
      · rw [decide_eq_false (show ¬ kOk s from fun h => by rcases h with h | h | h <;> omega)]
        have k1 : ((s.size : Int) == 16) = false := beq_eq_false_iff_ne.2 (by omega)
        have k2 : ((s.size : Int) == 24) = false := beq_eq_false_iff_ne.2 (by omega)
        have k3 : ((s.size : Int) == 32) = false := beq_eq_false_iff_ne.2 (by omega)
        clear h1 h2 h3
        go_enter Tryz.func26, Tryz.ntmps26
        go_wp2
        go_ret
        exact ⟨rfl, rfl⟩
theorem ok_yes_spec (s : ByteArray) (h : kOk s) (w : World) :
    Calls Tryz.prog 26 #[.string s] w fun e w' => e = .returned (.bool true) ∧ w = w' := by
  have := KeyOk_spec s w; rwa [decide_eq_true h] at this
theorem ok_no_spec (s : ByteArray) (h : ¬ kOk s) (w : World) :
    Calls Tryz.prog 26 #[.string s] w fun e w' => e = .returned (.bool false) ∧ w = w' := by
  have := KeyOk_spec s w; rwa [decide_eq_false h] at this
set_option maxRecDepth 100000 in
theorem rounds_yes_spec (s : ByteArray) (n : Nat) (h : kOf s n) (w : World) :
    Calls Tryz.prog 108 #[.string s] w fun e w' => e = .returned (.int .i64 ((n : Int) + 6)) ∧ w = w' := by
  have H1 := Lib.hid (ok_yes_spec s h.ok)
  have hle := h.le
  have hs := h.1
  have hv : (s.size : Int) / 4 = (n : Int) := by omega
  have hz : (s.size : Int) ≤ 32 := by omega
  have h8 : (n : Int) ≤ 8 := by omega
  clear h hle hs
  go_enter Tryz.func108, Tryz.ntmps108
  go_wp2_with fail
  refine (H1.out _).mono ?_; rintro e w' ⟨rfl, rfl⟩
  go_wp2
  go_ret
  exact ⟨rfl, rfl⟩
set_option maxRecDepth 100000 in
theorem rounds_no_spec (s : ByteArray) (h : ¬ kOk s) (w : World) :
    Calls Tryz.prog 108 #[.string s] w fun e w' => e = .returned (.int .i64 0) ∧ w = w' := by
  have H1 := Lib.hid (ok_no_spec s h)
  clear h
  go_enter Tryz.func108, Tryz.ntmps108
  go_wp2_with fail
  refine (H1.out _).mono ?_; rintro e w' ⟨rfl, rfl⟩
  go_wp2
  go_ret
  exact ⟨rfl, rfl⟩
theorem Rounds_spec (s : ByteArray) (w : World) :
    Calls Tryz.prog 108 #[.string s] w fun e w' => e = .returned (.int .i64 (kRi s)) ∧ w = w' := by
  by_cases h : kOk s
  · obtain ⟨n, hn⟩ := h.of
    rw [kRi_of s n hn]; exact rounds_yes_spec s n hn w
  · rw [kRi_no s h]; exact rounds_no_spec s h w
theorem up_rel {F : Nat → Int} {w w2 w1 : World} {k : Nat} {e : TypeId} {u v : Value} {o : Obj} {x : Int} (hx : F k = x)
    (hown2 : w2.ownsRow w.heap.size e 1 u k (cells64 (upTo F k))) (hbel2 : Below w.heap.size w w2)
    (hown3 : w1.ownsRow w.heap.size e 1 v (k + 1) (cells64 (upTo F k) ++ [.int .i64 x]))
    (hgrow : (w2.alloc o).grownBy w1 u.ownBlock) :
    w1.ownsRow w.heap.size e 1 v (k + 1) (cells64 (upTo F (k + 1))) ∧ Below w.heap.size w w1 := by
  refine ⟨?_, ?_⟩
  · rw [upTo_succ, hx, cells64, List.map_append]
    exact hown3
  · have h1 : Below w.heap.size w (w2.alloc o) := hbel2.alloc hbel2.size _
    exact h1.grown hgrow h1.size (fun b hb => (hown2.lt b hb).1)
theorem cells64_at (F : Nat → Int) (k j : Nat) (h : j < k) : (cells64 (upTo F k))[j]? = some (.int .i64 (F j)) := by
  unfold cells64; rw [List.getElem?_map, upTo_at F k j h]; rfl
/-- a word as a number. -/
def ewI (s : ByteArray) (n i : Nat) : Int := ((ew s n i).toNat : Int)
set_option maxRecDepth 100000 in
set_option maxHeartbeats 1600000 in
theorem Expand_yes_spec (s : ByteArray) (n : Nat) (h : kOf s n) (w : World) :
    Calls Tryz.prog 78 #[.string s] w fun e w' => ∃ v, e = .returned v ∧ w'.ownsRow w.heap.size 3 1 v (kL n) (cells64 (upTo (ewI s n) (kL n))) ∧ Below w.heap.size w w' := by
  obtain ⟨i0, hi, hz0, hz1, hz2⟩ := info_parts info64
  have H1 := Lib.hid (ok_yes_spec s h.ok)
  have H2 := fun W => Lib.hid (rounds_yes_spec s n h W)
  have hle := h.le
  have hs := h.1
  have hv : (s.size : Int) / 4 = (n : Int) := by omega
  have hz : (s.size : Int) ≤ 32 := by omega
  have h8 : (n : Int) ≤ 8 := by omega
  have h4 : (4 : Int) ≤ (n : Int) := by omega
  obtain ⟨L, hL⟩ : ∃ L, kL n = L := ⟨_, rfl⟩
  have hLn : L = 4 * (n + 7) := by rw [← hL]; rfl
  have hL60 : (L : Int) ≤ 60 := by omega
  have hLi : 4 * ((n : Int) + 6 + 1) = (L : Int) := by omega
  have HS := Lib.hid hs
  have HLN := Lib.hid hLn
  rw [hL]
  clear hs hLn hL
  go_enter Tryz.func78, Tryz.ntmps78
  go_wp2_with fail
  refine (H1.out _).mono ?_; rintro e w' ⟨rfl, rfl⟩
  go_wp2
  go_loopw [3, 5] (fun v i wr => ∃ k : Nat, k ≤ n ∧ i = .int .i64 k ∧ wr.ownsRow w.heap.size 3 1 v k (cells64 (upTo (ewI s n) k)) ∧ Below w.heap.size w wr) (fun _ i _ => n - (intOf i).toNat)
  case atStart => exact ⟨0, Nat.zero_le _, rfl, World.ownsRow_lit w #[] 0 (Nat.le_refl _) (by simp [maxLen]) rfl, (Below.refl _ _).alloc (Nat.le_refl _) _⟩
  case round =>
    obtain ⟨k, hk, rfl, hown, hbel⟩ := hrel
    by_cases hlt : k < n
    · have hk1 : (k : Int) < (n : Int) := by omega
      have HG := fun W => Lib.hid (GetWord_at_spec s (4 * k) (by have := HS.out; omega) (by omega) W)
      have HX : Hid (ewI s n k = ((getW s (4 * k)).toNat : Int)) := Lib.hid (by unfold ewI; rw [ew_lo s n k hlt])
      rw [show ((4 * k : Nat) : Int) = 4 * (k : Int) by omega] at HG
      have hgl := w32_lt (getW s (4 * k))
      generalize getW s (4 * k) = y at *
      go_wp2_with fail
      refine (HG _).out.mono ?_; rintro e w4 ⟨rfl, hb4⟩
      have hown4 := own_below hown hb4
      have hbel4 := hbel.trans (hb4.mono hbel.size)
      clear hown hbel hb4 HG
      go_wp2_with (at_builtin; refine stp ?_)
      refine unstp ?_
      refine wpList_append_lies _ rfl (.tmp 21) (.tmp 26) 38 rfl w.heap.size 3 i0 (.int .i64 0) 1 8 Tryz.underlying38 hi hz0 hz1 hz2 rfl (by decide) u3 k (cells64 (upTo (ewI s n) k)) rfl (hown4.alloc _) ⟨w4.heap.size, 0, none⟩ 1 1 [.int .i64 (y.toNat : Int)] rfl rfl (World.news_of_block (cs := #[.int .i64 (y.toNat : Int)]) (heap_alloc_new w4 _)) (by simp [Value.oneCell']) (by omega) (by unfold maxLen; omega) (by omega) (by have := hbel4.size; simp; omega) (w4.heap.size + 1) (by simp) ?_
      intro g2 cap2 w5 hown5 hgrow hat hlt5
      have hrel := up_rel HX.out hown4 hbel4 hown5 hgrow
      clear hown4 hbel4 hown5 hgrow hat hlt5
      go_wp2
      go_roundw
      case rel => exact ⟨k + 1, by omega, by go_num, hrel.1, hrel.2⟩
      case measure => simp [intOf]; omega
    · obtain rfl : n = k := by omega
      have HO := Lib.hid hown
      have HB := Lib.hid hbel
      clear hown hbel
      go_wp2
      go_loopw [3, 6] (fun v i wr => ∃ k : Nat, n ≤ k ∧ k ≤ L ∧ i = .int .i64 k ∧ wr.ownsRow w.heap.size 3 1 v k (cells64 (upTo (ewI s n) k)) ∧ Below w.heap.size w wr) (fun _ i _ => L - (intOf i).toNat)
      case atStart => exact ⟨n, by omega, by have := HLN.out; omega, rfl, HO.out, HB.out⟩
      case round =>
        obtain ⟨k, hnk, hk, rfl, hown, hbel⟩ := hrel
        by_cases hlt : k < L
        · have hk2 : (k : Int) < (L : Int) := by omega
          have hk0 : (0 : Int) ≤ (k : Int) := by omega
          obtain ⟨a, ha⟩ : ∃ a, k = a + n := ⟨k - n, by omega⟩
          obtain ⟨b, hb⟩ : ∃ b, k = b + 1 := ⟨k - 1, by have := h.le; omega⟩
          have hnx : ewI s n k = ((ew s n a ^^^ growW n k (ew s n b)).toNat : Int) := by
            unfold ewI
            rw [ew_hi s n k hnk (by have := h.le; omega), show k - n = a by omega, show k - 1 = b by omega]
          obtain ⟨g, cap, rfl, hgB, hg⟩ := hown.form (by have := h.le; omega)
          have hca : wr.cell? ⟨g, a, none⟩ = some (.int .i64 ((ew s n a).toNat : Int)) := (hown.cellAt a (by have := h.le; omega)).trans (cells64_at _ _ _ (by have := h.le; omega))
          have hcb : wr.cell? ⟨g, b, none⟩ = some (.int .i64 ((ew s n b).toNat : Int)) := (hown.cellAt b (by omega)).trans (cells64_at _ _ _ (by omega))
          have HOW := Lib.hid hown
          have HBW := Lib.hid hbel
          generalize ew s n a = x at *
          generalize ew s n b = y at *
          have hx := w32_lt x
          have hy := w32_lt y
          have hx2 : (x.toNat : Int) < 4294967296 := by omega
          have hy2 : (y.toNat : Int) < 4294967296 := by omega
          have q1 : (k : Int) - (n : Int) = (a : Int) := by omega
          have q2 : (k : Int) - 1 = (b : Int) := by omega
          have ha0 : (0 : Int) ≤ (a : Int) := by omega
          have haL : (a : Int) < (k : Int) := by have := h.le; omega
          have hb0 : (0 : Int) ≤ (b : Int) := by omega
          have hbL : (b : Int) < (k : Int) := by omega
          have HNK := Lib.hid hnk
          have hkn : ¬ k = 0 := by have := h.le; omega
          by_cases hm : k % n = 0
          · have HG : Hid (growW n k y = subW (rot y 8) ^^^ rcon (k / n)) := Lib.hid (growW_0 n k y hm)
            have HT := fun W => Lib.hid (Turn_spec (y.toNat : Int) 8 W)
            have e1 : turnI (y.toNat : Int) 8 = ((rot y 8).toNat : Int) := by
              have := turnI_at (y.toNat : Int) 8 (by omega)
              rw [w32_of] at this; exact this
            have HW := fun W => Lib.hid (SubWord_spec ((rot y 8).toNat : Int) W)
            have hq : 1 ≤ k / n := Nat.div_pos hnk (by have := h.le; omega)
            have hq2 : k / n ≤ 1000 := Nat.le_trans (Nat.div_le_self _ _) (by omega)
            have HR := fun W => Lib.hid (Rcon_spec ((k / n : Nat) : Int) (by omega) (by omega) W)
            have hX1 := i64_xor32 (subW (rot y 8)) (rcon (k / n))
            simp only [e1] at HT
            simp only [w32_of] at HW
            simp only [rconI_pos _ hq] at HR
            have ed : (k : Int).tdiv (n : Int) = ((k / n : Nat) : Int) := by rw [Int.tdiv_eq_ediv_of_nonneg (by omega)]; rfl
            have em : (k : Int).tmod (n : Int) = 0 := by rw [Int.tmod_eq_emod_of_nonneg (by omega)]; omega
            have hqi : ((k / n : Nat) : Int) ≤ 1000 := by omega
            have HGv := HG.out
            have hn0 : ¬ (n : Int) = 0 := by omega
            generalize k / n = q at *
            have qd : (k : Int) / (n : Int) = (q : Int) := by rw [← ed, Int.tdiv_eq_ediv_of_nonneg (by omega)]
            have qw : IntKind.i64.wrap (q : Int) = (q : Int) := IntWalk.i64_in _ (by omega)
            have hnn : ¬ n = 0 := by omega
            generalize rot y 8 = y2 at *
            generalize subW y2 = z at *
            generalize rcon q = r at *
            rw [HGv] at hnx
            generalize z ^^^ r = v at *
            have hX2 := i64_xor32 x v
            generalize x ^^^ v = t at *
            have HX := Lib.hid hnx
            have hy3 := w32_lt y2
            have hz3 := w32_lt z
            have hr3 := w32_lt r
            have hv3 := w32_lt v
            have ht3 := w32_lt t
            clear hnx HGv HG hq hq2 e1 hm hown hbel ha hb hnk hgB hkn ed
            go_wp2_with fail
            refine (H2 _).out.mono ?_; rintro e w' ⟨rfl, rfl⟩
            go_wp2
            go_region_held3 (fun _ => True) (trivial) (first
              | (go_at_call 110; refine (HT _).out.mono ?_; rintro e w' ⟨rfl, rfl⟩)
              | (go_at_call 109; refine (HW _).out.mono ?_; rintro e w4 ⟨rfl, hb4⟩)
              | (go_at_call 111; refine (HR _).out.mono ?_; rintro e w' ⟨rfl, rfl⟩))
            have hca4 := (hb4.cell (p := ⟨g, a, none⟩) (by simpa using hg)).trans hca
            have HO4 := Lib.hid (own_below (w := wr.drew) HOW.out hb4)
            have HB4 := Lib.hid ((HBW.out.drew).trans (hb4.mono HBW.out.size))
            clear hb4 hca hcb HOW HBW HT HW HR
            go_wp2_with (at_builtin; refine stp ?_)
            refine unstp ?_
            refine wpList_append_lies _ rfl (.tmp 63) (.tmp 72) 38 rfl w.heap.size 3 i0 (.int .i64 0) 1 8 Tryz.underlying38 hi hz0 hz1 hz2 rfl (by decide) (.slice (some ⟨g, 0, none⟩) k cap) k (cells64 (upTo (ewI s n) k)) rfl (HO4.out.alloc _) ⟨w4.heap.size, 0, none⟩ 1 1 [.int .i64 (t.toNat : Int)] rfl rfl (World.news_of_block (cs := #[.int .i64 (t.toNat : Int)]) (heap_alloc_new w4 _)) (by simp [Value.oneCell']) (by omega) (by unfold maxLen; omega) (by omega) (by have := HB4.out.size; simp; omega) (w4.heap.size + 1) (by simp) ?_
            intro g2 cap2 w5 hown5 hgrow hat hlt5
            have hrel := up_rel HX.out HO4.out HB4.out hown5 hgrow
            have hnk2 := HNK.out
            clear hown5 hgrow hat hlt5
            go_wp2
            go_roundw
            case rel => exact ⟨k + 1, by omega, by omega, by go_num, hrel.1, hrel.2⟩
            case measure => simp [intOf]; omega
          · by_cases hm4 : n = 8 ∧ k % 8 = 4
            · have HW := fun W => Lib.hid (SubWord_spec (y.toNat : Int) W)
              simp only [w32_of] at HW
              have hGv : growW n k y = subW y := by rw [hm4.1]; exact growW_4 k y hm4.2
              rw [hGv] at hnx
              have e8 : ((n : Int) == 8) = true := beq_iff_eq.2 (by omega)
              have em8 : (k : Int).tmod 8 = 4 := by rw [Int.tmod_eq_emod_of_nonneg (by omega)]; omega
              obtain ⟨m, hm2⟩ : ∃ m, k % n = m := ⟨_, rfl⟩
              have em : (k : Int).tmod (n : Int) = (m : Int) := by rw [Int.tmod_eq_emod_of_nonneg (by omega), ← hm2]; rfl
              have hm3 : ((m : Int) == 0) = false := beq_eq_false_iff_ne.2 (by omega)
              have hml : (m : Int) ≤ 8 := by have := Nat.mod_lt k (show 0 < n by omega); omega
              generalize subW y = v at *
              have hX2 := i64_xor32 x v
              generalize x ^^^ v = t at *
              have HX := Lib.hid hnx
              have hv3 := w32_lt v
              have ht3 := w32_lt t
              clear hnx hGv hm hm4 hm2 hown hbel ha hb hnk hgB hkn
              go_wp2_with fail
              refine (H2 _).out.mono ?_; rintro e w' ⟨rfl, rfl⟩
              go_wp2_with fail
              refine (HW _).out.mono ?_; rintro e w4 ⟨rfl, hb4⟩
              have hca4 := (hb4.cell (p := ⟨g, a, none⟩) (by simpa using hg)).trans hca
              have HO4 := Lib.hid (own_below HOW.out hb4)
              have HB4 := Lib.hid (HBW.out.trans (hb4.mono HBW.out.size))
              clear hb4 hca hcb HOW HBW HW
              go_wp2_with (at_builtin; refine stp ?_)
              refine unstp ?_
              refine wpList_append_lies _ rfl (.tmp 63) (.tmp 72) 38 rfl w.heap.size 3 i0 (.int .i64 0) 1 8 Tryz.underlying38 hi hz0 hz1 hz2 rfl (by decide) (.slice (some ⟨g, 0, none⟩) k cap) k (cells64 (upTo (ewI s n) k)) rfl (HO4.out.alloc _) ⟨w4.heap.size, 0, none⟩ 1 1 [.int .i64 (t.toNat : Int)] rfl rfl (World.news_of_block (cs := #[.int .i64 (t.toNat : Int)]) (heap_alloc_new w4 _)) (by simp [Value.oneCell']) (by omega) (by unfold maxLen; omega) (by omega) (by have := HB4.out.size; simp; omega) (w4.heap.size + 1) (by simp) ?_
              intro g2 cap2 w5 hown5 hgrow hat hlt5
              have hrel := up_rel HX.out HO4.out HB4.out hown5 hgrow
              have hnk2 := HNK.out
              clear hown5 hgrow hat hlt5
              go_wp2
              go_roundw
              case rel => exact ⟨k + 1, by omega, by omega, by go_num, hrel.1, hrel.2⟩
              case measure => simp [intOf]; omega
            · have hGv : growW n k y = y := growW_x n k y hm hm4
              rw [hGv] at hnx
              obtain ⟨m, hm2⟩ : ∃ m, k % n = m := ⟨_, rfl⟩
              obtain ⟨m8, hm8⟩ : ∃ m, k % 8 = m := ⟨_, rfl⟩
              have em : (k : Int).tmod (n : Int) = (m : Int) := by rw [Int.tmod_eq_emod_of_nonneg (by omega), ← hm2]; rfl
              have em8 : (k : Int).tmod 8 = (m8 : Int) := by rw [Int.tmod_eq_emod_of_nonneg (by omega)]; omega
              have hm3 : ((m : Int) == 0) = false := beq_eq_false_iff_ne.2 (by omega)
              have hml : (m : Int) ≤ 8 := by have := Nat.mod_lt k (show 0 < n by omega); omega
              have hml8 : (m8 : Int) ≤ 8 := by omega
              have hX2 := i64_xor32 x y
              generalize x ^^^ y = t at *
              have HX := Lib.hid hnx
              have ht3 := w32_lt t
              by_cases h8n : n = 8
              · have e8 : ((n : Int) == 8) = true := beq_iff_eq.2 (by omega)
                have e84 : ((m8 : Int) == 4) = false := beq_eq_false_iff_ne.2 (by omega)
                clear hnx hGv hm hm4 hm2 hm8 hown hbel ha hb hnk hgB hkn h8n
                go_wp2_with fail
                refine (H2 _).out.mono ?_; rintro e w' ⟨rfl, rfl⟩
                go_wp2_with (at_builtin; refine stp ?_)
                refine unstp ?_
                refine wpList_append_lies _ rfl (.tmp 63) (.tmp 72) 38 rfl w.heap.size 3 i0 (.int .i64 0) 1 8 Tryz.underlying38 hi hz0 hz1 hz2 rfl (by decide) (.slice (some ⟨g, 0, none⟩) k cap) k (cells64 (upTo (ewI s n) k)) rfl (HOW.out.alloc _) ⟨wr.heap.size, 0, none⟩ 1 1 [.int .i64 (t.toNat : Int)] rfl rfl (World.news_of_block (cs := #[.int .i64 (t.toNat : Int)]) (heap_alloc_new wr _)) (by simp [Value.oneCell']) (by omega) (by unfold maxLen; omega) (by omega) (by have := HBW.out.size; simp; omega) (wr.heap.size + 1) (by simp) ?_
                intro g2 cap2 w5 hown5 hgrow hat hlt5
                have hrel := up_rel HX.out HOW.out HBW.out hown5 hgrow
                have hnk2 := HNK.out
                clear hown5 hgrow hat hlt5
                go_wp2
                go_roundw
                case rel => exact ⟨k + 1, by omega, by omega, by go_num, hrel.1, hrel.2⟩
                case measure => simp [intOf]; omega
              · have e8 : ((n : Int) == 8) = false := beq_eq_false_iff_ne.2 (by omega)
                clear hnx hGv hm hm4 hm2 hm8 hown hbel ha hb hnk hgB hkn h8n em8 hml8
                go_wp2_with fail
                refine (H2 _).out.mono ?_; rintro e w' ⟨rfl, rfl⟩
                go_wp2_with (at_builtin; refine stp ?_)
                refine unstp ?_
                refine wpList_append_lies _ rfl (.tmp 63) (.tmp 72) 38 rfl w.heap.size 3 i0 (.int .i64 0) 1 8 Tryz.underlying38 hi hz0 hz1 hz2 rfl (by decide) (.slice (some ⟨g, 0, none⟩) k cap) k (cells64 (upTo (ewI s n) k)) rfl (HOW.out.alloc _) ⟨wr.heap.size, 0, none⟩ 1 1 [.int .i64 (t.toNat : Int)] rfl rfl (World.news_of_block (cs := #[.int .i64 (t.toNat : Int)]) (heap_alloc_new wr _)) (by simp [Value.oneCell']) (by omega) (by unfold maxLen; omega) (by omega) (by have := HBW.out.size; simp; omega) (wr.heap.size + 1) (by simp) ?_
                intro g2 cap2 w5 hown5 hgrow hat hlt5
                have hrel := up_rel HX.out HOW.out HBW.out hown5 hgrow
                have hnk2 := HNK.out
                clear hown5 hgrow hat hlt5
                go_wp2
                go_roundw
                case rel => exact ⟨k + 1, by omega, by omega, by go_num, hrel.1, hrel.2⟩
                case measure => simp [intOf]; omega
        · obtain rfl : L = k := by omega
          obtain ⟨A', c', rfl, hnc, hcm⟩ := own_slice64 hown
          go_wp2_with fail
          refine (H2 _).out.mono ?_; rintro e w' ⟨rfl, rfl⟩
          go_wp2
          go_ret
          exact ⟨_, rfl, hown, hbel⟩
theorem Expand_spec (s : ByteArray) (w : World) :
    Calls Tryz.prog 78 #[.string s] w fun e w' => OwnInts w (exInts s) e w' := by
  by_cases h : kOk s
  · obtain ⟨n, hn⟩ := h.of
    refine (Expand_yes_spec s n hn w).mono fun e w' ⟨v, h1, h2, h3⟩ => ?_
    rw [exInts_of s n hn]
    have e : nums (upTo (ew s n) (kL n)) = upTo (ewI s n) (kL n) := by unfold nums ewI; rw [upTo_map]
    rw [e]
    exact ⟨v, h1, by rw [upTo_length]; exact h2, h3⟩
  · rw [exInts_no s h]
    have H1 := Lib.hid (ok_no_spec s h)
    clear h
    go_enter Tryz.func78, Tryz.ntmps78
    go_wp2_with fail
    refine (H1.out _).mono ?_; rintro e w' ⟨rfl, rfl⟩
    go_wp2
    go_ret
    exact ⟨_, rfl, World.ownsRow_lit w #[] 0 (Nat.le_refl _) (by simp [maxLen]) rfl, (Below.refl _ _).alloc (Nat.le_refl _) _⟩
end Go.Proofs.YtbfmbdohebdbaaaGreatDoor
set_option linter.unusedVariables false
namespace Go.Proofs.YtbfmbdohebdbaaaGreatDoor
open Go.RowKit

theorem rowW_size (f : Nat → UInt32) (k : Nat) : (⟨(rowW f k).toArray⟩ : ByteArray).size = 4 * k := by
  show (rowW f k).toArray.size = 4 * k
  induction k with
  | zero => rfl
  | succ k ih => rw [rowW_succ]; simp at ih ⊢; omega
theorem rowW_put (f : Nat → UInt32) (k : Nat) : (⟨(rowW f k).toArray⟩ : ByteArray) ++ putW (f k) = ⟨(rowW f (k + 1)).toArray⟩ := by
  rw [rowW_succ]
  apply ByteArray.ext
  simp [putW]
end Go.Proofs.YtbfmbdohebdbaaaGreatDoor
