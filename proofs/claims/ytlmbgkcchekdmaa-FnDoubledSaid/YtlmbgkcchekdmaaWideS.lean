/-
  What spec's Count and Doubled answer.
-/
import Derived.Test.YtlmbgkcchekdmaaWideMath
import Derived.Test.YtlmbgkcchekdmaaBRow
import Derived.Test.YtlmbgkcchekdmaaBase
import Derived.WalkKit
import Derived.LoopTactic
import Derived.OwnWalk
import Derived.WalkLawsBesides
import Derived.WalkSpells
import Derived.Outline
import Derived.Below
import Derived.IntWalk
import Derived.Laws.OwnMore
set_option linter.unusedVariables false
set_option linter.unusedSimpArgs false
namespace Go.Proofs.Ytlmbgkcchekdmaa
open Go.RowKit

/-- sixteen bytes, of which those from place m on are done. -/
def mixR (f h : Nat → UInt8) (m : Nat) : List UInt8 := upTo (fun i => if i < m then f i else h i) 16
theorem mixR_length (f h : Nat → UInt8) (m : Nat) : (mixR f h m).length = 16 := by simp [mixR, upTo_length]
theorem mixR_16 (s : ByteArray) (hs : s.size = 16) (h : Nat → UInt8) : s.data.toList = mixR (byteOf s) h 16 := by
  have h1 := congrArg (fun b => b.data.toList) (txt_own s 16 hs)
  have h2 : upTo (byteOf s) 16 = s.data.toList := by simpa [txt] using h1
  rw [← h2]
  exact upTo_congr _ _ 16 fun i hi => (if_pos hi).symm
theorem mixR_0 (f h : Nat → UInt8) : (⟨(mixR f h 0).toArray⟩ : ByteArray) = txt h 16 := by
  unfold mixR txt
  rw [upTo_congr _ h 16 fun i hi => if_neg (by omega)]
theorem mixR_at (f h : Nat → UInt8) (k : Nat) (hk : k < 16) (hl : k < (mixR f h (k + 1)).length) : (mixR f h (k + 1))[k] = f k := by
  have e : (mixR f h (k + 1))[k]? = some (f k) := by
    unfold mixR
    rw [upTo_at _ 16 k hk, if_pos (by omega)]
  rw [List.getElem?_eq_getElem hl] at e
  exact Option.some.inj e
theorem mixR_set (f h : Nat → UInt8) (k : Nat) (hk : k < 16) : (mixR f h (k + 1)).set k (h k) = mixR f h k := by
  apply List.ext_getElem?
  intro i
  unfold mixR
  rw [List.getElem?_set, upTo_length]
  by_cases hi : i < 16
  · rw [upTo_at _ 16 i hi, upTo_at _ 16 i hi]
    by_cases e : k = i
    · subst e; rw [if_pos rfl, if_pos hk, if_neg (by omega)]
    · rw [if_neg e]
      by_cases h2 : i < k
      · rw [if_pos (by omega), if_pos h2]
      · rw [if_neg (by omega), if_neg h2]
  · rw [if_neg (by omega), List.getElem?_eq_none (by rw [upTo_length]; omega), List.getElem?_eq_none (by rw [upTo_length]; omega)]
theorem row_step {wr : World} {g : Nat} {f h : Nat → UInt8} {k : Nat} (hk : k < 16) (hr : BRow wr g (mixR f h (k + 1))) :
    wr.cell? ⟨g, k, none⟩ = some (.int .u8 ((f k).toNat : Int)) ∧ wr.frozen? ⟨g, k, none⟩ = false ∧ BRow (wr.setCell ⟨g, k, none⟩ (.int .u8 ((h k).toNat : Int))) g (mixR f h k) := by
  have hl : k < (mixR f h (k + 1)).length := by rw [mixR_length]; exact hk
  refine ⟨?_, hr.free k hl, ?_⟩
  · rw [hr.cells k hl, mixR_at f h k hk hl]; rfl
  · have := hr.set k hl (h k)
    rwa [mixR_set f h k hk] at this
/-- what is counted up, byte by byte from the lowest. -/
theorem cnt_step (s : ByteArray) (n k : Nat) (hk : k < 16) :
    (n / 256 ^ (16 - (k + 1)) % 256 + (byteOf s k).toNat + carB (numB (byteOf s)) n (16 - (k + 1))) % 256 = (digB (numB (byteOf s) + n) k).toNat
    ∧ (n / 256 ^ (16 - (k + 1)) % 256 + (byteOf s k).toNat + carB (numB (byteOf s)) n (16 - (k + 1))) / 256 = carB (numB (byteOf s)) n (16 - k)
    ∧ n / 256 ^ (16 - (k + 1)) / 256 = n / 256 ^ (16 - k) := by
  have h1 := congrArg UInt8.toNat (dig_num (byteOf s) k hk)
  rw [digB_toNat] at h1
  have e : 16 - (k + 1) = 15 - k := by omega
  have e2 : 16 - k = (15 - k) + 1 := by omega
  rw [e, e2, ← h1]
  refine ⟨?_, ?_, ?_⟩
  · rw [digB_toNat, sum_dig]
  · rw [car_up]
  · rw [Nat.pow_succ, ← Nat.div_div_eq_div_mul]
set_option maxRecDepth 100000 in
set_option maxHeartbeats 1600000 in
theorem Count_yes_spec (s : ByteArray) (hs : s.size = 16) (n : Nat) (hn : n ≤ 9223372036854775807) (w : World) :
    Calls Try.prog 20 #[.string s, .int .i64 n] w fun e w' => e = .returned (.string (cntT s n)) ∧ Below w.heap.size w w' := by
  obtain ⟨cap, W, hconv, hrow, hbel⟩ := bytes_brow s w
  have hs2 : (s.size : Int) = 16 := by omega
  rw [hs] at hconv
  rw [mixR_16 s hs (digB (numB (byteOf s) + n))] at hrow
  have ST := fun k hk => Lib.hid (cnt_step s n k hk)
  have EN : Hid (∀ (V : World) (g c : Nat), BRow V g (mixR (byteOf s) (digB (numB (byteOf s) + n)) 0) → (convert 22 9 (.slice (some ⟨g, 0, none⟩) 16 c)).run Try.prog V = .ok (.string (cntT s n)) V) := Lib.hid (fun V g c h => by
    have h2 := h.conv (c := c) (mixR_length _ _ _)
    rw [mixR_0] at h2
    exact h2)
  have HC := fun j => Lib.hid (car_le (numB (byteOf s)) n j)
  have hc0 := car_0 (numB (byteOf s)) n
  have hp0 : n / 256 ^ 0 = n := by rw [Nat.pow_zero, Nat.div_one]
  have HPL : Hid (∀ j, n / 256 ^ j ≤ 9223372036854775807) := Lib.hid (fun j => Nat.le_trans (Nat.div_le_self _ _) hn)
  generalize cntT s n = R at *
  generalize digB (numB (byteOf s) + n) = H at *
  obtain ⟨C, hC⟩ : ∃ C : Nat → Nat, carB (numB (byteOf s)) n = C := ⟨_, rfl⟩
  obtain ⟨P, hP⟩ : ∃ P : Nat → Nat, (fun j => n / 256 ^ j) = P := ⟨_, rfl⟩
  have hPj : ∀ j, n / 256 ^ j = P j := fun j => congrFun hP j
  simp only [hC, hPj] at ST HC hc0 hp0 HPL
  generalize byteOf s = F at *
  have ROW := Lib.hid hrow
  have BEL := Lib.hid hbel
  have C0 := Lib.hid hc0
  have P0 := Lib.hid hp0
  have hn0 : (0 : Int) ≤ (n : Int) := by omega
  clear hrow hbel hc0 hp0 hC hP hPj hs hn
  go_enter Try.func20, Try.ntmps20
  go_wp2
  clear hconv
  go_loopw [1, 6, 7] (fun p c i wr => ∃ m : Nat, m ≤ 16 ∧ i = .int .i64 ((m : Int) - 1) ∧ p = .int .i64 (P (16 - m) : Nat) ∧ c = .int .i64 (C (16 - m) : Nat) ∧ BRow wr w.heap.size (mixR F H m) ∧ Below w.heap.size w wr) (fun _ _ i _ => (intOf i + 1).toNat)
  case atStart => exact ⟨16, by omega, rfl, by rw [Nat.sub_self, P0.out], by rw [Nat.sub_self, C0.out]; rfl, ROW.out, BEL.out⟩
  case round =>
    obtain ⟨m, hm, rfl, rfl, rfl, hr, hb⟩ := hrel
    cases m with
    | zero =>
      have hconv := EN.out _ _ cap hr
      have HB := Lib.hid hb
      clear hr hb
      go_wp2
      go_ret
      exact ⟨rfl, HB.out⟩
    | succ k =>
      obtain ⟨e1, e2, e3⟩ := (ST k (by omega)).out
      obtain ⟨hcell, hfr, hset⟩ := row_step (by omega) hr
      have hc1 := (HC (16 - (k + 1))).out
      have hpl := HPL.out (16 - (k + 1))
      rw [show (((k + 1 : Nat) : Int) - 1) = (k : Int) by omega]
      have hy := (F k).toNat_lt
      have hbs := hb.setCell (p := ⟨w.heap.size, k, none⟩) (Nat.le_refl _) (.int .u8 ((H k).toNat : Int))
      clear hr hb ST HC HPL EN
      generalize (F k).toNat = y at *
      generalize C (16 - (k + 1)) = c at *
      generalize P (16 - (k + 1)) = p at *
      rw [show ((H k).toNat : Int) = ((p : Int) % 256 + (y : Int) + (c : Int)) % 256 by omega] at hset hbs
      have HS := Lib.hid hset
      have HB := Lib.hid hbs
      have E2 : Hid (((p : Int) % 256 + (y : Int) + (c : Int)) / 256 = ((C (16 - k) : Nat) : Int)) := Lib.hid (by omega)
      have E3 : Hid ((p : Int) / 256 = ((P (16 - k) : Nat) : Int)) := Lib.hid (by omega)
      clear hset hbs e1 e2 e3
      have hk0 : (0 : Int) ≤ (k : Int) := by omega
      have hk1 : (k : Int) < 16 := by omega
      have hand : bits .and .i64 (p : Int) 255 = (p : Int) % 256 := i64_mask (p : Int) 8 (by omega)
      go_wp2
      go_roundw
      case rel => exact ⟨k, by omega, by go_num, val_i E3.out, val_i E2.out, HS.out, HB.out⟩
      case measure => simp [intOf]
/-- Count as the document tells it, or nothing. -/
def cntI (s : ByteArray) (n : Int) : ByteArray := if s.size = 16 ∧ 0 ≤ n then cntT s n.toNat else ⟨#[]⟩
theorem cntI_yes (s : ByteArray) (n : Nat) (h : s.size = 16) : cntI s (n : Int) = cntT s n := by unfold cntI; rw [if_pos ⟨h, by omega⟩, Int.toNat_natCast]
theorem cntI_no (s : ByteArray) (n : Int) (h : ¬ (s.size = 16 ∧ 0 ≤ n)) : cntI s n = ⟨#[]⟩ := if_neg h
set_option maxRecDepth 100000 in
set_option maxHeartbeats 1600000 in
theorem Count_no_spec (s : ByteArray) (n : Int) (h : ¬ (s.size = 16 ∧ 0 ≤ n)) (w : World) :
    Calls Try.prog 20 #[.string s, .int .i64 n] w fun e w' => e = .returned (.string ⟨#[]⟩) ∧ Below w.heap.size w w' := by
  by_cases hs : s.size = 16
  · have hs2 : (s.size : Int) = 16 := by omega
    have hn : n < 0 := by omega
    clear h hs
    go_enter Try.func20, Try.ntmps20
    go_wp2
    go_ret
    exact ⟨rfl, Below.refl _ _⟩
  · have hs2 : ¬ (s.size : Int) = 16 := by omega
    clear h hs
    go_enter Try.func20, Try.ntmps20
    go_wp2
    go_ret
    exact ⟨rfl, Below.refl _ _⟩
theorem Count_spec (s : ByteArray) (n : Int) (hn : n ≤ 9223372036854775807) (w : World) :
    Calls Try.prog 20 #[.string s, .int .i64 n] w fun e w' => e = .returned (.string (cntI s n)) ∧ Below w.heap.size w w' := by
  by_cases h : s.size = 16 ∧ 0 ≤ n
  · obtain ⟨k, rfl⟩ := Int.eq_ofNat_of_zero_le h.2
    rw [cntI_yes s k h.1]
    exact Count_yes_spec s h.1 k (by omega) w
  · rw [cntI_no s n h]; exact Count_no_spec s n h w
/-! ### Doubled -/
/-- a byte moved one place up, what comes in from below with it; nothing is turned yet. -/
def upF (f : Nat → UInt8) (k : Nat) : UInt8 := (f k <<< 1) ^^^ (if k < 15 then top8 (f (k + 1)) else 0)
/-- what goes out of the bytes from place m on. -/
def outF (f : Nat → UInt8) (m : Nat) : Nat := if m = 16 then 0 else (f m).toNat / 128
theorem outF_le (f : Nat → UInt8) (m : Nat) : outF f m ≤ 1 := by
  unfold outF
  have := (f m).toNat_lt
  split <;> omega
theorem up_step (f : Nat → UInt8) (k : Nat) (hk : k < 16) :
    (2 * (f k).toNat + outF f (k + 1)) % 256 = (upF f k).toNat ∧ (2 * (f k).toNat + outF f (k + 1)) / 256 = outF f k := by
  have hx := (f k).toNat_lt
  by_cases h : k < 15
  · have hy := (f (k + 1)).toNat_lt
    unfold upF outF
    rw [if_neg (by omega), if_pos h, if_neg (by omega), up_nat]
    omega
  · obtain rfl : k = 15 := by omega
    unfold upF outF
    rw [if_pos (by omega), if_neg (by omega), if_neg (by omega), UInt8.xor_zero, shl1_nat]
    omega
theorem or_one (x c : Nat) (hx : x < 256) (hc : c ≤ 1) : bits .or .i64 ((x : Int) * 2) (c : Int) = 2 * (x : Int) + (c : Int) := by
  have h := nat_or_add x c 1 (by omega)
  rw [Nat.pow_one] at h
  have e : (x : Int) * 2 = ((x * 2 : Nat) : Int) := by omega
  rw [e, i64_or_nat63 _ _ (by omega) (by omega), h]
  omega
theorem dbl_up0 (f : Nat → UInt8) (h : outF f 0 ≠ 1) : txt (upF f) 16 = txt (dblF f) 16 := by
  refine txt_ext _ _ 16 fun i hi => ?_
  have ht : ¬ top8 (f 0) = 1 := fun e => h (by
    unfold outF
    rw [if_neg (by omega), ← top8_nat, e]; rfl)
  unfold upF dblF
  by_cases h2 : i < 15
  · rw [if_pos h2, if_pos h2]
  · obtain rfl : i = 15 := by omega
    rw [if_neg (by omega), if_neg (by omega), if_neg ht]
theorem dbl_up1 (f : Nat → UInt8) (h : outF f 0 = 1) : (⟨((mixR f (upF f) 0).set 15 (upF f 15 ^^^ 135)).toArray⟩ : ByteArray) = txt (dblF f) 16 := by
  have ht : top8 (f 0) = 1 := by
    apply UInt8.toNat_inj.1
    rw [top8_nat]
    unfold outF at h
    rw [if_neg (by omega)] at h
    exact h
  have e : (mixR f (upF f) 0).set 15 (upF f 15 ^^^ 135) = upTo (dblF f) 16 := by
    apply List.ext_getElem?
    intro i
    unfold mixR
    rw [List.getElem?_set, upTo_length]
    by_cases hi : i < 16
    · rw [upTo_at _ 16 i hi, upTo_at _ 16 i hi]
      by_cases e : 15 = i
      · subst e
        rw [if_pos rfl, if_pos (by omega)]
        unfold upF dblF
        rw [if_neg (by omega), if_neg (by omega), if_pos ht, UInt8.xor_zero]
      · rw [if_neg e, if_neg (by omega)]
        unfold upF dblF
        rw [if_pos (by omega), if_pos (by omega)]
    · rw [if_neg (by omega), List.getElem?_eq_none (by rw [upTo_length]; omega), List.getElem?_eq_none (by rw [upTo_length]; omega)]
  rw [e]; rfl
theorem row_last {wr : World} {g : Nat} {f : Nat → UInt8} (hr : BRow wr g (mixR f (upF f) 0)) :
    wr.cell? ⟨g, 15, none⟩ = some (.int .u8 ((upF f 15).toNat : Int)) ∧ wr.frozen? ⟨g, 15, none⟩ = false ∧ BRow (wr.setCell ⟨g, 15, none⟩ (.int .u8 ((upF f 15 ^^^ 135).toNat : Int))) g ((mixR f (upF f) 0).set 15 (upF f 15 ^^^ 135)) := by
  have hl : 15 < (mixR f (upF f) 0).length := by rw [mixR_length]; omega
  refine ⟨?_, hr.free 15 hl, hr.set 15 hl _⟩
  rw [hr.cells 15 hl]
  have e : (mixR f (upF f) 0)[15]? = some (upF f 15) := by
    unfold mixR
    rw [upTo_at _ 16 15 (by omega), if_neg (by omega)]
  rw [List.getElem?_eq_getElem hl] at e
  rw [Option.some.inj e]; rfl
set_option maxRecDepth 100000 in
set_option maxHeartbeats 1600000 in
theorem Doubled_yes_spec (s : ByteArray) (hs : s.size = 16) (w : World) :
    Calls Try.prog 24 #[.string s] w fun e w' => e = .returned (.string (dblT s)) ∧ Below w.heap.size w w' := by
  obtain ⟨cap, W, hconv, hrow, hbel⟩ := bytes_brow s w
  have hs2 : (s.size : Int) = 16 := by omega
  rw [hs] at hconv
  rw [mixR_16 s hs (upF (byteOf s))] at hrow
  have ST := fun k hk => Lib.hid (up_step (byteOf s) k hk)
  have E0 : Hid (outF (byteOf s) 0 ≠ 1 → ∀ (V : World) (g c : Nat), BRow V g (mixR (byteOf s) (upF (byteOf s)) 0) → (convert 22 9 (.slice (some ⟨g, 0, none⟩) 16 c)).run Try.prog V = .ok (.string (dblT s)) V) := Lib.hid (fun h0 V g c h => by
    have h2 := h.conv (c := c) (mixR_length _ _ _)
    rw [mixR_0, dbl_up0 _ h0] at h2
    exact h2)
  have E1 : Hid (outF (byteOf s) 0 = 1 → ∀ (V : World) (g c : Nat), BRow V g ((mixR (byteOf s) (upF (byteOf s)) 0).set 15 (upF (byteOf s) 15 ^^^ 135)) → (convert 22 9 (.slice (some ⟨g, 0, none⟩) 16 c)).run Try.prog V = .ok (.string (dblT s)) V) := Lib.hid (fun h0 V g c h => by
    have h2 := h.conv (S := 16) (c := c) (by rw [List.length_set, mixR_length])
    rw [dbl_up1 _ h0] at h2
    exact h2)
  have HC := fun j => Lib.hid (outF_le (byteOf s) j)
  have C0 : Hid (outF (byteOf s) 16 = 0) := Lib.hid (if_pos rfl)
  generalize dblT s = R at *
  have ROW := Lib.hid hrow
  have BEL := Lib.hid hbel
  have HS := Lib.hid hs
  clear hrow hbel hs
  go_enter Try.func24, Try.ntmps24
  go_wp2
  clear hconv
  go_loopw [4, 5] (fun c i wr => ∃ m : Nat, m ≤ 16 ∧ i = .int .i64 ((m : Int) - 1) ∧ c = .int .i64 (outF (byteOf s) m : Nat) ∧ BRow wr w.heap.size (mixR (byteOf s) (upF (byteOf s)) m) ∧ Below w.heap.size w wr) (fun _ i _ => (intOf i + 1).toNat)
  case atStart => exact ⟨16, by omega, rfl, by rw [C0.out]; rfl, ROW.out, BEL.out⟩
  case round =>
    obtain ⟨m, hm, rfl, rfl, hr, hb⟩ := hrel
    cases m with
    | zero =>
      by_cases h0 : outF (byteOf s) 0 = 1
      · have hconv := E1.out h0
        obtain ⟨hcell, hfr, hset⟩ := row_last hr
        have hbs := hb.setCell (p := ⟨w.heap.size, 15, none⟩) (Nat.le_refl _) (.int .u8 ((upF (byteOf s) 15 ^^^ 135).toNat : Int))
        have hcv := hconv _ _ cap hset
        have hx : bits .xor .u8 ((upF (byteOf s) 15).toNat : Int) 135 = ((upF (byteOf s) 15 ^^^ 135).toNat : Int) := u8_xor_bytes (upF (byteOf s) 15) 135
        rw [h0]
        have hy := (upF (byteOf s) 15).toNat_lt
        have HB := Lib.hid hbs
        clear hr hb hset hconv hbs E0 E1 ST HC
        generalize upF (byteOf s) 15 ^^^ 135 = z at *
        generalize (upF (byteOf s) 15).toNat = y at *
        go_wp2
        go_ret
        exact ⟨rfl, HB.out⟩
      · have hconv := E0.out h0 _ _ cap hr
        have h1 : ¬ ((outF (byteOf s) 0 : Nat) : Int) = 1 := by omega
        have HB := Lib.hid hb
        clear hr hb E0 E1 ST HC h0
        generalize outF (byteOf s) 0 = c at *
        go_wp2
        go_ret
        exact ⟨rfl, HB.out⟩
    | succ k =>
      obtain ⟨e1, e2⟩ := (ST k (by omega)).out
      obtain ⟨hcell, hfr, hset⟩ := row_step (by omega) hr
      have hc1 := (HC (k + 1)).out
      rw [show (((k + 1 : Nat) : Int) - 1) = (k : Int) by omega]
      have hy := (byteOf s k).toNat_lt
      have hbs := hb.setCell (p := ⟨w.heap.size, k, none⟩) (Nat.le_refl _) (.int .u8 ((upF (byteOf s) k).toNat : Int))
      have hix : ∀ V : World, (Instr.index 9 (.string s) (.int .i64 (k : Int))).run Try.prog V = .ok (.int .u8 ((byteOf s k).toNat : Int)) V := fun V => by
        have hsz := HS.out
        have h2 : k < s.size := by omega
        rw [run_index_string V 9 s .i64 _ Try.underlying9, dif_pos (by omega)]
        simp only [Int.toNat_natCast]
        rw [byteOf_at s k h2]
      have hor := or_one (byteOf s k).toNat (outF (byteOf s) (k + 1)) hy hc1
      clear hr hb ST HC E0 E1
      generalize (byteOf s k).toNat = y at *
      generalize outF (byteOf s) (k + 1) = c at *
      rw [show ((upF (byteOf s) k).toNat : Int) = (2 * (y : Int) + (c : Int)) % 256 by omega] at hset hbs
      have HSET := Lib.hid hset
      have HB := Lib.hid hbs
      have E2 : Hid ((2 * (y : Int) + (c : Int)) / 256 = ((outF (byteOf s) k : Nat) : Int)) := Lib.hid (by omega)
      clear hset hbs e1 e2
      have hk0 : (0 : Int) ≤ (k : Int) := by omega
      have hk1 : (k : Int) < 16 := by omega
      go_wp2
      go_roundw
      case rel => exact ⟨k, by omega, by go_num, val_i E2.out, HSET.out, HB.out⟩
      case measure => simp [intOf]
set_option maxRecDepth 100000 in
theorem Doubled_no_spec (s : ByteArray) (hs : ¬ s.size = 16) (w : World) :
    Calls Try.prog 24 #[.string s] w fun e w' => e = .returned (.string ⟨#[]⟩) ∧ Below w.heap.size w w' := by
  have hs2 : ¬ (s.size : Int) = 16 := by omega
  clear hs
  go_enter Try.func24, Try.ntmps24
  go_wp2
  go_ret
  exact ⟨rfl, Below.refl _ _⟩
/-- Doubled as the document tells it, or nothing. -/
def dblI (s : ByteArray) : ByteArray := if s.size = 16 then dblT s else ⟨#[]⟩
theorem dblI_yes (s : ByteArray) (h : s.size = 16) : dblI s = dblT s := if_pos h
theorem dblI_no (s : ByteArray) (h : ¬ s.size = 16) : dblI s = ⟨#[]⟩ := if_neg h
theorem Doubled_spec (s : ByteArray) (w : World) :
    Calls Try.prog 24 #[.string s] w fun e w' => e = .returned (.string (dblI s)) ∧ Below w.heap.size w w' := by
  by_cases h : s.size = 16
  · rw [dblI_yes s h]; exact Doubled_yes_spec s h w
  · rw [dblI_no s h]; exact Doubled_no_spec s h w
end Go.Proofs.Ytlmbgkcchekdmaa
