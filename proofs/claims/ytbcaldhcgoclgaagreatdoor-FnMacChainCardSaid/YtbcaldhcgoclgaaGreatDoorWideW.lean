/-
  Contracts and facts that the laws of this seat use: BRow, WideS, WideI.
-/
import Derived.Test.YtbcaldhcgoclgaaGreatDoorBase
import Derived.Test.YtbcaldhcgoclgaaGreatDoorPure
import Derived.Test.YtbcaldhcgoclgaaGreatDoorDraws
import Derived.Lib.SlBytesRow
import Derived.Test.YtbcaldhcgoclgaaGreatDoorNums
import Derived.WalkKit
import Derived.LoopTactic
import Derived.OwnWalk
import Derived.WalkLawsBesides
import Derived.WalkSpells
import Derived.Outline
import Derived.Below
import Derived.IntWalk
import Derived.Laws.OwnMore
import Derived.Test.YtbcaldhcgoclgaaGreatDoorWord
import Derived.Test.YtbcaldhcgoclgaaGreatDoorKey
import Derived.Deep.QuietTactic
import Derived.BigQuiet
import Derived.Laws.Externs
import Derived.Laws.CopyOwn
import Derived.Deep.WholeRow
import Derived.Great.Walk
import Derived.Laws.BitsAllLaws
set_option linter.unusedVariables false
set_option linter.unusedSimpArgs false
namespace Go.Proofs.YtbcaldhcgoclgaaGreatDoor
open Go.RowKit

/-- bytes of the call's own, made of a text: their cells can be read and written. -/
structure BRow (w : World) (g : Nat) (l : List UInt8) : Prop where
  lt : g < w.heap.size
  cells : ∀ j (h : j < l.length), w.cell? ⟨g, j, none⟩ = some (cell8 l[j])
  free : ∀ j, j < l.length → w.frozen? ⟨g, j, none⟩ = false
theorem BRow.below {w w' : World} {g : Nat} {l : List UInt8} (h : BRow w g l) (hb : Below w.heap.size w w') : BRow w' g l :=
  ⟨Nat.lt_of_lt_of_le h.lt hb.size, fun j hj => (hb.cell (p := ⟨g, j, none⟩) h.lt).trans (h.cells j hj), fun j hj => (hb.frozen (p := ⟨g, j, none⟩) h.lt).trans (h.free j hj)⟩
theorem BRow.drewN {w : World} {g : Nat} {l : List UInt8} (h : BRow w g l) (k : Nat) : BRow (w.drewN k) g l := ⟨h.lt, h.cells, h.free⟩
theorem BRow.set {w : World} {g : Nat} {l : List UInt8} (h : BRow w g l) (q : Nat) (hq : q < l.length) (x : UInt8) : BRow (w.setCell ⟨g, q, none⟩ (cell8 x)) g (l.set q x) := by
  refine ⟨by simpa [World.setCell] using h.lt, fun j hj => ?_, fun j hj => ?_⟩
  · have hj2 : j < l.length := by simpa using hj
    by_cases e : q = j
    · subst e
      rw [World.cell?_setCell_same _ _ _ (h.cells q hj2)]
      simp
    · rw [World.cell?_setCell_other (h := by intro h2; injection h2; omega), h.cells j hj2]
      simp [List.getElem_set, e]
  · rw [World.frozen?_setCell]; exact h.free j (by simpa using hj)
theorem BRow.conv {w : World} {g S c : Nat} {l : List UInt8} (h : BRow w g l) (hS : l.length = S) : (convert 22 9 (.slice (some ⟨g, 0, none⟩) S c)).run Tryz.prog w = .ok (.string ⟨l.toArray⟩) w := by
  subst hS
  refine run_convert_bytes_back (P := Tryz.prog) w 22 9 5 ⟨g, 0, none⟩ c l Tryz.underlying22 Tryz.underlying5 Tryz.underlying9 (fun j hj => ?_)
  rw [show (⟨g, 0, none⟩ : Addr).add j = ⟨g, j, none⟩ by unfold Addr.add; split <;> simp_all]
  exact h.cells j hj
theorem bytes_brow (s : ByteArray) (w : World) :
    ∃ cap w2, (convert 9 22 (.string s)).run Tryz.prog w = .ok (.slice (some ⟨w.heap.size, 0, none⟩) s.size cap) w2 ∧ BRow w2 w.heap.size s.data.toList ∧ Below w.heap.size w w2 := by
  refine ⟨_, _, run_bytes_of_string (P := Tryz.prog) w 9 22 5 s Tryz.underlying9 Tryz.underlying22 Tryz.underlying5, ⟨by simp, fun j hj => ?_, fun j hj => ?_⟩, ((Below.refl _ _).drew).alloc (Nat.le_refl _) _⟩
  · have hj2 : j < s.data.size := by simpa using hj
    refine (World.cell?_alloc_mark w.drew _ _ _ j).trans ?_
    rw [bytesRow_at _ _ _ hj2]; rfl
  · have hj2 : j < s.data.size := by simpa using hj
    refine (World.frozen?_alloc_mark w.drew _ _ _ _ j).trans ?_
    have hb : s.data.size ≤ (bytesRow s (grownCap w s.size 0 5)).size := by unfold bytesRow; rw [Array.size_append, Array.size_map]; omega
    have hb2 : ¬ (bytesRow s (grownCap w s.size 0 5)).size ≤ j := by omega
    simp [hb2]
/-- a byte of the code, or a number told by its place and the code's length: the same in every world to come. -/
theorem at_fix (i : Nat) (hi : i ≤ 1000) (w : World) (A : Option Addr) (len cap : Nat) (h : CodeAt w w.heap.size A len) (hl : len ≤ 1048576) :
    ∃ x : Nat, x < 256 ∧ ∀ W, Below w.heap.size w W → Calls Tryz.prog 26 #[.slice A len cap, .int .i64 i] W fun e w' => e = .returned (.int .i64 x) ∧ w' = W := by
  by_cases hlt : i < len
  · obtain ⟨b, o, x, rfl, hb, hx, hcell⟩ := h i hlt
    refine ⟨x, hx, fun W hW => ?_⟩
    have hcell2 := (hW.cell (p := ⟨b, o + i, none⟩) hb).trans hcell
    have h0 : (0 : Int) ≤ (i : Int) := by omega
    have h1 : (i : Int) < (len : Int) := by omega
    clear hW hcell h
    go_enter Tryz.func26, Tryz.ntmps26
    go_wp2
    go_ret
    exact ⟨rfl, rfl⟩
  · refine ⟨(i * 7 + len) % 256, by omega, fun W hW => ?_⟩
    have h1 : ¬ (i : Int) < (len : Int) := by omega
    clear hW h
    go_enter Tryz.func26, Tryz.ntmps26
    go_wp2
    go_ret
    exact ⟨(congrArg (fun v => Ending.returned (.int .i64 v)) (show (((i * 7 + len) % 256 : Nat) : Int) = ((i : Int) * 7 + (len : Int)) % 256 by omega)).symm, rfl⟩
end Go.Proofs.YtbcaldhcgoclgaaGreatDoor
set_option linter.unusedVariables false
set_option linter.unusedSimpArgs false
namespace Go.Proofs.YtbcaldhcgoclgaaGreatDoor
open Go.RowKit

/-- sixteen bytes, of which those from place m on are done. -/
def mixR (f h : Nat → UInt8) (m : Nat) : List UInt8 := upTo (fun i => if i < m then f i else h i) 16
theorem mixR_length (f h : Nat → UInt8) (m : Nat) : (mixR f h m).length = 16 := by simp [mixR, upTo_length]
theorem mixR_16 (s : ByteArray) (hs : s.size = 16) (h : Nat → UInt8) : s.data.toList = mixR (byteOf s) h 16 := by
  have h1 := congrArg (fun b => b.data.toList) (txt_own s 16 hs)
  have h2 : upTo (byteOf s) 16 = s.data.toList := by simpa [txt] using h1
  rw [← h2]
  exact upTo_congr _ _ 16 fun i hi => (if_pos hi).symm
theorem mixR_0 (f h : Nat → UInt8) : (⟨(mixR f h 0).toArray⟩ : ByteArray) = txt h 16 := by
  unfold mixR txt
  rw [upTo_congr _ h 16 fun i hi => if_neg (by omega)]
theorem mixR_at (f h : Nat → UInt8) (k : Nat) (hk : k < 16) (hl : k < (mixR f h (k + 1)).length) : (mixR f h (k + 1))[k] = f k := by
  have e : (mixR f h (k + 1))[k]? = some (f k) := by
    unfold mixR
    rw [upTo_at _ 16 k hk, if_pos (by omega)]
  rw [List.getElem?_eq_getElem hl] at e
  exact Option.some.inj e
theorem mixR_set (f h : Nat → UInt8) (k : Nat) (hk : k < 16) : (mixR f h (k + 1)).set k (h k) = mixR f h k := by
  apply List.ext_getElem?
  intro i
  unfold mixR
  rw [List.getElem?_set, upTo_length]
  by_cases hi : i < 16
  · rw [upTo_at _ 16 i hi, upTo_at _ 16 i hi]
    by_cases e : k = i
    · subst e; rw [if_pos rfl, if_pos hk, if_neg (by omega)]
    · rw [if_neg e]
      by_cases h2 : i < k
      · rw [if_pos (by omega), if_pos h2]
      · rw [if_neg (by omega), if_neg h2]
  · rw [if_neg (by omega), List.getElem?_eq_none (by rw [upTo_length]; omega), List.getElem?_eq_none (by rw [upTo_length]; omega)]
theorem row_step {wr : World} {g : Nat} {f h : Nat → UInt8} {k : Nat} (hk : k < 16) (hr : BRow wr g (mixR f h (k + 1))) :
    wr.cell? ⟨g, k, none⟩ = some (.int .u8 ((f k).toNat : Int)) ∧ wr.frozen? ⟨g, k, none⟩ = false ∧ BRow (wr.setCell ⟨g, k, none⟩ (.int .u8 ((h k).toNat : Int))) g (mixR f h k) := by
  have hl : k < (mixR f h (k + 1)).length := by rw [mixR_length]; exact hk
  refine ⟨?_, hr.free k hl, ?_⟩
  · rw [hr.cells k hl, mixR_at f h k hk hl]; rfl
  · have := hr.set k hl (h k)
    rwa [mixR_set f h k hk] at this
/-- what is counted up, byte by byte from the lowest. -/
theorem cnt_step (s : ByteArray) (n k : Nat) (hk : k < 16) :
    (n / 256 ^ (16 - (k + 1)) % 256 + (byteOf s k).toNat + carB (numB (byteOf s)) n (16 - (k + 1))) % 256 = (digB (numB (byteOf s) + n) k).toNat
    ∧ (n / 256 ^ (16 - (k + 1)) % 256 + (byteOf s k).toNat + carB (numB (byteOf s)) n (16 - (k + 1))) / 256 = carB (numB (byteOf s)) n (16 - k)
    ∧ n / 256 ^ (16 - (k + 1)) / 256 = n / 256 ^ (16 - k) := by
  have h1 := congrArg UInt8.toNat (dig_num (byteOf s) k hk)
  rw [digB_toNat] at h1
  have e : 16 - (k + 1) = 15 - k := by omega
  have e2 : 16 - k = (15 - k) + 1 := by omega
  rw [e, e2, ← h1]
  refine ⟨?_, ?_, ?_⟩
  · rw [digB_toNat, sum_dig]
  · rw [car_up]
  · rw [Nat.pow_succ, ← Nat.div_div_eq_div_mul]
set_option maxRecDepth 100000 in
set_option maxHeartbeats 1600000 in
theorem Count_yes_spec (s : ByteArray) (hs : s.size = 16) (n : Nat) (hn : n ≤ 9223372036854775807) (w : World) :
    Calls Tryz.prog 63 #[.string s, .int .i64 n] w fun e w' => e = .returned (.string (cntT s n)) ∧ Below w.heap.size w w' := by
  obtain ⟨cap, W, hconv, hrow, hbel⟩ := bytes_brow s w
  have hs2 : (s.size : Int) = 16 := by omega
  rw [hs] at hconv
  rw [mixR_16 s hs (digB (numB (byteOf s) + n))] at hrow
  have ST := fun k hk => Lib.hid (cnt_step s n k hk)
  have EN : Hid (∀ (V : World) (g c : Nat), BRow V g (mixR (byteOf s) (digB (numB (byteOf s) + n)) 0) → (convert 22 9 (.slice (some ⟨g, 0, none⟩) 16 c)).run Tryz.prog V = .ok (.string (cntT s n)) V) := Lib.hid (fun V g c h => by
    have h2 := h.conv (c := c) (mixR_length _ _ _)
    rw [mixR_0] at h2
    exact h2)
  have HC := fun j => Lib.hid (car_le (numB (byteOf s)) n j)
  have hc0 := car_0 (numB (byteOf s)) n
  have hp0 : n / 256 ^ 0 = n := by rw [Nat.pow_zero, Nat.div_one]
  have HPL : Hid (∀ j, n / 256 ^ j ≤ 9223372036854775807) := Lib.hid (fun j => Nat.le_trans (Nat.div_le_self _ _) hn)
  generalize cntT s n = R at *
  generalize digB (numB (byteOf s) + n) = H at *
  obtain ⟨C, hC⟩ : ∃ C : Nat → Nat, carB (numB (byteOf s)) n = C := ⟨_, rfl⟩
  obtain ⟨P, hP⟩ : ∃ P : Nat → Nat, (fun j => n / 256 ^ j) = P := ⟨_, rfl⟩
  have hPj : ∀ j, n / 256 ^ j = P j := fun j => congrFun hP j
  simp only [hC, hPj] at ST HC hc0 hp0 HPL
  generalize byteOf s = F at *
  have ROW := Lib.hid hrow
  have BEL := Lib.hid hbel
  have C0 := Lib.hid hc0
  have P0 := Lib.hid hp0
  have hn0 : (0 : Int) ≤ (n : Int) := by omega
  clear hrow hbel hc0 hp0 hC hP hPj hs hn
  go_enter Tryz.func63, Tryz.ntmps63
  go_wp2
  clear hconv
  go_loopw [1, 6, 7] (fun p c i wr => ∃ m : Nat, m ≤ 16 ∧ i = .int .i64 ((m : Int) - 1) ∧ p = .int .i64 (P (16 - m) : Nat) ∧ c = .int .i64 (C (16 - m) : Nat) ∧ BRow wr w.heap.size (mixR F H m) ∧ Below w.heap.size w wr) (fun _ _ i _ => (intOf i + 1).toNat)
  case atStart => exact ⟨16, by omega, rfl, by rw [Nat.sub_self, P0.out], by rw [Nat.sub_self, C0.out]; rfl, ROW.out, BEL.out⟩
  case round =>
    obtain ⟨m, hm, rfl, rfl, rfl, hr, hb⟩ := hrel
    cases m with
    | zero =>
      have hconv := EN.out _ _ cap hr
      have HB := Lib.hid hb
      clear hr hb
      go_wp2
      go_ret
      exact ⟨rfl, HB.out⟩
    | succ k =>
      obtain ⟨e1, e2, e3⟩ := (ST k (by omega)).out
      obtain ⟨hcell, hfr, hset⟩ := row_step (by omega) hr
      have hc1 := (HC (16 - (k + 1))).out
      have hpl := HPL.out (16 - (k + 1))
      rw [show (((k + 1 : Nat) : Int) - 1) = (k : Int) by omega]
      have hy := (F k).toNat_lt
      have hbs := hb.setCell (p := ⟨w.heap.size, k, none⟩) (Nat.le_refl _) (.int .u8 ((H k).toNat : Int))
      clear hr hb ST HC HPL EN
      generalize (F k).toNat = y at *
      generalize C (16 - (k + 1)) = c at *
      generalize P (16 - (k + 1)) = p at *
      rw [show ((H k).toNat : Int) = ((p : Int) % 256 + (y : Int) + (c : Int)) % 256 by omega] at hset hbs
      have HS := Lib.hid hset
      have HB := Lib.hid hbs
      have E2 : Hid (((p : Int) % 256 + (y : Int) + (c : Int)) / 256 = ((C (16 - k) : Nat) : Int)) := Lib.hid (by omega)
      have E3 : Hid ((p : Int) / 256 = ((P (16 - k) : Nat) : Int)) := Lib.hid (by omega)
      clear hset hbs e1 e2 e3
      have hk0 : (0 : Int) ≤ (k : Int) := by omega
      have hk1 : (k : Int) < 16 := by omega
      have hand : bits .and .i64 (p : Int) 255 = (p : Int) % 256 := i64_mask (p : Int) 8 (by omega)
      go_wp2
      go_roundw
      case rel => exact ⟨k, by omega, by go_num, val_i E3.out, val_i E2.out, HS.out, HB.out⟩
      case measure => simp [intOf]
/-- Count as the document tells it, or nothing. -/
def cntI (s : ByteArray) (n : Int) : ByteArray := if s.size = 16 ∧ 0 ≤ n then cntT s n.toNat else ⟨#[]⟩
theorem cntI_yes (s : ByteArray) (n : Nat) (h : s.size = 16) : cntI s (n : Int) = cntT s n := by unfold cntI; rw [if_pos ⟨h, by omega⟩, Int.toNat_natCast]
theorem cntI_no (s : ByteArray) (n : Int) (h : ¬ (s.size = 16 ∧ 0 ≤ n)) : cntI s n = ⟨#[]⟩ := if_neg h
set_option maxRecDepth 100000 in
set_option maxHeartbeats 1600000 in
theorem Count_no_spec (s : ByteArray) (n : Int) (h : ¬ (s.size = 16 ∧ 0 ≤ n)) (w : World) :
    Calls Tryz.prog 63 #[.string s, .int .i64 n] w fun e w' => e = .returned (.string ⟨#[]⟩) ∧ Below w.heap.size w w' := by
  by_cases hs : s.size = 16
  · have hs2 : (s.size : Int) = 16 := by omega
    have hn : n < 0 := by omega
    clear h hs
    go_enter Tryz.func63, Tryz.ntmps63
    go_wp2
    go_ret
    exact ⟨rfl, Below.refl _ _⟩
  · have hs2 : ¬ (s.size : Int) = 16 := by omega
    clear h hs
    go_enter Tryz.func63, Tryz.ntmps63
    go_wp2
    go_ret
    exact ⟨rfl, Below.refl _ _⟩
theorem Count_spec (s : ByteArray) (n : Int) (hn : n ≤ 9223372036854775807) (w : World) :
    Calls Tryz.prog 63 #[.string s, .int .i64 n] w fun e w' => e = .returned (.string (cntI s n)) ∧ Below w.heap.size w w' := by
  by_cases h : s.size = 16 ∧ 0 ≤ n
  · obtain ⟨k, rfl⟩ := Int.eq_ofNat_of_zero_le h.2
    rw [cntI_yes s k h.1]
    exact Count_yes_spec s h.1 k (by omega) w
  · rw [cntI_no s n h]; exact Count_no_spec s n h w
/-! ### Doubled -/
/-- a byte moved one place up, what comes in from below with it; nothing is turned yet. -/
def upF (f : Nat → UInt8) (k : Nat) : UInt8 := (f k <<< 1) ^^^ (if k < 15 then top8 (f (k + 1)) else 0)
/-- what goes out of the bytes from place m on. -/
def outF (f : Nat → UInt8) (m : Nat) : Nat := if m = 16 then 0 else (f m).toNat / 128
theorem outF_le (f : Nat → UInt8) (m : Nat) : outF f m ≤ 1 := by
  unfold outF
  have := (f m).toNat_lt
  split <;> omega
theorem up_step (f : Nat → UInt8) (k : Nat) (hk : k < 16) :
    (2 * (f k).toNat + outF f (k + 1)) % 256 = (upF f k).toNat ∧ (2 * (f k).toNat + outF f (k + 1)) / 256 = outF f k := by
  have hx := (f k).toNat_lt
  by_cases h : k < 15
  · have hy := (f (k + 1)).toNat_lt
    unfold upF outF
    rw [if_neg (by omega), if_pos h, if_neg (by omega), up_nat]
    omega
  · obtain rfl : k = 15 := by omega
    unfold upF outF
    rw [if_pos (by omega), if_neg (by omega), if_neg (by omega), UInt8.xor_zero, shl1_nat]
    omega
theorem or_one (x c : Nat) (hx : x < 256) (hc : c ≤ 1) : bits .or .i64 ((x : Int) * 2) (c : Int) = 2 * (x : Int) + (c : Int) := by
  have h := nat_or_add x c 1 (by omega)
  rw [Nat.pow_one] at h
  have e : (x : Int) * 2 = ((x * 2 : Nat) : Int) := by omega
  rw [e, i64_or_nat63 _ _ (by omega) (by omega), h]
  omega
theorem dbl_up0 (f : Nat → UInt8) (h : outF f 0 ≠ 1) : txt (upF f) 16 = txt (dblF f) 16 := by
  refine txt_ext _ _ 16 fun i hi => ?_
  have ht : ¬ top8 (f 0) = 1 := fun e => h (by
    unfold outF
    rw [if_neg (by omega), ← top8_nat, e]; rfl)
  unfold upF dblF
  by_cases h2 : i < 15
  · rw [if_pos h2, if_pos h2]
  · obtain rfl : i = 15 := by omega
    rw [if_neg (by omega), if_neg (by omega), if_neg ht]
theorem dbl_up1 (f : Nat → UInt8) (h : outF f 0 = 1) : (⟨((mixR f (upF f) 0).set 15 (upF f 15 ^^^ 135)).toArray⟩ : ByteArray) = txt (dblF f) 16 := by
  have ht : top8 (f 0) = 1 := by
    apply UInt8.toNat_inj.1
    rw [top8_nat]
    unfold outF at h
    rw [if_neg (by omega)] at h
    exact h
  have e : (mixR f (upF f) 0).set 15 (upF f 15 ^^^ 135) = upTo (dblF f) 16 := by
    apply List.ext_getElem?
    intro i
    unfold mixR
    rw [List.getElem?_set, upTo_length]
    by_cases hi : i < 16
    · rw [upTo_at _ 16 i hi, upTo_at _ 16 i hi]
      by_cases e : 15 = i
      · subst e
        rw [if_pos rfl, if_pos (by omega)]
        unfold upF dblF
        rw [if_neg (by omega), if_neg (by omega), if_pos ht, UInt8.xor_zero]
      · rw [if_neg e, if_neg (by omega)]
        unfold upF dblF
        rw [if_pos (by omega), if_pos (by omega)]
    · rw [if_neg (by omega), List.getElem?_eq_none (by rw [upTo_length]; omega), List.getElem?_eq_none (by rw [upTo_length]; omega)]
  rw [e]; rfl
theorem row_last {wr : World} {g : Nat} {f : Nat → UInt8} (hr : BRow wr g (mixR f (upF f) 0)) :
    wr.cell? ⟨g, 15, none⟩ = some (.int .u8 ((upF f 15).toNat : Int)) ∧ wr.frozen? ⟨g, 15, none⟩ = false ∧ BRow (wr.setCell ⟨g, 15, none⟩ (.int .u8 ((upF f 15 ^^^ 135).toNat : Int))) g ((mixR f (upF f) 0).set 15 (upF f 15 ^^^ 135)) := by
  have hl : 15 < (mixR f (upF f) 0).length := by rw [mixR_length]; omega
  refine ⟨?_, hr.free 15 hl, hr.set 15 hl _⟩
  rw [hr.cells 15 hl]
  have e : (mixR f (upF f) 0)[15]? = some (upF f 15) := by
    unfold mixR
    rw [upTo_at _ 16 15 (by omega), if_neg (by omega)]
  rw [List.getElem?_eq_getElem hl] at e
  rw [Option.some.inj e]; rfl
set_option maxRecDepth 100000 in
set_option maxHeartbeats 1600000 in
theorem Doubled_yes_spec (s : ByteArray) (hs : s.size = 16) (w : World) :
    Calls Tryz.prog 46 #[.string s] w fun e w' => e = .returned (.string (dblT s)) ∧ Below w.heap.size w w' := by
  obtain ⟨cap, W, hconv, hrow, hbel⟩ := bytes_brow s w
  have hs2 : (s.size : Int) = 16 := by omega
  rw [hs] at hconv
  rw [mixR_16 s hs (upF (byteOf s))] at hrow
  have ST := fun k hk => Lib.hid (up_step (byteOf s) k hk)
  have E0 : Hid (outF (byteOf s) 0 ≠ 1 → ∀ (V : World) (g c : Nat), BRow V g (mixR (byteOf s) (upF (byteOf s)) 0) → (convert 22 9 (.slice (some ⟨g, 0, none⟩) 16 c)).run Tryz.prog V = .ok (.string (dblT s)) V) := Lib.hid (fun h0 V g c h => by
    have h2 := h.conv (c := c) (mixR_length _ _ _)
    rw [mixR_0, dbl_up0 _ h0] at h2
    exact h2)
  have E1 : Hid (outF (byteOf s) 0 = 1 → ∀ (V : World) (g c : Nat), BRow V g ((mixR (byteOf s) (upF (byteOf s)) 0).set 15 (upF (byteOf s) 15 ^^^ 135)) → (convert 22 9 (.slice (some ⟨g, 0, none⟩) 16 c)).run Tryz.prog V = .ok (.string (dblT s)) V) := Lib.hid (fun h0 V g c h => by
    have h2 := h.conv (S := 16) (c := c) (by rw [List.length_set, mixR_length])
    rw [dbl_up1 _ h0] at h2
    exact h2)
  have HC := fun j => Lib.hid (outF_le (byteOf s) j)
  have C0 : Hid (outF (byteOf s) 16 = 0) := Lib.hid (if_pos rfl)
  generalize dblT s = R at *
  have ROW := Lib.hid hrow
  have BEL := Lib.hid hbel
  have HS := Lib.hid hs
  clear hrow hbel hs
  go_enter Tryz.func46, Tryz.ntmps46
  go_wp2
  clear hconv
  go_loopw [4, 5] (fun c i wr => ∃ m : Nat, m ≤ 16 ∧ i = .int .i64 ((m : Int) - 1) ∧ c = .int .i64 (outF (byteOf s) m : Nat) ∧ BRow wr w.heap.size (mixR (byteOf s) (upF (byteOf s)) m) ∧ Below w.heap.size w wr) (fun _ i _ => (intOf i + 1).toNat)
  case atStart => exact ⟨16, by omega, rfl, by rw [C0.out]; rfl, ROW.out, BEL.out⟩
  case round =>
    obtain ⟨m, hm, rfl, rfl, hr, hb⟩ := hrel
    cases m with
    | zero =>
      by_cases h0 : outF (byteOf s) 0 = 1
      · have hconv := E1.out h0
        obtain ⟨hcell, hfr, hset⟩ := row_last hr
        have hbs := hb.setCell (p := ⟨w.heap.size, 15, none⟩) (Nat.le_refl _) (.int .u8 ((upF (byteOf s) 15 ^^^ 135).toNat : Int))
        have hcv := hconv _ _ cap hset
        have hx : bits .xor .u8 ((upF (byteOf s) 15).toNat : Int) 135 = ((upF (byteOf s) 15 ^^^ 135).toNat : Int) := u8_xor_bytes (upF (byteOf s) 15) 135
        rw [h0]
        have hy := (upF (byteOf s) 15).toNat_lt
        have HB := Lib.hid hbs
        clear hr hb hset hconv hbs E0 E1 ST HC
        generalize upF (byteOf s) 15 ^^^ 135 = z at *
        generalize (upF (byteOf s) 15).toNat = y at *
        go_wp2
        go_ret
        exact ⟨rfl, HB.out⟩
      · have hconv := E0.out h0 _ _ cap hr
        have h1 : ¬ ((outF (byteOf s) 0 : Nat) : Int) = 1 := by omega
        have HB := Lib.hid hb
        clear hr hb E0 E1 ST HC h0
        generalize outF (byteOf s) 0 = c at *
        go_wp2
        go_ret
        exact ⟨rfl, HB.out⟩
    | succ k =>
      obtain ⟨e1, e2⟩ := (ST k (by omega)).out
      obtain ⟨hcell, hfr, hset⟩ := row_step (by omega) hr
      have hc1 := (HC (k + 1)).out
      rw [show (((k + 1 : Nat) : Int) - 1) = (k : Int) by omega]
      have hy := (byteOf s k).toNat_lt
      have hbs := hb.setCell (p := ⟨w.heap.size, k, none⟩) (Nat.le_refl _) (.int .u8 ((upF (byteOf s) k).toNat : Int))
      have hix : ∀ V : World, (Instr.index 9 (.string s) (.int .i64 (k : Int))).run Tryz.prog V = .ok (.int .u8 ((byteOf s k).toNat : Int)) V := fun V => by
        have hsz := HS.out
        have h2 : k < s.size := by omega
        rw [run_index_string V 9 s .i64 _ Tryz.underlying9, dif_pos (by omega)]
        simp only [Int.toNat_natCast]
        rw [byteOf_at s k h2]
      have hor := or_one (byteOf s k).toNat (outF (byteOf s) (k + 1)) hy hc1
      clear hr hb ST HC E0 E1
      generalize (byteOf s k).toNat = y at *
      generalize outF (byteOf s) (k + 1) = c at *
      rw [show ((upF (byteOf s) k).toNat : Int) = (2 * (y : Int) + (c : Int)) % 256 by omega] at hset hbs
      have HSET := Lib.hid hset
      have HB := Lib.hid hbs
      have E2 : Hid ((2 * (y : Int) + (c : Int)) / 256 = ((outF (byteOf s) k : Nat) : Int)) := Lib.hid (by omega)
      clear hset hbs e1 e2
      have hk0 : (0 : Int) ≤ (k : Int) := by omega
      have hk1 : (k : Int) < 16 := by omega
      go_wp2
      go_roundw
      case rel => exact ⟨k, by omega, by go_num, val_i E2.out, HSET.out, HB.out⟩
      case measure => simp [intOf]
set_option maxRecDepth 100000 in
theorem Doubled_no_spec (s : ByteArray) (hs : ¬ s.size = 16) (w : World) :
    Calls Tryz.prog 46 #[.string s] w fun e w' => e = .returned (.string ⟨#[]⟩) ∧ Below w.heap.size w w' := by
  have hs2 : ¬ (s.size : Int) = 16 := by omega
  clear hs
  go_enter Tryz.func46, Tryz.ntmps46
  go_wp2
  go_ret
  exact ⟨rfl, Below.refl _ _⟩
/-- Doubled as the document tells it, or nothing. -/
def dblI (s : ByteArray) : ByteArray := if s.size = 16 then dblT s else ⟨#[]⟩
theorem dblI_yes (s : ByteArray) (h : s.size = 16) : dblI s = dblT s := if_pos h
theorem dblI_no (s : ByteArray) (h : ¬ s.size = 16) : dblI s = ⟨#[]⟩ := if_neg h
theorem Doubled_spec (s : ByteArray) (w : World) :
    Calls Tryz.prog 46 #[.string s] w fun e w' => e = .returned (.string (dblI s)) ∧ Below w.heap.size w w' := by
  by_cases h : s.size = 16
  · rw [dblI_yes s h]; exact Doubled_yes_spec s h w
  · rw [dblI_no s h]; exact Doubled_no_spec s h w
end Go.Proofs.YtbcaldhcgoclgaaGreatDoor
set_option linter.unusedVariables false
set_option linter.unusedSimpArgs false
namespace Go.Proofs.YtbcaldhcgoclgaaGreatDoor
open Go Go.RowKit

theorem wd_getW (t : ByteArray) (i : Nat) : wb (getW t i) 0 = byteOf t i ∧ wb (getW t i) 1 = byteOf t (i + 1) ∧ wb (getW t i) 2 = byteOf t (i + 2) ∧ wb (getW t i) 3 = byteOf t (i + 3) := by
  unfold getW
  exact ⟨wb0_mk _ _ _ _, wb1_mk _ _ _ _, wb2_mk _ _ _ _, wb3_mk _ _ _ _⟩
/-- a half as a value: two words put together. -/
theorem half_or (x y : Nat) (hx : x < 4294967296) (hy : y < 4294967296) : bits .or .u64 ((x : Int) * 4294967296) (y : Int) = ((x * 4294967296 + y : Nat) : Int) := by
  have h := nat_or_add x y 32 (by omega)
  rw [show (2 : Nat) ^ 32 = 4294967296 by rfl] at h
  rw [show (x : Int) * 4294967296 = ((x * 4294967296 : Nat) : Int) by omega, u64_or_nat _ _ (by omega) (by omega), h]
set_option maxRecDepth 100000 in
set_option maxHeartbeats 1600000 in
theorem half_impl (s : ByteArray) (gt cap gp a : Nat) (ha : a + 8 ≤ 16) (hc1 : 16 ≤ cap) (hc2 : cap ≤ 9223372036854775807) (w : World)
    (hs : ∀ j, j < 16 → w.cell? ⟨gt, j, none⟩ = some (cell8 (byteOf s j))) (hp : w.cell? ⟨gp, 0, none⟩ = some (.slice (some ⟨gt, 0, none⟩) 16 cap)) :
    Calls Tryz.prog 118 #[.int .i64 (a : Int), .pointer (some ⟨gp, 0, none⟩)] w fun e w' => e = .returned (.int .u64 (((getW s a).toNat * 4294967296 + (getW s (a + 4)).toNat : Nat) : Int)) ∧ Below w.heap.size w w' := by
  have HG : ∀ i : Nat, i + 4 ≤ 16 → Hid (∀ k, Calls Tryz.prog 119 #[.slice (some ⟨gt, 0, none⟩) 16 cap, .int .i64 (i : Int)] (w.drewN k) fun e w' => e = .returned (.int .u32 (getW s i).toNat) ∧ w' = w.drewN k) := fun i hi => Lib.hid fun k => by
    obtain ⟨b0, b1, b2, b3⟩ := wd_getW s i
    have hh := get_impl gt 16 cap i (getW s i) (w.drewN k) (by omega) hc1 hc2 ⟨by rw [b0]; exact hs _ (by omega), by rw [b1]; exact hs _ (by omega), by rw [b2]; exact hs _ (by omega), by rw [b3]; exact hs _ (by omega)⟩
    exact hh.mono fun e w' ⟨e1, e2⟩ => ⟨e1, e2.symm⟩
  have G1 := HG a (by omega)
  have G2 := HG (a + 4) (by omega)
  have hx := w32_lt (getW s a)
  have hy := w32_lt (getW s (a + 4))
  obtain ⟨X, hX⟩ : ∃ X, (getW s a).toNat = X := ⟨_, rfl⟩
  obtain ⟨Y, hY⟩ : ∃ Y, (getW s (a + 4)).toNat = Y := ⟨_, rfl⟩
  rw [hX] at hx G1 ⊢
  rw [hY] at hy G2 ⊢
  have hor := half_or X Y hx hy
  obtain ⟨z, hz⟩ : ∃ z, X * 4294967296 + Y = z := ⟨_, rfl⟩
  rw [hz] at hor ⊢
  clear hX hY hz
  have q1 : IntKind.i64.wrap ((a : Int) + 4) = (a : Int) + 4 := IntWalk.i64_in _ (by omega)
  rw [show ((a + 4 : Nat) : Int) = (a : Int) + 4 by omega] at G2
  have ha0 : (a : Int) ≤ 8 := by omega
  have HB : Hid (∀ k, Below w.heap.size w (w.drewN k)) := Lib.hid fun k => ⟨rfl, rfl, rfl, Nat.le_refl _, fun _ _ => rfl⟩
  clear HG hs
  go_enter Tryz.func118, Tryz.ntmps118
  go_wp2
  go_quiet ((go_at_call 119; first | (with_reducible exact Calls.quiet_of_same (G1.out _)) | (with_reducible exact Calls.quiet_of_same (G2.out _))))
  go_wp2
  go_ret
  exact ⟨rfl, HB.out _⟩
set_option maxRecDepth 100000 in
theorem bytes_brow2 (s : ByteArray) (hs : s.size ≤ 1073741824) (w : World) :
    ∃ cap w2, (convert 9 22 (.string s)).run Tryz.prog w = .ok (.slice (some ⟨w.heap.size, 0, none⟩) s.size cap) w2 ∧ BRow w2 w.heap.size s.data.toList ∧ Below w.heap.size w w2 ∧ s.size ≤ cap ∧ cap ≤ 9223372036854775807 := by
  obtain ⟨cap, w2, h1, h2, h3⟩ := bytes_brow s w
  refine ⟨cap, w2, h1, h2, h3, ?_⟩
  have h := run_bytes_of_string (P := Tryz.prog) w 9 22 5 s Tryz.underlying9 Tryz.underlying22 Tryz.underlying5
  rw [h1] at h
  have e : cap = grownCap w s.size 0 5 := by
    injection h with h _
    injection h
  rw [e]
  have hm := grownCap_le_maxLen w s.size 0 5 (by unfold maxLen; omega)
  unfold maxLen at hm
  exact ⟨grownCap_ge _ _ _ _, by omega⟩
/-- two halves as a value. -/
def wdV (h l : Nat) : Value := .agg #[.int .u64 (h : Int), .int .u64 (l : Int)]
theorem hlf_0 (s : ByteArray) : (getW s 0).toNat * 4294967296 + (getW s (0 + 4)).toNat = hlfN s 0 := by
  have h1 : getW s 0 = colW s 0 := by unfold colW; rw [show 4 * 0 = 0 by omega]
  have h2 : getW s (0 + 4) = colW s (0 + 1) := by unfold colW; rw [show 4 * (0 + 1) = 0 + 4 by omega]
  rw [h1, h2]; unfold hlfN; exact Eq.refl _
theorem hlf_8 (s : ByteArray) : (getW s 8).toNat * 4294967296 + (getW s (8 + 4)).toNat = hlfN s 2 := by
  have h1 : getW s 8 = colW s 2 := by unfold colW; rw [show 4 * 2 = 8 by omega]
  have h2 : getW s (8 + 4) = colW s (2 + 1) := by unfold colW; rw [show 4 * (2 + 1) = 8 + 4 by omega]
  rw [h1, h2]; unfold hlfN; exact Eq.refl _
theorem two_size (a b : Value) : (#[a, b] : Array Value).size = 2 := rfl
theorem two_one (k : IntKind) (a b : Int) : (#[Value.int k a, .int k b] : Array Value).all (·.oneCell') = true := by kernel_rfl
theorem wide_info : (Tryz.prog.info? 57).map (·.size) = some 2 := by kernel_rfl
set_option maxRecDepth 100000 in
set_option maxHeartbeats 1600000 in
theorem wideOf_impl (s : ByteArray) (hs : s.size = 16) (w : World) :
    Calls Tryz.prog 82 #[.string s] w fun e w' => e = .returned (wdV (hlfN s 0) (hlfN s 2)) ∧ Below w.heap.size w w' := by
  have hmf : ∀ (fn : Fn) (first cap : Array Value) (w : World), (Instr.makeFunc fn first cap).run Tryz.prog w = .ok (.func fn first cap) w := fun _ _ _ _ => rfl
  obtain ⟨cap, W1, hconv, hrow, hbel, hcap1, hcap2⟩ := bytes_brow2 s (by omega) (w.alloc (.cells #[.int .u64 0, .int .u64 0] 57))
  rw [hs] at hconv hcap1
  have hsz : (w.alloc (.cells #[.int .u64 0, .int .u64 0] 57)).heap.size = w.heap.size + 1 := by simp
  rw [hsz] at hrow hbel
  have hg1 : W1.heap[w.heap.size]? = some (.cells #[.int .u64 0, .int .u64 0] 57 (0, 0)) := (hbel.block _ (by omega)).trans (heap_alloc_new w _)
  have hb1 : Below w.heap.size w W1 := ((Below.refl _ _).alloc (Nat.le_refl _) _).trans (hbel.mono (by omega))
  obtain ⟨W2, hW2⟩ : ∃ W2, W1.alloc (.cells #[.slice (some ⟨w.heap.size + 1, 0, none⟩) 16 cap] 22) = W2 := ⟨_, rfl⟩
  have hl1 : w.heap.size + 1 < W1.heap.size := hrow.lt
  have hb2 : Below W1.heap.size W1 W2 := by rw [← hW2]; exact (Below.refl _ _).alloc (Nat.le_refl _) _
  have hl2 : W1.heap.size < W2.heap.size := by rw [← hW2]; simp
  have hp2 : W2.cell? ⟨W1.heap.size, 0, none⟩ = some (.slice (some ⟨w.heap.size + 1, 0, none⟩) 16 cap) := by rw [← hW2]; exact (cell_of_row _ W1.heap.size 0 _ _ _ (heap_alloc_new W1 _)).trans rfl
  have hr2 := hrow.below hb2
  have hs16 : s.data.toList.length = 16 := by simpa using hs
  have HH := fun a ha (W : World) (hB : Below W2.heap.size W2 W) => Lib.hid (half_impl s (w.heap.size + 1) cap W1.heap.size a ha hcap1 hcap2 W (fun j hj => by
      have h := (BRow.below hr2 hB).cells j (by omega)
      rw [h, ← byteOf_at s j (by omega)]
      rfl) ((hB.cell (p := ⟨W1.heap.size, 0, none⟩) hl2).trans hp2))
  have e0 := hlf_0 s
  have e8 := hlf_8 s
  have HH0 := HH 0 (by omega)
  have HH8 := HH 8 (by omega)
  rw [e0] at HH0
  rw [e8] at HH8
  clear HH e0 e8
  generalize hlfN s 0 = h at *
  generalize hlfN s 2 = l at *
  have hsi : (Tryz.prog.info? 57).map (·.size) = some (#[Value.int .u64 (h : Int), .int .u64 (l : Int)] : Array Value).size := by rw [two_size]; exact wide_info
  have hone : (#[Value.int .u64 (h : Int), .int .u64 (l : Int)] : Array Value).all (·.oneCell') = true := two_one _ _ _
  have hz : (#[Value.int .u64 0, .int .u64 0] : Array Value).size = (#[Value.int .u64 (h : Int), .int .u64 (l : Int)] : Array Value).size := by rw [two_size, two_size]
  clear hrow hbel hr2
  go_enter Tryz.func82, Tryz.ntmps82
  go_wp2_with fail
  refine (HH0 W2 (Below.refl _ _)).out.mono ?_; rintro e w3 ⟨rfl, hb3⟩
  go_wp2_with fail
  refine (HH8 w3 hb3).out.mono ?_; rintro e w4 ⟨rfl, hb4⟩
  have hb24 := hb3.trans (hb4.mono hb3.size)
  have hg4 : w4.heap[w.heap.size]? = some (.cells #[.int .u64 0, .int .u64 0] 57 (0, 0)) := (hb24.block _ (by omega)).trans ((hb2.block _ (by omega)).trans hg1)
  have hbw : Below w.heap.size w w4 := (hb1.trans (hb2.mono (by omega))).trans (hb24.mono (by omega))
  have G4 := Lib.hid hg4
  have G5 := Lib.hid (setRow_heap w4 _ _ #[Value.int .u64 (h : Int), .int .u64 (l : Int)] _ _ hg4)
  have HB := Lib.hid (below_setRow hbw (Nat.le_refl _) #[Value.int .u64 (h : Int), .int .u64 (l : Int)])
  clear hg4 hb24 hb4 hb3 hbw HH0 HH8 hb1 hb2 hg1 hp2
  go_wp2_with (refine wpList_store_row rfl 57 _ _ rfl w.heap.size #[Value.int .u64 (h : Int), .int .u64 (l : Int)] rfl rfl 57 _ G4.out hsi hz hone ?_)
  refine bodyPost_ret (v := wdV h l) ?_ rfl ⟨rfl, HB.out⟩
  exact results_cell_row rfl _ _ w.heap.size 57 #[Value.int .u64 (h : Int), .int .u64 (l : Int)] (0, 0) _ rfl G5.out Tryz.underlying57 rfl hsi
theorem wide_two (w : World) (A B : Array Value) (t u : TypeId) : ((w.alloc (.cells A t)).alloc (.cells B u)).heap[w.heap.size]? = some (.cells A t (0, 0)) ∧ ((w.alloc (.cells A t)).alloc (.cells B u)).heap[w.heap.size + 1]? = some (.cells B u (0, 0)) ∧ Below w.heap.size w ((w.alloc (.cells A t)).alloc (.cells B u)) ∧ ((w.alloc (.cells A t)).alloc (.cells B u)).heap.size = w.heap.size + 1 + 1 :=
  ⟨heap_alloc2_old _ _ _, heap_alloc2_new _ _ _, ((Below.refl _ _).alloc (Nat.le_refl _) _).alloc (by simp) _, by simp⟩
set_option maxRecDepth 100000 in
set_option maxHeartbeats 1600000 in
theorem wblock_impl (h l : Nat) (hh : h < 18446744073709551616) (hl : l < 18446744073709551616) (w : World) :
    Calls Tryz.prog 83 #[wdV h l] w fun e w' => e = .returned (.string (ofW (halW h l))) ∧ Below w.heap.size w w' := by
  have hh0 : (0 : Int) ≤ (h : Int) := by omega
  have hl0 : (0 : Int) ≤ (l : Int) := by omega
  have hh1 : (h : Int) < 18446744073709551616 := by omega
  have hl1 : (l : Int) < 18446744073709551616 := by omega
  obtain ⟨_, g2, hb, hsz⟩ := wide_two w #[Value.int .u64 (h : Int), .int .u64 (l : Int)] #[Value.int .u32 ((h : Int) / 4294967296), .int .u32 ((h : Int) % 4294967296), .int .u32 ((l : Int) / 4294967296), .int .u32 ((l : Int) % 4294967296)] 57 117
  obtain ⟨W, hW⟩ : ∃ W, (w.alloc (.cells #[Value.int .u64 (h : Int), .int .u64 (l : Int)] 57)).alloc (.cells #[Value.int .u32 ((h : Int) / 4294967296), .int .u32 ((h : Int) % 4294967296), .int .u32 ((l : Int) / 4294967296), .int .u32 ((l : Int) % 4294967296)] 117) = W := ⟨_, rfl⟩
  rw [hW] at g2 hb hsz
  have HC : Hid (Calls Tryz.prog 107 #[.slice (some ⟨w.heap.size + 1, 0, none⟩) 4 4] W fun e w' => e = .returned (.string (ofW (halW h l))) ∧ Below W.heap.size W w') := Lib.hid (by
    refine blockOf_impl (halW h l) (w.heap.size + 1) 0 4 W (by omega) (fun j hj => ?_)
    rw [Nat.zero_add, cell_of_row W _ j _ _ _ g2]
    have h4 : j = 0 ∨ j = 1 ∨ j = 2 ∨ j = 3 := by omega
    rcases h4 with rfl | rfl | rfl | rfl
    · rw [halW_0 h l hh]; rfl
    · rw [halW_1 h l]; rfl
    · rw [halW_2 h l hl]; rfl
    · rw [halW_3 h l]; rfl)
  have HB := Lib.hid hb
  have HS := Lib.hid hsz
  clear g2 hb hsz
  generalize ofW (halW h l) = r at *
  clear hh hl
  unfold wdV
  go_enter Tryz.func83, Tryz.ntmps83
  go_wp2_with fail
  refine HC.out.mono ?_; rintro e w1 ⟨rfl, hb1⟩
  have HB1 := Lib.hid (HB.out.trans (hb1.mono (by have := HS.out; omega)))
  clear hb1 hW
  go_wp2
  go_ret
  exact ⟨rfl, HB1.out⟩
theorem add64_run (x y : Nat) (w : World) : (callFunc 228 #[.int .u64 (x : Int), .int .u64 (y : Int), .int .u64 0]).run Tryz.prog w = .ok (.value (.tuple #[.int .u64 (((x + y) % 18446744073709551616 : Nat) : Int), .int .u64 (((x + y) / 18446744073709551616 : Nat) : Int)])) w := by
  rw [run_callFunc_extern Tryz.func228 (by kernel_rfl) (by kernel_rfl) (by kernel_rfl) (e := add64Entry) (by kernel_rfl), run_add64 (x : Int) (y : Int) 0 (by omega) (by omega) (by omega) (by omega)]
  simp only [Result.andThen]
  congr 5 <;> omega
set_option maxRecDepth 100000 in
set_option maxHeartbeats 1600000 in
theorem plus_impl (h l n : Nat) (hh : h < 18446744073709551616) (hl : l < 18446744073709551616) (hn : n < 18446744073709551616) (w : World) :
    Calls Tryz.prog 174 #[wdV h l, .int .u64 n] w fun e w' => e = .returned (wdV ((h + (l + n) / 18446744073709551616) % 18446744073709551616) ((l + n) % 18446744073709551616)) ∧ Below w.heap.size w w' := by
  have hadd := fun W => add64_run l n W
  obtain ⟨c, hc⟩ : ∃ c, (l + n) / 18446744073709551616 = c := ⟨_, rfl⟩
  obtain ⟨m, hm⟩ : ∃ m, (l + n) % 18446744073709551616 = m := ⟨_, rfl⟩
  obtain ⟨k, hk⟩ : ∃ k, (h + c) % 18446744073709551616 = k := ⟨_, rfl⟩
  rw [hc, hm] at hadd ⊢
  rw [hk]
  have hk2 : IntKind.u64.wrap ((h : Int) + (c : Int)) = (k : Int) := by rw [IntKind.wrap_u64]; omega
  obtain ⟨_, G2, HB, _⟩ := wide_two w #[Value.int .u64 (h : Int), .int .u64 (l : Int)] #[Value.int .u64 (k : Int), .int .u64 (m : Int)] 57 57
  have hl1 : (l : Int) < 18446744073709551616 := by omega
  have hn1 : (n : Int) < 18446744073709551616 := by omega
  clear hc hm hk hh hl hn
  have hsi : (Tryz.prog.info? 57).map (·.size) = some (#[Value.int .u64 (k : Int), .int .u64 (m : Int)] : Array Value).size := by rw [two_size]; exact wide_info
  have H2 := Lib.hid G2
  have H3 := Lib.hid HB
  clear G2 HB
  unfold wdV
  go_enter Tryz.func174, Tryz.ntmps174
  go_wp2
  refine bodyPost_ret (v := .agg #[.int .u64 (k : Int), .int .u64 (m : Int)]) ?_ rfl ⟨rfl, H3.out⟩
  exact results_cell_row rfl _ _ (w.heap.size + 1) 57 #[Value.int .u64 (k : Int), .int .u64 (m : Int)] (0, 0) _ rfl H2.out Tryz.underlying57 rfl hsi
theorem wrap_twice (h : Nat) : IntKind.u64.wrap ((h : Int) * 2) = ((h * 2 % 18446744073709551616 : Nat) : Int) := by rw [IntKind.wrap_u64]; omega
theorem twice_or (h l : Nat) (hl : l < 18446744073709551616) :
    bits .or .u64 (IntKind.u64.wrap ((h : Int) * 2)) ((l : Int) / 9223372036854775808) = ((h * 2 % 18446744073709551616 + l / 9223372036854775808 : Nat) : Int) := by
  have e1 : h * 2 % 18446744073709551616 = (h % 9223372036854775808) * 2 := by omega
  have e2 : (l : Int) / 9223372036854775808 = ((l / 9223372036854775808 : Nat) : Int) := by omega
  have hb : l / 9223372036854775808 < 2 := by omega
  have hq : h % 9223372036854775808 < 9223372036854775808 := Nat.mod_lt _ (by omega)
  rw [wrap_twice, e1, e2]
  generalize l / 9223372036854775808 = b at *
  generalize h % 9223372036854775808 = q at *
  have h3 := nat_or_add q b 1 (by omega)
  rw [Nat.pow_one] at h3
  rw [u64_or_nat _ _ (by omega) (by omega), h3]
theorem twice_xor (h l : Nat) (hh : h < 18446744073709551616) :
    bits .xor .u64 (IntKind.u64.wrap ((l : Int) * 2)) ((h : Int) / 9223372036854775808 * 135) = ((l * 2 % 18446744073709551616 ^^^ h / 9223372036854775808 * 135 : Nat) : Int) := by
  have e2 : (h : Int) / 9223372036854775808 * 135 = ((h / 9223372036854775808 * 135 : Nat) : Int) := by omega
  have h1 : h / 9223372036854775808 * 135 < 18446744073709551616 := by omega
  have h2 : l * 2 % 18446744073709551616 < 18446744073709551616 := Nat.mod_lt _ (by omega)
  rw [wrap_twice, e2]
  generalize h / 9223372036854775808 * 135 = a at *
  generalize l * 2 % 18446744073709551616 = b at *
  exact u64_xor_nat b a h2 h1
set_option maxRecDepth 100000 in
set_option maxHeartbeats 1600000 in
theorem wdoubled_impl (h l : Nat) (hh : h < 18446744073709551616) (hl : l < 18446744073709551616) (w : World) :
    Calls Tryz.prog 51 #[wdV h l] w fun e w' => e = .returned (wdV (h * 2 % 18446744073709551616 + l / 9223372036854775808) ((l * 2 % 18446744073709551616) ^^^ (h / 9223372036854775808 * 135))) ∧ Below w.heap.size w w' := by
  have hor := twice_or h l hl
  have hxor := twice_xor h l hh
  obtain ⟨k, hk⟩ : ∃ k, h * 2 % 18446744073709551616 + l / 9223372036854775808 = k := ⟨_, rfl⟩
  obtain ⟨m, hm⟩ : ∃ m, l * 2 % 18446744073709551616 ^^^ h / 9223372036854775808 * 135 = m := ⟨_, rfl⟩
  rw [hk] at hor ⊢
  rw [hm] at hxor ⊢
  have hh1 : (h : Int) < 18446744073709551616 := by omega
  have hl1 : (l : Int) < 18446744073709551616 := by omega
  obtain ⟨_, G2, HB, _⟩ := wide_two w #[Value.int .u64 (h : Int), .int .u64 (l : Int)] #[Value.int .u64 (k : Int), .int .u64 (m : Int)] 57 57
  have hsi : (Tryz.prog.info? 57).map (·.size) = some (#[Value.int .u64 (k : Int), .int .u64 (m : Int)] : Array Value).size := by rw [two_size]; exact wide_info
  have H2 := Lib.hid G2
  have H3 := Lib.hid HB
  clear G2 HB hk hm hh hl
  unfold wdV
  go_enter Tryz.func51, Tryz.ntmps51
  go_wp2
  refine bodyPost_ret (v := .agg #[.int .u64 (k : Int), .int .u64 (m : Int)]) ?_ rfl ⟨rfl, H3.out⟩
  exact results_cell_row rfl _ _ (w.heap.size + 1) 57 #[Value.int .u64 (k : Int), .int .u64 (m : Int)] (0, 0) _ rfl H2.out Tryz.underlying57 rfl hsi
set_option maxRecDepth 100000 in
set_option maxHeartbeats 1600000 in
theorem count1_impl (h l n gn : Nat) (hh : h < 18446744073709551616) (hl : l < 18446744073709551616) (hn : n ≤ 9223372036854775807) (w : World) (hc : w.cell? ⟨gn, 0, none⟩ = some (.int .i64 n)) (hg : gn < w.heap.size) :
    Calls Tryz.prog 173 #[wdV h l, .pointer (some ⟨gn, 0, none⟩)] w fun e w' => e = .returned (wdV ((h + (l + n) / 18446744073709551616) % 18446744073709551616) ((l + n) % 18446744073709551616)) ∧ Below w.heap.size w w' := by
  have hn1 : (n : Int) ≤ 9223372036854775807 := by omega
  have hn0 : (0 : Int) ≤ (n : Int) := by omega
  have HP := fun W => Lib.hid (plus_impl h l n hh hl (by omega) W)
  obtain ⟨m, hm⟩ : ∃ m, (l + n) % 18446744073709551616 = m := ⟨_, rfl⟩
  obtain ⟨k, hk⟩ : ∃ k, (h + (l + n) / 18446744073709551616) % 18446744073709551616 = k := ⟨_, rfl⟩
  rw [hk, hm] at HP ⊢
  obtain ⟨g1, g2, hb, hsz⟩ := wide_two w #[Value.int .u64 (h : Int), .int .u64 (l : Int)] #[Value.int .u64 0, .int .u64 0] 57 57
  obtain ⟨W, hW⟩ : ∃ W, (w.alloc (.cells #[Value.int .u64 (h : Int), .int .u64 (l : Int)] 57)).alloc (.cells #[Value.int .u64 0, .int .u64 0] 57) = W := ⟨_, rfl⟩
  rw [hW] at g1 g2 hb hsz
  have c0 : W.cell? ⟨w.heap.size, 0, none⟩ = some (.int .u64 (h : Int)) := (cell_of_row W _ 0 _ _ _ g1).trans rfl
  have c1 : W.cell? ⟨w.heap.size, 1, none⟩ = some (.int .u64 (l : Int)) := (cell_of_row W _ 1 _ _ _ g1).trans rfl
  have hsi : (Tryz.prog.info? 57).map (·.size) = some (#[Value.int .u64 (k : Int), .int .u64 (m : Int)] : Array Value).size := by rw [two_size]; exact wide_info
  have hone : (#[Value.int .u64 (k : Int), .int .u64 (m : Int)] : Array Value).all (·.oneCell') = true := two_one _ _ _
  have hz : (#[Value.int .u64 0, .int .u64 0] : Array Value).size = (#[Value.int .u64 (k : Int), .int .u64 (m : Int)] : Array Value).size := by rw [two_size, two_size]
  have hc2 : W.cell? ⟨gn, 0, none⟩ = some (.int .i64 n) := (hb.cell (p := ⟨gn, 0, none⟩) hg).trans hc
  have HG := Lib.hid g2
  have HB := Lib.hid hb
  have HS := Lib.hid hsz
  clear hk hm hh hl hn hc g1 g2 hb hsz
  unfold wdV at HP ⊢
  go_enter Tryz.func173, Tryz.ntmps173
  go_wp2_with fail
  refine (HP W).out.mono ?_; rintro e w1 ⟨rfl, hb1⟩
  have G1 := Lib.hid ((hb1.block (w.heap.size + 1) (by have := HS.out; omega)).trans HG.out)
  have G3 := Lib.hid (setRow_heap w1 _ _ #[Value.int .u64 (k : Int), .int .u64 (m : Int)] _ _ G1.out)
  have HB1 := Lib.hid (below_setRow (HB.out.trans (hb1.mono (by have := HS.out; omega))) (Nat.le_succ w.heap.size) #[Value.int .u64 (k : Int), .int .u64 (m : Int)])
  clear hb1 hW c0 c1 hc2
  go_wp2_with (refine wpList_store_row rfl 57 _ _ rfl (w.heap.size + 1) #[Value.int .u64 (k : Int), .int .u64 (m : Int)] rfl rfl 57 _ G1.out hsi hz hone ?_)
  refine bodyPost_ret (v := .agg #[.int .u64 (k : Int), .int .u64 (m : Int)]) ?_ rfl ⟨rfl, HB1.out⟩
  exact results_cell_row rfl _ _ (w.heap.size + 1) 57 #[Value.int .u64 (k : Int), .int .u64 (m : Int)] (0, 0) _ rfl G3.out Tryz.underlying57 rfl hsi
set_option maxRecDepth 100000 in
set_option maxHeartbeats 1600000 in
theorem changeWide_bare (F : FuncId) (s : ByteArray) (hs : s.size = 16) (h l : Nat) (hh : h < 18446744073709551616) (hl : l < 18446744073709551616) (w : World) (HE : ∀ (args : Array Value) (W : World), (callFunc F args).run Tryz.prog W = .ok (.enter F args) W)
    (HF : ∀ W, Below w.heap.size w W → Calls Tryz.prog F #[wdV (hlfN s 0) (hlfN s 2)] W fun e w' => e = .returned (wdV h l) ∧ Below W.heap.size W w') :
    Calls Tryz.prog 50 #[.string s, .func (.func F) #[] #[]] w fun e w' => e = .returned (.string (ofW (halW h l))) ∧ Below w.heap.size w w' := by
  have hs2 : (s.size : Int) = 16 := by omega
  have H1 := Lib.hid (wideOf_impl s hs w)
  have H2 := fun W => Lib.hid (wblock_impl h l hh hl W)
  have HF1 := fun W hW => Lib.hid (HF W hW)
  generalize wdV (hlfN s 0) (hlfN s 2) = v0 at *
  generalize wdV h l = v1 at *
  generalize ofW (halW h l) = r at *
  clear HF hs hh hl
  go_enter Tryz.func50, Tryz.ntmps50
  go_wp2_with fail
  refine H1.out.mono ?_; rintro e w1 ⟨rfl, hb1⟩
  go_wp2_with fail
  refine (HF1 w1 hb1).out.mono ?_; rintro e w2 ⟨rfl, hb2⟩
  go_wp2_with fail
  refine (H2 w2).out.mono ?_; rintro e w3 ⟨rfl, hb3⟩
  have hb12 := hb1.trans (hb2.mono hb1.size)
  have HB := Lib.hid (hb12.trans (hb3.mono hb12.size))
  clear hb1 hb2 hb3 hb12
  go_wp2
  go_ret
  exact ⟨rfl, HB.out⟩
set_option maxRecDepth 100000 in
set_option maxHeartbeats 1600000 in
theorem changeWide_held (F : FuncId) (p : Value) (s : ByteArray) (hs : s.size = 16) (h l : Nat) (hh : h < 18446744073709551616) (hl : l < 18446744073709551616) (w : World) (HE : ∀ (args : Array Value) (W : World), (callFunc F args).run Tryz.prog W = .ok (.enter F args) W)
    (HF : ∀ W, Below w.heap.size w W → Calls Tryz.prog F #[wdV (hlfN s 0) (hlfN s 2), p] W fun e w' => e = .returned (wdV h l) ∧ Below W.heap.size W w') :
    Calls Tryz.prog 50 #[.string s, .func (.func F) #[] #[p]] w fun e w' => e = .returned (.string (ofW (halW h l))) ∧ Below w.heap.size w w' := by
  have hs2 : (s.size : Int) = 16 := by omega
  have H1 := Lib.hid (wideOf_impl s hs w)
  have H2 := fun W => Lib.hid (wblock_impl h l hh hl W)
  have HF1 := fun W hW => Lib.hid (HF W hW)
  generalize wdV (hlfN s 0) (hlfN s 2) = v0 at *
  generalize wdV h l = v1 at *
  generalize ofW (halW h l) = r at *
  clear HF hs hh hl
  go_enter Tryz.func50, Tryz.ntmps50
  go_wp2_with fail
  refine H1.out.mono ?_; rintro e w1 ⟨rfl, hb1⟩
  go_wp2_with fail
  refine (HF1 w1 hb1).out.mono ?_; rintro e w2 ⟨rfl, hb2⟩
  go_wp2_with fail
  refine (H2 w2).out.mono ?_; rintro e w3 ⟨rfl, hb3⟩
  have hb12 := hb1.trans (hb2.mono hb1.size)
  have HB := Lib.hid (hb12.trans (hb3.mono hb12.size))
  clear hb1 hb2 hb3 hb12
  go_wp2
  go_ret
  exact ⟨rfl, HB.out⟩
set_option maxRecDepth 100000 in
theorem changeWide_no (v : Value) (s : ByteArray) (hs : ¬ s.size = 16) (w : World) :
    Calls Tryz.prog 50 #[.string s, v] w fun e w' => e = .returned (.string ⟨#[]⟩) ∧ Below w.heap.size w w' := by
  have hs2 : ¬ (s.size : Int) = 16 := by omega
  clear hs
  go_enter Tryz.func50, Tryz.ntmps50
  go_wp2
  go_ret
  exact ⟨rfl, Below.refl _ _⟩
theorem dbl_lt (s : ByteArray) : hlfN s 0 * 2 % 18446744073709551616 + hlfN s 2 / 9223372036854775808 < 18446744073709551616 ∧ (hlfN s 2 * 2 % 18446744073709551616) ^^^ (hlfN s 0 / 9223372036854775808 * 135) < 18446744073709551616 := by
  have h0 := hlfN_lt s 0
  have h2 := hlfN_lt s 2
  refine ⟨by omega, Nat.xor_lt_two_pow (n := 64) (Nat.mod_lt _ (by omega)) ?_⟩
  have : hlfN s 0 / 9223372036854775808 * 135 < 18446744073709551616 := by omega
  exact this
set_option maxRecDepth 100000 in
theorem Doubled_impl (s : ByteArray) (w : World) :
    Calls Tryz.prog 21 #[.string s] w fun e w' => e = .returned (.string (dblI s)) ∧ Below w.heap.size w w' := by
  have H : Calls Tryz.prog 50 #[.string s, .func (.func 51) #[] #[]] w fun e w' => e = .returned (.string (dblI s)) ∧ Below w.heap.size w w' := by
    by_cases h : s.size = 16
    · rw [dblI_yes s h, ← dbl_hal s]
      exact changeWide_bare _ s h _ _ (dbl_lt s).1 (dbl_lt s).2 w (enters_of Tryz.func51 (by kernel_rfl) rfl) (fun W _ => wdoubled_impl _ _ (hlfN_lt s 0) (hlfN_lt s 2) W)
    · rw [dblI_no s h]
      exact changeWide_no _ s h w
  generalize dblI s = r at *
  go_enter Tryz.func21, Tryz.ntmps21
  go_wp2_with fail
  refine H.mono ?_; rintro e w1 ⟨rfl, hb1⟩
  go_wp2
  go_ret
  exact ⟨rfl, hb1⟩
set_option maxRecDepth 100000 in
set_option maxHeartbeats 1600000 in
theorem Count_impl (s : ByteArray) (n : Int) (hn : n ≤ 9223372036854775807) (w : World) :
    Calls Tryz.prog 122 #[.string s, .int .i64 n] w fun e w' => e = .returned (.string (cntI s n)) ∧ Below w.heap.size w w' := by
  have hmf : ∀ (fn : Fn) (first cap : Array Value) (w : World), (Instr.makeFunc fn first cap).run Tryz.prog w = .ok (.func fn first cap) w := fun _ _ _ _ => rfl
  by_cases h0 : n < 0
  · rw [cntI_no s n (by omega)]
    have hb : Below w.heap.size w (w.alloc (.cells #[.int .i64 n] 3)) := (Below.refl _ _).alloc (Nat.le_refl _) _
    go_enter Tryz.func122, Tryz.ntmps122
    go_wp2
    go_ret
    exact ⟨rfl, hb⟩
  · obtain ⟨k, rfl⟩ := Int.eq_ofNat_of_zero_le (show 0 ≤ n by omega)
    have hb : Below w.heap.size w (w.alloc (.cells #[.int .i64 (k : Int)] 3)) := (Below.refl _ _).alloc (Nat.le_refl _) _
    have hg : w.heap.size < (w.alloc (.cells #[.int .i64 (k : Int)] 3)).heap.size := by simp
    have hc : (w.alloc (.cells #[.int .i64 (k : Int)] 3)).cell? ⟨w.heap.size, 0, none⟩ = some (.int .i64 (k : Int)) := (cell_of_row _ w.heap.size 0 _ _ _ (heap_alloc_new w _)).trans rfl
    obtain ⟨W, hW⟩ : ∃ W, w.alloc (.cells #[.int .i64 (k : Int)] 3) = W := ⟨_, rfl⟩
    rw [hW] at hb hg hc
    have H : Calls Tryz.prog 50 #[.string s, .func (.func 173) #[] #[.pointer (some ⟨w.heap.size, 0, none⟩)]] W fun e w' => e = .returned (.string (cntI s (k : Int))) ∧ Below W.heap.size W w' := by
      by_cases h : s.size = 16
      · rw [cntI_yes s k h, ← cnt_hal s k (by omega)]
        exact changeWide_held _ _ s h _ _ (Nat.mod_lt _ (by omega)) (Nat.mod_lt _ (by omega)) W (enters_of Tryz.func173 (by kernel_rfl) rfl)
          (fun V hV => count1_impl _ _ k w.heap.size (hlfN_lt s 0) (hlfN_lt s 2) (by omega) V ((hV.cell (p := ⟨w.heap.size, 0, none⟩) hg).trans hc) (Nat.lt_of_lt_of_le hg hV.size))
      · rw [cntI_no s _ (by omega)]
        exact changeWide_no _ s h W
    have HH := Lib.hid H
    have HB := Lib.hid hb
    have h1 : ¬ (k : Int) < 0 := by omega
    generalize cntI s (k : Int) = r at *
    clear H hb hg h0 hn
    go_enter Tryz.func122, Tryz.ntmps122
    go_wp2_with fail
    refine HH.out.mono ?_; rintro e w1 ⟨rfl, hb1⟩
    have HB1 := Lib.hid (HB.out.trans (hb1.mono HB.out.size))
    clear hb1 hW hc
    go_wp2
    go_ret
    exact ⟨rfl, HB1.out⟩
end Go.Proofs.YtbcaldhcgoclgaaGreatDoor
