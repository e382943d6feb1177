/-
  Contracts and facts that the laws of this seat use: BRow, WideS, WideI.
-/
import Derived.Test.YtbcaldhcgoclgaaBase
import Derived.Test.YtbcaldhcgoclgaaPure
import Derived.Test.YtbcaldhcgoclgaaDraws
import Derived.Lib.SlBytesRow
import Derived.Test.YtbcaldhcgoclgaaNums
import Derived.WalkKit
import Derived.LoopTactic
import Derived.OwnWalk
import Derived.WalkLawsBesides
import Derived.WalkSpells
import Derived.Outline
import Derived.Below
import Derived.IntWalk
import Derived.Laws.OwnMore
import Derived.Test.YtbcaldhcgoclgaaWord
import Derived.Test.YtbcaldhcgoclgaaKey
import Derived.Deep.QuietTactic
import Derived.BigQuiet
import Derived.Laws.Externs
import Derived.Laws.CopyOwn
import Derived.Deep.WholeRow
import Derived.Great.Walk
import Derived.Laws.BitsAllLaws
set_option linter.unusedVariables false
set_option linter.unusedSimpArgs false
namespace Go.Proofs.Ytbcaldhcgoclgaa
open Go.RowKit

/-- bytes of the call's own, made of a text: their cells can be read and written. -/
structure BRow (w : World) (g : Nat) (l : List UInt8) : Prop where
  lt : g < w.heap.size
  cells : ∀ j (h : j < l.length), w.cell? ⟨g, j, none⟩ = some (cell8 l[j])
  free : ∀ j, j < l.length → w.frozen? ⟨g, j, none⟩ = false
theorem BRow.below {w w' : World} {g : Nat} {l : List UInt8} (h : BRow w g l) (hb : Below w.heap.size w w') : BRow w' g l :=
  ⟨Nat.lt_of_lt_of_le h.lt hb.size, fun j hj => (hb.cell (p := ⟨g, j, none⟩) h.lt).trans (h.cells j hj), fun j hj => (hb.frozen (p := ⟨g, j, none⟩) h.lt).trans (h.free j hj)⟩
theorem BRow.drewN {w : World} {g : Nat} {l : List UInt8} (h : BRow w g l) (k : Nat) : BRow (w.drewN k) g l := ⟨h.lt, h.cells, h.free⟩
theorem BRow.set {w : World} {g : Nat} {l : List UInt8} (h : BRow w g l) (q : Nat) (hq : q < l.length) (x : UInt8) : BRow (w.setCell ⟨g, q, none⟩ (cell8 x)) g (l.set q x) := by
  refine ⟨by simpa [World.setCell] using h.lt, fun j hj => ?_, fun j hj => ?_⟩
  · have hj2 : j < l.length := by simpa using hj
    by_cases e : q = j
    · subst e
      rw [World.cell?_setCell_same _ _ _ (h.cells q hj2)]
      simp
    · rw [World.cell?_setCell_other (h := by intro h2; injection h2; omega), h.cells j hj2]
      simp [List.getElem_set, e]
  · rw [World.frozen?_setCell]; exact h.free j (by simpa using hj)
theorem BRow.conv {w : World} {g S c : Nat} {l : List UInt8} (h : BRow w g l) (hS : l.length = S) : (convert 22 9 (.slice (some ⟨g, 0, none⟩) S c)).run Try.prog w = .ok (.string ⟨l.toArray⟩) w := by
  subst hS
  refine run_convert_bytes_back (P := Try.prog) w 22 9 5 ⟨g, 0, none⟩ c l Try.underlying22 Try.underlying5 Try.underlying9 (fun j hj => ?_)
  rw [show (⟨g, 0, none⟩ : Addr).add j = ⟨g, j, none⟩ by unfold Addr.add; split <;> simp_all]
  exact h.cells j hj
theorem bytes_brow (s : ByteArray) (w : World) :
    ∃ cap w2, (convert 9 22 (.string s)).run Try.prog w = .ok (.slice (some ⟨w.heap.size, 0, none⟩) s.size cap) w2 ∧ BRow w2 w.heap.size s.data.toList ∧ Below w.heap.size w w2 := by
  refine ⟨_, _, run_bytes_of_string (P := Try.prog) w 9 22 5 s Try.underlying9 Try.underlying22 Try.underlying5, ⟨by simp, fun j hj => ?_, fun j hj => ?_⟩, ((Below.refl _ _).drew).alloc (Nat.le_refl _) _⟩
  · have hj2 : j < s.data.size := by simpa using hj
    refine (World.cell?_alloc_mark w.drew _ _ _ j).trans ?_
    rw [bytesRow_at _ _ _ hj2]; rfl
  · have hj2 : j < s.data.size := by simpa using hj
    refine (World.frozen?_alloc_mark w.drew _ _ _ _ j).trans ?_
    have hb : s.data.size ≤ (bytesRow s (grownCap w s.size 0 5)).size := by unfold bytesRow; rw [Array.size_append, Array.size_map]; omega
    have hb2 : ¬ (bytesRow s (grownCap w s.size 0 5)).size ≤ j := by omega
    simp [hb2]
/-- a byte of the code, or a number told by its place and the code's length: the same in every world to come. -/
theorem at_fix (i : Nat) (hi : i ≤ 1000) (w : World) (A : Option Addr) (len cap : Nat) (h : CodeAt w w.heap.size A len) (hl : len ≤ 1048576) :
    ∃ x : Nat, x < 256 ∧ ∀ W, Below w.heap.size w W → Calls Try.prog 24 #[.slice A len cap, .int .i64 i] W fun e w' => e = .returned (.int .i64 x) ∧ w' = W := by
  by_cases hlt : i < len
  · obtain ⟨b, o, x, rfl, hb, hx, hcell⟩ := h i hlt
    refine ⟨x, hx, fun W hW => ?_⟩
    have hcell2 := (hW.cell (p := ⟨b, o + i, none⟩) hb).trans hcell
    have h0 : (0 : Int) ≤ (i : Int) := by omega
    have h1 : (i : Int) < (len : Int) := by omega
    clear hW hcell h
    go_enter Try.func24, Try.ntmps24
    go_wp2
    go_ret
    exact ⟨rfl, rfl⟩
  · refine ⟨(i * 7 + len) % 256, by omega, fun W hW => ?_⟩
    have h1 : ¬ (i : Int) < (len : Int) := by omega
    clear hW h
    go_enter Try.func24, Try.ntmps24
    go_wp2
    go_ret
    exact ⟨(congrArg (fun v => Ending.returned (.int .i64 v)) (show (((i * 7 + len) % 256 : Nat) : Int) = ((i : Int) * 7 + (len : Int)) % 256 by omega)).symm, rfl⟩
end Go.Proofs.Ytbcaldhcgoclgaa
set_option linter.unusedVariables false
set_option linter.unusedSimpArgs false
namespace Go.Proofs.Ytbcaldhcgoclgaa
open Go.RowKit

/-- sixteen bytes, of which those from place m on are done. -/
def mixR (f h : Nat → UInt8) (m : Nat) : List UInt8 := upTo (fun i => if i < m then f i else h i) 16
theorem mixR_length (f h : Nat → UInt8) (m : Nat) : (mixR f h m).length = 16 := by simp [mixR, upTo_length]
theorem mixR_16 (s : ByteArray) (hs : s.size = 16) (h : Nat → UInt8) : s.data.toList = mixR (byteOf s) h 16 := by
  have h1 := congrArg (fun b => b.data.toList) (txt_own s 16 hs)
  have h2 : upTo (byteOf s) 16 = s.data.toList := by simpa [txt] using h1
  rw [← h2]
  exact upTo_congr _ _ 16 fun i hi => (if_pos hi).symm
theorem mixR_0 (f h : Nat → UInt8) : (⟨(mixR f h 0).toArray⟩ : ByteArray) = txt h 16 := by
  unfold mixR txt
  rw [upTo_congr _ h 16 fun i hi => if_neg (by omega)]
theorem mixR_at (f h : Nat → UInt8) (k : Nat) (hk : k < 16) (hl : k < (mixR f h (k + 1)).length) : (mixR f h (k + 1))[k] = f k := by
  have e : (mixR f h (k + 1))[k]? = some (f k) := by
    unfold mixR
    rw [upTo_at _ 16 k hk, if_pos (by omega)]
  rw [List.getElem?_eq_getElem hl] at e
  exact Option.some.inj e
theorem mixR_set (f h : Nat → UInt8) (k : Nat) (hk : k < 16) : (mixR f h (k + 1)).set k (h k) = mixR f h k := by
  apply List.ext_getElem?
  intro i
  unfold mixR
  rw [List.getElem?_set, upTo_length]
  by_cases hi : i < 16
  · rw [upTo_at _ 16 i hi, upTo_at _ 16 i hi]
    by_cases e : k = i
    · subst e; rw [if_pos rfl, if_pos hk, if_neg (by omega)]
    · rw [if_neg e]
      by_cases h2 : i < k
      · rw [if_pos (by omega), if_pos h2]
      · rw [if_neg (by omega), if_neg h2]
  · rw [if_neg (by omega), List.getElem?_eq_none (by rw [upTo_length]; omega), List.getElem?_eq_none (by rw [upTo_length]; omega)]
theorem row_step {wr : World} {g : Nat} {f h : Nat → UInt8} {k : Nat} (hk : k < 16) (hr : BRow wr g (mixR f h (k + 1))) :
    wr.cell? ⟨g, k, none⟩ = some (.int .u8 ((f k).toNat : Int)) ∧ wr.frozen? ⟨g, k, none⟩ = false ∧ BRow (wr.setCell ⟨g, k, none⟩ (.int .u8 ((h k).toNat : Int))) g (mixR f h k) := by
  have hl : k < (mixR f h (k + 1)).length := by rw [mixR_length]; exact hk
  refine ⟨?_, hr.free k hl, ?_⟩
  · rw [hr.cells k hl, mixR_at f h k hk hl]; rfl
  · have := hr.set k hl (h k)
    rwa [mixR_set f h k hk] at this
/-- what is counted up, byte by byte from the lowest. -/
theorem cnt_step (s : ByteArray) (n k : Nat) (hk : k < 16) :
    (n / 256 ^ (16 - (k + 1)) % 256 + (byteOf s k).toNat + carB (numB (byteOf s)) n (16 - (k + 1))) % 256 = (digB (numB (byteOf s) + n) k).toNat
    ∧ (n / 256 ^ (16 - (k + 1)) % 256 + (byteOf s k).toNat + carB (numB (byteOf s)) n (16 - (k + 1))) / 256 = carB (numB (byteOf s)) n (16 - k)
    ∧ n / 256 ^ (16 - (k + 1)) / 256 = n / 256 ^ (16 - k) := by
  have h1 := congrArg UInt8.toNat (dig_num (byteOf s) k hk)
  rw [digB_toNat] at h1
  have e : 16 - (k + 1) = 15 - k := by omega
  have e2 : 16 - k = (15 - k) + 1 := by omega
  rw [e, e2, ← h1]
  refine ⟨?_, ?_, ?_⟩
  · rw [digB_toNat, sum_dig]
  · rw [car_up]
  · rw [Nat.pow_succ, ← Nat.div_div_eq_div_mul]
/-- Count as the document tells it, or nothing. -/
def cntI (s : ByteArray) (n : Int) : ByteArray := if s.size = 16 ∧ 0 ≤ n then cntT s n.toNat else ⟨#[]⟩
theorem cntI_yes (s : ByteArray) (n : Nat) (h : s.size = 16) : cntI s (n : Int) = cntT s n := by unfold cntI; rw [if_pos ⟨h, by omega⟩, Int.toNat_natCast]
theorem cntI_no (s : ByteArray) (n : Int) (h : ¬ (s.size = 16 ∧ 0 ≤ n)) : cntI s n = ⟨#[]⟩ := if_neg h
/-- a byte moved one place up, what comes in from below with it; nothing is turned yet. -/
def upF (f : Nat → UInt8) (k : Nat) : UInt8 := (f k <<< 1) ^^^ (if k < 15 then top8 (f (k + 1)) else 0)
/-- what goes out of the bytes from place m on. -/
def outF (f : Nat → UInt8) (m : Nat) : Nat := if m = 16 then 0 else (f m).toNat / 128
theorem outF_le (f : Nat → UInt8) (m : Nat) : outF f m ≤ 1 := by
  unfold outF
  have := (f m).toNat_lt
  split <;> omega
theorem up_step (f : Nat → UInt8) (k : Nat) (hk : k < 16) :
    (2 * (f k).toNat + outF f (k + 1)) % 256 = (upF f k).toNat ∧ (2 * (f k).toNat + outF f (k + 1)) / 256 = outF f k := by
  have hx := (f k).toNat_lt
  by_cases h : k < 15
  · have hy := (f (k + 1)).toNat_lt
    unfold upF outF
    rw [if_neg (by omega), if_pos h, if_neg (by omega), up_nat]
    omega
  · obtain rfl : k = 15 := by omega
    unfold upF outF
    rw [if_pos (by omega), if_neg (by omega), if_neg (by omega), UInt8.xor_zero, shl1_nat]
    omega
theorem or_one (x c : Nat) (hx : x < 256) (hc : c ≤ 1) : bits .or .i64 ((x : Int) * 2) (c : Int) = 2 * (x : Int) + (c : Int) := by
  have h := nat_or_add x c 1 (by omega)
  rw [Nat.pow_one] at h
  have e : (x : Int) * 2 = ((x * 2 : Nat) : Int) := by omega
  rw [e, i64_or_nat63 _ _ (by omega) (by omega), h]
  omega
theorem dbl_up0 (f : Nat → UInt8) (h : outF f 0 ≠ 1) : txt (upF f) 16 = txt (dblF f) 16 := by
  refine txt_ext _ _ 16 fun i hi => ?_
  have ht : ¬ top8 (f 0) = 1 := fun e => h (by
    unfold outF
    rw [if_neg (by omega), ← top8_nat, e]; rfl)
  unfold upF dblF
  by_cases h2 : i < 15
  · rw [if_pos h2, if_pos h2]
  · obtain rfl : i = 15 := by omega
    rw [if_neg (by omega), if_neg (by omega), if_neg ht]
theorem dbl_up1 (f : Nat → UInt8) (h : outF f 0 = 1) : (⟨((mixR f (upF f) 0).set 15 (upF f 15 ^^^ 135)).toArray⟩ : ByteArray) = txt (dblF f) 16 := by
  have ht : top8 (f 0) = 1 := by
    apply UInt8.toNat_inj.1
    rw [top8_nat]
    unfold outF at h
    rw [if_neg (by omega)] at h
    exact h
  have e : (mixR f (upF f) 0).set 15 (upF f 15 ^^^ 135) = upTo (dblF f) 16 := by
    apply List.ext_getElem?
    intro i
    unfold mixR
    rw [List.getElem?_set, upTo_length]
    by_cases hi : i < 16
    · rw [upTo_at _ 16 i hi, upTo_at _ 16 i hi]
      by_cases e : 15 = i
      · subst e
        rw [if_pos rfl, if_pos (by omega)]
        unfold upF dblF
        rw [if_neg (by omega), if_neg (by omega), if_pos ht, UInt8.xor_zero]
      · rw [if_neg e, if_neg (by omega)]
        unfold upF dblF
        rw [if_pos (by omega), if_pos (by omega)]
    · rw [if_neg (by omega), List.getElem?_eq_none (by rw [upTo_length]; omega), List.getElem?_eq_none (by rw [upTo_length]; omega)]
  rw [e]; rfl
theorem row_last {wr : World} {g : Nat} {f : Nat → UInt8} (hr : BRow wr g (mixR f (upF f) 0)) :
    wr.cell? ⟨g, 15, none⟩ = some (.int .u8 ((upF f 15).toNat : Int)) ∧ wr.frozen? ⟨g, 15, none⟩ = false ∧ BRow (wr.setCell ⟨g, 15, none⟩ (.int .u8 ((upF f 15 ^^^ 135).toNat : Int))) g ((mixR f (upF f) 0).set 15 (upF f 15 ^^^ 135)) := by
  have hl : 15 < (mixR f (upF f) 0).length := by rw [mixR_length]; omega
  refine ⟨?_, hr.free 15 hl, hr.set 15 hl _⟩
  rw [hr.cells 15 hl]
  have e : (mixR f (upF f) 0)[15]? = some (upF f 15) := by
    unfold mixR
    rw [upTo_at _ 16 15 (by omega), if_neg (by omega)]
  rw [List.getElem?_eq_getElem hl] at e
  rw [Option.some.inj e]; rfl
/-- Doubled as the document tells it, or nothing. -/
def dblI (s : ByteArray) : ByteArray := if s.size = 16 then dblT s else ⟨#[]⟩
theorem dblI_yes (s : ByteArray) (h : s.size = 16) : dblI s = dblT s := if_pos h
theorem dblI_no (s : ByteArray) (h : ¬ s.size = 16) : dblI s = ⟨#[]⟩ := if_neg h
end Go.Proofs.Ytbcaldhcgoclgaa
set_option linter.unusedVariables false
set_option linter.unusedSimpArgs false
namespace Go.Proofs.Ytbcaldhcgoclgaa
open Go Go.RowKit

theorem wd_getW (t : ByteArray) (i : Nat) : wb (getW t i) 0 = byteOf t i ∧ wb (getW t i) 1 = byteOf t (i + 1) ∧ wb (getW t i) 2 = byteOf t (i + 2) ∧ wb (getW t i) 3 = byteOf t (i + 3) := by
  unfold getW
  exact ⟨wb0_mk _ _ _ _, wb1_mk _ _ _ _, wb2_mk _ _ _ _, wb3_mk _ _ _ _⟩
/-- a half as a value: two words put together. -/
theorem half_or (x y : Nat) (hx : x < 4294967296) (hy : y < 4294967296) : bits .or .u64 ((x : Int) * 4294967296) (y : Int) = ((x * 4294967296 + y : Nat) : Int) := by
  have h := nat_or_add x y 32 (by omega)
  rw [show (2 : Nat) ^ 32 = 4294967296 by rfl] at h
  rw [show (x : Int) * 4294967296 = ((x * 4294967296 : Nat) : Int) by omega, u64_or_nat _ _ (by omega) (by omega), h]
set_option maxRecDepth 100000 in
set_option maxHeartbeats 1600000 in
theorem half_impl (s : ByteArray) (gt cap gp a : Nat) (ha : a + 8 ≤ 16) (hc1 : 16 ≤ cap) (hc2 : cap ≤ 9223372036854775807) (w : World)
    (hs : ∀ j, j < 16 → w.cell? ⟨gt, j, none⟩ = some (cell8 (byteOf s j))) (hp : w.cell? ⟨gp, 0, none⟩ = some (.slice (some ⟨gt, 0, none⟩) 16 cap)) :
    Calls Try.prog 32 #[.int .i64 (a : Int), .pointer (some ⟨gp, 0, none⟩)] w fun e w' => e = .returned (.int .u64 (((getW s a).toNat * 4294967296 + (getW s (a + 4)).toNat : Nat) : Int)) ∧ Below w.heap.size w w' := by
  have HG : ∀ i : Nat, i + 4 ≤ 16 → Hid (∀ k, Calls Try.prog 33 #[.slice (some ⟨gt, 0, none⟩) 16 cap, .int .i64 (i : Int)] (w.drewN k) fun e w' => e = .returned (.int .u32 (getW s i).toNat) ∧ w' = w.drewN k) := fun i hi => Lib.hid fun k => by
    obtain ⟨b0, b1, b2, b3⟩ := wd_getW s i
    have hh := get_impl gt 16 cap i (getW s i) (w.drewN k) (by omega) hc1 hc2 ⟨by rw [b0]; exact hs _ (by omega), by rw [b1]; exact hs _ (by omega), by rw [b2]; exact hs _ (by omega), by rw [b3]; exact hs _ (by omega)⟩
    exact hh.mono fun e w' ⟨e1, e2⟩ => ⟨e1, e2.symm⟩
  have G1 := HG a (by omega)
  have G2 := HG (a + 4) (by omega)
  have hx := w32_lt (getW s a)
  have hy := w32_lt (getW s (a + 4))
  obtain ⟨X, hX⟩ : ∃ X, (getW s a).toNat = X := ⟨_, rfl⟩
  obtain ⟨Y, hY⟩ : ∃ Y, (getW s (a + 4)).toNat = Y := ⟨_, rfl⟩
  rw [hX] at hx G1 ⊢
  rw [hY] at hy G2 ⊢
  have hor := half_or X Y hx hy
  obtain ⟨z, hz⟩ : ∃ z, X * 4294967296 + Y = z := ⟨_, rfl⟩
  rw [hz] at hor ⊢
  clear hX hY hz
  have q1 : IntKind.i64.wrap ((a : Int) + 4) = (a : Int) + 4 := IntWalk.i64_in _ (by omega)
  rw [show ((a + 4 : Nat) : Int) = (a : Int) + 4 by omega] at G2
  have ha0 : (a : Int) ≤ 8 := by omega
  have HB : Hid (∀ k, Below w.heap.size w (w.drewN k)) := Lib.hid fun k => ⟨rfl, rfl, rfl, Nat.le_refl _, fun _ _ => rfl⟩
  clear HG hs
  go_enter Try.func32, Try.ntmps32
  go_wp2
  go_quiet ((go_at_call 33; first | (with_reducible exact Calls.quiet_of_same (G1.out _)) | (with_reducible exact Calls.quiet_of_same (G2.out _))))
  go_wp2
  go_ret
  exact ⟨rfl, HB.out _⟩
theorem bytes_brow2 (s : ByteArray) (hs : s.size ≤ 1073741824) (w : World) :
    ∃ cap w2, (convert 9 22 (.string s)).run Try.prog w = .ok (.slice (some ⟨w.heap.size, 0, none⟩) s.size cap) w2 ∧ BRow w2 w.heap.size s.data.toList ∧ Below w.heap.size w w2 ∧ s.size ≤ cap ∧ cap ≤ 9223372036854775807 := by
  obtain ⟨cap, w2, h1, h2, h3⟩ := bytes_brow s w
  refine ⟨cap, w2, h1, h2, h3, ?_⟩
  have h := run_bytes_of_string (P := Try.prog) w 9 22 5 s Try.underlying9 Try.underlying22 Try.underlying5
  rw [h1] at h
  have e : cap = grownCap w s.size 0 5 := by
    injection h with h _
    injection h
  rw [e]
  have hm := grownCap_le_maxLen w s.size 0 5 (by unfold maxLen; omega)
  unfold maxLen at hm
  exact ⟨grownCap_ge _ _ _ _, by omega⟩
/-- two halves as a value. -/
def wdV (h l : Nat) : Value := .agg #[.int .u64 (h : Int), .int .u64 (l : Int)]
theorem hlf_0 (s : ByteArray) : (getW s 0).toNat * 4294967296 + (getW s (0 + 4)).toNat = hlfN s 0 := by
  have h1 : getW s 0 = colW s 0 := by unfold colW; rw [show 4 * 0 = 0 by omega]
  have h2 : getW s (0 + 4) = colW s (0 + 1) := by unfold colW; rw [show 4 * (0 + 1) = 0 + 4 by omega]
  rw [h1, h2]; unfold hlfN; exact Eq.refl _
theorem hlf_8 (s : ByteArray) : (getW s 8).toNat * 4294967296 + (getW s (8 + 4)).toNat = hlfN s 2 := by
  have h1 : getW s 8 = colW s 2 := by unfold colW; rw [show 4 * 2 = 8 by omega]
  have h2 : getW s (8 + 4) = colW s (2 + 1) := by unfold colW; rw [show 4 * (2 + 1) = 8 + 4 by omega]
  rw [h1, h2]; unfold hlfN; exact Eq.refl _
theorem two_size (a b : Value) : (#[a, b] : Array Value).size = 2 := rfl
theorem two_one (k : IntKind) (a b : Int) : (#[Value.int k a, .int k b] : Array Value).all (·.oneCell') = true := by kernel_rfl
theorem wide_info : (Try.prog.info? 34).map (·.size) = some 2 := by kernel_rfl
set_option maxRecDepth 100000 in
set_option maxHeartbeats 1600000 in
theorem wideOf_impl (s : ByteArray) (hs : s.size = 16) (w : World) :
    Calls Try.prog 18 #[.string s] w fun e w' => e = .returned (wdV (hlfN s 0) (hlfN s 2)) ∧ Below w.heap.size w w' := by
  have hmf : ∀ (fn : Fn) (first cap : Array Value) (w : World), (Instr.makeFunc fn first cap).run Try.prog w = .ok (.func fn first cap) w := fun _ _ _ _ => rfl
  obtain ⟨cap, W1, hconv, hrow, hbel, hcap1, hcap2⟩ := bytes_brow2 s (by omega) (w.alloc (.cells #[.int .u64 0, .int .u64 0] 34))
  rw [hs] at hconv hcap1
  have hsz : (w.alloc (.cells #[.int .u64 0, .int .u64 0] 34)).heap.size = w.heap.size + 1 := by simp
  rw [hsz] at hrow hbel
  have hg1 : W1.heap[w.heap.size]? = some (.cells #[.int .u64 0, .int .u64 0] 34 (0, 0)) := (hbel.block _ (by omega)).trans (heap_alloc_new w _)
  have hb1 : Below w.heap.size w W1 := ((Below.refl _ _).alloc (Nat.le_refl _) _).trans (hbel.mono (by omega))
  obtain ⟨W2, hW2⟩ : ∃ W2, W1.alloc (.cells #[.slice (some ⟨w.heap.size + 1, 0, none⟩) 16 cap] 22) = W2 := ⟨_, rfl⟩
  have hl1 : w.heap.size + 1 < W1.heap.size := hrow.lt
  have hb2 : Below W1.heap.size W1 W2 := by rw [← hW2]; exact (Below.refl _ _).alloc (Nat.le_refl _) _
  have hl2 : W1.heap.size < W2.heap.size := by rw [← hW2]; simp
  have hp2 : W2.cell? ⟨W1.heap.size, 0, none⟩ = some (.slice (some ⟨w.heap.size + 1, 0, none⟩) 16 cap) := by rw [← hW2]; exact (cell_of_row _ W1.heap.size 0 _ _ _ (heap_alloc_new W1 _)).trans rfl
  have hr2 := hrow.below hb2
  have hs16 : s.data.toList.length = 16 := by simpa using hs
  have HH := fun a ha (W : World) (hB : Below W2.heap.size W2 W) => Lib.hid (half_impl s (w.heap.size + 1) cap W1.heap.size a ha hcap1 hcap2 W (fun j hj => by
      have h := (BRow.below hr2 hB).cells j (by omega)
      rw [h, ← byteOf_at s j (by omega)]
      rfl) ((hB.cell (p := ⟨W1.heap.size, 0, none⟩) hl2).trans hp2))
  have e0 := hlf_0 s
  have e8 := hlf_8 s
  have HH0 := HH 0 (by omega)
  have HH8 := HH 8 (by omega)
  rw [e0] at HH0
  rw [e8] at HH8
  clear HH e0 e8
  generalize hlfN s 0 = h at *
  generalize hlfN s 2 = l at *
  have hsi : (Try.prog.info? 34).map (·.size) = some (#[Value.int .u64 (h : Int), .int .u64 (l : Int)] : Array Value).size := by rw [two_size]; exact wide_info
  have hone : (#[Value.int .u64 (h : Int), .int .u64 (l : Int)] : Array Value).all (·.oneCell') = true := two_one _ _ _
  have hz : (#[Value.int .u64 0, .int .u64 0] : Array Value).size = (#[Value.int .u64 (h : Int), .int .u64 (l : Int)] : Array Value).size := by rw [two_size, two_size]
  clear hrow hbel hr2
  go_enter Try.func18, Try.ntmps18
  go_wp2_with fail
  refine (HH0 W2 (Below.refl _ _)).out.mono ?_; rintro e w3 ⟨rfl, hb3⟩
  go_wp2_with fail
  refine (HH8 w3 hb3).out.mono ?_; rintro e w4 ⟨rfl, hb4⟩
  have hb24 := hb3.trans (hb4.mono hb3.size)
  have hg4 : w4.heap[w.heap.size]? = some (.cells #[.int .u64 0, .int .u64 0] 34 (0, 0)) := (hb24.block _ (by omega)).trans ((hb2.block _ (by omega)).trans hg1)
  have hbw : Below w.heap.size w w4 := (hb1.trans (hb2.mono (by omega))).trans (hb24.mono (by omega))
  have G4 := Lib.hid hg4
  have G5 := Lib.hid (setRow_heap w4 _ _ #[Value.int .u64 (h : Int), .int .u64 (l : Int)] _ _ hg4)
  have HB := Lib.hid (below_setRow hbw (Nat.le_refl _) #[Value.int .u64 (h : Int), .int .u64 (l : Int)])
  clear hg4 hb24 hb4 hb3 hbw HH0 HH8 hb1 hb2 hg1 hp2
  go_wp2_with (refine wpList_store_row rfl 34 _ _ rfl w.heap.size #[Value.int .u64 (h : Int), .int .u64 (l : Int)] rfl rfl 34 _ G4.out hsi hz hone ?_)
  refine bodyPost_ret (v := wdV h l) ?_ rfl ⟨rfl, HB.out⟩
  exact results_cell_row rfl _ _ w.heap.size 34 #[Value.int .u64 (h : Int), .int .u64 (l : Int)] (0, 0) _ rfl G5.out Try.underlying34 rfl hsi
theorem wide_two (w : World) (A B : Array Value) (t u : TypeId) : ((w.alloc (.cells A t)).alloc (.cells B u)).heap[w.heap.size]? = some (.cells A t (0, 0)) ∧ ((w.alloc (.cells A t)).alloc (.cells B u)).heap[w.heap.size + 1]? = some (.cells B u (0, 0)) ∧ Below w.heap.size w ((w.alloc (.cells A t)).alloc (.cells B u)) ∧ ((w.alloc (.cells A t)).alloc (.cells B u)).heap.size = w.heap.size + 1 + 1 :=
  ⟨heap_alloc2_old _ _ _, heap_alloc2_new _ _ _, ((Below.refl _ _).alloc (Nat.le_refl _) _).alloc (by simp) _, by simp⟩
set_option maxRecDepth 100000 in
set_option maxHeartbeats 1600000 in
theorem wblock_impl (h l : Nat) (hh : h < 18446744073709551616) (hl : l < 18446744073709551616) (w : World) :
    Calls Try.prog 20 #[wdV h l] w fun e w' => e = .returned (.string (ofW (halW h l))) ∧ Below w.heap.size w w' := by
  have hh0 : (0 : Int) ≤ (h : Int) := by omega
  have hl0 : (0 : Int) ≤ (l : Int) := by omega
  have hh1 : (h : Int) < 18446744073709551616 := by omega
  have hl1 : (l : Int) < 18446744073709551616 := by omega
  obtain ⟨_, g2, hb, hsz⟩ := wide_two w #[Value.int .u64 (h : Int), .int .u64 (l : Int)] #[Value.int .u32 ((h : Int) / 4294967296), .int .u32 ((h : Int) % 4294967296), .int .u32 ((l : Int) / 4294967296), .int .u32 ((l : Int) % 4294967296)] 34 50
  obtain ⟨W, hW⟩ : ∃ W, (w.alloc (.cells #[Value.int .u64 (h : Int), .int .u64 (l : Int)] 34)).alloc (.cells #[Value.int .u32 ((h : Int) / 4294967296), .int .u32 ((h : Int) % 4294967296), .int .u32 ((l : Int) / 4294967296), .int .u32 ((l : Int) % 4294967296)] 50) = W := ⟨_, rfl⟩
  rw [hW] at g2 hb hsz
  have HC : Hid (Calls Try.prog 36 #[.slice (some ⟨w.heap.size + 1, 0, none⟩) 4 4] W fun e w' => e = .returned (.string (ofW (halW h l))) ∧ Below W.heap.size W w') := Lib.hid (by
    refine blockOf_impl (halW h l) (w.heap.size + 1) 0 4 W (by omega) (fun j hj => ?_)
    rw [Nat.zero_add, cell_of_row W _ j _ _ _ g2]
    have h4 : j = 0 ∨ j = 1 ∨ j = 2 ∨ j = 3 := by omega
    rcases h4 with rfl | rfl | rfl | rfl
    · rw [halW_0 h l hh]; rfl
    · rw [halW_1 h l]; rfl
    · rw [halW_2 h l hl]; rfl
    · rw [halW_3 h l]; rfl)
  have HB := Lib.hid hb
  have HS := Lib.hid hsz
  clear g2 hb hsz
  generalize ofW (halW h l) = r at *
  clear hh hl
  unfold wdV
  go_enter Try.func20, Try.ntmps20
  go_wp2_with fail
  refine HC.out.mono ?_; rintro e w1 ⟨rfl, hb1⟩
  have HB1 := Lib.hid (HB.out.trans (hb1.mono (by have := HS.out; omega)))
  clear hb1 hW
  go_wp2
  go_ret
  exact ⟨rfl, HB1.out⟩
theorem wrap_twice (h : Nat) : IntKind.u64.wrap ((h : Int) * 2) = ((h * 2 % 18446744073709551616 : Nat) : Int) := by rw [IntKind.wrap_u64]; omega
theorem twice_or (h l : Nat) (hl : l < 18446744073709551616) :
    bits .or .u64 (IntKind.u64.wrap ((h : Int) * 2)) ((l : Int) / 9223372036854775808) = ((h * 2 % 18446744073709551616 + l / 9223372036854775808 : Nat) : Int) := by
  have e1 : h * 2 % 18446744073709551616 = (h % 9223372036854775808) * 2 := by omega
  have e2 : (l : Int) / 9223372036854775808 = ((l / 9223372036854775808 : Nat) : Int) := by omega
  have hb : l / 9223372036854775808 < 2 := by omega
  have hq : h % 9223372036854775808 < 9223372036854775808 := Nat.mod_lt _ (by omega)
  rw [wrap_twice, e1, e2]
  generalize l / 9223372036854775808 = b at *
  generalize h % 9223372036854775808 = q at *
  have h3 := nat_or_add q b 1 (by omega)
  rw [Nat.pow_one] at h3
  rw [u64_or_nat _ _ (by omega) (by omega), h3]
theorem twice_xor (h l : Nat) (hh : h < 18446744073709551616) :
    bits .xor .u64 (IntKind.u64.wrap ((l : Int) * 2)) ((h : Int) / 9223372036854775808 * 135) = ((l * 2 % 18446744073709551616 ^^^ h / 9223372036854775808 * 135 : Nat) : Int) := by
  have e2 : (h : Int) / 9223372036854775808 * 135 = ((h / 9223372036854775808 * 135 : Nat) : Int) := by omega
  have h1 : h / 9223372036854775808 * 135 < 18446744073709551616 := by omega
  have h2 : l * 2 % 18446744073709551616 < 18446744073709551616 := Nat.mod_lt _ (by omega)
  rw [wrap_twice, e2]
  generalize h / 9223372036854775808 * 135 = a at *
  generalize l * 2 % 18446744073709551616 = b at *
  exact u64_xor_nat b a h2 h1
theorem dbl_lt (s : ByteArray) : hlfN s 0 * 2 % 18446744073709551616 + hlfN s 2 / 9223372036854775808 < 18446744073709551616 ∧ (hlfN s 2 * 2 % 18446744073709551616) ^^^ (hlfN s 0 / 9223372036854775808 * 135) < 18446744073709551616 := by
  have h0 := hlfN_lt s 0
  have h2 := hlfN_lt s 2
  refine ⟨by omega, Nat.xor_lt_two_pow (n := 64) (Nat.mod_lt _ (by omega)) ?_⟩
  have : hlfN s 0 / 9223372036854775808 * 135 < 18446744073709551616 := by omega
  exact this
end Go.Proofs.Ytbcaldhcgoclgaa
