/-
  Texts of which each byte is changed: impl.eachByte, impl.SubText, impl.UnsubText, spec.SubText, spec.UnsubText.
-/
import Derived.Test.YtbgjeipgmlcgaaaDoorProg
import Derived.Test.YtbgjeipgmlcgaaaDoorMath
import Derived.Test.YtbgjeipgmlcgaaaDoorKit
import Derived.Test.YtbgjeipgmlcgaaaDoorAffS
import Derived.Test.YtbgjeipgmlcgaaaDoorBoxI
import Derived.Deep.QuietTactic
import Derived.BigQuiet
import Derived.IntWalk
import Derived.WalkKit
import Derived.LoopTactic
import Derived.OwnWalk
import Derived.WalkLawsBesides
import Derived.WalkSpells
import Derived.Outline
import Derived.Below
import Derived.Laws.AppendOwn
import Derived.Laws.OwnMore
import Derived.StillTailTactics
import Derived.Deep.OwnRows
import Derived.Deep.RegionHeld3
import Derived.Deep.DrawnRows
import Derived.Deep.AppendLies
import Derived.Deep.DeepFit
import Derived.Handy
set_option linter.unusedVariables false
namespace Go.Proofs.YtbgjeipgmlcgaaaDoor
open Go.RowKit

attribute [local go_sem ↓] Go.wp_at_zero Go.wp_at_succ

/-- the text with f of each byte. -/
def mapT (f : UInt8 → UInt8) (s : ByteArray) : ByteArray := ⟨(s.data.toList.map f).toArray⟩
theorem mapT_size (f : UInt8 → UInt8) (s : ByteArray) : (mapT f s).size = s.size := by
  show ((s.data.toList.map f).toArray).size = s.data.size
  simp
/-- the first k bytes, changed. -/
def mapTo (f : UInt8 → UInt8) (s : ByteArray) (k : Nat) : List UInt8 := (s.data.toList.take k).map f
theorem mapTo_snoc (f : UInt8 → UInt8) (s : ByteArray) (k : Nat) (h : k < s.size) : mapTo f s (k + 1) = mapTo f s k ++ [f s[k]] := by
  unfold mapTo; rw [take_snoc s k h]; simp
theorem mapTo_all (f : UInt8 → UInt8) (s : ByteArray) (k : Nat) (h : s.size ≤ k) : (⟨(mapTo f s k).toArray⟩ : ByteArray) = mapT f s := by
  unfold mapTo mapT; rw [List.take_of_length_le (by simp; omega)]
theorem mapTo_length (f : UInt8 → UInt8) (s : ByteArray) (k : Nat) (h : k ≤ s.size) : (mapTo f s k).length = k := by
  have : s.data.toList.length = s.size := by simp
  simp [mapTo, List.length_take]; omega
theorem ret_text {a b : ByteArray} (h : a = b) : Ending.returned (.string a) = .returned (.string b) := by rw [h]
/-- a row of n bytes whose first k are changed. -/
def mapRow (f : UInt8 → UInt8) (s : ByteArray) (k n : Nat) : List UInt8 := mapTo f s k ++ List.replicate (n - k) 0
theorem mapRow_zero (f : UInt8 → UInt8) (s : ByteArray) (n : Nat) : mapRow f s 0 n = List.replicate n 0 := by simp [mapRow, mapTo]
theorem mapRow_length (f : UInt8 → UInt8) (s : ByteArray) (k n : Nat) (hn : n ≤ s.size) (hk : k ≤ n) : (mapRow f s k n).length = n := by
  rw [mapRow, List.length_append, mapTo_length f s k (by omega)]; simp; omega
theorem mapRow_set (f : UInt8 → UInt8) (s : ByteArray) (k n : Nat) (hn : n ≤ s.size) (hk : k < n) : (mapRow f s k n).set k (f (s[k]'(by omega))) = mapRow f s (k + 1) n := by
  have h := mapTo_length f s k (by omega)
  unfold mapRow
  rw [mapTo_snoc f s k (by omega), List.set_append_right _ _ (by omega), h, Nat.sub_self, show n - k = (n - (k + 1)) + 1 by omega, List.replicate_succ]
  simp
theorem mapRow_all (f : UInt8 → UInt8) (s : ByteArray) (k : Nat) (h : k = s.size) : (⟨(mapRow f s k s.size).toArray⟩ : ByteArray) = mapT f s := by
  rw [mapRow, show s.size - k = 0 by omega, List.replicate_zero, List.append_nil, mapTo_all f s k (by omega)]

set_option maxRecDepth 100000 in
set_option maxHeartbeats 1600000 in
theorem each_impl (f : UInt8 → UInt8) (s : ByteArray) (w : World) (g : Nat) (hg : BoxAt w g f) (hs : s.size ≤ 1073741824) :
    Calls Tryd.prog 91 #[.string s, reader g] w fun e w' => e = .returned (.string (mapT f s)) ∧ Below w.heap.size w w' := by
  obtain ⟨i0, hi, hz0, hz1, hz2⟩ := info_parts Tryd.info5
  have hmk := run_make8 Tryd.underlying22 hi hz0 hz1 hz2 s.size s.size (by omega) (by omega) w
  have hgl := hg.lt
  have HG := Lib.hid hg
  unfold reader
  clear hg
  go_enter Tryd.func91, Tryd.ntmps91
  go_wp2
  clear hmk
  go_loopw [12] (fun i wr => ∃ k : Nat, k ≤ s.size ∧ i = .int .i64 k ∧ wr.ownsRow w.heap.size 5 1 (.slice (some ⟨w.heap.size, 0, none⟩) s.size s.size) s.size (cells8 (mapRow f s k s.size)) ∧ Below w.heap.size w wr) (fun i _ => s.size - (intOf i).toNat)
  case atStart =>
    refine ⟨0, Nat.zero_le _, rfl, ?_, (Below.refl _ _).alloc (Nat.le_refl _) _⟩
    have h0 := World.ownsRow_lit w (e := 5) (size := 1) (mk8 s.size) s.size (Nat.le_refl w.heap.size) (by unfold maxLen; omega) (by rw [mk8_size]; omega)
    rw [mk8_list] at h0
    rw [mapRow_zero]
    exact h0
  case round =>
    obtain ⟨k, hk, rfl, hown, hbel⟩ := hrel
    by_cases hlt : k < s.size
    · have hka : k < s.size := by omega
      have hc := s[k].toNat_lt
      have hc' : (s[k].toNat : Int) < 256 := by omega
      have hk0 : (0 : Int) ≤ (k : Int) := by omega
      have hk1 : (k : Int) < (s.size : Int) := by omega
      clear hc
      obtain ⟨u, hcell⟩ : ∃ u, wr.cell? ⟨w.heap.size, k, none⟩ = some u := by
        have hl : (cells8 (mapRow f s k s.size)).length = s.size := by rw [cells8_length, mapRow_length f s k s.size (by omega) hk]
        exact ⟨_, (hown.cellAt k (by omega)).trans (List.getElem?_eq_getElem (by omega))⟩
      have hfr := hown.frozenAt k
      have hown2 := hown.stored k (cell8 (f s[k]))
      have hbel2 : Below w.heap.size w (wr.setCell ⟨w.heap.size, k, none⟩ (cell8 (f s[k]))) := hbel.setCell (Nat.le_refl _) _
      have hcs : (cells8 (mapRow f s k s.size)).set k (cell8 (f s[k])) = cells8 (mapRow f s (k + 1) s.size) := by rw [← mapRow_set f s k s.size (by omega) hlt]; simp [cells8, List.map_set]
      rw [hcs] at hown2
      unfold cell8 at hown2 hbel2
      have HO := Lib.hid hown2
      have HB := Lib.hid hbel2
      have hgw := HG.out.below hbel hgl
      have HR := fun W => Lib.hid (reads f s[k] W g)
      have HGW := Lib.hid hgw
      clear hown2 hbel2 hcs hgw
      go_wp2_with fail
      refine ((HR _).out HGW.out).mono ?_; rintro e w' ⟨rfl, rfl⟩
      go_wp2
      go_roundw
      case rel => exact ⟨k + 1, by omega, by go_num, HO.out.1, HB.out⟩
      case measure => simp [intOf]; omega
    · have hconv := run_string_own Tryd.underlying22 Tryd.underlying5 Tryd.underlying9 hown
      have hk1 : ¬ (k : Int) < (s.size : Int) := by omega
      go_wp2
      go_ret
      exact ⟨ret_text (mapRow_all f s k (by omega)), hbel⟩
set_option maxRecDepth 100000 in
set_option maxHeartbeats 800000 in
theorem SubText_impl (s : ByteArray) (w : World) (hs : s.size ≤ 1073741824) :
    Calls Tryd.prog 87 #[.string s] w fun e w' => e = .returned (.string (mapT sbox s)) ∧ Below w.heap.size w w' := by
  obtain ⟨T, hT⟩ : ∃ T, tabOf sbox = T := ⟨_, rfl⟩
  have HT := Lib.hid hT
  have HS := subBox_any w
  rw [hT] at HS
  clear hT
  go_enter Tryd.func87, Tryd.ntmps87
  go_wp2_with fail
  refine HS.mono ?_; rintro e w1 ⟨rfl, hb⟩
  go_wp2_with fail
  refine (readerOf_impl T w1).mono ?_; rintro e w' ⟨rfl, rfl⟩
  go_wp2_with fail
  refine (each_impl sbox s _ w1.heap.size (BoxAt.is w1 HT.out) hs).mono ?_; rintro e w2 ⟨rfl, hb2⟩
  have hb3 := hb.alloc hb.size (.cells T 89)
  have hb4 := hb3.trans (hb2.mono hb3.size)
  clear hb hb2 hb3
  go_wp2
  go_ret
  exact ⟨rfl, hb4⟩
theorem Sub_spec8 (c : UInt8) (w : World) :
    Calls Tryd.prog 75 #[.int .i64 c.toNat] w fun e w' => e = .returned (.int .i64 (sbox c).toNat) ∧ w = w' := by
  have := Sub_spec (c.toNat : Int) w
  rwa [b8_of] at this
theorem map_rel {f : UInt8 → UInt8} {s : ByteArray} {w w2 w1 : World} {k : Nat} {e : TypeId} {u v : Value} {o : Obj} {x : UInt8} (hlt : k < s.size) (hx : f s[k] = x)
    (hown2 : w2.ownsRow w.heap.size e 1 u k (cells8 (mapTo f s k))) (hbel2 : Below w.heap.size w w2)
    (hown3 : w1.ownsRow w.heap.size e 1 v (k + 1) (cells8 (mapTo f s k) ++ [.int .u8 (x.toNat : Int)]))
    (hgrow : (w2.alloc o).grownBy w1 u.ownBlock) :
    w1.ownsRow w.heap.size e 1 v (k + 1) (cells8 (mapTo f s (k + 1))) ∧ Below w.heap.size w w1 := by
  refine ⟨?_, ?_⟩
  · rw [mapTo_snoc f s k hlt, cells8_append, hx]
    exact hown3
  · have h1 : Below w.heap.size w (w2.alloc o) := hbel2.alloc hbel2.size _
    exact h1.grown hgrow h1.size (fun b hb => (hown2.lt b hb).1)
set_option maxRecDepth 100000 in
set_option maxHeartbeats 800000 in
theorem SubText_spec (s : ByteArray) (w : World) (hs : s.size ≤ 1073741824) :
    Calls Tryd.prog 62 #[.string s] w fun e w' => e = .returned (.string (mapT sbox s)) ∧ Below w.heap.size w w' := by
  obtain ⟨i0, hi, hz0, hz1, hz2⟩ := info_parts Tryd.info5
  go_enter Tryd.func62, Tryd.ntmps62
  go_wp2
  go_loopw [3, 4] (fun v i wr => ∃ k : Nat, k ≤ s.size ∧ i = .int .i64 k ∧ wr.ownsRow w.heap.size 5 1 v k (cells8 (mapTo sbox s k)) ∧ Below w.heap.size w wr) (fun _ i _ => s.size - (intOf i).toNat)
  case atStart => exact ⟨0, Nat.zero_le _, rfl, World.ownsRow_lit w #[] 0 (Nat.le_refl _) (by simp [maxLen]) rfl, (Below.refl _ _).alloc (Nat.le_refl _) _⟩
  case round =>
    obtain ⟨k, hk, rfl, hown, hbel⟩ := hrel
    by_cases hlt : k < s.size
    · obtain ⟨x, hx⟩ : ∃ x, sbox s[k] = x := ⟨_, rfl⟩
      have HS := fun W => Lib.hid (Sub_spec8 s[k] W)
      simp only [hx] at HS
      have HX := Lib.hid hx
      clear hx
      have hc := s[k].toNat_lt
      have hc' : (s[k].toNat : Int) < 256 := by omega
      have hd := x.toNat_lt
      have hd' : (x.toNat : Int) < 256 := by omega
      have hk0 : (0 : Int) ≤ (k : Int) := by omega
      have hk1 : (k : Int) < (s.size : Int) := by omega
      clear hd hc
      go_wp2_with fail
      refine (HS _).out.mono ?_; rintro e w' ⟨rfl, rfl⟩
      go_wp2_with (at_builtin; refine stp ?_)
      refine unstp ?_
      refine wpList_append_lies _ rfl (.tmp 12) (.tmp 19) 22 rfl w.heap.size 5 i0 (.int .u8 0) 1 1 Tryd.underlying22 hi hz0 hz1 hz2 rfl (by decide) u3 k (cells8 (mapTo sbox s k)) rfl (hown.alloc _) ⟨wr.heap.size, 0, none⟩ 1 1 [.int .u8 (x.toNat : Int)] rfl rfl (World.news_of_block (cs := #[.int .u8 (x.toNat : Int)]) (heap_alloc_new wr _)) (by simp [Value.oneCell']) (by omega) (by unfold maxLen; omega) (by omega) (by have := hbel.size; simp; omega) (wr.heap.size + 1) (by simp) ?_
      intro g2 cap2 w5 hown5 hgrow hat hlt5
      have hrel := map_rel hlt HX.out hown hbel hown5 hgrow
      clear hown hbel hown5 hgrow hat hlt5
      go_wp2
      go_roundw
      case rel => exact ⟨k + 1, by omega, by go_num, hrel.1, hrel.2⟩
      case measure => simp [intOf]; omega
    · have hconv := run_string_own Tryd.underlying22 Tryd.underlying5 Tryd.underlying9 hown
      go_wp2
      go_ret
      exact ⟨ret_text (mapTo_all sbox s k (by omega)), hbel⟩
end Go.Proofs.YtbgjeipgmlcgaaaDoor
