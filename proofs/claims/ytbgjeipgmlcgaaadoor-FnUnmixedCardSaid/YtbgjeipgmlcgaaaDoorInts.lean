/-
  Lists of integers: what a world holds of them; toIntS and eqIntS of the exact laws.
-/
import Derived.Test.YtbgjeipgmlcgaaaDoorProg
import Derived.WalkKit
import Derived.LoopTactic
import Derived.OwnWalk
import Derived.WalkLawsBesides
import Derived.WalkSpells
import Derived.Outline
import Derived.Below
import Derived.Lib.Hide
import Derived.Laws.AppendOwn
import Derived.Laws.OwnMore
import Derived.Laws.MakeOwn
import Derived.Deep.QuietTactic
import Derived.Deep.Draws
import Derived.BigQuiet
import Derived.WalkSmall
import Derived.IntWalk
import Derived.StillTailTactics
import Derived.Deep.RegionHeld3
import Derived.Deep.DrawnRows
import Derived.Deep.AppendLies
import Derived.Lib.SlBytesRow
set_option linter.unusedVariables false
namespace Go.Proofs.YtbgjeipgmlcgaaaDoor
open Go.RowKit
attribute [local go_sem ↓] Go.wp_at_zero Go.wp_at_succ

def cells64 (l : List Int) : List Value := l.map (Value.int .i64)
/-- The integers can be read. -/
def IRow (w : World) (A : Option Addr) (n : Nat) (l : List Int) : Prop :=
  l.length = n ∧ ∀ j (h : j < l.length), ∃ b o, A = some ⟨b, o, none⟩ ∧ b < w.heap.size ∧ w.cell? ⟨b, o + j, none⟩ = some (.int .i64 l[j])
theorem IRow.below {w w' : World} {n : Nat} {A : Option Addr} {l : List Int} (h : IRow w A n l) (hb : Below w.heap.size w w') : IRow w' A n l :=
  ⟨h.1, fun j hj => by
    obtain ⟨b, o, hA, hg, hc⟩ := h.2 j hj
    exact ⟨b, o, hA, Nat.lt_of_lt_of_le hg hb.size, (hb.cell (p := ⟨b, o + j, none⟩) hg).trans hc⟩⟩
theorem IRow.drewN {w : World} {n : Nat} {A : Option Addr} {l : List Int} (h : IRow w A n l) (k : Nat) : IRow (w.drewN k) A n l := h
theorem own_irow {w : World} {base n c : Nat} {A : Option Addr} {l : List Int} (h : w.ownsRow base 3 1 (.slice A n c) n (cells64 l)) : IRow w A n l := by
  have hl : l.length = n := by have := h.1; simpa [cells64] using this
  refine ⟨hl, fun j hj => ?_⟩
  obtain ⟨g, cap, hv, hb, hg⟩ := h.form (by omega)
  have hA : A = some ⟨g, 0, none⟩ := by injection hv
  subst hA
  refine ⟨g, 0, rfl, hg, ?_⟩
  rw [Nat.zero_add, h.cellAt j (by omega), cells64, List.getElem?_map, List.getElem?_eq_getElem hj]
  rfl
def mk64 (n : Nat) : Array Value := madeCells #[.int .i64 0] n
theorem mk64_size (n : Nat) : (mk64 n).size = n := size_madeCells _ _
theorem run_make64 {P : Program} {t e : TypeId} {i : TypeInfo} (ht : P.underlying t = some (.slice e)) (hi : P.info? e = some i) (hz : i.zero = some (.int .i64 0)) (h1 : i.size = 1) (h2 : i.bytes = 8)
    (l c : Nat) (hlc : l ≤ c) (hc : c ≤ 35184372088832) (w : World) :
    (Instr.makeSlice t (.int .i64 (l : Int)) (.int .i64 (c : Int))).run P w = .ok (.slice (some ⟨w.heap.size, 0, none⟩) l c) (w.alloc (.cells (mk64 c) e)) := by
  have := run_make (P := P) w t e i (.int .i64 0) ht hi hz .i64 .i64 l c (by omega) (by omega) (by rw [h2]; omega) (by omega)
  rw [this]
  simp [h1, mk64, Value.cells]
theorem mk64_list (n : Nat) : (mk64 n).toList = cells64 (List.replicate n 0) := by
  unfold mk64
  rw [toList_madeCells_one]
  simp [cells64]
/-- the first k of l, then noughts. -/
def fillTo (l : List Int) (k : Nat) : List Int := l.take k ++ List.replicate (l.length - k) 0
theorem fillTo_zero (l : List Int) : fillTo l 0 = List.replicate l.length 0 := by simp [fillTo]
theorem fillTo_all (l : List Int) (k : Nat) (h : l.length ≤ k) : fillTo l k = l := by
  unfold fillTo
  rw [List.take_of_length_le h, show l.length - k = 0 by omega]
  simp
theorem fillTo_length (l : List Int) (k : Nat) (h : k ≤ l.length) : (fillTo l k).length = l.length := by
  unfold fillTo
  rw [List.length_append, List.length_take, List.length_replicate]; omega
theorem fillTo_set (l : List Int) (k : Nat) (h : k < l.length) : (fillTo l k).set k l[k] = fillTo l (k + 1) := by
  have h1 : (l.take k).length = k := by rw [List.length_take]; omega
  unfold fillTo
  rw [List.take_succ_eq_append_getElem h, List.set_append_right _ _ (by omega), h1, Nat.sub_self, show l.length - k = (l.length - (k + 1)) + 1 by omega, List.replicate_succ, List.set_cons_zero, List.append_assoc]
  rfl
theorem info64 : (Tryd.prog.info? 3).map (fun i => (i.zero, i.size, i.bytes)) = some (some (.int .i64 0), 1, 8) := by kernel_rfl

set_option maxRecDepth 100000 in
set_option maxHeartbeats 1600000 in
/-- eqIntS of two lists that hold the same integers. -/
theorem eqi_any (w : World) (A A' : Option Addr) (n c c' : Nat) (l : List Int) (h : IRow w A n l) (h' : IRow w A' n l) (hn : n ≤ 4611686018427387904) :
    Calls Tryd.prog 27 #[.slice A n c, .slice A' n c'] w fun e w' => e = .returned (.bool true) ∧ ∃ k, w' = w.drewN k := by
  have H := Lib.hid h
  have H' := Lib.hid h'
  clear h h'
  go_enter Tryd.func27, Tryd.ntmps27
  go_wp2
  go_loopw [5] (fun i wr => ∃ k q : Nat, k ≤ n ∧ i = .int .i64 k ∧ wr = w.drewN q) (fun i _ => n - (intOf i).toNat)
  case atStart => exact ⟨0, 0, Nat.zero_le _, rfl, rfl⟩
  case round =>
    obtain ⟨k, q, hk, rfl, rfl⟩ := hrel
    by_cases hlt : k < n
    · obtain ⟨g, o, rfl, hg, hc⟩ := H.out.2 k (by have := H.out.1; omega)
      obtain ⟨g', o', rfl, hg', hc'⟩ := H'.out.2 k (by have := H'.out.1; omega)
      have hk0 : (0 : Int) ≤ (k : Int) := by omega
      have hk1 : (k : Int) < (n : Int) := by omega
      generalize l[k]'(by have := H.out.1; omega) = x at *
      go_wp2
      go_quiet (fail)
      go_wp2
      go_roundw
      case rel => exact ⟨k + 1, _, by omega, by go_num, rfl⟩
      case measure => simp [intOf]; omega
    · have hk1 : ¬ (k : Int) < (n : Int) := by omega
      go_wp2
      go_ret
      exact ⟨rfl, q, rfl⟩
theorem irow_block {w : World} {b : Nat} {T : TypeId} (l : List Int) (hb : w.heap[b]? = some (.cells (l.map (Value.int .i64)).toArray T (0, 0))) : IRow w (some ⟨b, 0, none⟩) l.length l := by
  have hlt : b < w.heap.size := by
    rcases Nat.lt_or_ge b w.heap.size with h | h
    · exact h
    · rw [Array.getElem?_eq_none h] at hb; cases hb
  refine ⟨rfl, fun j hj => ⟨b, 0, rfl, hlt, ?_⟩⟩
  rw [Nat.zero_add]
  refine (cell_of_row w b j _ T (0, 0) hb).trans ?_
  simp [List.getElem?_eq_getElem hj]
end Go.Proofs.YtbgjeipgmlcgaaaDoor
