/-
  Contracts and facts that the laws of this seat use: BRow.
-/
import Derived.Test.YtbfmbdohebdbaaaGreatDoorBase
import Derived.Test.YtbfmbdohebdbaaaGreatDoorPure
import Derived.Test.YtbfmbdohebdbaaaGreatDoorDraws
import Derived.Lib.SlBytesRow
set_option linter.unusedVariables false
set_option linter.unusedSimpArgs false
namespace Go.Proofs.YtbfmbdohebdbaaaGreatDoor
open Go.RowKit

/-- bytes of the call's own, made of a text: their cells can be read and written. -/
structure BRow (w : World) (g : Nat) (l : List UInt8) : Prop where
  lt : g < w.heap.size
  cells : ∀ j (h : j < l.length), w.cell? ⟨g, j, none⟩ = some (cell8 l[j])
  free : ∀ j, j < l.length → w.frozen? ⟨g, j, none⟩ = false
theorem BRow.below {w w' : World} {g : Nat} {l : List UInt8} (h : BRow w g l) (hb : Below w.heap.size w w') : BRow w' g l :=
  ⟨Nat.lt_of_lt_of_le h.lt hb.size, fun j hj => (hb.cell (p := ⟨g, j, none⟩) h.lt).trans (h.cells j hj), fun j hj => (hb.frozen (p := ⟨g, j, none⟩) h.lt).trans (h.free j hj)⟩
theorem BRow.drewN {w : World} {g : Nat} {l : List UInt8} (h : BRow w g l) (k : Nat) : BRow (w.drewN k) g l := ⟨h.lt, h.cells, h.free⟩
theorem BRow.set {w : World} {g : Nat} {l : List UInt8} (h : BRow w g l) (q : Nat) (hq : q < l.length) (x : UInt8) : BRow (w.setCell ⟨g, q, none⟩ (cell8 x)) g (l.set q x) := by
  refine ⟨by simpa [World.setCell] using h.lt, fun j hj => ?_, fun j hj => ?_⟩
  · have hj2 : j < l.length := by simpa using hj
    by_cases e : q = j
    · subst e
      rw [World.cell?_setCell_same _ _ _ (h.cells q hj2)]
      simp
    · rw [World.cell?_setCell_other (h := by intro h2; injection h2; omega), h.cells j hj2]
      simp [List.getElem_set, e]
  · rw [World.frozen?_setCell]; exact h.free j (by simpa using hj)
theorem BRow.conv {w : World} {g S c : Nat} {l : List UInt8} (h : BRow w g l) (hS : l.length = S) : (convert 22 9 (.slice (some ⟨g, 0, none⟩) S c)).run Tryz.prog w = .ok (.string ⟨l.toArray⟩) w := by
  subst hS
  refine run_convert_bytes_back (P := Tryz.prog) w 22 9 5 ⟨g, 0, none⟩ c l Tryz.underlying22 Tryz.underlying5 Tryz.underlying9 (fun j hj => ?_)
  rw [show (⟨g, 0, none⟩ : Addr).add j = ⟨g, j, none⟩ by unfold Addr.add; split <;> simp_all]
  exact h.cells j hj
theorem bytes_brow (s : ByteArray) (w : World) :
    ∃ cap w2, (convert 9 22 (.string s)).run Tryz.prog w = .ok (.slice (some ⟨w.heap.size, 0, none⟩) s.size cap) w2 ∧ BRow w2 w.heap.size s.data.toList ∧ Below w.heap.size w w2 := by
  refine ⟨_, _, run_bytes_of_string (P := Tryz.prog) w 9 22 5 s Tryz.underlying9 Tryz.underlying22 Tryz.underlying5, ⟨by simp, fun j hj => ?_, fun j hj => ?_⟩, ((Below.refl _ _).drew).alloc (Nat.le_refl _) _⟩
  · have hj2 : j < s.data.size := by simpa using hj
    refine (World.cell?_alloc_mark w.drew _ _ _ j).trans ?_
    rw [bytesRow_at _ _ _ hj2]; rfl
  · have hj2 : j < s.data.size := by simpa using hj
    refine (World.frozen?_alloc_mark w.drew _ _ _ _ j).trans ?_
    have hb : s.data.size ≤ (bytesRow s (grownCap w s.size 0 5)).size := by unfold bytesRow; rw [Array.size_append, Array.size_map]; omega
    have hb2 : ¬ (bytesRow s (grownCap w s.size 0 5)).size ≤ j := by omega
    simp [hb2]
/-- a byte of the code, or a number told by its place and the code's length: the same in every world to come. -/
theorem at_fix (i : Nat) (hi : i ≤ 1000) (w : World) (A : Option Addr) (len cap : Nat) (h : CodeAt w w.heap.size A len) (hl : len ≤ 1048576) :
    ∃ x : Nat, x < 256 ∧ ∀ W, Below w.heap.size w W → Calls Tryz.prog 17 #[.slice A len cap, .int .i64 i] W fun e w' => e = .returned (.int .i64 x) ∧ w' = W := by
  by_cases hlt : i < len
  · obtain ⟨b, o, x, rfl, hb, hx, hcell⟩ := h i hlt
    refine ⟨x, hx, fun W hW => ?_⟩
    have hcell2 := (hW.cell (p := ⟨b, o + i, none⟩) hb).trans hcell
    have h0 : (0 : Int) ≤ (i : Int) := by omega
    have h1 : (i : Int) < (len : Int) := by omega
    clear hW hcell h
    go_enter Tryz.func17, Tryz.ntmps17
    go_wp2
    go_ret
    exact ⟨rfl, rfl⟩
  · refine ⟨(i * 7 + len) % 256, by omega, fun W hW => ?_⟩
    have h1 : ¬ (i : Int) < (len : Int) := by omega
    clear hW h
    go_enter Tryz.func17, Tryz.ntmps17
    go_wp2
    go_ret
    exact ⟨(congrArg (fun v => Ending.returned (.int .i64 v)) (show (((i * 7 + len) % 256 : Nat) : Int) = ((i : Int) * 7 + (len : Int)) % 256 by omega)).symm, rfl⟩
end Go.Proofs.YtbfmbdohebdbaaaGreatDoor
