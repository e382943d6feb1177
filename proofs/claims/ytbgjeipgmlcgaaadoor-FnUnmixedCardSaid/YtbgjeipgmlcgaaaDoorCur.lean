/-
  The cursor of a draw: what a world holds of it, and what is kept when blocks are added. And plain facts on masks.
-/
import Derived.Test.YtbgjeipgmlcgaaaDoorProg
import Derived.WalkKit
import Derived.Lib.Hide
import Derived.Laws.BitsAllLaws
import Derived.Laws.AppendOwn
import Derived.Laws.OwnMore
import Derived.Below
import Derived.Deep.Draws
set_option linter.unusedVariables false
namespace Go.Proofs.YtbgjeipgmlcgaaaDoor
open Go Go.RowKit Go.Proofs

/-- What the walk is told of a slice of integers that came in: it is nil; or it leads to a row of 'cap' cells, the numbers 'zs'. -/
def IsRow (k : IntKind) (w : World) (a : Option Addr) (len cap : Nat) (zs : List Int) : Prop :=
  (a = none ∧ len = 0 ∧ cap = 0 ∧ zs = []) ∨
  ∃ x, a = some x ∧ len ≤ cap ∧ cap ≤ maxLen ∧ zs.length = cap ∧ (∀ i, i < zs.length → w.cell? (x.add i) = some (.int k (zs.getD i 0))) ∧ ∀ n ∈ zs, (Lit.int k n).wf = true

/-- The bytes of a code can be read, at blocks below B. -/
def CodeAt (w : World) (B : Nat) (A : Option Addr) (len : Nat) : Prop :=
  ∀ j, j < len → ∃ (b o x : Nat), A = some ⟨b, o, none⟩ ∧ b < B ∧ x < 256 ∧ w.cell? ⟨b, o + j, none⟩ = some (.int .u8 (x : Int))
theorem IsRow.code {w : World} {a : Option Addr} {len cap : Nat} {zs : List Int} (h : IsRow .u8 w a len cap zs) : CodeAt w w.heap.size a len ∧ len ≤ 9223372036854775807 := by
  rcases h with ⟨rfl, rfl, rfl, rfl⟩ | ⟨x, rfl, hl, hm, hz, hcell, hwz⟩
  · exact ⟨fun j hj => by omega, by omega⟩
  · refine ⟨fun j hj => ?_, by unfold maxLen at hm; omega⟩
    obtain ⟨b, off, spot⟩ := x
    have hspot : spot = none := by simpa [Addr.add] using World.cell?_spot (hcell 0 (by omega))
    subst hspot
    have hc0 : w.cell? ⟨b, off + j, none⟩ = some (.int .u8 (zs.getD j 0)) := by
      rw [← hcell j (by omega), show (⟨b, off, none⟩ : Addr).add j = ⟨b, off + j, none⟩ by unfold Addr.add; split <;> simp_all]
    have hin : zs.getD j 0 ∈ zs := by
      have : j < zs.length := by omega
      rw [List.getD_eq_getElem?_getD, List.getElem?_eq_getElem this]
      exact List.getElem_mem this
    have hwf := hwz _ hin
    have hb : 0 ≤ zs.getD j 0 ∧ zs.getD j 0 < 256 := by
      simp [Lit.wf, IntKind.min, IntKind.max, IntKind.bits, IntKind.signed] at hwf
      rw [List.getD_eq_getElem?_getD]
      omega
    exact ⟨b, off, (zs.getD j 0).toNat, rfl, World.block_lt_of_cell? w _ hc0, by omega, by rw [hc0, Int.toNat_of_nonneg hb.1]⟩
theorem CodeAt.below {w w' : World} {B C : Nat} {A : Option Addr} {len : Nat} (h : CodeAt w B A len) (hb : Below C w w') (hB : B ≤ C) : CodeAt w' B A len := fun j hj => by
  obtain ⟨b, o, x, hA, hbl, hx, hc⟩ := h j hj
  exact ⟨b, o, x, hA, hbl, hx, (hb.cell (p := ⟨b, o + j, none⟩) (Nat.lt_of_lt_of_le hbl hB)).trans hc⟩
theorem CodeAt.grown {w w' : World} {B : Nat} {A : Option Addr} {len : Nat} {row : Option Nat} (h : CodeAt w B A len) (hg : w.grownBy w' row) (hr : ∀ k, row = some k → B ≤ k) : CodeAt w' B A len := fun j hj => by
  obtain ⟨b, o, x, hA, hbl, hx, hc⟩ := h j hj
  refine ⟨b, o, x, hA, hbl, hx, hg.cell hc (fun e => ?_)⟩
  have := hr b e.symm
  omega

/-- The cursor's block g holds the code, a place in it and a number; the code can be read, below B. -/
def CurIn (w : World) (B g : Nat) (A : Option Addr) (len cap : Nat) : Prop :=
  B ≤ g ∧ len ≤ 1048576 ∧ CodeAt w B A len ∧ ∃ (i : Nat) (h : Int), i ≤ len ∧ w.heap[g]? = some (.cells #[.slice A len cap, .int .i64 i, .int .i64 h] 57 (0, 0))
theorem CurIn.lt {w : World} {B g : Nat} {A : Option Addr} {len cap : Nat} (h : CurIn w B g A len cap) : g < w.heap.size := by
  obtain ⟨_, _, _, i, hh, _, hg⟩ := h
  rcases Nat.lt_or_ge g w.heap.size with hlt | hge
  · exact hlt
  · rw [Array.getElem?_eq_none hge] at hg; cases hg
theorem CurIn.grown {w w' : World} {B g : Nat} {A : Option Addr} {len cap : Nat} {row : Option Nat} (h : CurIn w B g A len cap) (hg : w.grownBy w' row) (hr : ∀ k, row = some k → g < k) : CurIn w' B g A len cap := by
  have hlt := h.lt
  obtain ⟨h1, h2, h3, i, hh, h4, h5⟩ := h
  refine ⟨h1, h2, h3.grown hg (fun k e => by have := hr k e; omega), i, hh, h4, (hg.block g hlt (fun e => ?_)).trans h5⟩
  have := hr g e.symm
  omega
theorem CurIn.drewN {w : World} {B g : Nat} {A : Option Addr} {len cap : Nat} (h : CurIn w B g A len cap) (n : Nat) : CurIn (w.drewN n) B g A len cap := h
theorem CurIn.drew {w : World} {B g : Nat} {A : Option Addr} {len cap : Nat} (h : CurIn w B g A len cap) : CurIn w.drew B g A len cap := h
theorem CurIn.alloc {w : World} {B g : Nat} {A : Option Addr} {len cap : Nat} (h : CurIn w B g A len cap) (o : Obj) : CurIn (w.alloc o) B g A len cap :=
  h.grown (World.grownBy_alloc w o none) (fun k e => by cases e)

theorem only_drewN {a w : World} {row : Option Nat} (h : a.grownBy w row) (n : Nat) : a.grownBy (w.drewN n) row := ⟨h.os, h.tape, h.output, h.size, h.block⟩
theorem only_drew {a w : World} {row : Option Nat} (h : a.grownBy w row) : a.grownBy w.drew row := ⟨h.os, h.tape, h.output, h.size, h.block⟩
theorem only_alloc {a w : World} {row : Option Nat} (h : a.grownBy w row) (o : Obj) : a.grownBy (w.alloc o) row :=
  ⟨h.os, h.tape, h.output, Nat.le_trans h.size (by simp), fun i hi hne => (Below.heap_alloc w o i (Nat.lt_of_lt_of_le hi h.size)).trans (h.block i hi hne)⟩
theorem only_setCell {a w : World} {g : Nat} (h : a.grownBy w (some g)) {p : Addr} (hp : p.block = g ∨ a.heap.size ≤ p.block) (u : Value) : a.grownBy (w.setCell p u) (some g) :=
  ⟨h.os, h.tape, h.output, by simpa [World.setCell] using h.size, fun i hi hne => (Below.heap_setCell w p u i (by
    rintro rfl
    rcases hp with hp | hp
    · exact hne (by rw [hp])
    · omega)).trans (h.block i hi hne)⟩
theorem only_refl (w : World) (row : Option Nat) : w.grownBy w row := ⟨rfl, rfl, rfl, Nat.le_refl _, fun _ _ _ => rfl⟩
theorem only_trans {a b c : World} {g : Nat} (h : a.grownBy b (some g)) (k : b.grownBy c (some g)) : a.grownBy c (some g) :=
  ⟨k.os.trans h.os, k.tape.trans h.tape, k.output.trans h.output, Nat.le_trans h.size k.size, fun i hi hne => (k.block i (Nat.lt_of_lt_of_le hi h.size) hne).trans (h.block i hi hne)⟩
theorem only_below {a b c : World} {g B : Nat} (h : a.grownBy b (some g)) (k : Below B b c) (hB : a.heap.size ≤ B) : a.grownBy c (some g) :=
  ⟨k.os.trans h.os, k.tape.trans h.tape, k.output.trans h.output, Nat.le_trans h.size k.size, fun i hi hne => (k.block i (Nat.lt_of_lt_of_le hi hB)).trans (h.block i hi hne)⟩
theorem only_grown {a b c : World} {g : Nat} {row : Option Nat} (h : a.grownBy b (some g)) (k : b.grownBy c row) (hr : ∀ r, row = some r → r = g ∨ a.heap.size ≤ r) : a.grownBy c (some g) :=
  ⟨k.os.trans h.os, k.tape.trans h.tape, k.output.trans h.output, Nat.le_trans h.size k.size, fun i hi hne => (k.block i (Nat.lt_of_lt_of_le hi h.size) (fun e => by
    rcases hr i e.symm with h2 | h2
    · exact hne (by rw [h2])
    · omega)).trans (h.block i hi hne)⟩
theorem below_only {B : Nat} {a b c : World} {g : Nat} (h : Below B a b) (k : b.grownBy c (some g)) (hg : B ≤ g) (hB : B ≤ b.heap.size) : Below B a c := h.grown k hB (fun r e => by cases e; exact hg)

theorem ofInt64_and (x : Int) (m : Nat) (hm : m < 9223372036854775808) : ∃ r : Nat, bits .and .i64 x (m : Int) = (r : Int) ∧ r ≤ m := by
  refine ⟨(BitVec.ofInt 64 x).toNat &&& m, ?_, Nat.and_le_right⟩
  have hx : (BitVec.ofInt 64 x).toNat &&& m ≤ m := Nat.and_le_right
  have hm2 : (BitVec.ofInt 64 (m : Int)).toNat = m := by
    rw [BitVec.ofInt_natCast, BitVec.toNat_ofNat]; exact Nat.mod_eq_of_lt (by omega)
  show IntKind.i64.wrap ((BitVec.ofInt 64 x &&& BitVec.ofInt 64 (m : Int)).toNat : Int) = _
  rw [BitVec.toNat_and, hm2, IntKind.wrap_i64]
  omega
theorem and255 (x : Int) : 0 ≤ bits .and .i64 x 255 ∧ bits .and .i64 x 255 ≤ 255 := by
  obtain ⟨r, h, hr⟩ := ofInt64_and x 255 (by omega)
  have : bits .and .i64 x 255 = (r : Int) := h
  omega
theorem andMask (x : Int) : 0 ≤ bits .and .i64 x 1073741823 ∧ bits .and .i64 x 1073741823 ≤ 1073741823 := by
  obtain ⟨r, h, hr⟩ := ofInt64_and x 1073741823 (by omega)
  have : bits .and .i64 x 1073741823 = (r : Int) := h
  omega
end Go.Proofs.YtbgjeipgmlcgaaaDoor
