/-
  Contracts and facts that the laws of this seat use: DecMath, Strs, Marks, ListKit.
-/
import Derived.Test.YtbfmbdohebdbaaaGreatDoorPure
import Derived.Lib.ItoaNum
import Derived.Lib.ItoaLen
import Derived.Lib.Hide
import Derived.Laws.Concat
import Derived.WalkKit
import Derived.Test.YtbfmbdohebdbaaaGreatDoorProg
import Derived.LoopTactic
import Derived.OwnWalk
import Derived.WalkLawsBesides
import Derived.WalkSpells
import Derived.Outline
import Derived.Below
import Derived.Laws.AppendOwn
import Derived.Laws.OwnMore
import Derived.Deep.QuietTactic
import Derived.Deep.Draws
import Derived.BigQuiet
import Derived.WalkSmall
import Derived.IntWalk
import Derived.Deep.RegionHeld3
import Derived.Deep.DrawnRows
import Derived.Deep.AppendLies
import Derived.Lib.SlBytesRow
import Derived.Laws.MakeOwn
set_option linter.unusedVariables false
namespace Go.Proofs.YtbfmbdohebdbaaaGreatDoor
open Go Go.RowKit

theorem ret_bytes {a b : ByteArray} (h : a = b) : Ending.returned (.string a) = .returned (.string b) := by rw [h]
/-- the digits of u; none of 0. -/
def decE (u : Nat) : List UInt8 := if u = 0 then [] else Lib.decDigits u
theorem decE_zero : decE 0 = [] := rfl
theorem decE_pos {u : Nat} (h : 0 < u) : decE u = Lib.decDigits u := by unfold decE; rw [if_neg (by omega)]
theorem decE_step {u : Nat} (h : 0 < u) : decE u = decE (u / 10) ++ [UInt8.ofNat (48 + u % 10)] := by
  rw [decE_pos h, Lib.decDigits]
  split
  · rename_i h10
    rw [show u / 10 = 0 by omega, decE_zero, show u % 10 = u by omega]
    rfl
  · rw [decE_pos (u := u / 10) (by omega)]
theorem itoa_pos {n : Int} (h : 0 < n) : Lib.itoa n = decE n.toNat := by
  unfold Lib.itoa; rw [if_neg (by omega), decE_pos (by omega)]
theorem itoa_neg {n : Int} (h : n < 0) : Lib.itoa n = 45 :: decE n.natAbs := by
  unfold Lib.itoa; rw [if_pos h, decE_pos (by omega)]
theorem itoa_zero : Lib.itoa 0 = [48] := by
  unfold Lib.itoa; rw [if_neg (by omega), show (0 : Int).toNat = 0 from rfl, Lib.decDigits_one (by omega)]; rfl
def digs : ByteArray := ⟨#[48, 49, 50, 51, 52, 53, 54, 55, 56, 57]⟩
theorem digs_fin : ∀ d : Fin 10, (digs.extract d.val (d.val + 1)).data.toList = [UInt8.ofNat (48 + d.val)] := by decide +kernel
theorem digs_at (d : Nat) (h : d < 10) : digs.extract d (d + 1) = ⟨[UInt8.ofNat (48 + d)].toArray⟩ := by
  apply ByteArray.ext
  apply Array.toList_inj.1
  rw [digs_fin ⟨d, h⟩]
/-- a text as a list of bytes. -/
def str (l : List UInt8) : ByteArray := ⟨l.toArray⟩
theorem str_size (l : List UInt8) : (str l).size = l.length := by simp [str, ByteArray.size]
theorem str_append (a b : List UInt8) : str a ++ str b = str (a ++ b) := by
  unfold str
  apply ByteArray.ext
  simp
theorem digs_step (u : Nat) (l : List UInt8) : digs.extract (u % 10) (u % 10 + 1) ++ str l = str (UInt8.ofNat (48 + u % 10) :: l) := by
  rw [digs_at _ (Nat.mod_lt _ (by omega))]
  exact str_append [UInt8.ofNat (48 + u % 10)] l
theorem decE_len : ∀ (k u : Nat), u < 10 ^ k → (decE u).length ≤ k
  | 0, u, h => by
    have : u = 0 := by simpa using h
    subst this; simp [decE_zero]
  | k + 1, u, h => by
    rcases Nat.eq_zero_or_pos u with h0 | h0
    · subst h0; simp [decE_zero]
    · have ih := decE_len k (u / 10) (by rw [Nat.pow_succ] at h; omega)
      rw [decE_step h0, List.length_append]; simp; omega
theorem dec_inv {N u : Nat} {l : List UInt8} (hu : 0 < u) (h : decE u ++ l = decE N) : decE (u / 10) ++ (UInt8.ofNat (48 + u % 10) :: l) = decE N := by
  rw [← h, decE_step hu]
  simp
theorem dec_len {N u k : Nat} {l : List UInt8} (h : decE u ++ l = decE N) (hl : (decE N).length ≤ k) : l.length ≤ k := by
  rw [← h, List.length_append] at hl
  omega
end Go.Proofs.YtbfmbdohebdbaaaGreatDoor
set_option linter.unusedVariables false
namespace Go.Proofs.YtbfmbdohebdbaaaGreatDoor
open Go.RowKit
attribute [local go_sem ↓] Go.wp_at_zero Go.wp_at_succ

theorem str_v {a b : ByteArray} (h : a = b) : Value.string a = .string b := by rw [h]
/-- The slice owns, from block B on, the texts l. -/
def Own (w : World) (B : Nat) (A : Option Addr) (n c : Nat) (l : List ByteArray) : Prop := l.length = n ∧ w.ownsRow B 9 1 (.slice A n c) n (l.map Value.string)
/-- The texts can be read. -/
def SRow (w : World) (A : Option Addr) (n : Nat) (l : List ByteArray) : Prop :=
  l.length = n ∧ ∀ j (h : j < l.length), ∃ g, A = some ⟨g, 0, none⟩ ∧ g < w.heap.size ∧ w.cell? ⟨g, j, none⟩ = some (.string l[j])
theorem own_of {w : World} {B n : Nat} {v : Value} {l : List ByteArray} (h : w.ownsRow B 9 1 v n (l.map Value.string)) : ∃ A c, v = .slice A n c ∧ Own w B A n c l := by
  have hl : l.length = n := by have := h.1; simpa using this
  rcases h.2 with ⟨rfl, rfl⟩ | ⟨g, cap, cur, rfl, h2⟩
  · exact ⟨none, 0, rfl, hl, h⟩
  · exact ⟨_, _, rfl, hl, h⟩
theorem Own.reads {w : World} {B n c : Nat} {A : Option Addr} {l : List ByteArray} (h : Own w B A n c l) : SRow w A n l := by
  refine ⟨h.1, fun j hj => ?_⟩
  obtain ⟨hl, ho⟩ := h
  obtain ⟨g, cap, hv, hb, hg⟩ := ho.form (by omega)
  have hA : A = some ⟨g, 0, none⟩ := by injection hv
  subst hA
  refine ⟨g, rfl, hg, ?_⟩
  rw [ho.cellAt j (by omega), List.getElem?_map, List.getElem?_eq_getElem hj]
  rfl
theorem Own.block {w : World} {B n c : Nat} {a : Addr} {l : List ByteArray} (h : Own w B (some a) n c l) : B ≤ a.block ∧ a.block < w.heap.size := h.2.lt a.block rfl
theorem Own.below {w w' : World} {B n c : Nat} {A : Option Addr} {l : List ByteArray} (h : Own w B A n c l) (hb : Below w.heap.size w w') : Own w' B A n c l := by
  refine ⟨h.1, h.2.1, ?_⟩
  rcases h.2.2 with hn | ⟨g, cap, cur, hv, hB, hg, rest⟩
  · exact .inl hn
  · refine .inr ⟨g, cap, cur, hv, hB, (hb.block g ?_).trans hg, rest⟩
    rcases Nat.lt_or_ge g w.heap.size with hlt | hge
    · exact hlt
    · rw [Array.getElem?_eq_none hge] at hg; cases hg
theorem Own.drewN {w : World} {B n c : Nat} {A : Option Addr} {l : List ByteArray} (h : Own w B A n c l) (k : Nat) : Own (w.drewN k) B A n c l := h
theorem Own.apart {w w' : World} {B C n c : Nat} {A : Option Addr} {l : List ByteArray} (h : Own w B A n c l) (hlt : ∀ a, A = some a → a.block < C) {row : Option Nat} (hg : w.grownBy w' row) (hr : ∀ r, row = some r → C ≤ r) : Own w' B A n c l := by
  refine ⟨h.1, h.2.kept hg ?_⟩
  rcases A with _ | a
  · exact .inl rfl
  · refine .inr fun e => ?_
    have h1 := hlt a rfl
    have h2 := hr a.block e.symm
    omega
theorem SRow.below {w w' : World} {n : Nat} {A : Option Addr} {l : List ByteArray} (h : SRow w A n l) (hb : Below w.heap.size w w') : SRow w' A n l :=
  ⟨h.1, fun j hj => by
    obtain ⟨g, hA, hg, hc⟩ := h.2 j hj
    exact ⟨g, hA, Nat.lt_of_lt_of_le hg hb.size, (hb.cell (p := ⟨g, j, none⟩) hg).trans hc⟩⟩
theorem SRow.drewN {w : World} {n : Nat} {A : Option Addr} {l : List ByteArray} (h : SRow w A n l) (k : Nat) : SRow (w.drewN k) A n l := h

/-- the mark of k (1 or more): the letter m and its digits. -/
def mark (k : Nat) : ByteArray := str (109 :: decE k)
theorem one_str {P : Program} {src e dst : TypeId} (hs : P.underlying src = some (.slice e)) (he : P.underlying e = some (.int .u8)) (hd : P.underlying dst = some .string) (w : World) (c : UInt8) (x : Int) (hx : x = (c.toNat : Int)) :
    (convert src dst (.slice (some ⟨w.heap.size, 0, none⟩) 1 1)).run P (w.alloc (.cells #[.int .u8 x] e)) = .ok (.string (str [c])) (w.alloc (.cells #[.int .u8 x] e)) := by
  subst hx
  have h := Lib.run_convert_whole (P := P) (w.alloc (.cells #[.int .u8 (c.toNat : Int)] e)) src e dst hs he hd w.heap.size 0 (str [c]) (fun i hi => by
    have h0 : i = 0 := by rw [str_size] at hi; simp at hi; exact hi
    subst h0
    rw [World.cell?_alloc_at _ _ _ _ rfl]
    rfl) 1
  rw [str_size] at h
  exact h

end Go.Proofs.YtbfmbdohebdbaaaGreatDoor
set_option linter.unusedVariables false
namespace Go.Proofs.YtbfmbdohebdbaaaGreatDoor
open Go.RowKit
attribute [local go_sem ↓] Go.wp_at_zero Go.wp_at_succ

/-- the marks from K on. -/
def marks (K n : Nat) : List ByteArray := (List.range n).map fun j => mark (K + j)
theorem marks_length (K n : Nat) : (marks K n).length = n := by simp [marks]
theorem marks_succ (K n : Nat) : marks K (n + 1) = marks K n ++ [mark (K + n)] := by simp [marks, List.range_succ]
theorem marks_at (K n j : Nat) (h : j < (marks K n).length) : (marks K n)[j] = mark (K + j) := by simp [marks]
def mkTo (K j : Nat) (l : List ByteArray) : List ByteArray := marks K j ++ l.drop j
theorem mkTo_set (K j : Nat) (l : List ByteArray) (h : j < l.length) : (mkTo K j l).set j (mark (K + j)) = mkTo K (j + 1) l := by
  unfold mkTo
  rw [List.set_append_right _ _ (by rw [marks_length]; exact Nat.le_refl _), marks_length, Nat.sub_self, List.drop_eq_getElem_cons h, marks_succ, List.set_cons_zero, List.append_assoc]
  rfl
theorem mkTo_length (K j : Nat) (l : List ByteArray) (h : j ≤ l.length) : (mkTo K j l).length = l.length := by
  unfold mkTo; rw [List.length_append, marks_length, List.length_drop]; omega
theorem own_set {w : World} {B n c g j : Nat} {l : List ByteArray} (h : Own w B (some ⟨g, 0, none⟩) n c l) (x : ByteArray) : Own (w.setCell ⟨g, j, none⟩ (.string x)) B (some ⟨g, 0, none⟩) n c (l.set j x) := by
  refine ⟨by simpa using h.1, ?_⟩
  have := (h.2.stored j (.string x)).1
  rw [List.map_set]
  exact this

end Go.Proofs.YtbfmbdohebdbaaaGreatDoor
set_option linter.unusedVariables false
namespace Go.Proofs.YtbfmbdohebdbaaaGreatDoor.Lk
open Go.RowKit

def Stp (p : Prop) : Prop := p
theorem stp {p : Prop} (h : Stp p) : p := h
theorem unstp {p : Prop} (h : p) : Stp p := h
theorem infoS : (Tryz.prog.info? 9).map (fun i => (i.zero, i.size, i.bytes)) = some (some (.string ByteArray.empty), 1, 16) := by kernel_rfl
theorem own_append {w1 : World} {B n : Nat} {v : Value} {l : List ByteArray} {x : ByteArray}
    (hown3 : w1.ownsRow B 9 1 v (n + 1) (l.map Value.string ++ [.string x])) : w1.ownsRow B 9 1 v (n + 1) ((l ++ [x]).map Value.string) := by
  rw [List.map_append]
  exact hown3
theorem below_append {w w2 w1 : World} {n : Nat} {e : TypeId} {u : Value} {xs : List Value} {o : Obj} (hown2 : w2.ownsRow w.heap.size e 1 u n xs) (hbel2 : Below w.heap.size w w2)
    (hgrow : (w2.alloc o).grownBy w1 u.ownBlock) : Below w.heap.size w w1 := by
  have h1 : Below w.heap.size w (w2.alloc o) := hbel2.alloc hbel2.size _
  exact h1.grown hgrow h1.size (fun b hb => (hown2.lt b hb).1)
end Go.Proofs.YtbfmbdohebdbaaaGreatDoor.Lk
