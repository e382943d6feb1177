/-
  Lists of texts that a call owns: what a world holds of them; markText, eqStringS, markStringS and heldStringS of the exact laws.
-/
import Derived.Test.YtdhncpkcbeggmaaDoorProg
import Derived.Test.YtdhncpkcbeggmaaDoorDecMath
import Derived.WalkKit
import Derived.LoopTactic
import Derived.OwnWalk
import Derived.WalkLawsBesides
import Derived.WalkSpells
import Derived.Outline
import Derived.Below
import Derived.Laws.AppendOwn
import Derived.Laws.OwnMore
import Derived.Deep.QuietTactic
import Derived.Deep.Draws
import Derived.BigQuiet
import Derived.WalkSmall
import Derived.IntWalk
import Derived.Deep.RegionHeld3
import Derived.Deep.DrawnRows
import Derived.Deep.AppendLies
import Derived.Lib.SlBytesRow
import Derived.Laws.MakeOwn
set_option linter.unusedVariables false
namespace Go.Proofs.YtdhncpkcbeggmaaDoor
open Go.RowKit
attribute [local go_sem ↓] Go.wp_at_zero Go.wp_at_succ

theorem str_v {a b : ByteArray} (h : a = b) : Value.string a = .string b := by rw [h]
/-- The slice owns, from block B on, the texts l. -/
def Own (w : World) (B : Nat) (A : Option Addr) (n c : Nat) (l : List ByteArray) : Prop := l.length = n ∧ w.ownsRow B 9 1 (.slice A n c) n (l.map Value.string)
/-- The texts can be read. -/
def SRow (w : World) (A : Option Addr) (n : Nat) (l : List ByteArray) : Prop :=
  l.length = n ∧ ∀ j (h : j < l.length), ∃ g, A = some ⟨g, 0, none⟩ ∧ g < w.heap.size ∧ w.cell? ⟨g, j, none⟩ = some (.string l[j])
theorem own_of {w : World} {B n : Nat} {v : Value} {l : List ByteArray} (h : w.ownsRow B 9 1 v n (l.map Value.string)) : ∃ A c, v = .slice A n c ∧ Own w B A n c l := by
  have hl : l.length = n := by have := h.1; simpa using this
  rcases h.2 with ⟨rfl, rfl⟩ | ⟨g, cap, cur, rfl, h2⟩
  · exact ⟨none, 0, rfl, hl, h⟩
  · exact ⟨_, _, rfl, hl, h⟩
theorem Own.reads {w : World} {B n c : Nat} {A : Option Addr} {l : List ByteArray} (h : Own w B A n c l) : SRow w A n l := by
  refine ⟨h.1, fun j hj => ?_⟩
  obtain ⟨hl, ho⟩ := h
  obtain ⟨g, cap, hv, hb, hg⟩ := ho.form (by omega)
  have hA : A = some ⟨g, 0, none⟩ := by injection hv
  subst hA
  refine ⟨g, rfl, hg, ?_⟩
  rw [ho.cellAt j (by omega), List.getElem?_map, List.getElem?_eq_getElem hj]
  rfl
theorem Own.block {w : World} {B n c : Nat} {a : Addr} {l : List ByteArray} (h : Own w B (some a) n c l) : B ≤ a.block ∧ a.block < w.heap.size := h.2.lt a.block rfl
theorem Own.below {w w' : World} {B n c : Nat} {A : Option Addr} {l : List ByteArray} (h : Own w B A n c l) (hb : Below w.heap.size w w') : Own w' B A n c l := by
  refine ⟨h.1, h.2.1, ?_⟩
  rcases h.2.2 with hn | ⟨g, cap, cur, hv, hB, hg, rest⟩
  · exact .inl hn
  · refine .inr ⟨g, cap, cur, hv, hB, (hb.block g ?_).trans hg, rest⟩
    rcases Nat.lt_or_ge g w.heap.size with hlt | hge
    · exact hlt
    · rw [Array.getElem?_eq_none hge] at hg; cases hg
theorem Own.drewN {w : World} {B n c : Nat} {A : Option Addr} {l : List ByteArray} (h : Own w B A n c l) (k : Nat) : Own (w.drewN k) B A n c l := h
theorem Own.apart {w w' : World} {B C n c : Nat} {A : Option Addr} {l : List ByteArray} (h : Own w B A n c l) (hlt : ∀ a, A = some a → a.block < C) {row : Option Nat} (hg : w.grownBy w' row) (hr : ∀ r, row = some r → C ≤ r) : Own w' B A n c l := by
  refine ⟨h.1, h.2.kept hg ?_⟩
  rcases A with _ | a
  · exact .inl rfl
  · refine .inr fun e => ?_
    have h1 := hlt a rfl
    have h2 := hr a.block e.symm
    omega
theorem SRow.below {w w' : World} {n : Nat} {A : Option Addr} {l : List ByteArray} (h : SRow w A n l) (hb : Below w.heap.size w w') : SRow w' A n l :=
  ⟨h.1, fun j hj => by
    obtain ⟨g, hA, hg, hc⟩ := h.2 j hj
    exact ⟨g, hA, Nat.lt_of_lt_of_le hg hb.size, (hb.cell (p := ⟨g, j, none⟩) hg).trans hc⟩⟩
theorem SRow.drewN {w : World} {n : Nat} {A : Option Addr} {l : List ByteArray} (h : SRow w A n l) (k : Nat) : SRow (w.drewN k) A n l := h

set_option maxRecDepth 100000 in
set_option maxHeartbeats 1600000 in
/-- eqStringS of two lists that hold the same texts. -/
theorem eqs_any (w : World) (A A' : Option Addr) (n c c' : Nat) (l : List ByteArray) (h : SRow w A n l) (h' : SRow w A' n l) (hn : n ≤ 4611686018427387904) :
    Calls Tryd.prog 22 #[.slice A n c, .slice A' n c'] w fun e w' => e = .returned (.bool true) ∧ ∃ k, w' = w.drewN k := by
  have H := Lib.hid h
  have H' := Lib.hid h'
  clear h h'
  go_enter Tryd.func22, Tryd.ntmps22
  go_wp2
  go_loopw [5] (fun i wr => ∃ k q : Nat, k ≤ n ∧ i = .int .i64 k ∧ wr = w.drewN q) (fun i _ => n - (intOf i).toNat)
  case atStart => exact ⟨0, 0, Nat.zero_le _, rfl, rfl⟩
  case round =>
    obtain ⟨k, q, hk, rfl, rfl⟩ := hrel
    by_cases hlt : k < n
    · obtain ⟨g, rfl, hg, hc⟩ := H.out.2 k (by have := H.out.1; omega)
      obtain ⟨g', rfl, hg', hc'⟩ := H'.out.2 k (by have := H'.out.1; omega)
      have hk0 : (0 : Int) ≤ (k : Int) := by omega
      have hk1 : (k : Int) < (n : Int) := by omega
      generalize l[k]'(by have := H.out.1; omega) = x at *
      go_wp2
      go_quiet (fail)
      go_wp2
      go_roundw
      case rel => exact ⟨k + 1, _, by omega, by go_num, rfl⟩
      case measure => simp [intOf]; omega
    · have hk1 : ¬ (k : Int) < (n : Int) := by omega
      go_wp2
      go_ret
      exact ⟨rfl, q, rfl⟩
/-- the mark of k (1 or more): the letter m and its digits. -/
def mark (k : Nat) : ByteArray := str (109 :: decE k)
theorem one_str {P : Program} {src e dst : TypeId} (hs : P.underlying src = some (.slice e)) (he : P.underlying e = some (.int .u8)) (hd : P.underlying dst = some .string) (w : World) (c : UInt8) (x : Int) (hx : x = (c.toNat : Int)) :
    (convert src dst (.slice (some ⟨w.heap.size, 0, none⟩) 1 1)).run P (w.alloc (.cells #[.int .u8 x] e)) = .ok (.string (str [c])) (w.alloc (.cells #[.int .u8 x] e)) := by
  subst hx
  have h := Lib.run_convert_whole (P := P) (w.alloc (.cells #[.int .u8 (c.toNat : Int)] e)) src e dst hs he hd w.heap.size 0 (str [c]) (fun i hi => by
    have h0 : i = 0 := by rw [str_size] at hi; simp at hi; exact hi
    subst h0
    rw [World.cell?_alloc_at _ _ _ _ rfl]
    rfl) 1
  rw [str_size] at h
  exact h

set_option maxRecDepth 100000 in
set_option maxHeartbeats 1600000 in
theorem mark_any (N : Nat) (w : World) (h0 : 0 < N) (h1 : N ≤ 9223372036854775807) :
    Calls Tryd.prog 37 #[.int .i64 N] w fun e w' => e = .returned (.string (mark N)) ∧ Below w.heap.size w w' := by
  have hl := decE_len 19 N (by omega)
  have hN0 : ¬ (N : Int) ≤ 0 := by omega
  go_enter Tryd.func37, Tryd.ntmps37
  go_wp2
  go_loopw [0, 3] (fun m s wr => ∃ (u : Nat) (l : List UInt8), u ≤ N ∧ m = .int .i64 u ∧ s = .string (str l) ∧ l.length ≤ 19 ∧ Hid (decE u ++ l = decE N) ∧ Below w.heap.size w wr) (fun m _ _ => (intOf m).toNat)
  case atStart => exact ⟨N, [], Nat.le_refl _, rfl, rfl, by simp, Lib.hid (by simp), Below.refl _ _⟩
  case round =>
    obtain ⟨u, l, hu, rfl, rfl, hll, hinv, hbel⟩ := hrel
    have hsz := str_size l
    by_cases hz : u = 0
    · subst hz
      have HV : Hid (l = decE N) := Lib.hid (by have := hinv.out; rw [decE_zero, List.nil_append] at this; exact this)
      go_wp2
      go_ret
      exact ⟨ret_bytes (by rw [mark, ← HV.out]; exact str_append [109] l), hbel⟩
    · have hu0 : (0 : Int) < (u : Int) := by omega
      have hinv2 := Lib.hid (dec_inv (by omega) hinv.out)
      have hll2 := dec_len hinv2.out hl
      have hm : u / 10 ≤ N := by omega
      have hd : ((UInt8.ofNat (48 + u % 10)).toNat : Int) = 48 + (u : Int) % 10 := by rw [UInt8.toNat_ofNat']; omega
      have hinv3 := hinv2.out
      clear hinv2
      generalize UInt8.ofNat (48 + u % 10) = c at *
      have hinv2 := Lib.hid hinv3
      clear hinv3
      have hconv := one_str Tryd.underlying22 Tryd.underlying5 Tryd.underlying9 wr c (48 + (u : Int) % 10) hd.symm
      have HS := Lib.hid (str_append [c] l)
      have hss := str_size [c]
      clear hd
      go_wp2
      go_roundw
      case rel => exact ⟨u / 10, _, hm, by go_num, str_v HS.out, hll2, hinv2, hbel.alloc hbel.size _⟩
      case measure => simp [intOf]; omega
end Go.Proofs.YtdhncpkcbeggmaaDoor
