/-
  Laws of Go's operations that the walks of this seat use; of no program.
-/
import Derived.Test.YtbgjeipgmlcgaaaDoorProg
import Derived.Test.YtbgjeipgmlcgaaaDoorMath
import Derived.Lib.Tables
import Derived.Lib.SlBytesRow
import Derived.Deep.AppendLies
import Derived.Below
import Derived.KernelRfl
import Derived.Laws.OwnMore
set_option linter.unusedVariables false
namespace Go.Proofs.YtbgjeipgmlcgaaaDoor
open Go Go.RowKit Go.Proofs

def hexTab : ByteArray := ⟨#[48, 49, 50, 51, 52, 53, 54, 55, 56, 57, 97, 98, 99, 100, 101, 102]⟩
theorem fold_hexTab : (⟨#[48, 49, 50, 51, 52, 53, 54, 55, 56, 57, 97, 98, 99, 100, 101, 102]⟩ : ByteArray) = hexTab := rfl
theorem hexTab_size : hexTab.size = 16 := by decide +kernel
theorem hexTab_at : ∀ n : Fin 16, (hexTab[n.val]?).getD 0 = hexDig n.val := by decide +kernel
theorem run_index_hexTab {P : Program} (w : World) (t : TypeId) (k : IntKind) (i : Int) (h : P.underlying t = some .string) (h0 : 0 ≤ i) (h1 : i < 16) :
    (Instr.index t (.string hexTab) (.int k i)).run P w = .ok (.int .u8 ((hexDig i.toNat).toNat : Int)) w := by
  have hi : 0 ≤ i ∧ i < (hexTab.size : Int) := by rw [hexTab_size]; omega
  have h2 : i.toNat < hexTab.size := by rw [hexTab_size]; omega
  rw [run_index_string w t hexTab k i h, dif_pos hi]
  have h3 := hexTab_at ⟨i.toNat, by omega⟩
  simp only [ByteArray.getElem?_lt' _ _ h2, Option.getD_some] at h3
  rw [← h3]
theorem u8_and_15 (x : Int) (h0 : 0 ≤ x) (h1 : x < 256) : bits .and .u8 x 15 = x % 16 := by
  rw [u8_and x 15 h0 h1 (by omega) (by omega)]
  show ((x.toNat &&& 15 : Nat) : Int) = _
  rw [nat_mask4]; omega

/-- 'string(b)' of a row of the call's own. -/
theorem run_string_own {P : Program} {src e dst : TypeId} (hs : P.underlying src = some (.slice e)) (he : P.underlying e = some (.int .u8)) (hd : P.underlying dst = some .string)
    {w : World} {base n : Nat} {v : Value} {l : List UInt8} (h : w.ownsRow base e 1 v n (cells8 l)) : (convert src dst v).run P w = .ok (.string ⟨l.toArray⟩) w := by
  have hl : n = l.length := by have := h.1; rw [cells8_length] at this; omega
  subst hl
  have h1 := h.1
  rcases h.2 with ⟨rfl, h0⟩ | ⟨g, cap, cur, rfl, hb, hg, hn, hc, hs2, ht⟩
  · have : l = [] := List.eq_nil_of_length_eq_zero h0
    subst this
    rw [run_convert_bytes_string w src dst e _ _ _ hs he hd]
    simp [Conv.bytesToString]
    rfl
  · have hsz : (⟨l.toArray⟩ : ByteArray).size = l.length := by simp [ByteArray.size]
    have hB : Lib.Bytes w g 0 ⟨l.toArray⟩ := fun i hi => by
      have hi' : i < l.length := by simpa [ByteArray.size] using hi
      have := h.cells (g := g) rfl i (cell8 l[i]) (by simp [cells8, List.getElem?_map, List.getElem?_eq_getElem hi'])
      rw [show (⟨g, 0 + i, none⟩ : Addr) = (⟨g, 0, none⟩ : Addr).add i by unfold Addr.add; split <;> simp_all, this]
      rfl
    have := Lib.run_convert_whole (P := P) w src e dst hs he hd g 0 ⟨l.toArray⟩ hB cap
    rw [hsz] at this
    exact this
theorem cells8_two (w : World) (o : TypeId) (c d : UInt8) : ∀ j u, [cell8 c, cell8 d][j]? = some u → (w.alloc (.cells #[.int .u8 (c.toNat : Int), .int .u8 (d.toNat : Int)] o)).cell? ((⟨w.heap.size, 0, none⟩ : Addr).add j) = some u :=
  World.news_of_block (cs := #[.int .u8 (c.toNat : Int), .int .u8 (d.toNat : Int)]) (heap_alloc_new w _)
theorem cells8_one (w : World) (o : TypeId) (c : UInt8) : ∀ j u, [cell8 c][j]? = some u → (w.alloc (.cells #[.int .u8 (c.toNat : Int)] o)).cell? ((⟨w.heap.size, 0, none⟩ : Addr).add j) = some u :=
  World.news_of_block (cs := #[.int .u8 (c.toNat : Int)]) (heap_alloc_new w _)
theorem cells8_oneCell (l : List UInt8) : ∀ u ∈ cells8 l, u.oneCell' = true := by
  intro u hu
  obtain ⟨c, _, rfl⟩ := List.mem_map.1 hu
  rfl
/-- A stop: the walk stands still here, so that a law can be handed in by hand. -/
def Stp (p : Prop) : Prop := p
theorem stp {p : Prop} (h : Stp p) : p := h
theorem unstp {p : Prop} (h : p) : Stp p := h
def mk8 (n : Nat) : Array Value := madeCells #[.int .u8 0] n
theorem mk8_size (n : Nat) : (mk8 n).size = n := size_madeCells _ _
/-- make of a slice of bytes. -/
theorem run_make8 {P : Program} {t e : TypeId} {i : TypeInfo} (ht : P.underlying t = some (.slice e)) (hi : P.info? e = some i) (hz : i.zero = some (.int .u8 0)) (h1 : i.size = 1) (h2 : i.bytes = 1)
    (l c : Nat) (hlc : l ≤ c) (hc : c ≤ 281474976710656) (w : World) :
    (Instr.makeSlice t (.int .i64 (l : Int)) (.int .i64 (c : Int))).run P w = .ok (.slice (some ⟨w.heap.size, 0, none⟩) l c) (w.alloc (.cells (mk8 c) e)) := by
  have := run_make (P := P) w t e i (.int .u8 0) ht hi hz .i64 .i64 l c (by omega) (by omega) (by rw [h2]; omega) (by omega)
  rw [this]
  simp [h1, mk8, Value.cells]
theorem run_make8_0 {P : Program} {t e : TypeId} {i : TypeInfo} (ht : P.underlying t = some (.slice e)) (hi : P.info? e = some i) (hz : i.zero = some (.int .u8 0)) (h1 : i.size = 1) (h2 : i.bytes = 1)
    (c : Nat) (hc : c ≤ 281474976710656) (w : World) :
    (Instr.makeSlice t (.int .i64 0) (.int .i64 (c : Int))).run P w = .ok (.slice (some ⟨w.heap.size, 0, none⟩) 0 c) (w.alloc (.cells (mk8 c) e)) :=
  run_make8 ht hi hz h1 h2 0 c (by omega) hc w
theorem mk8_list (n : Nat) : (mk8 n).toList = cells8 (List.replicate n 0) := by
  unfold mk8
  rw [toList_madeCells_one]
  simp [cells8, cell8]
theorem cell8_xor (c d : UInt8) : cell8 (c ^^^ d) = .int .u8 ((c.toNat ^^^ d.toNat : Nat) : Int) := by simp [cell8, UInt8.toNat_xor]
theorem Tryd.info5 : (Tryd.prog.info? 5).map (fun i => (i.zero, i.size, i.bytes)) = some (some (.int .u8 0), 1, 1) := by kernel_rfl
end Go.Proofs.YtbgjeipgmlcgaaaDoor
