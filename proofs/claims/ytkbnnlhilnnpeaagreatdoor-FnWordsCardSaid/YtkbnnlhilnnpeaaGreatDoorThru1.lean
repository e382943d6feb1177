/-
  The first words of (*impl.tableLock).through: a block's words, each with the first key's added.
-/
import Derived.Test.YtkbnnlhilnnpeaaGreatDoorLkA
import Derived.Test.YtkbnnlhilnnpeaaGreatDoorWord
import Derived.Test.YtkbnnlhilnnpeaaGreatDoorPure
import Derived.Deep.QuietTactic
import Derived.BigQuiet
set_option linter.unusedVariables false
set_option linter.unusedSimpArgs false
namespace Go.Proofs.YtkbnnlhilnnpeaaGreatDoor
open Go Go.RowKit

theorem w_getW (t : ByteArray) (i : Nat) : wb (getW t i) 0 = byteOf t i ∧ wb (getW t i) 1 = byteOf t (i + 1) ∧ wb (getW t i) 2 = byteOf t (i + 2) ∧ wb (getW t i) 3 = byteOf t (i + 3) := by
  unfold getW
  exact ⟨wb0_mk _ _ _ _, wb1_mk _ _ _ _, wb2_mk _ _ _ _, wb3_mk _ _ _ _⟩
/-- a text's bytes that can be read. -/
def TCell (w : World) (g : Nat) (t : ByteArray) : Prop := g < w.heap.size ∧ ∀ j, j < t.size → w.cell? ⟨g, j, none⟩ = some (cell8 (byteOf t j))
theorem TCell.below {w w' : World} {g : Nat} {t : ByteArray} (h : TCell w g t) (hb : Below w.heap.size w w') : TCell w' g t :=
  ⟨Nat.lt_of_lt_of_le h.1 hb.size, fun j hj => (hb.cell (p := ⟨g, j, none⟩) h.1).trans (h.2 j hj)⟩
set_option maxRecDepth 100000 in
set_option maxHeartbeats 3200000 in
theorem thru1_impl (bt bl gt cap p : Nat) (t : ByteArray) (ht : t.size = 16) (hc1 : 16 ≤ cap) (hc2 : cap ≤ 9223372036854775807) (X : Array Value) (h : Nat → UInt32) (f : UInt8 → UInt8) (kv : Value) (d : Int) (hX : TlX X h f kv d) (m : Nat) (hm : 1 ≤ m) (K : Nat → UInt32) (i : Nat) (hi : i < 4) (w : World)
    (h1 : RAt w bt 22 #[.slice (some ⟨gt, 0, none⟩) 16 cap]) (h2 : RAt w bl 89 #[.pointer (some ⟨p, 0, none⟩)]) (h3 : TCell w gt t) (h4 : RAt w p 97 X) (h5 : KeysAt w kv m K) :
    Calls Tryz.prog 105 #[.int .i64 (i : Int), .pointer (some ⟨bt, 0, none⟩), .pointer (some ⟨bl, 0, none⟩)] w fun e w' => e = .returned (.int .u32 (colW t i ^^^ K i).toNat) ∧ Below w.heap.size w w' := by
  obtain ⟨g, c, rfl, hmc, hcm, hg, hk⟩ := h5
  have c1 : w.cell? ⟨bt, 0, none⟩ = some (.slice (some ⟨gt, 0, none⟩) 16 cap) := h1.cell rfl
  have c2 : w.cell? ⟨bl, 0, none⟩ = some (.pointer (some ⟨p, 0, none⟩)) := h2.cell rfl
  have c3 := h4.cell hX.keys
  have c4 := hk i (by omega)
  obtain ⟨b0, b1, b2, b3⟩ := w_getW t (4 * i)
  have HG : Hid (∀ k, Calls Tryz.prog 75 #[.slice (some ⟨gt, 0, none⟩) 16 cap, .int .i64 (4 * (i : Int))] (w.drewN k) fun e w' => e = .returned (.int .u32 (colW t i).toNat) ∧ w' = w.drewN k) := Lib.hid fun k => by
    have hh := get_impl gt 16 cap (4 * i) (getW t (4 * i)) (w.drewN k) (by omega) hc1 hc2 ⟨by rw [b0]; exact h3.2 _ (by omega), by rw [b1]; exact h3.2 _ (by omega), by rw [b2]; exact h3.2 _ (by omega), by rw [b3]; exact h3.2 _ (by omega)⟩
    rw [show ((4 * i : Nat) : Int) = 4 * (i : Int) by omega] at hh
    exact hh.mono fun e w' ⟨e1, e2⟩ => ⟨e1, e2.symm⟩
  have hx : bits .xor .u32 ((colW t i).toNat : Int) ((K i).toNat : Int) = ((colW t i ^^^ K i).toNat : Int) := u32_xor _ _
  have HX := Lib.hid hx
  have hi1 : (i : Int) < 4 := by omega
  have hi0 : (0 : Int) ≤ (i : Int) := by omega
  have hm1 : (0 : Int) < (m : Int) := by omega
  have q1 : IntKind.i64.wrap (4 * (i : Int)) = 4 * (i : Int) := IntWalk.i64_in _ (by omega)
  have HB : Hid (∀ k, Below w.heap.size w (w.drewN k)) := Lib.hid fun k => below_drewN (Below.refl _ _) k
  generalize colW t i ^^^ K i = z at *
  generalize colW t i = y at *
  generalize K i = x at *
  clear h1 h2 h3 h4 hX hk hx b0 b1 b2 b3
  go_enter Tryz.func105, Tryz.ntmps105
  go_wp2
  go_quiet ((go_at_call 75; exact Calls.quiet_of_same (HG.out _)))
  go_wp2
  go_ret
  exact ⟨ret_i HX.out, HB.out _⟩
end Go.Proofs.YtkbnnlhilnnpeaaGreatDoor
