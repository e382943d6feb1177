/-
  The walk of laws.FnMix.
-/
import Derived.Test.YtkbnnlhilnnpeaaDoorW30
import Derived.Test.YtkbnnlhilnnpeaaDoorSums
import Derived.Test.YtkbnnlhilnnpeaaDoorDraws
set_option linter.unusedVariables false
set_option linter.unusedSimpArgs false
namespace Go.Proofs.YtkbnnlhilnnpeaaDoor
open Go.RowKit

theorem ofW_alike (v : UInt8) : mxT (ofW fun _ => mkW v v v v) = ofW fun _ => mkW v v v v := by
  rw [mxT_yes _ (ofW_size _)]
  refine ofW_ext _ _ fun j hj => ?_
  rw [colW_ofW _ j hj, mx_alike]
theorem outW_1 (F : Nat → UInt32) : putW (F 0) = outW F 1 := by
  refine b_ext _ _ 4 rfl (outW_size F 1) fun i hi => ?_
  rw [putW_b _ i hi]
  unfold outW
  rw [txt_byte _ _ i (by omega), show i / 4 = 0 by omega, show i % 4 = i by omega]
theorem lit_v (v : UInt8) (w : World) :
    (convert 22 9 (.slice (some ⟨w.heap.size, 0, none⟩) 4 4)).run Tryd.prog (w.alloc (.cells #[.int .u8 (v.toNat : Int), .int .u8 (v.toNat : Int), .int .u8 (v.toNat : Int), .int .u8 (v.toNat : Int)] 5))
      = .ok (.string (putW (mkW v v v v))) (w.alloc (.cells #[.int .u8 (v.toNat : Int), .int .u8 (v.toNat : Int), .int .u8 (v.toNat : Int), .int .u8 (v.toNat : Int)] 5)) := by
  have h : (w.alloc (.cells #[cell8 v, cell8 v, cell8 v, cell8 v] 5)).ownsRow w.heap.size 5 1 (.slice (some ⟨w.heap.size, 0, none⟩) 4 4) 4 (cells8 [v, v, v, v]) :=
    World.ownsRow_lit w (e := 5) (size := 1) #[cell8 v, cell8 v, cell8 v, cell8 v] 4 (Nat.le_refl w.heap.size) (by unfold maxLen; omega) rfl
  rw [← mkW_put]
  exact run_string_own Tryd.underlying22 Tryd.underlying5 Tryd.underlying9 h
theorem XorI_16 (a b : ByteArray) (ha : a.size = 16) (hb : b.size = 16) (c : ByteArray) (hc : xorS a b = c) (w : World) :
    Calls Tryd.prog 33 #[.string a, .string b] w fun e w' => e = .returned (.string c) ∧ Below w.heap.size w w' := by
  rw [← hc, ← xorOf_S a b ha hb]; exact xor_impl a b w (by omega) (by omega)
theorem XorS_16 (a b : ByteArray) (ha : a.size = 16) (hb : b.size = 16) (c : ByteArray) (hc : xorS a b = c) (w : World) :
    Calls Tryd.prog 86 #[.string a, .string b] w fun e w' => e = .returned (.string c) ∧ Below w.heap.size w w' := by
  rw [← hc, ← xorOf_S a b ha hb]; exact xor_spec a b w (by omega) (by omega)
theorem Mix_16 (a c : ByteArray) (ha : a.size = 16) (hc : mxS a = c) (w : World) (hf : MxF w) :
    Calls Tryd.prog 18 #[.string a] w fun e w' => e = .returned (.string c) ∧ Below w.heap.size w w' := by
  rw [← hc, ← mxT_yes a ha]; exact MixColumns_impl a w hf
theorem Shift_16 (a c : ByteArray) (ha : a.size = 16) (hc : shS 1 a = c) (w : World) :
    Calls Tryd.prog 34 #[.string a] w fun e w' => e = .returned (.string c) ∧ Below w.heap.size w w' := by
  rw [← hc, ← shT_yes 1 a ha]; exact ShiftRows_impl a w
theorem cat_is (a b c : ByteArray) (h : a ++ b = c) (ha : a.size ≤ 1000) (hb : b.size ≤ 1000) (W : World) : (Op.stringOp .add a b).run Tryd.prog W = .ok (.string c) W := by
  rw [← h]; exact run_string_add_sum (P := Tryd.prog) (w := W) a b (by omega)
end Go.Proofs.YtkbnnlhilnnpeaaDoor
