/-
  What spec's MixColumns and UnmixColumns answer.
-/
import Derived.Test.YtbgjeipgmlcgaaaDoorUnmixS
import Derived.Test.YtbgjeipgmlcgaaaDoorRoundMath
set_option linter.unusedVariables false
set_option linter.unusedSimpArgs false
namespace Go.Proofs.YtbgjeipgmlcgaaaDoor
open Go.RowKit

/-- a block each of whose words is changed, or nothing. -/
def eachT (f : UInt32 → UInt32) (s : ByteArray) : ByteArray := if s.size = 16 then ofW (fun j => f (colW s j)) else ⟨#[]⟩
theorem eachT_yes (f : UInt32 → UInt32) (s : ByteArray) (h : s.size = 16) : eachT f s = ofW (fun j => f (colW s j)) := if_pos h
theorem eachT_no (f : UInt32 → UInt32) (s : ByteArray) (h : ¬ s.size = 16) : eachT f s = ⟨#[]⟩ := if_neg h
theorem column_is_spec (x y : UInt32) (r : Nat → UInt8) (g : Nat) (t : ByteArray) (ht : t = putW x) (hy : putW (mkW (colTo r x 0 4) (colTo r x 1 4) (colTo r x 2 4) (colTo r x 3 4)) = putW y) (w : World) (hr : Row4 w g r) :
    Calls Tryd.prog 36 #[.string t, .slice (some ⟨g, 0, none⟩) 4 4] w fun e w' => e = .returned (.string (putW y)) ∧ Below w.heap.size w w' := by
  subst ht
  rw [← hy, ← mkW_put]
  exact column_spec x r g w hr
set_option maxRecDepth 100000 in
set_option maxHeartbeats 1600000 in
theorem Columns_yes (f : UInt32 → UInt32) (r : Nat → UInt8) (hf : ∀ x, mkW (colTo r x 0 4) (colTo r x 1 4) (colTo r x 2 4) (colTo r x 3 4) = f x) (s : ByteArray) (hs : s.size = 16) (g : Nat) (w : World) (hr : Row4 w g r) :
    Calls Tryd.prog 46 #[.string s, .slice (some ⟨g, 0, none⟩) 4 4] w fun e w' => e = .returned (.string (ofW (fun j => f (colW s j)))) ∧ Below w.heap.size w w' := by
  have hs2 : (s.size : Int) = 16 := by omega
  have HC := fun x t ht W hW => Lib.hid (column_is_spec x (f x) r g t ht (by rw [hf x]) W hW)
  have HX : Hid (∀ k, k < 4 → s.extract (4 * k) (4 * k + 4) = putW (colW s k)) := Lib.hid (fun k hk => ext4 s (4 * k) (by omega))
  obtain ⟨F, hF⟩ : ∃ F : Nat → UInt32, F = fun j => f (colW s j) := ⟨_, rfl⟩
  rw [← hF]
  have HU := Lib.hid (outW_up F)
  have HZ := Lib.hid (outW_size F)
  have H4 := Lib.hid (outW_4 F)
  have H0 := Lib.hid (outW_0 F)
  have HF : Hid (∀ k, f (colW s k) = F k) := Lib.hid (fun k => by rw [hF])
  have HR := Lib.hid hr
  have hgl := hr.1
  clear hF hf hr
  go_enter Tryd.func46, Tryd.ntmps46
  go_wp2
  go_loopw [5, 6] (fun o i wr => ∃ k : Nat, k ≤ 4 ∧ i = .int .i64 k ∧ o = .string (outW F k) ∧ Below w.heap.size w wr) (fun _ i _ => 4 - (intOf i).toNat)
  case atStart => exact ⟨0, by omega, rfl, by rw [H0.out], Below.refl _ _⟩
  case round =>
    obtain ⟨k, hk, rfl, rfl, hbel⟩ := hrel
    by_cases hlt : k < 4
    · have hk1 : (k : Int) < 4 := by omega
      have hk0 : (0 : Int) ≤ (k : Int) := by omega
      have q1 : IntKind.i64.wrap (4 * (k : Int)) = 4 * (k : Int) := IntWalk.i64_in _ (by omega)
      have q2 : IntKind.i64.wrap (4 * (k : Int) + 4) = 4 * (k : Int) + 4 := IntWalk.i64_in _ (by omega)
      have hsl : ∀ W : World, (Instr.slice 9 (.string s) (some (.int .i64 (4 * (k : Int)))) (some (.int .i64 (4 * (k : Int) + 4))) none).run Tryd.prog W = .ok (.string (s.extract (4 * k) (4 * k + 4))) W := fun W => by
        have h := run_slice_string (P := Tryd.prog) W 9 s .i64 .i64 (4 * (k : Int)) (4 * (k : Int) + 4) Tryd.underlying9 (by omega) (by omega) (by omega)
        rw [h]
        have e1 : (4 * (k : Int)).toNat = 4 * k := by omega
        have e2 : (4 * (k : Int) + 4).toNat = 4 * k + 4 := by omega
        rw [e1, e2]
      have C := fun W hW => HC (colW s k) (s.extract (4 * k) (4 * k + 4)) (HX.out k hlt) W hW
      simp only [HF.out k] at C
      have HRW := Lib.hid (HR.out.below hbel (Nat.le_refl _))
      have HB := Lib.hid hbel
      have HS := Lib.hid (HU.out k)
      have hz := HZ.out k
      have hcat := fun W => run_string_add_sum (P := Tryd.prog) (w := W) (outW F k) (putW (F k)) (by rw [hz, putW_size]; omega)
      have hcap : ((outW F k).size : Int) + ((putW (F k)).size : Int) ≤ 140737488355328 := by rw [hz, putW_size]; omega
      clear hbel HC HX HF hz
      generalize s.extract (4 * k) (4 * k + 4) = T at *
      generalize putW (F k) = D at *
      generalize outW F k = O at *
      go_wp2_with fail
      refine (C _ HRW.out).out.mono ?_; rintro e w2 ⟨rfl, hb2⟩
      have HB2 := Lib.hid (HB.out.trans (hb2.mono HB.out.size))
      clear hb2 HB HRW C
      go_wp2
      go_roundw
      case rel => exact ⟨k + 1, by omega, by go_num, by rw [HS.out], HB2.out⟩
      case measure => simp [intOf]; omega
    · obtain rfl : k = 4 := by omega
      have HB := Lib.hid hbel
      clear hbel
      go_wp2
      go_ret
      exact ⟨by rw [← H4.out]; rfl, HB.out⟩
set_option maxRecDepth 100000 in
theorem Columns_no (s : ByteArray) (hs : ¬ s.size = 16) (v : Value) (w : World) :
    Calls Tryd.prog 46 #[.string s, v] w fun e w' => e = .returned (.string ⟨#[]⟩) ∧ Below w.heap.size w w' := by
  have hs2 : ¬ (s.size : Int) = 16 := by omega
  go_enter Tryd.func46, Tryd.ntmps46
  go_wp2
  go_ret
  exact ⟨rfl, Below.refl _ _⟩
theorem Columns_any (f : UInt32 → UInt32) (r : Nat → UInt8) (hf : ∀ x, mkW (colTo r x 0 4) (colTo r x 1 4) (colTo r x 2 4) (colTo r x 3 4) = f x) (s : ByteArray) (g : Nat) (w : World) (hr : Row4 w g r) :
    Calls Tryd.prog 46 #[.string s, .slice (some ⟨g, 0, none⟩) 4 4] w fun e w' => e = .returned (.string (eachT f s)) ∧ Below w.heap.size w w' := by
  by_cases h : s.size = 16
  · rw [eachT_yes f s h]; exact Columns_yes f r hf s h g w hr
  · rw [eachT_no f s h]; exact Columns_no s h _ w
theorem row_mx (w : World) : Row4 (w.alloc (.cells #[.int .i64 2, .int .i64 3, .int .i64 1, .int .i64 1] 3)) w.heap.size mxR :=
  ⟨by simp, fun j hj => by
    have h4 : j = 0 ∨ j = 1 ∨ j = 2 ∨ j = 3 := by omega
    rcases h4 with rfl | rfl | rfl | rfl
    · exact (cell_of_row _ w.heap.size 0 _ _ _ (heap_alloc_new w _)).trans rfl
    · exact (cell_of_row _ w.heap.size 1 _ _ _ (heap_alloc_new w _)).trans rfl
    · exact (cell_of_row _ w.heap.size 2 _ _ _ (heap_alloc_new w _)).trans rfl
    · exact (cell_of_row _ w.heap.size 3 _ _ _ (heap_alloc_new w _)).trans rfl⟩
set_option maxRecDepth 100000 in
theorem MixColumns_spec (s : ByteArray) (w : World) :
    Calls Tryd.prog 20 #[.string s] w fun e w' => e = .returned (.string (eachT mxW s)) ∧ Below w.heap.size w w' := by
  have H := Columns_any mxW mxR mx_r s w.heap.size _ (row_mx w)
  have HB : Hid (Below w.heap.size w (w.alloc (.cells #[.int .i64 2, .int .i64 3, .int .i64 1, .int .i64 1] 3))) := Lib.hid ((Below.refl _ _).alloc (Nat.le_refl _) _)
  generalize eachT mxW s = r at *
  go_enter Tryd.func20, Tryd.ntmps20
  go_wp2_with fail
  refine H.mono ?_; rintro e w1 ⟨rfl, hb1⟩
  have HB2 := Lib.hid (HB.out.trans (hb1.mono HB.out.size))
  clear hb1 HB
  go_wp2
  go_ret
  exact ⟨rfl, HB2.out⟩
set_option maxRecDepth 100000 in
theorem UnmixColumns_spec (s : ByteArray) (w : World) :
    Calls Tryd.prog 21 #[.string s] w fun e w' => e = .returned (.string (eachT unmixW s)) ∧ Below w.heap.size w w' := by
  have H := Columns_any unmixW unR unmix_r s w.heap.size _ (row4_new w)
  have HB : Hid (Below w.heap.size w (w.alloc (.cells #[.int .i64 14, .int .i64 11, .int .i64 13, .int .i64 9] 3))) := Lib.hid ((Below.refl _ _).alloc (Nat.le_refl _) _)
  generalize eachT unmixW s = r at *
  go_enter Tryd.func21, Tryd.ntmps21
  go_wp2_with fail
  refine H.mono ?_; rintro e w1 ⟨rfl, hb1⟩
  have HB2 := Lib.hid (HB.out.trans (hb1.mono HB.out.size))
  clear hb1 HB
  go_wp2
  go_ret
  exact ⟨rfl, HB2.out⟩
end Go.Proofs.YtbgjeipgmlcgaaaDoor
