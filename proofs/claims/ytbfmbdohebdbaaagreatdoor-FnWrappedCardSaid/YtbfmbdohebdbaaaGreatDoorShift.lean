/-
  Contracts and facts that the laws of this seat use: ShiftI, ShiftS.
-/
import Derived.Test.YtbfmbdohebdbaaaGreatDoorPure
import Derived.Test.YtbfmbdohebdbaaaGreatDoorBase
import Derived.WalkKit
import Derived.LoopTactic
import Derived.OwnWalk
import Derived.WalkLawsBesides
import Derived.WalkSpells
import Derived.Outline
import Derived.Below
import Derived.Deep.WholeRow
import Derived.Great.Walk
import Derived.Laws.OwnMore
import Derived.Laws.CopyOwn
import Derived.Lib.BufferWrite
import Derived.IntWalk
set_option linter.unusedVariables false
set_option linter.unusedSimpArgs false
namespace Go.Proofs.YtbfmbdohebdbaaaGreatDoor
open Go.RowKit

/-- the bytes of a block as an array's cells. -/
def stA (h : Nat → UInt8) : Array Value := (cells8 (upTo h 16)).toArray
theorem stA_size (h : Nat → UInt8) : (stA h).size = 16 := by simp [stA, cells8_length, upTo_length]
theorem stA_at (h : Nat → UInt8) (i : Nat) (hi : i < 16) : (stA h)[i]? = some (.int .u8 ((h i).toNat : Int)) := by
  unfold stA cells8
  rw [List.getElem?_toArray, List.getElem?_map, upTo_at h 16 i hi]; rfl
theorem stA_one (h : Nat → UInt8) : (stA h).all (·.oneCell') = true := by
  rw [Array.all_eq_true_iff_forall_mem]
  intro v hv
  exact cells8_oneCell (upTo h 16) v (by simpa [stA] using hv)
/-- the bytes of a block of which k are turned. -/
def tuA (f : Nat → UInt8) (k : Nat) : Array Value := (cells8 (rowTo f (fun _ => 0) 16 k)).toArray
theorem tuA_size (f : Nat → UInt8) (k : Nat) : (tuA f k).size = 16 := by simp [tuA, cells8_length, rowTo_length]
theorem tuA_set (f : Nat → UInt8) (k : Nat) : (tuA f k).setIfInBounds k (.int .u8 ((f k).toNat : Int)) = tuA f (k + 1) := by
  unfold tuA
  rw [List.setIfInBounds_toArray, ← rowTo_set]
  simp [cells8, cell8, List.map_set]
theorem tuA_all (f : Nat → UInt8) : tuA f 16 = stA f := by unfold tuA stA; rw [rowTo_all _ _ _ _ (Nat.le_refl _)]
theorem tuA_at (f : Nat → UInt8) (k : Nat) (hk : k < 16) : (tuA f k)[k]? = some (.int .u8 0) := by
  unfold tuA cells8
  rw [List.getElem?_toArray, List.getElem?_map, rowTo_hi f (fun _ => 0) 16 k k hk (Nat.le_refl _)]; rfl
def zero16 : Array Value := #[.int .u8 0, .int .u8 0, .int .u8 0, .int .u8 0, .int .u8 0, .int .u8 0, .int .u8 0, .int .u8 0, .int .u8 0, .int .u8 0, .int .u8 0, .int .u8 0, .int .u8 0, .int .u8 0, .int .u8 0, .int .u8 0]
theorem zero16_tu (f : Nat → UInt8) : zero16 = tuA f 0 := by unfold tuA; rw [rowTo_zero]; rfl
theorem stA_info (h : Nat → UInt8) : (Tryz.prog.info? 146).map (·.size) = some (stA h).size := by rw [stA_size]; kernel_rfl
theorem tuA_info (f : Nat → UInt8) (k : Nat) : (Tryz.prog.info? 146).map (·.size) = some (tuA f k).size := by rw [tuA_size]; kernel_rfl
/-- A block of bytes stands in memory. -/
def StAt (w : World) (g : Nat) (cs : Array Value) : Prop := w.heap[g]? = some (.cells cs 146 (0, 0))
theorem StAt.lt {w : World} {g : Nat} {cs : Array Value} (h : StAt w g cs) : g < w.heap.size := by
  rcases Nat.lt_or_ge g w.heap.size with h2 | h2
  · exact h2
  · rw [StAt, Array.getElem?_eq_none h2] at h; cases h
theorem StAt.below {w w' : World} {B g : Nat} {cs : Array Value} (h : StAt w g cs) (hb : Below B w w') (hg : g < B) : StAt w' g cs := (hb.block g hg).trans h
theorem sh_num (k d : Nat) (hk : k < 16) (hd : d ≤ 3) (x : Int) (hx : x = (k : Int) + 4 * (d : Int) * ((k % 4 : Nat) : Int)) : x.tmod 16 = ((shAt d k : Nat) : Int) := by
  unfold shAt
  rw [Int.tmod_eq_emod_of_nonneg (by have : (0 : Int) ≤ 4 * (d : Int) * ((k % 4 : Nat) : Int) := Int.mul_nonneg (by omega) (by omega); omega), hx]
  have h : (k : Int) + 4 * (d : Int) * ((k % 4 : Nat) : Int) = ((k + 4 * d * (k % 4) : Nat) : Int) := by rw [Int.natCast_add, Int.natCast_mul, Int.natCast_mul]; rfl
  rw [h]; omega
theorem three_new (w : World) (A B C : Array Value) {W : World} (hW : ((w.alloc (.cells A 146)).alloc (.cells B 146)).alloc (.cells C 146) = W) :
    StAt W w.heap.size A ∧ StAt W (w.heap.size + 1) B ∧ StAt W (w.heap.size + 1 + 1) C ∧ Below w.heap.size w W := by
  subst hW
  refine ⟨?_, ?_, ?_, ?_⟩
  · show (((w.alloc _).alloc _).alloc _).heap[w.heap.size]? = _
    rw [heap_alloc_old _ _ (by simp; omega), heap_alloc_old _ _ (by simp), heap_alloc_new]
  · show (((w.alloc _).alloc _).alloc _).heap[w.heap.size + 1]? = _
    rw [heap_alloc_old _ _ (by simp), heap_alloc2_new]
  · have := heap_alloc_new ((w.alloc (.cells A 146)).alloc (.cells B 146)) (.cells C 146)
    simpa [StAt] using this
  · exact (((Below.refl _ _).alloc (Nat.le_refl _) _).alloc (by simp) _).alloc (by simp; omega) _
theorem zero16_lit : #[.int .u8 0, .int .u8 0, .int .u8 0, .int .u8 0, .int .u8 0, .int .u8 0, .int .u8 0, .int .u8 0, .int .u8 0, .int .u8 0, .int .u8 0, .int .u8 0, .int .u8 0, .int .u8 0, .int .u8 0, .int .u8 0] = zero16 := rfl
theorem StAt.set {w : World} {g : Nat} {f : Nat → UInt8} {k : Nat} (h : StAt w g (tuA f k)) {v : Value} (hv : v = .int .u8 ((f k).toNat : Int)) : StAt (w.setCell ⟨g, k, none⟩ v) g (tuA f (k + 1)) := by
  subst hv
  have h2 := heap_setCell_same w g k _ _ (.int .u8 ((f k).toNat : Int)) h
  rw [tuA_set] at h2; exact h2
theorem StAt.far {w : World} {g b : Nat} {cs : Array Value} (h : StAt w g cs) (k : Nat) (v : Value) (hb : g ≠ b) : StAt (w.setCell ⟨b, k, none⟩ v) g cs := (heap_setCell_other w ⟨b, k, none⟩ g v hb).trans h
set_option maxRecDepth 100000 in
set_option maxHeartbeats 1600000 in
theorem rowsTurned_impl (h : Nat → UInt8) (d : Nat) (hd : d ≤ 3) (w : World) :
    Calls Tryz.prog 190 #[.agg (stA h), .int .i64 d] w fun e w' => e = .returned (.agg (stA (fun i => h (shAt d i)))) ∧ Below w.heap.size w w' := by
  go_enter Tryz.func190, Tryz.ntmps190
  go_wp2
  rw [zero16_lit]
  obtain ⟨W, hW⟩ : ∃ W, ((w.alloc (.cells (stA h) 146)).alloc (.cells zero16 146)).alloc (.cells zero16 146) = W := ⟨_, rfl⟩
  obtain ⟨h1, h2, h3, hb⟩ := three_new w _ _ _ hW
  rw [hW]
  clear hW
  rw [zero16_tu (fun i => h (shAt d i))] at h3
  go_loopw [8] (fun v wr => ∃ k : Nat, k ≤ 16 ∧ v = .int .i64 k ∧ StAt wr w.heap.size (stA h) ∧ StAt wr (w.heap.size + 1) zero16 ∧ StAt wr (w.heap.size + 1 + 1) (tuA (fun i => h (shAt d i)) k) ∧ Below w.heap.size w wr) (fun v _ => 16 - (intOf v).toNat)
  case atStart => exact ⟨0, by omega, rfl, h1, h2, h3, hb⟩
  case round =>
    obtain ⟨k, hk, rfl, g1, g2, g3, hbel⟩ := hrel
    by_cases hlt : k < 16
    · have hm : (k : Int).tmod 4 = ((k % 4 : Nat) : Int) := by rw [Int.tmod_eq_emod_of_nonneg (by omega)]; omega
      have hm4 : k % 4 < 4 := Nat.mod_lt _ (by omega)
      have hx := sh_num k d hlt hd _ rfl
      have hp : 4 * (d : Int) * ((k % 4 : Nat) : Int) ≤ 36 := by
        have : 4 * d * (k % 4) ≤ 12 * 3 := Nat.mul_le_mul (by omega) (by omega)
        have h : 4 * (d : Int) * ((k % 4 : Nat) : Int) = ((4 * d * (k % 4) : Nat) : Int) := by rw [Int.natCast_mul, Int.natCast_mul]; rfl
        rw [h]; omega
      have hp0 : 0 ≤ 4 * (d : Int) * ((k % 4 : Nat) : Int) := Int.mul_nonneg (by omega) (by omega)
      have hs := shAt_lt d k
      have hc := (cell_of_row wr _ (shAt d k) _ _ _ g1).trans (stA_at h _ hs)
      have hz := (cell_of_row wr _ k _ _ _ g3).trans (tuA_at _ k hlt)
      have hfz := frozen_of_row wr _ k _ _ g3
      have G1 := fun v => Lib.hid (g1.far (b := w.heap.size + 1 + 1) k v (by omega))
      have G2 := fun v => Lib.hid (g2.far (b := w.heap.size + 1 + 1) k v (by omega))
      have G3 := fun v hv => Lib.hid (g3.set (v := v) hv)
      have HB := fun v => Lib.hid (hbel.setCell (p := ⟨w.heap.size + 1 + 1, k, none⟩) (by simp; omega) v)
      have q1 : IntKind.i64.wrap (4 * (d : Int)) = 4 * (d : Int) := IntWalk.i64_in _ (by omega)
      have q2 : IntKind.i64.wrap (4 * (d : Int) * ((k % 4 : Nat) : Int)) = 4 * (d : Int) * ((k % 4 : Nat) : Int) := IntWalk.i64_in _ (by omega)
      have q3 : IntKind.i64.wrap ((k : Int) + 4 * (d : Int) * ((k % 4 : Nat) : Int)) = (k : Int) + 4 * (d : Int) * ((k % 4 : Nat) : Int) := IntWalk.i64_in _ (by omega)
      have hk1 : (k : Int) < 16 := by omega
      have hp2 : (shAt d k : Int) < 16 := by omega
      have hk0 : (0 : Int) ≤ (k : Int) := by omega
      generalize k % 4 = r at *
      generalize shAt d k = p at *
      have hp3 : (0 : Int) ≤ (p : Int) := by omega
      clear g1 g2 g3 hbel hs hm4 h1 h2 h3 hb
      go_wp2
      go_roundw
      case rel => exact ⟨k + 1, by omega, by go_num, (G1 _).out, (G2 _).out, (G3 _ rfl).out, (HB _).out⟩
      case measure => simp [intOf]; omega
    · obtain rfl : k = 16 := by omega
      rw [tuA_all] at g3
      have hone := stA_one (fun i => h (shAt d i))
      have hsi := stA_info (fun i => h (shAt d i))
      have hz : zero16.size = (stA (fun i => h (shAt d i))).size := by rw [stA_size]; rfl
      have hsr := setRow_heap wr _ _ (stA fun i => h (shAt d i)) _ _ g2
      have hbs : Hid (Below w.heap.size w (wr.setRow (w.heap.size + 1) (stA fun i => h (shAt d i)))) := Lib.hid (below_setRow hbel (by omega) _)
      generalize hR : stA (fun i => h (shAt d i)) = R at *
      have HR := Lib.hid hR
      clear hR
      generalize zero16 = Z at *
      clear h1 h2 h3 hb hbel
      have G2 := Lib.hid g2
      have G3 := Lib.hid g3
      have HSR := Lib.hid hsr
      clear g2 g3 hsr
      go_wp2_with (first
        | (refine wpList_load_row rfl 146 _ rfl (w.heap.size + 1 + 1) rfl 146 R (0, 0) _ G3.out Tryz.underlying146 rfl hsi ?_)
        | (refine wpList_store_row rfl 146 _ _ rfl (w.heap.size + 1) R rfl rfl 146 Z G2.out hsi hz hone ?_))
      refine bodyPost_ret (v := .agg R) ?_ rfl ⟨by rw [HR.out], hbs.out⟩
      exact results_cell_row rfl _ _ (w.heap.size + 1) 146 R (0, 0) _ rfl HSR.out Tryz.underlying146 rfl hsi
theorem turned1 (h : Nat → UInt8) (w : World) :
    Calls Tryz.prog 190 #[.agg (stA h), .int .i64 1] w fun e w' => e = .returned (.agg (stA (fun i => h (shAt 1 i)))) ∧ Below w.heap.size w w' := rowsTurned_impl h 1 (by omega) w
theorem turned3 (h : Nat → UInt8) (w : World) :
    Calls Tryz.prog 190 #[.agg (stA h), .int .i64 3] w fun e w' => e = .returned (.agg (stA (fun i => h (shAt 3 i)))) ∧ Below w.heap.size w w' := rowsTurned_impl h 3 (by omega) w
theorem two_new (w : World) (A B : Array Value) (t u : TypeId) : ((w.alloc (.cells A t)).alloc (.cells B u)).heap[w.heap.size]? = some (.cells A t (0, 0)) ∧ ((w.alloc (.cells A t)).alloc (.cells B u)).heap[w.heap.size + 1]? = some (.cells B u (0, 0)) ∧ Below w.heap.size w ((w.alloc (.cells A t)).alloc (.cells B u)) ∧ ((w.alloc (.cells A t)).alloc (.cells B u)).heap.size = w.heap.size + 1 + 1 :=
  ⟨heap_alloc2_old _ _ _, heap_alloc2_new _ _ _, ((Below.refl _ _).alloc (Nat.le_refl _) _).alloc (by simp) _, by simp⟩
set_option maxRecDepth 100000 in
set_option maxHeartbeats 800000 in
theorem shifted_impl (h : Nat → UInt8) (w : World) :
    Calls Tryz.prog 179 #[.agg (stA h)] w fun e w' => e = .returned (.agg (stA (fun i => h (shAt 1 i)))) ∧ Below w.heap.size w w' := by
  have C := fun W => Lib.hid (turned1 h W)
  obtain ⟨n1, n2, n3, n4⟩ := two_new w (stA h) zero16 146 146
  unfold zero16 at n1 n2 n3 n4
  have hsA := stA_info h
  have hsR := stA_info (fun i => h (shAt 1 i))
  have hz : zero16.size = (stA (fun i => h (shAt 1 i))).size := by rw [stA_size]; rfl
  unfold zero16 at hz
  have hone := stA_one (fun i => h (shAt 1 i))
  generalize stA (fun i => h (shAt 1 i)) = R at *
  generalize stA h = A at *
  have N1 := Lib.hid n1
  have N2 := Lib.hid n2
  have N3 := Lib.hid n3
  have N4 := Lib.hid n4
  clear n1 n2 n3 n4
  go_enter Tryz.func179, Tryz.ntmps179
  go_wp2_with (refine wpList_load_row rfl 146 _ rfl w.heap.size rfl 146 A (0, 0) _ N1.out Tryz.underlying146 rfl hsA ?_)
  refine (C _).out.mono ?_; rintro e w1 ⟨rfl, hb1⟩
  have M2 := Lib.hid ((hb1.block (w.heap.size + 1) (by rw [N4.out]; omega)).trans N2.out)
  have MS := Lib.hid (setRow_heap w1 _ _ R _ _ M2.out)
  have MB : Hid (Below w.heap.size w (w1.setRow (w.heap.size + 1) R)) := Lib.hid (below_setRow (N3.out.trans (hb1.mono (by rw [N4.out]; omega))) (by omega) _)
  clear N1 N2 N3 N4 hb1
  go_wp2_with (refine wpList_store_row rfl 146 _ _ rfl (w.heap.size + 1) R rfl rfl 146 _ M2.out hsR hz hone ?_)
  refine bodyPost_ret (v := .agg R) ?_ rfl ⟨rfl, MB.out⟩
  exact results_cell_row rfl _ _ (w.heap.size + 1) 146 R (0, 0) _ rfl MS.out Tryz.underlying146 rfl hsR
set_option maxRecDepth 100000 in
set_option maxHeartbeats 800000 in
theorem unshifted_impl (h : Nat → UInt8) (w : World) :
    Calls Tryz.prog 175 #[.agg (stA h)] w fun e w' => e = .returned (.agg (stA (fun i => h (shAt 3 i)))) ∧ Below w.heap.size w w' := by
  have C := fun W => Lib.hid (turned3 h W)
  obtain ⟨n1, n2, n3, n4⟩ := two_new w (stA h) zero16 146 146
  unfold zero16 at n1 n2 n3 n4
  have hsA := stA_info h
  have hsR := stA_info (fun i => h (shAt 3 i))
  have hz : zero16.size = (stA (fun i => h (shAt 3 i))).size := by rw [stA_size]; rfl
  unfold zero16 at hz
  have hone := stA_one (fun i => h (shAt 3 i))
  generalize stA (fun i => h (shAt 3 i)) = R at *
  generalize stA h = A at *
  have N1 := Lib.hid n1
  have N2 := Lib.hid n2
  have N3 := Lib.hid n3
  have N4 := Lib.hid n4
  clear n1 n2 n3 n4
  go_enter Tryz.func175, Tryz.ntmps175
  go_wp2_with (refine wpList_load_row rfl 146 _ rfl w.heap.size rfl 146 A (0, 0) _ N1.out Tryz.underlying146 rfl hsA ?_)
  refine (C _).out.mono ?_; rintro e w1 ⟨rfl, hb1⟩
  have M2 := Lib.hid ((hb1.block (w.heap.size + 1) (by rw [N4.out]; omega)).trans N2.out)
  have MS := Lib.hid (setRow_heap w1 _ _ R _ _ M2.out)
  have MB : Hid (Below w.heap.size w (w1.setRow (w.heap.size + 1) R)) := Lib.hid (below_setRow (N3.out.trans (hb1.mono (by rw [N4.out]; omega))) (by omega) _)
  clear N1 N2 N3 N4 hb1
  go_wp2_with (refine wpList_store_row rfl 146 _ _ rfl (w.heap.size + 1) R rfl rfl 146 _ M2.out hsR hz hone ?_)
  refine bodyPost_ret (v := .agg R) ?_ rfl ⟨rfl, MB.out⟩
  exact results_cell_row rfl _ _ (w.heap.size + 1) 146 R (0, 0) _ rfl MS.out Tryz.underlying146 rfl hsR
/-- a function that changes a block, as a value. -/
def fnV (f : FuncId) : Value := .func (.func f) #[] #[]
theorem copied (w : World) (g : Nat) (s : ByteArray) (hs : s.size = 16) (hg : StAt w g zero16) :
    (Builtin.copy_ #[22, 9] 3 #[.slice (some ⟨g, 0, none⟩) 16 16, .string s]).run Tryz.prog w = .ok (.int .i64 16) (w.setRow g (stA (byteOf s))) := by
  have h := Lib.run_copy_row_string (P := Tryz.prog) w 22 9 3 5 g 0 16 16 s zero16 146 Tryz.underlying22 (by kernel_rfl) hg (by omega) (by rw [hs]; decide)
  rw [h]
  have e : (zero16.toList.take 0 ++ Lib.byteCells s.data.toList ++ zero16.toList.drop (0 + s.size)).toArray = stA (byteOf s) := by
    have h0 : zero16.toList.drop (0 + s.size) = [] := by rw [hs]; rfl
    rw [h0, List.take_zero, List.nil_append, List.append_nil]
    unfold stA
    have hl : upTo (byteOf s) 16 = s.data.toList := by
      have := txt_own s 16 hs
      have h2 := congrArg (fun b => b.data.toList) this
      simpa [txt] using h2
    rw [hl]; rfl
  rw [e, hs]; rfl
theorem conv_st (w : World) (g : Nat) (h : Nat → UInt8) (hg : StAt w g (stA h)) :
    (convert 22 9 (.slice (some ⟨g, 0, none⟩) 16 16)).run Tryz.prog w = .ok (.string (txt h 16)) w := by
  have hB : Lib.Bytes w g 0 (txt h 16) := fun i hi => by
    have hi' : i < 16 := by rw [txt_size] at hi; exact hi
    rw [Nat.zero_add, cell_of_row w g i _ _ _ hg, stA_at h i hi', byteOf_at, txt_byte h 16 i hi']
  have := Lib.run_convert_whole (P := Tryz.prog) w 22 5 9 Tryz.underlying22 Tryz.underlying5 Tryz.underlying9 g 0 (txt h 16) hB 16
  rw [txt_size] at this
  exact this
/-- a block whose rows are shifted, or nothing. -/
def shT (d : Nat) (s : ByteArray) : ByteArray := if s.size = 16 then shS d s else ⟨#[]⟩
theorem shT_yes (d : Nat) (s : ByteArray) (h : s.size = 16) : shT d s = shS d s := if_pos h
theorem shT_no (d : Nat) (s : ByteArray) (h : ¬ s.size = 16) : shT d s = ⟨#[]⟩ := if_neg h
end Go.Proofs.YtbfmbdohebdbaaaGreatDoor
set_option linter.unusedVariables false
set_option linter.unusedSimpArgs false
namespace Go.Proofs.YtbfmbdohebdbaaaGreatDoor
open Go.RowKit

theorem idx_byte (s : ByteArray) (i : Int) (j : Nat) (h : i = (j : Int)) (hj : j < s.size) (w : World) : (Instr.index 9 (.string s) (.int .i64 i)).run Tryz.prog w = .ok (.int .u8 ((byteOf s j).toNat : Int)) w := by
  have hi : 0 ≤ i ∧ i < (s.size : Int) := by omega
  subst h
  rw [run_index_string w 9 s .i64 j Tryz.underlying9, dif_pos hi, ← byteOf_at s j hj]
  rfl
theorem mk8_sixteen : (mk8 16).toList = cells8 (List.replicate 16 0) := mk8_list 16
theorem sh_spec (k d q r m : Nat) (hk : k < 16) (hd : d ≤ 3) (hq : k / 4 = q) (hr : k % 4 = r) (hm : (q + d * r) % 4 = m) : m * 4 + r = shAt d k := by
  unfold shAt
  have hd4 : d = 0 ∨ d = 1 ∨ d = 2 ∨ d = 3 := by omega
  rcases hd4 with rfl | rfl | rfl | rfl <;> omega
set_option maxRecDepth 100000 in
set_option maxHeartbeats 1600000 in
theorem Rows_yes (d : Nat) (hd : d ≤ 3) (s : ByteArray) (hs : s.size = 16) (w : World) :
    Calls Tryz.prog 81 #[.string s, .int .i64 d] w fun e w' => e = .returned (.string (shS d s)) ∧ Below w.heap.size w w' := by
  obtain ⟨i0, hi, hz0, hz1, hz2⟩ := info_parts Tryz.info5
  have hmk : ∀ W : World, (Instr.makeSlice 22 (.int .i64 16) (.int .i64 16)).run Tryz.prog W = .ok (.slice (some ⟨W.heap.size, 0, none⟩) 16 16) (W.alloc (.cells (mk8 16) 5)) := fun W => run_make8 Tryz.underlying22 hi hz0 hz1 hz2 16 16 (by omega) (by omega) W
  have hs2 : (s.size : Int) = 16 := by omega
  have h0 := World.ownsRow_lit w (e := 5) (size := 1) (mk8 16) 16 (Nat.le_refl w.heap.size) (by unfold maxLen; omega) (by rw [mk8_size])
  rw [mk8_sixteen, ← upTo_const (0 : UInt8) 16, ← rowTo_zero (fun i => byteOf s (shAt d i))] at h0
  have HO := Lib.hid h0
  clear h0
  go_enter Tryz.func81, Tryz.ntmps81
  go_wp2
  clear hmk
  go_loopw [6] (fun i wr => ∃ k : Nat, k ≤ 16 ∧ i = .int .i64 k ∧ wr.ownsRow w.heap.size 5 1 (.slice (some ⟨w.heap.size, 0, none⟩) 16 16) 16 (cells8 (rowTo (fun i => byteOf s (shAt d i)) (fun _ => 0) 16 k)) ∧ Below w.heap.size w wr) (fun i _ => 16 - (intOf i).toNat)
  case atStart => exact ⟨0, by omega, rfl, HO.out, (Below.refl _ _).alloc (Nat.le_refl _) _⟩
  case round =>
    obtain ⟨k, hk, rfl, hown, hbel⟩ := hrel
    by_cases hlt : k < 16
    · obtain ⟨q, hq⟩ : ∃ q, k / 4 = q := ⟨_, rfl⟩
      obtain ⟨r, hr⟩ : ∃ r, k % 4 = r := ⟨_, rfl⟩
      obtain ⟨m, hm⟩ : ∃ m, (q + d * r) % 4 = m := ⟨_, rfl⟩
      have hp := sh_spec k d q r m hlt hd hq hr hm
      have e1 : (k : Int).tdiv 4 = (q : Int) := by rw [Int.tdiv_eq_ediv_of_nonneg (by omega)]; omega
      have e2 : (k : Int).tmod 4 = (r : Int) := by rw [Int.tmod_eq_emod_of_nonneg (by omega)]; omega
      have hdr : (d : Int) * (r : Int) = ((d * r : Nat) : Int) := by rw [Int.natCast_mul]
      have hdr2 : d * r ≤ 3 * 3 := Nat.mul_le_mul hd (by omega)
      have e3 : ((q : Int) + (d : Int) * (r : Int)).tmod 4 = (m : Int) := by rw [hdr, Int.tmod_eq_emod_of_nonneg (by omega)]; omega
      have q0 : IntKind.i64.wrap (q : Int) = (q : Int) := IntWalk.i64_in _ (by omega)
      have q1 : IntKind.i64.wrap ((d : Int) * (r : Int)) = (d : Int) * (r : Int) := IntWalk.i64_in _ (by rw [hdr]; omega)
      have q2 : IntKind.i64.wrap ((q : Int) + (d : Int) * (r : Int)) = (q : Int) + (d : Int) * (r : Int) := IntWalk.i64_in _ (by rw [hdr]; omega)
      have q3 : IntKind.i64.wrap ((m : Int) * 4) = (m : Int) * 4 := IntWalk.i64_in _ (by omega)
      have q4 : IntKind.i64.wrap ((m : Int) * 4 + (r : Int)) = (m : Int) * 4 + (r : Int) := IntWalk.i64_in _ (by omega)
      have hix := fun W => idx_byte s ((m : Int) * 4 + (r : Int)) (shAt d k) (by omega) (by have := shAt_lt d k; omega) W
      have hk1 : (k : Int) < 16 := by omega
      have hk0 : (0 : Int) ≤ (k : Int) := by omega
      obtain ⟨u, hcell⟩ : ∃ u, wr.cell? ⟨w.heap.size, k, none⟩ = some u := ⟨_, (hown.cellAt k (by omega)).trans (List.getElem?_eq_getElem (by rw [cells8_length, rowTo_length]; exact hlt))⟩
      have hfr := hown.frozenAt k
      have hown2 := (hown.stored k (cell8 (byteOf s (shAt d k)))).1
      have hcs : (cells8 (rowTo (fun i => byteOf s (shAt d i)) (fun _ => 0) 16 k)).set k (cell8 (byteOf s (shAt d k))) = cells8 (rowTo (fun i => byteOf s (shAt d i)) (fun _ => 0) 16 (k + 1)) := by rw [← rowTo_set]; simp [cells8, List.map_set]
      rw [hcs] at hown2
      have HB := Lib.hid (hbel.setCell (p := ⟨w.heap.size, k, none⟩) (Nat.le_refl _) (cell8 (byteOf s (shAt d k))))
      unfold cell8 at hown2 HB
      have HO2 := Lib.hid hown2
      clear hown hown2 hbel hcs hp HO hdr hdr2 hq hr hm
      generalize byteOf s (shAt d k) = c at *
      go_wp2
      go_roundw
      case rel => exact ⟨k + 1, by omega, by go_num, HO2.out, HB.out⟩
      case measure => simp [intOf]; omega
    · obtain rfl : k = 16 := by omega
      rw [rowTo_all _ _ _ _ (Nat.le_refl _)] at hown
      have hconv := run_string_own Tryz.underlying22 Tryz.underlying5 Tryz.underlying9 hown
      have HB := Lib.hid hbel
      clear hown hbel HO
      go_wp2
      go_ret
      exact ⟨rfl, HB.out⟩
set_option maxRecDepth 100000 in
theorem Rows_no (d : Int) (s : ByteArray) (hs : ¬ s.size = 16) (w : World) :
    Calls Tryz.prog 81 #[.string s, .int .i64 d] w fun e w' => e = .returned (.string ⟨#[]⟩) ∧ Below w.heap.size w w' := by
  have hs2 : ¬ (s.size : Int) = 16 := by omega
  go_enter Tryz.func81, Tryz.ntmps81
  go_wp2
  go_ret
  exact ⟨rfl, Below.refl _ _⟩
theorem Rows_any (d : Nat) (hd : d ≤ 3) (s : ByteArray) (w : World) :
    Calls Tryz.prog 81 #[.string s, .int .i64 d] w fun e w' => e = .returned (.string (shT d s)) ∧ Below w.heap.size w w' := by
  by_cases h : s.size = 16
  · rw [shT_yes d s h]; exact Rows_yes d hd s h w
  · rw [shT_no d s h]; exact Rows_no d s h w
set_option maxRecDepth 100000 in
theorem ShiftRows_spec (s : ByteArray) (w : World) :
    Calls Tryz.prog 71 #[.string s] w fun e w' => e = .returned (.string (shT 1 s)) ∧ Below w.heap.size w w' := by
  have H : Calls Tryz.prog 81 #[.string s, .int .i64 1] w fun e w' => e = .returned (.string (shT 1 s)) ∧ Below w.heap.size w w' := Rows_any 1 (by omega) s w
  generalize shT 1 s = r at *
  go_enter Tryz.func71, Tryz.ntmps71
  go_wp2_with fail
  refine H.mono ?_; rintro e w1 ⟨rfl, hb1⟩
  go_wp2
  go_ret
  exact ⟨rfl, hb1⟩
set_option maxRecDepth 100000 in
theorem UnshiftRows_spec (s : ByteArray) (w : World) :
    Calls Tryz.prog 50 #[.string s] w fun e w' => e = .returned (.string (shT 3 s)) ∧ Below w.heap.size w w' := by
  have H : Calls Tryz.prog 81 #[.string s, .int .i64 3] w fun e w' => e = .returned (.string (shT 3 s)) ∧ Below w.heap.size w w' := Rows_any 3 (by omega) s w
  generalize shT 3 s = r at *
  go_enter Tryz.func50, Tryz.ntmps50
  go_wp2_with fail
  refine H.mono ?_; rintro e w1 ⟨rfl, hb1⟩
  go_wp2
  go_ret
  exact ⟨rfl, hb1⟩
end Go.Proofs.YtbfmbdohebdbaaaGreatDoor
