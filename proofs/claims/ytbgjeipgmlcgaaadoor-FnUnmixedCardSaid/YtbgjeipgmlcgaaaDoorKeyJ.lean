/-
  What impl's key type answers: growths, expanded; numbersOf, Expand, RoundKey.
-/
import Derived.Test.YtbgjeipgmlcgaaaDoorKeyI
import Derived.Test.YtbgjeipgmlcgaaaDoorInts
import Derived.WalkKit
import Derived.LoopTactic
import Derived.OwnWalk
import Derived.WalkLawsBesides
import Derived.WalkSpells
import Derived.Outline
import Derived.Below
import Derived.Laws.OwnMore
import Derived.Laws.MakeOwn
import Derived.Laws.EntriesVeiled
import Derived.Shelf.Abstract
import Derived.Laws.IdiomStrings
import Derived.Deep.RegionHeld3
import Derived.Deep.QuietTactic
import Derived.BigQuiet
import Derived.IntWalk
set_option linter.unusedVariables false
namespace Go.Proofs.YtbgjeipgmlcgaaaDoor
open Go.RowKit
attribute [local go_sem ↓] Go.wp_at_zero Go.wp_at_succ

/-- a function as a value. -/
def gfn (f : FuncId) : Value := .func (.func f) #[] #[]
def growAgg : Array Value := #[gfn 71, gfn 71, gfn 72]
theorem grow_size : (Tryd.prog.info? 66).map (·.size) = some growAgg.size := by kernel_rfl
set_option maxRecDepth 100000 in
theorem growths_impl (w : World) : Calls Tryd.prog 56 #[] w fun e w' => e = .returned (.agg growAgg) ∧ Below w.heap.size w w' := by
  go_enter Tryd.func56, Tryd.ntmps56
  go_wp2
  refine bodyPost_ret (v := .agg growAgg) ?_ rfl ⟨rfl, (Below.refl _ _).alloc (Nat.le_refl _) _⟩
  exact results_cell_row rfl _ _ w.heap.size 66 _ (0, 0) _ rfl (heap_alloc_new w _) Tryd.underlying66 rfl grow_size
theorem own_below {w w' : World} {base n size : Nat} {e : TypeId} {v : Value} {xs : List Value} (h : w.ownsRow base e size v n xs) (hb : Below w.heap.size w w') : w'.ownsRow base e size v n xs := by
  refine ⟨h.1, ?_⟩
  rcases h.2 with hn | ⟨g, cap, cur, hv, hB, hg, rest⟩
  · exact .inl hn
  · refine .inr ⟨g, cap, cur, hv, hB, (hb.block g ?_).trans hg, rest⟩
    rcases Nat.lt_or_ge g w.heap.size with hlt | hge
    · exact hlt
    · rw [Array.getElem?_eq_none hge] at hg; cases hg
theorem bytes_made_k (s : ByteArray) (hs : s.size ≤ 1073741824) (w : World) :
    ∃ cap w2, (convert 39 22 (.string s)).run Tryd.prog w = .ok (.slice (some ⟨w.heap.size, 0, none⟩) s.size cap) w2 ∧ s.size ≤ cap ∧ cap ≤ 9223372036854775807 ∧ Below w.heap.size w w2 ∧ (∀ j (h : j < s.size), w2.cell? ⟨w.heap.size, j, none⟩ = some (cell8 s[j])) := by
  refine ⟨_, _, run_bytes_of_string (P := Tryd.prog) w 39 22 5 s Tryd.underlying39 Tryd.underlying22 Tryd.underlying5, grownCap_ge _ _ _ _, ?_, ?_, ?_⟩
  · have := grownCap_le_maxLen w s.size 0 5 (by unfold maxLen; omega)
    unfold maxLen at this; omega
  · exact ((Below.refl _ _).drew).alloc (Nat.le_refl _) _
  · intro j hj
    rw [cell_of_row _ w.heap.size j _ _ _ (heap_alloc_new w.drew _), bytesRow_at _ _ _ (by exact hj)]
    rfl
def mk32 (n : Nat) : Array Value := madeCells #[.int .u32 0] n
theorem mk32_size (n : Nat) : (mk32 n).size = n := size_madeCells _ _
theorem run_make32 {P : Program} {t e : TypeId} {i : TypeInfo} (ht : P.underlying t = some (.slice e)) (hi : P.info? e = some i) (hz : i.zero = some (.int .u32 0)) (h1 : i.size = 1) (h2 : i.bytes = 4)
    (l : Nat) (c : Int) (hc : c = (l : Int)) (hc2 : l ≤ 35184372088832) (w : World) :
    (Instr.makeSlice t (.int .i64 c) (.int .i64 c)).run P w = .ok (.slice (some ⟨w.heap.size, 0, none⟩) l l) (w.alloc (.cells (mk32 l) e)) := by
  subst hc
  have := run_make (P := P) w t e i (.int .u32 0) ht hi hz .i64 .i64 l l (by omega) (by omega) (by rw [h2]; omega) (by omega)
  rw [this]
  simp [h1, mk32, Value.cells]
theorem mk32_list (n : Nat) : (mk32 n).toList = cells32 (List.replicate n 0) := by
  unfold mk32
  rw [toList_madeCells_one]
  simp [cells32, cell32]
theorem info32 : (Tryd.prog.info? 41).map (fun i => (i.zero, i.size, i.bytes)) = some (some (.int .u32 0), 1, 4) := by kernel_rfl
/-- the words of a key as far as they have grown. -/
def exTo (s : ByteArray) (n k : Nat) : List UInt32 := rowTo (ew s n) (fun _ => 0) (kL n) k
theorem exTo_length (s : ByteArray) (n k : Nat) : (exTo s n k).length = kL n := rowTo_length _ _ _ _
theorem exTo_zero (s : ByteArray) (n : Nat) : exTo s n 0 = List.replicate (kL n) 0 := by unfold exTo; rw [rowTo_zero, upTo_const]
theorem exTo_all (s : ByteArray) (n : Nat) : exTo s n (kL n) = upTo (ew s n) (kL n) := rowTo_all _ _ _ _ (Nat.le_refl _)
theorem cells32_at (l : List UInt32) (j : Nat) (x : UInt32) (h : l[j]? = some x) : (cells32 l)[j]? = some (.int .u32 (x.toNat : Int)) := by
  unfold cells32; rw [List.getElem?_map, h]; rfl
theorem ex_rel {w wr : World} {g n c k : Nat} {s : ByteArray} {x : UInt32} {e : TypeId} (hx : ew s n k = x)
    (hown : wr.ownsRow w.heap.size e 1 (.slice (some ⟨g, 0, none⟩) c c) c (cells32 (exTo s n k))) (hb : Below w.heap.size w wr) (hg : w.heap.size ≤ g) :
    (wr.setCell ⟨g, k, none⟩ (.int .u32 (x.toNat : Int))).ownsRow w.heap.size e 1 (.slice (some ⟨g, 0, none⟩) c c) c (cells32 (exTo s n (k + 1))) ∧ Below w.heap.size w (wr.setCell ⟨g, k, none⟩ (.int .u32 (x.toNat : Int))) := by
  refine ⟨?_, hb.setCell hg _⟩
  have h := (hown.stored k (cell32 x)).1
  have e : (cells32 (exTo s n k)).set k (cell32 x) = cells32 (exTo s n (k + 1)) := by
    rw [cells32_set, ← hx, exTo, exTo, rowTo_set]
  rw [e] at h
  exact h
theorem index_grow (W : World) : (Instr.index 66 (.agg growAgg) (.int .i64 0)).run Tryd.prog W = .ok (gfn 71) W ∧ (Instr.index 66 (.agg growAgg) (.int .i64 1)).run Tryd.prog W = .ok (gfn 71) W ∧ (Instr.index 66 (.agg growAgg) (.int .i64 2)).run Tryd.prog W = .ok (gfn 72) W :=
  ⟨by kernel_rfl, by kernel_rfl, by kernel_rfl⟩
/-- how a key grows: the function at its size's place tells growW. -/
theorem grow_of (s : ByteArray) (n : Nat) (h : kOf s n) : ∃ (F : FuncId) (z : Int), kSz s = z ∧ (∀ W, (Instr.index 66 (.agg growAgg) (.int .i64 z)).run Tryd.prog W = .ok (.func (.func F) #[] #[]) W) ∧ (∀ (args : Array Value) (W : World), (callFunc F args).run Tryd.prog W = .ok (.enter F args) W) ∧
    ∀ (i : Nat) (x : UInt32) (W : World), n ≤ i → i ≤ 1000 → Calls Tryd.prog F #[.string s, .int .i64 i, .int .u32 x.toNat] W fun e w' => e = .returned (.int .u32 (growW n i x).toNat) ∧ Below W.heap.size W w' := by
  have h0 := h
  obtain ⟨h1, rfl | rfl | rfl⟩ := h
  · refine ⟨71, 0, by simp [kSz, h1], fun W => (index_grow W).1, enters_of Tryd.func71 (by kernel_rfl) rfl, fun i x W hi hi2 => ?_⟩
    rw [growW_S 4 i x (by omega)]
    exact grow_impl s 4 h0 i hi hi2 x W
  · refine ⟨71, 1, by simp [kSz, h1], fun W => (index_grow W).2.1, enters_of Tryd.func71 (by kernel_rfl) rfl, fun i x W hi hi2 => ?_⟩
    rw [growW_S 6 i x (by omega)]
    exact grow_impl s 6 h0 i hi hi2 x W
  · refine ⟨72, 2, by simp [kSz, h1], fun W => (index_grow W).2.2, enters_of Tryd.func72 (by kernel_rfl) rfl, fun i x W hi hi2 => ?_⟩
    exact growLong_impl s h0 i hi hi2 x W
set_option maxRecDepth 100000 in
set_option maxHeartbeats 1600000 in
theorem expanded_yes (s : ByteArray) (n : Nat) (h : kOf s n) (w : World) :
    Calls Tryd.prog 32 #[.string s] w fun e w' => e = .returned (.slice (some ⟨w.heap.size, 0, none⟩) (kL n) (kL n)) ∧ w'.ownsRow w.heap.size 41 1 (.slice (some ⟨w.heap.size, 0, none⟩) (kL n) (kL n)) (kL n) (cells32 (upTo (ew s n) (kL n))) ∧ Below w.heap.size w w' := by
  have hle := h.le
  have H1 := Lib.hid (ok_yes s h.ok)
  have H2 := Lib.hid (rounds_yes s n h)
  have H3 := Lib.hid (words_impl s n h.1 hle.2)
  obtain ⟨i0, hi, hz0, hz1, hz2⟩ := info_parts info32
  have hmk := fun c hc => run_make32 Tryd.underlying38 hi hz0 hz1 hz2 (kL n) c hc (by unfold kL; omega) w
  have hrow := World.ownsRow_lit w (e := 41) (size := 1) (mk32 (kL n)) (kL n) (Nat.le_refl w.heap.size) (by unfold maxLen kL; omega) (by rw [mk32_size]; omega)
  rw [mk32_list, ← exTo_zero s n] at hrow
  have HR := Lib.hid hrow
  have hN4 : (4 : Int) ≤ (n : Int) := by omega
  have hN8 : (n : Int) ≤ 8 := by omega
  have hmk2 := hmk (4 * ((n : Int) + 6 + 1)) (by unfold kL; omega)
  have HL : Hid (kL n = 4 * (n + 7)) := Lib.hid rfl
  clear hrow hmk
  go_enter Tryd.func32, Tryd.ntmps32
  go_wp2_with fail
  refine (H1.out _).mono ?_; rintro e w' ⟨rfl, rfl⟩
  go_wp2_with fail
  refine (H2.out _).mono ?_; rintro e w' ⟨rfl, rfl⟩
  go_wp2_with fail
  refine (H3.out _).mono ?_; rintro e w' ⟨rfl, rfl⟩
  have hbel : Below w.heap.size w (w.alloc (.cells (mk32 (kL n)) 41)) := (Below.refl _ _).alloc (Nat.le_refl _) _
  have HB := Lib.hid hbel
  clear hmk2 hbel
  generalize w.alloc (.cells (mk32 (kL n)) 41) = W at *
  obtain ⟨L, hL⟩ : ∃ L, kL n = L := ⟨_, rfl⟩
  rw [hL] at HR HL ⊢
  have hL2 : (L : Int) ≤ 60 := by have := HL.out; omega
  have hLn : (n : Int) ≤ (L : Int) := by have := HL.out; omega
  go_wp2
  go_loopw [19] (fun v wr => ∃ k : Nat, k ≤ n ∧ v = .int .i64 k ∧ wr.ownsRow w.heap.size 41 1 (.slice (some ⟨w.heap.size, 0, none⟩) L L) L (cells32 (exTo s n k)) ∧ Below w.heap.size w wr) (fun v _ => n - (intOf v).toNat)
  case atStart => exact ⟨0, by omega, rfl, HR.out, HB.out⟩
  case round =>
    obtain ⟨k, hk, rfl, hown, hbel⟩ := hrel
    by_cases hlt : k < n
    · have hk1 : (k : Int) < (n : Int) := by omega
      have hk2 : (k : Int) < (L : Int) := by omega
      have hsz := h.1
      obtain ⟨cap, W2, hconv, hc1, hc2, hb2, hcells⟩ := bytes_made_k s (by omega) wr
      have hB4 : Bytes4 W2 wr.heap.size (4 * k) (wb (getW s (4 * k)) 0) (wb (getW s (4 * k)) 1) (wb (getW s (4 * k)) 2) (wb (getW s (4 * k)) 3) := by
        refine ⟨?_, ?_, ?_, ?_⟩
        · rw [getW_at s _ 0 (by omega), Nat.add_zero, hcells (4 * k) (by omega), byteOf_at]
        · rw [getW_at s _ 1 (by omega), hcells (4 * k + 1) (by omega), byteOf_at]
        · rw [getW_at s _ 2 (by omega), hcells (4 * k + 2) (by omega), byteOf_at]
        · rw [getW_at s _ 3 (by omega), hcells (4 * k + 3) (by omega), byteOf_at]
      have HG := Lib.hid (get_impl wr.heap.size s.size cap (4 * k) (getW s (4 * k)) W2 (by omega) hc1 hc2 hB4)
      rw [show ((4 * k : Nat) : Int) = 4 * (k : Int) by omega] at HG
      have hown2 := own_below hown hb2
      have hbel2 := hbel.trans (hb2.mono hbel.size)
      have hcl : (cells32 (exTo s n k)).length = L := by rw [cells32_length, exTo_length, hL]
      obtain ⟨u, hcell⟩ : ∃ u, W2.cell? ⟨w.heap.size, k, none⟩ = some u := ⟨_, (hown2.cellAt k (by omega)).trans (List.getElem?_eq_getElem (by omega))⟩
      have hfr := hown2.frozenAt k
      have HX := Lib.hid (ex_rel (x := getW s (4 * k)) (ew_lo s n k hlt) hown2 hbel2 (Nat.le_refl _))
      have hgl := w32_lt (getW s (4 * k))
      generalize getW s (4 * k) = y at *
      clear hsz hB4 hcells hown hown2 hbel hbel2 hcl hc1 hc2 hb2
      go_wp2_with fail
      with_reducible refine HG.out.mono ?_; rintro e w' ⟨rfl, rfl⟩
      go_wp2
      go_roundw
      case rel => exact ⟨k + 1, by omega, by go_num, HX.out⟩
      case measure => simp [intOf]; omega
    · obtain rfl : n = k := by omega
      obtain ⟨F, z, hz, hix, hen, hF⟩ := grow_of s n h
      have HF := Lib.hid hF
      have HS := fun W => Lib.hid (size_at s z hz W)
      have HA := fun W => Lib.hid (growths_impl W)
      obtain ⟨A, hA⟩ : ∃ A, growAgg = A := ⟨_, rfl⟩
      rw [hA] at HA hix
      clear hA hF hz
      go_wp2_with fail
      refine (HA _).out.mono ?_; rintro e w1 ⟨rfl, hb1⟩
      have hown1 := own_below hown hb1
      have hbel1 := hbel.trans (hb1.mono hbel.size)
      clear hown hbel hb1 HA
      go_wp2_with fail
      refine (HS _).out.mono ?_; rintro e w' ⟨rfl, rfl⟩
      have HO := Lib.hid hown1
      have HB1 := Lib.hid hbel1
      clear hown1 hbel1
      go_wp2
      clear hix HS
      go_loopw [7] (fun v wr => ∃ k : Nat, n ≤ k ∧ k ≤ L ∧ v = .int .i64 k ∧ wr.ownsRow w.heap.size 41 1 (.slice (some ⟨w.heap.size, 0, none⟩) L L) L (cells32 (exTo s n k)) ∧ Below w.heap.size w wr) (fun v _ => L - (intOf v).toNat)
      case atStart => exact ⟨n, by omega, by omega, rfl, HO.out, HB1.out⟩
      case round =>
        obtain ⟨k, hnk, hk, rfl, hown, hbel⟩ := hrel
        by_cases hlt : k < L
        · have hk2 : (k : Int) < (L : Int) := by omega
          have hk0 : (0 : Int) ≤ (k : Int) := by omega
          obtain ⟨a, ha⟩ : ∃ a, k = a + n := ⟨k - n, by omega⟩
          obtain ⟨b, hb⟩ : ∃ b, k = b + 1 := ⟨k - 1, by have := h.le; omega⟩
          have hnx : ew s n k = ew s n a ^^^ growW n k (ew s n b) := by
            rw [ew_hi s n k hnk (by have := h.le; omega), show k - n = a by omega, show k - 1 = b by omega]
          have HOW := Lib.hid hown
          have hca := (hown.cellAt a (by omega)).trans (cells32_at _ _ _ (rowTo_lo (ew s n) (fun _ => 0) (kL n) k a (by omega) (by have := h.le; omega)))
          have hcb := (hown.cellAt b (by omega)).trans (cells32_at _ _ _ (rowTo_lo (ew s n) (fun _ => 0) (kL n) k b (by omega) (by omega)))
          have hcl : (cells32 (exTo s n k)).length = L := by rw [cells32_length, exTo_length, hL]
          obtain ⟨u, hcell⟩ : ∃ u, wr.cell? ⟨w.heap.size, k, none⟩ = some u := ⟨_, (hown.cellAt k (by omega)).trans (List.getElem?_eq_getElem (by omega))⟩
          have hg := (hown.lt w.heap.size rfl).2
          have HC := fun W => Lib.hid (HF.out k (ew s n b) W hnk (by omega))
          have HBW := Lib.hid hbel
          generalize ew s n a = x at *
          generalize ew s n b = y at *
          generalize growW n k y = v at *
          have hx := w32_lt x
          have hy := w32_lt y
          have hv := w32_lt v
          have hX := u32_xor x v
          generalize x ^^^ v = t at *
          have ht := w32_lt t
          have q1 : IntKind.i64.wrap ((k : Int) - (n : Int)) = (a : Int) := by rw [show (k : Int) - (n : Int) = (a : Int) by omega]; exact IntWalk.i64_in _ (by omega)
          have q2 : IntKind.i64.wrap ((k : Int) - 1) = (b : Int) := by rw [show (k : Int) - 1 = (b : Int) by omega]; exact IntWalk.i64_in _ (by omega)
          have ha0 : (0 : Int) ≤ (a : Int) := by omega
          have haL : (a : Int) < (L : Int) := by omega
          have hb0 : (0 : Int) ≤ (b : Int) := by omega
          have hbL : (b : Int) < (L : Int) := by omega
          have hnka : (⟨w.heap.size, k, none⟩ : Addr) ≠ ⟨w.heap.size, a, none⟩ := by intro h2; injection h2; have := h.le; omega
          have hnkb : (⟨w.heap.size, k, none⟩ : Addr) ≠ ⟨w.heap.size, b, none⟩ := by intro h2; injection h2; omega
          have HNK := Lib.hid hnk
          clear hown hbel HF hcl ha hb hnk
          go_wp2
          go_region_held3 (fun w' => w'.cell? ⟨w.heap.size, a, none⟩ = some (.int .u32 (x.toNat : Int)) ∧ w'.cell? ⟨w.heap.size, b, none⟩ = some (.int .u32 (y.toNat : Int)))
            (first
              | exact ⟨hca, hcb⟩
              | exact ⟨(hb1.cell (p := ⟨w.heap.size, a, none⟩) (by simpa using hg)).trans hca, (hb1.cell (p := ⟨w.heap.size, b, none⟩) (by simpa using hg)).trans hcb⟩
              | exact ⟨(World.cell?_setCell_other (h := hnka) ..).trans ((hb1.cell (p := ⟨w.heap.size, a, none⟩) (by simpa using hg)).trans hca), (World.cell?_setCell_other (h := hnkb) ..).trans ((hb1.cell (p := ⟨w.heap.size, b, none⟩) (by simpa using hg)).trans hcb)⟩)
            (first | (go_simp; refine (HC _).out.mono ?_; rintro e w1 ⟨rfl, hb1⟩; have hc1 := (hb1.cell (p := ⟨w.heap.size, k, none⟩) (by simpa using hg)).trans hcell; have hf1 := (own_below (w := wr.drew) HOW.out hb1).frozenAt k))
          have hown1 := own_below (w := wr.drew) HOW.out hb1
          have hbel1 := (HBW.out.drew).trans (hb1.mono HBW.out.size)
          have HX := Lib.hid (ex_rel (x := t) hnx hown1 hbel1 (Nat.le_refl _))
          clear hown1 hbel1 hb1
          go_wp2
          go_roundw
          case rel => exact ⟨k + 1, by have := HNK.out; omega, by omega, by go_num, HX.out⟩
          case measure => simp [intOf]; omega
        · obtain rfl : L = k := by omega
          go_wp2
          go_ret
          exact ⟨by rw [hL]; rfl, by rw [← exTo_all, hL]; exact hown, hbel⟩
end Go.Proofs.YtbgjeipgmlcgaaaDoor
