/-
  What impl's hashOf and BlockHash answer: products in a map of one entry.
-/
import Derived.Test.YtbcaldhcgoclgaaFillI
import Derived.Test.YtbcaldhcgoclgaaGfT
import Derived.Great.Walk
set_option linter.unusedVariables false
set_option linter.unusedSimpArgs false
namespace Go.Proofs.Ytbcaldhcgoclgaa
open Go Go.RowKit

/-- the map's entries after k blocks: none, or the one product. -/
def entH (k : Nat) (N : Nat) : Array MapEntry := if k = 0 then #[] else #[{ key := .int .i64 ((16 * k : Nat) : Int), val := .agg (wcN N), born := k - 1 }]
/-- the world in which a map's block holds these entries. -/
def putMap (W : World) (b : Nat) (es : Array MapEntry) (c : Nat) : World := { W with heap := W.heap.setIfInBounds b (.map es c) }
theorem fk_nil (k : Int) (W : World) : (Instr.findKey 3 (.int .i64 k) []).run Try.prog W = .ok none W := by
  simp [Instr.findKey, run_underlying Try.underlying3, Instr.findNow]
theorem fk_one (k : Int) (e : MapEntry) (he : e.key = .int .i64 k) (es : List MapEntry) (W : World) : (Instr.findKey 3 (.int .i64 k) (e :: es)).run Try.prog W = .ok (some (0, e.val)) W := by
  simp [Instr.findKey, run_underlying Try.underlying3, Instr.findNow, he, Instr.sameNow]
theorem fk_not (k j : Int) (h : k ≠ j) (e : MapEntry) (he : e.key = .int .i64 j) (W : World) : (Instr.findKey 3 (.int .i64 k) [e]).run Try.prog W = .ok none W := by
  have hk : (k == j) = false := beq_false_of_ne h
  simp [Instr.findKey, run_underlying Try.underlying3, Instr.findNow, he, Instr.sameNow, hk]
theorem ck_int (em : Bool) (k : Int) (W : World) : (Instr.checkKey em 10000 3 (.int .i64 k)).run Try.prog W = .ok () W := by
  show (Instr.checkKey em (9999 + 1) 3 (.int .i64 k)).run Try.prog W = .ok () W
  unfold Instr.checkKey
  simp [run_underlying Try.underlying3]
theorem get_map {b c : Nat} {es : Array MapEntry} {W : World} (h : W.heap[b]? = some (.map es c)) : (getObj b).run Try.prog W = .ok (.map es c) W := by simp [getObj, Sem.run, h]
theorem set_map {b c : Nat} {es : Array MapEntry} {W : World} (es2 : Array MapEntry) (c2 : Nat) (h : W.heap[b]? = some (.map es c)) : (setObj b (.map es2 c2)).run Try.prog W = .ok () (putMap W b es2 c2) := by simp [setObj, Sem.run, h, putMap]
theorem zero_wide (W : World) : (zeroValue 34).run Try.prog W = .ok (.agg #[.int .u64 0, .int .u64 0]) W := by kernel_rfl
theorem look_0 (b c : Nat) (k : Int) (W : World) (h : W.heap[b]? = some (.map #[] c)) :
    (Instr.lookup 59 (.map (some b)) (.int .i64 k) false).run Try.prog W = .ok (.agg (wcN 0)) W := by
  simp [Instr.lookup, run_underlying Try.underlying59, get_map h, ck_int, fk_nil, zero_wide, Result.andThen, wcN_0]
theorem look_1 (b c : Nat) (k : Int) (e : MapEntry) (he : e.key = .int .i64 k) (W : World) (h : W.heap[b]? = some (.map #[e] c)) :
    (Instr.lookup 59 (.map (some b)) (.int .i64 k) false).run Try.prog W = .ok e.val W := by
  simp [Instr.lookup, run_underlying Try.underlying59, get_map h, ck_int, fk_one k e he, Result.andThen]
theorem upd_0 (b c : Nat) (k : Int) (v : Value) (W : World) (h : W.heap[b]? = some (.map #[] c)) :
    (Instr.mapUpdate 59 (.map (some b)) (.int .i64 k) v).run Try.prog W = .ok () (putMap W b #[{ key := .int .i64 k, val := v, born := c }] (c + 1)) := by
  simp [Instr.mapUpdate, run_underlying Try.underlying59, get_map h, set_map _ _ h, ck_int, fk_nil, Result.andThen]
theorem upd_1 (b c : Nat) (k j : Int) (hne : k ≠ j) (e : MapEntry) (he : e.key = .int .i64 j) (v : Value) (W : World) (h : W.heap[b]? = some (.map #[e] c)) :
    (Instr.mapUpdate 59 (.map (some b)) (.int .i64 k) v).run Try.prog W = .ok () (putMap W b #[e, { key := .int .i64 k, val := v, born := c }] (c + 1)) := by
  simp [Instr.mapUpdate, run_underlying Try.underlying59, get_map h, set_map _ _ h, ck_int, fk_not k j hne e he, Result.andThen]
theorem del_not (b c : Nat) (k j : Int) (hne : k ≠ j) (e : MapEntry) (he : e.key = .int .i64 j) (ty : TypeId) (W : World) (h : W.heap[b]? = some (.map #[e] c)) :
    (Builtin.delete_ #[59, 3] ty #[.map (some b), .int .i64 k]).run Try.prog W = .ok (.tuple #[]) (putMap W b #[e] c) := by
  simp [Builtin.delete_, run_underlying Try.underlying59, get_map h, set_map _ _ h, ck_int, fk_not k j hne e he, Result.andThen]
theorem del_first (b c : Nat) (k : Int) (e e2 : MapEntry) (he : e.key = .int .i64 k) (ty : TypeId) (W : World) (h : W.heap[b]? = some (.map #[e, e2] c)) :
    (Builtin.delete_ #[59, 3] ty #[.map (some b), .int .i64 k]).run Try.prog W = .ok (.tuple #[]) (putMap W b #[e2] c) := by
  simp [Builtin.delete_, run_underlying Try.underlying59, get_map h, set_map _ _ h, ck_int, fk_one k e he, Result.andThen]
theorem clear_map (b c : Nat) (es : Array MapEntry) (ty : TypeId) (W : World) (h : W.heap[b]? = some (.map es c)) :
    (Builtin.clear_ #[59] ty #[.map (some b)]).run Try.prog W = .ok (.tuple #[]) (putMap W b #[] c) := by
  simp [Builtin.clear_, run_underlying Try.underlying59, get_map h, set_map _ _ h, Result.andThen]
/-! ### the loop -/
/-- the world while a product is made: the map's block M holds what the look-up at a place answers; all else stays. -/
structure MapS (w0 wr W : World) (M : Nat) (at_ : Int) (N : Nat) : Prop where
  keep : ∀ b, b < wr.heap.size → b ≠ M → W.heap[b]? = wr.heap[b]?
  size : wr.heap.size ≤ W.heap.size
  bel : Below w0.heap.size w0 W
  map : ∃ es c, W.heap[M]? = some (.map es c) ∧ ∀ V : World, V.heap[M]? = some (.map es c) → (Instr.lookup 59 (.map (some M)) (.int .i64 at_) false).run Try.prog V = .ok (.agg (wcN N)) V
theorem MapS.look {w0 wr W : World} {M : Nat} {at_ : Int} {N : Nat} (h : MapS w0 wr W M at_ N) : (Instr.lookup 59 (.map (some M)) (.int .i64 at_) false).run Try.prog W = .ok (.agg (wcN N)) W := by
  obtain ⟨es, c, h1, h2⟩ := h.map
  exact h2 W h1
theorem MapS.up {w0 wr W W' : World} {M : Nat} {at_ : Int} {N : Nat} (h : MapS w0 wr W M at_ N) (hM : M < wr.heap.size) (hb : Below W.heap.size W W') : MapS w0 wr W' M at_ N := by
  obtain ⟨es, c, h1, h2⟩ := h.map
  refine ⟨fun b hb1 hb2 => (hb.block b (Nat.lt_of_lt_of_le hb1 h.size)).trans (h.keep b hb1 hb2), Nat.le_trans h.size hb.size, h.bel.trans (hb.mono h.bel.size), es, c, (hb.block M (Nat.lt_of_lt_of_le hM h.size)).trans h1, h2⟩
/-- where the loop stands. -/
structure HaAt (w0 wr : World) (B k H N : Nat) : Prop where
  h : GW wr B H
  r : GW wr (B + 1) 0
  m : wr.heap[B + 1 + 1]? = some (.map (entH k N) k)
  bel : Below w0.heap.size w0 wr
theorem ent_look (M k N : Nat) (hN : k = 0 → N = 0) (V : World) (c : Nat) (h : V.heap[M]? = some (.map (entH k N) c)) : (Instr.lookup 59 (.map (some M)) (.int .i64 ((16 * k : Nat) : Int)) false).run Try.prog V = .ok (.agg (wcN N)) V := by
  unfold entH at h
  by_cases hk : k = 0
  · rw [if_pos hk] at h
    rw [hN hk]
    exact look_0 M c _ V h
  · rw [if_neg hk] at h
    exact look_1 M c _ _ rfl V h
theorem putMap_same {W : World} {b : Nat} (es : Array MapEntry) (c : Nat) (h : b < W.heap.size) : (putMap W b es c).heap[b]? = some (.map es c) := by
  unfold putMap
  simp [h]
theorem putMap_other (W : World) (b : Nat) (es : Array MapEntry) (c i : Nat) (h : i ≠ b) : (putMap W b es c).heap[i]? = W.heap[i]? := by
  unfold putMap
  exact Array.getElem?_setIfInBounds_ne (by omega)
theorem putMap_size (W : World) (b : Nat) (es : Array MapEntry) (c : Nat) : (putMap W b es c).heap.size = W.heap.size := by
  unfold putMap; simp
theorem putMap_below {w W : World} {B b : Nat} (h : Below B w W) (hb : B ≤ b) (es : Array MapEntry) (c : Nat) : Below B w (putMap W b es c) :=
  ⟨h.os, h.tape, h.output, by rw [putMap_size]; exact h.size, fun i hi => (putMap_other W b es c i (by omega)).trans (h.block i hi)⟩
theorem look_not (b c : Nat) (k j : Int) (hne : k ≠ j) (e : MapEntry) (he : e.key = .int .i64 j) (W : World) (h : W.heap[b]? = some (.map #[e] c)) :
    (Instr.lookup 59 (.map (some b)) (.int .i64 k) false).run Try.prog W = .ok (.agg (wcN 0)) W := by
  simp [Instr.lookup, run_underlying Try.underlying59, get_map h, ck_int, fk_not k j hne e he, zero_wide, Result.andThen, wcN_0]
theorem look_first (b c : Nat) (k : Int) (e e2 : MapEntry) (he : e.key = .int .i64 k) (W : World) (h : W.heap[b]? = some (.map #[e, e2] c)) :
    (Instr.lookup 59 (.map (some b)) (.int .i64 k) false).run Try.prog W = .ok e.val W := by
  simp [Instr.lookup, run_underlying Try.underlying59, get_map h, ck_int, fk_one k e he, Result.andThen]
theorem ent_upd (M k N X : Nat) (W : World) (h : W.heap[M]? = some (.map (entH k N) k)) (hM : M < W.heap.size) :
    ∃ es, (Instr.mapUpdate 59 (.map (some M)) (.int .i64 ((16 * (k + 1) : Nat) : Int)) (.agg (wcN X))).run Try.prog W = .ok () (putMap W M es (k + 1)) ∧
      (∀ (ty : TypeId) (V : World), V.heap[M]? = some (.map es (k + 1)) → (Builtin.delete_ #[59, 3] ty #[.map (some M), .int .i64 ((16 * k : Nat) : Int)]).run Try.prog V = .ok (.tuple #[]) (putMap V M (entH (k + 1) X) (k + 1))) ∧
      ((k = 0 → N = 0) → ∀ V : World, V.heap[M]? = some (.map es (k + 1)) → (Instr.lookup 59 (.map (some M)) (.int .i64 ((16 * k : Nat) : Int)) false).run Try.prog V = .ok (.agg (wcN N)) V) := by
  unfold entH at h
  have e1 : entH (k + 1) X = #[{ key := .int .i64 ((16 * (k + 1) : Nat) : Int), val := .agg (wcN X), born := k }] := by
    unfold entH
    rw [if_neg (by omega), Nat.add_sub_cancel]
  by_cases hk : k = 0
  · rw [if_pos hk] at h
    refine ⟨_, upd_0 M k _ _ W h, fun ty V hV => ?_, fun hN V hV => ?_⟩
    · rw [e1]
      exact del_not M (k + 1) _ ((16 * (k + 1) : Nat) : Int) (by omega) _ rfl ty V hV
    · rw [hN hk]
      exact look_not M (k + 1) _ ((16 * (k + 1) : Nat) : Int) (by omega) _ rfl V hV
  · rw [if_neg hk] at h
    refine ⟨_, upd_1 M k _ ((16 * k : Nat) : Int) (by omega) _ rfl _ W h, fun ty V hV => ?_, fun hN V hV => ?_⟩
    · rw [e1]
      exact del_first M (k + 1) _ _ _ rfl ty V hV
    · exact look_first M (k + 1) _ _ _ rfl V hV
theorem cut_blk (s : ByteArray) (n k : Nat) (hs : s.size = 16 * n) (hk : k < n) (A : Int) (hA : ((16 * k : Nat) : Int) = A) (W : World) :
    (Instr.slice 9 (.string s) (some (.int .i64 A)) (some (.int .i64 (A + 16))) none).run Try.prog W = .ok (.string (blk (byteOf s) k)) W := by
  have h1 := run_slice_string (P := Try.prog) W 9 s .i64 .i64 A (A + 16) Try.underlying9 (by omega) (by omega) (by omega)
  have e1 : A.toNat = 16 * k := by omega
  have e2 : (A + 16).toNat = 16 * k + 16 := by omega
  rw [e1, e2] at h1
  have e3 : s.extract (16 * k) (16 * k + 16) = blk (byteOf s) k := by
    refine b_ext _ _ 16 (by rw [ByteArray.size_extract]; omega) (blk_size _ _) fun i hi => ?_
    rw [byte_cut _ _ _ _ (by omega) (by omega), blk_byte _ _ _ hi]
  rw [e3] at h1
  exact h1
theorem three_new (w : World) (A B : Array Value) (t : TypeId) (es : Array MapEntry) (c : Nat) {W : World} (hW : ((w.alloc (.cells A t)).alloc (.cells B t)).alloc (.map es c) = W) :
    W.heap[w.heap.size]? = some (.cells A t (0, 0)) ∧ W.heap[w.heap.size + 1]? = some (.cells B t (0, 0)) ∧ W.heap[w.heap.size + 1 + 1]? = some (.map es c) ∧ Below w.heap.size w W := by
  subst hW
  have al : ∀ (V : World) (o : Obj), Below V.heap.size V (V.alloc o) := fun V o => (Below.refl _ V).alloc (Nat.le_refl _) _
  have sz : ∀ (V : World) (o : Obj), (V.alloc o).heap.size = V.heap.size + 1 := fun V o => by simp
  have keep : ∀ (V : World) (o : Obj) (b : Nat), b < V.heap.size → (V.alloc o).heap[b]? = V.heap[b]? := fun V o b hb => (al V o).block b hb
  have h1 : (w.alloc (.cells A t)).heap[w.heap.size]? = some (.cells A t (0, 0)) := heap_alloc_new w _
  have h2 : ((w.alloc (.cells A t)).alloc (.cells B t)).heap[(w.alloc (.cells A t)).heap.size]? = some (.cells B t (0, 0)) := heap_alloc_new _ _
  have h3 : (((w.alloc (.cells A t)).alloc (.cells B t)).alloc (.map es c)).heap[((w.alloc (.cells A t)).alloc (.cells B t)).heap.size]? = some (.map es c) := heap_alloc_new _ _
  rw [sz] at h2
  rw [sz, sz] at h3
  refine ⟨?_, ?_, h3, (al w _).trans (((al _ _).mono (by rw [sz]; omega)).trans ((al _ _).mono (by rw [sz, sz]; omega)))⟩
  · rw [keep _ _ _ (by rw [sz, sz]; omega), keep _ _ _ (by rw [sz]; omega)]; exact h1
  · rw [keep _ _ _ (by rw [sz, sz]; omega)]; exact h2
theorem made_map (W : World) : (Instr.makeMap 59 none).run Try.prog W = .ok (.map (some W.heap.size)) (W.alloc (.map #[] 0)) := by
  kernel_rfl
theorem HaAt.next {w wr V : World} {B k H N X : Nat} {A : Int} (hB : w.heap.size = B) (h : MapS w wr V (B + 1 + 1) A N) (th : GW wr B H) (tr : GW wr (B + 1) 0) (hM : B + 1 + 1 < wr.heap.size) :
    HaAt w (putMap V (B + 1 + 1) (entH (k + 1) X) (k + 1)) B (k + 1) H X := by
  refine ⟨?_, ?_, putMap_same _ _ (Nat.lt_of_lt_of_le hM h.size), putMap_below h.bel (by omega) _ _⟩
  · show (putMap _ _ _ _).heap[_]? = _
    rw [putMap_other _ _ _ _ _ (by omega), h.keep _ th.lt (by omega)]; exact th
  · show (putMap _ _ _ _).heap[_]? = _
    rw [putMap_other _ _ _ _ _ (by omega), h.keep _ tr.lt (by omega)]; exact tr
theorem times_L (X H0 H1 h : Nat) (hX : X < 2 ^ 128) (hh : h < 2 ^ 128) (e0 : h / 18446744073709551616 = H0) (e1 : h % 18446744073709551616 = H1) (W : World) :
    Calls Try.prog 19 #[.agg (wcN X), .agg #[.int .u64 (H0 : Int), .int .u64 (H1 : Int)]] W fun e w' => e = .returned (.agg (wcN (gfM X h))) ∧ Below W.heap.size W w' := by
  subst e0 e1
  exact wtimes_impl X h hX hh W
set_option maxRecDepth 100000 in
set_option maxHeartbeats 3200000 in
theorem hashOf_impl (h s : ByteArray) (hh : h.size = 16) (n : Nat) (hs : s.size = 16 * n) (hn : n ≤ 100000000) (w : World) :
    Calls Try.prog 27 #[wdN (gfN h), .string s] w fun e w' => e = .returned (.agg (wcN (gfN (hsK h (blk (byteOf s)) n)))) ∧ Below w.heap.size w w' := by
  obtain ⟨Nk, hNk⟩ : ∃ Nk : Nat → Nat, (fun k => gfN (hsK h (blk (byteOf s)) k)) = Nk := ⟨_, rfl⟩
  have hNe : ∀ k, gfN (hsK h (blk (byteOf s)) k) = Nk k := fun k => congrFun hNk k
  have hN0 : Nk 0 = 0 := by rw [← hNe]; exact gfN_zer
  have hNl : ∀ k, Nk k < 2 ^ 128 := fun k => by rw [← hNe]; exact gfN_lt _
  have hNs : ∀ k, gfM (Nk k ^^^ gfN (blk (byteOf s) k)) (gfN h) = Nk (k + 1) := fun k => by
    rw [← hNe, ← hNe, hsK, tmB_N, gfN_xor _ _ (hsK_size _ _ _) (blk_size _ _)]
  rw [hNe]
  have hhl := gfN_lt h
  obtain ⟨H, hH⟩ : ∃ H, gfN h = H := ⟨_, rfl⟩
  rw [hH] at hNs hhl ⊢
  obtain ⟨H0, e0⟩ : ∃ H0, H / 18446744073709551616 = H0 := ⟨_, rfl⟩
  obtain ⟨H1, e1⟩ : ∃ H1, H % 18446744073709551616 = H1 := ⟨_, rfl⟩
  have c1 := fun k W => Lib.hid (wide_in (blk (byteOf s) k) (blk_size _ _) W)
  have c2 := fun k W => Lib.hid (wturned_N (Nk k) (gfN (blk (byteOf s) k)) (hNl k) (gfN_lt _) W)
  have c3 := fun k W => Lib.hid (times_L (Nk k ^^^ gfN (blk (byteOf s) k)) H0 H1 H (Nat.xor_lt_two_pow (hNl k) (gfN_lt _)) hhl e0 e1 W)
  have CS := fun k (hk : k < n) A hA W => Lib.hid (cut_blk s n k hs hk A hA W)
  simp only [hNs] at c3
  have HN0 := Lib.hid hN0
  have hwc : wcN H = #[.int .u64 (H0 : Int), .int .u64 (H1 : Int)] := by subst e0 e1; rfl
  obtain ⟨W, hW⟩ : ∃ W, ((w.alloc (.cells (wcN H) 34)).alloc (.cells (wcN 0) 34)).alloc (.map #[] 0) = W := ⟨_, rfl⟩
  obtain ⟨g1, g2, g3, hbel⟩ := three_new w _ _ _ _ _ hW
  have HA0 : HaAt w W w.heap.size 0 H (Nk 0) := ⟨g1, g2, g3, hbel⟩
  rw [wcN_0, hwc] at hW
  have HW := Lib.hid hW
  have hs1 : (s.size : Int) = 16 * (n : Int) := by omega
  have hn1 : (n : Int) ≤ 100000000 := by omega
  have hn0 : (0 : Int) ≤ (n : Int) := by omega
  have hmm : ∀ W : World, (Instr.makeMap 59 none).run Try.prog W = .ok (.map (some W.heap.size)) (W.alloc (.map #[] 0)) := fun W => made_map W
  rw [wdN_c, hwc]
  clear hNk hNe hNs hN0 hW g1 g2 g3 hbel hs hH
  go_enter Try.func27, Try.ntmps27
  go_wp2
  rw [HW.out]
  clear HW
  go_loopw [6] (fun v wr => ∃ (k : Nat) (A : Int), k ≤ n ∧ ((16 * k : Nat) : Int) = A ∧ v = .int .i64 A ∧ HaAt w wr w.heap.size k H (Nk k)) (fun v _ => 16 * n - (intOf v).toNat)
  case atStart => exact ⟨0, 0, by omega, by omega, rfl, HA0⟩
  case round =>
    clear HA0
    obtain ⟨k, A, hk, hA, rfl, ⟨th, tr, tm, tb⟩⟩ := hrel
    have hA0 : (0 : Int) ≤ A := by omega
    have hA1 : A ≤ 1600000000 := by omega
    by_cases hlt : k < n
    · have hA2 : A < 16 * (n : Int) := by omega
      have hcs := fun W => (CS k hlt A hA W).out
      have d1 := fun W => Lib.hid (c1 k W).out
      have d2 := fun W => Lib.hid (c2 k W).out
      have d3 := fun W => Lib.hid (c3 k W).out
      have hlk := ent_look (w.heap.size + 1 + 1) k (Nk k) (fun h => by rw [h]; exact HN0.out)
      have hup := fun V hV hM => ent_upd (w.heap.size + 1 + 1) k (Nk k) (Nk (k + 1)) V hV hM
      have hE : ((16 * (k + 1) : Nat) : Int) = A + 16 := by omega
      rw [hA] at hlk
      rw [hA, hE] at hup
      have hMl := (Array.getElem?_eq_some_iff.1 tm).1
      have hSE : MapS w wr wr.drew (w.heap.size + 1 + 1) A (Nk k) := ⟨fun b _ _ => rfl, Nat.le_refl _, tb.drew, entH k (Nk k), k, tm, fun V hV => hlk V k hV⟩
      have m0 : wr.drew.heap[w.heap.size + 1 + 1]? = some (.map (entH k (Nk k)) k) := tm
      have hne1 : w.heap.size ≠ w.heap.size + 1 + 1 := by omega
      obtain ⟨q0, q1⟩ := th.cs e0 e1
      have q0d : wr.drew.cell? ⟨w.heap.size, 0, none⟩ = some (.int .u64 (H0 : Int)) := q0
      clear CS c1 c2 c3 hlk
      go_wp2_with fail
      generalize hBw : w.heap.size = B at *
      refine wp_region_held_drew (S := fun W => MapS w wr W (B + 1 + 1) A (Nk k)) (by kernel_rfl) hSE (fun hS => ?_)
      have h0 := hSE
      refine tk 0 (v := ?_) ?_ (by assumption) ?_
      rotate_left
      · intro w hSw
        go_simp
        first | done | with_reducible rfl
      try simp only [lay]
      refine tk 1 (v := ?_) ?_ (by assumption) ?_
      rotate_left
      · intro w hSw
        go_simp
        first | done | with_reducible rfl
      try simp only [lay]
      refine tk 2 (v := ?_) ?_ (by assumption) ?_
      rotate_left
      · intro w hSw
        go_simp
        first | done | with_reducible rfl
      try simp only [lay]
      refine tk 3 (v := ?_) ?_ (by assumption) ?_
      rotate_left
      · intro w hSw
        go_simp
        first | done | with_reducible rfl
      try simp only [lay]
      refine tk 4 (v := ?_) ?_ (by assumption) ?_
      rotate_left
      · intro w hSw
        have hlk2 := hSw.look
        go_simp
        first | done | with_reducible rfl
      try simp only [lay]
      refine tk 5 (v := ?_) ?_ (by assumption) ?_
      rotate_left
      · intro w hSw
        go_simp
        first | done | with_reducible rfl
      try simp only [lay]
      refine tk 6 (v := ?_) ?_ (by assumption) ?_
      rotate_left
      · intro w hSw
        go_simp
        first | done | with_reducible rfl
      try simp only [lay]
      refine tk 7 (v := ?_) ?_ (by assumption) ?_
      rotate_left
      · intro w hSw
        go_simp
        first | done | with_reducible rfl
      try simp only [lay]
      refine tk 8 (v := ?_) ?_ (by assumption) ?_
      rotate_left
      · intro w hSw
        go_simp
        first | done | with_reducible rfl
      try simp only [lay]
      refine tk 11 (v := ?_) ?_ (by assumption) ?_
      rotate_left
      · intro w hSw
        have gth : GW w B H := (hSw.keep B th.lt hne1).trans th
        obtain ⟨z0, z1⟩ := gth.cs e0 e1
        go_simp
        first | done | with_reducible rfl
      try simp only [lay]
      refine wpAnyH_ready (rs := [9]) (by kernel_rfl) (by simp) ?_
      refine AllReadyH.cons rfl (fun K hK => ?_) AllReadyH.nil
      go_simp
      refine ((d1 _).out).mono ?_; rintro e x1 ⟨rfl, hq⟩
      have m1 := (hq.block _ (Nat.lt_of_lt_of_le hMl h0.size)).trans m0
      have h1 := h0.up hMl hq
      clear hq
      refine hK.out _ _ h1 (fun _ => ?_)
      clear hK K
      try simp only [lay]
      refine wpAnyH_ready (rs := [10]) (by kernel_rfl) (by simp) ?_
      refine AllReadyH.cons rfl (fun K hK => ?_) AllReadyH.nil
      go_simp
      refine ((d2 _).out).mono ?_; rintro e x2 ⟨rfl, hq⟩
      have m2 := (hq.block _ (Nat.lt_of_lt_of_le hMl h1.size)).trans m1
      have h2 := h1.up hMl hq
      clear hq
      refine hK.out _ _ h2 (fun _ => ?_)
      clear hK K
      try simp only [lay]
      refine wpAnyH_ready (rs := [12]) (by kernel_rfl) (by simp) ?_
      refine AllReadyH.cons rfl (fun K hK => ?_) AllReadyH.nil
      go_simp
      refine ((d3 _).out).mono ?_; rintro e x3 ⟨rfl, hq⟩
      have m3 := (hq.block _ (Nat.lt_of_lt_of_le hMl h2.size)).trans m2
      have h3 := h2.up hMl hq
      clear hq
      refine hK.out _ _ h3 (fun _ => ?_)
      clear hK K
      try simp only [lay]
      refine wpAnyH_ready (rs := [13]) (by kernel_rfl) (by simp) ?_
      refine AllReadyH.cons rfl (fun K hK => ?_) AllReadyH.nil
      have hlt3 := Nat.lt_of_lt_of_le hMl h3.size
      obtain ⟨es, hu, hdel, hl2⟩ := hup x3 m3 hlt3
      have h4 : MapS w wr (putMap x3 (B + 1 + 1) es (k + 1)) (B + 1 + 1) A (Nk k) := ⟨fun b hb hb2 => (putMap_other _ _ _ _ _ hb2).trans (h3.keep b hb hb2), by rw [putMap_size]; exact h3.size, putMap_below h3.bel (by omega) es (k + 1), es, k + 1, putMap_same _ _ hlt3, hl2 (fun h => by rw [h]; exact HN0.out)⟩
      have m4 := putMap_same (W := x3) es (k + 1) hlt3
      go_simp
      refine hK.out _ _ h4 (fun _ => ?_)
      clear hK K
      try simp only [lay]
      refine wpAnyH_done (by kernel_rfl) ?_ _
      have hdl := fun ty => hdel ty _ m4
      have hnx := HaAt.next (k := k) (X := Nk (k + 1)) hBw h4 th tr hMl
      generalize putMap x3 (B + 1 + 1) es (k + 1) = V at *
      clear hu hdel hl2 hup hcs d1 d2 d3 m0 m1 m2 m3 h0 h1 h2 h3 h4 hS hSE q0 q1 q0d
      subst hBw
      go_wp2
      go_roundw
      case rel => exact ⟨k + 1, A + 16, by omega, hE, by go_num, hnx⟩
      case measure => simp [intOf]; omega
    · obtain rfl : k = n := by omega
      have hA3 : A = 16 * (k : Int) := by omega
      subst hA3
      have hneg : ¬ (16 * (k : Int)) < 16 * (k : Int) := by omega
      have hlk := ent_look (w.heap.size + 1 + 1) k (Nk k) (fun h => by rw [h]; exact HN0.out) wr k tm
      rw [hA] at hlk
      obtain ⟨V1, hV1⟩ : ∃ V1, wr.alloc (.cells #[.int .u64 0, .int .u64 0] 34) = V1 := ⟨_, rfl⟩
      have hb1 : Below wr.heap.size wr V1 := by rw [← hV1]; exact (Below.refl _ _).alloc (Nat.le_refl _) _
      have gz : GW V1 wr.heap.size 0 := by rw [← hV1]; exact heap_alloc_new wr _
      have gx := gz.set (Nk k)
      have hMl := (Array.getElem?_eq_some_iff.1 tm).1
      have hb2 := below_setRow (tb.trans (hb1.mono tb.size)) tb.size (wcN (Nk k)) (g := wr.heap.size)
      have r2 : GW (V1.setRow wr.heap.size (wcN (Nk k))) (w.heap.size + 1) 0 := (tr.up hb1).far (wcN (Nk k)) (by have := tr.lt; omega)
      have mm : (V1.setRow wr.heap.size (wcN (Nk k))).heap[w.heap.size + 1 + 1]? = some (.map (entH k (Nk k)) k) := (setRow_other V1 _ _ (wcN (Nk k)) (by omega)).trans ((hb1.block _ hMl).trans tm)
      have hml2 := (Array.getElem?_eq_some_iff.1 mm).1
      have hcl := fun ty => clear_map (w.heap.size + 1 + 1) k (entH k (Nk k)) ty _ mm
      obtain ⟨W2, hW2⟩ : ∃ W2, V1.setRow wr.heap.size (wcN (Nk k)) = W2 := ⟨_, rfl⟩
      rw [hW2] at gx hb2 r2 mm hml2 hcl
      have hwl : wr.heap.size ≠ w.heap.size + 1 + 1 := by omega
      have hwl2 : w.heap.size + 1 ≠ w.heap.size + 1 + 1 := by omega
      have gx3 : GW (putMap W2 (w.heap.size + 1 + 1) #[] k) wr.heap.size (Nk k) := (putMap_other W2 _ _ _ _ hwl).trans gx
      have r3 : GW (putMap W2 (w.heap.size + 1 + 1) #[] k) (w.heap.size + 1) 0 := (putMap_other W2 _ _ _ _ hwl2).trans r2
      have hb3 : Below w.heap.size w (putMap W2 (w.heap.size + 1 + 1) #[] k) := putMap_below hb2 (by omega) _ _
      obtain ⟨W3, hW3⟩ : ∃ W3, putMap W2 (w.heap.size + 1 + 1) #[] k = W3 := ⟨_, rfl⟩
      simp only [hW3] at gx3 r3 hb3 hcl
      obtain ⟨X0, x0⟩ : ∃ X0, Nk k / 18446744073709551616 = X0 := ⟨_, rfl⟩
      obtain ⟨X1, x1⟩ : ∃ X1, Nk k % 18446744073709551616 = X1 := ⟨_, rfl⟩
      have hwx : wcN (Nk k) = #[.int .u64 (X0 : Int), .int .u64 (X1 : Int)] := by subst x0 x1; rfl
      obtain ⟨cx0, cx1⟩ := gx3.cs x0 x1
      have hb4 := below_setRow hb3 (Nat.le_succ w.heap.size) #[.int .u64 (X0 : Int), .int .u64 (X1 : Int)] (g := w.heap.size + 1)
      have hsi := wcN_size (Nk k)
      have hone := wcN_one (Nk k)
      have hz : (wcN 0).size = (wcN (Nk k)).size := rfl
      have HWX := Lib.hid hwx
      have hsi2 := hsi
      have hone2 := hone
      have hz2 := hz
      rw [hwx] at hsi2 hone2 hz2
      have g4 := setRow_heap W3 (w.heap.size + 1) _ #[.int .u64 (X0 : Int), .int .u64 (X1 : Int)] _ _ r3
      have G4 := Lib.hid g4
      have HB4 := Lib.hid hb4
      have HSI := Lib.hid hsi2
      unfold GW at r3
      clear CS c1 c2 c3 HN0 hb1 hb2 hb3 hb4 r2 hml2 x0 x1 tm th tr tb hwx g4
      go_wp2_with (first | (refine wpList_store_row rfl 34 _ _ rfl wr.heap.size (wcN (Nk k)) rfl rfl 34 _ gz hsi hz hone ?_) | (refine wpList_store_row rfl 34 _ _ rfl (w.heap.size + 1) #[.int .u64 (X0 : Int), .int .u64 (X1 : Int)] rfl rfl 34 _ r3 hsi2 hz2 hone2 ?_))
      refine bodyPost_ret (v := .agg #[.int .u64 (X0 : Int), .int .u64 (X1 : Int)]) ?_ rfl ⟨by rw [HWX.out], HB4.out⟩
      exact results_cell_row rfl _ _ (w.heap.size + 1) 34 #[.int .u64 (X0 : Int), .int .u64 (X1 : Int)] (0, 0) _ rfl G4.out Try.underlying34 rfl HSI.out
set_option maxRecDepth 100000 in
set_option maxHeartbeats 1600000 in
theorem BlockHash_impl (h s : ByteArray) (hs : s.size ≤ 1073741824) (w : World) :
    Calls Try.prog 14 #[.string h, .string s] w fun e w' => e = .returned (.string (hsI h s)) ∧ Below w.heap.size w w' := by
  by_cases hh : h.size = 16
  · have hh1 : (h.size : Int) = 16 := by omega
    have hz := zpT_size s
    have H1 := fun W => Lib.hid (wide_in h hh W)
    have H2 := fun W => Lib.hid (filled_impl s hs W)
    have H3 := fun W => Lib.hid (hashOf_impl h (zpT s) hh ((s.size + 15) / 16) hz (by omega) W)
    have H4 := fun W => Lib.hid (wide_out (gfN (hsT h s)) (gfN_lt _) W)
    rw [gfT_N _ (hsT_size h s)] at H4
    rw [show hsK h (blk (byteOf (zpT s))) ((s.size + 15) / 16) = hsT h s from rfl] at H3
    rw [hsI_yes h s hh]
    rw [wdN_c (gfN (hsT h s))] at H4
    generalize wdN (gfN h) = x at *
    generalize Value.agg (wcN (gfN (hsT h s))) = y at *
    generalize hsT h s = r at *
    generalize zpT s = z at *
    clear hh hs hz
    go_enter Try.func14, Try.ntmps14
    go_wp2_with fail
    refine (H1 _).out.mono ?_; rintro e w1 ⟨rfl, hb1⟩
    go_wp2_with fail
    refine (H2 _).out.mono ?_; rintro e w2 ⟨rfl, hb2⟩
    go_wp2_with fail
    refine (H3 _).out.mono ?_; rintro e w3 ⟨rfl, hb3⟩
    go_wp2_with fail
    refine (H4 _).out.mono ?_; rintro e w4 ⟨rfl, hb4⟩
    have hb12 := hb1.trans (hb2.mono hb1.size)
    have hb13 := hb12.trans (hb3.mono hb12.size)
    have hb14 := hb13.trans (hb4.mono hb13.size)
    clear hb1 hb2 hb3 hb4 hb12 hb13
    go_wp2
    go_ret
    exact ⟨rfl, hb14⟩
  · have hh1 : ¬ (h.size : Int) = 16 := by omega
    rw [hsI_no h s hh]
    go_enter Try.func14, Try.ntmps14
    go_wp2
    go_ret
    exact ⟨rfl, Below.refl _ _⟩
end Go.Proofs.Ytbcaldhcgoclgaa
