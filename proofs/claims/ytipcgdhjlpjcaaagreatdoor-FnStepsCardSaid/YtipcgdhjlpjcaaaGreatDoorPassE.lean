/-
  The round keys of a key, as states: a range over slices.Chunk that appends a state a round.
-/
import Derived.Test.YtipcgdhjlpjcaaaGreatDoorPassD
import Derived.Test.YtipcgdhjlpjcaaaGreatDoorChunkI
import Derived.Test.YtipcgdhjlpjcaaaGreatDoorInRound
import Derived.Great.BuildSlice
set_option linter.unusedVariables false
set_option linter.unusedSimpArgs false
namespace Go.Proofs.YtipcgdhjlpjcaaaGreatDoor
open Go Go.RowKit Go.Shelf
attribute [local go_sem] Oper.semAt_some
attribute [local go_sem ↓] Go.wp_at_zero Go.wp_at_succ

theorem noDefer_of {ops : Array Oper} (h : ops.all (fun o => match o.op with | .defer _ => false | _ => true) = true) : NoDefer ops := by
  intro i o c ho he
  obtain ⟨hi, e⟩ := Array.getElem?_eq_some_iff.1 ho
  have h1 := (Array.all_eq_true.1 h) i hi
  rw [e, he] at h1
  cases h1
theorem infoSt : (Tryz.prog.info? 48).map (fun i => (i.zero, i.size, i.bytes)) = some (some (.agg zero16), 16, 16) := by kernel_rfl
theorem fill_state (g : Nat → UInt8) : Instr.fill (fun i => some (i * 16, 16)) ((Array.range (1 * 16)).map ((Value.agg zero16).cells[· % (Value.agg zero16).cells.size]!)) [(0, Value.agg (stA g))] = some (stA g) := by kernel_rfl
/-- the keys of a list, one behind the other, as cells. -/
def keyC (K : Nat → ByteArray) (l : List Nat) : List Value := l.flatMap fun i => cells8 (upTo (byteOf (K i)) 16)
theorem keyC_snoc (K : Nat → ByteArray) (l : List Nat) (x : Nat) : keyC K (l ++ [x]) = keyC K l ++ cells8 (upTo (byteOf (K x)) 16) := by
  unfold keyC; rw [List.flatMap_append, List.flatMap_singleton]
theorem keyC_length (K : Nat → ByteArray) (l : List Nat) : (keyC K l).length = l.length * 16 := by
  induction l with
  | nil => rfl
  | cons x l ih => show (cells8 _ ++ keyC K l).length = _; rw [List.length_append, ih, cells8_length, upTo_length, List.length_cons]; omega
theorem keyC_congr (K K2 : Nat → ByteArray) (l : List Nat) (h : ∀ i ∈ l, K i = K2 i) : keyC K l = keyC K2 l := by
  unfold keyC
  induction l with
  | nil => rfl
  | cons x l ih => rw [List.flatMap_cons, List.flatMap_cons, h x List.mem_cons_self, ih fun i hi => h i (List.mem_cons_of_mem _ hi)]
theorem keyC_at (K : Nat → ByteArray) (m i j : Nat) (hi : i < m) (hj : j < 16) : (keyC K (List.range m))[16 * i + j]? = (cells8 (upTo (byteOf (K i)) 16))[j]? := by
  induction m with
  | zero => omega
  | succ m ih =>
    rw [List.range_succ, keyC_snoc]
    have hl : (keyC K (List.range m)).length = m * 16 := by rw [keyC_length, List.length_range]
    by_cases h : i < m
    · rw [List.getElem?_append_left (by rw [hl]; omega)]; exact ih h
    · have : i = m := by omega
      subst this
      rw [List.getElem?_append_right (by rw [hl]; omega), hl]
      congr 1; omega
theorem others_below {w w' : World} (h : Below w.heap.size w w') : KeepsOthers w w' :=
  ⟨h.size, fun l o hl _ => (h.block l (by have := (Array.getElem?_eq_some_iff.1 hl).1; exact this)).trans hl⟩
theorem owns_down {w : World} {B C e size n : Nat} {v : Value} {xs : List Value} (h : w.ownsRow C e size v n xs) (hBC : B ≤ C) : w.ownsRow B e size v n xs := by
  refine ⟨h.1, ?_⟩
  rcases h.2 with hn | ⟨g, cap, cur, hv, hB, rest⟩
  · exact .inl hn
  · exact .inr ⟨g, cap, cur, hv, Nat.le_trans hBC hB, rest⟩
theorem owns_below {w w' : World} {B e size n : Nat} {v : Value} {xs : List Value} (h : w.ownsRow B e size v n xs) (hb : Below w.heap.size w w') : w'.ownsRow B e size v n xs := by
  refine ⟨h.1, ?_⟩
  rcases h.2 with hn | ⟨g, cap, cur, hv, hB, hg, rest⟩
  · exact .inl hn
  · exact .inr ⟨g, cap, cur, hv, hB, (hb.block g (Array.getElem?_eq_some_iff.1 hg).1).trans hg, rest⟩
theorem ownFrom_moved {β : Type} {H Bw B' : Nat} {w2 : World} (hB : Bw ≤ B') (h2 : Bw ≤ w2.heap.size) : OwnFrom B' (fun (_ : β) W => Moved H Bw w2 W) :=
  fun _ X Y row hs hg hr => ⟨hg.os.trans hs.os, hg.tape.trans hs.tape, hg.output.trans hs.output, Nat.le_trans hs.size hg.size, fun k hk hn => (hg.block k (by have h3 := hs.size; omega) (fun e => by have h1 := (hr k e.symm).1; omega)).trans (hs.block k hk hn)⟩
/-- what a round leaves: the append's new row, the store behind it. -/
theorem key_fin {w2 W W2 w4 : World} {H Bw k g cap : Nat} {v : Value} {L L2 : List Value} {o : Obj}
    (hv : Boxed W H 69 v) (hm : Moved H Bw w2 W) (hb2 : Below W.heap.size W W2) (hHB : H < Bw) (hBw : Bw ≤ W.heap.size) (hrow : W.ownsRow Bw 48 16 v k L)
    (hown : w4.ownsRow Bw 48 16 (.slice (some ⟨g, 0, none⟩) (k + 1) cap) (k + 1) L2) (hgrow : (W2.alloc o).grownBy w4 v.ownBlock) :
    w4.cell? ⟨H, 0, none⟩ = some v ∧ w4.frozen? ⟨H, 0, none⟩ = false ∧ Hid (Moved H Bw W w4) ∧ Hid (KeepsOthers W (w4.setCell ⟨H, 0, none⟩ (.slice (some ⟨g, 0, none⟩) (k + 1) cap)) ∧ Boxed (w4.setCell ⟨H, 0, none⟩ (.slice (some ⟨g, 0, none⟩) (k + 1) cap)) H 69 (.slice (some ⟨g, 0, none⟩) (k + 1) cap) ∧
      (w4.setCell ⟨H, 0, none⟩ (.slice (some ⟨g, 0, none⟩) (k + 1) cap)).ownsRow Bw 48 16 (.slice (some ⟨g, 0, none⟩) (k + 1) cap) (k + 1) L2 ∧ Moved H Bw W (w4.setCell ⟨H, 0, none⟩ (.slice (some ⟨g, 0, none⟩) (k + 1) cap)) ∧ Moved H Bw w2 (w4.setCell ⟨H, 0, none⟩ (.slice (some ⟨g, 0, none⟩) (k + 1) cap))) := by
  have hv2 : Boxed W2 H 69 v := (hb2.block _ hv.lt).trans hv
  have hrow2 := owns_below hrow hb2
  have hW2 := hb2.size
  obtain ⟨hv3, hv4, hr4, hk4, hb4⟩ := hv2.appended (by decide) (owns_down hrow2 (show H ≤ Bw by omega)) (by omega) (Nat.le_refl _) (owns_down hown (show H ≤ Bw by omega)) hgrow
  have hM4 : Moved H Bw W w4 :=
    (((Moved.of_below (p := H) hb2 hBw).trans (Moved.of_below ((Below.refl W2.heap.size _).alloc (Nat.le_refl _) o) (by omega))).grown hgrow (by simp; omega) (fun j e => (hrow2.lt j e).1))
  have hM := hM4.setCell 0 (.slice (some ⟨g, 0, none⟩) (k + 1) cap)
  exact ⟨hv3.cell, hv3.frozen, Lib.hid hM4, Lib.hid ⟨(others_below hb2).trans hk4, hv4, own_far hown hHB _ _, hM, hm.trans hM⟩⟩
set_option maxRecDepth 100000 in
set_option maxHeartbeats 3200000 in
theorem roundKeys_impl (s : ByteArray) (n : Nat) (h : kOf s n) (w : World) :
    Calls Tryz.prog 83 #[.string s] w fun e w' => ∃ g c, e = .returned (.slice (some ⟨g, 0, none⟩) (n + 7) c) ∧ w'.ownsRow w.heap.size 48 16 (.slice (some ⟨g, 0, none⟩) (n + 7) c) (n + 7) (keyC (rkS s n) (List.range (n + 7))) ∧ Below w.heap.size w w' := by
  refine (callsIn_wide (n := 3)).1 ?_
  have hle := h.le
  have hL : kL n = 4 * (n + 7) := rfl
  obtain ⟨i0, hi, hz0, hz1, hz2⟩ := info_parts infoSt
  have h3 : Fence.wide.fn 103 := trivial
  have h4 : Fence.wide.fn 45 := trivial
  have HE := fun W => Lib.hid (expanded_yes s n h W)
  obtain ⟨L, hL2⟩ : ∃ L, kL n = L := ⟨_, rfl⟩
  rw [hL2] at HE hL
  have HL := Lib.hid hL
  clear hL hL2
  refine callsIn_of_wp_marks Tryz.func83 rfl trivial ?_ rfl
  simp only [Tryz.ntmps83, List.size_toArray, List.length_cons, List.length_nil, Nat.reduceAdd, Nat.reduceSub, Array.replicate_succ, Array.replicate_zero, List.push_toArray, List.append_toArray, List.nil_append, List.cons_append]
  gi_wp2_with (first
    | (gi_at_call 45; refine (callsIn_wide.2 (HE _).out).mono ?_; rintro e w1 ⟨rfl, hw, hb1⟩)
    | (gi_at_call 103; refine (chunk_in _ _ _ _ _).mono ?_; rintro e w' ⟨rfl, rfl⟩))
  have bH0 := Boxed.new w 69 (.slice none 0 0)
  have bH1 : Boxed w1 w.heap.size 69 (.slice none 0 0) := (hb1.block _ bH0.lt).trans bH0
  have bS := Boxed.new w1 55 (.slice (some ⟨w.heap.size + 1, 0, none⟩) L L)
  have bN := Boxed.new (w1.alloc (.cells #[.slice (some ⟨w.heap.size + 1, 0, none⟩) L L] 55)) 3 (.int .i64 4)
  rw [World.size_alloc] at bN
  have hbw : Below w.heap.size w w1 := ((Below.refl _ w).alloc (Nat.le_refl _) _).trans (hb1.mono (by simp))
  have hb2 : Below w1.heap.size w1 ((w1.alloc (.cells #[.slice (some ⟨w.heap.size + 1, 0, none⟩) L L] 55)).alloc (.cells #[.int .i64 4] 3)) := ((Below.refl _ w1).alloc (Nat.le_refl _) _).alloc (by simp) _
  have hsz := hb1.size
  rw [World.size_alloc] at hsz hw
  have hw2 := owns_below hw hb2
  have bS2 := bS.alloc (.cells #[.int .i64 4] 3)
  have bH2 := (bH1.alloc (.cells #[.slice (some ⟨w.heap.size + 1, 0, none⟩) L L] 55)).alloc (.cells #[.int .i64 4] 3)
  have hbw2 := hbw.trans (hb2.mono hbw.size)
  have hszW : ((w1.alloc (.cells #[.slice (some ⟨w.heap.size + 1, 0, none⟩) L L] 55)).alloc (.cells #[.int .i64 4] 3)).heap.size = w1.heap.size + 2 := by simp
  generalize (w1.alloc (.cells #[.slice (some ⟨w.heap.size + 1, 0, none⟩) L L] 55)).alloc (.cells #[.int .i64 4] 3) = w2 at *
  clear bS bH0 bH1 hw hb1 hb2
  refine wpIn_rangeFunc_ownG rfl (by omega) (gf := 112) (lb := #[.pointer (some ⟨w1.heap.size, 0, none⟩), .pointer (some ⟨w1.heap.size + 1, 0, none⟩)]) rfl trivial (enters_of Tryz.func112 (by kernel_rfl) rfl)
    (chunk_stops 2 (by omega) w1.heap.size (w1.heap.size + 1) (w.heap.size + 1) L (n + 7) HL.out (by have := HL.out; omega) w2 bS2 bN) keepC_t keepC_b (Below.refl _ _) (fun _ => rfl)
    (fun pre W => (∃ v, Boxed W w.heap.size 69 v ∧ W.ownsRow w2.heap.size 48 16 v pre.length (keyC (fun i => rkS s n (i % (n + 7))) pre) ∧ True) ∧ Moved w.heap.size w2.heap.size w2 W)
    (fun _ _ _ => False)
    (OwnFrom.and (_root_.Go.Own.from (holdsRow_own w2.heap.size w.heap.size 69 48 16 (fun pre : List Nat => pre.length) (fun pre => keyC (fun i => rkS s n (i % (n + 7))) pre) (fun _ _ => True)) _) (ownFrom_moved (Nat.le_refl _) (Nat.le_refl _)))
    (fun _ _ _ _ _ hs _ _ => hs)
    ⟨⟨_, bH2, World.ownsRow_nil _ _ _ _, trivial⟩, Moved.refl _ _ _⟩
    (fun x => { tmps := #[.string s, undef, .slice none 0 0, .pointer (some ⟨w.heap.size, 0, none⟩), chk (w.heap.size + 1) (x % (n + 7)), .string s, .slice (some ⟨w.heap.size + 1, 0, none⟩) L L, .func (.func 112) #[] #[.pointer (some ⟨w1.heap.size, 0, none⟩), .pointer (some ⟨w1.heap.size + 1, 0, none⟩)], chk (w.heap.size + 1) (x % (n + 7)), undef, undef, undef, undef, undef, undef, undef, undef, undef, undef, undef, undef, undef, undef, undef, undef, undef, undef], defers := [] }) ?assign ?body ?done ?stop
  case assign =>
    intro l x W K hK
    gi_wp2
    exact hK
  case body =>
    rintro l pre x W ⟨⟨v, hv, hrow, -⟩, hm⟩ hlt
    have hx : x % (n + 7) < n + 7 := Nat.mod_lt _ (by omega)
    obtain ⟨y, hy⟩ : ∃ y, x % (n + 7) = y := ⟨_, rfl⟩
    have hkey : keyC (fun i => rkS s n (i % (n + 7))) (pre ++ [x]) = keyC (fun i => rkS s n (i % (n + 7))) pre ++ cells8 (upTo (byteOf (rkS s n y)) 16) := by rw [keyC_snoc, hy]
    rw [hy] at hx ⊢
    obtain ⟨i, hi4⟩ : ∃ i, 4 * y = i := ⟨_, rfl⟩
    obtain ⟨c, hc⟩ : ∃ c, c = fun j => ew s n (i + j) := ⟨_, rfl⟩
    have hcell : ∀ j, j < 4 → W.cell? ⟨w.heap.size + 1, i + j, none⟩ = some (.int .u32 ((c j).toNat : Int)) := fun j hj => by
      rw [hc]
      exact (World.cell?_of_block (a := ⟨w.heap.size + 1, i + j, none⟩) (hm.block (w.heap.size + 1) (by omega) (by simp))).trans ((hw2.cellAt (i + j) (by have := HL.out; omega)).trans (cells32_at _ _ _ (upTo_at _ _ _ (by have := HL.out; omega))))
    have c0 : W.cell? ⟨w.heap.size + 1, i, none⟩ = _ := hcell 0 (by omega)
    have c1 := hcell 1 (by omega)
    have c2 := hcell 2 (by omega)
    have c3 := hcell 3 (by omega)
    have hst : cells8 (upTo (byH c) 16) = cells8 (upTo (byteOf (rkS s n y)) 16) := by
      congr 1
      refine upTo_congr _ _ _ fun j hj => ?_
      rw [hc, ← hi4]; exact (ofW_byte (fun j => ew s n (4 * y + j)) j hj).symm
    have hlen : W.heap.size < 9223372036854775807 ∨ True := .inr trivial
    have HK := Lib.hid hkey
    have HS := Lib.hid hst
    have HM := Lib.hid hm
    have HR := Lib.hid hrow
    have HV := Lib.hid hv
    have HCS := fun W => Lib.hid (cstate_impl c W)
    have HW2 : Hid (w2.heap.size ≤ W.heap.size) := Lib.hid hm.size
    have HN : Hid (w.heap.size + 1 < w2.heap.size) := Lib.hid (by omega)
    have hpl : pre.length ≤ 1000 := by omega
    have G0 : Hid (∀ W', Below W.heap.size W W' → W'.cell? ⟨w.heap.size, 0, none⟩ = some v) := Lib.hid fun W' hW' => (World.cell?_of_block (a := ⟨w.heap.size, 0, none⟩) (hW'.block _ hv.lt)).trans hv.cell
    have SM : Hid (∀ W', Moved w.heap.size w2.heap.size W W' → W'.cell? ⟨w.heap.size + 1, i, none⟩ = some (.int .u32 ((c 0).toNat : Int)) ∧ W'.cell? ⟨w.heap.size + 1, i + 1, none⟩ = some (.int .u32 ((c 1).toNat : Int)) ∧ W'.cell? ⟨w.heap.size + 1, i + 2, none⟩ = some (.int .u32 ((c 2).toNat : Int)) ∧ W'.cell? ⟨w.heap.size + 1, i + 3, none⟩ = some (.int .u32 ((c 3).toNat : Int))) := Lib.hid fun W' hW' => by
      have hb := hW'.block (w.heap.size + 1) (by omega) (by simp)
      exact ⟨(World.cell?_of_block (a := ⟨w.heap.size + 1, i, none⟩) hb).trans c0, (World.cell?_of_block (a := ⟨w.heap.size + 1, i + 1, none⟩) hb).trans c1, (World.cell?_of_block (a := ⟨w.heap.size + 1, i + 2, none⟩) hb).trans c2, (World.cell?_of_block (a := ⟨w.heap.size + 1, i + 3, none⟩) hb).trans c3⟩
    unfold clA at HCS
    unfold chk
    rw [hi4]
    have hS0 := SM.out W.drew (Moved.refl _ _ _).drew
    clear hc hcell hkey hst hlen hrow hv hm hlt hx hy hi4 c0 c1 c2 c3 hw2 bS2 bN bH2
    gi_wp2
    refine wpIn_region_round _ (noDefer_of (by kernel_rfl)) (by kernel_rfl) (S := fun W' => W'.cell? ⟨w.heap.size + 1, i, none⟩ = some (.int .u32 ((c 0).toNat : Int)) ∧ W'.cell? ⟨w.heap.size + 1, i + 1, none⟩ = some (.int .u32 ((c 1).toNat : Int)) ∧ W'.cell? ⟨w.heap.size + 1, i + 2, none⟩ = some (.int .u32 ((c 2).toNat : Int)) ∧ W'.cell? ⟨w.heap.size + 1, i + 3, none⟩ = some (.int .u32 ((c 3).toNat : Int))) hS0 (fun hS => ?_) (fun a w h => h)
    refine wpAnyH_take (i := 1) (v := ?_) rfl (by kernel_rfl) (by kernel_rfl) (by kernel_rfl) (fun _ _ _ h => h) (Or.inl ⟨by kernel_rfl, ?_⟩) hS ?_
    rotate_left
    · intro w hSw
      obtain ⟨s0, s1, s2, s3⟩ := hSw
      go_simp
      first | done | with_reducible rfl
    try simp only [List.getElem_toArray, List.getElem_cons_succ, List.getElem_cons_zero, Act.put, List.setIfInBounds_toArray, List.set_cons_zero, List.set_cons_succ]
    refine wpAnyH_take (i := 2) (v := ?_) rfl (by kernel_rfl) (by kernel_rfl) (by kernel_rfl) (fun _ _ _ h => h) (Or.inl ⟨by kernel_rfl, ?_⟩) hS ?_
    rotate_left
    · intro w hSw
      obtain ⟨s0, s1, s2, s3⟩ := hSw
      go_simp
      first | done | with_reducible rfl
    try simp only [List.getElem_toArray, List.getElem_cons_succ, List.getElem_cons_zero, Act.put, List.setIfInBounds_toArray, List.set_cons_zero, List.set_cons_succ]
    refine wpAnyH_take (i := 3) (v := ?_) rfl (by kernel_rfl) (by kernel_rfl) (by kernel_rfl) (fun _ _ _ h => h) (Or.inl ⟨by kernel_rfl, ?_⟩) hS ?_
    rotate_left
    · intro w hSw
      obtain ⟨s0, s1, s2, s3⟩ := hSw
      go_simp
      first | done | with_reducible rfl
    try simp only [List.getElem_toArray, List.getElem_cons_succ, List.getElem_cons_zero, Act.put, List.setIfInBounds_toArray, List.set_cons_zero, List.set_cons_succ]
    refine wpAnyH_take (i := 4) (v := ?_) rfl (by kernel_rfl) (by kernel_rfl) (by kernel_rfl) (fun _ _ _ h => h) (Or.inl ⟨by kernel_rfl, ?_⟩) hS ?_
    rotate_left
    · intro w hSw
      obtain ⟨s0, s1, s2, s3⟩ := hSw
      go_simp
      first | done | with_reducible rfl
    try simp only [List.getElem_toArray, List.getElem_cons_succ, List.getElem_cons_zero, Act.put, List.setIfInBounds_toArray, List.set_cons_zero, List.set_cons_succ]
    refine wpAnyH_take (i := 5) (v := ?_) rfl (by kernel_rfl) (by kernel_rfl) (by kernel_rfl) (fun _ _ _ h => h) (Or.inl ⟨by kernel_rfl, ?_⟩) hS ?_
    rotate_left
    · intro w hSw
      obtain ⟨s0, s1, s2, s3⟩ := hSw
      go_simp
      first | done | with_reducible rfl
    try simp only [List.getElem_toArray, List.getElem_cons_succ, List.getElem_cons_zero, Act.put, List.setIfInBounds_toArray, List.set_cons_zero, List.set_cons_succ]
    refine wpAnyH_take (i := 6) (v := ?_) rfl (by kernel_rfl) (by kernel_rfl) (by kernel_rfl) (fun _ _ _ h => h) (Or.inl ⟨by kernel_rfl, ?_⟩) hS ?_
    rotate_left
    · intro w hSw
      obtain ⟨s0, s1, s2, s3⟩ := hSw
      go_simp
      first | done | with_reducible rfl
    try simp only [List.getElem_toArray, List.getElem_cons_succ, List.getElem_cons_zero, Act.put, List.setIfInBounds_toArray, List.set_cons_zero, List.set_cons_succ]
    refine wpAnyH_take (i := 7) (v := ?_) rfl (by kernel_rfl) (by kernel_rfl) (by kernel_rfl) (fun _ _ _ h => h) (Or.inl ⟨by kernel_rfl, ?_⟩) hS ?_
    rotate_left
    · intro w hSw
      obtain ⟨s0, s1, s2, s3⟩ := hSw
      go_simp
      first | done | with_reducible rfl
    try simp only [List.getElem_toArray, List.getElem_cons_succ, List.getElem_cons_zero, Act.put, List.setIfInBounds_toArray, List.set_cons_zero, List.set_cons_succ]
    refine wpAnyH_take (i := 8) (v := ?_) rfl (by kernel_rfl) (by kernel_rfl) (by kernel_rfl) (fun _ _ _ h => h) (Or.inl ⟨by kernel_rfl, ?_⟩) hS ?_
    rotate_left
    · intro w hSw
      obtain ⟨s0, s1, s2, s3⟩ := hSw
      go_simp
      first | done | with_reducible rfl
    try simp only [List.getElem_toArray, List.getElem_cons_succ, List.getElem_cons_zero, Act.put, List.setIfInBounds_toArray, List.set_cons_zero, List.set_cons_succ]
    refine wpAnyH_take (i := 9) (v := ?_) rfl (by kernel_rfl) (by kernel_rfl) (by kernel_rfl) (fun _ _ _ h => h) (Or.inl ⟨by kernel_rfl, ?_⟩) hS ?_
    rotate_left
    · intro w hSw
      obtain ⟨s0, s1, s2, s3⟩ := hSw
      go_simp
      first | done | with_reducible rfl
    try simp only [List.getElem_toArray, List.getElem_cons_succ, List.getElem_cons_zero, Act.put, List.setIfInBounds_toArray, List.set_cons_zero, List.set_cons_succ]
    refine wpAnyH_take (i := 10) (v := ?_) rfl (by kernel_rfl) (by kernel_rfl) (by kernel_rfl) (fun _ _ _ h => h) (Or.inl ⟨by kernel_rfl, ?_⟩) hS ?_
    rotate_left
    · intro w hSw
      obtain ⟨s0, s1, s2, s3⟩ := hSw
      go_simp
      first | done | with_reducible rfl
    try simp only [List.getElem_toArray, List.getElem_cons_succ, List.getElem_cons_zero, Act.put, List.setIfInBounds_toArray, List.set_cons_zero, List.set_cons_succ]
    refine wpAnyH_take (i := 11) (v := ?_) rfl (by kernel_rfl) (by kernel_rfl) (by kernel_rfl) (fun _ _ _ h => h) (Or.inl ⟨by kernel_rfl, ?_⟩) hS ?_
    rotate_left
    · intro w hSw
      obtain ⟨s0, s1, s2, s3⟩ := hSw
      go_simp
      first | done | with_reducible rfl
    try simp only [List.getElem_toArray, List.getElem_cons_succ, List.getElem_cons_zero, Act.put, List.setIfInBounds_toArray, List.set_cons_zero, List.set_cons_succ]
    refine wpAnyH_take (i := 12) (v := ?_) rfl (by kernel_rfl) (by kernel_rfl) (by kernel_rfl) (fun _ _ _ h => h) (Or.inl ⟨by kernel_rfl, ?_⟩) hS ?_
    rotate_left
    · intro w hSw
      obtain ⟨s0, s1, s2, s3⟩ := hSw
      go_simp
      first | done | with_reducible rfl
    try simp only [List.getElem_toArray, List.getElem_cons_succ, List.getElem_cons_zero, Act.put, List.setIfInBounds_toArray, List.set_cons_zero, List.set_cons_succ]
    refine wpAnyH_take (i := 13) (v := ?_) rfl (by kernel_rfl) (by kernel_rfl) (by kernel_rfl) (fun _ _ _ h => h) (Or.inl ⟨by kernel_rfl, ?_⟩) hS ?_
    rotate_left
    · intro w hSw
      obtain ⟨s0, s1, s2, s3⟩ := hSw
      go_simp
      first | done | with_reducible rfl
    try simp only [List.getElem_toArray, List.getElem_cons_succ, List.getElem_cons_zero, Act.put, List.setIfInBounds_toArray, List.set_cons_zero, List.set_cons_succ]
    refine wpAnyH_ready (rs := [0, 14]) (by kernel_rfl) (by simp) ?_
    refine AllReadyH.cons rfl (fun K hK => ?_) (AllReadyH.cons rfl (fun K hK => ?_) (AllReadyH.nil))
    · have k0 := G0.out W.drew ((Below.refl _ W).drew)
      go_simp
      refine hK.out _ _ hS (fun hS1 => ?_)
      clear hK K k0
      try simp only [List.getElem_toArray, List.getElem_cons_succ, List.getElem_cons_zero, Act.put, List.setIfInBounds_toArray, List.set_cons_zero, List.set_cons_succ]
      refine wpAnyH_ready (rs := [14]) (by kernel_rfl) (by simp) ?_
      refine AllReadyH.cons rfl (fun K hK => ?_) (AllReadyH.nil)
      go_simp
      refine (HCS _).out.mono ?_; rintro e w5 ⟨rfl, hb5⟩
      have HB5 : Hid (Below W.heap.size W w5) := Lib.hid (((Below.refl W.heap.size W).drew).trans hb5)
      have HR5 := Lib.hid (owns_below HR.out HB5.out)
      have hS5 := SM.out w5 (Moved.of_below HB5.out HW2.out)
      clear hb5
      refine hK.out _ _ hS5 (fun hS2 => ?_)
      clear hK K
      try simp only [List.getElem_toArray, List.getElem_cons_succ, List.getElem_cons_zero, Act.put, List.setIfInBounds_toArray, List.set_cons_zero, List.set_cons_succ]
      refine wpAnyH_ready (rs := [15]) (by kernel_rfl) (by simp) ?_
      refine AllReadyH.cons rfl (fun K hK => ?_) (AllReadyH.nil)
      refine Eq.mpr (if_pos (by rfl)) ?_
      refine wp_buildSlice 69 48 1 _ rfl (stA (byH c)) i0 (.agg zero16) Tryz.underlying69 hi hz0 (by rw [hz1]; decide) (by rw [hz1]; decide) (by rw [hz1]; exact Eq.trans (congrArg (Instr.fill _ _) (by kernel_rfl : _ = [(0, Value.agg (stA (byH c)))])) (fill_state (byH c))) ?_
      have hS5b := SM.out (w5.alloc (.cells (stA (byH c)) 48)) ((Moved.of_below HB5.out HW2.out).trans (Moved.of_below ((Below.refl w5.heap.size _).alloc (Nat.le_refl _) _) (by have := HW2.out; have := HB5.out.size; omega)))
      refine hK.out _ _ hS5b (fun hS3 => ?_)
      clear hK K
      try simp only [List.getElem_toArray, List.getElem_cons_succ, List.getElem_cons_zero, Act.put, List.setIfInBounds_toArray, List.set_cons_zero, List.set_cons_succ]
      refine wpAnyH_ready (rs := [16]) (by kernel_rfl) (by simp) ?_
      refine AllReadyH.cons rfl (fun K hK => ?_) AllReadyH.nil
      refine Eq.mpr (if_pos (by rfl)) ?_
      refine wp_append_lies (w5.alloc (.cells (stA (byH c)) 48)) (.tmp 9) (.tmp 24) 69 rfl w2.heap.size 48 i0 (.agg zero16) 16 16 Tryz.underlying69 hi hz0 hz1 hz2 rfl (by decide) v pre.length (keyC (fun i => rkS s n (i % (n + 7))) pre) rfl (HR5.out.alloc _) ⟨w5.heap.size, 0, none⟩ 1 1 (cells8 (upTo (byH c) 16)) rfl (by rw [cells8_length, upTo_length]) (World.news_of_block (cs := stA (byH c)) (heap_alloc_new w5 _)) (fun u hu => cells8_oneCell _ u hu) (by omega) (by unfold maxLen; omega) (by omega) (by have := HW2.out; have := HB5.out.size; simp; omega) (w5.heap.size + 1) (by simp) ?_
      intro g2 cap2 w6 hown6 hgrow hat hlt6
      obtain ⟨k0, k0f, M4, FIN⟩ := key_fin HV.out HM.out HB5.out (by have := HN.out; omega) HW2.out HR.out hown6 hgrow
      clear hown6 hgrow hat hlt6
      refine hK.out _ _ (SM.out _ M4.out) (fun hS6 => ?_)
      clear hK K
      try simp only [List.getElem_toArray, List.getElem_cons_succ, List.getElem_cons_zero, Act.put, List.setIfInBounds_toArray, List.set_cons_zero, List.set_cons_succ]
      refine wpAnyH_ready (rs := [17]) (by kernel_rfl) (by simp) ?_
      refine AllReadyH.cons rfl (fun K hK => ?_) AllReadyH.nil
      go_simp
      refine hK.out _ _ (SM.out _ FIN.out.2.2.2.1) (fun hS7 => ?_)
      clear hK K
      try simp only [List.getElem_toArray, List.getElem_cons_succ, List.getElem_cons_zero, Act.put, List.setIfInBounds_toArray, List.set_cons_zero, List.set_cons_succ]
      refine wpAnyH_done (by kernel_rfl) ?_ _
      obtain ⟨f1, f2, f3, f4, f5⟩ := FIN.out
      refine ⟨rfl, f1.from _, ⟨fun e => ?_, fun e => ?_⟩, ⟨⟨_, f2, ?_, trivial⟩, f5⟩⟩
      · exact (f4.block _ (by have := HN.out; omega) (by omega)).trans e
      · exact (f4.block _ (by have := HN.out; omega) (by omega)).trans e
      · rw [List.length_append, HK.out, ← HS.out]; exact f3
    · go_simp
      refine (HCS _).out.mono ?_; rintro e w5 ⟨rfl, hb5⟩
      have HB5 : Hid (Below W.heap.size W w5) := Lib.hid (((Below.refl W.heap.size W).drew).trans hb5)
      have HR5 := Lib.hid (owns_below HR.out HB5.out)
      have hS5 := SM.out w5 (Moved.of_below HB5.out HW2.out)
      clear hb5
      refine hK.out _ _ hS5 (fun hS2 => ?_)
      clear hK K
      try simp only [List.getElem_toArray, List.getElem_cons_succ, List.getElem_cons_zero, Act.put, List.setIfInBounds_toArray, List.set_cons_zero, List.set_cons_succ]
      refine wpAnyH_ready (rs := [0, 15]) (by kernel_rfl) (by simp) ?_
      refine AllReadyH.cons rfl (fun K hK => ?_) (AllReadyH.cons rfl (fun K hK => ?_) (AllReadyH.nil))
      · have k0 := G0.out w5 HB5.out
        go_simp
        refine hK.out _ _ hS5 (fun hS3 => ?_)
        clear hK K k0
        try simp only [List.getElem_toArray, List.getElem_cons_succ, List.getElem_cons_zero, Act.put, List.setIfInBounds_toArray, List.set_cons_zero, List.set_cons_succ]
        refine wpAnyH_ready (rs := [15]) (by kernel_rfl) (by simp) ?_
        refine AllReadyH.cons rfl (fun K hK => ?_) (AllReadyH.nil)
        refine Eq.mpr (if_pos (by rfl)) ?_
        refine wp_buildSlice 69 48 1 _ rfl (stA (byH c)) i0 (.agg zero16) Tryz.underlying69 hi hz0 (by rw [hz1]; decide) (by rw [hz1]; decide) (by rw [hz1]; exact Eq.trans (congrArg (Instr.fill _ _) (by kernel_rfl : _ = [(0, Value.agg (stA (byH c)))])) (fill_state (byH c))) ?_
        have hS5b := SM.out (w5.alloc (.cells (stA (byH c)) 48)) ((Moved.of_below HB5.out HW2.out).trans (Moved.of_below ((Below.refl w5.heap.size _).alloc (Nat.le_refl _) _) (by have := HW2.out; have := HB5.out.size; omega)))
        refine hK.out _ _ hS5b (fun hS4 => ?_)
        clear hK K
        try simp only [List.getElem_toArray, List.getElem_cons_succ, List.getElem_cons_zero, Act.put, List.setIfInBounds_toArray, List.set_cons_zero, List.set_cons_succ]
        refine wpAnyH_ready (rs := [16]) (by kernel_rfl) (by simp) ?_
        refine AllReadyH.cons rfl (fun K hK => ?_) AllReadyH.nil
        refine Eq.mpr (if_pos (by rfl)) ?_
        refine wp_append_lies (w5.alloc (.cells (stA (byH c)) 48)) (.tmp 9) (.tmp 24) 69 rfl w2.heap.size 48 i0 (.agg zero16) 16 16 Tryz.underlying69 hi hz0 hz1 hz2 rfl (by decide) v pre.length (keyC (fun i => rkS s n (i % (n + 7))) pre) rfl (HR5.out.alloc _) ⟨w5.heap.size, 0, none⟩ 1 1 (cells8 (upTo (byH c) 16)) rfl (by rw [cells8_length, upTo_length]) (World.news_of_block (cs := stA (byH c)) (heap_alloc_new w5 _)) (fun u hu => cells8_oneCell _ u hu) (by omega) (by unfold maxLen; omega) (by omega) (by have := HW2.out; have := HB5.out.size; simp; omega) (w5.heap.size + 1) (by simp) ?_
        intro g2 cap2 w6 hown6 hgrow hat hlt6
        obtain ⟨k0, k0f, M4, FIN⟩ := key_fin HV.out HM.out HB5.out (by have := HN.out; omega) HW2.out HR.out hown6 hgrow
        clear hown6 hgrow hat hlt6
        refine hK.out _ _ (SM.out _ M4.out) (fun hS6 => ?_)
        clear hK K
        try simp only [List.getElem_toArray, List.getElem_cons_succ, List.getElem_cons_zero, Act.put, List.setIfInBounds_toArray, List.set_cons_zero, List.set_cons_succ]
        refine wpAnyH_ready (rs := [17]) (by kernel_rfl) (by simp) ?_
        refine AllReadyH.cons rfl (fun K hK => ?_) AllReadyH.nil
        go_simp
        refine hK.out _ _ (SM.out _ FIN.out.2.2.2.1) (fun hS7 => ?_)
        clear hK K
        try simp only [List.getElem_toArray, List.getElem_cons_succ, List.getElem_cons_zero, Act.put, List.setIfInBounds_toArray, List.set_cons_zero, List.set_cons_succ]
        refine wpAnyH_done (by kernel_rfl) ?_ _
        obtain ⟨f1, f2, f3, f4, f5⟩ := FIN.out
        refine ⟨rfl, f1.from _, ⟨fun e => ?_, fun e => ?_⟩, ⟨⟨_, f2, ?_, trivial⟩, f5⟩⟩
        · exact (f4.block _ (by have := HN.out; omega) (by omega)).trans e
        · exact (f4.block _ (by have := HN.out; omega) (by omega)).trans e
        · rw [List.length_append, HK.out, ← HS.out]; exact f3
      · refine Eq.mpr (if_pos (by rfl)) ?_
        refine wp_buildSlice 69 48 1 _ rfl (stA (byH c)) i0 (.agg zero16) Tryz.underlying69 hi hz0 (by rw [hz1]; decide) (by rw [hz1]; decide) (by rw [hz1]; exact Eq.trans (congrArg (Instr.fill _ _) (by kernel_rfl : _ = [(0, Value.agg (stA (byH c)))])) (fill_state (byH c))) ?_
        have hS5b := SM.out (w5.alloc (.cells (stA (byH c)) 48)) ((Moved.of_below HB5.out HW2.out).trans (Moved.of_below ((Below.refl w5.heap.size _).alloc (Nat.le_refl _) _) (by have := HW2.out; have := HB5.out.size; omega)))
        refine hK.out _ _ hS5b (fun hS3 => ?_)
        clear hK K
        try simp only [List.getElem_toArray, List.getElem_cons_succ, List.getElem_cons_zero, Act.put, List.setIfInBounds_toArray, List.set_cons_zero, List.set_cons_succ]
        refine wpAnyH_ready (rs := [0]) (by kernel_rfl) (by simp) ?_
        refine AllReadyH.cons rfl (fun K hK => ?_) (AllReadyH.nil)
        have k0 := G0.out (w5.alloc (.cells (stA (byH c)) 48)) (HB5.out.alloc (by have := HB5.out.size; omega) _)
        go_simp
        refine hK.out _ _ hS5b (fun hS4 => ?_)
        clear hK K k0
        try simp only [List.getElem_toArray, List.getElem_cons_succ, List.getElem_cons_zero, Act.put, List.setIfInBounds_toArray, List.set_cons_zero, List.set_cons_succ]
        refine wpAnyH_ready (rs := [16]) (by kernel_rfl) (by simp) ?_
        refine AllReadyH.cons rfl (fun K hK => ?_) AllReadyH.nil
        refine Eq.mpr (if_pos (by rfl)) ?_
        refine wp_append_lies (w5.alloc (.cells (stA (byH c)) 48)) (.tmp 9) (.tmp 24) 69 rfl w2.heap.size 48 i0 (.agg zero16) 16 16 Tryz.underlying69 hi hz0 hz1 hz2 rfl (by decide) v pre.length (keyC (fun i => rkS s n (i % (n + 7))) pre) rfl (HR5.out.alloc _) ⟨w5.heap.size, 0, none⟩ 1 1 (cells8 (upTo (byH c) 16)) rfl (by rw [cells8_length, upTo_length]) (World.news_of_block (cs := stA (byH c)) (heap_alloc_new w5 _)) (fun u hu => cells8_oneCell _ u hu) (by omega) (by unfold maxLen; omega) (by omega) (by have := HW2.out; have := HB5.out.size; simp; omega) (w5.heap.size + 1) (by simp) ?_
        intro g2 cap2 w6 hown6 hgrow hat hlt6
        obtain ⟨k0, k0f, M4, FIN⟩ := key_fin HV.out HM.out HB5.out (by have := HN.out; omega) HW2.out HR.out hown6 hgrow
        clear hown6 hgrow hat hlt6
        refine hK.out _ _ (SM.out _ M4.out) (fun hS6 => ?_)
        clear hK K
        try simp only [List.getElem_toArray, List.getElem_cons_succ, List.getElem_cons_zero, Act.put, List.setIfInBounds_toArray, List.set_cons_zero, List.set_cons_succ]
        refine wpAnyH_ready (rs := [17]) (by kernel_rfl) (by simp) ?_
        refine AllReadyH.cons rfl (fun K hK => ?_) AllReadyH.nil
        go_simp
        refine hK.out _ _ (SM.out _ FIN.out.2.2.2.1) (fun hS7 => ?_)
        clear hK K
        try simp only [List.getElem_toArray, List.getElem_cons_succ, List.getElem_cons_zero, Act.put, List.setIfInBounds_toArray, List.set_cons_zero, List.set_cons_succ]
        refine wpAnyH_done (by kernel_rfl) ?_ _
        obtain ⟨f1, f2, f3, f4, f5⟩ := FIN.out
        refine ⟨rfl, f1.from _, ⟨fun e => ?_, fun e => ?_⟩, ⟨⟨_, f2, ?_, trivial⟩, f5⟩⟩
        · exact (f4.block _ (by have := HN.out; omega) (by omega)).trans e
        · exact (f4.block _ (by have := HN.out; omega) (by omega)).trans e
        · rw [List.length_append, HK.out, ← HS.out]; exact f3
  case done =>
    rintro D ys W hD hys ⟨⟨v, hv, hrow, -⟩, hm⟩ hK
    have hc := hv.cell
    subst hys
    rw [List.length_range, keyC_congr _ (rkS s n) _ (fun i hi => by rw [Nat.mod_eq_of_lt (List.mem_range.1 hi)])] at hrow
    have hown2 := owns_down (ownsRow_putObj hrow (.deferred none) hK rfl) (show w.heap.size ≤ w2.heap.size by omega)
    obtain ⟨g, cap, rfl⟩ := ownsRow_succ (k := n + 6) hrow
    gi_wp2
    refine ⟨by simp, .inl ⟨_, _, rfl, run_takeDeferred hK, ?_⟩⟩
    exact ⟨_, results_tmp rfl _ _ _, g, cap, rfl, hown2, (hbw2.trans (hm.below (Nat.le_refl _) (by omega))).trans (belowK_b (w := w) (Nat.le_refl _) W D _ _ (by omega) hK rfl rfl)⟩
  case stop =>
    rintro D c pre W _ _ h _
    exact h.elim
end Go.Proofs.YtipcgdhjlpjcaaaGreatDoor
