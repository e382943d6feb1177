/-
  What impl.foursOf answers: words, four by four, each four an array.
-/
import Derived.Test.YtbfmbdohebdbaaaGreatDoorTabs
import Derived.Test.YtbfmbdohebdbaaaGreatDoorChunkI
import Derived.Test.YtbfmbdohebdbaaaGreatDoorInRound
import Derived.Great.BuildSlice
import Derived.Deep.AppendLies
set_option linter.unusedVariables false
set_option linter.unusedSimpArgs false
namespace Go.Proofs.YtbfmbdohebdbaaaGreatDoor.Fo
open Go Go.RowKit Go.Shelf Go.Proofs.YtbfmbdohebdbaaaGreatDoor
attribute [local go_sem] Oper.semAt_some
attribute [local go_sem ↓] Go.wp_at_zero Go.wp_at_succ

theorem noDefer_of {ops : Array Oper} (h : ops.all (fun o => match o.op with | .defer _ => false | _ => true) = true) : NoDefer ops := by
  intro i o c ho he
  obtain ⟨hi, e⟩ := Array.getElem?_eq_some_iff.1 ho
  have h1 := (Array.all_eq_true.1 h) i hi
  rw [e, he] at h1
  cases h1
theorem infoF4 : (Tryz.prog.info? 132).map (fun i => (i.zero, i.size, i.bytes)) = some (some (.agg zr4), 4, 16) := by kernel_rfl
theorem fill_four (h : Nat → UInt32) : Instr.fill (fun i => some (i * 4, 4)) ((Array.range (1 * 4)).map ((Value.agg zr4).cells[· % (Value.agg zr4).cells.size]!)) [(0, Value.agg (ar32 h 4))] = some (ar32 h 4) := by kernel_rfl
/-- words, four by four, as cells. -/
def foC (f : Nat → UInt32) (l : List Nat) : List Value := l.flatMap fun i => cells32 (upTo (fun j => f (4 * i + j)) 4)
theorem foC_snoc (f : Nat → UInt32) (l : List Nat) (x : Nat) : foC f (l ++ [x]) = foC f l ++ cells32 (upTo (fun j => f (4 * x + j)) 4) := by
  unfold foC; rw [List.flatMap_append, List.flatMap_singleton]
theorem foC_range (f : Nat → UInt32) : ∀ m, foC f (List.range m) = cells32 (upTo f (4 * m))
  | 0 => rfl
  | m + 1 => by
    rw [List.range_succ, foC_snoc, foC_range f m]
    have e : upTo f (4 * (m + 1)) = upTo f (4 * m) ++ upTo (fun j => f (4 * m + j)) 4 := by
      rw [show 4 * (m + 1) = 4 * m + 1 + 1 + 1 + 1 by omega, upTo_succ, upTo_succ, upTo_succ, upTo_succ]
      simp [upTo, List.range_succ]
    rw [e, cells32, cells32, cells32, List.map_append]
theorem foC_mod (f : Nat → UInt32) (m : Nat) : (List.range m).flatMap (fun i => cells32 (upTo (fun j => f (4 * (i % m) + j)) 4)) = foC f (List.range m) := by
  unfold foC
  have : ∀ l : List Nat, (∀ i ∈ l, i < m) → l.flatMap (fun i => cells32 (upTo (fun j => f (4 * (i % m) + j)) 4)) = l.flatMap (fun i => cells32 (upTo (fun j => f (4 * i + j)) 4)) := by
    intro l
    induction l with
    | nil => intro _; rfl
    | cons x l ih =>
      intro h
      rw [List.flatMap_cons, List.flatMap_cons, Nat.mod_eq_of_lt (h x List.mem_cons_self), ih fun i hi => h i (List.mem_cons_of_mem _ hi)]
  exact this _ fun i hi => List.mem_range.1 hi
/-- .. of places that come round. -/
def foM (f : Nat → UInt32) (m : Nat) (l : List Nat) : List Value := l.flatMap fun i => cells32 (upTo (fun j => f (4 * (i % m) + j)) 4)
theorem foM_snoc (f : Nat → UInt32) (m : Nat) (l : List Nat) (x : Nat) : foM f m (l ++ [x]) = foM f m l ++ cells32 (upTo (fun j => f (4 * (x % m) + j)) 4) := by
  unfold foM; rw [List.flatMap_append, List.flatMap_singleton]
theorem others_below {w w' : World} (h : Below w.heap.size w w') : KeepsOthers w w' :=
  ⟨h.size, fun l o hl _ => (h.block l (by have := (Array.getElem?_eq_some_iff.1 hl).1; exact this)).trans hl⟩
theorem owns_down {w : World} {B C e size n : Nat} {v : Value} {xs : List Value} (h : w.ownsRow C e size v n xs) (hBC : B ≤ C) : w.ownsRow B e size v n xs := by
  refine ⟨h.1, ?_⟩
  rcases h.2 with hn | ⟨g, cap, cur, hv, hB, rest⟩
  · exact .inl hn
  · exact .inr ⟨g, cap, cur, hv, Nat.le_trans hBC hB, rest⟩
/-- what a step leaves as it was: all that lies below B, but one block. -/
structure Kept (p B : Nat) (w w' : World) : Prop where
  os : w'.os = w.os
  tape : w'.tape = w.tape
  output : w'.output = w.output
  size : w.heap.size ≤ w'.heap.size
  block : ∀ k, k < B → k ≠ p → w'.heap[k]? = w.heap[k]?
theorem Kept.refl (p B : Nat) (w : World) : Kept p B w w := ⟨rfl, rfl, rfl, Nat.le_refl _, fun _ _ _ => rfl⟩
theorem Kept.trans {p B : Nat} {a b c : World} (h : Kept p B a b) (k : Kept p B b c) : Kept p B a c :=
  ⟨k.os.trans h.os, k.tape.trans h.tape, k.output.trans h.output, Nat.le_trans h.size k.size, fun i hi hn => (k.block i hi hn).trans (h.block i hi hn)⟩
theorem Kept.of_below {p B B2 : Nat} {a b : World} (h : Below B2 a b) (hB : B ≤ B2) : Kept p B a b := ⟨h.os, h.tape, h.output, h.size, fun k hk _ => h.block k (by omega)⟩
theorem Kept.setCell {p B : Nat} {a b : World} (h : Kept p B a b) (j : Nat) (v : Value) : Kept p B a (b.setCell ⟨p, j, none⟩ v) :=
  ⟨h.os, h.tape, h.output, by simpa [World.setCell] using h.size, fun k hk hn => (heap_setCell_other b ⟨p, j, none⟩ k v hn).trans (h.block k hk hn)⟩
theorem Kept.grown {p B : Nat} {a b c : World} {row : Option Nat} (h : Kept p B a b) (hg : b.grownBy c row) (hB : B ≤ b.heap.size) (hr : ∀ k, row = some k → B ≤ k) : Kept p B a c :=
  h.trans ⟨hg.os, hg.tape, hg.output, hg.size, fun k hk _ => hg.block k (by omega) (fun e => by have := hr k e.symm; omega)⟩
theorem Kept.below {p B n : Nat} {a b : World} (h : Kept p B a b) (hp : n ≤ p) (hB : n ≤ B) : Below n a b := ⟨h.os, h.tape, h.output, h.size, fun k hk => h.block k (by omega) (by omega)⟩
theorem ownFrom_kept {β : Type} {H Bw B' : Nat} {w2 : World} (hB : Bw ≤ B') (h2 : Bw ≤ w2.heap.size) : OwnFrom B' (fun (_ : β) W => Kept H Bw w2 W) :=
  fun _ X Y row hs hg hr => ⟨hg.os.trans hs.os, hg.tape.trans hs.tape, hg.output.trans hs.output, Nat.le_trans hs.size hg.size, fun k hk hn => (hg.block k (by have h3 := hs.size; omega) (fun e => by have h1 := (hr k e.symm).1; omega)).trans (hs.block k hk hn)⟩
/-- what a round leaves: the append's new row, the store behind it. -/
theorem fo_fin {w2 W W2 w4 : World} {H Bw k g cap : Nat} {v : Value} {L L2 : List Value} {o : Obj}
    (hv : Boxed W H 83 v) (hm : Kept H Bw w2 W) (hb2 : Below W.heap.size W W2) (hHB : H < Bw) (hBw : Bw ≤ W.heap.size) (hrow : W.ownsRow Bw 132 4 v k L)
    (hown : w4.ownsRow Bw 132 4 (.slice (some ⟨g, 0, none⟩) (k + 1) cap) (k + 1) L2) (hgrow : (W2.alloc o).grownBy w4 v.ownBlock) :
    w4.cell? ⟨H, 0, none⟩ = some v ∧ w4.frozen? ⟨H, 0, none⟩ = false ∧ Hid (KeepsOthers W (w4.setCell ⟨H, 0, none⟩ (.slice (some ⟨g, 0, none⟩) (k + 1) cap)) ∧ Boxed (w4.setCell ⟨H, 0, none⟩ (.slice (some ⟨g, 0, none⟩) (k + 1) cap)) H 83 (.slice (some ⟨g, 0, none⟩) (k + 1) cap) ∧
      (w4.setCell ⟨H, 0, none⟩ (.slice (some ⟨g, 0, none⟩) (k + 1) cap)).ownsRow Bw 132 4 (.slice (some ⟨g, 0, none⟩) (k + 1) cap) (k + 1) L2 ∧ Kept H Bw W (w4.setCell ⟨H, 0, none⟩ (.slice (some ⟨g, 0, none⟩) (k + 1) cap)) ∧ Kept H Bw w2 (w4.setCell ⟨H, 0, none⟩ (.slice (some ⟨g, 0, none⟩) (k + 1) cap))) := by
  have hv2 : Boxed W2 H 83 v := (hb2.block _ hv.lt).trans hv
  have hrow2 := own_below hrow hb2
  have hW2 := hb2.size
  obtain ⟨hv3, hv4, hr4, hk4, hb4⟩ := hv2.appended (by decide) (owns_down hrow2 (show H ≤ Bw by omega)) (by omega) (Nat.le_refl _) (owns_down hown (show H ≤ Bw by omega)) hgrow
  have hM4 : Kept H Bw W w4 :=
    (((Kept.of_below (p := H) hb2 hBw).trans (Kept.of_below ((Below.refl W2.heap.size _).alloc (Nat.le_refl _) o) (by omega))).grown hgrow (by simp; omega) (fun j e => (hrow2.lt j e).1))
  have hM := hM4.setCell 0 (.slice (some ⟨g, 0, none⟩) (k + 1) cap)
  have hfar : (w4.setCell ⟨H, 0, none⟩ (.slice (some ⟨g, 0, none⟩) (k + 1) cap)).ownsRow Bw 132 4 (.slice (some ⟨g, 0, none⟩) (k + 1) cap) (k + 1) L2 :=
    hown.kept (grownBy_setCell' w4 H _) (.inr (fun e => by have := (hown.lt _ e).1; omega))
  exact ⟨hv3.cell, hv3.frozen, Lib.hid ⟨(others_below hb2).trans hk4, hv4, hfar, hM, hm.trans hM⟩⟩
theorem row_succ {w : World} {B : Nat} {v : Value} {k : Nat} {xs : List Value} {e s : Nat} (h : w.ownsRow B e s v (k + 1) xs) : ∃ g c, v = .slice (some ⟨g, 0, none⟩) (k + 1) c := by
  rcases h.2 with ⟨rfl, h0⟩ | ⟨g, cap, cur, rfl, _⟩
  · cases h0
  · exact ⟨g, cap, rfl⟩
set_option maxRecDepth 100000 in
theorem fo1_impl (b x c B : Nat) (y : UInt32) (i : Nat) (hi : i < 4) (w : World) (hg : RAt w B 138 #[.slice (some ⟨b, 4 * x, none⟩) 4 c]) (hc : w.cell? ⟨b, 4 * x + i, none⟩ = some (.int .u32 (y.toNat : Int))) :
    Calls Tryz.prog 129 #[.int .i64 (i : Int), .pointer (some ⟨B, 0, none⟩)] w fun e w' => e = .returned (.int .u32 y.toNat) ∧ Below w.heap.size w w' := by
  have hcg : w.cell? ⟨B, 0, none⟩ = some (.slice (some ⟨b, 4 * x, none⟩) 4 c) := hg.cell rfl
  have hi1 : (i : Int) < 4 := by omega
  have hi0 : (0 : Int) ≤ (i : Int) := by omega
  have HB : Hid (Below w.heap.size w w) := Lib.hid (Below.refl _ _)
  clear hg
  go_enter Tryz.func129, Tryz.ntmps129
  go_wp2
  go_ret
  exact ⟨rfl, HB.out⟩
set_option maxRecDepth 100000 in
set_option maxHeartbeats 3200000 in
theorem foursOf_impl (b L m : Nat) (f : Nat → UInt32) (hL : L = 4 * (m + 1)) (hLm : L ≤ 1000) (w : World) (hb : b < w.heap.size) (hc : ∀ j, j < L → w.cell? ⟨b, j, none⟩ = some (.int .u32 ((f j).toNat : Int))) :
    Calls Tryz.prog 90 #[.slice (some ⟨b, 0, none⟩) L L] w fun e w' => ∃ g c, e = .returned (.slice (some ⟨g, 0, none⟩) (m + 1) c) ∧ w'.ownsRow w.heap.size 132 4 (.slice (some ⟨g, 0, none⟩) (m + 1) c) (m + 1) (cells32 (upTo f L)) ∧ Below w.heap.size w w' := by
  refine (callsIn_wide (n := 3)).1 ?_
  have hmf : ∀ (fn : Fn) (first cap : Array Value) (w : World), (Instr.makeFunc fn first cap).run Tryz.prog w = .ok (.func fn first cap) w := fun _ _ _ _ => rfl
  obtain ⟨i0, hi, hz0, hz1, hz2⟩ := info_parts infoF4
  have h3 : Fence.wide.fn 127 := trivial
  have HL := Lib.hid hL
  have HLM := Lib.hid hLm
  have HCB := Lib.hid hc
  have HBB := Lib.hid hb
  clear hL hLm hc hb
  refine callsIn_of_wp_marks Tryz.func90 rfl trivial ?_ rfl
  simp only [Tryz.ntmps90, List.size_toArray, List.length_cons, List.length_nil, Nat.reduceAdd, Nat.reduceSub, Array.replicate_succ, Array.replicate_zero, List.push_toArray, List.append_toArray, List.nil_append, List.cons_append]
  gi_wp2_with (gi_at_call 127; refine (chunk_in _ _ _ _ _).mono ?_; rintro e w' ⟨rfl, rfl⟩)
  obtain ⟨w1, hw1⟩ : ∃ w1, w.alloc (.cells #[.slice none 0 0] 83) = w1 := ⟨_, rfl⟩
  have bH1 : Boxed w1 w.heap.size 83 (.slice none 0 0) := hw1 ▸ Boxed.new w _ _
  have hs1 : w1.heap.size = w.heap.size + 1 := by rw [← hw1]; simp
  have hbw1 : Below w.heap.size w w1 := hw1 ▸ (Below.refl _ w).alloc (Nat.le_refl _) _
  rw [hw1]
  have bS := Boxed.new w1 138 (.slice (some ⟨b, 0, none⟩) L L)
  have bN := Boxed.new (w1.alloc (.cells #[.slice (some ⟨b, 0, none⟩) L L] 138)) 3 (.int .i64 4)
  rw [World.size_alloc] at bN
  have hb2 : Below w1.heap.size w1 ((w1.alloc (.cells #[.slice (some ⟨b, 0, none⟩) L L] 138)).alloc (.cells #[.int .i64 4] 3)) := ((Below.refl _ w1).alloc (Nat.le_refl _) _).alloc (by simp) _
  have bS2 := bS.alloc (.cells #[.int .i64 4] 3)
  have bH2 := (bH1.alloc (.cells #[.slice (some ⟨b, 0, none⟩) L L] 138)).alloc (.cells #[.int .i64 4] 3)
  have hbw2 := hbw1.trans (hb2.mono hbw1.size)
  have hszW : ((w1.alloc (.cells #[.slice (some ⟨b, 0, none⟩) L L] 138)).alloc (.cells #[.int .i64 4] 3)).heap.size = w1.heap.size + 2 := by simp
  generalize (w1.alloc (.cells #[.slice (some ⟨b, 0, none⟩) L L] 138)).alloc (.cells #[.int .i64 4] 3) = w2 at *
  clear bS bH1 hb2 hw1
  rw [hs1] at bS2 bN hszW
  refine wpIn_rangeFunc_ownH rfl (by omega) (gf := 168) (lb := #[.pointer (some ⟨w.heap.size + 1, 0, none⟩), .pointer (some ⟨w.heap.size + 1 + 1, 0, none⟩)]) rfl trivial (enters_of Tryz.func168 (by kernel_rfl) rfl)
    (chunk_stops 2 (by omega) (w.heap.size + 1) (w.heap.size + 1 + 1) b L (m + 1) HL.out HLM.out w2 bS2 bN) keepC_t keepC_b (Below.refl _ _) (fun _ => rfl)
    (fun pre W => (∃ v, Boxed W w.heap.size 83 v ∧ W.ownsRow w2.heap.size 132 4 v pre.length (foM f (m + 1) pre) ∧ True) ∧ Kept w.heap.size w2.heap.size w2 W)
    (fun _ _ _ => False)
    (OwnFrom.and (_root_.Go.Own.from (holdsRow_own w2.heap.size w.heap.size 83 132 4 (fun pre : List Nat => pre.length) (fun pre => foM f (m + 1) pre) (fun _ _ => True)) _) (ownFrom_kept (Nat.le_refl _) (Nat.le_refl _)))
    (fun _ _ _ _ _ hs _ _ => hs)
    ⟨⟨_, bH2, World.ownsRow_nil _ _ _ _, trivial⟩, Kept.refl _ _ _⟩
    (fun x a' W => ∃ Bc, a' = { tmps := #[.slice (some ⟨b, 0, none⟩) L L, undef, .slice none 0 0, .pointer (some ⟨w.heap.size, 0, none⟩), .pointer (some ⟨Bc, 0, none⟩), .slice (some ⟨b, 0, none⟩) L L, .func (.func 168) #[] #[.pointer (some ⟨w.heap.size + 1, 0, none⟩), .pointer (some ⟨w.heap.size + 1 + 1, 0, none⟩)], chk b (x % (m + 1)), undef, undef, undef, undef, undef, undef], defers := [] } ∧ Boxed W Bc 138 (chk b (x % (m + 1))) ∧ w2.heap.size ≤ Bc)
    (fun x a' _ X Y row hs hg hr => let ⟨Bc, e1, e2, e3⟩ := hs; ⟨Bc, e1, e2.kept hg (fun e => by obtain ⟨o, ho, hc⟩ := (hr Bc e.symm).2; rw [show X.heap[Bc]? = _ from e2] at ho; cases ho; cases hc), e3⟩)
    ?assign ?body ?done ?stop
  case assign =>
    rintro l pre x W K ⟨⟨v, hv, hrow, -⟩, hm⟩ hK
    have hW2 := hm.size
    have hb5 : Below W.heap.size W (W.alloc (.cells #[chk b (x % (m + 1))] 138)) := (Below.refl _ W).alloc (Nat.le_refl _) _
    have hbx : Boxed (W.alloc (.cells #[chk b (x % (m + 1))] 138)) W.heap.size 138 (chk b (x % (m + 1))) := Boxed.new W _ _
    have hcell := (Boxed.new W 138 (.slice none 0 0)).cell
    have hfz := (Boxed.new W 138 (.slice none 0 0)).frozen
    have HK : Hid (K { tmps := #[.slice (some ⟨b, 0, none⟩) L L, undef, .slice none 0 0, .pointer (some ⟨w.heap.size, 0, none⟩), .pointer (some ⟨W.heap.size, 0, none⟩), .slice (some ⟨b, 0, none⟩) L L, .func (.func 168) #[] #[.pointer (some ⟨w.heap.size + 1, 0, none⟩), .pointer (some ⟨w.heap.size + 1 + 1, 0, none⟩)], chk b (x % (m + 1)), undef, undef, undef, undef, undef, undef], defers := [] } (W.alloc (.cells #[chk b (x % (m + 1))] 138))) := Lib.hid
      (hK _ _ ((others_below hb5).from _) ⟨fun e => (hb5.block _ e.lt).trans e, fun e => (hb5.block _ e.lt).trans e⟩ ⟨⟨v, (hb5.block _ hv.lt).trans hv, own_below hrow hb5, trivial⟩, hm.trans (Kept.of_below hb5 hW2)⟩ ⟨_, rfl, hbx, hW2⟩)
    unfold chk at HK ⊢
    clear hK hv hrow hm hb5 hbx
    gi_wp2
    exact HK.out
  case body =>
    rintro l pre x a' W hl hloop ⟨⟨v, hv, hrow, -⟩, hm⟩ ⟨Bc, rfl, hbc, hBc⟩ hlt
    have hx : x % (m + 1) < m + 1 := Nat.mod_lt _ (by omega)
    have hkey := foM_snoc f (m + 1) pre x
    obtain ⟨y, hy⟩ : ∃ y, x % (m + 1) = y := ⟨_, rfl⟩
    rw [hy] at hx hkey hbc ⊢
    have HK := Lib.hid hkey
    have HR := Lib.hid hrow
    have HV := Lib.hid hv
    have HM := Lib.hid hm
    have HW2 : Hid (w2.heap.size ≤ W.heap.size) := Lib.hid hm.size
    have HN : Hid (w.heap.size + 1 + 2 = w2.heap.size) := Lib.hid (by omega)
    have hpl : pre.length ≤ 1000 := by have := HLM.out; have := HL.out; omega
    have hcb : ∀ j, j < L → W.cell? ⟨b, j, none⟩ = some (.int .u32 ((f j).toNat : Int)) := fun j hj =>
      (World.cell?_of_block (a := ⟨b, j, none⟩) ((hm.block b (by have := HBB.out; omega) (by have := HBB.out; omega)).trans (hbw2.block b HBB.out))).trans (HCB.out j hj)
    have hbW : b < W.heap.size := by have := HBB.out; have := HW2.out; have := HN.out; omega
    have hyL : 4 * y + 3 < L := by have := HL.out; omega
    have HCS : Hid (Calls Tryz.prog 128 #[.func (.func 129) #[] #[.pointer (some ⟨Bc, 0, none⟩)]] W.drew fun e w' => e = .returned (.agg (ar32 (fun j => f (4 * y + j)) 4)) ∧ Below W.drew.heap.size W.drew w') := Lib.hid
      (four_impl _ _ _ W.drew (enters_of Tryz.func129 (by kernel_rfl) rfl) (fun i hi W3 hW3 =>
        fo1_impl b y 4 Bc (f (4 * y + i)) i hi W3 ((hW3.block Bc hbc.lt).trans hbc) ((hW3.cell (p := ⟨b, 4 * y + i, none⟩) hbW).trans (hcb _ (by omega)))))
    have G0 : Hid (∀ W', Below W.heap.size W W' → W'.cell? ⟨w.heap.size, 0, none⟩ = some v) := Lib.hid fun W' hW' => (World.cell?_of_block (a := ⟨w.heap.size, 0, none⟩) (hW'.block _ hv.lt)).trans hv.cell
    have hcl : (cells32 (upTo (fun j => f (4 * y + j)) 4)).length = 4 := by rw [cells32_length, upTo_length]
    obtain ⟨h, hh⟩ : ∃ h, (fun j => f (4 * y + j)) = h := ⟨_, rfl⟩
    rw [hh] at HCS HK hcl
    have hd0 : Below W.heap.size W W.drew := (Below.refl W.heap.size W).drew
    clear hkey hrow hv hm hcb hbW hyL hx hy hh hbc hlt bS2 bN bH2
    gi_wp2
    refine wpIn_region_round _ (noDefer_of (by kernel_rfl)) (by kernel_rfl) (S := fun _ => True) trivial (fun hS => ?_) (fun a w h => h)
    refine wpAnyH_ready (rs := [0, 1]) (by kernel_rfl) (by simp) ?_
    refine AllReadyH.cons rfl (fun K hK => ?_) (AllReadyH.cons rfl (fun K hK => ?_) (AllReadyH.nil))
    · have k0 := G0.out W.drew hd0
      go_simp
      refine hK.out _ _ trivial (fun _ => ?_)
      clear hK K k0
      try simp only [lay]
      refine wpAnyH_ready (rs := [1]) (by kernel_rfl) (by simp) ?_
      refine AllReadyH.cons rfl (fun K hK => ?_) (AllReadyH.nil)
      go_simp
      refine hK.out _ _ trivial (fun _ => ?_)
      clear hK K
      try simp only [lay]
      refine wpAnyH_ready (rs := [2]) (by kernel_rfl) (by simp) ?_
      refine AllReadyH.cons rfl (fun K hK => ?_) (AllReadyH.nil)
      go_simp
      refine HCS.out.mono ?_; rintro e w5 ⟨rfl, hb5⟩
      have HB5 : Hid (Below W.heap.size W w5) := Lib.hid (hd0.trans hb5)
      have HR5 := Lib.hid (own_below HR.out HB5.out)
      clear hb5
      refine hK.out _ _ trivial (fun _ => ?_)
      clear hK K
      try simp only [lay]
      refine wpAnyH_ready (rs := [3]) (by kernel_rfl) (by simp) ?_
      refine AllReadyH.cons rfl (fun K hK => ?_) (AllReadyH.nil)
      refine Eq.mpr (if_pos (by rfl)) ?_
      refine wp_buildSlice 83 132 1 _ rfl (ar32 h 4) i0 (.agg zr4) Tryz.underlying83 hi hz0 (by rw [hz1]; decide) (by rw [hz1]; decide) (by rw [hz1]; exact Eq.trans (congrArg (Instr.fill _ _) (by kernel_rfl : _ = [(0, Value.agg (ar32 h 4))])) (fill_four h)) ?_
      refine hK.out _ _ trivial (fun _ => ?_)
      clear hK K
      try simp only [lay]
      refine wpAnyH_ready (rs := [4]) (by kernel_rfl) (by simp) ?_
      refine AllReadyH.cons rfl (fun K hK => ?_) AllReadyH.nil
      refine Eq.mpr (if_pos (by rfl)) ?_
      refine wp_append_lies (w5.alloc (.cells (ar32 h 4) 132)) (.tmp 8) (.tmp 11) 83 rfl w2.heap.size 132 i0 (.agg zr4) 4 16 Tryz.underlying83 hi hz0 hz1 hz2 rfl (by decide) v pre.length (foM f (m + 1) pre) rfl (HR5.out.alloc _) ⟨w5.heap.size, 0, none⟩ 1 1 (cells32 (upTo h 4)) rfl hcl (World.news_of_block (cs := ar32 h 4) (heap_alloc_new w5 _)) (fun u hu => cells32_one _ u hu) (by omega) (by unfold maxLen; omega) (by omega) (by have := HW2.out; have := HB5.out.size; simp; omega) (w5.heap.size + 1) (by simp) ?_
      intro g2 cap2 w6 hown6 hgrow hat hlt6
      obtain ⟨k0, k0f, FIN⟩ := fo_fin HV.out HM.out HB5.out (by have := HN.out; omega) HW2.out HR.out hown6 hgrow
      clear hown6 hgrow hat hlt6
      refine hK.out _ _ trivial (fun _ => ?_)
      clear hK K
      try simp only [lay]
      refine wpAnyH_ready (rs := [5]) (by kernel_rfl) (by simp) ?_
      refine AllReadyH.cons rfl (fun K hK => ?_) AllReadyH.nil
      go_simp
      refine hK.out _ _ trivial (fun _ => ?_)
      clear hK K
      try simp only [lay]
      refine wpAnyH_done (by kernel_rfl) ?_ _
      obtain ⟨f1, f2, f3, f4, f5⟩ := FIN.out
      refine ⟨rfl, f1.from _, ⟨fun e => ?_, fun e => ?_⟩, ⟨⟨_, f2, ?_, trivial⟩, f5⟩⟩
      · exact (f4.block _ (by have := HN.out; omega) (by have := HN.out; omega)).trans e
      · exact (f4.block _ (by have := HN.out; omega) (by have := HN.out; omega)).trans e
      · rw [List.length_append, HK.out]; exact f3
    · go_simp
      refine hK.out _ _ trivial (fun _ => ?_)
      clear hK K
      try simp only [lay]
      refine wpAnyH_ready (rs := [0, 2]) (by kernel_rfl) (by simp) ?_
      refine AllReadyH.cons rfl (fun K hK => ?_) (AllReadyH.cons rfl (fun K hK => ?_) (AllReadyH.nil))
      · have k0 := G0.out W.drew hd0
        go_simp
        refine hK.out _ _ trivial (fun _ => ?_)
        clear hK K k0
        try simp only [lay]
        refine wpAnyH_ready (rs := [2]) (by kernel_rfl) (by simp) ?_
        refine AllReadyH.cons rfl (fun K hK => ?_) (AllReadyH.nil)
        go_simp
        refine HCS.out.mono ?_; rintro e w5 ⟨rfl, hb5⟩
        have HB5 : Hid (Below W.heap.size W w5) := Lib.hid (hd0.trans hb5)
        have HR5 := Lib.hid (own_below HR.out HB5.out)
        clear hb5
        refine hK.out _ _ trivial (fun _ => ?_)
        clear hK K
        try simp only [lay]
        refine wpAnyH_ready (rs := [3]) (by kernel_rfl) (by simp) ?_
        refine AllReadyH.cons rfl (fun K hK => ?_) (AllReadyH.nil)
        refine Eq.mpr (if_pos (by rfl)) ?_
        refine wp_buildSlice 83 132 1 _ rfl (ar32 h 4) i0 (.agg zr4) Tryz.underlying83 hi hz0 (by rw [hz1]; decide) (by rw [hz1]; decide) (by rw [hz1]; exact Eq.trans (congrArg (Instr.fill _ _) (by kernel_rfl : _ = [(0, Value.agg (ar32 h 4))])) (fill_four h)) ?_
        refine hK.out _ _ trivial (fun _ => ?_)
        clear hK K
        try simp only [lay]
        refine wpAnyH_ready (rs := [4]) (by kernel_rfl) (by simp) ?_
        refine AllReadyH.cons rfl (fun K hK => ?_) AllReadyH.nil
        refine Eq.mpr (if_pos (by rfl)) ?_
        refine wp_append_lies (w5.alloc (.cells (ar32 h 4) 132)) (.tmp 8) (.tmp 11) 83 rfl w2.heap.size 132 i0 (.agg zr4) 4 16 Tryz.underlying83 hi hz0 hz1 hz2 rfl (by decide) v pre.length (foM f (m + 1) pre) rfl (HR5.out.alloc _) ⟨w5.heap.size, 0, none⟩ 1 1 (cells32 (upTo h 4)) rfl hcl (World.news_of_block (cs := ar32 h 4) (heap_alloc_new w5 _)) (fun u hu => cells32_one _ u hu) (by omega) (by unfold maxLen; omega) (by omega) (by have := HW2.out; have := HB5.out.size; simp; omega) (w5.heap.size + 1) (by simp) ?_
        intro g2 cap2 w6 hown6 hgrow hat hlt6
        obtain ⟨k0, k0f, FIN⟩ := fo_fin HV.out HM.out HB5.out (by have := HN.out; omega) HW2.out HR.out hown6 hgrow
        clear hown6 hgrow hat hlt6
        refine hK.out _ _ trivial (fun _ => ?_)
        clear hK K
        try simp only [lay]
        refine wpAnyH_ready (rs := [5]) (by kernel_rfl) (by simp) ?_
        refine AllReadyH.cons rfl (fun K hK => ?_) AllReadyH.nil
        go_simp
        refine hK.out _ _ trivial (fun _ => ?_)
        clear hK K
        try simp only [lay]
        refine wpAnyH_done (by kernel_rfl) ?_ _
        obtain ⟨f1, f2, f3, f4, f5⟩ := FIN.out
        refine ⟨rfl, f1.from _, ⟨fun e => ?_, fun e => ?_⟩, ⟨⟨_, f2, ?_, trivial⟩, f5⟩⟩
        · exact (f4.block _ (by have := HN.out; omega) (by have := HN.out; omega)).trans e
        · exact (f4.block _ (by have := HN.out; omega) (by have := HN.out; omega)).trans e
        · rw [List.length_append, HK.out]; exact f3
      · go_simp
        refine HCS.out.mono ?_; rintro e w5 ⟨rfl, hb5⟩
        have HB5 : Hid (Below W.heap.size W w5) := Lib.hid (hd0.trans hb5)
        have HR5 := Lib.hid (own_below HR.out HB5.out)
        clear hb5
        refine hK.out _ _ trivial (fun _ => ?_)
        clear hK K
        try simp only [lay]
        refine wpAnyH_ready (rs := [0, 3]) (by kernel_rfl) (by simp) ?_
        refine AllReadyH.cons rfl (fun K hK => ?_) (AllReadyH.cons rfl (fun K hK => ?_) (AllReadyH.nil))
        · have k0 := G0.out w5 HB5.out
          go_simp
          refine hK.out _ _ trivial (fun _ => ?_)
          clear hK K k0
          try simp only [lay]
          refine wpAnyH_ready (rs := [3]) (by kernel_rfl) (by simp) ?_
          refine AllReadyH.cons rfl (fun K hK => ?_) (AllReadyH.nil)
          refine Eq.mpr (if_pos (by rfl)) ?_
          refine wp_buildSlice 83 132 1 _ rfl (ar32 h 4) i0 (.agg zr4) Tryz.underlying83 hi hz0 (by rw [hz1]; decide) (by rw [hz1]; decide) (by rw [hz1]; exact Eq.trans (congrArg (Instr.fill _ _) (by kernel_rfl : _ = [(0, Value.agg (ar32 h 4))])) (fill_four h)) ?_
          refine hK.out _ _ trivial (fun _ => ?_)
          clear hK K
          try simp only [lay]
          refine wpAnyH_ready (rs := [4]) (by kernel_rfl) (by simp) ?_
          refine AllReadyH.cons rfl (fun K hK => ?_) AllReadyH.nil
          refine Eq.mpr (if_pos (by rfl)) ?_
          refine wp_append_lies (w5.alloc (.cells (ar32 h 4) 132)) (.tmp 8) (.tmp 11) 83 rfl w2.heap.size 132 i0 (.agg zr4) 4 16 Tryz.underlying83 hi hz0 hz1 hz2 rfl (by decide) v pre.length (foM f (m + 1) pre) rfl (HR5.out.alloc _) ⟨w5.heap.size, 0, none⟩ 1 1 (cells32 (upTo h 4)) rfl hcl (World.news_of_block (cs := ar32 h 4) (heap_alloc_new w5 _)) (fun u hu => cells32_one _ u hu) (by omega) (by unfold maxLen; omega) (by omega) (by have := HW2.out; have := HB5.out.size; simp; omega) (w5.heap.size + 1) (by simp) ?_
          intro g2 cap2 w6 hown6 hgrow hat hlt6
          obtain ⟨k0, k0f, FIN⟩ := fo_fin HV.out HM.out HB5.out (by have := HN.out; omega) HW2.out HR.out hown6 hgrow
          clear hown6 hgrow hat hlt6
          refine hK.out _ _ trivial (fun _ => ?_)
          clear hK K
          try simp only [lay]
          refine wpAnyH_ready (rs := [5]) (by kernel_rfl) (by simp) ?_
          refine AllReadyH.cons rfl (fun K hK => ?_) AllReadyH.nil
          go_simp
          refine hK.out _ _ trivial (fun _ => ?_)
          clear hK K
          try simp only [lay]
          refine wpAnyH_done (by kernel_rfl) ?_ _
          obtain ⟨f1, f2, f3, f4, f5⟩ := FIN.out
          refine ⟨rfl, f1.from _, ⟨fun e => ?_, fun e => ?_⟩, ⟨⟨_, f2, ?_, trivial⟩, f5⟩⟩
          · exact (f4.block _ (by have := HN.out; omega) (by have := HN.out; omega)).trans e
          · exact (f4.block _ (by have := HN.out; omega) (by have := HN.out; omega)).trans e
          · rw [List.length_append, HK.out]; exact f3
        · refine Eq.mpr (if_pos (by rfl)) ?_
          refine wp_buildSlice 83 132 1 _ rfl (ar32 h 4) i0 (.agg zr4) Tryz.underlying83 hi hz0 (by rw [hz1]; decide) (by rw [hz1]; decide) (by rw [hz1]; exact Eq.trans (congrArg (Instr.fill _ _) (by kernel_rfl : _ = [(0, Value.agg (ar32 h 4))])) (fill_four h)) ?_
          refine hK.out _ _ trivial (fun _ => ?_)
          clear hK K
          try simp only [lay]
          refine wpAnyH_ready (rs := [0]) (by kernel_rfl) (by simp) ?_
          refine AllReadyH.cons rfl (fun K hK => ?_) (AllReadyH.nil)
          have k0 := G0.out (w5.alloc (.cells (ar32 h 4) 132)) (HB5.out.alloc HB5.out.size _)
          go_simp
          refine hK.out _ _ trivial (fun _ => ?_)
          clear hK K k0
          try simp only [lay]
          refine wpAnyH_ready (rs := [4]) (by kernel_rfl) (by simp) ?_
          refine AllReadyH.cons rfl (fun K hK => ?_) AllReadyH.nil
          refine Eq.mpr (if_pos (by rfl)) ?_
          refine wp_append_lies (w5.alloc (.cells (ar32 h 4) 132)) (.tmp 8) (.tmp 11) 83 rfl w2.heap.size 132 i0 (.agg zr4) 4 16 Tryz.underlying83 hi hz0 hz1 hz2 rfl (by decide) v pre.length (foM f (m + 1) pre) rfl (HR5.out.alloc _) ⟨w5.heap.size, 0, none⟩ 1 1 (cells32 (upTo h 4)) rfl hcl (World.news_of_block (cs := ar32 h 4) (heap_alloc_new w5 _)) (fun u hu => cells32_one _ u hu) (by omega) (by unfold maxLen; omega) (by omega) (by have := HW2.out; have := HB5.out.size; simp; omega) (w5.heap.size + 1) (by simp) ?_
          intro g2 cap2 w6 hown6 hgrow hat hlt6
          obtain ⟨k0, k0f, FIN⟩ := fo_fin HV.out HM.out HB5.out (by have := HN.out; omega) HW2.out HR.out hown6 hgrow
          clear hown6 hgrow hat hlt6
          refine hK.out _ _ trivial (fun _ => ?_)
          clear hK K
          try simp only [lay]
          refine wpAnyH_ready (rs := [5]) (by kernel_rfl) (by simp) ?_
          refine AllReadyH.cons rfl (fun K hK => ?_) AllReadyH.nil
          go_simp
          refine hK.out _ _ trivial (fun _ => ?_)
          clear hK K
          try simp only [lay]
          refine wpAnyH_done (by kernel_rfl) ?_ _
          obtain ⟨f1, f2, f3, f4, f5⟩ := FIN.out
          refine ⟨rfl, f1.from _, ⟨fun e => ?_, fun e => ?_⟩, ⟨⟨_, f2, ?_, trivial⟩, f5⟩⟩
          · exact (f4.block _ (by have := HN.out; omega) (by have := HN.out; omega)).trans e
          · exact (f4.block _ (by have := HN.out; omega) (by have := HN.out; omega)).trans e
          · rw [List.length_append, HK.out]; exact f3
  case done =>
    rintro D ys W hD hys ⟨⟨v, hv, hrow, -⟩, hm⟩ hK
    have hc := hv.cell
    subst hys
    have e4 : foM f (m + 1) (List.range (m + 1)) = cells32 (upTo f L) := by rw [HL.out]; exact (foC_mod f (m + 1)).trans (foC_range f (m + 1))
    rw [List.length_range, e4] at hrow
    have hown2 := owns_down (ownsRow_putObj hrow (.deferred none) hK rfl) (show w.heap.size ≤ w2.heap.size by omega)
    obtain ⟨g, cap, rfl⟩ := row_succ hrow
    have HBF : Hid (Below w.heap.size w (W.putObj D (.deferred none))) := Lib.hid ((hbw2.trans (hm.below (Nat.le_refl _) (by omega))).trans (belowK_b (w := w) (Nat.le_refl _) W D _ _ (by omega) hK rfl rfl))
    gi_wp2
    refine ⟨by simp, .inl ⟨_, _, rfl, run_takeDeferred hK, ?_⟩⟩
    exact ⟨_, results_tmp rfl _ _ _, g, cap, rfl, hown2, HBF.out⟩
  case stop =>
    rintro D c pre W _ _ h _
    exact h.elim
end Go.Proofs.YtbfmbdohebdbaaaGreatDoor.Fo
