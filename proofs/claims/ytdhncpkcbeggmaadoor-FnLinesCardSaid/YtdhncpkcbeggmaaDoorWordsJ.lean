/-
  What impl.Words answers: the words that its iterator hands out, collected.
-/
import Derived.RangeFuncBox
import Derived.RangeFuncNested
import Derived.RangeFuncBound
import Derived.RangeFuncCalls
import Derived.RangeFuncLeaves
import Derived.Shelf.Abstract
import Derived.Shelf.RegionOpen
import Derived.WalkKit
import Derived.OwnWalkIn
import Derived.TacticsInMore
import Derived.LoopNIn
import Derived.LoopIn
import Derived.Maps.AppendAt
import Derived.WalkMore
import Derived.Deep.AppendLies
import Derived.Test.YtdhncpkcbeggmaaDoorProg
import Derived.Test.YtdhncpkcbeggmaaDoorSplit
import Derived.Test.YtdhncpkcbeggmaaDoorWordsMath
import Derived.Test.YtdhncpkcbeggmaaDoorStrs
import Derived.Test.YtdhncpkcbeggmaaDoorListKit
import Derived.Test.YtdhncpkcbeggmaaDoorWordsI
set_option linter.unusedVariables false
namespace Go.Proofs.YtdhncpkcbeggmaaDoor
open Go.RowKit Go.Shelf
attribute [local go_sem] Oper.semAt_some

theorem owns_from {w : World} {B C e size n : Nat} {v : Value} {xs : List Value} (h : w.ownsRow C e size v n xs) (hBC : B ≤ C) : w.ownsRow B e size v n xs := by
  refine ⟨h.1, ?_⟩
  rcases h.2 with hn | ⟨g, cap, cur, hv, hB, rest⟩
  · exact .inl hn
  · exact .inr ⟨g, cap, cur, hv, Nat.le_trans hBC hB, rest⟩
theorem cell_lt {w : World} {b : Nat} {v : Value} (h : w.cell? ⟨b, 0, none⟩ = some v) : b < w.heap.size := by
  rcases Nat.lt_or_ge b w.heap.size with h' | h'
  · exact h'
  · simp [World.cell?, Array.getElem?_eq_none h'] at h

/-- what a round's append and store leave behind. -/
theorem round_facts {w W W2 : World} {s x : ByteArray} {v : Value} {n : Nat} {L : List Value} {i0 : TypeInfo}
    (hi : Tryd.prog.info? 9 = some i0) (hz0 : i0.zero = some (.string ByteArray.empty)) (hz1 : i0.size = 1) (hz2 : i0.bytes = 16)
    (hv : Boxed W w.heap.size 28 v) (hs : Boxed W (w.heap.size + 1) 9 (.string s)) (hrow : W.ownsRow (w.heap.size + 2) 9 1 v n L) (hB : Below w.heap.size w W) (hb2 : Below W.heap.size W W2) (hn : n ≤ 1073741825) :
    W2.cell? ⟨w.heap.size, 0, none⟩ = some v ∧ (W2.alloc (.cells #[.string x] 9)).cell? ⟨w.heap.size, 0, none⟩ = some v ∧
    ∃ g cap w3, (Builtin.append_ #[28, 28] 28 #[v, .slice (some ⟨W2.heap.size, 0, none⟩) 1 1]).run Tryd.prog (W2.alloc (.cells #[.string x] 9)) = .ok (.slice (some ⟨g, 0, none⟩) (n + 1) cap) w3 ∧
      w3.cell? ⟨w.heap.size, 0, none⟩ = some v ∧ w3.frozen? ⟨w.heap.size, 0, none⟩ = false ∧
      Hid (KeepsOthers W (w3.setCell ⟨w.heap.size, 0, none⟩ (.slice (some ⟨g, 0, none⟩) (n + 1) cap)) ∧ Keep w.heap.size (w.heap.size + 1) s W (w3.setCell ⟨w.heap.size, 0, none⟩ (.slice (some ⟨g, 0, none⟩) (n + 1) cap)) ∧
        Boxed (w3.setCell ⟨w.heap.size, 0, none⟩ (.slice (some ⟨g, 0, none⟩) (n + 1) cap)) w.heap.size 28 (.slice (some ⟨g, 0, none⟩) (n + 1) cap) ∧
        (w3.setCell ⟨w.heap.size, 0, none⟩ (.slice (some ⟨g, 0, none⟩) (n + 1) cap)).ownsRow (w.heap.size + 2) 9 1 (.slice (some ⟨g, 0, none⟩) (n + 1) cap) (n + 1) (L ++ [.string x]) ∧
        Boxed (w3.setCell ⟨w.heap.size, 0, none⟩ (.slice (some ⟨g, 0, none⟩) (n + 1) cap)) (w.heap.size + 1) 9 (.string s) ∧
        Below w.heap.size w (w3.setCell ⟨w.heap.size, 0, none⟩ (.slice (some ⟨g, 0, none⟩) (n + 1) cap))) := by
  have hv2 : Boxed W2 w.heap.size 28 v := (hb2.block _ hv.lt).trans hv
  have hs2 : Boxed W2 (w.heap.size + 1) 9 (.string s) := (hb2.block _ hs.lt).trans hs
  have hlt2 := hs2.lt
  have hrow2 : W2.ownsRow (w.heap.size + 2) 9 1 v n L := by
    refine ⟨hrow.1, ?_⟩
    rcases hrow.2 with hn | ⟨g, cap, cur, hvv, hB', hg, rest⟩
    · exact .inl hn
    · refine .inr ⟨g, cap, cur, hvv, hB', (hb2.block g ?_).trans hg, rest⟩
      rcases Nat.lt_or_ge g W.heap.size with hlt | hge
      · exact hlt
      · rw [Array.getElem?_eq_none hge] at hg; cases hg
  refine ⟨hv2.cell, (hv2.alloc _).cell, ?_⟩
  obtain ⟨g, cap, w3, hr, hown3, hgrow, _, _⟩ := run_append_lies (P := Tryd.prog) (W2.alloc (.cells #[.string x] 9)) 28 28 (w.heap.size + 2) 9 i0 (.string ByteArray.empty) 1 16 Tryd.underlying28 hi hz0 hz1 hz2 rfl (by decide) v n L (hrow2.alloc _)
    ⟨W2.heap.size, 0, none⟩ 1 1 [.string x] rfl (World.news_of_block (cs := #[.string x]) (heap_alloc_new W2 _)) (by simp [Value.oneCell']) (by omega) (by unfold maxLen; omega) (by omega) (by simp; omega) (W2.heap.size + 1) (by simp)
  have hne : ∀ r, v.ownBlock = some r → w.heap.size + 2 ≤ r := fun r e => by
    rcases hrow2.2 with ⟨rfl, _⟩ | ⟨g, cap, cur, rfl, hB', _⟩
    · cases e
    · have : g = r := by simpa [Value.ownBlock] using e
      omega
  have hs3 : Boxed w3 (w.heap.size + 1) 9 (.string s) := (hs2.alloc _).kept hgrow (fun e => by have := hne _ e.symm; omega)
  obtain ⟨hv3, hv4, hr4, hk4, hb4⟩ := hv2.appended (by decide) (owns_from hrow2 (Nat.le_add_right _ 2)) (by omega) (Nat.le_refl _) (owns_from hown3 (Nat.le_add_right _ 2)) hgrow
  have hs4 := hs3.other (B' := w.heap.size) (by omega) (.slice (some ⟨g, 0, none⟩) (n + 1) cap)
  have hWW : w.heap.size ≤ W.heap.size := hB.size
  have hbW := (hb2.mono hWW).trans hb4
  refine ⟨g, cap, w3, hr, hv3.cell, hv3.frozen, Lib.hid ⟨(others_of_below hb2).trans hk4, ⟨hbW, fun _ => hs4.cell⟩, hv4, ?_, hs4, hB.trans hbW⟩⟩
  exact hown3.kept (grownBy_setCell' w3 w.heap.size _) (.inr (fun e => by have := (hown3.lt _ e).1; omega))

theorem oper_append_run {F : Fence} {n : Nat} {P : Program} {o : Oper} {a : Act} {w w' : World} {K : Act → World → Prop} {Q : Exit → Act → World → Prop} {v u v' : Value} (s x : Operand) (t : TypeId)
    (hop : o.op = Op.call { callee := Callee.builtin Builtin.append, args := #[s, x], argTypes := #[t, t] }) (hs : a.eval s = v) (hx : a.eval x = u) (hrun : (Builtin.append_ #[t, t] o.type #[v, u]).run P w = .ok v' w') (hK : K (a.put o.dst v') w') :
    o.wpIn F n P a w K Q := by
  unfold Oper.wpIn
  refine ⟨?_, ?_⟩
  · simp [Oper.about, hop, resolve, Target.leads, Sem.run_pure]
  · rw [Oper.semAt_plain F _ _ (by rw [hop]; intro c hc'; cases hc')]
    simp [execOp, hop, resolve, invoke, builtin, hs, hx, hrun, Result.andThen]
    exact hK

set_option maxRecDepth 100000 in
set_option maxHeartbeats 2000000 in
theorem words_impl (s : ByteArray) (w : World) (hs : s.size ≤ 1073741824) :
    Calls Tryd.prog 17 #[.string s] w fun e w' => ∃ A c, e = .returned (.slice A (wordsR s).length c) ∧ Own w' w.heap.size A (wordsR s).length c (wordsR s) ∧ Below w.heap.size w w' := by
  refine (callsIn_wide (n := 3)).1 ?_
  obtain ⟨i0, hi, hz0, hz1, hz2⟩ := info_parts Lk.infoS
  have h3 : Fence.wide.fn 35 := trivial
  have h4 : Fence.wide.fn 34 := trivial
  refine callsIn_of_wp_marks Tryd.func17 rfl trivial ?_ rfl
  simp only [Tryd.ntmps17, List.size_toArray, List.length_cons, List.length_nil, Nat.reduceAdd, Nat.reduceSub, Array.replicate_succ, Array.replicate_zero, List.push_toArray, List.append_toArray, List.nil_append, List.cons_append]
  gi_wp2_with (gi_at_call 35; refine (wordsOf_in _ s _).mono ?_; rintro e w' ⟨rfl, rfl⟩)
  have bO := Boxed.new w 28 (.slice none 0 0)
  have bN := Boxed.new (w.alloc (.cells #[.slice none 0 0] 28)) 9 (.string s)
  rw [World.size_alloc] at bN
  have hB0 : Below w.heap.size w ((w.alloc (.cells #[.slice none 0 0] 28)).alloc (.cells #[.string s] 9)) := ((Below.refl _ w).alloc (Nat.le_refl _) _).alloc (by simp) _
  refine wpIn_rangeFunc_ownG rfl (by omega) (gf := 46) (lb := #[.pointer (some ⟨w.heap.size + 1, 0, none⟩)]) rfl trivial (enters_of Tryd.func46 (by kernel_rfl) rfl)
    (words_stops 2 (by omega) (w.heap.size + 1) w.heap.size s hs _ (by simp) bN.cell) keep_t (keep_b (by simp; omega)) (Below.refl _ _) (fun _ => rfl)
    (fun pre W => ((∃ v, Boxed W w.heap.size 28 v ∧ W.ownsRow (w.heap.size + 2) 9 1 v pre.length (pre.map fun x => Value.string x.1) ∧ True) ∧ Boxed W (w.heap.size + 1) 9 (.string s)) ∧ Below w.heap.size w W)
    (fun _ _ _ => False)
    (OwnFrom.and (OwnFrom.and (_root_.Go.Own.from (holdsRow_own (w.heap.size + 2) w.heap.size 28 9 1 (fun pre : List Txt => pre.length) (fun pre => pre.map fun x => Value.string x.1) (fun _ _ => True)) _) (_root_.Go.Own.from (boxed_own _ _ fun _ => .string s) _)) (ownFrom_below (Nat.le_refl _) (by simp; omega)))
    (fun _ _ _ _ _ hs _ _ => hs)
    ⟨⟨⟨_, bO.alloc _, World.ownsRow_nil _ _ _ _, trivial⟩, bN⟩, hB0⟩
    (fun x => { tmps := #[.string s, undef, .slice none 0 0, .pointer (some ⟨w.heap.size, 0, none⟩), .string x.1, .string s, .func (.func 46) #[] #[.pointer (some ⟨w.heap.size + 1, 0, none⟩)], .string x.1, undef, undef, undef, undef, undef, undef], defers := [] }) ?assign ?body ?done ?stop
  case assign =>
    intro l x W K hK
    gi_wp2
    exact hK
  case body =>
    rintro l pre x W ⟨⟨⟨v, hv, hrow, -⟩, hsb⟩, hB⟩ hlt
    have hc := hv.cell
    have hc0 : W.drew.cell? ⟨w.heap.size, 0, none⟩ = some v := hc
    gi_wp2
    refine wpIn_region_any (by kernel_rfl) ?_
    change wpAnyIn _ _ _ _ _ _ _ _ _ (World.drew _)
    refine wpAnyIn_ready (rs := [0, 1]) (by kernel_rfl) (by simp) ?_
    refine AllReadyIn.cons rfl (fun K hK => ?_) ?_
    · go_simp
      refine hK _ _ ?_
      clear hK K
      refine wpAnyIn_ready (rs := [1]) (by kernel_rfl) (by simp) ?_
      refine AllReadyIn.cons rfl (fun K hK => ?_) ?_
      · go_simp
        refine hK _ _ ?_
        clear hK K
        refine wpAnyIn_ready (rs := [2]) (by kernel_rfl) (by simp) ?_
        refine AllReadyIn.cons rfl (fun K hK => ?_) ?_
        · go_simp
          gi_wp2_with (gi_at_call 34; refine (CallsIn.inRound l (clone_in _ x.1 _ x.2)).mono ?_; rintro e W2 ⟨rfl, hb2⟩; obtain ⟨hcA, hcB, g, cap, w3, hr, hcC, hfC, HF⟩ := round_facts (x := x.1) hi hz0 hz1 hz2 hv hsb hrow hB (((Below.refl _ W).drew).trans hb2) (by omega))
          first | (refine hK _ _ ?_; clear hK K) | skip
          refine wpAnyIn_ready (rs := [3]) (by kernel_rfl) (by simp) ?_
          refine AllReadyIn.cons rfl (fun K hK => ?_) ?_
          · go_simp
            refine hK _ _ ?_
            clear hK K
            refine wpAnyIn_ready (rs := [4]) (by kernel_rfl) (by simp) ?_
            refine AllReadyIn.cons rfl (fun K hK => ?_) ?_
            · refine Eq.mpr (if_pos (by rfl)) ?_
              refine oper_append_run (.tmp 8) (.tmp 11) 28 rfl rfl rfl hr (hK _ _ ?_)
              clear hK K
              refine wpAnyIn_ready (rs := [5]) (by kernel_rfl) (by simp) ?_
              refine AllReadyIn.cons rfl (fun K hK => ?_) ?_
              · go_simp
                refine hK _ _ ?_
                clear hK K
                refine wpAnyIn_done (by kernel_rfl) ?_ _
                obtain ⟨f1, f2, f3, f4, f5, f6⟩ := HF.out
                exact ⟨f1.from _, f2, ⟨⟨_, f3, by rw [List.length_append, List.map_append]; exact f4, trivial⟩, f5⟩, f6⟩
              exact AllReadyIn.nil
            exact AllReadyIn.nil
          exact AllReadyIn.nil
        exact AllReadyIn.nil
      exact AllReadyIn.nil
    refine AllReadyIn.cons rfl (fun K hK => ?_) ?_
    · go_simp
      refine hK _ _ ?_
      clear hK K
      refine wpAnyIn_ready (rs := [0, 2]) (by kernel_rfl) (by simp) ?_
      refine AllReadyIn.cons rfl (fun K hK => ?_) ?_
      · go_simp
        refine hK _ _ ?_
        clear hK K
        refine wpAnyIn_ready (rs := [2]) (by kernel_rfl) (by simp) ?_
        refine AllReadyIn.cons rfl (fun K hK => ?_) ?_
        · go_simp
          gi_wp2_with (gi_at_call 34; refine (CallsIn.inRound l (clone_in _ x.1 _ x.2)).mono ?_; rintro e W2 ⟨rfl, hb2⟩; obtain ⟨hcA, hcB, g, cap, w3, hr, hcC, hfC, HF⟩ := round_facts (x := x.1) hi hz0 hz1 hz2 hv hsb hrow hB (((Below.refl _ W).drew).trans hb2) (by omega))
          first | (refine hK _ _ ?_; clear hK K) | skip
          refine wpAnyIn_ready (rs := [3]) (by kernel_rfl) (by simp) ?_
          refine AllReadyIn.cons rfl (fun K hK => ?_) ?_
          · go_simp
            refine hK _ _ ?_
            clear hK K
            refine wpAnyIn_ready (rs := [4]) (by kernel_rfl) (by simp) ?_
            refine AllReadyIn.cons rfl (fun K hK => ?_) ?_
            · refine Eq.mpr (if_pos (by rfl)) ?_
              refine oper_append_run (.tmp 8) (.tmp 11) 28 rfl rfl rfl hr (hK _ _ ?_)
              clear hK K
              refine wpAnyIn_ready (rs := [5]) (by kernel_rfl) (by simp) ?_
              refine AllReadyIn.cons rfl (fun K hK => ?_) ?_
              · go_simp
                refine hK _ _ ?_
                clear hK K
                refine wpAnyIn_done (by kernel_rfl) ?_ _
                obtain ⟨f1, f2, f3, f4, f5, f6⟩ := HF.out
                exact ⟨f1.from _, f2, ⟨⟨_, f3, by rw [List.length_append, List.map_append]; exact f4, trivial⟩, f5⟩, f6⟩
              exact AllReadyIn.nil
            exact AllReadyIn.nil
          exact AllReadyIn.nil
        exact AllReadyIn.nil
      refine AllReadyIn.cons rfl (fun K hK => ?_) ?_
      · go_simp
        gi_wp2_with (gi_at_call 34; refine (CallsIn.inRound l (clone_in _ x.1 _ x.2)).mono ?_; rintro e W2 ⟨rfl, hb2⟩; obtain ⟨hcA, hcB, g, cap, w3, hr, hcC, hfC, HF⟩ := round_facts (x := x.1) hi hz0 hz1 hz2 hv hsb hrow hB (((Below.refl _ W).drew).trans hb2) (by omega))
        first | (refine hK _ _ ?_; clear hK K) | skip
        refine wpAnyIn_ready (rs := [0, 3]) (by kernel_rfl) (by simp) ?_
        refine AllReadyIn.cons rfl (fun K hK => ?_) ?_
        · go_simp
          refine hK _ _ ?_
          clear hK K
          refine wpAnyIn_ready (rs := [3]) (by kernel_rfl) (by simp) ?_
          refine AllReadyIn.cons rfl (fun K hK => ?_) ?_
          · go_simp
            refine hK _ _ ?_
            clear hK K
            refine wpAnyIn_ready (rs := [4]) (by kernel_rfl) (by simp) ?_
            refine AllReadyIn.cons rfl (fun K hK => ?_) ?_
            · refine Eq.mpr (if_pos (by rfl)) ?_
              refine oper_append_run (.tmp 8) (.tmp 11) 28 rfl rfl rfl hr (hK _ _ ?_)
              clear hK K
              refine wpAnyIn_ready (rs := [5]) (by kernel_rfl) (by simp) ?_
              refine AllReadyIn.cons rfl (fun K hK => ?_) ?_
              · go_simp
                refine hK _ _ ?_
                clear hK K
                refine wpAnyIn_done (by kernel_rfl) ?_ _
                obtain ⟨f1, f2, f3, f4, f5, f6⟩ := HF.out
                exact ⟨f1.from _, f2, ⟨⟨_, f3, by rw [List.length_append, List.map_append]; exact f4, trivial⟩, f5⟩, f6⟩
              exact AllReadyIn.nil
            exact AllReadyIn.nil
          exact AllReadyIn.nil
        refine AllReadyIn.cons rfl (fun K hK => ?_) ?_
        · go_simp
          refine hK _ _ ?_
          clear hK K
          refine wpAnyIn_ready (rs := [0]) (by kernel_rfl) (by simp) ?_
          refine AllReadyIn.cons rfl (fun K hK => ?_) ?_
          · go_simp
            refine hK _ _ ?_
            clear hK K
            refine wpAnyIn_ready (rs := [4]) (by kernel_rfl) (by simp) ?_
            refine AllReadyIn.cons rfl (fun K hK => ?_) ?_
            · refine Eq.mpr (if_pos (by rfl)) ?_
              refine oper_append_run (.tmp 8) (.tmp 11) 28 rfl rfl rfl hr (hK _ _ ?_)
              clear hK K
              refine wpAnyIn_ready (rs := [5]) (by kernel_rfl) (by simp) ?_
              refine AllReadyIn.cons rfl (fun K hK => ?_) ?_
              · go_simp
                refine hK _ _ ?_
                clear hK K
                refine wpAnyIn_done (by kernel_rfl) ?_ _
                obtain ⟨f1, f2, f3, f4, f5, f6⟩ := HF.out
                exact ⟨f1.from _, f2, ⟨⟨_, f3, by rw [List.length_append, List.map_append]; exact f4, trivial⟩, f5⟩, f6⟩
              exact AllReadyIn.nil
            exact AllReadyIn.nil
          exact AllReadyIn.nil
        exact AllReadyIn.nil
      exact AllReadyIn.nil
    exact AllReadyIn.nil
  case done =>
    rintro D ys W hD hys ⟨⟨⟨v, hv, hrow, -⟩, hsb⟩, hB⟩ hK
    have hc := hv.cell
    have hown : W.ownsRow (w.heap.size + 2) 9 1 v (wordsR s).length ((wordsR s).map Value.string) := by
      rw [← hys, List.length_map, List.map_map]; exact hrow
    have hown2 := own_of (owns_from (ownsRow_putObj hown (.deferred none) hK rfl) (Nat.le_add_right _ 2))
    obtain ⟨A, c, rfl, ho⟩ := hown2
    gi_wp2
    refine ⟨by simp, .inl ⟨_, _, rfl, run_takeDeferred hK, ?_⟩⟩
    exact ⟨_, results_tmp rfl _ _ _, A, c, rfl, ho, hB.trans (belowK_b (w := w) (Nat.le_refl _) W D _ _ (by simp at hD; omega) hK rfl rfl)⟩
  case stop =>
    rintro D c pre W _ _ h _
    exact h.elim
end Go.Proofs.YtdhncpkcbeggmaaDoor
