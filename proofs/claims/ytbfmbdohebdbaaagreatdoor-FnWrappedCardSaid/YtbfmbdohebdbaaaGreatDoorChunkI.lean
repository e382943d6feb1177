/-
  What slices.Chunk's iterator hands out over the words of a key: its slices of four, one by one.
-/
import Derived.RangeFuncBox
import Derived.RangeFuncNested
import Derived.RangeFuncBound
import Derived.RangeFuncCalls
import Derived.RangeFuncLeaves
import Derived.Shelf.Abstract
import Derived.WalkKit
import Derived.OwnWalkIn
import Derived.TacticsInMore
import Derived.LoopNIn
import Derived.LoopIn
import Derived.Deep.RegionHeld3
import Derived.Test.YtbfmbdohebdbaaaGreatDoorKey
set_option linter.unusedVariables false
namespace Go.Proofs.YtbfmbdohebdbaaaGreatDoor
open Go.RowKit Go.Shelf
attribute [local go_sem] Oper.semAt_some

/-- the slice of four words at place x. -/
def chk (b x : Nat) : Value := .slice (some ⟨b, 4 * x, none⟩) 4 4
/-- what a round keeps: the iterator's two boxes. -/
def KeepC (Bs Bn : Nat) (v u : Value) (W W' : World) : Prop := (Boxed W Bs 138 v → Boxed W' Bs 138 v) ∧ (Boxed W Bn 3 u → Boxed W' Bn 3 u)
theorem keepC_t {Bs Bn : Nat} {v u : Value} {A B C : World} (h : KeepC Bs Bn v u A B) (k : KeepC Bs Bn v u B C) : KeepC Bs Bn v u A C := ⟨fun e => k.1 (h.1 e), fun e => k.2 (h.2 e)⟩
theorem boxed_putObj {W : World} {B : Nat} {t : TypeId} {v : Value} (h : Boxed W B t v) {l : Nat} {o : Obj} (o' : Obj) (hl : W.heap[l]? = some o) (hc : o.isCells = false) : Boxed (W.putObj l o') B t v :=
  h.kept (grownBy_putObj' W l o') (fun e => by cases e; rw [show W.heap[B]? = _ from h] at hl; cases hl; cases hc)
theorem keepC_b {Bs Bn : Nat} {v u : Value} {w : World} (W : World) (l : Nat) (o o' : Obj) (hl : w.heap.size ≤ l) (h : W.heap[l]? = some o) (hc : o.isCells = false) (hw : o.isWalk = false) : KeepC Bs Bn v u W (W.putObj l o') :=
  ⟨fun e => boxed_putObj e o' h hc, fun e => boxed_putObj e o' h hc⟩
theorem chunk_in (n : Nat) (g L c : Nat) (w : World) :
    CallsIn Fence.wide n Tryz.prog 127 #[.slice (some ⟨g, 0, none⟩) L c, .int .i64 4] w fun e w' => e = .returned (.func (.func 168) #[] #[.pointer (some ⟨w.heap.size, 0, none⟩), .pointer (some ⟨w.heap.size + 1, 0, none⟩)]) ∧ w' = (w.alloc (.cells #[.slice (some ⟨g, 0, none⟩) L c] 138)).alloc (.cells #[.int .i64 4] 3) := by
  refine callsIn_wide.2 ?_
  have hmf : ∀ (fn : Fn) (first cap : Array Value) (w : World), (Instr.makeFunc fn first cap).run Tryz.prog w = .ok (.func fn first cap) w := fun _ _ _ _ => rfl
  go_enter Tryz.func127, Tryz.ntmps127
  go_wp2
  go_ret
  exact ⟨rfl, rfl⟩
set_option maxRecDepth 100000 in
set_option maxHeartbeats 1600000 in
theorem chunk1_in (n : Nat) (hn : 1 ≤ n) (l Bs Bn b L m : Nat) (hL : L = 4 * m) (hm : L ≤ 1000) (J Jx : List Nat → World → Prop) (hJd : ∀ pre W, J pre W → J pre W.drew)
    (hY : ∀ pre x W, J pre W → pre.length < m → YieldAt Fence.wide (n - 1) Tryz.prog l #[chk b (x % m)] W fun e W' =>
      (e = .returned (.bool true) ∧ J (pre ++ [x]) W' ∧ KeepC Bs Bn (.slice (some ⟨b, 0, none⟩) L L) (.int .i64 4) W W') ∨ (e = .returned (.bool false) ∧ Jx (pre ++ [x]) W'))
    (W : World) (hBs : Boxed W Bs 138 (.slice (some ⟨b, 0, none⟩) L L)) (hBn : Boxed W Bn 3 (.int .i64 4)) (h0 : J [] W) :
    CallsIn Fence.wide n Tryz.prog 168 #[.func (.yield l) #[] #[], .pointer (some ⟨Bs, 0, none⟩), .pointer (some ⟨Bn, 0, none⟩)] W fun e W' => (∃ v, e = .returned v) ∧
      ((∃ ys : List Nat, ys = List.range m ∧ J ys W') ∨ (∃ pre : List Nat, True ∧ Jx pre W')) := by
  refine callsIn_of_wp Tryz.func168 rfl trivial ?_ rfl
  simp only [Tryz.ntmps168, List.size_toArray, List.length_cons, List.length_nil, Nat.reduceAdd, Nat.reduceSub, Array.replicate_succ, Array.replicate_zero, List.push_toArray, List.append_toArray, List.nil_append, List.cons_append]
  have HL := Lib.hid hL
  clear hL
  gi_wp2
  gi_loopw [4] (fun v wr => ∃ k : Nat, k ≤ m ∧ v = .int .i64 (4 * k : Nat) ∧ Boxed wr Bs 138 (.slice (some ⟨b, 0, none⟩) L L) ∧ Boxed wr Bn 3 (.int .i64 4) ∧ J (List.range k) wr) (fun v _ => L - (intOf v).toNat)
  case atStart => exact ⟨0, by omega, rfl, hBs, hBn, h0⟩
  case round =>
    obtain ⟨k, hk, rfl, hbs, hbn, hJs⟩ := hrel
    have c1 := hbs.cell
    have c2 := hbn.cell
    by_cases hlt : k < m
    · obtain ⟨i, hi⟩ : ∃ i, 4 * k = i := ⟨_, rfl⟩
      rw [hi]
      have hy0 := hY (List.range k) k wr.drew (hJd _ _ hJs) (by rw [List.length_range]; exact hlt)
      have hi4 : (i : Int) + 4 ≤ (L : Int) := by have := HL.out; omega
      have hi0 : (0 : Int) ≤ (i : Int) := by omega
      have hiL : (i : Int) < (L : Int) := by omega
      have hiL2 : (i : Int) ≤ (L : Int) := by omega
      have hmin : min (4 : Int) ((L - i : Nat) : Int) = 4 := by omega
      have hi4' : i + 4 - i = 4 := by omega
      have hL1 : (L : Int) ≤ 1000 := by omega
      rw [Nat.mod_eq_of_lt hlt] at hy0
      unfold chk at hy0
      rw [hi] at hy0
      obtain ⟨fn, tmps, assign, body, hy, hR⟩ := hy0
      gi_wp2
      refine wpIn_wide.2 ?_
      go_region_held3 (fun w' => w'.cell? ⟨Bs, 0, none⟩ = some (.slice (some ⟨b, 0, none⟩) L L) ∧ w'.cell? ⟨Bn, 0, none⟩ = some (.int .i64 4)) (simpa using ⟨c1, c2⟩) (fail)
      have c3 : wr.drew.cell? ⟨Bs, 0, none⟩ = some (.slice (some ⟨b, 0, none⟩) L L) := c1
      gi_wp2
      refine hR.mono ?_
      rintro e W3 (⟨rfl, hJ3, hk3⟩ | ⟨rfl, hJx3⟩)
      · have hbs3 := hk3.1 hbs
        have hbn3 := hk3.2 hbn
        have d1 := hbs3.cell
        have d2 := hbn3.cell
        gi_wp2
        go_roundw
        case rel => exact ⟨k + 1, by omega, by go_num, hbs3, hbn3, by rw [List.range_succ]; exact hJ3⟩
        case measure => simp [intOf]; omega
      · gi_wp2
        refine bodyPost_ret (results_none rfl _ _ _) rfl ?_
        exact ⟨⟨_, rfl⟩, .inr ⟨_, trivial, hJx3⟩⟩
    · obtain rfl : k = m := by omega
      have hz : ((4 * k : Nat) : Int) = (L : Int) := by have := HL.out; omega
      gi_wp2
      go_end0
      exact ⟨⟨_, rfl⟩, .inl ⟨_, rfl, hJs⟩⟩
/-- the iterator's value, for every loop body that keeps the iterator's boxes. -/
theorem grownBy_drew (w : World) : w.grownBy w.drew none := ⟨rfl, rfl, rfl, Nat.le_refl _, fun _ _ _ => rfl⟩
theorem chunk_stops (n : Nat) (hn : 1 ≤ n) (Bs Bn b L m : Nat) (hL : L = 4 * m) (hm : L ≤ 1000) (w : World) (hBs : Boxed w Bs 138 (.slice (some ⟨b, 0, none⟩) L L)) (hBn : Boxed w Bn 3 (.int .i64 4)) :
    SeqStopsK Fence.wide n Tryz.prog 168 #[.pointer (some ⟨Bs, 0, none⟩), .pointer (some ⟨Bn, 0, none⟩)] (fun x : Nat => #[chk b (x % m)]) (KeepC Bs Bn (.slice (some ⟨b, 0, none⟩) L L) (.int .i64 4)) (fun ys => ys = List.range m) (fun _ => True) m w := fun l J Jx W hW hJ _ hY h0 =>
  chunk1_in n hn l Bs Bn b L m hL hm J Jx (fun pre W h => hJ pre W _ none h (grownBy_drew W) (fun r e => by cases e)) hY W ((hW.block _ hBs.lt).trans hBs) ((hW.block _ hBn.lt).trans hBn) h0
end Go.Proofs.YtbfmbdohebdbaaaGreatDoor
