/-
  What is said of keys, words and tableLocks in memory.
-/
import Derived.Test.YtkbnnlhilnnpeaaGreatDoorTlI
import Derived.Test.YtkbnnlhilnnpeaaGreatDoorFoursI
import Derived.Test.YtkbnnlhilnnpeaaGreatDoorRevI
import Derived.Test.YtkbnnlhilnnpeaaGreatDoorUnmix
set_option linter.unusedVariables false
set_option linter.unusedSimpArgs false
namespace Go.Proofs.YtkbnnlhilnnpeaaGreatDoor
open Go Go.RowKit
attribute [local go_sem ↓] Go.wp_at_zero Go.wp_at_succ

/-- words that can be read. -/
def WCell (w : World) (g L : Nat) (f : Nat → UInt32) : Prop := g < w.heap.size ∧ ∀ j, j < L → w.cell? ⟨g, j, none⟩ = some (.int .u32 ((f j).toNat : Int))
theorem WCell.below {w w' : World} {g L : Nat} {f : Nat → UInt32} (h : WCell w g L f) (hb : Below w.heap.size w w') : WCell w' g L f :=
  ⟨Nat.lt_of_lt_of_le h.1 hb.size, fun j hj => (hb.cell (p := ⟨g, j, none⟩) h.1).trans (h.2 j hj)⟩
theorem wc_of {w : World} {B g L c : Nat} {e : TypeId} {f : Nat → UInt32} (h : w.ownsRow B e 1 (.slice (some ⟨g, 0, none⟩) L c) L (cells32 (upTo f L))) : WCell w g L f :=
  ⟨(h.lt g rfl).2, fun j hj => (h.cellAt j (by omega)).trans (cells32_at _ _ _ (upTo_at f L j hj))⟩
/-- keys, four words each, where a slice points. -/
def KeysAt (w : World) (kv : Value) (m : Nat) (K : Nat → UInt32) : Prop :=
  ∃ g c, kv = .slice (some ⟨g, 0, none⟩) m c ∧ m ≤ c ∧ c ≤ 9223372036854775807 ∧ g < w.heap.size ∧ ∀ i, i < 4 * m → w.cell? ⟨g, i, none⟩ = some (.int .u32 ((K i).toNat : Int))
theorem KeysAt.below {w w' : World} {kv : Value} {m : Nat} {K : Nat → UInt32} (h : KeysAt w kv m K) (hb : Below w.heap.size w w') : KeysAt w' kv m K := by
  obtain ⟨g, c, h1, h2, h3, h4, h5⟩ := h
  exact ⟨g, c, h1, h2, h3, Nat.lt_of_lt_of_le h4 hb.size, fun i hi => (hb.cell (p := ⟨g, i, none⟩) h4).trans (h5 i hi)⟩
theorem own_cap {w : World} {B g m c s : Nat} {e : TypeId} {xs : List Value} (h : w.ownsRow B e s (.slice (some ⟨g, 0, none⟩) m c) m xs) : ∃ cur, RAt w g e cur ∧ m ≤ c ∧ c ≤ 9223372036854775807 ∧ cur.size = c * s ∧ cur.toList.take (m * s) = xs ∧ B ≤ g := by
  rcases h.2 with ⟨hv, _⟩ | ⟨g', cap, cur, hv, hb, hg, hn, hm, hs, ht⟩
  · cases hv
  · cases hv
    exact ⟨cur, hg, hn, by unfold maxLen at hm; omega, hs, ht, hb⟩
theorem keys_of_own {w : World} {B g m c : Nat} {e : TypeId} {f : Nat → UInt32} {L : Nat} (hL : L = 4 * m) (h : w.ownsRow B e 4 (.slice (some ⟨g, 0, none⟩) m c) m (cells32 (upTo f L))) : KeysAt w (.slice (some ⟨g, 0, none⟩) m c) m f := by
  obtain ⟨cur, hr, h1, h2, -⟩ := own_cap h
  exact ⟨g, c, rfl, h1, h2, hr.lt, fun i hi => (h.cellAt i (by omega)).trans (cells32_at _ _ _ (upTo_at f L i (by omega)))⟩
theorem tl_zero : ((Tryz.prog.info? 97).bind (·.zero)).map (·.cells.size) = some 1282 := by kernel_rfl
/-- where the parts of a tableLock stand. -/
def tlPl (x : Nat) : Option (Nat × Nat) := (#[(0, 1024), (1024, 256), (1280, 1), (1281, 1)] : Array (Nat × Nat))[x]?
theorem exec_build4 {P : Program} {ev : Operand → Value} {o : Oper} {t : TypeId} {x0 x1 x2 x3 : Operand} {X : Array Value} {w : World} (v0 v1 v2 v3 : Value) (ho : o.op = .build t #[(0, x0), (1, x1), (2, x2), (3, x3)]) (h0 : ev x0 = v0) (h1 : ev x1 = v1) (h2 : ev x2 = v2) (h3 : ev x3 = v3)
    (h : (Instr.build t #[(0, v0), (1, v1), (2, v2), (3, v3)]).run P w = .ok (.agg X) w) : (execOp ev o).run P w = .ok (.value (.agg X)) w := by
  subst h0 h1 h2 h3
  have e : (#[(0, x0), (1, x1), (2, x2), (3, x3)] : Array (Nat × Operand)).map (fun (i, x) => (i, ev x)) = #[(0, ev x0), (1, ev x1), (2, ev x2), (3, ev x3)] := by simp
  unfold execOp
  simp only [ho]
  rw [e, Sem.run_bind, h]
  rfl
set_option maxRecDepth 100000 in
theorem build_tl (h : Nat → UInt32) (f : UInt8 → UInt8) (A : Option Addr) (m c : Nat) (d : Int) : ∃ X, TlX X h f (.slice A m c) d ∧ ∀ W, (Instr.build 97 #[(0, .agg (ar32 h 1024)), (1, .agg (tabOf f)), (2, .slice A m c), (3, .int .i64 d)]).run Tryz.prog W = .ok (.agg X) W := by
  cases hq : Tryz.prog.info? 97 with
  | none => have := tl_zero; rw [hq] at this; cases this
  | some i =>
    cases hz : i.zero with
    | none => have := tl_zero; rw [hq] at this; simp [hz] at this
    | some z =>
      have hZ : z.cells.size = 1282 := by have := tl_zero; rw [hq] at this; simpa [hz] using this
      refine ⟨_, tlx_put z.cells h f (.slice A m c) d hZ, fun W => ?_⟩
      have s1 : (putAt z.cells 0 (ar32 h 1024)).size = 1282 := by rw [putAt_size _ _ _ (by rw [ar32_size, hZ]; omega), hZ]
      have s2 : (putAt (putAt z.cells 0 (ar32 h 1024)) 1024 (tabOf f)).size = 1282 := by rw [putAt_size _ _ _ (by rw [tabOf_size, s1]; omega), s1]
      have s3 : (putAt (putAt (putAt z.cells 0 (ar32 h 1024)) 1024 (tabOf f)) 1280 #[.slice A m c]).size = 1282 := by rw [putAt_size _ _ _ (by rw [s2]; simp), s2]
      refine run_build_struct 97 _ _ i z #[(0, 1024), (1024, 256), (1280, 1), (1281, 1)] _ W Tryz.underlying97 hq hz (by kernel_rfl) ?_
      show Instr.fill tlPl z.cells [(0, .agg (ar32 h 1024)), (1, .agg (tabOf f)), (2, .slice A m c), (3, .int .i64 d)] = _
      rw [fill_at tlPl _ 0 0 1024 (.agg (ar32 h 1024)) (ar32 h 1024) _ rfl rfl (ar32_size h 1024) (by rw [hZ]; omega)]
      rw [fill_at tlPl _ 1 1024 256 (.agg (tabOf f)) (tabOf f) _ rfl rfl (tabOf_size f) (by show _ ≤ (putAt z.cells 0 (ar32 h 1024)).size; rw [s1]; omega)]
      rw [fill_at tlPl _ 2 1280 1 (.slice A m c) #[.slice A m c] _ rfl rfl rfl (by show _ ≤ (putAt (putAt z.cells 0 (ar32 h 1024)) 1024 (tabOf f)).size; rw [s2]; omega)]
      rw [fill_at tlPl _ 3 1281 1 (.int .i64 d) #[.int .i64 d] _ rfl rfl rfl (by show _ ≤ (putAt (putAt (putAt z.cells 0 (ar32 h 1024)) 1024 (tabOf f)) 1280 #[.slice A m c]).size; rw [s3]; omega)]
      rw [Instr.fill]
theorem exp_cells (s : ByteArray) (n : Nat) (h : kOf s n) (W : World) :
    Calls Tryz.prog 41 #[.string s] W fun e w' => ∃ g, e = .returned (.slice (some ⟨g, 0, none⟩) (kL n) (kL n)) ∧ WCell w' g (kL n) (ew s n) ∧ Below W.heap.size W w' :=
  (expanded_yes s n h W).mono fun e w' ⟨h1, h2, h3⟩ => ⟨_, h1, wc_of h2, h3⟩
theorem unm_cells (s : ByteArray) (n : Nat) (h : kOf s n) (W : World) (hu : Fac4 W 1 unF) :
    Calls Tryz.prog 82 #[.string s] W fun e w' => ∃ g, e = .returned (.slice (some ⟨g, 0, none⟩) (kL n) (kL n)) ∧ WCell w' g (kL n) (uw s n) ∧ Below W.heap.size W w' :=
  (unmixed_yes s n h W hu).mono fun e w' ⟨h1, h2, h3⟩ => ⟨_, h1, wc_of h2, h3⟩
theorem fours_keys (n g : Nat) (hn : n ≤ 8) (f : Nat → UInt32) (W : World) (hw : WCell W g (kL n) f) :
    Calls Tryz.prog 81 #[.slice (some ⟨g, 0, none⟩) (kL n) (kL n)] W fun e w' => ∃ g' c, e = .returned (.slice (some ⟨g', 0, none⟩) (n + 7) c) ∧ KeysAt w' (.slice (some ⟨g', 0, none⟩) (n + 7) c) (n + 7) f ∧ Below W.heap.size W w' :=
  (Fo.foursOf_impl g (kL n) (n + 6) f (by unfold kL; omega) (by unfold kL; omega) W hw.1 hw.2).mono fun e w' ⟨g', c, h1, h2, h3⟩ => ⟨g', c, h1, keys_of_own (by unfold kL; omega) h2, h3⟩
theorem fours_own (n g : Nat) (hn : n ≤ 8) (f : Nat → UInt32) (W : World) (hw : WCell W g (kL n) f) :
    Calls Tryz.prog 81 #[.slice (some ⟨g, 0, none⟩) (kL n) (kL n)] W fun e w' => ∃ g' c cur, e = .returned (.slice (some ⟨g', 0, none⟩) (n + 7) c) ∧ RAt w' g' 100 cur ∧ n + 7 ≤ c ∧ c ≤ 9223372036854775807 ∧ 4 * (n + 7) ≤ cur.size ∧ (∀ i, i < 4 * (n + 7) → cur[i]? = some (.int .u32 ((f i).toNat : Int))) ∧ W.heap.size ≤ g' ∧ Below W.heap.size W w' :=
  (Fo.foursOf_impl g (kL n) (n + 6) f (by unfold kL; omega) (by unfold kL; omega) W hw.1 hw.2).mono fun e w' ⟨g', c, h1, h2, h3⟩ => by
    obtain ⟨cur, hr, h4, h5, h6, h7, h8⟩ := own_cap h2
    refine ⟨g', c, cur, h1, hr, h4, h5, by omega, fun i hi => ?_, h8, h3⟩
    have e1 : (cur.toList.take ((n + 7) * 4))[i]? = cur[i]? := by rw [List.getElem?_take_of_lt (by omega)]; simp
    rw [← e1, h7]
    exact cells32_at _ _ _ (upTo_at f (kL n) i (by unfold kL; omega))
theorem fac4_cells {W : World} {g : Nat} {f : Nat → UInt8} (h : Fac4 W g f) : W.cell? ⟨g, 0, none⟩ = some (.int .u8 ((f 0).toNat : Int)) ∧ W.cell? ⟨g, 1, none⟩ = some (.int .u8 ((f 1).toNat : Int)) ∧ W.cell? ⟨g, 2, none⟩ = some (.int .u8 ((f 2).toNat : Int)) ∧ W.cell? ⟨g, 3, none⟩ = some (.int .u8 ((f 3).toNat : Int)) := h.2
end Go.Proofs.YtkbnnlhilnnpeaaGreatDoor
