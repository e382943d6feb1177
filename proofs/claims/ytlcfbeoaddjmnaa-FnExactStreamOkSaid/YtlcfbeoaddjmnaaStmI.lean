/-
  Streams: impl.StreamOk and spec.StreamOk; toStream, szStream and eqStream of the exact laws.
-/
import Derived.Test.YtlcfbeoaddjmnaaRefI
set_option linter.unusedVariables false
set_option linter.unusedSimpArgs false
namespace Go.Proofs.Ytlcfbeoaddjmnaa
open Go.RowKit

/-- a stream's value. -/
def stmV (n : Int) (key blk left : ByteArray) : Value := .agg #[.int .i64 n, .string key, .string blk, .string left]
/-- a right stream. -/
def stmO (n : Int) (key blk left : ByteArray) : Prop := (0 ≤ n ∧ n ≤ 2) ∧ kOk key ∧ blk.size = 16 ∧ left.size ≤ 15
instance (n : Int) (key blk left : ByteArray) : Decidable (stmO n key blk left) := by unfold stmO; infer_instance

set_option maxRecDepth 100000 in
theorem StreamOk_impl (n : Int) (key blk left : ByteArray) (w : World) :
    Calls Try.prog 7 #[stmV n key blk left] w fun x w' => x = .returned (.bool (decide (stmO n key blk left))) ∧ Below w.heap.size w w' := by
  unfold stmV
  by_cases he : 0 ≤ n ∧ n ≤ 2
  · have HE := fun W => Lib.hid (eng_yes n he W)
    by_cases hk : kOk key
    · have HK := fun W => Lib.hid (keyI_yes key hk W)
      by_cases hb : blk.size = 16
      · by_cases hl : left.size ≤ 15
        · rw [decide_eq_true (show stmO n key blk left from ⟨he, hk, hb, hl⟩)]
          clear he hk
          go_enter Try.func7, Try.ntmps7
          go_wp2_with fail
          refine (HE _).out.mono ?_; rintro e w' ⟨rfl, rfl⟩
          go_wp2_with fail
          refine (HK _).out.mono ?_; rintro e w' ⟨rfl, rfl⟩
          go_wp2
          go_ret
          exact ⟨by first | rfl | (simp; done) | (simp; omega), (Below.refl _ _).alloc (Nat.le_refl _) _⟩
        · rw [decide_eq_false (show ¬ stmO n key blk left from fun h => hl h.2.2.2)]
          clear he hk
          go_enter Try.func7, Try.ntmps7
          go_wp2_with fail
          refine (HE _).out.mono ?_; rintro e w' ⟨rfl, rfl⟩
          go_wp2_with fail
          refine (HK _).out.mono ?_; rintro e w' ⟨rfl, rfl⟩
          go_wp2
          go_ret
          exact ⟨by first | rfl | (simp; done) | (simp; omega), (Below.refl _ _).alloc (Nat.le_refl _) _⟩
      · rw [decide_eq_false (show ¬ stmO n key blk left from fun h => hb h.2.2.1)]
        have hb2 : ¬ (blk.size : Int) = 16 := by omega
        clear he hk hb
        go_enter Try.func7, Try.ntmps7
        go_wp2_with fail
        refine (HE _).out.mono ?_; rintro e w' ⟨rfl, rfl⟩
        go_wp2_with fail
        refine (HK _).out.mono ?_; rintro e w' ⟨rfl, rfl⟩
        go_wp2
        go_ret
        exact ⟨rfl, (Below.refl _ _).alloc (Nat.le_refl _) _⟩
    · have HK := fun W => Lib.hid (keyI_no key hk W)
      rw [decide_eq_false (show ¬ stmO n key blk left from fun h => hk h.2.1)]
      clear he hk
      go_enter Try.func7, Try.ntmps7
      go_wp2_with fail
      refine (HE _).out.mono ?_; rintro e w' ⟨rfl, rfl⟩
      go_wp2_with fail
      refine (HK _).out.mono ?_; rintro e w' ⟨rfl, rfl⟩
      go_wp2
      go_ret
      exact ⟨rfl, (Below.refl _ _).alloc (Nat.le_refl _) _⟩
  · have HE := fun W => Lib.hid (eng_no n he W)
    rw [decide_eq_false (show ¬ stmO n key blk left from fun h => he h.1)]
    clear he
    go_enter Try.func7, Try.ntmps7
    go_wp2_with fail
    refine (HE _).out.mono ?_; rintro e w' ⟨rfl, rfl⟩
    go_wp2
    go_ret
    exact ⟨rfl, (Below.refl _ _).alloc (Nat.le_refl _) _⟩
set_option maxRecDepth 100000 in
theorem StreamOk_spec (n : Int) (key blk left : ByteArray) (w : World) :
    Calls Try.prog 5 #[stmV n key blk left] w fun x w' => x = .returned (.bool (decide (stmO n key blk left))) ∧ Below w.heap.size w w' := by
  unfold stmV
  by_cases he : 0 ≤ n ∧ n ≤ 2
  · have HE := fun W => Lib.hid (inq_yes n 0 2 he.1 he.2 W)
    by_cases hk : kOk key
    · have HK := fun W => Lib.hid (ok_yes_spec key hk W)
      by_cases hb : blk.size = 16
      · by_cases hl : left.size ≤ 15
        · rw [decide_eq_true (show stmO n key blk left from ⟨he, hk, hb, hl⟩)]
          clear he hk
          go_enter Try.func5, Try.ntmps5
          go_wp2_with fail
          refine (HE _).out.mono ?_; rintro e w' ⟨rfl, rfl⟩
          go_wp2_with fail
          refine (HK _).out.mono ?_; rintro e w' ⟨rfl, rfl⟩
          go_wp2
          go_ret
          exact ⟨by first | rfl | (simp; done) | (simp; omega), (Below.refl _ _).alloc (Nat.le_refl _) _⟩
        · rw [decide_eq_false (show ¬ stmO n key blk left from fun h => hl h.2.2.2)]
          clear he hk
          go_enter Try.func5, Try.ntmps5
          go_wp2_with fail
          refine (HE _).out.mono ?_; rintro e w' ⟨rfl, rfl⟩
          go_wp2_with fail
          refine (HK _).out.mono ?_; rintro e w' ⟨rfl, rfl⟩
          go_wp2
          go_ret
          exact ⟨by first | rfl | (simp; done) | (simp; omega), (Below.refl _ _).alloc (Nat.le_refl _) _⟩
      · rw [decide_eq_false (show ¬ stmO n key blk left from fun h => hb h.2.2.1)]
        have hb2 : ¬ (blk.size : Int) = 16 := by omega
        clear he hk hb
        go_enter Try.func5, Try.ntmps5
        go_wp2_with fail
        refine (HE _).out.mono ?_; rintro e w' ⟨rfl, rfl⟩
        go_wp2_with fail
        refine (HK _).out.mono ?_; rintro e w' ⟨rfl, rfl⟩
        go_wp2
        go_ret
        exact ⟨rfl, (Below.refl _ _).alloc (Nat.le_refl _) _⟩
    · have HK := fun W => Lib.hid (ok_no_spec key hk W)
      rw [decide_eq_false (show ¬ stmO n key blk left from fun h => hk h.2.1)]
      clear he hk
      go_enter Try.func5, Try.ntmps5
      go_wp2_with fail
      refine (HE _).out.mono ?_; rintro e w' ⟨rfl, rfl⟩
      go_wp2_with fail
      refine (HK _).out.mono ?_; rintro e w' ⟨rfl, rfl⟩
      go_wp2
      go_ret
      exact ⟨rfl, (Below.refl _ _).alloc (Nat.le_refl _) _⟩
  · have HE := fun W => Lib.hid (inq_no n 0 2 (by omega) W)
    rw [decide_eq_false (show ¬ stmO n key blk left from fun h => he h.1)]
    clear he
    go_enter Try.func5, Try.ntmps5
    go_wp2_with fail
    refine (HE _).out.mono ?_; rintro e w' ⟨rfl, rfl⟩
    go_wp2
    go_ret
    exact ⟨rfl, (Below.refl _ _).alloc (Nat.le_refl _) _⟩

/-! ### the exact laws' own -/
theorem alloc_at1 (w : World) (a b c : Obj) : (((w.alloc a).alloc b).alloc c).heap[w.heap.size + 1]? = some b := by
  rw [Below.heap_alloc _ _ _ (by simp), ← show (w.alloc a).heap.size = w.heap.size + 1 by simp]; exact heap_alloc_new _ _
/-- a block that is known stays where what is called touches nothing that was there. -/
def AtS (w : World) (g : Nat) (t : TypeId) (cs : Array Value) : Prop := w.heap[g]? = some (.cells cs t (0, 0))
theorem AtS.lt {w : World} {g : Nat} {t : TypeId} {cs : Array Value} (h : AtS w g t cs) : g < w.heap.size := by
  rcases Nat.lt_or_ge g w.heap.size with h1 | h1
  · exact h1
  · rw [AtS, Array.getElem?_eq_none h1] at h; cases h
theorem AtS.up {w w' : World} {g : Nat} {t : TypeId} {cs : Array Value} (h : AtS w g t cs) (hb : Below w.heap.size w w') : AtS w' g t cs := (hb.block g h.lt).trans h
theorem AtS.new (w : World) (t : TypeId) (cs : Array Value) : AtS (w.alloc (.cells cs t)) w.heap.size t cs := heap_alloc_new _ _
set_option maxRecDepth 100000 in
theorem toStream_laws (n : Int) (key blk left : ByteArray) (w : World) :
    Calls Try.prog 6 #[stmV n key blk left] w fun x w' => x = .returned (stmV n key blk left) ∧ Below w.heap.size w w' := by
  unfold stmV
  go_enter Try.func6, Try.ntmps6
  go_wp2
  refine bodyPost_ret (v := .agg #[.int .i64 n, .string key, .string blk, .string left]) ?_ rfl ⟨rfl, (((Below.refl _ _).alloc (Nat.le_refl _) _).alloc (by simp) _).alloc (by simp; omega) _⟩
  exact results_cell_row rfl _ _ (w.heap.size + 1) 26 _ (0, 0) _ rfl (alloc_at1 w _ _ _) Try.underlying26 rfl (by kernel_rfl)
/-- szStream tells no number below 0 but -1; what it leaves bounds the texts. -/
theorem szStream_yes (n : Int) (key blk left : ByteArray) (w : World) (h : key.size + blk.size + left.size ≤ 1048576) :
    Calls Try.prog 4 #[stmV n key blk left, .int .i64 1048576] w fun x w' => (∃ r : Int, 0 ≤ r ∧ x = .returned (.int .i64 r)) ∧ Below w.heap.size w w' := by
  unfold stmV
  have h1 : (0 : Int) ≤ 1048576 - key.size := by omega
  have h2 : (0 : Int) ≤ 1048576 - key.size - blk.size := by omega
  have h3 : (0 : Int) ≤ 1048576 - key.size - blk.size - left.size := by omega
  go_enter Try.func4, Try.ntmps4
  go_wp2
  go_ret
  exact ⟨⟨_, h3, rfl⟩, (Below.refl _ _).alloc (Nat.le_refl _) _⟩
theorem szStream_no (n : Int) (key blk left : ByteArray) (w : World) (h : ¬ key.size + blk.size + left.size ≤ 1048576)
    (b1 : key.size ≤ maxLen) (b2 : blk.size ≤ maxLen) (b3 : left.size ≤ maxLen) :
    Calls Try.prog 4 #[stmV n key blk left, .int .i64 1048576] w fun x w' => x = .returned (.int .i64 (-1)) ∧ Below w.heap.size w w' := by
  unfold stmV
  unfold maxLen at b1 b2 b3
  by_cases h1 : (0 : Int) ≤ 1048576 - key.size
  · by_cases h2 : (0 : Int) ≤ 1048576 - key.size - blk.size
    · have h3 : ¬ (0 : Int) ≤ 1048576 - key.size - blk.size - left.size := by omega
      go_enter Try.func4, Try.ntmps4
      go_wp2
      go_ret
      exact ⟨rfl, (Below.refl _ _).alloc (Nat.le_refl _) _⟩
    · go_enter Try.func4, Try.ntmps4
      go_wp2
      go_ret
      exact ⟨rfl, (Below.refl _ _).alloc (Nat.le_refl _) _⟩
  · go_enter Try.func4, Try.ntmps4
    go_wp2
    go_ret
    exact ⟨rfl, (Below.refl _ _).alloc (Nat.le_refl _) _⟩
set_option maxRecDepth 100000 in
set_option maxHeartbeats 1600000 in
theorem walk_FnExactStreamOk (n : Int) (key blk left : ByteArray) (b0 : (Lit.int .i64 n).wf = true) (b1 : key.size ≤ maxLen) (b2 : blk.size ≤ maxLen) (b3 : left.size ≤ maxLen) (w : World) :
    Calls Try.prog 3 #[stmV n key blk left] w fun e w' => e = .returned (.bool true) ∧ Below w.heap.size w w' := by
  have hinf : (Try.prog.info? 23).map (·.size) = some (#[Value.int .i64 n, Value.string key, Value.string blk, Value.string left] : Array Value).size := by kernel_rfl
  have M0 := Lib.hid (AtS.new w 23 #[.int .i64 n, .string key, .string blk, .string left])
  have B0 := Lib.hid ((Below.refl w.heap.size w).alloc (Nat.le_refl _) (.cells #[.int .i64 n, .string key, .string blk, .string left] 23))
  by_cases hs : key.size + blk.size + left.size ≤ 1048576
  · have HZ := fun W => Lib.hid (szStream_yes n key blk left W hs)
    have HT := fun W => Lib.hid (toStream_laws n key blk left W)
    have HS := fun W => Lib.hid (StreamOk_spec n key blk left W)
    have HI := fun W => Lib.hid (StreamOk_impl n key blk left W)
    generalize decide (stmO n key blk left) = b at *
    unfold stmV at *
    clear hs b0 b1 b2 b3
    go_enter Try.func3, Try.ntmps3
    go_wp2_with fail
    refine (HZ _).out.mono ?_; rintro e w1 ⟨⟨r, hr, rfl⟩, hb⟩
    have M1 := Lib.hid (M0.out.up hb)
    have B1 := Lib.hid (B0.out.trans (hb.mono B0.out.size))
    clear M0 B0 hb
    go_wp2_with (refine wpList_load_row rfl 23 _ rfl w.heap.size rfl 23 _ (0, 0) _ M1.out Try.underlying23 rfl hinf ?_)
    refine (HT _).out.mono ?_; rintro e w2 ⟨rfl, hb⟩
    have M2 := Lib.hid (M1.out.up hb)
    have B2 := Lib.hid (B1.out.trans (hb.mono B1.out.size))
    clear M1 B1 hb
    go_wp2_with fail
    refine (HS _).out.mono ?_; rintro e w3 ⟨rfl, hb⟩
    have M3 := Lib.hid (M2.out.up hb)
    have B3 := Lib.hid (B2.out.trans (hb.mono B2.out.size))
    clear M2 B2 hb
    go_wp2_with (refine wpList_load_row rfl 23 _ rfl w.heap.size rfl 23 _ (0, 0) _ M3.out Try.underlying23 rfl hinf ?_)
    refine (HT _).out.mono ?_; rintro e w4 ⟨rfl, hb⟩
    have B4 := Lib.hid (B3.out.trans (hb.mono B3.out.size))
    clear M3 B3 hb
    go_wp2_with fail
    refine (HI _).out.mono ?_; rintro e w5 ⟨rfl, hb⟩
    have B5 := Lib.hid (B4.out.trans (hb.mono B4.out.size))
    clear B4 hb
    go_wp2
    go_ret
    exact ⟨rfl, B5.out⟩
  · have HZ := fun W => Lib.hid (szStream_no n key blk left W hs b1 b2 b3)
    unfold stmV at *
    clear hs b0 b1 b2 b3
    go_enter Try.func3, Try.ntmps3
    go_wp2_with fail
    refine (HZ _).out.mono ?_; rintro e w1 ⟨rfl, hb⟩
    have B1 := Lib.hid (B0.out.trans (hb.mono B0.out.size))
    clear B0 hb
    go_wp2
    go_ret
    exact ⟨rfl, B1.out⟩
end Go.Proofs.Ytlcfbeoaddjmnaa
