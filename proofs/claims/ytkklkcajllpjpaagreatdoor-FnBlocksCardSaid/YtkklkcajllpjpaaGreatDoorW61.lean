/-
  The walk of laws.FnBlocks: it returns true at every code.
-/
import Derived.Test.YtkklkcajllpjpaaGreatDoorDr10
import Derived.Test.YtkklkcajllpjpaaGreatDoorTabLaid
set_option linter.unusedVariables false
set_option linter.unusedSimpArgs false
namespace Go.Proofs.YtkklkcajllpjpaaGreatDoor
open Go Go.RowKit
attribute [local go_sem ↓] Go.wp_at_zero Go.wp_at_succ

theorem facts_FnBlocks {W : World} (h : laidMetH Tryz.prog Rows.fnBlocksRow.laid W) : Fac4 W 0 mxF ∧ Fac4 W 1 unF := by
  have h' : laidMet Tryz.prog [("loop.example/g00835/impl.unmixFactors", Lib.tabData .u8 [14, 9, 13, 11]), ("loop.example/g00835/impl.mixFactors", Lib.tabData .u8 [2, 1, 1, 3])] W := h
  exact ⟨Mx8_laid (laid_tail8 h'), Un8_laid h'⟩
set_option maxRecDepth 100000 in
set_option maxHeartbeats 12800000 in
theorem walk_FnBlocks (a0 : Option Addr) (len0 cap0 : Nat) (z0 : List Int) (w : World) (w0 : IsRow .u8 w a0 len0 cap0 z0) (hf : Fac4 w 0 mxF ∧ Fac4 w 1 unF) :
    Calls Tryz.prog 5 #[.slice a0 len0 cap0] w fun e w' => e = .returned (.bool true) ∧ Below w.heap.size w w' := by
  obtain ⟨hcode, hlen⟩ := w0.code
  clear w0
  by_cases hl : len0 ≤ 1048576
  · have H := Lib.hid hcode
    have HM : Hid (∀ W, Below w.heap.size w W → Fac4 W 0 mxF) := Lib.hid (fun W hW => hf.1.below hW hf.1.1)
    have HU : Hid (∀ W, Below w.heap.size w W → Fac4 W 1 unF) := Lib.hid (fun W hW => hf.2.below hW hf.2.1)
    clear hcode hf
    go_enter Tryz.func5, Tryz.ntmps5
    go_wp2_with fail
    refine (big_small _ _ _ _ hl).mono ?_; rintro e w' ⟨rfl, rfl⟩
    go_wp2_with fail
    refine (draw_LockBlocks _ _ _ _ H.out hl).mono ?_; rintro e w1 ⟨n, k, s, rfl, hks, hss, hb1⟩
    have HC := Lib.hid ((H.out.below hb1 (Nat.le_refl _)).up hb1.size)
    go_wp2_with fail
    refine (draw_UnlockBlocks _ _ _ _ HC.out hl).mono ?_; rintro e w3 ⟨n2, k2, t, rfl, hks2, hts, hb3⟩
    have hbb := hb1.trans (hb3.mono hb1.size)
    clear hb1 hb3 HC
    have c1 := fun W hW => Lib.hid (LockBlocks_impl n k s (by omega) W (HM.out W hW))
    have c2 := fun W hW => Lib.hid (UnlockBlocks_impl n2 k2 t (by omega) W (HM.out W hW) (HU.out W hW))
    have c3 := fun W => Lib.hid (LockBlocks_spec n k s (by omega) W)
    have c4 := fun W => Lib.hid (UnlockBlocks_spec n2 k2 t (by omega) W)
    have c5 := fun W => Lib.hid (KeyOk_spec k W)
    have c7 := fun (i : Int) W hW => Lib.hid (LockBlocks_impl i k s (by omega) W (HM.out W hW))
    generalize blT true n2 k2 t = y at *
    generalize coT n2 k2 t = two at *
    have HSS := Lib.hid hss
    have hr := rem16 s
    clear hks hks2 hts hss
    obtain ⟨x, hxx⟩ : ∃ x, blT false n k s = x := ⟨_, rfl⟩
    obtain ⟨one, hoo⟩ : ∃ one, coT n k s = one := ⟨_, rfl⟩
    rw [hxx, hoo] at c1 c3
    have HXX := Lib.hid hxx
    have HOO := Lib.hid hoo
    clear hxx hoo
    go_wp2_with fail
    refine (c1 _ hbb).out.mono ?_; rintro e wq ⟨rfl, hq⟩
    replace hbb := hbb.trans (hq.mono hbb.size)
    clear hq
    go_wp2_with fail
    refine (c2 _ hbb).out.mono ?_; rintro e wq ⟨rfl, hq⟩
    replace hbb := hbb.trans (hq.mono hbb.size)
    clear hq
    go_wp2_with fail
    refine (c3 _).out.mono ?_; rintro e wq ⟨rfl, hq⟩
    replace hbb := hbb.trans (hq.mono hbb.size)
    clear hq
    go_wp2_with fail
    refine (c4 _).out.mono ?_; rintro e wq ⟨rfl, hq⟩
    have HB0 := Lib.hid (hbb.trans (hq.mono hbb.size))
    clear hq c1 c2 c3 c4 hbb
    by_cases hn : 0 ≤ n ∧ n ≤ 2
    · by_cases hk : kOk k
      · rw [decide_eq_true hk] at c5
        by_cases h16 : s.size % 16 = 0
        · have hr2 : ((s.size % 16 : Nat) : Int) = 0 := by omega
          rw [hr2] at hr
          have hco : ∀ i : Int, 0 ≤ i ∧ i ≤ 2 → coT i k s = 0 := fun i hi => coT_ok i k s hi hk h16
          have hbl : ∀ i : Int, 0 ≤ i ∧ i ≤ 2 → blT false i k s = slT false k s := fun i hi => blT_ok false i k s (hco i hi)
          have hone : coT n k s = 0 := hco n hn
          have hx : blT false n k s = (slT false k s) := hbl n hn
          have hz : (slT false k s).size = s.size := slT_size false k s hk h16
          have c8 : ∀ i : Int, 0 ≤ i ∧ i ≤ 2 → ∀ W, Below w.heap.size w W → Hid (Calls Tryz.prog 29 #[.int .i64 i, .string k, .string (slT false k s)] W fun e w' => e = .returned (.tuple #[.string s, .int .i64 0]) ∧ Below W.heap.size W w') := fun i hi W hW => Lib.hid (by
            have h := UnlockBlocks_impl i k (slT false k s) (by rw [hz]; have := HSS.out; omega) W (HM.out W hW) (HU.out W hW)
            have e0 : coT i k (slT false k s) = 0 := coT_ok i k _ hi hk (by rw [hz]; exact h16)
            rw [blT_ok true i k _ e0, e0] at h
            have e1 : slT true k (slT false k s) = s := slT_inv false k s hk h16
            rw [e1] at h; exact h)
          have C7 : ∀ i : Int, 0 ≤ i ∧ i ≤ 2 → ∀ W, Below w.heap.size w W → Hid (Calls Tryz.prog 28 #[.int .i64 i, .string k, .string s] W fun e w' => e = .returned (.tuple #[.string (slT false k s), .int .i64 0]) ∧ Below W.heap.size W w') := fun i hi W hW => by
            have h := c7 i W hW
            rw [hbl i hi, hco i hi] at h; exact h
          have e1 : one = 0 := HOO.out.symm.trans hone
          have e2 : x = (slT false k s) := HXX.out.symm.trans hx
          subst e1
          subst e2
          clear hco hbl hone hx c7 HOO HXX
          generalize slT false k s = C at *
          go_wp2
          go_loopw [17] (fun i wr => ∃ j : Nat, j ≤ 3 ∧ i = .int .i64 (j : Int) ∧ Below w.heap.size w wr) (fun i _ => 3 - (intOf i).toNat)
          case atStart => exact ⟨0, by omega, rfl, HB0.out⟩
          case round =>
            obtain ⟨j, hj, rfl, hbel⟩ := hrel
            have HB := Lib.hid hbel
            clear hbel HB0
            by_cases hlt : j < 3
            · have hj1 : (j : Int) < 3 := by omega
              have hj0 : (0 : Int) ≤ (j : Int) := by omega
              have q1 : IntKind.i64.wrap ((j : Int) + 1) = (j : Int) + 1 := IntWalk.i64_in _ (by omega)
              have C7J := C7 (j : Int) (by omega)
              have C8J := c8 (j : Int) (by omega)
              clear C7 c8
              skip
              go_wp2_with fail
              refine (C7J _ HB.out).out.mono ?_; rintro e v1 ⟨rfl, hq⟩
              have HB1 := Lib.hid (HB.out.trans (hq.mono HB.out.size))
              clear hq C7J HB
              go_wp2_with fail
              refine (C8J _ HB1.out).out.mono ?_; rintro e v2 ⟨rfl, hq⟩
              have HB2 := Lib.hid (HB1.out.trans (hq.mono HB1.out.size))
              clear hq C8J HB1
              go_wp2
              go_roundw
              case rel => exact ⟨j + 1, by omega, by go_num, HB2.out⟩
              case measure => simp [intOf]; omega
            · obtain rfl : j = 3 := by omega
              clear C7 c8
              have hn0 : 0 ≤ n := hn.1
              have hn3 : n < 3 := by omega
              go_wp2_with fail
              refine (c5 _).out.mono ?_; rintro e wq ⟨rfl, rfl⟩
              go_wp2
              go_ret
              exact ⟨rfl, HB.out⟩
        · have hr2 : ¬ ((s.size % 16 : Nat) : Int) = 0 := by omega
          obtain ⟨r, hrr⟩ : ∃ r, ((s.size % 16 : Nat) : Int) = r := ⟨_, rfl⟩
          rw [hrr] at hr hr2
          have hr3 : (r == 0) = false := by simp [hr2]
          have hco : ∀ i : Int, 0 ≤ i ∧ i ≤ 2 → coT i k s = 5 := fun i hi => coT_len i k s hi hk h16
          have hbl : ∀ i : Int, 0 ≤ i ∧ i ≤ 2 → blT false i k s = ⟨#[]⟩ := fun i hi => blT_no false i k s (by rw [hco i hi]; omega)
          have hone : coT n k s = 5 := hco n hn
          have hx : blT false n k s = ⟨#[]⟩ := hbl n hn
          have c8 : ∀ i : Int, 0 ≤ i ∧ i ≤ 2 → ∀ W, Below w.heap.size w W → Hid (Calls Tryz.prog 29 #[.int .i64 i, .string k, .string ⟨#[]⟩] W fun e w' => e = .returned (.tuple #[.string (blT true i k ⟨#[]⟩), .int .i64 (coT i k ⟨#[]⟩)]) ∧ Below W.heap.size W w') := fun i hi W hW => Lib.hid (UnlockBlocks_impl i k ⟨#[]⟩ (by show (0 : Nat) ≤ _; omega) W (HM.out W hW) (HU.out W hW))
          have C7 : ∀ i : Int, 0 ≤ i ∧ i ≤ 2 → ∀ W, Below w.heap.size w W → Hid (Calls Tryz.prog 28 #[.int .i64 i, .string k, .string s] W fun e w' => e = .returned (.tuple #[.string ⟨#[]⟩, .int .i64 5]) ∧ Below W.heap.size W w') := fun i hi W hW => by
            have h := c7 i W hW
            rw [hbl i hi, hco i hi] at h; exact h
          have e1 : one = 5 := HOO.out.symm.trans hone
          have e2 : x = ⟨#[]⟩ := HXX.out.symm.trans hx
          subst e1
          subst e2
          clear hco hbl hone hx c7 HOO HXX
          skip
          go_wp2
          go_loopw [17] (fun i wr => ∃ j : Nat, j ≤ 3 ∧ i = .int .i64 (j : Int) ∧ Below w.heap.size w wr) (fun i _ => 3 - (intOf i).toNat)
          case atStart => exact ⟨0, by omega, rfl, HB0.out⟩
          case round =>
            obtain ⟨j, hj, rfl, hbel⟩ := hrel
            have HB := Lib.hid hbel
            clear hbel HB0
            by_cases hlt : j < 3
            · have hj1 : (j : Int) < 3 := by omega
              have hj0 : (0 : Int) ≤ (j : Int) := by omega
              have q1 : IntKind.i64.wrap ((j : Int) + 1) = (j : Int) + 1 := IntWalk.i64_in _ (by omega)
              have C7J := C7 (j : Int) (by omega)
              have C8J := c8 (j : Int) (by omega)
              clear C7 c8
              generalize blT true (j : Int) k ⟨#[]⟩ = D8 at *
              generalize coT (j : Int) k ⟨#[]⟩ = F8 at *
              go_wp2_with fail
              refine (C7J _ HB.out).out.mono ?_; rintro e v1 ⟨rfl, hq⟩
              have HB1 := Lib.hid (HB.out.trans (hq.mono HB.out.size))
              clear hq C7J HB
              go_wp2_with fail
              refine (C8J _ HB1.out).out.mono ?_; rintro e v2 ⟨rfl, hq⟩
              have HB2 := Lib.hid (HB1.out.trans (hq.mono HB1.out.size))
              clear hq C8J HB1
              go_wp2
              go_roundw
              case rel => exact ⟨j + 1, by omega, by go_num, HB2.out⟩
              case measure => simp [intOf]; omega
            · obtain rfl : j = 3 := by omega
              clear C7 c8
              have hn0 : 0 ≤ n := hn.1
              have hn3 : n < 3 := by omega
              go_wp2_with fail
              refine (c5 _).out.mono ?_; rintro e wq ⟨rfl, rfl⟩
              go_wp2
              go_ret
              exact ⟨rfl, HB.out⟩
      · rw [decide_eq_false hk] at c5
        have hco : ∀ i : Int, 0 ≤ i ∧ i ≤ 2 → coT i k s = 3 := fun i hi => coT_key i k s hi hk
        have hbl : ∀ i : Int, 0 ≤ i ∧ i ≤ 2 → blT false i k s = ⟨#[]⟩ := fun i hi => blT_no false i k s (by rw [hco i hi]; omega)
        have hone : coT n k s = 3 := hco n hn
        have hx : blT false n k s = ⟨#[]⟩ := hbl n hn
        have c8 : ∀ i : Int, 0 ≤ i ∧ i ≤ 2 → ∀ W, Below w.heap.size w W → Hid (Calls Tryz.prog 29 #[.int .i64 i, .string k, .string ⟨#[]⟩] W fun e w' => e = .returned (.tuple #[.string (blT true i k ⟨#[]⟩), .int .i64 (coT i k ⟨#[]⟩)]) ∧ Below W.heap.size W w') := fun i hi W hW => Lib.hid (UnlockBlocks_impl i k ⟨#[]⟩ (by show (0 : Nat) ≤ _; omega) W (HM.out W hW) (HU.out W hW))
        have C7 : ∀ i : Int, 0 ≤ i ∧ i ≤ 2 → ∀ W, Below w.heap.size w W → Hid (Calls Tryz.prog 28 #[.int .i64 i, .string k, .string s] W fun e w' => e = .returned (.tuple #[.string ⟨#[]⟩, .int .i64 3]) ∧ Below W.heap.size W w') := fun i hi W hW => by
          have h := c7 i W hW
          rw [hbl i hi, hco i hi] at h; exact h
        have e1 : one = 3 := HOO.out.symm.trans hone
        have e2 : x = ⟨#[]⟩ := HXX.out.symm.trans hx
        subst e1
        subst e2
        clear hco hbl hone hx c7 HOO HXX
        skip
        go_wp2
        go_loopw [17] (fun i wr => ∃ j : Nat, j ≤ 3 ∧ i = .int .i64 (j : Int) ∧ Below w.heap.size w wr) (fun i _ => 3 - (intOf i).toNat)
        case atStart => exact ⟨0, by omega, rfl, HB0.out⟩
        case round =>
          obtain ⟨j, hj, rfl, hbel⟩ := hrel
          have HB := Lib.hid hbel
          clear hbel HB0
          by_cases hlt : j < 3
          · have hj1 : (j : Int) < 3 := by omega
            have hj0 : (0 : Int) ≤ (j : Int) := by omega
            have q1 : IntKind.i64.wrap ((j : Int) + 1) = (j : Int) + 1 := IntWalk.i64_in _ (by omega)
            have C7J := C7 (j : Int) (by omega)
            have C8J := c8 (j : Int) (by omega)
            clear C7 c8
            generalize blT true (j : Int) k ⟨#[]⟩ = D8 at *
            generalize coT (j : Int) k ⟨#[]⟩ = F8 at *
            go_wp2_with fail
            refine (C7J _ HB.out).out.mono ?_; rintro e v1 ⟨rfl, hq⟩
            have HB1 := Lib.hid (HB.out.trans (hq.mono HB.out.size))
            clear hq C7J HB
            go_wp2_with fail
            refine (C8J _ HB1.out).out.mono ?_; rintro e v2 ⟨rfl, hq⟩
            have HB2 := Lib.hid (HB1.out.trans (hq.mono HB1.out.size))
            clear hq C8J HB1
            go_wp2
            go_roundw
            case rel => exact ⟨j + 1, by omega, by go_num, HB2.out⟩
            case measure => simp [intOf]; omega
          · obtain rfl : j = 3 := by omega
            clear C7 c8
            have hn0 : 0 ≤ n := hn.1
            have hn3 : n < 3 := by omega
            go_wp2_with fail
            refine (c5 _).out.mono ?_; rintro e wq ⟨rfl, rfl⟩
            go_wp2
            go_ret
            exact ⟨rfl, HB.out⟩
    · by_cases hk : kOk k
      · rw [decide_eq_true hk] at c5
        by_cases h16 : s.size % 16 = 0
        · have hr2 : ((s.size % 16 : Nat) : Int) = 0 := by omega
          rw [hr2] at hr
          have hco : ∀ i : Int, 0 ≤ i ∧ i ≤ 2 → coT i k s = 0 := fun i hi => coT_ok i k s hi hk h16
          have hbl : ∀ i : Int, 0 ≤ i ∧ i ≤ 2 → blT false i k s = slT false k s := fun i hi => blT_ok false i k s (hco i hi)
          have hone : coT n k s = 1 := coT_eng n k s hn
          have hx : blT false n k s = ⟨#[]⟩ := blT_no false n k s (by rw [hone]; omega)
          have hz : (slT false k s).size = s.size := slT_size false k s hk h16
          have c8 : ∀ i : Int, 0 ≤ i ∧ i ≤ 2 → ∀ W, Below w.heap.size w W → Hid (Calls Tryz.prog 29 #[.int .i64 i, .string k, .string (slT false k s)] W fun e w' => e = .returned (.tuple #[.string s, .int .i64 0]) ∧ Below W.heap.size W w') := fun i hi W hW => Lib.hid (by
            have h := UnlockBlocks_impl i k (slT false k s) (by rw [hz]; have := HSS.out; omega) W (HM.out W hW) (HU.out W hW)
            have e0 : coT i k (slT false k s) = 0 := coT_ok i k _ hi hk (by rw [hz]; exact h16)
            rw [blT_ok true i k _ e0, e0] at h
            have e1 : slT true k (slT false k s) = s := slT_inv false k s hk h16
            rw [e1] at h; exact h)
          have C7 : ∀ i : Int, 0 ≤ i ∧ i ≤ 2 → ∀ W, Below w.heap.size w W → Hid (Calls Tryz.prog 28 #[.int .i64 i, .string k, .string s] W fun e w' => e = .returned (.tuple #[.string (slT false k s), .int .i64 0]) ∧ Below W.heap.size W w') := fun i hi W hW => by
            have h := c7 i W hW
            rw [hbl i hi, hco i hi] at h; exact h
          have e1 : one = 1 := HOO.out.symm.trans hone
          have e2 : x = ⟨#[]⟩ := HXX.out.symm.trans hx
          subst e1
          subst e2
          clear hco hbl hone hx c7 HOO HXX
          generalize slT false k s = C at *
          go_wp2
          go_loopw [17] (fun i wr => ∃ j : Nat, j ≤ 3 ∧ i = .int .i64 (j : Int) ∧ Below w.heap.size w wr) (fun i _ => 3 - (intOf i).toNat)
          case atStart => exact ⟨0, by omega, rfl, HB0.out⟩
          case round =>
            obtain ⟨j, hj, rfl, hbel⟩ := hrel
            have HB := Lib.hid hbel
            clear hbel HB0
            by_cases hlt : j < 3
            · have hj1 : (j : Int) < 3 := by omega
              have hj0 : (0 : Int) ≤ (j : Int) := by omega
              have q1 : IntKind.i64.wrap ((j : Int) + 1) = (j : Int) + 1 := IntWalk.i64_in _ (by omega)
              have C7J := C7 (j : Int) (by omega)
              have C8J := c8 (j : Int) (by omega)
              clear C7 c8
              skip
              go_wp2_with fail
              refine (C7J _ HB.out).out.mono ?_; rintro e v1 ⟨rfl, hq⟩
              have HB1 := Lib.hid (HB.out.trans (hq.mono HB.out.size))
              clear hq C7J HB
              go_wp2_with fail
              refine (C8J _ HB1.out).out.mono ?_; rintro e v2 ⟨rfl, hq⟩
              have HB2 := Lib.hid (HB1.out.trans (hq.mono HB1.out.size))
              clear hq C8J HB1
              go_wp2
              go_roundw
              case rel => exact ⟨j + 1, by omega, by go_num, HB2.out⟩
              case measure => simp [intOf]; omega
            · obtain rfl : j = 3 := by omega
              clear C7 c8
              clear c5
              by_cases hn0 : 0 ≤ n
              · have hn3 : ¬ n < 3 := by omega
                go_wp2
                go_ret
                exact ⟨rfl, HB.out⟩
              · go_wp2
                go_ret
                exact ⟨rfl, HB.out⟩
        · have hr2 : ¬ ((s.size % 16 : Nat) : Int) = 0 := by omega
          obtain ⟨r, hrr⟩ : ∃ r, ((s.size % 16 : Nat) : Int) = r := ⟨_, rfl⟩
          rw [hrr] at hr hr2
          have hr3 : (r == 0) = false := by simp [hr2]
          have hco : ∀ i : Int, 0 ≤ i ∧ i ≤ 2 → coT i k s = 5 := fun i hi => coT_len i k s hi hk h16
          have hbl : ∀ i : Int, 0 ≤ i ∧ i ≤ 2 → blT false i k s = ⟨#[]⟩ := fun i hi => blT_no false i k s (by rw [hco i hi]; omega)
          have hone : coT n k s = 1 := coT_eng n k s hn
          have hx : blT false n k s = ⟨#[]⟩ := blT_no false n k s (by rw [hone]; omega)
          have c8 : ∀ i : Int, 0 ≤ i ∧ i ≤ 2 → ∀ W, Below w.heap.size w W → Hid (Calls Tryz.prog 29 #[.int .i64 i, .string k, .string ⟨#[]⟩] W fun e w' => e = .returned (.tuple #[.string (blT true i k ⟨#[]⟩), .int .i64 (coT i k ⟨#[]⟩)]) ∧ Below W.heap.size W w') := fun i hi W hW => Lib.hid (UnlockBlocks_impl i k ⟨#[]⟩ (by show (0 : Nat) ≤ _; omega) W (HM.out W hW) (HU.out W hW))
          have C7 : ∀ i : Int, 0 ≤ i ∧ i ≤ 2 → ∀ W, Below w.heap.size w W → Hid (Calls Tryz.prog 28 #[.int .i64 i, .string k, .string s] W fun e w' => e = .returned (.tuple #[.string ⟨#[]⟩, .int .i64 5]) ∧ Below W.heap.size W w') := fun i hi W hW => by
            have h := c7 i W hW
            rw [hbl i hi, hco i hi] at h; exact h
          have e1 : one = 1 := HOO.out.symm.trans hone
          have e2 : x = ⟨#[]⟩ := HXX.out.symm.trans hx
          subst e1
          subst e2
          clear hco hbl hone hx c7 HOO HXX
          skip
          go_wp2
          go_loopw [17] (fun i wr => ∃ j : Nat, j ≤ 3 ∧ i = .int .i64 (j : Int) ∧ Below w.heap.size w wr) (fun i _ => 3 - (intOf i).toNat)
          case atStart => exact ⟨0, by omega, rfl, HB0.out⟩
          case round =>
            obtain ⟨j, hj, rfl, hbel⟩ := hrel
            have HB := Lib.hid hbel
            clear hbel HB0
            by_cases hlt : j < 3
            · have hj1 : (j : Int) < 3 := by omega
              have hj0 : (0 : Int) ≤ (j : Int) := by omega
              have q1 : IntKind.i64.wrap ((j : Int) + 1) = (j : Int) + 1 := IntWalk.i64_in _ (by omega)
              have C7J := C7 (j : Int) (by omega)
              have C8J := c8 (j : Int) (by omega)
              clear C7 c8
              generalize blT true (j : Int) k ⟨#[]⟩ = D8 at *
              generalize coT (j : Int) k ⟨#[]⟩ = F8 at *
              go_wp2_with fail
              refine (C7J _ HB.out).out.mono ?_; rintro e v1 ⟨rfl, hq⟩
              have HB1 := Lib.hid (HB.out.trans (hq.mono HB.out.size))
              clear hq C7J HB
              go_wp2_with fail
              refine (C8J _ HB1.out).out.mono ?_; rintro e v2 ⟨rfl, hq⟩
              have HB2 := Lib.hid (HB1.out.trans (hq.mono HB1.out.size))
              clear hq C8J HB1
              go_wp2
              go_roundw
              case rel => exact ⟨j + 1, by omega, by go_num, HB2.out⟩
              case measure => simp [intOf]; omega
            · obtain rfl : j = 3 := by omega
              clear C7 c8
              clear c5
              by_cases hn0 : 0 ≤ n
              · have hn3 : ¬ n < 3 := by omega
                go_wp2
                go_ret
                exact ⟨rfl, HB.out⟩
              · go_wp2
                go_ret
                exact ⟨rfl, HB.out⟩
      · rw [decide_eq_false hk] at c5
        have hco : ∀ i : Int, 0 ≤ i ∧ i ≤ 2 → coT i k s = 3 := fun i hi => coT_key i k s hi hk
        have hbl : ∀ i : Int, 0 ≤ i ∧ i ≤ 2 → blT false i k s = ⟨#[]⟩ := fun i hi => blT_no false i k s (by rw [hco i hi]; omega)
        have hone : coT n k s = 1 := coT_eng n k s hn
        have hx : blT false n k s = ⟨#[]⟩ := blT_no false n k s (by rw [hone]; omega)
        have c8 : ∀ i : Int, 0 ≤ i ∧ i ≤ 2 → ∀ W, Below w.heap.size w W → Hid (Calls Tryz.prog 29 #[.int .i64 i, .string k, .string ⟨#[]⟩] W fun e w' => e = .returned (.tuple #[.string (blT true i k ⟨#[]⟩), .int .i64 (coT i k ⟨#[]⟩)]) ∧ Below W.heap.size W w') := fun i hi W hW => Lib.hid (UnlockBlocks_impl i k ⟨#[]⟩ (by show (0 : Nat) ≤ _; omega) W (HM.out W hW) (HU.out W hW))
        have C7 : ∀ i : Int, 0 ≤ i ∧ i ≤ 2 → ∀ W, Below w.heap.size w W → Hid (Calls Tryz.prog 28 #[.int .i64 i, .string k, .string s] W fun e w' => e = .returned (.tuple #[.string ⟨#[]⟩, .int .i64 3]) ∧ Below W.heap.size W w') := fun i hi W hW => by
          have h := c7 i W hW
          rw [hbl i hi, hco i hi] at h; exact h
        have e1 : one = 1 := HOO.out.symm.trans hone
        have e2 : x = ⟨#[]⟩ := HXX.out.symm.trans hx
        subst e1
        subst e2
        clear hco hbl hone hx c7 HOO HXX
        skip
        go_wp2
        go_loopw [17] (fun i wr => ∃ j : Nat, j ≤ 3 ∧ i = .int .i64 (j : Int) ∧ Below w.heap.size w wr) (fun i _ => 3 - (intOf i).toNat)
        case atStart => exact ⟨0, by omega, rfl, HB0.out⟩
        case round =>
          obtain ⟨j, hj, rfl, hbel⟩ := hrel
          have HB := Lib.hid hbel
          clear hbel HB0
          by_cases hlt : j < 3
          · have hj1 : (j : Int) < 3 := by omega
            have hj0 : (0 : Int) ≤ (j : Int) := by omega
            have q1 : IntKind.i64.wrap ((j : Int) + 1) = (j : Int) + 1 := IntWalk.i64_in _ (by omega)
            have C7J := C7 (j : Int) (by omega)
            have C8J := c8 (j : Int) (by omega)
            clear C7 c8
            generalize blT true (j : Int) k ⟨#[]⟩ = D8 at *
            generalize coT (j : Int) k ⟨#[]⟩ = F8 at *
            go_wp2_with fail
            refine (C7J _ HB.out).out.mono ?_; rintro e v1 ⟨rfl, hq⟩
            have HB1 := Lib.hid (HB.out.trans (hq.mono HB.out.size))
            clear hq C7J HB
            go_wp2_with fail
            refine (C8J _ HB1.out).out.mono ?_; rintro e v2 ⟨rfl, hq⟩
            have HB2 := Lib.hid (HB1.out.trans (hq.mono HB1.out.size))
            clear hq C8J HB1
            go_wp2
            go_roundw
            case rel => exact ⟨j + 1, by omega, by go_num, HB2.out⟩
            case measure => simp [intOf]; omega
          · obtain rfl : j = 3 := by omega
            clear C7 c8
            clear c5
            by_cases hn0 : 0 ≤ n
            · have hn3 : ¬ n < 3 := by omega
              go_wp2
              go_ret
              exact ⟨rfl, HB.out⟩
            · go_wp2
              go_ret
              exact ⟨rfl, HB.out⟩
  · go_enter Tryz.func5, Tryz.ntmps5
    go_wp2_with fail
    refine (big_great _ _ _ _ (by omega) hlen).mono ?_; rintro e w' ⟨rfl, rfl⟩
    go_wp2
    go_ret
    exact ⟨rfl, Below.refl _ _⟩
end Go.Proofs.YtkklkcajllpjpaaGreatDoor
