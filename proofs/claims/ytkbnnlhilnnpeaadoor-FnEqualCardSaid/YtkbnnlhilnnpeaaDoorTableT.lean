/-
  What spec.TableRound answers.
-/
import Derived.Test.YtkbnnlhilnnpeaaDoorTableS
import Derived.Test.YtkbnnlhilnnpeaaDoorTableMath
import Derived.Test.YtkbnnlhilnnpeaaDoorKey
import Derived.WalkKit
import Derived.LoopTactic
import Derived.OwnWalk
import Derived.WalkLawsBesides
import Derived.WalkSpells
import Derived.Outline
import Derived.Below
import Derived.Laws.OwnMore
import Derived.Laws.AppendOwn
import Derived.Deep.AppendLies
import Derived.IntWalk
set_option linter.unusedVariables false
set_option linter.unusedSimpArgs false
namespace Go.Proofs.YtkbnnlhilnnpeaaDoor
open Go.RowKit
attribute [local go_sem ↓] Go.wp_at_zero Go.wp_at_succ

theorem table_spec_at (k : Nat) (hk : k ≤ 3) (b : UInt8) (w : World) :
    Calls Tryd.prog 23 #[.int .i64 (k : Int), .int .i64 b.toNat] w fun e w' => e = .returned (.int .i64 (tab k b).toNat) ∧ w = w' := by
  have h := Table_spec (k : Int) (b.toNat : Int) w
  rwa [tableI_at k b hk] at h
/-- byte k of a number's word, as it is shifted out. -/
theorem shr_and (n : Int) : bits .and .i64 (n / 16777216) 255 = ((wb (w32 n) 0).toNat : Int) ∧ bits .and .i64 (n / 65536) 255 = ((wb (w32 n) 1).toNat : Int) ∧ bits .and .i64 (n / 256) 255 = ((wb (w32 n) 2).toNat : Int) ∧ bits .and .i64 n 255 = ((wb (w32 n) 3).toNat : Int) :=
  ⟨(i64_and255 _).trans (w0_i n), (i64_and255 _).trans (w1_i n), (i64_and255 _).trans (w2_i n), (i64_and255 _).trans (w3_i n)⟩
/-- the words of a round, of the numbers that are given. -/
def rdF (a b : List Int) (i : Nat) : Int := ((tbTo (fun j => w32 (a.getD j 0)) i (w32 (b.getD i 0)) 4).toNat : Int)
theorem roundI_rd (a b : List Int) (ha : a.length = 4) (hb : b.length = 4) : roundI a b = upTo (rdF a b) 4 := by unfold roundI; rw [if_pos ⟨ha, hb⟩]; rfl
theorem irow_at {w : World} {A : Option Addr} {l : List Int} (hl : l.length = 4) (h : IRow w A 4 l) : ∃ b o, A = some ⟨b, o, none⟩ ∧ b < w.heap.size ∧ ∀ j, j < 4 → w.cell? ⟨b, o + j, none⟩ = some (.int .i64 (l.getD j 0)) := by
  obtain ⟨b, o, rfl, hb, -⟩ := h.2 0 (by omega)
  refine ⟨b, o, rfl, hb, fun j hj => ?_⟩
  obtain ⟨b2, o2, e2, -, hc2⟩ := h.2 j (by omega)
  cases e2
  rw [hc2, List.getD_eq_getElem?_getD, List.getElem?_eq_getElem (by omega)]; rfl
theorem tr_rel {F : Nat → Int} {w w2 w1 : World} {k : Nat} {e : TypeId} {u v : Value} {o : Obj} {c : Int} (hx : F k = c)
    (hown2 : w2.ownsRow w.heap.size e 1 u k (cells64 (upTo F k))) (hbel2 : Below w.heap.size w w2)
    (hown3 : w1.ownsRow w.heap.size e 1 v (k + 1) (cells64 (upTo F k) ++ [.int .i64 c]))
    (hgrow : (w2.alloc o).grownBy w1 u.ownBlock) :
    w1.ownsRow w.heap.size e 1 v (k + 1) (cells64 (upTo F (k + 1))) ∧ Below w.heap.size w w1 := by
  refine ⟨?_, ?_⟩
  · rw [upTo_succ, hx, cells64, List.map_append]
    exact hown3
  · have h1 : Below w.heap.size w (w2.alloc o) := hbel2.alloc hbel2.size _
    exact h1.grown hgrow h1.size (fun b hb => (hown2.lt b hb).1)
set_option maxRecDepth 100000 in
set_option maxHeartbeats 6400000 in
theorem TableRound_spec_yes (A B : Option Addr) (ca cb : Nat) (a b : List Int) (ha : a.length = 4) (hb : b.length = 4) (w : World) (hA : IRow w A 4 a) (hB : IRow w B 4 b) :
    Calls Tryd.prog 32 #[.slice A 4 ca, .slice B 4 cb] w fun e w' => OwnInts w (roundI a b) e w' := by
  rw [roundI_rd a b ha hb]
  obtain ⟨i0, hi, hz0, hz1, hz2⟩ := info_parts info64
  obtain ⟨ba, oa, rfl, hba, hca⟩ := irow_at ha hA
  obtain ⟨bb, ob, rfl, hbb, hcb⟩ := irow_at hb hB
  obtain ⟨s, hs⟩ : ∃ s : Nat → Int, (fun j => a.getD j 0) = s := ⟨_, rfl⟩
  obtain ⟨c, hc⟩ : ∃ c : Nat → Int, (fun j => b.getD j 0) = c := ⟨_, rfl⟩
  have HCA : Hid (∀ W, Below w.heap.size w W → ∀ j, j < 4 → W.cell? ⟨ba, oa + j, none⟩ = some (.int .i64 (s j))) := Lib.hid fun W hW j hj => by
    rw [← hs]; exact (hW.cell (p := ⟨ba, oa + j, none⟩) hba).trans (hca j hj)
  have HCB : Hid (∀ W, Below w.heap.size w W → ∀ j, j < 4 → W.cell? ⟨bb, ob + j, none⟩ = some (.int .i64 (c j))) := Lib.hid fun W hW j hj => by
    rw [← hc]; exact (hW.cell (p := ⟨bb, ob + j, none⟩) hbb).trans (hcb j hj)
  have HFF : Hid (∀ i, rdF a b i = ((tbTo (fun j => w32 (s j)) i (w32 (c i)) 4).toNat : Int)) := Lib.hid fun i => by rw [← hs, ← hc]; rfl
  generalize rdF a b = F at *
  clear hA hB hca hcb hs hc ha hb hba hbb
  go_enter Tryd.func32, Tryd.ntmps32
  go_wp2
  go_loopw [5, 6] (fun v i wr => ∃ k : Nat, k ≤ 4 ∧ i = .int .i64 k ∧ wr.ownsRow w.heap.size 3 1 v k (cells64 (upTo F k)) ∧ Below w.heap.size w wr) (fun _ i _ => 4 - (intOf i).toNat)
  case atStart => exact ⟨0, by omega, rfl, World.ownsRow_lit w #[] 0 (Nat.le_refl _) (by simp [maxLen]) rfl, (Below.refl _ _).alloc (Nat.le_refl _) _⟩
  case round =>
    obtain ⟨k, hk, rfl, hown, hbel⟩ := hrel
    have HB := Lib.hid hbel
    have HO := Lib.hid hown
    by_cases hlt : k < 4
    · have hk1 : (k : Int) < 4 := by omega
      have hk0 : (0 : Int) ≤ (k : Int) := by omega
      have hcc := HCB.out _ HB.out k hlt
      have h32 := and32 (c k)
      clear hown hbel
      go_wp2
      clear hcc h32
      go_loopw [7, 8] (fun x j wr2 => wr2 = wr ∧ ∃ m : Nat, m ≤ 4 ∧ j = .int .i64 m ∧ x = .int .i64 (tbTo (fun j => w32 (s j)) k (w32 (c k)) m).toNat) (fun _ j _ => 4 - (intOf j).toNat)
      case atStart => exact ⟨rfl, 0, by omega, rfl, rfl⟩
      case round =>
        obtain ⟨rfl, m, hm, rfl, rfl⟩ := hrel
        by_cases hlm : m < 4
        · obtain ⟨p, hp⟩ : ∃ p, (k + m) % 4 = p := ⟨_, rfl⟩
          have hp4 : p < 4 := by omega
          have hcell := HCA.out _ HB.out p hp4
          have hX : bits .xor .i64 ((tbTo (fun j => w32 (s j)) k (w32 (c k)) m).toNat : Int) ((tab m (wb (w32 (s p)) m)).toNat : Int) = ((tbTo (fun j => w32 (s j)) k (w32 (c k)) (m + 1)).toNat : Int) := by
            rw [i64_xor32, ← hp]; rfl
          have HX := Lib.hid hX
          have HT := fun W => Lib.hid (table_spec_at m (by omega) (wb (w32 (s p)) m) W)
          have hp0 : (0 : Int) ≤ (p : Int) := by omega
          have hp1 : (p : Int) < 4 := by omega
          obtain ⟨s0, s1, s2, s3⟩ := shr_and (s p)
          have hm1 : (m : Int) < 4 := by omega
          have HM := Lib.hid hm
          generalize s p = x at *
          clear hX HO HCA HCB
          have h4 : m = 0 ∨ m = 1 ∨ m = 2 ∨ m = 3 := by omega
          rcases h4 with rfl | rfl | rfl | rfl
          · have em : (k : Int).tmod 4 = (p : Int) := by rw [Int.tmod_eq_emod_of_nonneg (by omega)]; omega
            have e0 : ((0 : Nat) : Int) = 0 := rfl
            simp only [e0] at HT
            generalize wb (w32 x) 0 = b at *
            clear hp e0
            clear s1 s2 s3
            go_wp2_with fail
            refine (HT _).out.mono ?_; rintro e w' ⟨rfl, rfl⟩
            go_wp2
            go_roundw
            case rel => exact ⟨by first | trivial | rfl, 1, by omega, rfl, val_i HX.out⟩
            case measure => simp [intOf]
          · have em : ((k : Int) + 1).tmod 4 = (p : Int) := by rw [Int.tmod_eq_emod_of_nonneg (by omega)]; omega
            have q1 : IntKind.i64.wrap ((k : Int) + 1) = (k : Int) + 1 := IntWalk.i64_in _ (by omega)
            have e0 : ((1 : Nat) : Int) = 1 := rfl
            simp only [e0] at HT
            generalize wb (w32 x) 1 = b at *
            clear hp e0
            clear s0 s2 s3
            go_wp2_with fail
            refine (HT _).out.mono ?_; rintro e w' ⟨rfl, rfl⟩
            go_wp2
            go_roundw
            case rel => exact ⟨by first | trivial | rfl, 2, by omega, rfl, val_i HX.out⟩
            case measure => simp [intOf]
          · have em : ((k : Int) + 2).tmod 4 = (p : Int) := by rw [Int.tmod_eq_emod_of_nonneg (by omega)]; omega
            have q1 : IntKind.i64.wrap ((k : Int) + 2) = (k : Int) + 2 := IntWalk.i64_in _ (by omega)
            have e0 : ((2 : Nat) : Int) = 2 := rfl
            simp only [e0] at HT
            generalize wb (w32 x) 2 = b at *
            clear hp e0
            clear s0 s1 s3
            go_wp2_with fail
            refine (HT _).out.mono ?_; rintro e w' ⟨rfl, rfl⟩
            go_wp2
            go_roundw
            case rel => exact ⟨by first | trivial | rfl, 3, by omega, rfl, val_i HX.out⟩
            case measure => simp [intOf]
          · have em : ((k : Int) + 3).tmod 4 = (p : Int) := by rw [Int.tmod_eq_emod_of_nonneg (by omega)]; omega
            have q1 : IntKind.i64.wrap ((k : Int) + 3) = (k : Int) + 3 := IntWalk.i64_in _ (by omega)
            have e0 : ((3 : Nat) : Int) = 3 := rfl
            simp only [e0] at HT
            generalize wb (w32 x) 3 = b at *
            clear hp e0
            clear s0 s1 s2
            go_wp2_with fail
            refine (HT _).out.mono ?_; rintro e w' ⟨rfl, rfl⟩
            go_wp2
            go_roundw
            case rel => exact ⟨by first | trivial | rfl, 4, by omega, rfl, val_i HX.out⟩
            case measure => simp [intOf]
        · obtain rfl : m = 4 := by omega
          have HX : Hid (F k = ((tbTo (fun j => w32 (s j)) k (w32 (c k)) 4).toNat : Int)) := Lib.hid (HFF.out k)
          have HO2 := Lib.hid HO.out
          have hl := w32_lt (tbTo (fun j => w32 (s j)) k (w32 (c k)) 4)
          have hl2 : ((tbTo (fun j => w32 (s j)) k (w32 (c k)) 4).toNat : Int) < 4294967296 := by omega
          generalize tbTo (fun j => w32 (s j)) k (w32 (c k)) 4 = y at *
          clear HO HCA HCB hl HFF
          go_wp2_with (at_builtin; refine stp ?_)
          refine unstp ?_
          refine wpList_append_lies _ rfl (.tmp 49) (.tmp 51) 25 rfl w.heap.size 3 i0 (.int .i64 0) 1 8 Tryd.underlying25 hi hz0 hz1 hz2 rfl (by decide) u5 k (cells64 (upTo F k)) rfl (HO2.out.alloc _) ⟨wr.heap.size, 0, none⟩ 1 1 [.int .i64 (y.toNat : Int)] rfl rfl (World.news_of_block (cs := #[.int .i64 (y.toNat : Int)]) (heap_alloc_new wr _)) (by simp [Value.oneCell']) (by omega) (by unfold maxLen; omega) (by omega) (by have := HB.out.size; simp; omega) (wr.heap.size + 1) (by simp) ?_
          intro g2 cap2 w5 hown5 hgrow hat hlt5
          have hrel := tr_rel (F := F) HX.out HO2.out HB.out hown5 hgrow
          clear hown5 hgrow hat hlt5
          go_wp2
          go_roundw
          case rel => exact ⟨k + 1, by omega, by go_num, hrel.1, hrel.2⟩
          case measure => simp [intOf]; omega
    · obtain rfl : k = 4 := by omega
      obtain ⟨A', c', rfl, hnc, hcm⟩ := own_slice64 hown
      clear hown hbel HCA HCB HFF
      go_wp2
      go_ret
      exact ⟨_, rfl, by rw [upTo_length]; exact HO.out, HB.out⟩
theorem rdI_no (a b : List Int) (h : ¬ (a.length = 4 ∧ b.length = 4)) : roundI a b = [] := if_neg h
set_option maxRecDepth 100000 in
theorem TableRound_spec_no1 (A : Option Addr) (n ca : Nat) (v : Value) (hn : ¬ n = 4) (w : World) :
    Calls Tryd.prog 32 #[.slice A n ca, v] w fun e w' => OwnInts w [] e w' := by
  have h4 : ¬ (n : Int) = 4 := by omega
  have HO : Hid ((w.alloc (.cells #[] 3)).ownsRow w.heap.size 3 1 (.slice (some ⟨w.heap.size, 0, none⟩) 0 0) 0 (cells64 [])) := Lib.hid (World.ownsRow_lit w #[] 0 (Nat.le_refl _) (by simp [maxLen]) rfl)
  have HB : Hid (Below w.heap.size w (w.alloc (.cells #[] 3))) := Lib.hid ((Below.refl _ _).alloc (Nat.le_refl _) _)
  go_enter Tryd.func32, Tryd.ntmps32
  go_wp2
  go_ret
  exact ⟨_, rfl, HO.out, HB.out⟩
set_option maxRecDepth 100000 in
theorem TableRound_spec_no2 (A B : Option Addr) (ca m cb : Nat) (hm : ¬ m = 4) (w : World) :
    Calls Tryd.prog 32 #[.slice A 4 ca, .slice B m cb] w fun e w' => OwnInts w [] e w' := by
  have h4 : ¬ (m : Int) = 4 := by omega
  have HO : Hid ((w.alloc (.cells #[] 3)).ownsRow w.heap.size 3 1 (.slice (some ⟨w.heap.size, 0, none⟩) 0 0) 0 (cells64 [])) := Lib.hid (World.ownsRow_lit w #[] 0 (Nat.le_refl _) (by simp [maxLen]) rfl)
  have HB : Hid (Below w.heap.size w (w.alloc (.cells #[] 3))) := Lib.hid ((Below.refl _ _).alloc (Nat.le_refl _) _)
  go_enter Tryd.func32, Tryd.ntmps32
  go_wp2
  go_ret
  exact ⟨_, rfl, HO.out, HB.out⟩
theorem TableRound_spec_any (A B : Option Addr) (n m ca cb : Nat) (a b : List Int) (w : World) (hA : IRow w A n a) (hB : IRow w B m b) :
    Calls Tryd.prog 32 #[.slice A n ca, .slice B m cb] w fun e w' => OwnInts w (roundI a b) e w' := by
  have ea := hA.1
  have eb := hB.1
  by_cases hn : n = 4
  · subst hn
    by_cases hm : m = 4
    · subst hm
      exact TableRound_spec_yes A B ca cb a b ea eb w hA hB
    · rw [rdI_no a b (by omega)]
      exact TableRound_spec_no2 A B ca m cb hm w
  · rw [rdI_no a b (by omega)]
    exact TableRound_spec_no1 A n ca _ hn w
end Go.Proofs.YtkbnnlhilnnpeaaDoor
