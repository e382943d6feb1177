/-
  What impl.lowWords and TableRound answer.
-/
import Derived.Test.YtkbnnlhilnnpeaaDoorRndI
import Derived.Test.YtkbnnlhilnnpeaaDoorTabI
import Derived.Test.YtkbnnlhilnnpeaaDoorKey
set_option linter.unusedVariables false
set_option linter.unusedSimpArgs false
namespace Go.Proofs.YtkbnnlhilnnpeaaDoor
open Go Go.RowKit

set_option maxRecDepth 100000 in
theorem low1_impl (A : Option Addr) (cc : Nat) (l : List Int) (hl : l.length = 4) (g : Nat) (i : Nat) (hi : i < 4) (w : World) (h : IRow w A 4 l) (hg : RAt w g 25 #[.slice A 4 cc]) :
    Calls Tryd.prog 111 #[.int .i64 (i : Int), .pointer (some ⟨g, 0, none⟩)] w fun e w' => e = .returned (.int .u32 (w32 (l.getD i 0)).toNat) ∧ Below w.heap.size w w' := by
  obtain ⟨b, o, rfl, hb, hc⟩ := h.2 i (by omega)
  have e : l.getD i 0 = l[i]'(by omega) := by rw [List.getD_eq_getElem?_getD, List.getElem?_eq_getElem (by omega)]; rfl
  rw [e]
  have hcg : w.cell? ⟨g, 0, none⟩ = some (.slice (some ⟨b, o, none⟩) 4 cc) := hg.cell rfl
  have HV := Lib.hid (w32_val (l[i]'(by omega)))
  generalize l[i]'(by omega) = x at *
  have hi1 : (i : Int) < 4 := by omega
  have hi0 : (0 : Int) ≤ (i : Int) := by omega
  have HB : Hid (Below w.heap.size w w) := Lib.hid (Below.refl _ _)
  clear hg h e
  go_enter Tryd.func111, Tryd.ntmps111
  go_wp2
  go_ret
  exact ⟨ret_i HV.out.symm, HB.out⟩
/-- the words that numbers mean. -/
def lowF (l : List Int) (i : Nat) : UInt32 := w32 (l.getD i 0)
set_option maxRecDepth 100000 in
set_option maxHeartbeats 800000 in
theorem low_impl (A : Option Addr) (cc : Nat) (l : List Int) (hl : l.length = 4) (w : World) (h : IRow w A 4 l) :
    Calls Tryd.prog 75 #[.slice A 4 cc] w fun e w' => e = .returned (.agg (ar32 (lowF l) 4)) ∧ Below w.heap.size w w' := by
  have hmf : ∀ (fn : Fn) (first cap : Array Value) (w : World), (Instr.makeFunc fn first cap).run Tryd.prog w = .ok (.func fn first cap) w := fun _ _ _ _ => rfl
  obtain ⟨W, hW⟩ : ∃ W, (w.alloc (.cells #[.slice A 4 cc] 25)).alloc (.cells zr4 71) = W := ⟨_, rfl⟩
  obtain ⟨r1, r2, hb, hsz⟩ := two_at w _ _ _ _ hW
  have HC : Hid (Calls Tryd.prog 108 #[.func (.func 111) #[] #[.pointer (some ⟨w.heap.size, 0, none⟩)]] W fun e w' => e = .returned (.agg (ar32 (lowF l) 4)) ∧ Below W.heap.size W w') := Lib.hid
    (four_impl _ _ (lowF l) W (enters_of Tryd.func111 (by kernel_rfl) rfl) (fun i hi W2 hW2 =>
      low1_impl A cc l hl _ i hi W2 ((h.below hb).below hW2) (r1.up hW2)))
  have hsi := fourWords_info (lowF l)
  have hone := ar32_one (lowF l) 4
  have hz : zr4.size = (ar32 (lowF l) 4).size := by rw [ar32_size]; rfl
  generalize ar32 (lowF l) 4 = R at *
  have R2 := Lib.hid r2
  have HB := Lib.hid hb
  have HW := Lib.hid hW
  clear r1 r2 hb hW h hl hsz
  unfold zr4 at HW
  go_enter Tryd.func75, Tryd.ntmps75
  go_wp2_with fail
  rw [HW.out]
  refine HC.out.mono ?_; rintro e w2 ⟨rfl, hb2⟩
  have M := Lib.hid (R2.out.up hb2)
  have MS := Lib.hid (setRow_heap w2 _ _ R _ _ M.out)
  have MB : Hid (Below w.heap.size w (w2.setRow (w.heap.size + 1) R)) := Lib.hid (below_setRow (HB.out.trans (hb2.mono HB.out.size)) (by omega) _)
  clear hb2 HC HB R2
  go_wp2_with (refine wpList_store_row rfl 71 _ _ rfl (w.heap.size + 1) R rfl rfl 71 _ M.out hsi hz hone ?_)
  refine bodyPost_ret (v := .agg R) ?_ rfl ⟨rfl, MB.out⟩
  exact results_cell_row rfl _ _ (w.heap.size + 1) 71 R (0, 0) _ rfl MS.out Tryd.underlying71 rfl hsi
theorem wrow_of {W : World} {g n : Nat} {t : TypeId} {h : Nat → UInt32} (r : RAt W g t (ar32 h n)) : WRow W g n (upTo h n) :=
  ⟨upTo_length _ _, fun j hj => ⟨r.lt, by rw [upTo_get]; exact r.cell (ar32_at h n j (by rw [upTo_length] at hj; exact hj))⟩⟩
theorem roundI_yes (a b : List Int) (ha : a.length = 4) (hb : b.length = 4) : roundI a b = nums (upTo (rndW tab 1 (lowF a) (lowF b)) 4) := by
  unfold roundI nums
  rw [if_pos ⟨ha, hb⟩, upTo_map]
  exact upTo_congr _ _ _ fun i hi => by rw [rnd_tab]; rfl
theorem roundI_no (a b : List Int) (h : ¬ (a.length = 4 ∧ b.length = 4)) : roundI a b = [] := if_neg h
set_option maxRecDepth 100000 in
set_option maxHeartbeats 1600000 in
theorem TableRound_yes (A B : Option Addr) (ca cb : Nat) (a b : List Int) (ha : a.length = 4) (hb : b.length = 4) (w : World) (hA : IRow w A 4 a) (hB : IRow w B 4 b) (hf : Fac4 w 0 mxF) :
    Calls Tryd.prog 31 #[.slice A 4 ca, .slice B 4 cb] w fun e w' => OwnInts w (roundI a b) e w' := by
  rw [roundI_yes a b ha hb]
  have HG := hf.1
  have H1 := Lib.hid (low_impl A ca a ha w hA)
  have H2 := fun W hW => Lib.hid (low_impl B cb b hb W (hB.below hW))
  have H3 := fun W (hW : Below w.heap.size w W) => Lib.hid (roundOf_impl 73 #[] tab 1 (by omega) (lowF a) (lowF b) W (enters_of Tryd.func73 (by kernel_rfl) rfl)
    (fun k hk x W3 hW3 => adder_impl k (by omega) x W3 ((hf.below hW HG).below hW3 (Nat.lt_of_lt_of_le HG hW.size))))
  have H4 := fun g W hr => Lib.hid (numbers_impl g 4 4 (upTo (rndW tab 1 (lowF a) (lowF b)) 4) W (by omega) hr)
  have HN : Hid ((nums (upTo (rndW tab 1 (lowF a) (lowF b)) 4)).length = 4) := Lib.hid (by rw [nums_length, upTo_length])
  have hsi := fourWords_info (rndW tab 1 (lowF a) (lowF b))
  have hone := ar32_one (rndW tab 1 (lowF a) (lowF b)) 4
  have hz : zr4.size = (ar32 (rndW tab 1 (lowF a) (lowF b)) 4).size := by rw [ar32_size]; rfl
  have HWR : Hid (∀ {W : World} {g : Nat}, RAt W g 71 (ar32 (rndW tab 1 (lowF a) (lowF b)) 4) → WRow W g 4 (upTo (rndW tab 1 (lowF a) (lowF b)) 4)) := Lib.hid (fun r => wrow_of r)
  generalize ar32 (rndW tab 1 (lowF a) (lowF b)) 4 = R at *
  generalize upTo (rndW tab 1 (lowF a) (lowF b)) 4 = u at *
  generalize ar32 (lowF a) 4 = X at *
  generalize ar32 (lowF b) 4 = Y at *
  have h1c : ((1 : Nat) : Int) = 1 := rfl
  simp only [h1c] at H3
  clear hA hB hf HG ha hb h1c
  unfold zr4 at hz
  go_enter Tryd.func31, Tryd.ntmps31
  go_wp2_with fail
  refine H1.out.mono ?_; rintro e w1 ⟨rfl, hb1⟩
  have B1 := Lib.hid hb1
  clear hb1 H1
  go_wp2_with fail
  refine (H2 _ B1.out).out.mono ?_; rintro e w2 ⟨rfl, hb2⟩
  have B2 := Lib.hid (B1.out.trans (hb2.mono B1.out.size))
  clear hb2 H2
  go_wp2_with fail
  refine (H3 _ B2.out).out.mono ?_; rintro e w3 ⟨rfl, hb3⟩
  have B3 := Lib.hid (B2.out.trans (hb3.mono B2.out.size))
  clear hb3 H3
  have M := Lib.hid (RAt.new w3 71 #[.int .u32 0, .int .u32 0, .int .u32 0, .int .u32 0])
  have MS := Lib.hid (setRow_heap (w3.alloc (.cells #[.int .u32 0, .int .u32 0, .int .u32 0, .int .u32 0] 71)) _ _ R _ _ M.out)
  have MB : Hid (Below w.heap.size w ((w3.alloc (.cells #[.int .u32 0, .int .u32 0, .int .u32 0, .int .u32 0] 71)).setRow w3.heap.size R)) := Lib.hid (below_setRow (B3.out.trans ((al_up w3 _).mono B3.out.size)) B3.out.size _)
  go_wp2_with (refine wpList_store_row rfl 71 _ _ rfl w3.heap.size R rfl rfl 71 _ M.out hsi hz hone ?_)
  refine (H4 _ _ (HWR.out MS.out)).out.mono ?_; rintro e w4 ⟨v, rfl, hown, hb4⟩
  have HO : Hid (w4.ownsRow w.heap.size 3 1 v 4 (cells64 (nums u))) := Lib.hid (own_base hown MB.out.size)
  have hbel := MB.out.trans (hb4.mono MB.out.size)
  obtain ⟨A', c', rfl, hnc, hcm⟩ := own_slice64 hown
  clear hown hb4 MB MS M H4
  go_wp2
  go_ret
  exact ⟨_, rfl, by rw [HN.out]; exact HO.out, hbel⟩
set_option maxRecDepth 100000 in
theorem TableRound_no1 (A : Option Addr) (n ca : Nat) (v : Value) (hn : ¬ n = 4) (w : World) :
    Calls Tryd.prog 31 #[.slice A n ca, v] w fun e w' => OwnInts w [] e w' := by
  have h4 : ¬ (n : Int) = 4 := by omega
  go_enter Tryd.func31, Tryd.ntmps31
  go_wp2
  go_ret
  exact ⟨_, rfl, own_nil _ _ _, Below.refl _ _⟩
set_option maxRecDepth 100000 in
theorem TableRound_no2 (A B : Option Addr) (ca m cb : Nat) (hm : ¬ m = 4) (w : World) :
    Calls Tryd.prog 31 #[.slice A 4 ca, .slice B m cb] w fun e w' => OwnInts w [] e w' := by
  have h4 : ¬ (m : Int) = 4 := by omega
  go_enter Tryd.func31, Tryd.ntmps31
  go_wp2
  go_ret
  exact ⟨_, rfl, own_nil _ _ _, Below.refl _ _⟩
theorem TableRound_impl (A B : Option Addr) (n m ca cb : Nat) (a b : List Int) (w : World) (hA : IRow w A n a) (hB : IRow w B m b) (hf : Fac4 w 0 mxF) :
    Calls Tryd.prog 31 #[.slice A n ca, .slice B m cb] w fun e w' => OwnInts w (roundI a b) e w' := by
  have ea := hA.1
  have eb := hB.1
  by_cases hn : n = 4
  · subst hn
    by_cases hm : m = 4
    · subst hm
      exact TableRound_yes A B ca cb a b ea eb w hA hB hf
    · rw [roundI_no a b (by omega)]
      exact TableRound_no2 A B ca m cb hm w
  · rw [roundI_no a b (by omega)]
    exact TableRound_no1 A n ca _ hn w
end Go.Proofs.YtkbnnlhilnnpeaaDoor
