/-
  Contracts and facts that the laws of this seat use: EnA, EnB, InT, EnC, LkC.
-/
import Derived.Test.YtbfmbdohebdbaaaGreatDoorPlCol
import Derived.Test.YtbfmbdohebdbaaaGreatDoorPlS
import Derived.Test.YtbfmbdohebdbaaaGreatDoorPlT
import Derived.Test.YtbfmbdohebdbaaaGreatDoorSt
import Derived.Test.YtbfmbdohebdbaaaGreatDoorTpFp
import Derived.Test.YtbfmbdohebdbaaaGreatDoorHq
import Derived.Test.YtbfmbdohebdbaaaGreatDoorLkB
import Derived.Test.YtbfmbdohebdbaaaGreatDoorPass
import Derived.Test.YtbfmbdohebdbaaaGreatDoorLks
set_option linter.unusedVariables false
set_option linter.unusedSimpArgs false
namespace Go.Proofs.YtbfmbdohebdbaaaGreatDoor
open Go Go.RowKit
attribute [local go_sem ↓] Go.wp_at_zero Go.wp_at_succ

/-- what holds still while a block that is none of those is stored into. -/
theorem Hold.put2 {w V : World} {l : List (Nat × TypeId × Array Value)} (h : Hold w l V) {g : Nat} (hg : w.heap.size ≤ g) (R : Array Value) (hl : ∀ x, x ∈ l → x.1 ≠ g := by (simp; try omega)) : Hold w l (V.setRow g R) :=
  ⟨fun x hx => (h.1 x hx).other R (hl x hx), below_setRow h.2 hg R⟩
set_option maxRecDepth 100000 in
set_option maxHeartbeats 3200000 in
theorem boxedRows_impl (f : UInt8 → UInt8) (bk : Bool) (FB : FuncId) (kv : Value) (HE : ∀ (args : Array Value) (W : World), (callFunc FB args).run Tryz.prog W = .ok (.enter FB args) W)
    (HB : ∀ s W, Calls Tryz.prog FB #[.agg (pc s)] W fun e w' => e = .returned (.agg (pc (fun i => f (s i)))) ∧ Below W.heap.size W w') (s : Nat → UInt8) (w : World) :
    Calls Tryz.prog 229 #[.agg #[kv, .func (.func FB) #[] #[], .bool bk], .agg (pc s)] w fun e w' => e = .returned (.agg (pc (rowsB (stepOf bk) (fun i => f (s i))))) ∧ Below w.heap.size w w' := by
  have CB := fun W => Lib.hid (HB s W)
  have CR := fun W => Lib.hid (PlaneRows_impl (fun i => f (s i)) bk W)
  have i1 := planes_info s
  have hsi := planes_info (rowsB (stepOf bk) (fun i => f (s i)))
  have hone := pc_one (rowsB (stepOf bk) (fun i => f (s i)))
  have hz : zeroQ.size = (pc (rowsB (stepOf bk) (fun i => f (s i)))).size := by rw [pc_size]; rfl
  generalize pc (rowsB (stepOf bk) (fun i => f (s i))) = R at *
  generalize pc (fun i => f (s i)) = P2 at *
  generalize pc s = P1 at *
  obtain ⟨W0, hW⟩ : ∃ W0, ((w.alloc (.cells #[kv, .func (.func FB) #[] #[], .bool bk] 87)).alloc (.cells P1 135)).alloc (.cells zeroQ 135) = W0 := ⟨_, rfl⟩
  obtain ⟨a1, a2, az, hb0⟩ := newQ3 w _ _ _ _ _ _ hW
  have hS0 : Hold w [(w.heap.size, 87, #[kv, .func (.func FB) #[] #[], .bool bk]), (w.heap.size + 1, 135, P1)] W0.drew := ⟨by simp only [List.mem_cons, List.not_mem_nil, or_false]; rintro x (rfl | rfl); exact a1; exact a2, hb0.drew⟩
  have AZ : Hid (RQ W0.drew (w.heap.size + 1 + 1) 135 zeroQ) := Lib.hid az
  have HW := Lib.hid hW
  clear hW a1 a2 az hb0 HB
  unfold zeroQ at HW AZ hz
  go_enter Tryz.func229, Tryz.ntmps229
  go_wp2
  rw [HW.out]
  refine wp_region_held_drew (S := Hold w [(w.heap.size, 87, #[kv, .func (.func FB) #[] #[], .bool bk]), (w.heap.size + 1, 135, P1)]) (by kernel_rfl) hS0 (fun hS => ?_)
  refine tk 0 (v := ?_) ?_ hS ?_
  rotate_left
  · intro V hSw
    go_simp
    first | done | with_reducible rfl
  try simp only [lay]
  refine tk 1 (v := ?_) ?_ hS ?_
  rotate_left
  · intro V hSw
    have cc := (hSw.1 (w.heap.size, 87, #[kv, .func (.func FB) #[] #[], .bool bk]) (by simp)).cell (j := 1) rfl
    go_simp
    first | done | with_reducible rfl
  try simp only [lay]
  refine wpAnyH_take (i := 2) (v := .agg P1) rfl (by kernel_rfl) (by kernel_rfl) (by kernel_rfl) (fun _ _ _ h => h) (Or.inl ⟨by kernel_rfl, fun V hV => exec_load_row 135 _ rfl (w.heap.size + 1) rfl 135 P1 _ (hV.1 ((w.heap.size + 1), 135, P1) (by simp)) Tryz.underlying135 rfl i1⟩) (by assumption) ?_
  try simp only [lay]
  refine tk 4 (v := ?_) ?_ hS ?_
  rotate_left
  · intro V hSw
    go_simp
    first | done | with_reducible rfl
  try simp only [lay]
  refine tk 5 (v := ?_) ?_ hS ?_
  rotate_left
  · intro V hSw
    have cc := (hSw.1 (w.heap.size, 87, #[kv, .func (.func FB) #[] #[], .bool bk]) (by simp)).cell (j := 2) rfl
    go_simp
    first | done | with_reducible rfl
  try simp only [lay]
  refine wpAnyH_ready (rs := [3]) (by kernel_rfl) (by simp) ?_
  refine AllReadyH.cons rfl (fun K hK => ?_) AllReadyH.nil
  go_simp
  refine (CB _).out.mono ?_; rintro e x1 ⟨rfl, hb⟩
  have hS1 := hS.next hb
  have AZ := Lib.hid (AZ.out.up hb)
  clear hb
  refine hK.out _ _ hS1 (fun hS1 => ?_)
  clear hK K
  try simp only [lay]
  refine wpAnyH_ready (rs := [6]) (by kernel_rfl) (by simp) ?_
  refine AllReadyH.cons rfl (fun K hK => ?_) AllReadyH.nil
  go_simp
  refine (CR _).out.mono ?_; rintro e x2 ⟨rfl, hb⟩
  have hS2 := hS1.next hb
  have AZ := Lib.hid (AZ.out.up hb)
  clear hb
  refine hK.out _ _ hS2 (fun hS2 => ?_)
  clear hK K
  try simp only [lay]
  refine wpAnyH_ready (rs := [7]) (by kernel_rfl) (by simp) ?_
  refine AllReadyH.cons rfl (fun K hK => ?_) AllReadyH.nil
  refine Eq.mpr (if_pos (by rfl)) ?_
  refine wp_store_row 135 _ _ rfl (w.heap.size + 1 + 1) R rfl rfl 135 _ AZ.out hsi hz hone ?_
  have HSR := Lib.hid (AZ.out.row R)
  have hS3 := hS2.put2 (g := w.heap.size + 1 + 1) (by omega) R
  refine hK.out _ _ hS3 (fun hS3 => ?_)
  clear hK K
  try simp only [lay]
  refine wpAnyH_done (by kernel_rfl) ?_ _
  clear AZ
  go_wp2
  refine bodyPost_ret (v := .agg R) ?_ rfl ⟨rfl, hS3.2⟩
  exact results_cell_row rfl _ _ (w.heap.size + 1 + 1) 135 R (0, 0) _ rfl (by have h := HSR.out; exact h) Tryz.underlying135 rfl hsi
/-- planes of keys, where a slice points. -/
def PlKeys (w : World) (g m : Nat) (K : Nat → ByteArray) : Prop := g < w.heap.size ∧ ∀ j, j < m → w.rangeAt g (8 * j) (pc (keyB (K j))).toList
theorem PlKeys.up {w w' : World} {B g m : Nat} {K : Nat → ByteArray} (h : PlKeys w g m K) (hb : Below B w w') (hg : g < B) : PlKeys w' g m K :=
  ⟨Nat.lt_of_lt_of_le h.1 hb.size, fun j hj => fun q v hv => (World.cell?_of_block (a := ⟨g, 8 * j + q, none⟩) (hb.block g hg)).trans (h.2 j hj q v hv)⟩
theorem pl_len (s : Nat → UInt8) : (Tryz.prog.info? 135).map (·.size) = some (pc s).toList.length := by rw [Array.length_toList]; exact planes_info s
set_option maxRecDepth 100000 in
set_option maxHeartbeats 12800000 in
theorem rounds_impl (f : UInt8 → UInt8) (bk : Bool) (mf : UInt32 → UInt32) (FB : FuncId) (K : Nat → ByteArray) (g q c : Nat) (hq : q ≤ 100) (hc : q + 1 + 1 ≤ c) (hcm : c ≤ 9223372036854775807) (HE : ∀ (args : Array Value) (W : World), (callFunc FB args).run Tryz.prog W = .ok (.enter FB args) W)
    (HB : ∀ s W, Calls Tryz.prog FB #[.agg (pc s)] W fun e w' => e = .returned (.agg (pc (fun i => f (s i)))) ∧ Below W.heap.size W w') (w : World)
    (HC : ∀ s W, Below w.heap.size w W → Calls Tryz.prog 234 #[.agg (pc s), .bool bk] W fun e w' => e = .returned (.agg (pc (colsB mf s))) ∧ Below W.heap.size W w')
    (hk : PlKeys w g (q + 1 + 1) K) (s : Nat → UInt8) :
    Calls Tryz.prog 232 #[.agg #[.slice (some ⟨g, 0, none⟩) (q + 1 + 1) c, .func (.func FB) #[] #[], .bool bk], .agg (pc s)] w fun e w' => e = .returned (.agg (pc (wkP f (stepOf bk) mf K (q + 1) s (q + 1)))) ∧ Below w.heap.size w w' := by
  have CBR := fun s W => Lib.hid (boxedRows_impl f bk FB (.slice (some ⟨g, 0, none⟩) (q + 1 + 1) c) HE HB s W)
  have CCO := fun s W hW => Lib.hid (HC s W hW)
  have CX := fun s t W => Lib.hid (PlaneXor_impl s t W)
  have HKR : Hid (∀ V, Below w.heap.size w V → ∀ j, j < q + 1 + 1 → V.rangeAt g (8 * j) (pc (keyB (K j))).toList) := Lib.hid fun V hV => (hk.up hV hk.1).2
  have HG := Lib.hid hk.1
  obtain ⟨S, hS⟩ : ∃ S : Nat → Nat → UInt8, wkP f (stepOf bk) mf K (q + 1) s = S := ⟨_, rfl⟩
  have HS0 : Hid (∀ i, s i ^^^ keyB (K 0) i = S 0 i) := Lib.hid fun i => by rw [← hS]; rfl
  have HSM : Hid (∀ j, j + 1 < q + 1 → (fun i => colsB mf (rowsB (stepOf bk) fun i => f (S j i)) i ^^^ keyB (K (j + 1)) i) = S (j + 1)) := Lib.hid fun j hj => by rw [← hS, wkP_mid _ _ _ _ _ _ _ hj]
  have HSE : Hid ((fun i => rowsB (stepOf bk) (fun i => f (S q i)) i ^^^ keyB (K (q + 1)) i) = S (q + 1)) := Lib.hid (by rw [← hS, wkP_end])
  rw [hS]
  have i1 := planes_info s
  have hqI : (q : Int) ≤ 100 := by omega
  have hcI : (q : Int) + 1 + 1 ≤ (c : Int) := by omega
  have q0 : IntKind.i64.wrap ((q : Int) + 1) = (q : Int) + 1 := IntWalk.i64_in _ (by omega)
  have hp1 : (0 : Int) < (q : Int) + 1 + 1 := by omega
  have hp2 : (q : Int) + 1 < (q : Int) + 1 + 1 := by omega
  have hp3 : (0 : Int) ≤ (q : Int) + 1 := by omega
  have hp4 : (1 : Int) ≤ (q : Int) + 1 := by omega
  have HCM := Lib.hid (And.intro hc hcm)
  have HQQ := Lib.hid hq
  have hz : zeroQ.size = 8 := rfl
  have psz := pc_size
  have CX0 := CX s (keyB (K 0))
  simp only [HS0.out] at CX0
  have HK0 : Hid (∀ V, Below w.heap.size w V → V.rangeAt g 0 (pc (keyB (K 0))).toList) := Lib.hid fun V hV => HKR.out V hV 0 (by omega)
  have hl0 := pl_len (keyB (K 0))
  have i2 := planes_info (S 0)
  have hone0 := pc_one (S 0)
  have hz0 : (pc s).size = (pc (S 0)).size := by rw [pc_size, pc_size]
  have e0 : (pc (keyB (K 0))).toList.toArray = pc (keyB (K 0)) := Array.toArray_toList
  obtain ⟨L0, hL0⟩ : ∃ L0, (pc (keyB (K 0))).toList = L0 := ⟨_, rfl⟩
  rw [hL0] at HK0 hl0 e0
  rw [← e0] at CX0
  generalize pc s = P1 at *
  obtain ⟨W0, hW⟩ : ∃ W0, ((w.alloc (.cells #[.slice (some ⟨g, 0, none⟩) (q + 1 + 1) c, .func (.func FB) #[] #[], .bool bk] 87)).alloc (.cells P1 135)).alloc (.cells zeroQ 135) = W0 := ⟨_, rfl⟩
  obtain ⟨a1, a2, az, hb0⟩ := newQ3 w _ _ _ _ _ _ hW
  have hS0 : Hold w [(w.heap.size, 87, #[.slice (some ⟨g, 0, none⟩) (q + 1 + 1) c, .func (.func FB) #[] #[], .bool bk])] W0.drew := ⟨by simp only [List.mem_cons, List.not_mem_nil, or_false]; rintro x rfl; exact a1, hb0.drew⟩
  have AP : Hid (RQ W0.drew (w.heap.size + 1) 135 P1) := Lib.hid a2
  have AZ : Hid (RQ W0.drew (w.heap.size + 1 + 1) 135 zeroQ) := Lib.hid az
  have c0 := a1.cell (j := 0) rfl
  rw [← hW] at c0
  have HW := Lib.hid hW
  clear hW a1 a2 az hb0 HB HC hk hS e0 hL0
  unfold zeroQ at HW AZ hz c0
  go_enter Tryz.func232, Tryz.ntmps232
  go_wp2
  rw [HW.out]
  refine wp_region_held_drew (S := Hold w [(w.heap.size, 87, #[.slice (some ⟨g, 0, none⟩) (q + 1 + 1) c, .func (.func FB) #[] #[], .bool bk])]) (by kernel_rfl) hS0 (fun hS => ?_)
  refine tk 1 (v := ?_) ?_ hS ?_
  rotate_left
  · intro V hSw
    go_simp
    first | done | with_reducible rfl
  try simp only [lay]
  refine tk 2 (v := ?_) ?_ hS ?_
  rotate_left
  · intro V hSw
    have cc := (hSw.1 (w.heap.size, 87, #[.slice (some ⟨g, 0, none⟩) (q + 1 + 1) c, .func (.func FB) #[] #[], .bool bk]) (by simp)).cell (j := 0) rfl
    go_simp
    first | done | with_reducible rfl
  try simp only [lay]
  refine tk 3 (v := ?_) ?_ hS ?_
  rotate_left
  · intro V hSw
    go_simp
    first | done | with_reducible rfl
  try simp only [lay]
  refine wpAnyH_take (i := 4) (v := .agg L0.toArray) rfl (by kernel_rfl) (by kernel_rfl) (by kernel_rfl) (fun _ _ _ h => h) (yieldsIf_load_mid (by kernel_rfl) 135 _ rfl g _ rfl L0 _ (fun V hV => by have h := HK0.out V hV.2; first | exact h | (rw [Nat.mul_comm]; exact h) | (simpa [Nat.mul_comm] using h)) Tryz.underlying135 rfl hl0) hS ?_
  try simp only [lay]
  refine wpAnyH_ready (rs := [0]) (by kernel_rfl) (by simp) ?_
  refine AllReadyH.cons rfl (fun K hK => ?_) AllReadyH.nil
  refine Eq.mpr (if_pos (by rfl)) ?_
  refine wp_load_row 135 _ rfl (w.heap.size + 1) rfl 135 P1 (0, 0) _ AP.out Tryz.underlying135 rfl i1 ?_
  have hS1 := hS
  refine hK.out _ _ hS1 (fun hS1 => ?_)
  clear hK K
  try simp only [lay]
  refine wpAnyH_ready (rs := [5]) (by kernel_rfl) (by simp) ?_
  refine AllReadyH.cons rfl (fun K hK => ?_) AllReadyH.nil
  go_simp
  refine (CX0 _).out.mono ?_; rintro e x2 ⟨rfl, hb⟩
  have hS2 := hS1.next hb
  have AP := Lib.hid (AP.out.up hb)
  have AZ := Lib.hid (AZ.out.up hb)
  clear hb
  refine hK.out _ _ hS2 (fun hS2 => ?_)
  clear hK K
  try simp only [lay]
  refine wpAnyH_ready (rs := [6]) (by kernel_rfl) (by simp) ?_
  refine AllReadyH.cons rfl (fun K hK => ?_) AllReadyH.nil
  refine Eq.mpr (if_pos (by rfl)) ?_
  refine wp_store_row 135 _ _ rfl (w.heap.size + 1) (pc (S 0)) rfl rfl 135 _ AP.out i2 hz0 hone0 ?_
  have AP2 := Lib.hid (AP.out.row (pc (S 0)))
  have AZ2 := Lib.hid (AZ.out.other (g := w.heap.size + 1) (pc (S 0)) (by omega))
  have hS3 := hS2.put2 (g := w.heap.size + 1) (by omega) (pc (S 0))
  refine hK.out _ _ hS3 (fun hS3 => ?_)
  clear hK K
  try simp only [lay]
  refine wpAnyH_done (by kernel_rfl) ?_ _
  have HS2 := Lib.hid hS3
  generalize x2.setRow (w.heap.size + 1) (pc (S 0)) = W1 at *
  have c1 : W1.cell? ⟨w.heap.size, 0, none⟩ = some (.slice (some ⟨g, 0, none⟩) (q + 1 + 1) c) := (HS2.out.1 (w.heap.size, 87, #[.slice (some ⟨g, 0, none⟩) (q + 1 + 1) c, .func (.func FB) #[] #[], .bool bk]) (by simp)).cell (j := 0) rfl
  clear AP AZ hS CX0 c0 HW hS0
  go_wp2
  clear c1 hl0 i1 i2 hone0 hz0 HK0
  go_loopw [23] (fun v wr => ∃ j : Nat, j ≤ q ∧ v = .int .i64 (j : Int) ∧ Hold w [(w.heap.size, 87, #[.slice (some ⟨g, 0, none⟩) (q + 1 + 1) c, .func (.func FB) #[] #[], .bool bk])] wr ∧ RQ wr (w.heap.size + 1) 135 (pc (S j)) ∧ RQ wr (w.heap.size + 1 + 1) 135 #[.int .u64 0, .int .u64 0, .int .u64 0, .int .u64 0, .int .u64 0, .int .u64 0, .int .u64 0, .int .u64 0]) (fun v _ => q - (intOf v).toNat)
  case atStart => exact ⟨0, by omega, rfl, HS2.out, AP2.out, AZ2.out⟩
  case round =>
    obtain ⟨j, hj, rfl, hho, hap, haz⟩ := hrel
    clear HS2 AP2 AZ2
    have hie : (Tryz.prog.info? 87).map (·.size) = some (#[.slice (some ⟨g, 0, none⟩) (q + 1 + 1) c, .func (.func FB) #[] #[], .bool bk] : Array Value).size := by kernel_rfl
    by_cases hlt : j < q
    · have hj1 : (j : Int) < (q : Int) := by omega
      have hj0 : (0 : Int) ≤ (j : Int) := by omega
      have q2 : IntKind.i64.wrap ((j : Int) + 1) = (j : Int) + 1 := IntWalk.i64_in _ (by omega)
      have CB6 := fun W => CBR (S j) W
      have CC6 := fun W hW => CCO (rowsB (stepOf bk) fun i => f (S j i)) W hW
      have CX6 := fun W => CX (colsB mf (rowsB (stepOf bk) fun i => f (S j i))) (keyB (K (j + 1))) W
      rw [HSM.out j (by omega)] at CX6
      have RK := Lib.hid (HKR.out wr hho.2 (j + 1) (by omega))
      have hlk := pl_len (keyB (K (j + 1)))
      have hik := planes_info (keyB (K (j + 1)))
      have honek := pc_one (keyB (K (j + 1)))
      have hzk : zeroQ.size = (pc (keyB (K (j + 1)))).size := by rw [pc_size]; rfl
      have hi0 := planes_info (S j)
      have hi2 := planes_info (S (j + 1))
      have hone2 := pc_one (S (j + 1))
      have hz2 : (pc (S j)).size = (pc (S (j + 1))).size := by rw [pc_size, pc_size]
      have ek : pc (keyB (K (j + 1))) = (pc (keyB (K (j + 1)))).toList.toArray := Array.toArray_toList.symm
      obtain ⟨LK, hLK⟩ : ∃ LK, (pc (keyB (K (j + 1)))).toList = LK := ⟨_, rfl⟩
      rw [hLK] at RK hlk ek
      rw [ek] at hik honek hzk CX6
      generalize pc (colsB mf (rowsB (stepOf bk) fun i => f (S j i))) = CO at *
      generalize pc (rowsB (stepOf bk) fun i => f (S j i)) = BX at *
      obtain ⟨P2, hP2⟩ : ∃ P2, pc (S (j + 1)) = P2 := ⟨_, rfl⟩
      rw [hP2] at CX6 hi2 hone2 hz2
      have HP2 := Lib.hid hP2
      generalize pc (S j) = P0 at *
      have M := Lib.hid (RQ.new wr 135 zeroQ)
      obtain ⟨W6, hW6⟩ : ∃ W6, (wr.alloc (.cells zeroQ 135)).setRow wr.heap.size LK.toArray = W6 := ⟨_, rfl⟩
      have r6 : RQ W6 wr.heap.size 135 LK.toArray := by rw [← hW6]; exact M.out.row _
      have b6 : Below wr.heap.size wr W6 := hW6 ▸ below_setRow ((Below.refl _ _).alloc (Nat.le_refl _) _) (Nat.le_refl _) _
      have h6 := hho.next b6
      have hS0 : Hold w [(w.heap.size, 87, #[.slice (some ⟨g, 0, none⟩) (q + 1 + 1) c, .func (.func FB) #[] #[], .bool bk]), (wr.heap.size, 135, LK.toArray)] W6.drew := ⟨by
        simp only [List.mem_cons, List.not_mem_nil, or_false]
        rintro x (rfl | rfl)
        · exact h6.1 _ (by simp)
        · exact r6, h6.2.drew⟩
      have AP : Hid (RQ W6.drew (w.heap.size + 1) 135 P0) := Lib.hid (hap.up b6.drew)
      have AZ : Hid (RQ W6.drew (w.heap.size + 1 + 1) 135 #[.int .u64 0, .int .u64 0, .int .u64 0, .int .u64 0, .int .u64 0, .int .u64 0, .int .u64 0, .int .u64 0]) := Lib.hid (haz.up b6.drew)
      have HLT : Hid (w.heap.size + 1 < wr.heap.size) := Lib.hid hap.lt
      have HW6 := Lib.hid hW6
      unfold zeroQ at M HW6 hzk
      clear hho hap haz hLK hW6 r6 b6 h6 ek hP2 CBR CX HS0 hz
      go_wp2_with (first
        | (refine wpList_load_mid rfl 135 _ rfl g _ rfl LK _ (by have h := RK.out; first | exact h | (rw [show ∀ a : Nat, 8 + a * 8 = 8 * (a + 1) from fun a => by omega]; exact h) | (rw [show ∀ a : Nat, (1 + a) * 8 = 8 * (a + 1) from fun a => by omega]; exact h)) Tryz.underlying135 rfl hlk ?_)
        | (refine wpList_store_row rfl 135 _ _ rfl wr.heap.size LK.toArray rfl rfl 135 _ M.out hik hzk honek ?_; rw [HW6.out]))
      refine wp_region_held_drew (S := Hold w [(w.heap.size, 87, #[.slice (some ⟨g, 0, none⟩) (q + 1 + 1) c, .func (.func FB) #[] #[], .bool bk]), (wr.heap.size, 135, LK.toArray)]) (by kernel_rfl) hS0 (fun hS => ?_)
      refine wpAnyH_take (i := 0) (v := .agg #[.slice (some ⟨g, 0, none⟩) (q + 1 + 1) c, .func (.func FB) #[] #[], .bool bk]) rfl (by kernel_rfl) (by kernel_rfl) (by kernel_rfl) (fun _ _ _ h => h) (Or.inl ⟨by kernel_rfl, fun V hV => exec_load_row 87 _ rfl w.heap.size rfl 87 #[.slice (some ⟨g, 0, none⟩) (q + 1 + 1) c, .func (.func FB) #[] #[], .bool bk] _ (hV.1 (w.heap.size, 87, #[.slice (some ⟨g, 0, none⟩) (q + 1 + 1) c, .func (.func FB) #[] #[], .bool bk]) (by simp)) Tryz.underlying87 rfl hie⟩) (by assumption) ?_
      try simp only [lay]
      refine tk 3 (v := ?_) ?_ hS ?_
      rotate_left
      · intro V hSw
        go_simp
        first | done | with_reducible rfl
      try simp only [lay]
      refine tk 4 (v := ?_) ?_ hS ?_
      rotate_left
      · intro V hSw
        have cc := (hSw.1 (w.heap.size, 87, #[.slice (some ⟨g, 0, none⟩) (q + 1 + 1) c, .func (.func FB) #[] #[], .bool bk]) (by simp)).cell (j := 2) rfl
        go_simp
        first | done | with_reducible rfl
      try simp only [lay]
      refine wpAnyH_take (i := 6) (v := .agg LK.toArray) rfl (by kernel_rfl) (by kernel_rfl) (by kernel_rfl) (fun _ _ _ h => h) (Or.inl ⟨by kernel_rfl, fun V hV => exec_load_row 135 _ rfl wr.heap.size rfl 135 LK.toArray _ (hV.1 (wr.heap.size, 135, LK.toArray) (by simp)) Tryz.underlying135 rfl hik⟩) (by assumption) ?_
      try simp only [lay]
      refine wpAnyH_ready (rs := [1]) (by kernel_rfl) (by simp) ?_
      refine AllReadyH.cons rfl (fun K hK => ?_) AllReadyH.nil
      refine Eq.mpr (if_pos (by rfl)) ?_
      refine wp_load_row 135 _ rfl (w.heap.size + 1) rfl 135 P0 (0, 0) _ AP.out Tryz.underlying135 rfl hi0 ?_
      have hS1 := hS
      refine hK.out _ _ hS1 (fun hS1 => ?_)
      clear hK K
      try simp only [lay]
      refine wpAnyH_ready (rs := [2]) (by kernel_rfl) (by simp) ?_
      refine AllReadyH.cons rfl (fun K hK => ?_) AllReadyH.nil
      go_simp
      refine (CB6 _).out.mono ?_; rintro e x2 ⟨rfl, hb⟩
      have hS2 := hS1.next hb
      have AP := Lib.hid (AP.out.up hb)
      have AZ := Lib.hid (AZ.out.up hb)
      clear hb
      refine hK.out _ _ hS2 (fun hS2 => ?_)
      clear hK K
      try simp only [lay]
      refine wpAnyH_ready (rs := [5]) (by kernel_rfl) (by simp) ?_
      refine AllReadyH.cons rfl (fun K hK => ?_) AllReadyH.nil
      go_simp
      refine (CC6 _ hS2.2).out.mono ?_; rintro e x3 ⟨rfl, hb⟩
      have hS3 := hS2.next hb
      have AP := Lib.hid (AP.out.up hb)
      have AZ := Lib.hid (AZ.out.up hb)
      clear hb
      refine hK.out _ _ hS3 (fun hS3 => ?_)
      clear hK K
      try simp only [lay]
      refine wpAnyH_ready (rs := [7]) (by kernel_rfl) (by simp) ?_
      refine AllReadyH.cons rfl (fun K hK => ?_) AllReadyH.nil
      go_simp
      refine (CX6 _).out.mono ?_; rintro e x4 ⟨rfl, hb⟩
      have hS4 := hS3.next hb
      have AP := Lib.hid (AP.out.up hb)
      have AZ := Lib.hid (AZ.out.up hb)
      clear hb
      refine hK.out _ _ hS4 (fun hS4 => ?_)
      clear hK K
      try simp only [lay]
      refine wpAnyH_ready (rs := [8]) (by kernel_rfl) (by simp) ?_
      refine AllReadyH.cons rfl (fun K hK => ?_) AllReadyH.nil
      refine Eq.mpr (if_pos (by rfl)) ?_
      refine wp_store_row 135 _ _ rfl (w.heap.size + 1) P2 rfl rfl 135 _ AP.out hi2 hz2 hone2 ?_
      have AP2 := Lib.hid (AP.out.row P2)
      have AZ2 := Lib.hid (AZ.out.other (g := w.heap.size + 1) P2 (by omega))
      have hS5 := hS4.put2 (g := w.heap.size + 1) (by omega) P2 (by have := HLT.out; simp; omega)
      refine hK.out _ _ hS5 (fun hS5 => ?_)
      clear hK K
      try simp only [lay]
      refine wpAnyH_done (by kernel_rfl) ?_ _
      have HS2 := Lib.hid hS5
      generalize x4.setRow (w.heap.size + 1) P2 = W2 at *
      clear AP AZ hS
      go_wp2
      go_roundw
      case rel => exact ⟨j + 1, by omega, by go_num, ⟨fun x hx => HS2.out.1 x (by simp only [List.mem_cons, List.not_mem_nil, or_false] at hx ⊢; exact .inl hx), HS2.out.2⟩, by rw [HP2.out]; exact AP2.out, AZ2.out⟩
      case measure => simp [intOf]; omega
    · obtain rfl : j = q := by omega
      have CB8 := fun W => CBR (S j) W
      have CX8 := fun W => CX (rowsB (stepOf bk) fun i => f (S j i)) (keyB (K (j + 1))) W
      rw [HSE.out] at CX8
      have HKE : Hid (∀ V, Below w.heap.size w V → V.rangeAt g (8 * (j + 1)) (pc (keyB (K (j + 1)))).toList) := Lib.hid fun V hV => HKR.out V hV (j + 1) (by omega)
      have hle := pl_len (keyB (K (j + 1)))
      have hi0 := planes_info (S j)
      have hi2 := planes_info (S (j + 1))
      have hone2 := pc_one (S (j + 1))
      have hz2 : zeroQ.size = (pc (S (j + 1))).size := by rw [pc_size]; rfl
      have ek : pc (keyB (K (j + 1))) = (pc (keyB (K (j + 1)))).toList.toArray := Array.toArray_toList.symm
      obtain ⟨LE, hLE⟩ : ∃ LE, (pc (keyB (K (j + 1)))).toList = LE := ⟨_, rfl⟩
      rw [hLE] at HKE hle ek
      rw [ek] at CX8
      generalize pc (rowsB (stepOf bk) fun i => f (S j i)) = BX at *
      obtain ⟨P2, hP2⟩ : ∃ P2, pc (S (j + 1)) = P2 := ⟨_, rfl⟩
      rw [hP2] at CX8 hi2 hone2 hz2
      have HP2 := Lib.hid hP2
      clear hP2
      generalize pc (S j) = P0 at *
      have hS0 : Hold w [(w.heap.size, 87, #[.slice (some ⟨g, 0, none⟩) (j + 1 + 1) c, .func (.func FB) #[] #[], .bool bk]), (w.heap.size + 1, 135, P0)] wr.drew := ⟨by
        simp only [List.mem_cons, List.not_mem_nil, or_false]
        rintro x (rfl | rfl)
        · exact hho.1 _ (by simp)
        · exact hap, hho.2.drew⟩
      have AZ : Hid (RQ wr.drew (w.heap.size + 1 + 1) 135 #[.int .u64 0, .int .u64 0, .int .u64 0, .int .u64 0, .int .u64 0, .int .u64 0, .int .u64 0, .int .u64 0]) := Lib.hid haz
      unfold zeroQ at hz2
      clear hho hap haz hLE ek CBR CX HS0 HSM CCO hz
      go_wp2
      refine wp_region_held_drew (S := Hold w [(w.heap.size, 87, #[.slice (some ⟨g, 0, none⟩) (j + 1 + 1) c, .func (.func FB) #[] #[], .bool bk]), (w.heap.size + 1, 135, P0)]) (by kernel_rfl) hS0 (fun hS => ?_)
      refine wpAnyH_take (i := 0) (v := .agg #[.slice (some ⟨g, 0, none⟩) (j + 1 + 1) c, .func (.func FB) #[] #[], .bool bk]) rfl (by kernel_rfl) (by kernel_rfl) (by kernel_rfl) (fun _ _ _ h => h) (Or.inl ⟨by kernel_rfl, fun V hV => exec_load_row 87 _ rfl w.heap.size rfl 87 #[.slice (some ⟨g, 0, none⟩) (j + 1 + 1) c, .func (.func FB) #[] #[], .bool bk] _ (hV.1 (w.heap.size, 87, #[.slice (some ⟨g, 0, none⟩) (j + 1 + 1) c, .func (.func FB) #[] #[], .bool bk]) (by simp)) Tryz.underlying87 rfl hie⟩) (by assumption) ?_
      try simp only [lay]
      refine wpAnyH_take (i := 1) (v := .agg P0) rfl (by kernel_rfl) (by kernel_rfl) (by kernel_rfl) (fun _ _ _ h => h) (Or.inl ⟨by kernel_rfl, fun V hV => exec_load_row 135 _ rfl (w.heap.size + 1) rfl 135 P0 _ (hV.1 ((w.heap.size + 1), 135, P0) (by simp)) Tryz.underlying135 rfl hi0⟩) (by assumption) ?_
      try simp only [lay]
      refine tk 3 (v := ?_) ?_ hS ?_
      rotate_left
      · intro V hSw
        go_simp
        first | done | with_reducible rfl
      try simp only [lay]
      refine tk 4 (v := ?_) ?_ hS ?_
      rotate_left
      · intro V hSw
        have cc := (hSw.1 (w.heap.size, 87, #[.slice (some ⟨g, 0, none⟩) (j + 1 + 1) c, .func (.func FB) #[] #[], .bool bk]) (by simp)).cell (j := 0) rfl
        go_simp
        first | done | with_reducible rfl
      try simp only [lay]
      refine tk 5 (v := ?_) ?_ hS ?_
      rotate_left
      · intro V hSw
        go_simp
        first | done | with_reducible rfl
      try simp only [lay]
      refine tk 6 (v := ?_) ?_ hS ?_
      rotate_left
      · intro V hSw
        go_simp
        first | done | with_reducible rfl
      try simp only [lay]
      refine wpAnyH_take (i := 7) (v := .agg LE.toArray) rfl (by kernel_rfl) (by kernel_rfl) (by kernel_rfl) (fun _ _ _ h => h) (yieldsIf_load_mid (by kernel_rfl) 135 _ rfl g _ rfl LE _ (fun V hV => by have h := HKE.out V hV.2; first | exact h | (rw [Nat.mul_comm]; exact h) | (simpa [Nat.mul_comm] using h)) Tryz.underlying135 rfl hle) hS ?_
      try simp only [lay]
      refine wpAnyH_ready (rs := [2]) (by kernel_rfl) (by simp) ?_
      refine AllReadyH.cons rfl (fun K hK => ?_) AllReadyH.nil
      go_simp
      refine (CB8 _).out.mono ?_; rintro e x1 ⟨rfl, hb⟩
      have hS1 := hS.next hb
      have AZ := Lib.hid (AZ.out.up hb)
      clear hb
      refine hK.out _ _ hS1 (fun hS1 => ?_)
      clear hK K
      try simp only [lay]
      refine wpAnyH_ready (rs := [8]) (by kernel_rfl) (by simp) ?_
      refine AllReadyH.cons rfl (fun K hK => ?_) AllReadyH.nil
      go_simp
      refine (CX8 _).out.mono ?_; rintro e x2 ⟨rfl, hb⟩
      have hS2 := hS1.next hb
      have AZ := Lib.hid (AZ.out.up hb)
      clear hb
      refine hK.out _ _ hS2 (fun hS2 => ?_)
      clear hK K
      try simp only [lay]
      refine wpAnyH_ready (rs := [9]) (by kernel_rfl) (by simp) ?_
      refine AllReadyH.cons rfl (fun K hK => ?_) AllReadyH.nil
      refine Eq.mpr (if_pos (by rfl)) ?_
      refine wp_store_row 135 _ _ rfl (w.heap.size + 1 + 1) P2 rfl rfl 135 _ AZ.out hi2 hz2 hone2 ?_
      have HSR := Lib.hid (AZ.out.row P2)
      have hS3 := hS2.put2 (g := w.heap.size + 1 + 1) (by omega) P2
      refine hK.out _ _ hS3 (fun hS3 => ?_)
      clear hK K
      try simp only [lay]
      refine wpAnyH_done (by kernel_rfl) ?_ _
      clear AZ
      go_wp2
      refine bodyPost_ret (v := .agg P2) ?_ rfl ⟨by rw [HP2.out], hS3.2⟩
      exact results_cell_row rfl _ _ (w.heap.size + 1 + 1) 135 P2 (0, 0) _ rfl (by have h := HSR.out; exact h) Tryz.underlying135 rfl hi2
end Go.Proofs.YtbfmbdohebdbaaaGreatDoor
set_option linter.unusedVariables false
set_option linter.unusedSimpArgs false
namespace Go.Proofs.YtbfmbdohebdbaaaGreatDoor
open Go Go.RowKit
attribute [local go_sem ↓] Go.wp_at_zero Go.wp_at_succ

theorem owns_low {w : World} {B C e size n : Nat} {v : Value} {xs : List Value} (h : w.ownsRow C e size v n xs) (hBC : B ≤ C) : w.ownsRow B e size v n xs := by
  refine ⟨h.1, ?_⟩
  rcases h.2 with hn | ⟨g, cap, cur, hv, hB, rest⟩
  · exact .inl hn
  · exact .inr ⟨g, cap, cur, hv, Nat.le_trans hBC hB, rest⟩
theorem txt_head (r : Nat → UInt8) (n k : Nat) (h : k ≤ n) : (txt r n).extract 0 k = txt r k := by
  rw [txt_ex r n 0 k (by omega) h, Nat.sub_zero]
  exact txt_ext _ _ k fun i _ => by rw [Nat.zero_add]
/-- what comes out of planes are the blocks, each changed by itself. -/
theorem planes_blocks (s r : Nat → UInt8) (T : ByteArray → ByteArray) (m : Nat) (h : ∀ j, blk r j = T (blk (byteOf (txt s (16 * m))) j)) : cells8 (upTo (byteOf (txt r (16 * m))) (16 * m)) = cells8 (upTo (eachB T s) (16 * m)) := by
  refine congrArg cells8 (upTo_congr _ _ _ fun i hi => ?_)
  rw [txt_byte _ _ _ hi]
  have e1 : blk (byteOf (txt s (16 * m))) (i / 16) = blk s (i / 16) := blk_ext fun k hk => txt_byte _ _ _ (by omega)
  have e2 := blk_byte r (i / 16) (i % 16) (by omega)
  rw [show 16 * (i / 16) + i % 16 = i by omega] at e2
  rw [← e2, h, e1]; rfl
set_option maxRecDepth 100000 in
set_option maxHeartbeats 6400000 in
theorem slThrough_impl (f : UInt8 → UInt8) (bk : Bool) (mf : UInt32 → UInt32) (FB : FuncId) (K : Nat → ByteArray) (g q c : Nat) (hq : q ≤ 100) (hc : q + 1 + 1 ≤ c) (hcm : c ≤ 9223372036854775807) (HE : ∀ (args : Array Value) (W : World), (callFunc FB args).run Tryz.prog W = .ok (.enter FB args) W)
    (HB : ∀ s W, Calls Tryz.prog FB #[.agg (pc s)] W fun e w' => e = .returned (.agg (pc (fun i => f (s i)))) ∧ Below W.heap.size W w') (w : World)
    (HC : ∀ s W, Below w.heap.size w W → Calls Tryz.prog 234 #[.agg (pc s), .bool bk] W fun e w' => e = .returned (.agg (pc (colsB mf s))) ∧ Below W.heap.size W w')
    (hk : PlKeys w g (q + 1 + 1) K) (s : Nat → UInt8) (T : ByteArray → ByteArray) (hT : ∀ u j, blk (wkP f (stepOf bk) mf K (q + 1) u (q + 1)) j = T (blk u j)) (g2 m c2 : Nat) (hm : m ≤ 4) (hmc : m ≤ c2) (hv : StBl w g2 m s) :
    Calls Tryz.prog 230 #[.agg #[.slice (some ⟨g, 0, none⟩) (q + 1 + 1) c, .func (.func FB) #[] #[], .bool bk], .slice (some ⟨g2, 0, none⟩) m c2] w fun e w' => ∃ dv, e = .returned dv ∧ w'.ownsRow w.heap.size 146 16 dv m (cells8 (upTo (eachB T s) (16 * m))) ∧ Below w.heap.size w w' := by
  obtain ⟨W0, hW⟩ : ∃ W0, w.alloc (.cells #[.slice (some ⟨g, 0, none⟩) (q + 1 + 1) c, .func (.func FB) #[] #[], .bool bk] 87) = W0 := ⟨_, rfl⟩
  have a1 : RQ W0 w.heap.size 87 #[.slice (some ⟨g, 0, none⟩) (q + 1 + 1) c, .func (.func FB) #[] #[], .bool bk] := by rw [← hW]; exact RQ.new w _ _
  have b1 : Below w.heap.size w W0 := by rw [← hW]; exact (Below.refl _ _).alloc (Nat.le_refl _) _
  have CX := Lib.hid (textOf_impl s g2 m c2 (by omega) hmc W0 (hv.up b1))
  have htz : (txt s (16 * m)).size = 16 * m := txt_size _ _
  have CT := fun W => Lib.hid (ToPlanes_impl (txt s (16 * m)) W (by rw [htz]; omega))
  have CRO := fun W (hW : Below w.heap.size w W) => Lib.hid (rounds_impl f bk mf FB K g q c hq hc hcm HE HB W (fun s W2 h2 => HC s W2 (hW.trans (h2.mono hW.size))) (hk.up hW hk.1) (byteOf (txt s (16 * m))))
  obtain ⟨r, hr⟩ : ∃ r, wkP f (stepOf bk) mf K (q + 1) (byteOf (txt s (16 * m))) (q + 1) = r := ⟨_, rfl⟩
  have CF := fun W => Lib.hid (FromPlanes_impl r W)
  have hsl : ∀ W, (Instr.slice 9 (.string (txt r 64)) none (some (.int .i64 (((16 * m : Nat) : Int)))) none).run Tryz.prog W = .ok (.string (txt r (16 * m))) W := fun W => by
    have h := run_slice_string_h (P := Tryz.prog) W 9 (txt r 64) Tryz.underlying9 .i64 (((16 * m : Nat) : Int)) (by omega) (by rw [txt_size]; omega)
    rw [h, Int.toNat_natCast, txt_head r 64 (16 * m) (by omega)]
  have hE := planes_blocks s r T m (fun j => by rw [← hr]; exact hT _ j)
  have CS := fun W => Lib.hid (statesOf_impl (txt r (16 * m)) m (by rw [txt_size]; omega) (by rw [txt_size]; omega) W)
  rw [hE] at CS
  simp only [hr] at CRO
  have hie : (Tryz.prog.info? 87).map (·.size) = some (#[.slice (some ⟨g, 0, none⟩) (q + 1 + 1) c, .func (.func FB) #[] #[], .bool bk] : Array Value).size := by kernel_rfl
  have HW := Lib.hid hW
  have A1 := Lib.hid a1
  have B1 := Lib.hid b1
  clear hW a1 b1 hE hr hT hv hmc HC hk HB
  obtain ⟨n16, hn16⟩ : ∃ n16, 16 * m = n16 := ⟨_, rfl⟩
  rw [hn16] at htz
  simp only [hn16] at CX CT CRO hsl CS
  generalize pc (byteOf (txt s n16)) = PA at *
  generalize pc r = PR at *
  generalize txt r 64 = T64 at *
  generalize txt r n16 = TR at *
  generalize txt s n16 = TS at *
  have htzI : ((TS.size : Nat) : Int) = (n16 : Int) := by rw [htz]
  clear htz
  go_enter Tryz.func230, Tryz.ntmps230
  go_wp2_with fail
  rw [HW.out]
  refine CX.out.mono ?_; rintro e w1 ⟨rfl, hb1⟩
  have A2 := Lib.hid (A1.out.up hb1)
  have B2 := Lib.hid (B1.out.trans (hb1.mono B1.out.size))
  have hS0 : Hold w [(w.heap.size, 87, #[.slice (some ⟨g, 0, none⟩) (q + 1 + 1) c, .func (.func FB) #[] #[], .bool bk])] w1.drew := ⟨by simp only [List.mem_cons, List.not_mem_nil, or_false]; rintro x rfl; exact A2.out, B2.out.drew⟩
  clear hb1 A1 B1 A2 B2 CX HW
  go_wp2
  refine wp_region_held_drew (S := Hold w [(w.heap.size, 87, #[.slice (some ⟨g, 0, none⟩) (q + 1 + 1) c, .func (.func FB) #[] #[], .bool bk])]) (by kernel_rfl) hS0 (fun hS => ?_)
  refine wpAnyH_take (i := 0) (v := .agg #[.slice (some ⟨g, 0, none⟩) (q + 1 + 1) c, .func (.func FB) #[] #[], .bool bk]) rfl (by kernel_rfl) (by kernel_rfl) (by kernel_rfl) (fun _ _ _ h => h) (Or.inl ⟨by kernel_rfl, fun V hV => exec_load_row 87 _ rfl w.heap.size rfl 87 #[.slice (some ⟨g, 0, none⟩) (q + 1 + 1) c, .func (.func FB) #[] #[], .bool bk] _ (hV.1 (w.heap.size, 87, #[.slice (some ⟨g, 0, none⟩) (q + 1 + 1) c, .func (.func FB) #[] #[], .bool bk]) (by simp)) Tryz.underlying87 rfl hie⟩) (by assumption) ?_
  try simp only [lay]
  refine tk 1 (v := ?_) ?_ hS ?_
  rotate_left
  · intro V hSw
    go_simp
    first | done | with_reducible rfl
  try simp only [lay]
  refine wpAnyH_ready (rs := [2]) (by kernel_rfl) (by simp) ?_
  refine AllReadyH.cons rfl (fun K hK => ?_) AllReadyH.nil
  go_simp
  refine (CT _).out.mono ?_; rintro e x1 ⟨rfl, hb⟩
  have hS1 := hS.next hb
  clear hb
  refine hK.out _ _ hS1 (fun hS1 => ?_)
  clear hK K
  try simp only [lay]
  refine wpAnyH_ready (rs := [3]) (by kernel_rfl) (by simp) ?_
  refine AllReadyH.cons rfl (fun K hK => ?_) AllReadyH.nil
  go_simp
  refine (CRO _ hS1.2).out.mono ?_; rintro e x2 ⟨rfl, hb⟩
  have hS2 := hS1.next hb
  clear hb
  refine hK.out _ _ hS2 (fun hS2 => ?_)
  clear hK K
  try simp only [lay]
  refine wpAnyH_ready (rs := [4]) (by kernel_rfl) (by simp) ?_
  refine AllReadyH.cons rfl (fun K hK => ?_) AllReadyH.nil
  go_simp
  refine (CF _).out.mono ?_; rintro e x3 ⟨rfl, hb⟩
  have hS3 := hS2.next hb
  clear hb
  refine hK.out _ _ hS3 (fun hS3 => ?_)
  clear hK K
  try simp only [lay]
  refine wpAnyH_ready (rs := [5]) (by kernel_rfl) (by simp) ?_
  refine AllReadyH.cons rfl (fun K hK => ?_) AllReadyH.nil
  go_simp
  have hS4 := hS3
  refine hK.out _ _ hS4 (fun hS4 => ?_)
  clear hK K
  try simp only [lay]
  refine wpAnyH_done (by kernel_rfl) ?_ _
  have HS2 := Lib.hid hS4
  clear hS CT CRO CF
  go_wp2_with fail
  refine (CS _).out.mono ?_; rintro e w9 ⟨rfl, h9, hb9⟩
  have HO9 := Lib.hid (owns_low h9 HS2.out.2.size)
  have HB9 := Lib.hid (HS2.out.2.trans (hb9.mono HS2.out.2.size))
  clear h9 hb9
  go_wp2
  exact ⟨rfl, _, results_tmp rfl _ _ _, _, rfl, by rw [hn16]; exact HO9.out, HB9.out⟩
set_option maxRecDepth 100000 in
theorem by1_impl (key t x : ByteArray) (FW : FuncId) (HE : ∀ (args : Array Value) (W : World), (callFunc FW args).run Tryz.prog W = .ok (.enter FW args) W) (b : Nat) (w : World)
    (hb : RAt w b 75 #[.string key, .func (.func FW) #[] #[]]) (HF : Calls Tryz.prog FW #[.string key, .string t] w fun e w' => e = .returned (.string x) ∧ Below w.heap.size w w') :
    Calls Tryz.prog 221 #[.string t, .pointer (some ⟨b, 0, none⟩)] w fun e w' => e = .returned (.string x) ∧ Below w.heap.size w w' := by
  have c0 : w.cell? ⟨b, 0, none⟩ = some (.string key) := hb.cell rfl
  have c1 : w.cell? ⟨b, 1, none⟩ = some (.func (.func FW) #[] #[]) := hb.cell rfl
  have HFH := Lib.hid HF
  clear hb HF
  go_enter Tryz.func221, Tryz.ntmps221
  go_wp2_with fail
  refine HFH.out.mono ?_; rintro e w1 ⟨rfl, hb1⟩
  have HB1 := Lib.hid hb1
  clear hb1 c0 c1 HFH
  go_wp2
  exact ⟨rfl, _, results_tmp rfl _ _ _, rfl, HB1.out⟩
set_option maxRecDepth 100000 in
set_option maxHeartbeats 1600000 in
theorem byThrough_impl (key : ByteArray) (FW : FuncId) (HE : ∀ (args : Array Value) (W : World), (callFunc FW args).run Tryz.prog W = .ok (.enter FW args) W) (w : World) (s : Nat → UInt8) (T : ByteArray → ByteArray) (hT : ∀ b, b.size = 16 → (T b).size = 16)
    (HF : ∀ b, b.size = 16 → ∀ W, Below w.heap.size w W → Calls Tryz.prog FW #[.string key, .string b] W fun e w' => e = .returned (.string (T b)) ∧ Below W.heap.size W w') (g2 m c2 : Nat) (hm : m ≤ 262144) (hmc : m ≤ c2) (hv : StBl w g2 m s) :
    Calls Tryz.prog 219 #[.agg #[.string key, .func (.func FW) #[] #[]], .slice (some ⟨g2, 0, none⟩) m c2] w fun e w' => ∃ dv, e = .returned dv ∧ w'.ownsRow w.heap.size 146 16 dv m (cells8 (upTo (eachB T s) (16 * m))) ∧ Below w.heap.size w w' := by
  have hmf : ∀ (fn : Fn) (first cap : Array Value) (w : World), (Instr.makeFunc fn first cap).run Tryz.prog w = .ok (.func fn first cap) w := fun _ _ _ _ => rfl
  obtain ⟨W0, hW⟩ : ∃ W0, w.alloc (.cells #[.string key, .func (.func FW) #[] #[]] 75) = W0 := ⟨_, rfl⟩
  have a1 : RAt W0 w.heap.size 75 #[.string key, .func (.func FW) #[] #[]] := by rw [← hW]; exact RAt.new w _ _
  have b1 : Below w.heap.size w W0 := by rw [← hW]; exact (Below.refl _ _).alloc (Nat.le_refl _) _
  have CE := Lib.hid (eachBlock_cap s T hT 221 (.pointer (some ⟨w.heap.size, 0, none⟩)) g2 m c2 hm hmc W0 (hv.up b1) (enters_of Tryz.func221 (by kernel_rfl) rfl)
    (fun j hj W hW2 => by1_impl key (blk s j) (T (blk s j)) FW HE w.heap.size W (a1.up hW2) (HF _ (blk_size s j) W (b1.trans (hW2.mono b1.size)))))
  have HW := Lib.hid hW
  have B1 := Lib.hid b1
  clear hW a1 b1 hv HF hT HE
  go_enter Tryz.func219, Tryz.ntmps219
  go_wp2_with fail
  rw [HW.out]
  refine CE.out.mono ?_; rintro e w1 ⟨dv, rfl, ho, hb1⟩
  have HO := Lib.hid (owns_low ho B1.out.size)
  have HB := Lib.hid (B1.out.trans (hb1.mono B1.out.size))
  clear ho hb1 CE
  go_wp2
  exact ⟨rfl, _, results_tmp rfl _ _ _, _, rfl, by exact HO.out, HB.out⟩
set_option maxRecDepth 100000 in
set_option maxHeartbeats 1600000 in
theorem tbThrough_impl (p : Nat) (w : World) (s : Nat → UInt8) (T : ByteArray → ByteArray) (hT : ∀ b, b.size = 16 → (T b).size = 16)
    (HF : ∀ b, b.size = 16 → ∀ W, Below w.heap.size w W → Calls Tryz.prog 222 #[.pointer (some ⟨p, 0, none⟩), .string b] W fun e w' => e = .returned (.string (T b)) ∧ Below W.heap.size W w') (g2 m c2 : Nat) (hm : m ≤ 262144) (hmc : m ≤ c2) (hv : StBl w g2 m s) :
    Calls Tryz.prog 228 #[.agg #[.pointer (some ⟨p, 0, none⟩)], .slice (some ⟨g2, 0, none⟩) m c2] w fun e w' => ∃ dv, e = .returned dv ∧ w'.ownsRow w.heap.size 146 16 dv m (cells8 (upTo (eachB T s) (16 * m))) ∧ Below w.heap.size w w' := by
  have hmf : ∀ (fn : Fn) (first cap : Array Value) (w : World), (Instr.makeFunc fn first cap).run Tryz.prog w = .ok (.func fn first cap) w := fun _ _ _ _ => rfl
  obtain ⟨W0, hW⟩ : ∃ W0, w.alloc (.cells #[.pointer (some ⟨p, 0, none⟩)] 80) = W0 := ⟨_, rfl⟩
  have a1 : RAt W0 w.heap.size 80 #[.pointer (some ⟨p, 0, none⟩)] := by rw [← hW]; exact RAt.new w _ _
  have b1 : Below w.heap.size w W0 := by rw [← hW]; exact (Below.refl _ _).alloc (Nat.le_refl _) _
  have CE := Lib.hid (eachBlock_meth s T hT 222 (.pointer (some ⟨p, 0, none⟩)) g2 m c2 hm hmc W0 (hv.up b1) (enters_of Tryz.func222 (by kernel_rfl) rfl)
    (fun j hj W hW2 => HF _ (blk_size s j) W (b1.trans (hW2.mono b1.size))))
  have c0 := a1.cell (j := 0) rfl
  rw [← hW] at c0
  have HW := Lib.hid hW
  have B1 := Lib.hid b1
  clear hW a1 b1 hv HF hT
  go_enter Tryz.func228, Tryz.ntmps228
  go_wp2_with fail
  rw [HW.out]
  refine CE.out.mono ?_; rintro e w1 ⟨dv, rfl, ho, hb1⟩
  have HO := Lib.hid (owns_low ho B1.out.size)
  have HB := Lib.hid (B1.out.trans (hb1.mono B1.out.size))
  clear ho hb1 CE
  go_wp2
  exact ⟨rfl, _, results_tmp rfl _ _ _, _, rfl, by exact HO.out, HB.out⟩
/-! ### planes of keys -/
theorem infoPl : (Tryz.prog.info? 135).map (fun i => (i.zero, i.size, i.bytes)) = some (some (.agg zeroQ), 8, 64) := by kernel_rfl
theorem infoFw : (Tryz.prog.info? 132).map (·.size) = some 4 := by kernel_rfl
/-- the cells of m planes of keys. -/
def plC (K : Nat → ByteArray) (m : Nat) : List Value := (List.range m).flatMap fun j => (pc (keyB (K j))).toList
theorem plC_up (K : Nat → ByteArray) (m : Nat) : plC K m ++ (pc (keyB (K m))).toList = plC K (m + 1) := by
  unfold plC; rw [List.range_succ, List.flatMap_append, List.flatMap_singleton]
theorem plC_len (K : Nat → ByteArray) : ∀ m, (plC K m).length = 8 * m
  | 0 => rfl
  | m + 1 => by rw [← plC_up, List.length_append, plC_len K m, Array.length_toList, pc_size]; omega
theorem plC_at (K : Nat → ByteArray) (j q : Nat) (hq : q < 8) : ∀ m, j < m → (plC K m)[8 * j + q]? = (pc (keyB (K j))).toList[q]?
  | 0, h => absurd h (by omega)
  | m + 1, h => by
    rw [← plC_up]
    by_cases hj : j < m
    · rw [List.getElem?_append_left (by rw [plC_len]; omega)]; exact plC_at K j q hq m hj
    · have e : j = m := by omega
      subst e
      rw [List.getElem?_append_right (by rw [plC_len]; omega), plC_len, Nat.add_sub_cancel_left]
theorem PlKeys.of_own {w : World} {B g m c : Nat} {K : Nat → ByteArray} (h : w.ownsRow B 135 8 (.slice (some ⟨g, 0, none⟩) m c) m (plC K m)) : PlKeys w g m K := by
  refine ⟨(h.lt g rfl).2, fun j hj => fun q v hv => ?_⟩
  have hq : q < 8 := by have := (List.getElem?_eq_some_iff.1 hv).1; rwa [Array.length_toList, pc_size] at this
  rw [h.cellAt (8 * j + q) (by omega), ← hv]
  exact plC_at K j q hq m hj
theorem fw_rng {w : World} {g m : Nat} {K : Nat → UInt32} (hk : ∀ i, i < 4 * m → w.cell? ⟨g, i, none⟩ = some (.int .u32 ((K i).toNat : Int))) (j : Nat) (hj : j < m) : w.rangeAt g (4 * j) (cells32 (upTo (fun i => K (4 * j + i)) 4)) := fun i v hv => by
  have hi : i < 4 := by have := (List.getElem?_eq_some_iff.1 hv).1; rwa [cells32_length, upTo_length] at this
  rw [hk _ (by omega), ← hv]
  exact (cells32_at _ _ _ (upTo_at (fun i => K (4 * j + i)) 4 i hi)).symm
theorem fw_sz (h : Nat → UInt32) : (Tryz.prog.info? 132).map (·.size) = some (cells32 (upTo h 4)).length := by rw [cells32_length, upTo_length]; exact infoFw
theorem fill_wholeP (n : Nat) (Z X : Array Value) (hZ : Z.size = n) (hX : X.size = n) : Instr.fill (fun i => some (i * n, n)) Z [(0, .agg X)] = some X := by
  have e : putAt Z 0 X = X := by
    apply Array.ext_getElem?
    intro i
    rw [putAt_get Z 0 X (by omega)]
    by_cases hi : i < X.size
    · rw [if_neg (by omega), if_pos (by omega), Nat.sub_zero]
    · rw [if_neg (by omega), if_neg (by omega), Array.getElem?_eq_none (by omega), Array.getElem?_eq_none (by omega)]
  rw [fill_at (fun i => some (i * n, n)) Z 0 (0 * n) n (.agg X) X [] rfl rfl hX (by omega), Nat.zero_mul, e]
  rfl
theorem planes_row {w : World} {B m : Nat} {v : Value} {K : Nat → ByteArray} (h : w.ownsRow B 135 8 v m (plC K m)) (hm : 0 < m) : ∃ g c, v = .slice (some ⟨g, 0, none⟩) m c ∧ m ≤ c ∧ c ≤ 9223372036854775807 ∧ PlKeys w g m K := by
  rcases h.2 with ⟨rfl, h0⟩ | ⟨g, cap, cur, rfl, hb, hg, hn, hx, hs, ht⟩
  · omega
  · exact ⟨g, cap, rfl, hn, by unfold maxLen at hx; omega, PlKeys.of_own h⟩
set_option maxRecDepth 100000 in
set_option maxHeartbeats 6400000 in
theorem planesOf_impl (Kw : Nat → UInt32) (g m c : Nat) (hm : m ≤ 100) (hm0 : 0 < m) (hmc : m ≤ c) (w : World) (hg : g < w.heap.size) (hk : ∀ i, i < 4 * m → w.cell? ⟨g, i, none⟩ = some (.int .u32 ((Kw i).toNat : Int))) :
    Calls Tryz.prog 58 #[.slice (some ⟨g, 0, none⟩) m c] w fun e w' => ∃ g' c', e = .returned (.slice (some ⟨g', 0, none⟩) m c') ∧ m ≤ c' ∧ c' ≤ 9223372036854775807 ∧ PlKeys w' g' m (fun j => blkW (fun i => Kw (4 * j + i))) ∧ Below w.heap.size w w' := by
  obtain ⟨i0, hi, hz0, hz1, hz2⟩ := info_parts infoPl
  obtain ⟨K, hK⟩ : ∃ K : Nat → ByteArray, (fun j => blkW (fun i => Kw (4 * j + i))) = K := ⟨_, rfl⟩
  have hKj : ∀ j, blkW (fun i => Kw (4 * j + i)) = K j := fun j => congrFun hK j
  have HV : Hid (∀ W, Below w.heap.size w W → ∀ j, j < m → W.rangeAt g (4 * j) (cells32 (upTo (fun i => Kw (4 * j + i)) 4))) := Lib.hid fun W hW => fw_rng (fun i hi => (hW.cell (p := ⟨g, i, none⟩) hg).trans (hk i hi))
  have CBO : Hid (∀ j G W, G < W.heap.size → (∀ i, i < 4 → W.cell? ⟨G, 0 + i, none⟩ = some (.int .u32 ((Kw (4 * j + i)).toNat : Int))) → Calls Tryz.prog 89 #[.slice (some ⟨G, 0, none⟩) 4 4] W fun e w' => e = .returned (.string (K j)) ∧ Below W.heap.size W w') := Lib.hid fun j G W h1 h2 => by
    rw [← hKj j]; exact blockOf_impl (fun i => Kw (4 * j + i)) G 0 4 W h1 h2
  have CPK := fun j W => Lib.hid (PlaneKey_impl (K j) W)
  have HU := fun k => Lib.hid (plC_up K k)
  have HL := fun j => Lib.hid (fw_sz (fun i => Kw (4 * j + i)))
  rw [hK]
  have hmI : (m : Int) ≤ 100 := by omega
  have hmcI : (m : Int) ≤ (c : Int) := by omega
  have HM := Lib.hid (And.intro hm hm0)
  clear hk hg hm hmc hK hKj hm0
  go_enter Tryz.func58, Tryz.ntmps58
  go_wp2
  go_loopw [3, 8] (fun pv v wr => ∃ k : Nat, k ≤ m ∧ v = .int .i64 k ∧ wr.ownsRow w.heap.size 135 8 pv k (plC K k) ∧ Below w.heap.size w wr) (fun _ v _ => m - (intOf v).toNat)
  case atStart => exact ⟨0, by omega, rfl, World.ownsRow_nil _ _ _ _, Below.refl _ _⟩
  case round =>
    obtain ⟨k, hk, rfl, hown, hbel⟩ := hrel
    by_cases hlt : k < m
    · have hk1 : (k : Int) < (m : Int) := by omega
      have hk0 : (0 : Int) ≤ (k : Int) := by omega
      have q2 : IntKind.i64.wrap ((k : Int) + 1) = (k : Int) + 1 := IntWalk.i64_in _ (by omega)
      have RK := Lib.hid (HV.out wr hbel k hlt)
      have hlk := (HL k).out
      have hul := HU k
      have CB1 := CBO.out k
      have CP1 := CPK k
      have hys : (pc (keyB (K k))).size = 8 := pc_size _
      obtain ⟨LK, hLK⟩ : ∃ LK, cells32 (upTo (fun i => Kw (4 * k + i)) 4) = LK := ⟨_, rfl⟩
      have hl1 : Hid (LK.length = 4) := Lib.hid (by rw [← hLK, cells32_length, upTo_length])
      have hone : LK.toArray.all (·.oneCell') = true := by rw [← hLK]; exact all_oneCell_toArray (cells32_one _)
      have hsk : (Tryz.prog.info? 132).map (·.size) = some LK.toArray.size := by rw [List.size_toArray, hl1.out]; exact infoFw
      have hat : ∀ i, i < 4 → LK.toArray[i]? = some (.int .u32 ((Kw (4 * k + i)).toNat : Int)) := fun i hi => by
        rw [List.getElem?_toArray, ← hLK]; exact cells32_at _ _ _ (upTo_at (fun i => Kw (4 * k + i)) 4 i hi)
      rw [hLK] at RK hlk
      have M := Lib.hid (RAt.new wr 132 #[.int .u32 0, .int .u32 0, .int .u32 0, .int .u32 0])
      have hz : (#[.int .u32 0, .int .u32 0, .int .u32 0, .int .u32 0] : Array Value).size = LK.toArray.size := (show (#[.int .u32 0, .int .u32 0, .int .u32 0, .int .u32 0] : Array Value).size = 4 from rfl).trans (by rw [List.size_toArray, hl1.out])
      obtain ⟨W6, hW6⟩ : ∃ W6, (wr.alloc (.cells #[.int .u32 0, .int .u32 0, .int .u32 0, .int .u32 0] 132)).setRow wr.heap.size LK.toArray = W6 := ⟨_, rfl⟩
      have r6 : RAt W6 wr.heap.size 132 LK.toArray := by rw [← hW6]; exact M.out.row _
      have b6 : Below wr.heap.size wr W6 := hW6 ▸ below_setRow ((Below.refl _ _).alloc (Nat.le_refl _) _) (Nat.le_refl _) _
      have CB2 := Lib.hid (CB1 wr.heap.size W6 r6.lt (fun i hi => by rw [Nat.zero_add]; exact r6.cell (hat i hi)))
      have HO := Lib.hid (own_below hown b6)
      have HB6 := Lib.hid (hbel.trans (b6.mono hbel.size))
      have HW6 := Lib.hid hW6
      have HMK : Hid (k < 100) := Lib.hid (by have := HM.out; omega)
      generalize K k = KK at *
      have honp := pc_one (keyB KK)
      obtain ⟨YA, hYA⟩ : ∃ YA, pc (keyB KK) = YA := ⟨_, rfl⟩
      rw [hYA] at hys hul honp
      simp only [hYA] at CP1
      have HYS := Lib.hid hys
      have HNP : Hid (∀ u ∈ YA.toList, u.oneCell' = true) := Lib.hid (fun u hu => by
        have h := Array.all_eq_true_iff_forall_mem.1 honp u (by simpa using hu)
        exact h)
      clear hown hbel hLK hW6 b6 HV HU HL CBO CPK CB1 r6 hat hYA hys honp
      go_wp2_with (first
        | (refine wpList_load_mid rfl 132 _ rfl g _ rfl LK _ (by first | exact RK.out | (rw [Nat.mul_comm]; exact RK.out)) Tryz.underlying132 rfl hlk ?_)
        | (refine wpList_store_row rfl 132 _ _ rfl wr.heap.size LK.toArray rfl rfl 132 _ M.out hsk hz hone ?_; rw [HW6.out]))
      refine CB2.out.mono ?_; rintro e w7 ⟨rfl, hb7⟩
      have HO7 := Lib.hid (own_below HO.out hb7)
      have HB7 := Lib.hid (HB6.out.trans (hb7.mono HB6.out.size))
      clear hb7 HO HB6 CB2 M HW6 RK
      go_wp2_with fail
      refine (CP1 _).out.mono ?_; rintro e w8 ⟨rfl, hb8⟩
      have HO8 := Lib.hid (own_below HO7.out hb8)
      have HB8 := Lib.hid (HB7.out.trans (hb8.mono HB7.out.size))
      clear hb8 HO7 HB7 CP1
      go_wp2_with (first
        | (refine Go.wpList_buildSlice rfl 81 135 1 _ rfl YA i0 (.agg zeroQ) Tryz.underlying81 hi hz0 (by rw [hz1]; decide) (by rw [hz1]; decide) (by rw [hz1]; exact Eq.trans (congrArg (Instr.fill _ _) (by kernel_rfl : _ = [(0, Value.agg YA)])) (fill_wholeP 8 _ YA (by kernel_rfl) HYS.out)) ?_)
        | (at_builtin; refine stp ?_))
      refine unstp ?_
      refine wpList_append_lies (w8.alloc (.cells YA 135)) rfl (.tmp 12) (.tmp 16) 81 rfl w.heap.size 135 i0 (.agg zeroQ) 8 64 Tryz.underlying81 hi hz0 hz1 hz2 rfl (by decide) _ k (plC K k) rfl (HO8.out.alloc _) ⟨w8.heap.size, 0, none⟩ 1 1 YA.toList rfl (by rw [Array.length_toList, HYS.out]) (World.news_of_block (cs := YA) (heap_alloc_new w8 _)) HNP.out (by omega) (by have := HMK.out; unfold maxLen; omega) (by have := HMK.out; omega) (by have := HB8.out.size; simp; omega) (w8.heap.size + 1) (by simp) ?_
      intro g2 c2 w9 hown9 hgrow hat2 hlt9
      have HO9 := Lib.hid (hul.out ▸ hown9)
      have hb8a : Below w.heap.size w (w8.alloc (.cells YA 135)) := HB8.out.alloc HB8.out.size _
      have HB9 := Lib.hid (hb8a.grown hgrow hb8a.size (fun b hb => (HO8.out.lt b hb).1))
      clear hown9 hgrow hat2 hlt9 HO8 HB8 hb8a
      go_wp2
      go_roundw
      case rel => exact ⟨k + 1, by omega, by go_num, HO9.out, HB9.out⟩
      case measure => simp [intOf]; omega
    · obtain rfl : k = m := by omega
      obtain ⟨g', c', hpv, hmc', hcm', hpk⟩ := planes_row hown HM.out.2
      have HPV := Lib.hid hpv
      have HF := Lib.hid (And.intro hmc' (And.intro hcm' hpk))
      have HB := Lib.hid hbel
      clear hown hbel HV HU HL CBO CPK hpv hmc' hcm' hpk
      go_wp2
      go_ret
      exact ⟨g', c', by rw [HPV.out]; rfl, HF.out.1, HF.out.2.1, HF.out.2.2, HB.out⟩
end Go.Proofs.YtbfmbdohebdbaaaGreatDoor
set_option linter.unusedVariables false
set_option linter.unusedSimpArgs false
namespace Go.Proofs.YtbfmbdohebdbaaaGreatDoor
open Go Go.RowKit
attribute [local go_sem ↓] Go.wp_at_zero Go.wp_at_succ

theorem st_row {w : World} {B m : Nat} {v : Value} {s : Nat → UInt8} (h : w.ownsRow B 146 16 v m (cells8 (upTo s (16 * m)))) (hm : 0 < m) : ∃ g c, v = .slice (some ⟨g, 0, none⟩) m c ∧ m ≤ c ∧ StBl w g m s := by
  rcases h.2 with ⟨rfl, h0⟩ | ⟨g, cap, cur, rfl, hb, hg, hn, hx, hs, ht⟩
  · omega
  · exact ⟨g, cap, rfl, hn, StBl.of_own h⟩
theorem wq_row {w : World} {p g c m : Nat} {b : Nat → ByteArray} {f : Nat → Nat} (h : WQ w p g c m b f) : g < w.heap.size := let ⟨_, h1, _⟩ := h.row; h1.lt
theorem bag_id (m : Nat) : Bag (fun i => i) m 0 m := ⟨fun i hi => ⟨Nat.zero_le _, hi⟩, fun i j _ _ e => e, fun v _ hv => ⟨v, hv, rfl⟩⟩
theorem heap_id (m : Nat) : Heap (fun i => i) m := fun i h1 h2 => by show (i - 1) / 2 ≤ i; omega
theorem each_cells (T : ByteArray → ByteArray) (u : Nat → UInt8) (k q : Nat) : cells8 (upTo (eachB T u) (16 * k)) ++ cells8 (upTo (eachB T fun i => u (16 * k + i)) (16 * q)) = cells8 (upTo (eachB T u) (16 * (k + q))) := by
  rw [← cells8_append]
  refine congrArg cells8 ?_
  have e : upTo (eachB T fun i => u (16 * k + i)) (16 * q) = upTo (fun i => eachB T u (16 * k + i)) (16 * q) := upTo_congr _ _ _ fun i _ => by
    unfold eachB
    rw [show (16 * k + i) / 16 = k + i / 16 by omega, show (16 * k + i) % 16 = i % 16 by omega]
    have : blk (fun i => u (16 * k + i)) (i / 16) = blk u (k + i / 16) := txt_ext _ _ 16 fun x _ => by show u (16 * k + (16 * (i / 16) + x)) = _; rw [show 16 * k + (16 * (i / 16) + x) = 16 * (k + i / 16) + x by omega]
    rw [this]
  rw [e]
  have h := congrArg (fun x : ByteArray => x.data.toList) (txt_app (eachB T u) (fun i => eachB T u (16 * k + i)) (16 * k) (16 * q) fun _ _ => rfl)
  have h2 : upTo (eachB T u) (16 * k) ++ upTo (fun i => eachB T u (16 * k + i)) (16 * q) = upTo (eachB T u) (16 * k + 16 * q) := by simpa [txt] using h
  rw [h2, Nat.mul_add]
theorem txt_none (f : Nat → UInt8) : txt f (16 * 0) = ⟨#[]⟩ := rfl
set_option maxRecDepth 100000 in
set_option maxHeartbeats 6400000 in
theorem inTurn_impl (t : TypeId) (x : Value) (F : FuncId) (most : Nat) (hmo : 0 < most ∧ most ≤ 4) (T : ByteArray → ByteArray) (s : ByteArray) (m : Nat) (hs : s.size = 16 * m) (hm : s.size ≤ 1048576) (w : World)
    (HN : ∀ W, (nilAhead 376 t x "loop.example/g00835/impl.through").run Tryz.prog W = .ok (some false) W)
    (HM : ∀ W, (method 376 t x "loop.example/g00835/impl.through").run Tryz.prog W = .ok (F, x) W)
    (HEF : ∀ (args : Array Value) (W : World), (callFunc F args).run Tryz.prog W = .ok (.enter F args) W)
    (HA : ∀ W, Calls Tryz.prog 64 #[.iface t x] W fun e w' => e = .returned (.int .i64 (most : Int)) ∧ W = w')
    (HT : ∀ v g q c W, Below w.heap.size w W → 0 < q → q ≤ most → q ≤ c → StBl W g q v → Calls Tryz.prog F #[x, .slice (some ⟨g, 0, none⟩) q c] W fun e w' => ∃ dv, e = .returned dv ∧ w'.ownsRow W.heap.size 146 16 dv q (cells8 (upTo (eachB T v) (16 * q))) ∧ Below W.heap.size W w') :
    Calls Tryz.prog 40 #[.iface t x, .string s] w fun e w' => e = .returned (.string (txt (eachB T (byteOf s)) (16 * m))) ∧ Below w.heap.size w w' := by
  obtain ⟨i0, hi, hz0, hz1, hz2⟩ := info_parts infoSt
  have CW := Lib.hid (waitingBlocksOf_impl s m (by omega) hm w)
  have CA := fun W => Lib.hid (HA W)
  have HTH := Lib.hid HT
  have HMO := Lib.hid hmo
  have HSM : Hid (m ≤ 65536) := Lib.hid (by omega)
  have CT0 := fun W => Lib.hid (textOf_nil W)
  have CTX := fun v g c hc W hv => Lib.hid (textOf_impl v g m c (by omega) hc W hv)
  generalize byteOf s = u at *
  clear hmo hs hm HA HT
  go_enter Tryz.func40, Tryz.ntmps40
  go_wp2_with fail
  refine CW.out.mono ?_; rintro e w1 ⟨p, g, c, rfl, hw1, hp1, hg1, hb1⟩
  obtain ⟨B1, hB1⟩ : ∃ B1, w1.heap.size = B1 := ⟨_, rfl⟩
  have HPG : Hid (p < B1 ∧ g < B1 ∧ w.heap.size ≤ p ∧ w.heap.size ≤ g ∧ w.heap.size ≤ B1) := Lib.hid ⟨by rw [← hB1]; exact hw1.ptr.lt, by rw [← hB1]; exact wq_row hw1, hp1, hg1, by rw [← hB1]; exact hb1.size⟩
  have HW1 := Lib.hid hw1
  have HB1 := Lib.hid hb1
  have HS1 : Hid (B1 ≤ w1.heap.size) := Lib.hid (by omega)
  clear hw1 hp1 hg1 hb1 hB1 CW
  go_wp2
  go_loopw [6] (fun dv wr => ∃ (k R : Nat) (f' : Nat → Nat), k + R = m ∧ WQ wr p g c R (blk u) f' ∧ Heap f' R ∧ Bag f' R k m ∧ wr.ownsRow B1 146 16 dv k (cells8 (upTo (eachB T u) (16 * k))) ∧ Below w.heap.size w wr ∧ B1 ≤ wr.heap.size) (fun v _ => match v with | .slice _ j _ => m - j | _ => 0)
  case atStart => exact ⟨0, m, fun i => i, by omega, HW1.out, heap_id m, bag_id m, World.ownsRow_nil _ _ _ _, HB1.out, HS1.out⟩
  case round =>
    obtain ⟨k, R, f', hkR, hwq, hhp, hbg, hown, hbe, hsz⟩ := hrel
    obtain ⟨A, cc, rfl⟩ := own_shape hown
    have hc := hwq.cell
    have CL := Lib.hid (wLen_impl (some ⟨g, 0, none⟩) R c wr)
    have HJR : Hid (k + R = m ∧ m ≤ 65536) := Lib.hid ⟨hkR, HSM.out⟩
    have HDO := Lib.hid hown
    have HBE := Lib.hid hbe
    have HSZ := Lib.hid hsz
    clear HW1 HB1 HS1 hkR
    by_cases h2 : 0 < R
    · have h2a : (0 : Int) < (R : Int) := by omega
      have HR0 := Lib.hid h2
      have HEA : Hid (∀ q, cells8 (upTo (eachB T u) (16 * k)) ++ cells8 (upTo (eachB T fun i => u (16 * k + i)) (16 * q)) = cells8 (upTo (eachB T u) (16 * (k + q)))) := Lib.hid fun q => each_cells T u k q
      have CN := Lib.hid (next_impl u f' p g c R k m most (by have := HJR.out; omega) (by have := HMO.out; omega) (by have := HJR.out; omega) wr.drew hwq.drew hhp hbg (by have := HPG.out; exact Nat.lt_of_lt_of_le this.1 hsz) (by have := HPG.out; exact Nat.lt_of_lt_of_le this.2.1 hsz))
      have HDO : Hid (wr.drew.ownsRow B1 146 16 (.slice A k cc) k (cells8 (upTo (eachB T u) (16 * k)))) := Lib.hid hown
      have HBE : Hid (Below w.heap.size w wr.drew) := Lib.hid hbe.drew
      have HSZD : Hid (B1 ≤ wr.drew.heap.size) := Lib.hid hsz
      clear hwq hhp hbg hown hbe hsz
      go_wp2_with fail
      refine CL.out.mono ?_; rintro e w1b ⟨rfl, rfl⟩
      clear CL hc
      go_wp2
      refine wp_region_held_drew (S := fun _ => True) (by kernel_rfl) trivial (fun hS => ?_)
      refine tk 0 (v := ?_) ?_ trivial ?_
      rotate_left
      · intro V hSw
        go_simp
        first | done | with_reducible rfl
      try simp only [lay]
      refine tk 1 (v := ?_) ?_ trivial ?_
      rotate_left
      · intro V hSw
        go_simp
        first | done | with_reducible rfl
      try simp only [lay]
      refine tk 2 (v := ?_) ?_ trivial ?_
      rotate_left
      · intro V hSw
        go_simp
        first | done | with_reducible rfl
      try simp only [lay]
      refine tk 3 (v := ?_) ?_ trivial ?_
      rotate_left
      · intro V hSw
        go_simp
        first | done | with_reducible rfl
      try simp only [lay]
      refine tk 6 (v := ?_) ?_ trivial ?_
      rotate_left
      · intro V hSw
        go_simp
        first | done | with_reducible rfl
      try simp only [lay]
      refine tk 7 (v := ?_) ?_ trivial ?_
      rotate_left
      · intro V hSw
        go_simp
        first | done | with_reducible rfl
      try simp only [lay]
      refine tk 8 (v := ?_) ?_ trivial ?_
      rotate_left
      · intro V hSw
        go_simp
        first | done | with_reducible rfl
      try simp only [lay]
      refine wpAnyH_ready (rs := [4]) (by kernel_rfl) (by simp) ?_
      refine AllReadyH.cons rfl (fun K hK => ?_) AllReadyH.nil
      go_simp
      refine (CA _).out.mono ?_; rintro e x1 ⟨rfl, hx⟩
      subst hx
      refine hK.out _ _ trivial (fun _ => ?_)
      clear hK K
      try simp only [lay]
      refine wpAnyH_ready (rs := [5]) (by kernel_rfl) (by simp) ?_
      refine AllReadyH.cons rfl (fun K hK => ?_) AllReadyH.nil
      go_simp
      refine CN.out.mono ?_; rintro e w2 ⟨v2, f2, q, R2, rfl, hqR, hqm, hqp, hw2, hh2, hb2, hr2, ho2⟩
      have hq0 : 0 < q := hqp HR0.out HMO.out.1
      obtain ⟨g2, c2, rfl, hqc, hst⟩ := st_row hr2 hq0
      have HQ := Lib.hid (And.intro hqR (And.intro hqm hq0))
      have HW2 := Lib.hid hw2
      have HH2 := Lib.hid hh2
      have HG2 := Lib.hid hb2
      have HO2 := Lib.hid (own_off HDO.out ho2 (fun e => by have := (HDO.out.lt _ e).1; have := HPG.out; omega) (fun e => by have := (HDO.out.lt _ e).1; have := HPG.out; omega))
      have HB2 := Lib.hid (HBE.out.trans (ho2.below HPG.out.2.2.1 HPG.out.2.2.2.1 HBE.out.size))
      have HSZ2 := Lib.hid (Nat.le_trans HSZD.out ho2.size)
      have CT2 := Lib.hid (HTH.out (fun i => u (16 * k + i)) g2 q c2 w2 HB2.out hq0 hqm hqc hst)
      clear hqR hqm hqp hw2 hh2 hb2 hr2 ho2 hqc hst hq0
      refine hK.out _ _ trivial (fun _ => ?_)
      clear hK K
      try simp only [lay]
      refine wpAnyH_ready (rs := [9]) (by kernel_rfl) (by simp) ?_
      refine AllReadyH.cons rfl (fun K hK => ?_) AllReadyH.nil
      go_simp
      refine CT2.out.mono ?_; rintro e w3 ⟨dv2, rfl, hr3, hb3⟩
      obtain ⟨g3, c3, rfl, -, -⟩ := st_row hr3 HQ.out.2.2
      have HR3 := Lib.hid (hr3.cells (g := g3) rfl)
      have HL3 := Lib.hid hr3.1
      have HO3 := Lib.hid (own_below HO2.out hb3)
      have HW3 := Lib.hid (HW2.out.up hb3)
      have HSZ3 := Lib.hid (Nat.le_trans HSZ2.out hb3.size)
      have HB3 := Lib.hid (HB2.out.trans (hb3.mono HB2.out.size))
      clear hr3 hb3 CT2 HO2 HW2 HB2
      refine hK.out _ _ trivial (fun _ => ?_)
      clear hK K
      try simp only [lay]
      refine wpAnyH_ready (rs := [10]) (by kernel_rfl) (by simp) ?_
      refine AllReadyH.cons rfl (fun K hK => ?_) AllReadyH.nil
      refine Eq.mpr (if_pos (by rfl)) ?_
      refine wp_append_lies w3 (.tmp 14) (.tmp 23) 90 rfl B1 146 i0 (.agg zero16) 16 16 Tryz.underlying90 hi hz0 hz1 hz2 rfl (by decide) _ k (cells8 (upTo (eachB T u) (16 * k))) rfl HO3.out ⟨g3, 0, none⟩ q c3 (cells8 (upTo (eachB T fun i => u (16 * k + i)) (16 * q))) rfl HL3.out HR3.out (cells8_oneCell _) HQ.out.2.2 (by have := HJR.out; have := HQ.out; unfold maxLen; omega) (by have := HJR.out; have := HQ.out; omega) (by have := HPG.out; have := HB3.out.size; have := HSZ3.out; omega) w3.heap.size rfl ?_
      intro g4 c4 w4 hown4 hgrow hat hlt4
      rw [HEA.out q] at hown4
      have HO4 := Lib.hid hown4
      have hrow : ∀ x, Value.ownBlock _ = some x → B1 ≤ x := fun x e => (HO3.out.lt x e).1
      have HB4 := Lib.hid (HB3.out.grown hgrow HB3.out.size (fun b hb => by have := (HO3.out.lt b hb).1; have := HPG.out; omega))
      have HW4 := Lib.hid (HW3.out.far (hgrow.block p HW3.out.ptr.lt (fun e => by have := hrow p e.symm; have := HPG.out; omega)) (hgrow.block g (wq_row HW3.out) (fun e => by have := hrow g e.symm; have := HPG.out; omega)))
      have HS4 : Hid (B1 ≤ w4.heap.size) := Lib.hid (Nat.le_trans HSZ3.out hgrow.size)
      clear hown4 hgrow hat hlt4 hrow HO3 HW3 HB3 HR3 HL3
      refine hK.out _ _ trivial (fun _ => ?_)
      clear hK K
      try simp only [lay]
      refine wpAnyH_ready (rs := [11]) (by kernel_rfl) (by simp) ?_
      refine AllReadyH.cons rfl (fun K hK => ?_) AllReadyH.nil
      go_simp
      refine hK.out _ _ trivial (fun _ => ?_)
      clear hK K
      try simp only [lay]
      refine wpAnyH_done (by kernel_rfl) ?_ _
      clear hS
      go_wp2
      go_roundw
      case rel => exact ⟨k + q, R2, f2, by have := HJR.out; have := HQ.out; omega, HW4.out, HH2.out, HG2.out, HO4.out, HB4.out, HS4.out⟩
      case measure => have := HQ.out; have := HJR.out; simp; omega
    · have h2a : ¬ (0 : Int) < (R : Int) := by omega
      have hR : R = 0 := by omega
      subst hR
      have hkm : k = m := by have := HJR.out; omega
      subst hkm
      clear hwq hhp hbg hbe hsz
      rcases hown.2 with ⟨hv, h0⟩ | ⟨g3, c3, cur, hv, -, -, hn, -⟩
      · cases hv
        have CT := CT0 wr
        clear hown CT0 CTX
        go_wp2_with fail
        refine CL.out.mono ?_; rintro e w1b ⟨rfl, rfl⟩
        clear CL
        go_wp2_with fail
        refine CT.out.mono ?_; rintro e w5 ⟨rfl, hb5⟩
        have HB5 := Lib.hid (HBE.out.trans (hb5.mono HBE.out.size))
        clear hb5
        go_wp2
        exact ⟨rfl, _, results_tmp rfl _ _ _, rfl, HB5.out⟩
      · cases hv
        have CT := CTX (eachB T u) g3 cc hn wr (StBl.of_own hown)
        clear hown CT0 CTX
        go_wp2_with fail
        refine CL.out.mono ?_; rintro e w1b ⟨rfl, rfl⟩
        clear CL
        go_wp2_with fail
        refine CT.out.mono ?_; rintro e w5 ⟨rfl, hb5⟩
        have HB5 := Lib.hid (HBE.out.trans (hb5.mono HBE.out.size))
        clear hb5
        go_wp2
        exact ⟨rfl, _, results_tmp rfl _ _ _, rfl, HB5.out⟩
end Go.Proofs.YtbfmbdohebdbaaaGreatDoor
set_option linter.unusedVariables false
set_option linter.unusedSimpArgs false
namespace Go.Proofs.YtbfmbdohebdbaaaGreatDoor
open Go Go.RowKit
attribute [local go_sem ↓] Go.wp_at_zero Go.wp_at_succ

/-- a value that is an engine from the world w1 on: it changes each block as T does. -/
def EngAt (w1 : World) (v : Value) (T : ByteArray → ByteArray) : Prop :=
  ∃ (t : TypeId) (x : Value) (F : FuncId) (most : Nat), v = .iface t x ∧ (0 < most ∧ most ≤ 4) ∧
    (∀ W, (nilAhead 376 t x "loop.example/g00835/impl.through").run Tryz.prog W = .ok (some false) W) ∧
    (∀ W, (method 376 t x "loop.example/g00835/impl.through").run Tryz.prog W = .ok (F, x) W) ∧
    (∀ (args : Array Value) (W : World), (callFunc F args).run Tryz.prog W = .ok (.enter F args) W) ∧
    (∀ W, Calls Tryz.prog 64 #[.iface t x] W fun e w' => e = .returned (.int .i64 (most : Int)) ∧ W = w') ∧
    (∀ v g q c W, Below w1.heap.size w1 W → 0 < q → q ≤ most → q ≤ c → StBl W g q v → Calls Tryz.prog F #[x, .slice (some ⟨g, 0, none⟩) q c] W fun e w' => ∃ dv, e = .returned dv ∧ w'.ownsRow W.heap.size 146 16 dv q (cells8 (upTo (eachB T v) (16 * q))) ∧ Below W.heap.size W w')
set_option maxRecDepth 100000 in
theorem nil_byte (x : Value) (W : World) : (nilAhead 376 75 x "loop.example/g00835/impl.through").run Tryz.prog W = .ok (some false) W := by kernel_rfl
set_option maxRecDepth 100000 in
theorem nil_table (x : Value) (W : World) : (nilAhead 376 80 x "loop.example/g00835/impl.through").run Tryz.prog W = .ok (some false) W := by kernel_rfl
set_option maxRecDepth 100000 in
theorem nil_slice (x : Value) (W : World) : (nilAhead 376 87 x "loop.example/g00835/impl.through").run Tryz.prog W = .ok (some false) W := by kernel_rfl
set_option maxRecDepth 100000 in
theorem meth_byte (x : Value) (W : World) : (method 376 75 x "loop.example/g00835/impl.through").run Tryz.prog W = .ok (219, x) W := by kernel_rfl
set_option maxRecDepth 100000 in
theorem meth_table (x : Value) (W : World) : (method 376 80 x "loop.example/g00835/impl.through").run Tryz.prog W = .ok (228, x) W := by kernel_rfl
set_option maxRecDepth 100000 in
theorem meth_slice (x : Value) (W : World) : (method 376 87 x "loop.example/g00835/impl.through").run Tryz.prog W = .ok (230, x) W := by kernel_rfl
set_option maxRecDepth 100000 in
theorem atOnce_slice (x : Value) (W : World) : Calls Tryz.prog 64 #[.iface 87 x] W fun e w' => e = .returned (.int .i64 ((4 : Nat) : Int)) ∧ W = w' := by
  have hta : ∀ w, (Instr.typeAssert (.iface 87 x) 57 87 true).run Tryz.prog w = .ok (.tuple #[x, .bool true]) w := fun _ => by kernel_rfl
  go_enter Tryz.func64, Tryz.ntmps64
  go_wp2
  go_ret
  exact ⟨rfl, rfl⟩
set_option maxRecDepth 100000 in
theorem atOnce_byte (x : Value) (W : World) : Calls Tryz.prog 64 #[.iface 75 x] W fun e w' => e = .returned (.int .i64 ((1 : Nat) : Int)) ∧ W = w' := by
  obtain ⟨z, hta⟩ : ∃ z, ∀ w, (Instr.typeAssert (.iface 75 x) 57 87 true).run Tryz.prog w = .ok (.tuple #[z, .bool false]) w := ⟨.agg #[.slice none 0 0, .nilFunc, .bool false], fun _ => by kernel_rfl⟩
  go_enter Tryz.func64, Tryz.ntmps64
  go_wp2
  go_ret
  exact ⟨rfl, rfl⟩
set_option maxRecDepth 100000 in
theorem atOnce_table (x : Value) (W : World) : Calls Tryz.prog 64 #[.iface 80 x] W fun e w' => e = .returned (.int .i64 ((1 : Nat) : Int)) ∧ W = w' := by
  obtain ⟨z, hta⟩ : ∃ z, ∀ w, (Instr.typeAssert (.iface 80 x) 57 87 true).run Tryz.prog w = .ok (.tuple #[z, .bool false]) w := ⟨.agg #[.slice none 0 0, .nilFunc, .bool false], fun _ => by kernel_rfl⟩
  go_enter Tryz.func64, Tryz.ntmps64
  go_wp2
  go_ret
  exact ⟨rfl, rfl⟩
theorem keys_rkS (key : ByteArray) (n : Nat) : (fun j => blkW (fun i => ew key n (4 * j + i))) = rkS key n := rfl
theorem keys_kbS (key : ByteArray) (n : Nat) : (fun j => blkW (fun i => revF (uw key n) (n + 7) (4 * j + i))) = kbS key n := by
  funext j
  unfold kbS ukS
  rw [blk_ofW]
  exact ofW_ext _ _ fun i hi => rev_key _ n j i hi
theorem lock_T (key : ByteArray) (n : Nat) (hn : kOf key n) (b : ByteArray) (hb : b.size = 16) : wayT false key b = lockS (rkS key n) (n + 6) b := by
  have hk := hn.ok
  unfold wayT
  simp only [if_true, Bool.false_eq_true, if_false]
  rw [lockT_yes key b hk hb, hn.div]
set_option maxRecDepth 100000 in
theorem lockEng_byte (key : ByteArray) (n : Nat) (hn : kOf key n) (w : World) (hm : Fac4 w 1 mxF) :
    Calls Tryz.prog 39 #[.int .i64 0, .string key] w fun e w' => ∃ v, e = .returned v ∧ EngAt w' v (wayT false key) ∧ Below w.heap.size w w' := by
  have HM : Hid (∀ W, Below w.heap.size w W → Fac4 W 1 mxF) := Lib.hid fun W hW => hm.below hW hm.1
  have HEO := enters_of Tryz.func56 (by kernel_rfl) rfl
  have HE : Hid (EngAt w (.iface 75 (.agg #[.string key, .func (.func 56) #[] #[]])) (wayT false key)) := Lib.hid ⟨_, _, _, 1, rfl, ⟨by omega, by omega⟩, nil_byte _, meth_byte _, enters_of Tryz.func219 (by kernel_rfl) rfl, atOnce_byte _,
    fun v g q c W hW hq0 hq1 hqc hst => byThrough_impl key 56 HEO W v (wayT false key) (fun b hb => wayT_size false key b hn.ok hb) (fun b hb W2 hW2 => Lock_impl key b W2 (HM.out W2 (hW.trans (hW2.mono hW.size)))) g q c (by omega) hqc hst⟩
  clear hm HEO
  go_enter Tryz.func39, Tryz.ntmps39
  go_wp2
  go_ret
  exact ⟨_, rfl, HE.out, Below.refl _ _⟩
set_option maxRecDepth 100000 in
theorem lockEng_table (key : ByteArray) (n : Nat) (hn : kOf key n) (w : World) (hm : Fac4 w 1 mxF) :
    Calls Tryz.prog 39 #[.int .i64 1, .string key] w fun e w' => ∃ v, e = .returned v ∧ EngAt w' v (wayT false key) ∧ Below w.heap.size w w' := by
  have hle := hn.le
  have HM : Hid (∀ W, Below w.heap.size w W → Fac4 W 1 mxF) := Lib.hid fun W hW => hm.below hW hm.1
  have CT := Lib.hid (lockTables_impl key n hn w (HM.out w (Below.refl _ _)))
  clear hm
  go_enter Tryz.func39, Tryz.ntmps39
  go_wp2_with fail
  refine CT.out.mono ?_; rintro e w1 ⟨p, X, kv, rfl, h1, h2, h3, h4⟩
  have HE : Hid (EngAt w1 (.iface 80 (.agg #[.pointer (some ⟨p, 0, none⟩)])) (wayT false key)) := Lib.hid ⟨_, _, _, 1, rfl, ⟨by omega, by omega⟩, nil_table _, meth_table _, enters_of Tryz.func228 (by kernel_rfl) rfl, atOnce_table _,
    fun v g q c W hW hq0 hq1 hqc hst => tbThrough_impl p W v (wayT false key) (fun b hb => wayT_size false key b hn.ok hb) (fun b hb W2 hW2 => by
      have H := through_impl p b hb X sbox kv 1 (by omega) tab h2 (n + 5) (by omega) (ew key n) W2 ((h1.up hW).up hW2) ((h3.below hW).below hW2)
      have e1 := lock_words key n b hb
      rw [lock_T key n hn b hb, ← e1]; exact H) g q c (by omega) hqc hst⟩
  have HB := Lib.hid h4
  clear h1 h2 h3 h4 CT
  go_wp2
  go_ret
  exact ⟨_, rfl, HE.out, HB.out⟩
set_option maxRecDepth 100000 in
set_option maxHeartbeats 1600000 in
theorem lockEng_slice (key : ByteArray) (n : Nat) (hn : kOf key n) (w : World) (hm : Fac4 w 1 mxF) :
    Calls Tryz.prog 39 #[.int .i64 2, .string key] w fun e w' => ∃ v, e = .returned v ∧ EngAt w' v (wayT false key) ∧ Below w.heap.size w w' := by
  have hle := hn.le
  have HM : Hid (∀ W, Below w.heap.size w W → Fac4 W 1 mxF) := Lib.hid fun W hW => hm.below hW hm.1
  have CK := Lib.hid (keysThere_impl key n hn w)
  have CP := fun g c hc W hg hk => Lib.hid (planesOf_impl (ew key n) g (n + 7) c (by omega) (by omega) hc W hg hk)
  clear hm
  go_enter Tryz.func39, Tryz.ntmps39
  go_wp2_with fail
  refine CK.out.mono ?_; rintro e w1 ⟨g, c, rfl, hk, hb1⟩
  obtain ⟨g1, c1, hv, hc1, hc2, hg1, hcl⟩ := hk
  cases hv
  have CP1 := CP g c hc1 w1 hg1 hcl
  have HB1 := Lib.hid hb1
  clear hb1 hg1 hcl CK CP
  go_wp2_with fail
  refine CP1.out.mono ?_; rintro e w2 ⟨g', c', rfl, hc3, hc4, hpk, hb2⟩
  rw [keys_rkS] at hpk
  have HB2 := Lib.hid (HB1.out.trans (hb2.mono HB1.out.size))
  have HE : Hid (EngAt w2 (.iface 87 (.agg #[.slice (some ⟨g', 0, none⟩) (n + 7) c', .func (.func 60) #[] #[], .bool false])) (wayT false key)) := Lib.hid ⟨_, _, _, 4, rfl, ⟨by omega, by omega⟩, nil_slice _, meth_slice _, enters_of Tryz.func230 (by kernel_rfl) rfl, atOnce_slice _,
    fun v g q c W hW hq0 hq1 hqc hst => slThrough_impl sbox false mxW 60 (rkS key n) g' (n + 5) c' (by omega) hc3 hc4 (enters_of Tryz.func60 (by kernel_rfl) rfl) (fun u W => PlaneSub_impl u W) W
      (fun u W3 hW3 => by have hW := HB2.out.trans ((hW.trans (hW3.mono hW.size)).mono HB2.out.size); generalize W3 = W at *; exact PlaneColumns_there u W (HM.out W hW)) (hpk.up hW hpk.1) v (wayT false key) (fun u j => by rw [lock_T key n hn _ (blk_size u j)]; exact blk_wk_there key n u j) g q c hq1 hqc hst⟩
  clear hb2 hc3 hc4 hpk CP1 HB1
  go_wp2
  go_ret
  exact ⟨_, rfl, HE.out, HB2.out⟩
theorem unlock_T (key : ByteArray) (n : Nat) (hn : kOf key n) (b : ByteArray) (hb : b.size = 16) : wayT true key b = unlockS (rkS key n) (n + 6) b := by
  have hk := hn.ok
  unfold wayT
  simp only [if_true, Bool.false_eq_true, if_false]
  rw [unlockT_yes key b hk hb, hn.div]
set_option maxRecDepth 100000 in
theorem unlockEng_byte (key : ByteArray) (n : Nat) (hn : kOf key n) (w : World) (hm : Fac4 w 1 mxF) (hu : Fac4 w 2 unF) :
    Calls Tryz.prog 45 #[.int .i64 0, .string key] w fun e w' => ∃ v, e = .returned v ∧ EngAt w' v (wayT true key) ∧ Below w.heap.size w w' := by
  have HM : Hid (∀ W, Below w.heap.size w W → Fac4 W 1 mxF) := Lib.hid fun W hW => hm.below hW hm.1
  have HU : Hid (∀ W, Below w.heap.size w W → Fac4 W 2 unF) := Lib.hid fun W hW => hu.below hW hu.1
  have HEO := enters_of Tryz.func74 (by kernel_rfl) rfl
  have HE : Hid (EngAt w (.iface 75 (.agg #[.string key, .func (.func 74) #[] #[]])) (wayT true key)) := Lib.hid ⟨_, _, _, 1, rfl, ⟨by omega, by omega⟩, nil_byte _, meth_byte _, enters_of Tryz.func219 (by kernel_rfl) rfl, atOnce_byte _,
    fun v g q c W hW hq0 hq1 hqc hst => byThrough_impl key 74 HEO W v (wayT true key) (fun b hb => wayT_size true key b hn.ok hb) (fun b hb W2 hW2 => Unlock_impl key b W2 (HM.out W2 (hW.trans (hW2.mono hW.size)))) g q c (by omega) hqc hst⟩
  clear hm hu HEO
  go_enter Tryz.func45, Tryz.ntmps45
  go_wp2
  go_ret
  exact ⟨_, rfl, HE.out, Below.refl _ _⟩
set_option maxRecDepth 100000 in
theorem unlockEng_table (key : ByteArray) (n : Nat) (hn : kOf key n) (w : World) (hm : Fac4 w 1 mxF) (hu : Fac4 w 2 unF) :
    Calls Tryz.prog 45 #[.int .i64 1, .string key] w fun e w' => ∃ v, e = .returned v ∧ EngAt w' v (wayT true key) ∧ Below w.heap.size w w' := by
  have hle := hn.le
  have HM : Hid (∀ W, Below w.heap.size w W → Fac4 W 1 mxF) := Lib.hid fun W hW => hm.below hW hm.1
  have HU : Hid (∀ W, Below w.heap.size w W → Fac4 W 2 unF) := Lib.hid fun W hW => hu.below hW hu.1
  have CT := Lib.hid (unlockTables_impl key n hn w (HU.out w (Below.refl _ _)))
  clear hm hu
  go_enter Tryz.func45, Tryz.ntmps45
  go_wp2_with fail
  refine CT.out.mono ?_; rintro e w1 ⟨p, X, kv, rfl, h1, h2, h3, h4⟩
  have HE : Hid (EngAt w1 (.iface 80 (.agg #[.pointer (some ⟨p, 0, none⟩)])) (wayT true key)) := Lib.hid ⟨_, _, _, 1, rfl, ⟨by omega, by omega⟩, nil_table _, meth_table _, enters_of Tryz.func228 (by kernel_rfl) rfl, atOnce_table _,
    fun v g q c W hW hq0 hq1 hqc hst => tbThrough_impl p W v (wayT true key) (fun b hb => wayT_size true key b hn.ok hb) (fun b hb W2 hW2 => by
      have H := through_impl p b hb X ubox kv 3 (by omega) utab h2 (n + 5) (by omega) (revF (uw key n) (n + 7)) W2 ((h1.up hW).up hW2) ((h3.below hW).below hW2)
      have e1 := unlock_rev key n b hb
      rw [unlock_T key n hn b hb, ← e1]; exact H) g q c (by omega) hqc hst⟩
  have HB := Lib.hid h4
  clear h1 h2 h3 h4 CT
  go_wp2
  go_ret
  exact ⟨_, rfl, HE.out, HB.out⟩
set_option maxRecDepth 100000 in
set_option maxHeartbeats 1600000 in
theorem unlockEng_slice (key : ByteArray) (n : Nat) (hn : kOf key n) (w : World) (hm : Fac4 w 1 mxF) (hu : Fac4 w 2 unF) :
    Calls Tryz.prog 45 #[.int .i64 2, .string key] w fun e w' => ∃ v, e = .returned v ∧ EngAt w' v (wayT true key) ∧ Below w.heap.size w w' := by
  have hle := hn.le
  have HM : Hid (∀ W, Below w.heap.size w W → Fac4 W 1 mxF) := Lib.hid fun W hW => hm.below hW hm.1
  have HU : Hid (∀ W, Below w.heap.size w W → Fac4 W 2 unF) := Lib.hid fun W hW => hu.below hW hu.1
  have CK := Lib.hid (keysBack_impl key n hn w hu)
  have CP := fun g c hc W hg hk => Lib.hid (planesOf_impl (revF (uw key n) (n + 7)) g (n + 7) c (by omega) (by omega) hc W hg hk)
  clear hm hu
  go_enter Tryz.func45, Tryz.ntmps45
  go_wp2_with fail
  refine CK.out.mono ?_; rintro e w1 ⟨g, c, rfl, hk, hb1⟩
  obtain ⟨g1, c1, hv, hc1, hc2, hg1, hcl⟩ := hk
  cases hv
  have CP1 := CP g c hc1 w1 hg1 hcl
  have HB1 := Lib.hid hb1
  clear hb1 hg1 hcl CK CP
  go_wp2_with fail
  refine CP1.out.mono ?_; rintro e w2 ⟨g', c', rfl, hc3, hc4, hpk, hb2⟩
  rw [keys_kbS] at hpk
  have HB2 := Lib.hid (HB1.out.trans (hb2.mono HB1.out.size))
  have HE : Hid (EngAt w2 (.iface 87 (.agg #[.slice (some ⟨g', 0, none⟩) (n + 7) c', .func (.func 77) #[] #[], .bool true])) (wayT true key)) := Lib.hid ⟨_, _, _, 4, rfl, ⟨by omega, by omega⟩, nil_slice _, meth_slice _, enters_of Tryz.func230 (by kernel_rfl) rfl, atOnce_slice _,
    fun v g q c W hW hq0 hq1 hqc hst => slThrough_impl ubox true unmixW 77 (kbS key n) g' (n + 5) c' (by omega) hc3 hc4 (enters_of Tryz.func77 (by kernel_rfl) rfl) (fun u W => PlaneUnsub_impl u W) W
      (fun u W3 hW3 => by have hW := HB2.out.trans ((hW.trans (hW3.mono hW.size)).mono HB2.out.size); generalize W3 = W at *; exact PlaneColumns_back u W (HU.out W hW)) (hpk.up hW hpk.1) v (wayT true key) (fun u j => by rw [unlock_T key n hn _ (blk_size u j)]; exact blk_wk_back key n u j) g q c hq1 hqc hst⟩
  clear hb2 hc3 hc4 hpk CP1 HB1
  go_wp2
  go_ret
  exact ⟨_, rfl, HE.out, HB2.out⟩
end Go.Proofs.YtbfmbdohebdbaaaGreatDoor
set_option linter.unusedVariables false
set_option linter.unusedSimpArgs false
namespace Go.Proofs.YtbfmbdohebdbaaaGreatDoor
open Go Go.RowKit
attribute [local go_sem ↓] Go.wp_at_zero Go.wp_at_succ

/-- the code of an engine, a key and a text; what the blocks become. -/
def coT (n : Int) (key s : ByteArray) : Int := if 0 ≤ n ∧ n ≤ 2 then (if kOk key then (if s.size % 16 = 0 then 0 else 5) else 3) else 1
def blT (back : Bool) (n : Int) (key s : ByteArray) : ByteArray := if coT n key s = 0 then slT back key s else ⟨#[]⟩
theorem coT_eng (n : Int) (key s : ByteArray) (h : ¬ (0 ≤ n ∧ n ≤ 2)) : coT n key s = 1 := if_neg h
theorem coT_key (n : Int) (key s : ByteArray) (h : 0 ≤ n ∧ n ≤ 2) (hk : ¬ kOk key) : coT n key s = 3 := by unfold coT; rw [if_pos h, if_neg hk]
theorem coT_len (n : Int) (key s : ByteArray) (h : 0 ≤ n ∧ n ≤ 2) (hk : kOk key) (hs : ¬ s.size % 16 = 0) : coT n key s = 5 := by unfold coT; rw [if_pos h, if_pos hk, if_neg hs]
theorem coT_ok (n : Int) (key s : ByteArray) (h : 0 ≤ n ∧ n ≤ 2) (hk : kOk key) (hs : s.size % 16 = 0) : coT n key s = 0 := by unfold coT; rw [if_pos h, if_pos hk, if_pos hs]
theorem blT_no (back : Bool) (n : Int) (key s : ByteArray) (h : ¬ coT n key s = 0) : blT back n key s = ⟨#[]⟩ := if_neg h
theorem blT_ok (back : Bool) (n : Int) (key s : ByteArray) (h : coT n key s = 0) : blT back n key s = slT back key s := if_pos h
theorem blT_2 (back : Bool) (key s : ByteArray) : blT back 2 key s = slT back key s := by
  by_cases h : kOk key ∧ s.size % 16 = 0
  · rw [blT_ok back 2 key s (coT_ok 2 key s ⟨by omega, by omega⟩ h.1 h.2)]
  · rw [slT_no back key s h, blT_no]
    unfold coT
    rw [if_pos ⟨by omega, by omega⟩]
    by_cases hk : kOk key
    · rw [if_pos hk, if_neg (fun h2 => h ⟨hk, h2⟩)]; omega
    · rw [if_neg hk]; omega
theorem eng_turn (back : Bool) (key s : ByteArray) (m : Nat) (hm : s.size = 16 * m) (hs : s.size ≤ 1048576) (v : Value) (w1 : World) (hv : EngAt w1 v (wayT back key)) (W : World) (hW : w1 = W) :
    Calls Tryz.prog 40 #[v, .string s] W fun e w' => e = .returned (.string (txt (eachB (wayT back key) (byteOf s)) (16 * m))) ∧ Below W.heap.size W w' := by
  subst hW
  obtain ⟨t, x, F, most, rfl, h1, h2, h3, h4, h5, h6⟩ := hv
  exact inTurn_impl t x F most h1 (wayT back key) s m hm hs w1 h2 h3 h4 h5 h6
theorem rem16 (s : ByteArray) : ((s.size : Int)).tmod 16 = ((s.size % 16 : Nat) : Int) := by rw [Int.tmod_eq_emod_of_nonneg (by omega)]; omega
theorem lockEng (n : Int) (key s : ByteArray) (h : coT n key s = 0) (w : World) (hm : Fac4 w 1 mxF) :
    Calls Tryz.prog 39 #[.int .i64 n, .string key] w fun e w' => ∃ v, e = .returned v ∧ EngAt w' v (wayT false key) ∧ Below w.heap.size w w' := by
  have hn : 0 ≤ n ∧ n ≤ 2 := by
    by_cases hn : 0 ≤ n ∧ n ≤ 2
    · exact hn
    · rw [coT_eng n key s hn] at h; cases h
  have hk : kOk key := by
    by_cases hk : kOk key
    · exact hk
    · rw [coT_key n key s hn hk] at h; cases h
  obtain ⟨N, hN⟩ := hk.of
  have h3 : n = 0 ∨ n = 1 ∨ n = 2 := by omega
  rcases h3 with rfl | rfl | rfl
  · exact lockEng_byte key N hN w hm
  · exact lockEng_table key N hN w hm
  · exact lockEng_slice key N hN w hm
theorem unlockEng (n : Int) (key s : ByteArray) (h : coT n key s = 0) (w : World) (hm : Fac4 w 1 mxF) (hu : Fac4 w 2 unF) :
    Calls Tryz.prog 45 #[.int .i64 n, .string key] w fun e w' => ∃ v, e = .returned v ∧ EngAt w' v (wayT true key) ∧ Below w.heap.size w w' := by
  have hn : 0 ≤ n ∧ n ≤ 2 := by
    by_cases hn : 0 ≤ n ∧ n ≤ 2
    · exact hn
    · rw [coT_eng n key s hn] at h; cases h
  have hk : kOk key := by
    by_cases hk : kOk key
    · exact hk
    · rw [coT_key n key s hn hk] at h; cases h
  obtain ⟨N, hN⟩ := hk.of
  have h3 : n = 0 ∨ n = 1 ∨ n = 2 := by omega
  rcases h3 with rfl | rfl | rfl
  · exact unlockEng_byte key N hN w hm hu
  · exact unlockEng_table key N hN w hm hu
  · exact unlockEng_slice key N hN w hm hu
end Go.Proofs.YtbfmbdohebdbaaaGreatDoor
