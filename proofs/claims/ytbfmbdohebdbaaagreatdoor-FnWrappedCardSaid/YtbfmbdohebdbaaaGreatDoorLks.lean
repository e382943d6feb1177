/-
  Contracts and facts that the laws of this seat use: RevI, LkA, KeysI, LkT.
-/
import Derived.Test.YtbfmbdohebdbaaaGreatDoorStoreAt
import Derived.Test.YtbfmbdohebdbaaaGreatDoorTabs
import Derived.Deep.MidRow
import Derived.Test.YtbfmbdohebdbaaaGreatDoorFoursI
import Derived.Test.YtbfmbdohebdbaaaGreatDoorUnmix
set_option linter.unusedVariables false
set_option linter.unusedSimpArgs false
namespace Go.Proofs.YtbfmbdohebdbaaaGreatDoor
open Go Go.RowKit

/-- fours of which the first k and the last k are turned round. -/
def swF (f : Nat → UInt32) (m k i : Nat) : UInt32 := if i / 4 < k ∨ m - 1 - k < i / 4 then f (4 * (m - 1 - i / 4) + i % 4) else f i
def revF (f : Nat → UInt32) (m i : Nat) : UInt32 := f (4 * (m - 1 - i / 4) + i % 4)
theorem swF_0 (f : Nat → UInt32) (m i : Nat) (hi : i < 4 * m) : swF f m 0 i = f i := by unfold swF; rw [if_neg (by omega)]
theorem swF_end (f : Nat → UInt32) (m k i : Nat) (hi : i < 4 * m) (hk : m ≤ 2 * k + 1) (hk2 : 2 * k ≤ m) : swF f m k i = revF f m i := by
  unfold swF revF
  by_cases h : i / 4 < k ∨ m - 1 - k < i / 4
  · rw [if_pos h]
  · rw [if_neg h]
    have : i = 4 * (m - 1 - i / 4) + i % 4 := by omega
    rw [← this]
def SwIs (cur : Array Value) (f : Nat → UInt32) (m k : Nat) : Prop := ∀ i, i < 4 * m → cur[i]? = some (.int .u32 ((swF f m k i).toNat : Int))
theorem sw_put (cur : Array Value) (f : Nat → UInt32) (m k J : Nat) (hJ : J = m - 1 - k) (hk : k < J) (hm : 4 * m ≤ cur.size) (h : SwIs cur f m k) :
    SwIs (putAt (putAt cur (4 * k) (ar32 (fun c => f (4 * J + c)) 4)) (4 * J) (ar32 (fun c => f (4 * k + c)) 4)) f m (k + 1) := by
  have s1 : (putAt cur (4 * k) (ar32 (fun c => f (4 * J + c)) 4)).size = cur.size := putAt_size _ _ _ (by rw [ar32_size]; omega)
  intro i hi
  rw [putAt_get _ _ _ (by rw [s1, ar32_size]; omega), ar32_size]
  by_cases b : 4 * J ≤ i ∧ i < 4 * J + 4
  · rw [if_neg (by omega), if_pos b.2, ar32_at _ _ _ (by omega)]
    unfold swF
    rw [if_pos (by omega), show 4 * (m - 1 - i / 4) + i % 4 = 4 * k + (i - 4 * J) by omega]
  · have e : (if i < 4 * J then (putAt cur (4 * k) (ar32 (fun c => f (4 * J + c)) 4))[i]? else if i < 4 * J + 4 then (ar32 (fun c => f (4 * k + c)) 4)[i - 4 * J]? else (putAt cur (4 * k) (ar32 (fun c => f (4 * J + c)) 4))[i]?) = (putAt cur (4 * k) (ar32 (fun c => f (4 * J + c)) 4))[i]? := by
      by_cases c : i < 4 * J
      · rw [if_pos c]
      · rw [if_neg c, if_neg (by omega)]
    rw [e, putAt_get _ _ _ (by rw [ar32_size]; omega), ar32_size]
    by_cases a : 4 * k ≤ i ∧ i < 4 * k + 4
    · rw [if_neg (by omega), if_pos a.2, ar32_at _ _ _ (by omega)]
      unfold swF
      rw [if_pos (by omega), show 4 * (m - 1 - i / 4) + i % 4 = 4 * J + (i - 4 * k) by omega]
    · have e2 : (if i < 4 * k then cur[i]? else if i < 4 * k + 4 then (ar32 (fun c => f (4 * J + c)) 4)[i - 4 * k]? else cur[i]?) = cur[i]? := by
        by_cases c : i < 4 * k
        · rw [if_pos c]
        · rw [if_neg c, if_neg (by omega)]
      rw [e2, h i hi]
      unfold swF
      by_cases d : i / 4 < k ∨ m - 1 - k < i / 4
      · rw [if_pos d, if_pos (by omega)]
      · rw [if_neg d, if_neg (by omega)]
theorem sw_range {w : World} {g : Nat} {t : TypeId} {cur : Array Value} {f : Nat → UInt32} {m k q : Nat} (hr : RAt w g t cur) (h : SwIs cur f m k) (hq : q < m) (h1 : k ≤ q) (h2 : q ≤ m - 1 - k) :
    w.rangeAt g (4 * q) (cells32 (upTo (fun c => f (4 * q + c)) 4)) := fun j v hv => by
  have hj : j < 4 := by have := (List.getElem?_eq_some_iff.1 hv).1; rwa [cells32_length, upTo_length] at this
  have e := h (4 * q + j) (by omega)
  unfold swF at e
  rw [if_neg (by omega)] at e
  rw [hr.cell e, ← hv]
  exact (cells32_at _ _ _ (upTo_at (fun c => f (4 * q + c)) 4 j hj)).symm
theorem fw_len (h : Nat → UInt32) : (Tryz.prog.info? 132).map (·.size) = some (cells32 (upTo h 4)).length := by rw [cells32_length, upTo_length]; kernel_rfl
theorem size_setRow8 (w : World) (g : Nat) (cs : Array Value) : (w.setRow g cs).heap.size = w.heap.size := by simp [World.setRow]
theorem only_setRow {a w : World} {g : Nat} (h : a.grownBy w (some g)) (cs : Array Value) : a.grownBy (w.setRow g cs) (some g) :=
  ⟨h.os, h.tape, h.output, by rw [size_setRow8]; exact h.size, fun k hk hn => (setRow_other w g k cs (fun e => hn (by rw [e]))).trans (h.block k hk hn)⟩
theorem only_drew8 {a w : World} {g : Nat} (h : a.grownBy w (some g)) : a.grownBy w.drew (some g) := ⟨h.os, h.tape, h.output, h.size, h.block⟩
set_option maxRecDepth 100000 in
set_option maxHeartbeats 6400000 in
theorem reverse_impl (f : Nat → UInt32) (g m c : Nat) (cur : Array Value) (hm : 1 ≤ m) (hm2 : m ≤ 1000) (hmc : m ≤ c) (hc : c ≤ 9223372036854775807) (hsz : 4 * m ≤ cur.size) (w : World) (hr : RAt w g 132 cur) (hf : ∀ i, i < 4 * m → cur[i]? = some (.int .u32 ((f i).toNat : Int))) :
    Calls Tryz.prog 105 #[.slice (some ⟨g, 0, none⟩) m c] w fun e w' => e = .returned (.tuple #[]) ∧ (∃ cur', RAt w' g 132 cur' ∧ ∀ i, i < 4 * m → cur'[i]? = some (.int .u32 ((revF f m i).toNat : Int))) ∧ w.grownBy w' (some g) := by
  have h0 : SwIs cur f m 0 := fun i hi => by rw [hf i hi, swF_0 f m i hi]
  have HR := Lib.hid hr
  have H0 := Lib.hid h0
  have HSZ := Lib.hid hsz
  have q1 : IntKind.i64.wrap ((m : Int) - 1) = (m : Int) - 1 := IntWalk.i64_in _ (by omega)
  have hmI : (1 : Int) ≤ (m : Int) := by omega
  clear hr h0 hf hsz
  go_enter Tryz.func105, Tryz.ntmps105
  go_wp2
  clear q1
  go_loopw [2, 3] (fun a b wr => ∃ k : Nat, 2 * k ≤ m ∧ a = .int .i64 k ∧ b = .int .i64 ((m : Int) - 1 - (k : Int)) ∧ ∃ cur1, RAt wr g 132 cur1 ∧ 4 * m ≤ cur1.size ∧ SwIs cur1 f m k ∧ w.grownBy wr (some g)) (fun a _ _ => m - (intOf a).toNat)
  case atStart => exact ⟨0, by omega, rfl, by simp, cur, HR.out, HSZ.out, H0.out, ⟨rfl, rfl, rfl, Nat.le_refl _, fun _ _ _ => rfl⟩⟩
  case round =>
    obtain ⟨k, hk, rfl, rfl, cur1, g1, hsz1, hsw, hgr⟩ := hrel
    by_cases hlt : (k : Int) < (m : Int) - 1 - (k : Int)
    · obtain ⟨J, hJ⟩ : ∃ J : Nat, J = m - 1 - k := ⟨_, rfl⟩
      have hJI : (m : Int) - 1 - (k : Int) = (J : Int) := by omega
      rw [hJI] at hlt
      rw [hJI]
      have hkJ : k < J := by omega
      have RA := Lib.hid (sw_range g1 hsw (q := J) (by omega) (by omega) (by omega))
      have RB := Lib.hid (sw_range g1 hsw (q := k) (by omega) (by omega) (by omega))
      have hNEW := sw_put cur1 f m k J hJ hkJ hsz1 hsw
      have hlA := fw_len (fun c => f (4 * J + c))
      have hlB := fw_len (fun c => f (4 * k + c))
      have eA : (cells32 (upTo (fun c => f (4 * J + c)) 4)).toArray = ar32 (fun c => f (4 * J + c)) 4 := rfl
      have eB : (cells32 (upTo (fun c => f (4 * k + c)) 4)).toArray = ar32 (fun c => f (4 * k + c)) 4 := rfl
      have hiA : (Tryz.prog.info? 132).map (·.size) = some (ar32 (fun c => f (4 * J + c)) 4).size := fourWords_info _
      have hiB : (Tryz.prog.info? 132).map (·.size) = some (ar32 (fun c => f (4 * k + c)) 4).size := fourWords_info _
      have oneA : ∀ v ∈ (ar32 (fun c => f (4 * J + c)) 4).toList, v.oneCell' = true := fun v hv => cells32_one (upTo _ 4) v (by simpa [ar32] using hv)
      have oneB : ∀ v ∈ (ar32 (fun c => f (4 * k + c)) 4).toList, v.oneCell' = true := fun v hv => cells32_one (upTo _ 4) v (by simpa [ar32] using hv)
      have fitA : 4 * k + (ar32 (fun c => f (4 * J + c)) 4).size ≤ cur1.size := by rw [ar32_size]; omega
      have s1 : (putAt cur1 (4 * k) (ar32 (fun c => f (4 * J + c)) 4)).size = cur1.size := putAt_size _ _ _ fitA
      have fitB : 4 * J + (ar32 (fun c => f (4 * k + c)) 4).size ≤ (putAt cur1 (4 * k) (ar32 (fun c => f (4 * J + c)) 4)).size := by rw [s1, ar32_size]; omega
      have s2 := putAt_size _ _ _ fitB
      have hsz2 : 4 * m ≤ (putAt (putAt cur1 (4 * k) (ar32 (fun c => f (4 * J + c)) 4)) (4 * J) (ar32 (fun c => f (4 * k + c)) 4)).size := by rw [s2, s1]; exact hsz1
      obtain ⟨LA, hLA⟩ : ∃ LA, cells32 (upTo (fun c => f (4 * J + c)) 4) = LA := ⟨_, rfl⟩
      obtain ⟨LB, hLB⟩ : ∃ LB, cells32 (upTo (fun c => f (4 * k + c)) 4) = LB := ⟨_, rfl⟩
      rw [hLA] at RA hlA eA
      rw [hLB] at RB hlB eB
      rw [← eA] at hNEW hiA oneA fitA fitB hsz2
      rw [← eB] at hNEW hiB oneB fitB hsz2
      have R1 := Lib.hid (RAt.row (w := wr.drew) (g1 : RAt wr.drew g 132 cur1) (putAt cur1 (4 * k) LA.toArray))
      have R2 := Lib.hid (R1.out.row (putAt (putAt cur1 (4 * k) LA.toArray) (4 * J) LB.toArray))
      have GR := Lib.hid (only_setRow (only_setRow (only_drew8 hgr) (putAt cur1 (4 * k) LA.toArray)) (putAt (putAt cur1 (4 * k) LA.toArray) (4 * J) LB.toArray))
      have G1 : Hid (RAt wr.drew g 132 cur1) := Lib.hid g1
      have HNEW := Lib.hid hNEW
      have HS2 := Lib.hid hsz2
      have OA := Lib.hid oneA
      have OB := Lib.hid oneB
      have FA := Lib.hid fitA
      have FB := Lib.hid fitB
      have HKJ : Hid (2 * (k + 1) ≤ m) := Lib.hid (by omega)
      have hjm : (J : Int) < (m : Int) := by omega
      have hkm : (k : Int) < (m : Int) := by omega
      have hk0 : (0 : Int) ≤ (k : Int) := by omega
      have hj0 : (0 : Int) ≤ (J : Int) := by omega
      have hmI2 : (m : Int) ≤ (c : Int) := by omega
      have ek : ∀ q : Nat, q * 4 = 4 * q := fun q => Nat.mul_comm _ _
      have HJ2 : Hid ((J : Int) - 1 = (m : Int) - 1 - ((k + 1 : Nat) : Int)) := Lib.hid (by omega)
      have qj : IntKind.i64.wrap ((J : Int) - 1) = (J : Int) - 1 := IntWalk.i64_in _ (by omega)
      clear g1 hsw hNEW oneA oneB fitA fitB hsz2 s1 s2 hJI hJ hgr hsz1 hLA hLB eA eB hkJ HR H0 HSZ
      go_wp2
      refine wp_region_held_drew (S := fun _ => True) (by kernel_rfl) trivial (fun hS => ?_)
      refine tk 0 (v := ?_) ?_ trivial ?_
      rotate_left
      · intro w hSw
        go_simp
        first | done | with_reducible rfl
      try simp only [lay]
      refine tk 1 (v := ?_) ?_ trivial ?_
      rotate_left
      · intro w hSw
        go_simp
        first | done | with_reducible rfl
      try simp only [lay]
      refine tk 2 (v := ?_) ?_ trivial ?_
      rotate_left
      · intro w hSw
        go_simp
        first | done | with_reducible rfl
      try simp only [lay]
      refine tk 3 (v := ?_) ?_ trivial ?_
      rotate_left
      · intro w hSw
        go_simp
        first | done | with_reducible rfl
      try simp only [lay]
      refine tk 4 (v := ?_) ?_ trivial ?_
      rotate_left
      · intro w hSw
        go_simp
        first | done | with_reducible rfl
      try simp only [lay]
      refine tk 5 (v := ?_) ?_ trivial ?_
      rotate_left
      · intro w hSw
        go_simp
        first | done | with_reducible rfl
      try simp only [lay]
      refine tk 6 (v := ?_) ?_ trivial ?_
      rotate_left
      · intro w hSw
        go_simp
        first | done | with_reducible rfl
      try simp only [lay]
      refine tk 8 (v := ?_) ?_ trivial ?_
      rotate_left
      · intro w hSw
        go_simp
        first | done | with_reducible rfl
      try simp only [lay]
      refine tk 9 (v := ?_) ?_ trivial ?_
      rotate_left
      · intro w hSw
        go_simp
        first | done | with_reducible rfl
      try simp only [lay]
      refine tk 10 (v := ?_) ?_ trivial ?_
      rotate_left
      · intro w hSw
        go_simp
        first | done | with_reducible rfl
      try simp only [lay]
      refine wpAnyH_ready (rs := [7, 11]) (by kernel_rfl) (by simp) ?_
      refine AllReadyH.cons rfl (fun K hK => ?_) (AllReadyH.cons rfl (fun K hK => ?_) (AllReadyH.nil))
      · refine Eq.mpr (if_pos (by rfl)) ?_
        refine wp_load_mid 132 _ rfl g _ rfl LA _ (by first | exact RA.out | (rw [ek]; exact RA.out)) Tryz.underlying132 rfl hlA ?_
        refine hK.out _ _ trivial (fun _ => ?_)
        clear hK K
        try simp only [lay]
        refine wpAnyH_ready (rs := [11]) (by kernel_rfl) (by simp) ?_
        refine AllReadyH.cons rfl (fun K hK => ?_) (AllReadyH.nil)
        refine Eq.mpr (if_pos (by rfl)) ?_
        refine wp_load_mid 132 _ rfl g _ rfl LB _ (by first | exact RB.out | (rw [ek]; exact RB.out)) Tryz.underlying132 rfl hlB ?_
        refine hK.out _ _ trivial (fun _ => ?_)
        clear hK K
        try simp only [lay]
        refine tk 12 (v := ?_) ?_ trivial ?_
        rotate_left
        · intro w hSw
          go_simp
          first | done | with_reducible rfl
        try simp only [lay]
        refine wpAnyH_ready (rs := [13]) (by kernel_rfl) (by simp) ?_
        refine AllReadyH.cons rfl (fun K hK => ?_) AllReadyH.nil
        refine Eq.mpr (if_pos (by rfl)) ?_
        refine wp_store_at 132 _ _ rfl g (4 * k) LA.toArray (by first | rfl | (simp [ek]; done)) rfl 132 cur1 G1.out FA.out OA.out hiA ?_
        refine hK.out _ _ trivial (fun _ => ?_)
        clear hK K
        try simp only [lay]
        refine tk 14 (v := ?_) ?_ trivial ?_
        rotate_left
        · intro w hSw
          go_simp
          first | done | with_reducible rfl
        try simp only [lay]
        refine wpAnyH_ready (rs := [15]) (by kernel_rfl) (by simp) ?_
        refine AllReadyH.cons rfl (fun K hK => ?_) AllReadyH.nil
        refine Eq.mpr (if_pos (by rfl)) ?_
        refine wp_store_at 132 _ _ rfl g (4 * J) LB.toArray (by first | rfl | (simp [ek]; done)) rfl 132 _ R1.out FB.out OB.out hiB ?_
        refine hK.out _ _ trivial (fun _ => ?_)
        clear hK K
        try simp only [lay]
        refine wpAnyH_done (by kernel_rfl) ?_ _
        clear hS
        go_wp2
        go_roundw
        case rel => exact ⟨k + 1, HKJ.out, by go_num, by rw [HJ2.out], _, R2.out, HS2.out, HNEW.out, GR.out⟩
        case measure => simp [intOf]; omega
      · refine Eq.mpr (if_pos (by rfl)) ?_
        refine wp_load_mid 132 _ rfl g _ rfl LB _ (by first | exact RB.out | (rw [ek]; exact RB.out)) Tryz.underlying132 rfl hlB ?_
        refine hK.out _ _ trivial (fun _ => ?_)
        clear hK K
        try simp only [lay]
        refine wpAnyH_ready (rs := [7]) (by kernel_rfl) (by simp) ?_
        refine AllReadyH.cons rfl (fun K hK => ?_) (AllReadyH.nil)
        refine Eq.mpr (if_pos (by rfl)) ?_
        refine wp_load_mid 132 _ rfl g _ rfl LA _ (by first | exact RA.out | (rw [ek]; exact RA.out)) Tryz.underlying132 rfl hlA ?_
        refine hK.out _ _ trivial (fun _ => ?_)
        clear hK K
        try simp only [lay]
        refine tk 12 (v := ?_) ?_ trivial ?_
        rotate_left
        · intro w hSw
          go_simp
          first | done | with_reducible rfl
        try simp only [lay]
        refine wpAnyH_ready (rs := [13]) (by kernel_rfl) (by simp) ?_
        refine AllReadyH.cons rfl (fun K hK => ?_) AllReadyH.nil
        refine Eq.mpr (if_pos (by rfl)) ?_
        refine wp_store_at 132 _ _ rfl g (4 * k) LA.toArray (by first | rfl | (simp [ek]; done)) rfl 132 cur1 G1.out FA.out OA.out hiA ?_
        refine hK.out _ _ trivial (fun _ => ?_)
        clear hK K
        try simp only [lay]
        refine tk 14 (v := ?_) ?_ trivial ?_
        rotate_left
        · intro w hSw
          go_simp
          first | done | with_reducible rfl
        try simp only [lay]
        refine wpAnyH_ready (rs := [15]) (by kernel_rfl) (by simp) ?_
        refine AllReadyH.cons rfl (fun K hK => ?_) AllReadyH.nil
        refine Eq.mpr (if_pos (by rfl)) ?_
        refine wp_store_at 132 _ _ rfl g (4 * J) LB.toArray (by first | rfl | (simp [ek]; done)) rfl 132 _ R1.out FB.out OB.out hiB ?_
        refine hK.out _ _ trivial (fun _ => ?_)
        clear hK K
        try simp only [lay]
        refine wpAnyH_done (by kernel_rfl) ?_ _
        clear hS
        go_wp2
        go_roundw
        case rel => exact ⟨k + 1, HKJ.out, by go_num, by rw [HJ2.out], _, R2.out, HS2.out, HNEW.out, GR.out⟩
        case measure => simp [intOf]; omega
    · have hge : ¬ (k : Int) < (m : Int) - 1 - (k : Int) := hlt
      have HF : Hid (∀ i, i < 4 * m → cur1[i]? = some (.int .u32 ((revF f m i).toNat : Int))) := Lib.hid fun i hi => by rw [hsw i hi, swF_end f m k i hi (by omega) hk]
      have G1 := Lib.hid g1
      have GR := Lib.hid hgr
      clear g1 hsw hgr HR H0 HSZ
      go_wp2
      go_end0
      exact ⟨rfl, ⟨cur1, G1.out, HF.out⟩, GR.out⟩
end Go.Proofs.YtbfmbdohebdbaaaGreatDoor
set_option linter.unusedVariables false
set_option linter.unusedSimpArgs false
namespace Go.Proofs.YtbfmbdohebdbaaaGreatDoor
open Go Go.RowKit
attribute [local go_sem ↓] Go.wp_at_zero Go.wp_at_succ

/-- words that can be read. -/
def WCell (w : World) (g L : Nat) (f : Nat → UInt32) : Prop := g < w.heap.size ∧ ∀ j, j < L → w.cell? ⟨g, j, none⟩ = some (.int .u32 ((f j).toNat : Int))
theorem WCell.below {w w' : World} {g L : Nat} {f : Nat → UInt32} (h : WCell w g L f) (hb : Below w.heap.size w w') : WCell w' g L f :=
  ⟨Nat.lt_of_lt_of_le h.1 hb.size, fun j hj => (hb.cell (p := ⟨g, j, none⟩) h.1).trans (h.2 j hj)⟩
theorem wc_of {w : World} {B g L c : Nat} {e : TypeId} {f : Nat → UInt32} (h : w.ownsRow B e 1 (.slice (some ⟨g, 0, none⟩) L c) L (cells32 (upTo f L))) : WCell w g L f :=
  ⟨(h.lt g rfl).2, fun j hj => (h.cellAt j (by omega)).trans (cells32_at _ _ _ (upTo_at f L j hj))⟩
/-- keys, four words each, where a slice points. -/
def KeysAt (w : World) (kv : Value) (m : Nat) (K : Nat → UInt32) : Prop :=
  ∃ g c, kv = .slice (some ⟨g, 0, none⟩) m c ∧ m ≤ c ∧ c ≤ 9223372036854775807 ∧ g < w.heap.size ∧ ∀ i, i < 4 * m → w.cell? ⟨g, i, none⟩ = some (.int .u32 ((K i).toNat : Int))
theorem KeysAt.below {w w' : World} {kv : Value} {m : Nat} {K : Nat → UInt32} (h : KeysAt w kv m K) (hb : Below w.heap.size w w') : KeysAt w' kv m K := by
  obtain ⟨g, c, h1, h2, h3, h4, h5⟩ := h
  exact ⟨g, c, h1, h2, h3, Nat.lt_of_lt_of_le h4 hb.size, fun i hi => (hb.cell (p := ⟨g, i, none⟩) h4).trans (h5 i hi)⟩
theorem own_cap {w : World} {B g m c s : Nat} {e : TypeId} {xs : List Value} (h : w.ownsRow B e s (.slice (some ⟨g, 0, none⟩) m c) m xs) : ∃ cur, RAt w g e cur ∧ m ≤ c ∧ c ≤ 9223372036854775807 ∧ cur.size = c * s ∧ cur.toList.take (m * s) = xs ∧ B ≤ g := by
  rcases h.2 with ⟨hv, _⟩ | ⟨g', cap, cur, hv, hb, hg, hn, hm, hs, ht⟩
  · cases hv
  · cases hv
    exact ⟨cur, hg, hn, by unfold maxLen at hm; omega, hs, ht, hb⟩
theorem keys_of_own {w : World} {B g m c : Nat} {e : TypeId} {f : Nat → UInt32} {L : Nat} (hL : L = 4 * m) (h : w.ownsRow B e 4 (.slice (some ⟨g, 0, none⟩) m c) m (cells32 (upTo f L))) : KeysAt w (.slice (some ⟨g, 0, none⟩) m c) m f := by
  obtain ⟨cur, hr, h1, h2, -⟩ := own_cap h
  exact ⟨g, c, rfl, h1, h2, hr.lt, fun i hi => (h.cellAt i (by omega)).trans (cells32_at _ _ _ (upTo_at f L i (by omega)))⟩
theorem tl_zero : ((Tryz.prog.info? 130).bind (·.zero)).map (·.cells.size) = some 1282 := by kernel_rfl
/-- where the parts of a tableLock stand. -/
def tlPl (x : Nat) : Option (Nat × Nat) := (#[(0, 1024), (1024, 256), (1280, 1), (1281, 1)] : Array (Nat × Nat))[x]?
theorem exec_build4 {P : Program} {ev : Operand → Value} {o : Oper} {t : TypeId} {x0 x1 x2 x3 : Operand} {X : Array Value} {w : World} (v0 v1 v2 v3 : Value) (ho : o.op = .build t #[(0, x0), (1, x1), (2, x2), (3, x3)]) (h0 : ev x0 = v0) (h1 : ev x1 = v1) (h2 : ev x2 = v2) (h3 : ev x3 = v3)
    (h : (Instr.build t #[(0, v0), (1, v1), (2, v2), (3, v3)]).run P w = .ok (.agg X) w) : (execOp ev o).run P w = .ok (.value (.agg X)) w := by
  subst h0 h1 h2 h3
  have e : (#[(0, x0), (1, x1), (2, x2), (3, x3)] : Array (Nat × Operand)).map (fun (i, x) => (i, ev x)) = #[(0, ev x0), (1, ev x1), (2, ev x2), (3, ev x3)] := by simp
  unfold execOp
  simp only [ho]
  rw [e, Sem.run_bind, h]
  rfl
set_option maxRecDepth 100000 in
theorem build_tl (h : Nat → UInt32) (f : UInt8 → UInt8) (A : Option Addr) (m c : Nat) (d : Int) : ∃ X, TlX X h f (.slice A m c) d ∧ ∀ W, (Instr.build 130 #[(0, .agg (ar32 h 1024)), (1, .agg (tabOf f)), (2, .slice A m c), (3, .int .i64 d)]).run Tryz.prog W = .ok (.agg X) W := by
  cases hq : Tryz.prog.info? 130 with
  | none => have := tl_zero; rw [hq] at this; cases this
  | some i =>
    cases hz : i.zero with
    | none => have := tl_zero; rw [hq] at this; simp [hz] at this
    | some z =>
      have hZ : z.cells.size = 1282 := by have := tl_zero; rw [hq] at this; simpa [hz] using this
      refine ⟨_, tlx_put z.cells h f (.slice A m c) d hZ, fun W => ?_⟩
      have s1 : (putAt z.cells 0 (ar32 h 1024)).size = 1282 := by rw [putAt_size _ _ _ (by rw [ar32_size, hZ]; omega), hZ]
      have s2 : (putAt (putAt z.cells 0 (ar32 h 1024)) 1024 (tabOf f)).size = 1282 := by rw [putAt_size _ _ _ (by rw [tabOf_size, s1]; omega), s1]
      have s3 : (putAt (putAt (putAt z.cells 0 (ar32 h 1024)) 1024 (tabOf f)) 1280 #[.slice A m c]).size = 1282 := by rw [putAt_size _ _ _ (by rw [s2]; simp), s2]
      refine run_build_struct 130 _ _ i z #[(0, 1024), (1024, 256), (1280, 1), (1281, 1)] _ W Tryz.underlying130 hq hz (by kernel_rfl) ?_
      show Instr.fill tlPl z.cells [(0, .agg (ar32 h 1024)), (1, .agg (tabOf f)), (2, .slice A m c), (3, .int .i64 d)] = _
      rw [fill_at tlPl _ 0 0 1024 (.agg (ar32 h 1024)) (ar32 h 1024) _ rfl rfl (ar32_size h 1024) (by rw [hZ]; omega)]
      rw [fill_at tlPl _ 1 1024 256 (.agg (tabOf f)) (tabOf f) _ rfl rfl (tabOf_size f) (by show _ ≤ (putAt z.cells 0 (ar32 h 1024)).size; rw [s1]; omega)]
      rw [fill_at tlPl _ 2 1280 1 (.slice A m c) #[.slice A m c] _ rfl rfl rfl (by show _ ≤ (putAt (putAt z.cells 0 (ar32 h 1024)) 1024 (tabOf f)).size; rw [s2]; omega)]
      rw [fill_at tlPl _ 3 1281 1 (.int .i64 d) #[.int .i64 d] _ rfl rfl rfl (by show _ ≤ (putAt (putAt (putAt z.cells 0 (ar32 h 1024)) 1024 (tabOf f)) 1280 #[.slice A m c]).size; rw [s3]; omega)]
      rw [Instr.fill]
theorem exp_cells (s : ByteArray) (n : Nat) (h : kOf s n) (W : World) :
    Calls Tryz.prog 91 #[.string s] W fun e w' => ∃ g, e = .returned (.slice (some ⟨g, 0, none⟩) (kL n) (kL n)) ∧ WCell w' g (kL n) (ew s n) ∧ Below W.heap.size W w' :=
  (expanded_yes s n h W).mono fun e w' ⟨h1, h2, h3⟩ => ⟨_, h1, wc_of h2, h3⟩
theorem unm_cells (s : ByteArray) (n : Nat) (h : kOf s n) (W : World) (hu : Fac4 W 2 unF) :
    Calls Tryz.prog 104 #[.string s] W fun e w' => ∃ g, e = .returned (.slice (some ⟨g, 0, none⟩) (kL n) (kL n)) ∧ WCell w' g (kL n) (uw s n) ∧ Below W.heap.size W w' :=
  (unmixed_yes s n h W hu).mono fun e w' ⟨h1, h2, h3⟩ => ⟨_, h1, wc_of h2, h3⟩
theorem fours_keys (n g : Nat) (hn : n ≤ 8) (f : Nat → UInt32) (W : World) (hw : WCell W g (kL n) f) :
    Calls Tryz.prog 90 #[.slice (some ⟨g, 0, none⟩) (kL n) (kL n)] W fun e w' => ∃ g' c, e = .returned (.slice (some ⟨g', 0, none⟩) (n + 7) c) ∧ KeysAt w' (.slice (some ⟨g', 0, none⟩) (n + 7) c) (n + 7) f ∧ Below W.heap.size W w' :=
  (Fo.foursOf_impl g (kL n) (n + 6) f (by unfold kL; omega) (by unfold kL; omega) W hw.1 hw.2).mono fun e w' ⟨g', c, h1, h2, h3⟩ => ⟨g', c, h1, keys_of_own (by unfold kL; omega) h2, h3⟩
theorem fours_own (n g : Nat) (hn : n ≤ 8) (f : Nat → UInt32) (W : World) (hw : WCell W g (kL n) f) :
    Calls Tryz.prog 90 #[.slice (some ⟨g, 0, none⟩) (kL n) (kL n)] W fun e w' => ∃ g' c cur, e = .returned (.slice (some ⟨g', 0, none⟩) (n + 7) c) ∧ RAt w' g' 132 cur ∧ n + 7 ≤ c ∧ c ≤ 9223372036854775807 ∧ 4 * (n + 7) ≤ cur.size ∧ (∀ i, i < 4 * (n + 7) → cur[i]? = some (.int .u32 ((f i).toNat : Int))) ∧ W.heap.size ≤ g' ∧ Below W.heap.size W w' :=
  (Fo.foursOf_impl g (kL n) (n + 6) f (by unfold kL; omega) (by unfold kL; omega) W hw.1 hw.2).mono fun e w' ⟨g', c, h1, h2, h3⟩ => by
    obtain ⟨cur, hr, h4, h5, h6, h7, h8⟩ := own_cap h2
    refine ⟨g', c, cur, h1, hr, h4, h5, by omega, fun i hi => ?_, h8, h3⟩
    have e1 : (cur.toList.take ((n + 7) * 4))[i]? = cur[i]? := by rw [List.getElem?_take_of_lt (by omega)]; simp
    rw [← e1, h7]
    exact cells32_at _ _ _ (upTo_at f (kL n) i (by unfold kL; omega))
theorem fac4_cells {W : World} {g : Nat} {f : Nat → UInt8} (h : Fac4 W g f) : W.cell? ⟨g, 0, none⟩ = some (.int .u8 ((f 0).toNat : Int)) ∧ W.cell? ⟨g, 1, none⟩ = some (.int .u8 ((f 1).toNat : Int)) ∧ W.cell? ⟨g, 2, none⟩ = some (.int .u8 ((f 2).toNat : Int)) ∧ W.cell? ⟨g, 3, none⟩ = some (.int .u8 ((f 3).toNat : Int)) := h.2
end Go.Proofs.YtbfmbdohebdbaaaGreatDoor
set_option linter.unusedVariables false
set_option linter.unusedSimpArgs false
namespace Go.Proofs.YtbfmbdohebdbaaaGreatDoor
open Go Go.RowKit
attribute [local go_sem ↓] Go.wp_at_zero Go.wp_at_succ

set_option maxRecDepth 100000 in
set_option maxHeartbeats 3200000 in
theorem keysThere_impl (s : ByteArray) (n : Nat) (hn : kOf s n) (w : World) :
    Calls Tryz.prog 59 #[.string s] w fun e w' => ∃ g c, e = .returned (.slice (some ⟨g, 0, none⟩) (n + 7) c) ∧ KeysAt w' (.slice (some ⟨g, 0, none⟩) (n + 7) c) (n + 7) (ew s n) ∧ Below w.heap.size w w' := by
  have hle := hn.le
  have CE := Lib.hid (exp_cells s n hn w)
  have CF := fun g W hw => Lib.hid (fours_keys n g (by omega) (ew s n) W hw)
  generalize ew s n = fw at *
  generalize kL n = L at *
  clear hle
  go_enter Tryz.func59, Tryz.ntmps59
  go_wp2_with fail
  refine CE.out.mono ?_; rintro e w1 ⟨gE, rfl, hw, hb1⟩
  have HB1 := Lib.hid hb1
  have HW := Lib.hid hw
  clear hb1 hw
  go_wp2_with fail
  refine (CF _ _ HW.out).out.mono ?_; rintro e w2 ⟨g, c, rfl, hk, hb2⟩
  have HB2 := Lib.hid (HB1.out.trans (hb2.mono HB1.out.size))
  have HK := Lib.hid hk
  clear hb2 hk
  go_wp2
  exact ⟨rfl, _, results_tmp rfl _ _ _, g, c, rfl, HK.out, HB2.out⟩
set_option maxRecDepth 100000 in
set_option maxHeartbeats 3200000 in
theorem keysBack_impl (s : ByteArray) (n : Nat) (hn : kOf s n) (w : World) (hf : Fac4 w 2 unF) :
    Calls Tryz.prog 76 #[.string s] w fun e w' => ∃ g c, e = .returned (.slice (some ⟨g, 0, none⟩) (n + 7) c) ∧ KeysAt w' (.slice (some ⟨g, 0, none⟩) (n + 7) c) (n + 7) (revF (uw s n) (n + 7)) ∧ Below w.heap.size w w' := by
  have hle := hn.le
  have CE := Lib.hid (unm_cells s n hn w hf)
  have CF := fun g W hw => Lib.hid (fours_own n g (by omega) (uw s n) W hw)
  have CR := fun g c cur W h1 h2 h3 hr hi => Lib.hid (reverse_impl (uw s n) g (n + 7) c cur (by omega) (by omega) h1 h2 h3 W hr hi)
  generalize hfw : revF (uw s n) (n + 7) = fw at *
  generalize uw s n = fu at *
  generalize kL n = L at *
  clear hfw hle hf
  go_enter Tryz.func76, Tryz.ntmps76
  go_wp2_with fail
  refine CE.out.mono ?_; rintro e w1 ⟨gE, rfl, hw, hb1⟩
  have HB1 := Lib.hid hb1
  have HW := Lib.hid hw
  clear hb1 hw
  go_wp2_with fail
  refine (CF _ _ HW.out).out.mono ?_; rintro e w2 ⟨g, c, cur, rfl, hr, h1, h2, h3, h4, h5, hb2⟩
  have HB2 := Lib.hid (HB1.out.trans (hb2.mono HB1.out.size))
  have HG : Hid (w.heap.size ≤ g) := Lib.hid (Nat.le_trans HB1.out.size h5)
  have CR2 := CR g c cur w2 h1 h2 h3 hr h4
  have HCC := Lib.hid (And.intro h1 h2)
  clear hb2 h1 h2 h3 h4 h5 hr CR CF CE HB1 HW
  go_wp2_with fail
  refine CR2.out.mono ?_; rintro e w3 ⟨rfl, ⟨cur2, hr2, hi2⟩, hg2⟩
  have HB0 : Hid (Below w.heap.size w w3) := Lib.hid (below_only HB2.out hg2 HG.out HB2.out.size)
  have HK0 : Hid (KeysAt w3 (.slice (some ⟨g, 0, none⟩) (n + 7) c) (n + 7) fw) := Lib.hid ⟨g, c, rfl, HCC.out.1, HCC.out.2, hr2.lt, fun i hi => (hr2.cell (hi2 i hi) : w3.cell? ⟨g, i, none⟩ = _)⟩
  clear hr2 hi2 hg2 CR2 HB2 HG
  go_wp2
  go_ret
  exact ⟨g, c, rfl, HK0.out, HB0.out⟩
end Go.Proofs.YtbfmbdohebdbaaaGreatDoor
set_option linter.unusedVariables false
set_option linter.unusedSimpArgs false
namespace Go.Proofs.YtbfmbdohebdbaaaGreatDoor
open Go Go.RowKit
attribute [local go_sem ↓] Go.wp_at_zero Go.wp_at_succ

set_option maxRecDepth 100000 in
set_option maxHeartbeats 12800000 in
theorem lockTables_impl (s : ByteArray) (n : Nat) (hn : kOf s n) (w : World) (hf : Fac4 w 1 mxF) :
    Calls Tryz.prog 57 #[.string s] w fun e w' => ∃ p X kv, e = .returned (.pointer (some ⟨p, 0, none⟩)) ∧ RAt w' p 130 X ∧ TlX X (tbF sbox mxF) sbox kv 1 ∧ KeysAt w' kv (n + 7) (ew s n) ∧ Below w.heap.size w w' := by
  have hle := hn.le
  have CB := fun W => Lib.hid (subBox_any W)
  have CT := fun W => Lib.hid (tablesOf_impl sbox mxF W)
  have CK := fun W (_ : Below w.heap.size w W) => Lib.hid (keysThere_impl s n hn W)
  have BL := Lib.hid (fun A m c => build_tl (tbF sbox mxF) sbox A m c 1)
  simp only [fac] at CT
  have HSF : Hid (∀ W, Below w.heap.size w W → W.cell? ⟨1, 0, none⟩ = some (.int .u8 ((mxF 0).toNat : Int)) ∧ W.cell? ⟨1, 1, none⟩ = some (.int .u8 ((mxF 1).toNat : Int)) ∧ W.cell? ⟨1, 2, none⟩ = some (.int .u8 ((mxF 2).toNat : Int)) ∧ W.cell? ⟨1, 3, none⟩ = some (.int .u8 ((mxF 3).toNat : Int))) := Lib.hid fun W hW => fac4_cells (hf.below hW hf.1)
  have HB0 : Hid (Below w.heap.size w w.drew) := Lib.hid (Below.refl w.heap.size w).drew
  have hS0 := HSF.out w.drew HB0.out
  obtain ⟨TX, hTX⟩ : ∃ TX : Value → Array Value → Prop, (fun kv X => TlX X (tbF sbox mxF) sbox kv 1) = TX := ⟨_, rfl⟩
  have HBL : Hid (∀ A m c, ∃ X, TX (.slice A m c) X ∧ ∀ W, (Instr.build 130 #[(0, .agg (ar32 (tbF sbox mxF) 1024)), (1, .agg (tabOf sbox)), (2, .slice A m c), (3, .int .i64 1)]).run Tryz.prog W = .ok (.agg X) W) := Lib.hid (by rw [← hTX]; exact BL.out)
  have HTX : Hid (∀ kv X, TX kv X → TlX X (tbF sbox mxF) sbox kv 1) := Lib.hid (by rw [← hTX]; exact fun _ _ h => h)
  clear BL hTX hf hle
  generalize ar32 (tbF sbox mxF) 1024 = TT at *
  generalize tabOf sbox = TB at *
  generalize ew s n = fw at *
  generalize mxF = fm at *
  go_enter Tryz.func57, Tryz.ntmps57
  go_wp2
  refine wp_region_held_drew (S := fun w' => w'.cell? ⟨1, 0, none⟩ = some (.int .u8 ((fm 0).toNat : Int)) ∧ w'.cell? ⟨1, 1, none⟩ = some (.int .u8 ((fm 1).toNat : Int)) ∧ w'.cell? ⟨1, 2, none⟩ = some (.int .u8 ((fm 2).toNat : Int)) ∧ w'.cell? ⟨1, 3, none⟩ = some (.int .u8 ((fm 3).toNat : Int))) (by kernel_rfl) hS0 (fun hS => ?_)
  refine tk 1 (v := ?_) ?_ hS ?_
  rotate_left
  · intro w hSw
    obtain ⟨s0, s1, s2, s3⟩ := hSw
    go_simp
    first | done | with_reducible rfl
  try simp only [lay]
  refine tk 4 (v := ?_) ?_ hS ?_
  rotate_left
  · intro w hSw
    obtain ⟨s0, s1, s2, s3⟩ := hSw
    go_simp
    first | done | with_reducible rfl
  try simp only [lay]
  refine wpAnyH_ready (rs := [0]) (by kernel_rfl) (by simp) ?_
  refine AllReadyH.cons rfl (fun K hK => ?_) (AllReadyH.nil)
  go_simp
  refine (CB _).out.mono ?_; rintro e v1 ⟨rfl, hb⟩
  have HB1 := Lib.hid (HB0.out.trans (hb.mono HB0.out.size))
  clear hb
  refine hK.out _ _ (HSF.out _ HB1.out) (fun hS1 => ?_)
  clear hK K
  try simp only [lay]
  refine wpAnyH_ready (rs := [2]) (by kernel_rfl) (by simp) ?_
  refine AllReadyH.cons rfl (fun K hK => ?_) (AllReadyH.nil)
  go_simp
  refine (CT _).out.mono ?_; rintro e v2 ⟨rfl, hb⟩
  have HB2 := Lib.hid (HB1.out.trans (hb.mono HB1.out.size))
  clear hb
  refine hK.out _ _ (HSF.out _ HB2.out) (fun hS2 => ?_)
  clear hK K
  try simp only [lay]
  refine wpAnyH_ready (rs := [3]) (by kernel_rfl) (by simp) ?_
  refine AllReadyH.cons rfl (fun K hK => ?_) (AllReadyH.nil)
  go_simp
  refine (CB _).out.mono ?_; rintro e v3 ⟨rfl, hb⟩
  have HB3 := Lib.hid (HB2.out.trans (hb.mono HB2.out.size))
  clear hb
  refine hK.out _ _ (HSF.out _ HB3.out) (fun hS3 => ?_)
  clear hK K
  try simp only [lay]
  refine wpAnyH_ready (rs := [5]) (by kernel_rfl) (by simp) ?_
  refine AllReadyH.cons rfl (fun K hK => ?_) (AllReadyH.nil)
  go_simp
  refine (CK _ HB3.out).out.mono ?_; rintro e v4 ⟨gK, cK, rfl, hk, hb⟩
  have HB4 := Lib.hid (HB3.out.trans (hb.mono HB3.out.size))
  have HK4 := Lib.hid hk
  clear hk
  clear hb
  refine hK.out _ _ (HSF.out _ HB4.out) (fun hS4 => ?_)
  clear hK K
  try simp only [lay]
  obtain ⟨X, hX, hbuild⟩ := HBL.out (some ⟨gK, 0, none⟩) (n + 7) cK
  have HX := Lib.hid (HTX.out _ _ hX)
  clear hX
  refine wpAnyH_take (i := 6) (v := .agg X) rfl (by kernel_rfl) (by kernel_rfl) (by kernel_rfl) (fun _ _ _ h => h) (Or.inl ⟨by kernel_rfl, ?_⟩) hS4 ?_
  · intro w hSw
    exact exec_build4 (.agg TT) (.agg TB) (.slice (some ⟨gK, 0, none⟩) (n + 7) cK) (.int .i64 1) rfl rfl rfl rfl rfl (hbuild w)
  try simp only [lay]
  clear hbuild
  have HA := Lib.hid (HB4.out.trans ((al_up v4 (.cells X 130)).mono HB4.out.size))
  refine wpAnyH_ready (rs := [7]) (by kernel_rfl) (by simp) ?_
  refine AllReadyH.cons rfl (fun K hK => ?_) AllReadyH.nil
  go_simp
  refine hK.out _ _ (HSF.out _ HA.out) (fun hS9 => ?_)
  clear hK K
  try simp only [lay]
  refine tk 8 (v := ?_) ?_ hS9 ?_
  rotate_left
  · intro w hSw
    go_simp
    first | done | with_reducible rfl
  try simp only [lay]
  refine wpAnyH_done (by kernel_rfl) ?_ _
  have HR := Lib.hid (RAt.new v4 130 X)
  have HKF := Lib.hid (HK4.out.below (al_up v4 (.cells X 130)))
  clear hS hS9
  go_wp2
  go_ret
  exact ⟨_, X, _, rfl, HR.out, HX.out, HKF.out, HA.out⟩
set_option maxRecDepth 100000 in
set_option maxHeartbeats 12800000 in
theorem unlockTables_impl (s : ByteArray) (n : Nat) (hn : kOf s n) (w : World) (hf : Fac4 w 2 unF) :
    Calls Tryz.prog 75 #[.string s] w fun e w' => ∃ p X kv, e = .returned (.pointer (some ⟨p, 0, none⟩)) ∧ RAt w' p 130 X ∧ TlX X (tbF ubox unF) ubox kv 3 ∧ KeysAt w' kv (n + 7) (revF (uw s n) (n + 7)) ∧ Below w.heap.size w w' := by
  have hle := hn.le
  have CB := fun W => Lib.hid (unsubBox_any W)
  have CT := fun W => Lib.hid (tablesOf_impl ubox unF W)
  have CK := fun W (h : Below w.heap.size w W) => Lib.hid (keysBack_impl s n hn W (hf.below h hf.1))
  have BL := Lib.hid (fun A m c => build_tl (tbF ubox unF) ubox A m c 3)
  simp only [fac] at CT
  have HSF : Hid (∀ W, Below w.heap.size w W → W.cell? ⟨2, 0, none⟩ = some (.int .u8 ((unF 0).toNat : Int)) ∧ W.cell? ⟨2, 1, none⟩ = some (.int .u8 ((unF 1).toNat : Int)) ∧ W.cell? ⟨2, 2, none⟩ = some (.int .u8 ((unF 2).toNat : Int)) ∧ W.cell? ⟨2, 3, none⟩ = some (.int .u8 ((unF 3).toNat : Int))) := Lib.hid fun W hW => fac4_cells (hf.below hW hf.1)
  have HB0 : Hid (Below w.heap.size w w.drew) := Lib.hid (Below.refl w.heap.size w).drew
  have hS0 := HSF.out w.drew HB0.out
  obtain ⟨TX, hTX⟩ : ∃ TX : Value → Array Value → Prop, (fun kv X => TlX X (tbF ubox unF) ubox kv 3) = TX := ⟨_, rfl⟩
  have HBL : Hid (∀ A m c, ∃ X, TX (.slice A m c) X ∧ ∀ W, (Instr.build 130 #[(0, .agg (ar32 (tbF ubox unF) 1024)), (1, .agg (tabOf ubox)), (2, .slice A m c), (3, .int .i64 3)]).run Tryz.prog W = .ok (.agg X) W) := Lib.hid (by rw [← hTX]; exact BL.out)
  have HTX : Hid (∀ kv X, TX kv X → TlX X (tbF ubox unF) ubox kv 3) := Lib.hid (by rw [← hTX]; exact fun _ _ h => h)
  clear BL hTX hf hle
  generalize ar32 (tbF ubox unF) 1024 = TT at *
  generalize tabOf ubox = TB at *
  generalize hfw : revF (uw s n) (n + 7) = fw at *
  generalize unF = fm at *
  clear hfw
  go_enter Tryz.func75, Tryz.ntmps75
  go_wp2
  refine wp_region_held_drew (S := fun w' => w'.cell? ⟨2, 0, none⟩ = some (.int .u8 ((fm 0).toNat : Int)) ∧ w'.cell? ⟨2, 1, none⟩ = some (.int .u8 ((fm 1).toNat : Int)) ∧ w'.cell? ⟨2, 2, none⟩ = some (.int .u8 ((fm 2).toNat : Int)) ∧ w'.cell? ⟨2, 3, none⟩ = some (.int .u8 ((fm 3).toNat : Int))) (by kernel_rfl) hS0 (fun hS => ?_)
  refine tk 1 (v := ?_) ?_ hS ?_
  rotate_left
  · intro w hSw
    obtain ⟨s0, s1, s2, s3⟩ := hSw
    go_simp
    first | done | with_reducible rfl
  try simp only [lay]
  refine tk 4 (v := ?_) ?_ hS ?_
  rotate_left
  · intro w hSw
    obtain ⟨s0, s1, s2, s3⟩ := hSw
    go_simp
    first | done | with_reducible rfl
  try simp only [lay]
  refine wpAnyH_ready (rs := [0]) (by kernel_rfl) (by simp) ?_
  refine AllReadyH.cons rfl (fun K hK => ?_) (AllReadyH.nil)
  go_simp
  refine (CB _).out.mono ?_; rintro e v1 ⟨rfl, hb⟩
  have HB1 := Lib.hid (HB0.out.trans (hb.mono HB0.out.size))
  clear hb
  refine hK.out _ _ (HSF.out _ HB1.out) (fun hS1 => ?_)
  clear hK K
  try simp only [lay]
  refine wpAnyH_ready (rs := [2]) (by kernel_rfl) (by simp) ?_
  refine AllReadyH.cons rfl (fun K hK => ?_) (AllReadyH.nil)
  go_simp
  refine (CT _).out.mono ?_; rintro e v2 ⟨rfl, hb⟩
  have HB2 := Lib.hid (HB1.out.trans (hb.mono HB1.out.size))
  clear hb
  refine hK.out _ _ (HSF.out _ HB2.out) (fun hS2 => ?_)
  clear hK K
  try simp only [lay]
  refine wpAnyH_ready (rs := [3]) (by kernel_rfl) (by simp) ?_
  refine AllReadyH.cons rfl (fun K hK => ?_) (AllReadyH.nil)
  go_simp
  refine (CB _).out.mono ?_; rintro e v3 ⟨rfl, hb⟩
  have HB3 := Lib.hid (HB2.out.trans (hb.mono HB2.out.size))
  clear hb
  refine hK.out _ _ (HSF.out _ HB3.out) (fun hS3 => ?_)
  clear hK K
  try simp only [lay]
  refine wpAnyH_ready (rs := [5]) (by kernel_rfl) (by simp) ?_
  refine AllReadyH.cons rfl (fun K hK => ?_) (AllReadyH.nil)
  go_simp
  refine (CK _ HB3.out).out.mono ?_; rintro e v4 ⟨gK, cK, rfl, hk, hb⟩
  have HB4 := Lib.hid (HB3.out.trans (hb.mono HB3.out.size))
  have HK4 := Lib.hid hk
  clear hk
  clear hb
  refine hK.out _ _ (HSF.out _ HB4.out) (fun hS4 => ?_)
  clear hK K
  try simp only [lay]
  obtain ⟨X, hX, hbuild⟩ := HBL.out (some ⟨gK, 0, none⟩) (n + 7) cK
  have HX := Lib.hid (HTX.out _ _ hX)
  clear hX
  refine wpAnyH_take (i := 6) (v := .agg X) rfl (by kernel_rfl) (by kernel_rfl) (by kernel_rfl) (fun _ _ _ h => h) (Or.inl ⟨by kernel_rfl, ?_⟩) hS4 ?_
  · intro w hSw
    exact exec_build4 (.agg TT) (.agg TB) (.slice (some ⟨gK, 0, none⟩) (n + 7) cK) (.int .i64 3) rfl rfl rfl rfl rfl (hbuild w)
  try simp only [lay]
  clear hbuild
  have HA := Lib.hid (HB4.out.trans ((al_up v4 (.cells X 130)).mono HB4.out.size))
  refine wpAnyH_ready (rs := [7]) (by kernel_rfl) (by simp) ?_
  refine AllReadyH.cons rfl (fun K hK => ?_) AllReadyH.nil
  go_simp
  refine hK.out _ _ (HSF.out _ HA.out) (fun hS9 => ?_)
  clear hK K
  try simp only [lay]
  refine tk 8 (v := ?_) ?_ hS9 ?_
  rotate_left
  · intro w hSw
    go_simp
    first | done | with_reducible rfl
  try simp only [lay]
  refine wpAnyH_done (by kernel_rfl) ?_ _
  have HR := Lib.hid (RAt.new v4 130 X)
  have HKF := Lib.hid (HK4.out.below (al_up v4 (.cells X 130)))
  clear hS hS9
  go_wp2
  go_ret
  exact ⟨_, X, _, rfl, HR.out, HX.out, HKF.out, HA.out⟩
end Go.Proofs.YtbfmbdohebdbaaaGreatDoor
