/-
  What slices.Reverse leaves of a list of fours: the last one first.
-/
import Derived.Test.YtkbnnlhilnnpeaaGreatDoorStoreAt
import Derived.Test.YtkbnnlhilnnpeaaGreatDoorRndI
import Derived.Deep.MidRow
set_option linter.unusedVariables false
set_option linter.unusedSimpArgs false
namespace Go.Proofs.YtkbnnlhilnnpeaaGreatDoor
open Go Go.RowKit

/-- fours of which the first k and the last k are turned round. -/
def swF (f : Nat → UInt32) (m k i : Nat) : UInt32 := if i / 4 < k ∨ m - 1 - k < i / 4 then f (4 * (m - 1 - i / 4) + i % 4) else f i
def revF (f : Nat → UInt32) (m i : Nat) : UInt32 := f (4 * (m - 1 - i / 4) + i % 4)
theorem swF_0 (f : Nat → UInt32) (m i : Nat) (hi : i < 4 * m) : swF f m 0 i = f i := by unfold swF; rw [if_neg (by omega)]
theorem swF_end (f : Nat → UInt32) (m k i : Nat) (hi : i < 4 * m) (hk : m ≤ 2 * k + 1) (hk2 : 2 * k ≤ m) : swF f m k i = revF f m i := by
  unfold swF revF
  by_cases h : i / 4 < k ∨ m - 1 - k < i / 4
  · rw [if_pos h]
  · rw [if_neg h]
    have : i = 4 * (m - 1 - i / 4) + i % 4 := by omega
    rw [← this]
def SwIs (cur : Array Value) (f : Nat → UInt32) (m k : Nat) : Prop := ∀ i, i < 4 * m → cur[i]? = some (.int .u32 ((swF f m k i).toNat : Int))
theorem sw_put (cur : Array Value) (f : Nat → UInt32) (m k J : Nat) (hJ : J = m - 1 - k) (hk : k < J) (hm : 4 * m ≤ cur.size) (h : SwIs cur f m k) :
    SwIs (putAt (putAt cur (4 * k) (ar32 (fun c => f (4 * J + c)) 4)) (4 * J) (ar32 (fun c => f (4 * k + c)) 4)) f m (k + 1) := by
  have s1 : (putAt cur (4 * k) (ar32 (fun c => f (4 * J + c)) 4)).size = cur.size := putAt_size _ _ _ (by rw [ar32_size]; omega)
  intro i hi
  rw [putAt_get _ _ _ (by rw [s1, ar32_size]; omega), ar32_size]
  by_cases b : 4 * J ≤ i ∧ i < 4 * J + 4
  · rw [if_neg (by omega), if_pos b.2, ar32_at _ _ _ (by omega)]
    unfold swF
    rw [if_pos (by omega), show 4 * (m - 1 - i / 4) + i % 4 = 4 * k + (i - 4 * J) by omega]
  · have e : (if i < 4 * J then (putAt cur (4 * k) (ar32 (fun c => f (4 * J + c)) 4))[i]? else if i < 4 * J + 4 then (ar32 (fun c => f (4 * k + c)) 4)[i - 4 * J]? else (putAt cur (4 * k) (ar32 (fun c => f (4 * J + c)) 4))[i]?) = (putAt cur (4 * k) (ar32 (fun c => f (4 * J + c)) 4))[i]? := by
      by_cases c : i < 4 * J
      · rw [if_pos c]
      · rw [if_neg c, if_neg (by omega)]
    rw [e, putAt_get _ _ _ (by rw [ar32_size]; omega), ar32_size]
    by_cases a : 4 * k ≤ i ∧ i < 4 * k + 4
    · rw [if_neg (by omega), if_pos a.2, ar32_at _ _ _ (by omega)]
      unfold swF
      rw [if_pos (by omega), show 4 * (m - 1 - i / 4) + i % 4 = 4 * J + (i - 4 * k) by omega]
    · have e2 : (if i < 4 * k then cur[i]? else if i < 4 * k + 4 then (ar32 (fun c => f (4 * J + c)) 4)[i - 4 * k]? else cur[i]?) = cur[i]? := by
        by_cases c : i < 4 * k
        · rw [if_pos c]
        · rw [if_neg c, if_neg (by omega)]
      rw [e2, h i hi]
      unfold swF
      by_cases d : i / 4 < k ∨ m - 1 - k < i / 4
      · rw [if_pos d, if_pos (by omega)]
      · rw [if_neg d, if_neg (by omega)]
theorem sw_range {w : World} {g : Nat} {t : TypeId} {cur : Array Value} {f : Nat → UInt32} {m k q : Nat} (hr : RAt w g t cur) (h : SwIs cur f m k) (hq : q < m) (h1 : k ≤ q) (h2 : q ≤ m - 1 - k) :
    w.rangeAt g (4 * q) (cells32 (upTo (fun c => f (4 * q + c)) 4)) := fun j v hv => by
  have hj : j < 4 := by have := (List.getElem?_eq_some_iff.1 hv).1; rwa [cells32_length, upTo_length] at this
  have e := h (4 * q + j) (by omega)
  unfold swF at e
  rw [if_neg (by omega)] at e
  rw [hr.cell e, ← hv]
  exact (cells32_at _ _ _ (upTo_at (fun c => f (4 * q + c)) 4 j hj)).symm
theorem fw_len (h : Nat → UInt32) : (Tryz.prog.info? 100).map (·.size) = some (cells32 (upTo h 4)).length := by rw [cells32_length, upTo_length]; kernel_rfl
theorem size_setRow8 (w : World) (g : Nat) (cs : Array Value) : (w.setRow g cs).heap.size = w.heap.size := by simp [World.setRow]
theorem only_setRow {a w : World} {g : Nat} (h : a.grownBy w (some g)) (cs : Array Value) : a.grownBy (w.setRow g cs) (some g) :=
  ⟨h.os, h.tape, h.output, by rw [size_setRow8]; exact h.size, fun k hk hn => (setRow_other w g k cs (fun e => hn (by rw [e]))).trans (h.block k hk hn)⟩
theorem only_drew8 {a w : World} {g : Nat} (h : a.grownBy w (some g)) : a.grownBy w.drew (some g) := ⟨h.os, h.tape, h.output, h.size, h.block⟩
set_option maxRecDepth 100000 in
set_option maxHeartbeats 6400000 in
theorem reverse_impl (f : Nat → UInt32) (g m c : Nat) (cur : Array Value) (hm : 1 ≤ m) (hm2 : m ≤ 1000) (hmc : m ≤ c) (hc : c ≤ 9223372036854775807) (hsz : 4 * m ≤ cur.size) (w : World) (hr : RAt w g 100 cur) (hf : ∀ i, i < 4 * m → cur[i]? = some (.int .u32 ((f i).toNat : Int))) :
    Calls Tryz.prog 83 #[.slice (some ⟨g, 0, none⟩) m c] w fun e w' => e = .returned (.tuple #[]) ∧ (∃ cur', RAt w' g 100 cur' ∧ ∀ i, i < 4 * m → cur'[i]? = some (.int .u32 ((revF f m i).toNat : Int))) ∧ w.grownBy w' (some g) := by
  have h0 : SwIs cur f m 0 := fun i hi => by rw [hf i hi, swF_0 f m i hi]
  have HR := Lib.hid hr
  have H0 := Lib.hid h0
  have HSZ := Lib.hid hsz
  have q1 : IntKind.i64.wrap ((m : Int) - 1) = (m : Int) - 1 := IntWalk.i64_in _ (by omega)
  have hmI : (1 : Int) ≤ (m : Int) := by omega
  clear hr h0 hf hsz
  go_enter Tryz.func83, Tryz.ntmps83
  go_wp2
  clear q1
  go_loopw [2, 3] (fun a b wr => ∃ k : Nat, 2 * k ≤ m ∧ a = .int .i64 k ∧ b = .int .i64 ((m : Int) - 1 - (k : Int)) ∧ ∃ cur1, RAt wr g 100 cur1 ∧ 4 * m ≤ cur1.size ∧ SwIs cur1 f m k ∧ w.grownBy wr (some g)) (fun a _ _ => m - (intOf a).toNat)
  case atStart => exact ⟨0, by omega, rfl, by simp, cur, HR.out, HSZ.out, H0.out, ⟨rfl, rfl, rfl, Nat.le_refl _, fun _ _ _ => rfl⟩⟩
  case round =>
    obtain ⟨k, hk, rfl, rfl, cur1, g1, hsz1, hsw, hgr⟩ := hrel
    by_cases hlt : (k : Int) < (m : Int) - 1 - (k : Int)
    · obtain ⟨J, hJ⟩ : ∃ J : Nat, J = m - 1 - k := ⟨_, rfl⟩
      have hJI : (m : Int) - 1 - (k : Int) = (J : Int) := by omega
      rw [hJI] at hlt
      rw [hJI]
      have hkJ : k < J := by omega
      have RA := Lib.hid (sw_range g1 hsw (q := J) (by omega) (by omega) (by omega))
      have RB := Lib.hid (sw_range g1 hsw (q := k) (by omega) (by omega) (by omega))
      have hNEW := sw_put cur1 f m k J hJ hkJ hsz1 hsw
      have hlA := fw_len (fun c => f (4 * J + c))
      have hlB := fw_len (fun c => f (4 * k + c))
      have eA : (cells32 (upTo (fun c => f (4 * J + c)) 4)).toArray = ar32 (fun c => f (4 * J + c)) 4 := rfl
      have eB : (cells32 (upTo (fun c => f (4 * k + c)) 4)).toArray = ar32 (fun c => f (4 * k + c)) 4 := rfl
      have hiA : (Tryz.prog.info? 100).map (·.size) = some (ar32 (fun c => f (4 * J + c)) 4).size := fourWords_info _
      have hiB : (Tryz.prog.info? 100).map (·.size) = some (ar32 (fun c => f (4 * k + c)) 4).size := fourWords_info _
      have oneA : ∀ v ∈ (ar32 (fun c => f (4 * J + c)) 4).toList, v.oneCell' = true := fun v hv => cells32_one (upTo _ 4) v (by simpa [ar32] using hv)
      have oneB : ∀ v ∈ (ar32 (fun c => f (4 * k + c)) 4).toList, v.oneCell' = true := fun v hv => cells32_one (upTo _ 4) v (by simpa [ar32] using hv)
      have fitA : 4 * k + (ar32 (fun c => f (4 * J + c)) 4).size ≤ cur1.size := by rw [ar32_size]; omega
      have s1 : (putAt cur1 (4 * k) (ar32 (fun c => f (4 * J + c)) 4)).size = cur1.size := putAt_size _ _ _ fitA
      have fitB : 4 * J + (ar32 (fun c => f (4 * k + c)) 4).size ≤ (putAt cur1 (4 * k) (ar32 (fun c => f (4 * J + c)) 4)).size := by rw [s1, ar32_size]; omega
      have s2 := putAt_size _ _ _ fitB
      have hsz2 : 4 * m ≤ (putAt (putAt cur1 (4 * k) (ar32 (fun c => f (4 * J + c)) 4)) (4 * J) (ar32 (fun c => f (4 * k + c)) 4)).size := by rw [s2, s1]; exact hsz1
      obtain ⟨LA, hLA⟩ : ∃ LA, cells32 (upTo (fun c => f (4 * J + c)) 4) = LA := ⟨_, rfl⟩
      obtain ⟨LB, hLB⟩ : ∃ LB, cells32 (upTo (fun c => f (4 * k + c)) 4) = LB := ⟨_, rfl⟩
      rw [hLA] at RA hlA eA
      rw [hLB] at RB hlB eB
      rw [← eA] at hNEW hiA oneA fitA fitB hsz2
      rw [← eB] at hNEW hiB oneB fitB hsz2
      have R1 := Lib.hid (RAt.row (w := wr.drew) (g1 : RAt wr.drew g 100 cur1) (putAt cur1 (4 * k) LA.toArray))
      have R2 := Lib.hid (R1.out.row (putAt (putAt cur1 (4 * k) LA.toArray) (4 * J) LB.toArray))
      have GR := Lib.hid (only_setRow (only_setRow (only_drew8 hgr) (putAt cur1 (4 * k) LA.toArray)) (putAt (putAt cur1 (4 * k) LA.toArray) (4 * J) LB.toArray))
      have G1 : Hid (RAt wr.drew g 100 cur1) := Lib.hid g1
      have HNEW := Lib.hid hNEW
      have HS2 := Lib.hid hsz2
      have OA := Lib.hid oneA
      have OB := Lib.hid oneB
      have FA := Lib.hid fitA
      have FB := Lib.hid fitB
      have HKJ : Hid (2 * (k + 1) ≤ m) := Lib.hid (by omega)
      have hjm : (J : Int) < (m : Int) := by omega
      have hkm : (k : Int) < (m : Int) := by omega
      have hk0 : (0 : Int) ≤ (k : Int) := by omega
      have hj0 : (0 : Int) ≤ (J : Int) := by omega
      have hmI2 : (m : Int) ≤ (c : Int) := by omega
      have ek : ∀ q : Nat, q * 4 = 4 * q := fun q => Nat.mul_comm _ _
      have HJ2 : Hid ((J : Int) - 1 = (m : Int) - 1 - ((k + 1 : Nat) : Int)) := Lib.hid (by omega)
      have qj : IntKind.i64.wrap ((J : Int) - 1) = (J : Int) - 1 := IntWalk.i64_in _ (by omega)
      clear g1 hsw hNEW oneA oneB fitA fitB hsz2 s1 s2 hJI hJ hgr hsz1 hLA hLB eA eB hkJ HR H0 HSZ
      go_wp2
      refine wp_region_held_drew (S := fun _ => True) (by kernel_rfl) trivial (fun hS => ?_)
      refine wpAnyH_take (i := 0) (v := ?_) rfl (by kernel_rfl) (by kernel_rfl) (by kernel_rfl) (fun _ _ _ h => h) (Or.inl ⟨by kernel_rfl, ?_⟩) trivial ?_
      rotate_left
      · intro w hSw
        go_simp
        first | done | with_reducible rfl
      try simp only [List.getElem_toArray, List.getElem_cons_succ, List.getElem_cons_zero, Act.put, List.setIfInBounds_toArray, List.set_cons_zero, List.set_cons_succ]
      refine wpAnyH_take (i := 1) (v := ?_) rfl (by kernel_rfl) (by kernel_rfl) (by kernel_rfl) (fun _ _ _ h => h) (Or.inl ⟨by kernel_rfl, ?_⟩) trivial ?_
      rotate_left
      · intro w hSw
        go_simp
        first | done | with_reducible rfl
      try simp only [List.getElem_toArray, List.getElem_cons_succ, List.getElem_cons_zero, Act.put, List.setIfInBounds_toArray, List.set_cons_zero, List.set_cons_succ]
      refine wpAnyH_take (i := 2) (v := ?_) rfl (by kernel_rfl) (by kernel_rfl) (by kernel_rfl) (fun _ _ _ h => h) (Or.inl ⟨by kernel_rfl, ?_⟩) trivial ?_
      rotate_left
      · intro w hSw
        go_simp
        first | done | with_reducible rfl
      try simp only [List.getElem_toArray, List.getElem_cons_succ, List.getElem_cons_zero, Act.put, List.setIfInBounds_toArray, List.set_cons_zero, List.set_cons_succ]
      refine wpAnyH_take (i := 3) (v := ?_) rfl (by kernel_rfl) (by kernel_rfl) (by kernel_rfl) (fun _ _ _ h => h) (Or.inl ⟨by kernel_rfl, ?_⟩) trivial ?_
      rotate_left
      · intro w hSw
        go_simp
        first | done | with_reducible rfl
      try simp only [List.getElem_toArray, List.getElem_cons_succ, List.getElem_cons_zero, Act.put, List.setIfInBounds_toArray, List.set_cons_zero, List.set_cons_succ]
      refine wpAnyH_take (i := 4) (v := ?_) rfl (by kernel_rfl) (by kernel_rfl) (by kernel_rfl) (fun _ _ _ h => h) (Or.inl ⟨by kernel_rfl, ?_⟩) trivial ?_
      rotate_left
      · intro w hSw
        go_simp
        first | done | with_reducible rfl
      try simp only [List.getElem_toArray, List.getElem_cons_succ, List.getElem_cons_zero, Act.put, List.setIfInBounds_toArray, List.set_cons_zero, List.set_cons_succ]
      refine wpAnyH_take (i := 5) (v := ?_) rfl (by kernel_rfl) (by kernel_rfl) (by kernel_rfl) (fun _ _ _ h => h) (Or.inl ⟨by kernel_rfl, ?_⟩) trivial ?_
      rotate_left
      · intro w hSw
        go_simp
        first | done | with_reducible rfl
      try simp only [List.getElem_toArray, List.getElem_cons_succ, List.getElem_cons_zero, Act.put, List.setIfInBounds_toArray, List.set_cons_zero, List.set_cons_succ]
      refine wpAnyH_take (i := 6) (v := ?_) rfl (by kernel_rfl) (by kernel_rfl) (by kernel_rfl) (fun _ _ _ h => h) (Or.inl ⟨by kernel_rfl, ?_⟩) trivial ?_
      rotate_left
      · intro w hSw
        go_simp
        first | done | with_reducible rfl
      try simp only [List.getElem_toArray, List.getElem_cons_succ, List.getElem_cons_zero, Act.put, List.setIfInBounds_toArray, List.set_cons_zero, List.set_cons_succ]
      refine wpAnyH_take (i := 8) (v := ?_) rfl (by kernel_rfl) (by kernel_rfl) (by kernel_rfl) (fun _ _ _ h => h) (Or.inl ⟨by kernel_rfl, ?_⟩) trivial ?_
      rotate_left
      · intro w hSw
        go_simp
        first | done | with_reducible rfl
      try simp only [List.getElem_toArray, List.getElem_cons_succ, List.getElem_cons_zero, Act.put, List.setIfInBounds_toArray, List.set_cons_zero, List.set_cons_succ]
      refine wpAnyH_take (i := 9) (v := ?_) rfl (by kernel_rfl) (by kernel_rfl) (by kernel_rfl) (fun _ _ _ h => h) (Or.inl ⟨by kernel_rfl, ?_⟩) trivial ?_
      rotate_left
      · intro w hSw
        go_simp
        first | done | with_reducible rfl
      try simp only [List.getElem_toArray, List.getElem_cons_succ, List.getElem_cons_zero, Act.put, List.setIfInBounds_toArray, List.set_cons_zero, List.set_cons_succ]
      refine wpAnyH_take (i := 10) (v := ?_) rfl (by kernel_rfl) (by kernel_rfl) (by kernel_rfl) (fun _ _ _ h => h) (Or.inl ⟨by kernel_rfl, ?_⟩) trivial ?_
      rotate_left
      · intro w hSw
        go_simp
        first | done | with_reducible rfl
      try simp only [List.getElem_toArray, List.getElem_cons_succ, List.getElem_cons_zero, Act.put, List.setIfInBounds_toArray, List.set_cons_zero, List.set_cons_succ]
      refine wpAnyH_ready (rs := [7, 11]) (by kernel_rfl) (by simp) ?_
      refine AllReadyH.cons rfl (fun K hK => ?_) (AllReadyH.cons rfl (fun K hK => ?_) (AllReadyH.nil))
      · refine Eq.mpr (if_pos (by rfl)) ?_
        refine wp_load_mid 100 _ rfl g _ rfl LA _ (by first | exact RA.out | (rw [ek]; exact RA.out)) Tryz.underlying100 rfl hlA ?_
        refine hK.out _ _ trivial (fun _ => ?_)
        clear hK K
        try simp only [List.getElem_toArray, List.getElem_cons_succ, List.getElem_cons_zero, Act.put, List.setIfInBounds_toArray, List.set_cons_zero, List.set_cons_succ]
        refine wpAnyH_ready (rs := [11]) (by kernel_rfl) (by simp) ?_
        refine AllReadyH.cons rfl (fun K hK => ?_) (AllReadyH.nil)
        refine Eq.mpr (if_pos (by rfl)) ?_
        refine wp_load_mid 100 _ rfl g _ rfl LB _ (by first | exact RB.out | (rw [ek]; exact RB.out)) Tryz.underlying100 rfl hlB ?_
        refine hK.out _ _ trivial (fun _ => ?_)
        clear hK K
        try simp only [List.getElem_toArray, List.getElem_cons_succ, List.getElem_cons_zero, Act.put, List.setIfInBounds_toArray, List.set_cons_zero, List.set_cons_succ]
        refine wpAnyH_take (i := 12) (v := ?_) rfl (by kernel_rfl) (by kernel_rfl) (by kernel_rfl) (fun _ _ _ h => h) (Or.inl ⟨by kernel_rfl, ?_⟩) trivial ?_
        rotate_left
        · intro w hSw
          go_simp
          first | done | with_reducible rfl
        try simp only [List.getElem_toArray, List.getElem_cons_succ, List.getElem_cons_zero, Act.put, List.setIfInBounds_toArray, List.set_cons_zero, List.set_cons_succ]
        refine wpAnyH_ready (rs := [13]) (by kernel_rfl) (by simp) ?_
        refine AllReadyH.cons rfl (fun K hK => ?_) AllReadyH.nil
        refine Eq.mpr (if_pos (by rfl)) ?_
        refine wp_store_at 100 _ _ rfl g (4 * k) LA.toArray (by first | rfl | (simp [ek]; done)) rfl 100 cur1 G1.out FA.out OA.out hiA ?_
        refine hK.out _ _ trivial (fun _ => ?_)
        clear hK K
        try simp only [List.getElem_toArray, List.getElem_cons_succ, List.getElem_cons_zero, Act.put, List.setIfInBounds_toArray, List.set_cons_zero, List.set_cons_succ]
        refine wpAnyH_take (i := 14) (v := ?_) rfl (by kernel_rfl) (by kernel_rfl) (by kernel_rfl) (fun _ _ _ h => h) (Or.inl ⟨by kernel_rfl, ?_⟩) trivial ?_
        rotate_left
        · intro w hSw
          go_simp
          first | done | with_reducible rfl
        try simp only [List.getElem_toArray, List.getElem_cons_succ, List.getElem_cons_zero, Act.put, List.setIfInBounds_toArray, List.set_cons_zero, List.set_cons_succ]
        refine wpAnyH_ready (rs := [15]) (by kernel_rfl) (by simp) ?_
        refine AllReadyH.cons rfl (fun K hK => ?_) AllReadyH.nil
        refine Eq.mpr (if_pos (by rfl)) ?_
        refine wp_store_at 100 _ _ rfl g (4 * J) LB.toArray (by first | rfl | (simp [ek]; done)) rfl 100 _ R1.out FB.out OB.out hiB ?_
        refine hK.out _ _ trivial (fun _ => ?_)
        clear hK K
        try simp only [List.getElem_toArray, List.getElem_cons_succ, List.getElem_cons_zero, Act.put, List.setIfInBounds_toArray, List.set_cons_zero, List.set_cons_succ]
        refine wpAnyH_done (by kernel_rfl) ?_ _
        clear hS
        go_wp2
        go_roundw
        case rel => exact ⟨k + 1, HKJ.out, by go_num, by rw [HJ2.out], _, R2.out, HS2.out, HNEW.out, GR.out⟩
        case measure => simp [intOf]; omega
      · refine Eq.mpr (if_pos (by rfl)) ?_
        refine wp_load_mid 100 _ rfl g _ rfl LB _ (by first | exact RB.out | (rw [ek]; exact RB.out)) Tryz.underlying100 rfl hlB ?_
        refine hK.out _ _ trivial (fun _ => ?_)
        clear hK K
        try simp only [List.getElem_toArray, List.getElem_cons_succ, List.getElem_cons_zero, Act.put, List.setIfInBounds_toArray, List.set_cons_zero, List.set_cons_succ]
        refine wpAnyH_ready (rs := [7]) (by kernel_rfl) (by simp) ?_
        refine AllReadyH.cons rfl (fun K hK => ?_) (AllReadyH.nil)
        refine Eq.mpr (if_pos (by rfl)) ?_
        refine wp_load_mid 100 _ rfl g _ rfl LA _ (by first | exact RA.out | (rw [ek]; exact RA.out)) Tryz.underlying100 rfl hlA ?_
        refine hK.out _ _ trivial (fun _ => ?_)
        clear hK K
        try simp only [List.getElem_toArray, List.getElem_cons_succ, List.getElem_cons_zero, Act.put, List.setIfInBounds_toArray, List.set_cons_zero, List.set_cons_succ]
        refine wpAnyH_take (i := 12) (v := ?_) rfl (by kernel_rfl) (by kernel_rfl) (by kernel_rfl) (fun _ _ _ h => h) (Or.inl ⟨by kernel_rfl, ?_⟩) trivial ?_
        rotate_left
        · intro w hSw
          go_simp
          first | done | with_reducible rfl
        try simp only [List.getElem_toArray, List.getElem_cons_succ, List.getElem_cons_zero, Act.put, List.setIfInBounds_toArray, List.set_cons_zero, List.set_cons_succ]
        refine wpAnyH_ready (rs := [13]) (by kernel_rfl) (by simp) ?_
        refine AllReadyH.cons rfl (fun K hK => ?_) AllReadyH.nil
        refine Eq.mpr (if_pos (by rfl)) ?_
        refine wp_store_at 100 _ _ rfl g (4 * k) LA.toArray (by first | rfl | (simp [ek]; done)) rfl 100 cur1 G1.out FA.out OA.out hiA ?_
        refine hK.out _ _ trivial (fun _ => ?_)
        clear hK K
        try simp only [List.getElem_toArray, List.getElem_cons_succ, List.getElem_cons_zero, Act.put, List.setIfInBounds_toArray, List.set_cons_zero, List.set_cons_succ]
        refine wpAnyH_take (i := 14) (v := ?_) rfl (by kernel_rfl) (by kernel_rfl) (by kernel_rfl) (fun _ _ _ h => h) (Or.inl ⟨by kernel_rfl, ?_⟩) trivial ?_
        rotate_left
        · intro w hSw
          go_simp
          first | done | with_reducible rfl
        try simp only [List.getElem_toArray, List.getElem_cons_succ, List.getElem_cons_zero, Act.put, List.setIfInBounds_toArray, List.set_cons_zero, List.set_cons_succ]
        refine wpAnyH_ready (rs := [15]) (by kernel_rfl) (by simp) ?_
        refine AllReadyH.cons rfl (fun K hK => ?_) AllReadyH.nil
        refine Eq.mpr (if_pos (by rfl)) ?_
        refine wp_store_at 100 _ _ rfl g (4 * J) LB.toArray (by first | rfl | (simp [ek]; done)) rfl 100 _ R1.out FB.out OB.out hiB ?_
        refine hK.out _ _ trivial (fun _ => ?_)
        clear hK K
        try simp only [List.getElem_toArray, List.getElem_cons_succ, List.getElem_cons_zero, Act.put, List.setIfInBounds_toArray, List.set_cons_zero, List.set_cons_succ]
        refine wpAnyH_done (by kernel_rfl) ?_ _
        clear hS
        go_wp2
        go_roundw
        case rel => exact ⟨k + 1, HKJ.out, by go_num, by rw [HJ2.out], _, R2.out, HS2.out, HNEW.out, GR.out⟩
        case measure => simp [intOf]; omega
    · have hge : ¬ (k : Int) < (m : Int) - 1 - (k : Int) := hlt
      have HF : Hid (∀ i, i < 4 * m → cur1[i]? = some (.int .u32 ((revF f m i).toNat : Int))) := Lib.hid fun i hi => by rw [hsw i hi, swF_end f m k i hi (by omega) hk]
      have G1 := Lib.hid g1
      have GR := Lib.hid hgr
      clear g1 hsw hgr HR H0 HSZ
      go_wp2
      go_end0
      exact ⟨rfl, ⟨cur1, G1.out, HF.out⟩, GR.out⟩
end Go.Proofs.YtkbnnlhilnnpeaaGreatDoor
