/-
  What impl.lockTables and unlockTables make of a key.
-/
import Derived.Test.YtkbnnlhilnnpeaaGreatDoorLkA
import Derived.Test.YtkbnnlhilnnpeaaGreatDoorFoursI
import Derived.Test.YtkbnnlhilnnpeaaGreatDoorRevI
import Derived.Test.YtkbnnlhilnnpeaaGreatDoorUnmix
set_option linter.unusedVariables false
set_option linter.unusedSimpArgs false
namespace Go.Proofs.YtkbnnlhilnnpeaaGreatDoor
open Go Go.RowKit
attribute [local go_sem ↓] Go.wp_at_zero Go.wp_at_succ

set_option maxRecDepth 100000 in
set_option maxHeartbeats 12800000 in
theorem lockTables_impl (s : ByteArray) (n : Nat) (hn : kOf s n) (w : World) (hf : Fac4 w 0 mxF) :
    Calls Tryz.prog 46 #[.string s] w fun e w' => ∃ p X kv, e = .returned (.pointer (some ⟨p, 0, none⟩)) ∧ RAt w' p 97 X ∧ TlX X (tbF sbox mxF) sbox kv 1 ∧ KeysAt w' kv (n + 7) (ew s n) ∧ Below w.heap.size w w' := by
  have hle := hn.le
  have CB := fun W => Lib.hid (subBox_any W)
  have CT := fun W => Lib.hid (tablesOf_impl sbox mxF W)
  have CE := fun W => Lib.hid (exp_cells s n hn W)
  have CF := fun g W hw => Lib.hid (fours_keys n g (by omega) (ew s n) W hw)
  have BL := Lib.hid (fun A m c => build_tl (tbF sbox mxF) sbox A m c 1)
  simp only [fac] at CT
  have HSF : Hid (∀ W, Below w.heap.size w W → W.cell? ⟨0, 0, none⟩ = some (.int .u8 ((mxF 0).toNat : Int)) ∧ W.cell? ⟨0, 1, none⟩ = some (.int .u8 ((mxF 1).toNat : Int)) ∧ W.cell? ⟨0, 2, none⟩ = some (.int .u8 ((mxF 2).toNat : Int)) ∧ W.cell? ⟨0, 3, none⟩ = some (.int .u8 ((mxF 3).toNat : Int))) := Lib.hid fun W hW => fac4_cells (hf.below hW hf.1)
  have HB0 : Hid (Below w.heap.size w w.drew) := Lib.hid (Below.refl w.heap.size w).drew
  have hS0 := HSF.out w.drew HB0.out
  obtain ⟨TX, hTX⟩ : ∃ TX : Value → Array Value → Prop, (fun kv X => TlX X (tbF sbox mxF) sbox kv 1) = TX := ⟨_, rfl⟩
  have HBL : Hid (∀ A m c, ∃ X, TX (.slice A m c) X ∧ ∀ W, (Instr.build 97 #[(0, .agg (ar32 (tbF sbox mxF) 1024)), (1, .agg (tabOf sbox)), (2, .slice A m c), (3, .int .i64 1)]).run Tryz.prog W = .ok (.agg X) W) := Lib.hid (by rw [← hTX]; exact BL.out)
  have HTX : Hid (∀ kv X, TX kv X → TlX X (tbF sbox mxF) sbox kv 1) := Lib.hid (by rw [← hTX]; exact fun _ _ h => h)
  clear BL hTX hf hle
  generalize ar32 (tbF sbox mxF) 1024 = TT at *
  generalize tabOf sbox = TB at *
  generalize ew s n = fw at *
  generalize kL n = L at *
  generalize mxF = fm at *
  go_enter Tryz.func46, Tryz.ntmps46
  go_wp2
  refine wp_region_held_drew (S := fun w' => w'.cell? ⟨0, 0, none⟩ = some (.int .u8 ((fm 0).toNat : Int)) ∧ w'.cell? ⟨0, 1, none⟩ = some (.int .u8 ((fm 1).toNat : Int)) ∧ w'.cell? ⟨0, 2, none⟩ = some (.int .u8 ((fm 2).toNat : Int)) ∧ w'.cell? ⟨0, 3, none⟩ = some (.int .u8 ((fm 3).toNat : Int))) (by kernel_rfl) hS0 (fun hS => ?_)
  refine wpAnyH_take (i := 1) (v := ?_) rfl (by kernel_rfl) (by kernel_rfl) (by kernel_rfl) (fun _ _ _ h => h) (Or.inl ⟨by kernel_rfl, ?_⟩) hS ?_
  rotate_left
  · intro w hSw
    obtain ⟨s0, s1, s2, s3⟩ := hSw
    go_simp
    first | done | with_reducible rfl
  try simp only [List.getElem_toArray, List.getElem_cons_succ, List.getElem_cons_zero, Act.put, List.setIfInBounds_toArray, List.set_cons_zero, List.set_cons_succ]
  refine wpAnyH_take (i := 4) (v := ?_) rfl (by kernel_rfl) (by kernel_rfl) (by kernel_rfl) (fun _ _ _ h => h) (Or.inl ⟨by kernel_rfl, ?_⟩) hS ?_
  rotate_left
  · intro w hSw
    obtain ⟨s0, s1, s2, s3⟩ := hSw
    go_simp
    first | done | with_reducible rfl
  try simp only [List.getElem_toArray, List.getElem_cons_succ, List.getElem_cons_zero, Act.put, List.setIfInBounds_toArray, List.set_cons_zero, List.set_cons_succ]
  refine wpAnyH_ready (rs := [0]) (by kernel_rfl) (by simp) ?_
  refine AllReadyH.cons rfl (fun K hK => ?_) (AllReadyH.nil)
  go_simp
  refine (CB _).out.mono ?_; rintro e v1 ⟨rfl, hb⟩
  have HB1 := Lib.hid (HB0.out.trans (hb.mono HB0.out.size))
  clear hb
  refine hK.out _ _ (HSF.out _ HB1.out) (fun hS1 => ?_)
  clear hK K
  try simp only [List.getElem_toArray, List.getElem_cons_succ, List.getElem_cons_zero, Act.put, List.setIfInBounds_toArray, List.set_cons_zero, List.set_cons_succ]
  refine wpAnyH_ready (rs := [2]) (by kernel_rfl) (by simp) ?_
  refine AllReadyH.cons rfl (fun K hK => ?_) (AllReadyH.nil)
  go_simp
  refine (CT _).out.mono ?_; rintro e v2 ⟨rfl, hb⟩
  have HB2 := Lib.hid (HB1.out.trans (hb.mono HB1.out.size))
  clear hb
  refine hK.out _ _ (HSF.out _ HB2.out) (fun hS2 => ?_)
  clear hK K
  try simp only [List.getElem_toArray, List.getElem_cons_succ, List.getElem_cons_zero, Act.put, List.setIfInBounds_toArray, List.set_cons_zero, List.set_cons_succ]
  refine wpAnyH_ready (rs := [3]) (by kernel_rfl) (by simp) ?_
  refine AllReadyH.cons rfl (fun K hK => ?_) (AllReadyH.nil)
  go_simp
  refine (CB _).out.mono ?_; rintro e v3 ⟨rfl, hb⟩
  have HB3 := Lib.hid (HB2.out.trans (hb.mono HB2.out.size))
  clear hb
  refine hK.out _ _ (HSF.out _ HB3.out) (fun hS3 => ?_)
  clear hK K
  try simp only [List.getElem_toArray, List.getElem_cons_succ, List.getElem_cons_zero, Act.put, List.setIfInBounds_toArray, List.set_cons_zero, List.set_cons_succ]
  refine wpAnyH_ready (rs := [5]) (by kernel_rfl) (by simp) ?_
  refine AllReadyH.cons rfl (fun K hK => ?_) (AllReadyH.nil)
  go_simp
  refine (CE _).out.mono ?_; rintro e v4 ⟨gE, rfl, hw, hb⟩
  have HB4 := Lib.hid (HB3.out.trans (hb.mono HB3.out.size))
  have HE4 := Lib.hid hw
  clear hw
  clear hb
  refine hK.out _ _ (HSF.out _ HB4.out) (fun hS4 => ?_)
  clear hK K
  try simp only [List.getElem_toArray, List.getElem_cons_succ, List.getElem_cons_zero, Act.put, List.setIfInBounds_toArray, List.set_cons_zero, List.set_cons_succ]
  refine wpAnyH_ready (rs := [6]) (by kernel_rfl) (by simp) ?_
  refine AllReadyH.cons rfl (fun K hK => ?_) (AllReadyH.nil)
  go_simp
  refine (CF _ _ HE4.out).out.mono ?_; rintro e v5 ⟨gK, cK, rfl, hk, hb⟩
  have HB5 := Lib.hid (HB4.out.trans (hb.mono HB4.out.size))
  have HE5 := Lib.hid (HE4.out.below hb)
  have HK5 := Lib.hid hk
  clear hk
  clear hb
  refine hK.out _ _ (HSF.out _ HB5.out) (fun hS5 => ?_)
  clear hK K
  try simp only [List.getElem_toArray, List.getElem_cons_succ, List.getElem_cons_zero, Act.put, List.setIfInBounds_toArray, List.set_cons_zero, List.set_cons_succ]
  obtain ⟨X, hX, hbuild⟩ := HBL.out (some ⟨gK, 0, none⟩) (n + 7) cK
  have HX := Lib.hid (HTX.out _ _ hX)
  clear hX
  refine wpAnyH_take (i := 7) (v := .agg X) rfl (by kernel_rfl) (by kernel_rfl) (by kernel_rfl) (fun _ _ _ h => h) (Or.inl ⟨by kernel_rfl, ?_⟩) hS5 ?_
  · intro w hSw
    exact exec_build4 (.agg TT) (.agg TB) (.slice (some ⟨gK, 0, none⟩) (n + 7) cK) (.int .i64 1) rfl rfl rfl rfl rfl (hbuild w)
  try simp only [List.getElem_toArray, List.getElem_cons_succ, List.getElem_cons_zero, Act.put, List.setIfInBounds_toArray, List.set_cons_zero, List.set_cons_succ]
  clear hbuild
  have HA := Lib.hid (HB5.out.trans ((al_up v5 (.cells X 97)).mono HB5.out.size))
  refine wpAnyH_ready (rs := [8]) (by kernel_rfl) (by simp) ?_
  refine AllReadyH.cons rfl (fun K hK => ?_) AllReadyH.nil
  go_simp
  refine hK.out _ _ (HSF.out _ HA.out) (fun hS9 => ?_)
  clear hK K
  try simp only [List.getElem_toArray, List.getElem_cons_succ, List.getElem_cons_zero, Act.put, List.setIfInBounds_toArray, List.set_cons_zero, List.set_cons_succ]
  refine wpAnyH_take (i := 9) (v := ?_) rfl (by kernel_rfl) (by kernel_rfl) (by kernel_rfl) (fun _ _ _ h => h) (Or.inl ⟨by kernel_rfl, ?_⟩) hS9 ?_
  rotate_left
  · intro w hSw
    go_simp
    first | done | with_reducible rfl
  try simp only [List.getElem_toArray, List.getElem_cons_succ, List.getElem_cons_zero, Act.put, List.setIfInBounds_toArray, List.set_cons_zero, List.set_cons_succ]
  refine wpAnyH_done (by kernel_rfl) ?_ _
  have HR := Lib.hid (RAt.new v5 97 X)
  have HKF := Lib.hid (HK5.out.below (al_up v5 (.cells X 97)))
  clear hS hS9
  go_wp2
  go_ret
  exact ⟨_, X, _, rfl, HR.out, HX.out, HKF.out, HA.out⟩
set_option maxRecDepth 100000 in
set_option maxHeartbeats 12800000 in
theorem unlockTables_impl (s : ByteArray) (n : Nat) (hn : kOf s n) (w : World) (hf : Fac4 w 1 unF) :
    Calls Tryz.prog 47 #[.string s] w fun e w' => ∃ p X kv, e = .returned (.pointer (some ⟨p, 0, none⟩)) ∧ RAt w' p 97 X ∧ TlX X (tbF ubox unF) ubox kv 3 ∧ KeysAt w' kv (n + 7) (revF (uw s n) (n + 7)) ∧ Below w.heap.size w w' := by
  have hle := hn.le
  have CB := fun W => Lib.hid (unsubBox_any W)
  have CT := fun W => Lib.hid (tablesOf_impl ubox unF W)
  have CE := Lib.hid (unm_cells s n hn w hf)
  have CF := fun g W hw => Lib.hid (fours_own n g (by omega) (uw s n) W hw)
  have CR := fun g c cur W h1 h2 h3 hr hi => Lib.hid (reverse_impl (uw s n) g (n + 7) c cur (by omega) (by omega) h1 h2 h3 W hr hi)
  have BL := Lib.hid (fun A m c => build_tl (tbF ubox unF) ubox A m c 3)
  simp only [fac] at CT
  have HSF : Hid (∀ W, Below w.heap.size w W → W.cell? ⟨1, 0, none⟩ = some (.int .u8 ((unF 0).toNat : Int)) ∧ W.cell? ⟨1, 1, none⟩ = some (.int .u8 ((unF 1).toNat : Int)) ∧ W.cell? ⟨1, 2, none⟩ = some (.int .u8 ((unF 2).toNat : Int)) ∧ W.cell? ⟨1, 3, none⟩ = some (.int .u8 ((unF 3).toNat : Int))) := Lib.hid fun W hW => fac4_cells (hf.below hW hf.1)
  obtain ⟨TX, hTX⟩ : ∃ TX : Value → Array Value → Prop, (fun kv X => TlX X (tbF ubox unF) ubox kv 3) = TX := ⟨_, rfl⟩
  have HBL : Hid (∀ A m c, ∃ X, TX (.slice A m c) X ∧ ∀ W, (Instr.build 97 #[(0, .agg (ar32 (tbF ubox unF) 1024)), (1, .agg (tabOf ubox)), (2, .slice A m c), (3, .int .i64 3)]).run Tryz.prog W = .ok (.agg X) W) := Lib.hid (by rw [← hTX]; exact BL.out)
  have HTX : Hid (∀ kv X, TX kv X → TlX X (tbF ubox unF) ubox kv 3) := Lib.hid (by rw [← hTX]; exact fun _ _ h => h)
  clear BL hTX hf hle
  generalize ar32 (tbF ubox unF) 1024 = TT at *
  generalize tabOf ubox = TB at *
  generalize hfw : revF (uw s n) (n + 7) = fw at *
  generalize uw s n = fu at *
  generalize kL n = L at *
  generalize unF = fm at *
  clear hfw
  go_enter Tryz.func47, Tryz.ntmps47
  go_wp2_with fail
  refine CE.out.mono ?_; rintro e w1 ⟨gE, rfl, hw, hb1⟩
  have HB1 := Lib.hid hb1
  have HW := Lib.hid hw
  clear hb1 hw
  go_wp2_with fail
  refine (CF _ _ HW.out).out.mono ?_; rintro e w2 ⟨g, c, cur, rfl, hr, h1, h2, h3, h4, h5, hb2⟩
  have HB2 := Lib.hid (HB1.out.trans (hb2.mono HB1.out.size))
  have HG : Hid (w.heap.size ≤ g) := Lib.hid (Nat.le_trans HB1.out.size h5)
  have CR2 := CR g c cur w2 h1 h2 h3 hr h4
  have HCC := Lib.hid (And.intro h1 h2)
  clear hb2 h1 h2 h3 h4 h5 hr CR CF CE HB1 HW
  go_wp2_with fail
  refine CR2.out.mono ?_; rintro e w3 ⟨rfl, ⟨cur2, hr2, hi2⟩, hg2⟩
  have HB0 : Hid (Below w.heap.size w w3.drew) := Lib.hid (below_only HB2.out hg2 HG.out HB2.out.size).drew
  have HK0 : Hid (KeysAt w3.drew (.slice (some ⟨g, 0, none⟩) (n + 7) c) (n + 7) fw) := Lib.hid ⟨g, c, rfl, HCC.out.1, HCC.out.2, hr2.lt, fun i hi => (hr2.cell (hi2 i hi) : w3.cell? ⟨g, i, none⟩ = _)⟩
  have hS0 := HSF.out w3.drew HB0.out
  clear hr2 hi2 hg2 CR2 HB2 HG
  go_wp2
  refine wp_region_held_drew (S := fun w' => w'.cell? ⟨1, 0, none⟩ = some (.int .u8 ((fm 0).toNat : Int)) ∧ w'.cell? ⟨1, 1, none⟩ = some (.int .u8 ((fm 1).toNat : Int)) ∧ w'.cell? ⟨1, 2, none⟩ = some (.int .u8 ((fm 2).toNat : Int)) ∧ w'.cell? ⟨1, 3, none⟩ = some (.int .u8 ((fm 3).toNat : Int))) (by kernel_rfl) hS0 (fun hS => ?_)
  refine wpAnyH_take (i := 1) (v := ?_) rfl (by kernel_rfl) (by kernel_rfl) (by kernel_rfl) (fun _ _ _ h => h) (Or.inl ⟨by kernel_rfl, ?_⟩) hS ?_
  rotate_left
  · intro w hSw
    obtain ⟨s0, s1, s2, s3⟩ := hSw
    go_simp
    first | done | with_reducible rfl
  try simp only [List.getElem_toArray, List.getElem_cons_succ, List.getElem_cons_zero, Act.put, List.setIfInBounds_toArray, List.set_cons_zero, List.set_cons_succ]
  refine wpAnyH_take (i := 4) (v := ?_) rfl (by kernel_rfl) (by kernel_rfl) (by kernel_rfl) (fun _ _ _ h => h) (Or.inl ⟨by kernel_rfl, ?_⟩) hS ?_
  rotate_left
  · intro w hSw
    obtain ⟨s0, s1, s2, s3⟩ := hSw
    go_simp
    first | done | with_reducible rfl
  try simp only [List.getElem_toArray, List.getElem_cons_succ, List.getElem_cons_zero, Act.put, List.setIfInBounds_toArray, List.set_cons_zero, List.set_cons_succ]
  refine wpAnyH_ready (rs := [0]) (by kernel_rfl) (by simp) ?_
  refine AllReadyH.cons rfl (fun K hK => ?_) (AllReadyH.nil)
  go_simp
  refine (CB _).out.mono ?_; rintro e v1 ⟨rfl, hb⟩
  have HB1 := Lib.hid (HB0.out.trans (hb.mono HB0.out.size))
  have HK1 := Lib.hid (HK0.out.below hb)
  clear hb
  refine hK.out _ _ (HSF.out _ HB1.out) (fun hS1 => ?_)
  clear hK K
  try simp only [List.getElem_toArray, List.getElem_cons_succ, List.getElem_cons_zero, Act.put, List.setIfInBounds_toArray, List.set_cons_zero, List.set_cons_succ]
  refine wpAnyH_ready (rs := [2]) (by kernel_rfl) (by simp) ?_
  refine AllReadyH.cons rfl (fun K hK => ?_) (AllReadyH.nil)
  go_simp
  refine (CT _).out.mono ?_; rintro e v2 ⟨rfl, hb⟩
  have HB2 := Lib.hid (HB1.out.trans (hb.mono HB1.out.size))
  have HK2 := Lib.hid (HK1.out.below hb)
  clear hb
  refine hK.out _ _ (HSF.out _ HB2.out) (fun hS2 => ?_)
  clear hK K
  try simp only [List.getElem_toArray, List.getElem_cons_succ, List.getElem_cons_zero, Act.put, List.setIfInBounds_toArray, List.set_cons_zero, List.set_cons_succ]
  refine wpAnyH_ready (rs := [3]) (by kernel_rfl) (by simp) ?_
  refine AllReadyH.cons rfl (fun K hK => ?_) (AllReadyH.nil)
  go_simp
  refine (CB _).out.mono ?_; rintro e v3 ⟨rfl, hb⟩
  have HB3 := Lib.hid (HB2.out.trans (hb.mono HB2.out.size))
  have HK3 := Lib.hid (HK2.out.below hb)
  clear hb
  refine hK.out _ _ (HSF.out _ HB3.out) (fun hS3 => ?_)
  clear hK K
  try simp only [List.getElem_toArray, List.getElem_cons_succ, List.getElem_cons_zero, Act.put, List.setIfInBounds_toArray, List.set_cons_zero, List.set_cons_succ]
  obtain ⟨X, hX, hbuild⟩ := HBL.out (some ⟨g, 0, none⟩) (n + 7) c
  have HX := Lib.hid (HTX.out _ _ hX)
  clear hX
  refine wpAnyH_take (i := 5) (v := .agg X) rfl (by kernel_rfl) (by kernel_rfl) (by kernel_rfl) (fun _ _ _ h => h) (Or.inl ⟨by kernel_rfl, ?_⟩) hS3 ?_
  · intro w hSw
    exact exec_build4 (.agg TT) (.agg TB) (.slice (some ⟨g, 0, none⟩) (n + 7) c) (.int .i64 3) rfl rfl rfl rfl rfl (hbuild w)
  try simp only [List.getElem_toArray, List.getElem_cons_succ, List.getElem_cons_zero, Act.put, List.setIfInBounds_toArray, List.set_cons_zero, List.set_cons_succ]
  clear hbuild
  have HA := Lib.hid (HB3.out.trans ((al_up v3 (.cells X 97)).mono HB3.out.size))
  refine wpAnyH_ready (rs := [6]) (by kernel_rfl) (by simp) ?_
  refine AllReadyH.cons rfl (fun K hK => ?_) AllReadyH.nil
  go_simp
  refine hK.out _ _ (HSF.out _ HA.out) (fun hS9 => ?_)
  clear hK K
  try simp only [List.getElem_toArray, List.getElem_cons_succ, List.getElem_cons_zero, Act.put, List.setIfInBounds_toArray, List.set_cons_zero, List.set_cons_succ]
  refine wpAnyH_take (i := 7) (v := ?_) rfl (by kernel_rfl) (by kernel_rfl) (by kernel_rfl) (fun _ _ _ h => h) (Or.inl ⟨by kernel_rfl, ?_⟩) hS9 ?_
  rotate_left
  · intro w hSw
    go_simp
    first | done | with_reducible rfl
  try simp only [List.getElem_toArray, List.getElem_cons_succ, List.getElem_cons_zero, Act.put, List.setIfInBounds_toArray, List.set_cons_zero, List.set_cons_succ]
  refine wpAnyH_done (by kernel_rfl) ?_ _
  have HR := Lib.hid (RAt.new v3 97 X)
  have HKF := Lib.hid (HK3.out.below (al_up v3 (.cells X 97)))
  clear hS hS9
  go_wp2
  go_ret
  exact ⟨_, X, _, rfl, HR.out, HX.out, HKF.out, HA.out⟩
end Go.Proofs.YtkbnnlhilnnpeaaGreatDoor
