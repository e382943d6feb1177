/-
  What a tableLock holds; what its methods mixed and boxed answer.
-/
import Derived.Test.YtkbnnlhilnnpeaaGreatDoorTabsI
import Derived.Test.YtkbnnlhilnnpeaaGreatDoorStoreAt
set_option linter.unusedVariables false
set_option linter.unusedSimpArgs false
namespace Go.Proofs.YtkbnnlhilnnpeaaGreatDoor
open Go Go.RowKit

/-- the cells of a tableLock: tables, box, keys, step. -/
structure TlX (X : Array Value) (h : Nat → UInt32) (f : UInt8 → UInt8) (kv : Value) (d : Int) : Prop where
  size : X.size = 1282
  tab : ∀ i, i < 1024 → X[i]? = some (.int .u32 ((h i).toNat : Int))
  box : ∀ i, i < 256 → X[1024 + i]? = some (.int .u8 ((f (UInt8.ofNat i)).toNat : Int))
  keys : X[1280]? = some kv
  step : X[1281]? = some (.int .i64 d)
theorem tlx_put (Z : Array Value) (h : Nat → UInt32) (f : UInt8 → UInt8) (kv : Value) (d : Int) (hZ : Z.size = 1282) :
    TlX (putAt (putAt (putAt (putAt Z 0 (ar32 h 1024)) 1024 (tabOf f)) 1280 #[kv]) 1281 #[.int .i64 d]) h f kv d := by
  have s1 : (putAt Z 0 (ar32 h 1024)).size = 1282 := by rw [putAt_size _ _ _ (by rw [ar32_size, hZ]; omega), hZ]
  have s2 : (putAt (putAt Z 0 (ar32 h 1024)) 1024 (tabOf f)).size = 1282 := by rw [putAt_size _ _ _ (by rw [tabOf_size, s1]; omega), s1]
  have s3 : (putAt (putAt (putAt Z 0 (ar32 h 1024)) 1024 (tabOf f)) 1280 #[kv]).size = 1282 := by rw [putAt_size _ _ _ (by rw [s2]; simp), s2]
  have g4 := fun j => putAt_get (putAt (putAt (putAt Z 0 (ar32 h 1024)) 1024 (tabOf f)) 1280 #[kv]) 1281 #[.int .i64 d] (by rw [s3]; simp) j
  have g3 := fun j => putAt_get (putAt (putAt Z 0 (ar32 h 1024)) 1024 (tabOf f)) 1280 #[kv] (by rw [s2]; simp) j
  have g2 := fun j => putAt_get (putAt Z 0 (ar32 h 1024)) 1024 (tabOf f) (by rw [s1, tabOf_size]; omega) j
  have g1 := fun j => putAt_get Z 0 (ar32 h 1024) (by rw [hZ, ar32_size]; omega) j
  refine ⟨by rw [putAt_size _ _ _ (by rw [s3]; simp), s3], fun i hi => ?_, fun i hi => ?_, ?_, ?_⟩
  · rw [g4, if_pos (by omega), g3, if_pos (by omega), g2, if_pos hi, g1, if_neg (by omega), if_pos (by rw [ar32_size]; omega)]
    exact ar32_at h 1024 i hi
  · rw [g4, if_pos (by omega), g3, if_pos (by omega), g2, if_neg (by omega), if_pos (by rw [tabOf_size]; omega), Nat.add_sub_cancel_left]
    have e := tabOf_at f (UInt8.ofNat i)
    rwa [UInt8.toNat_ofNat', Nat.mod_eq_of_lt (by omega)] at e
  · rw [g4, if_pos (by omega), g3, if_neg (by omega), if_pos (by simp)]; rfl
  · rw [g4, if_neg (by omega), if_pos (by simp)]; rfl
set_option maxRecDepth 100000 in
set_option maxHeartbeats 1600000 in
theorem mixed_impl (p k : Nat) (hk : k < 4) (X : Array Value) (T : Nat → UInt8 → UInt32) (f : UInt8 → UInt8) (kv : Value) (d : Int) (hX : TlX X (ttF fun k i => T k (UInt8.ofNat i)) f kv d) (b : UInt8) (w : World) (hp : RAt w p 97 X) :
    Calls Tryz.prog 107 #[.pointer (some ⟨p, 0, none⟩), .int .i64 (k : Int), .int .u8 b.toNat] w fun e w' => e = .returned (.int .u32 (T k b).toNat) ∧ Below w.heap.size w w' := by
  have hb := b.toNat_lt
  have hv : X[256 * k + b.toNat]? = some (.int .u32 ((T k b).toNat : Int)) := by
    rw [hX.tab _ (by omega)]
    unfold ttF
    rw [show (256 * k + b.toNat) / 256 = k by omega, show (256 * k + b.toNat) % 256 = b.toNat by omega]
    show some (Value.int IntKind.u32 ((T k (UInt8.ofNat b.toNat)).toNat : Int)) = _
    rw [UInt8.ofNat_toNat]
  have hcell := hp.cell hv
  have hcell2 : w.cell? ⟨p, k * 256 + b.toNat, none⟩ = some (.int .u32 ((T k b).toNat : Int)) := by rw [Nat.mul_comm k 256]; exact hcell
  have hb1 : (b.toNat : Int) < 256 := by omega
  have hk1 : (k : Int) < 4 := by omega
  have hk0 : (0 : Int) ≤ (k : Int) := by omega
  have HB : Hid (Below w.heap.size w w) := Lib.hid (Below.refl _ _)
  generalize T k b = y at *
  clear hX hp hv
  go_enter Tryz.func107, Tryz.ntmps107
  go_wp2
  go_ret
  exact ⟨rfl, HB.out⟩
theorem boxT_shl (f : UInt8 → UInt8) (k : Nat) (hk : k < 4) (b : UInt8) (m : Nat) (hm : m = 2 ^ (24 - 8 * k)) : ((f b).toNat : Int) * (m : Int) = ((boxT f k b).toNat : Int) := by
  rw [boxT_nat f k hk b m hm, Int.natCast_mul]
set_option maxRecDepth 100000 in
set_option maxHeartbeats 1600000 in
theorem boxed_impl (p k : Nat) (hk : k < 4) (X : Array Value) (h : Nat → UInt32) (f : UInt8 → UInt8) (kv : Value) (d : Int) (hX : TlX X h f kv d) (b : UInt8) (w : World) (hp : RAt w p 97 X) :
    Calls Tryz.prog 108 #[.pointer (some ⟨p, 0, none⟩), .int .i64 (k : Int), .int .u8 b.toNat] w fun e w' => e = .returned (.int .u32 (boxT f k b).toNat) ∧ Below w.heap.size w w' := by
  have hb := b.toNat_lt
  have hv := hX.box b.toNat (by omega)
  rw [UInt8.ofNat_toNat] at hv
  have hcell := hp.cell hv
  have hb1 : (b.toNat : Int) < 256 := by omega
  have hk1 : (k : Int) < 4 := by omega
  have hk0 : (0 : Int) ≤ (k : Int) := by omega
  have hfl := (f b).toNat_lt
  have hf1 : ((f b).toNat : Int) < 256 := by omega
  have HB : Hid (Below w.heap.size w w) := Lib.hid (Below.refl _ _)
  have h4 : k = 0 ∨ k = 1 ∨ k = 2 ∨ k = 3 := by omega
  clear hX hp hv
  rcases h4 with rfl | rfl | rfl | rfl
  · have HV : Hid (((f b).toNat : Int) * 16777216 = ((boxT f 0 b).toNat : Int)) := Lib.hid (boxT_shl f 0 (by omega) b 16777216 rfl)
    generalize boxT f 0 b = y at *
    generalize f b = x at *
    go_enter Tryz.func108, Tryz.ntmps108
    go_wp2
    go_ret
    exact ⟨ret_i HV.out, HB.out⟩
  · have HV : Hid (((f b).toNat : Int) * 65536 = ((boxT f 1 b).toNat : Int)) := Lib.hid (boxT_shl f 1 (by omega) b 65536 rfl)
    generalize boxT f 1 b = y at *
    generalize f b = x at *
    go_enter Tryz.func108, Tryz.ntmps108
    go_wp2
    go_ret
    exact ⟨ret_i HV.out, HB.out⟩
  · have HV : Hid (((f b).toNat : Int) * 256 = ((boxT f 2 b).toNat : Int)) := Lib.hid (boxT_shl f 2 (by omega) b 256 rfl)
    generalize boxT f 2 b = y at *
    generalize f b = x at *
    go_enter Tryz.func108, Tryz.ntmps108
    go_wp2
    go_ret
    exact ⟨ret_i HV.out, HB.out⟩
  · have HV : Hid (((f b).toNat : Int) = ((boxT f 3 b).toNat : Int)) := Lib.hid ((Int.mul_one _).symm.trans (boxT_shl f 3 (by omega) b 1 rfl))
    generalize boxT f 3 b = y at *
    generalize f b = x at *
    go_enter Tryz.func108, Tryz.ntmps108
    go_wp2
    go_ret
    exact ⟨ret_i HV.out, HB.out⟩
end Go.Proofs.YtkbnnlhilnnpeaaGreatDoor
