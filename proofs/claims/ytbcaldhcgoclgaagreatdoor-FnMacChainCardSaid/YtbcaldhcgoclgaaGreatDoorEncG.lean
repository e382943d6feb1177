/-
  Contracts and facts that the laws of this seat use: SizeI, RefI, AsC, EncI.
-/
import Derived.Test.YtbcaldhcgoclgaaGreatDoorBase
import Derived.WalkKit
import Derived.OwnWalk
import Derived.WalkLawsBesides
import Derived.WalkSpells
import Derived.Outline
import Derived.Laws.Pointers
import Derived.IntWalk
import Derived.LoopTactic
import Derived.Test.YtbcaldhcgoclgaaGreatDoorKey
import Derived.Deep.RegionHeld3
import Derived.Test.YtbcaldhcgoclgaaGreatDoorProg
import Derived.Below
import Derived.KernelRfl
import Derived.LaidEql
import Derived.Stop.Asserts
import Derived.RowKitTokens
import Derived.Lib.Hide
import Derived.Test.YtbcaldhcgoclgaaGreatDoorSealI
import Derived.Test.YtbcaldhcgoclgaaGreatDoorPadW
set_option linter.unusedVariables false
set_option linter.unusedSimpArgs false
namespace Go.Proofs.YtbcaldhcgoclgaaGreatDoor
open Go.RowKit

/-- how long it is: -1 where nothing is told. -/
def sizeI (m n : Int) : Int := if 0 ≤ m ∧ m ≤ 2 ∧ 0 ≤ n ∧ n ≤ 1000000000 then (if m = 2 then n else n - n % 16 + 16) else -1

set_option maxHeartbeats 800000 in
theorem modeOk_yes (m : Int) (h0 : 0 ≤ m) (h1 : m ≤ 2) (w : World) :
    Calls Tryz.prog 127 #[.int .i64 m] w fun e w' => e = .returned (.bool true) ∧ w = w' := by
  go_enter Tryz.func127, Tryz.ntmps127
  go_wp2
  go_ret
  exact ⟨by first | rfl | (simp; done) | (simp; omega), rfl⟩
set_option maxHeartbeats 800000 in
theorem modeOk_no (m : Int) (h : m < 0 ∨ 2 < m) (w : World) :
    Calls Tryz.prog 127 #[.int .i64 m] w fun e w' => e = .returned (.bool false) ∧ w = w' := by
  rcases h with h | h
  · have h0 : ¬ (0 : Int) ≤ m := by omega
    go_enter Tryz.func127, Tryz.ntmps127
    go_wp2
    go_ret
    exact ⟨by first | rfl | (simp; done) | (simp; omega), rfl⟩
  · have h0 : (0 : Int) ≤ m := by omega
    have h1 : ¬ m ≤ 2 := by omega
    go_enter Tryz.func127, Tryz.ntmps127
    go_wp2
    go_ret
    exact ⟨by first | rfl | (simp; done) | (simp; omega), rfl⟩
set_option maxHeartbeats 800000 in
theorem inq_yes (x a b : Int) (h0 : a ≤ x) (h1 : x ≤ b) (w : World) :
    Calls Tryz.prog 55 #[.int .i64 x, .int .i64 a, .int .i64 b] w fun e w' => e = .returned (.bool true) ∧ w = w' := by
  go_enter Tryz.func55, Tryz.ntmps55
  go_wp2
  go_ret
  exact ⟨by first | rfl | (simp; done) | (simp; omega), rfl⟩
set_option maxHeartbeats 800000 in
theorem inq_no (x a b : Int) (h : x < a ∨ b < x) (w : World) :
    Calls Tryz.prog 55 #[.int .i64 x, .int .i64 a, .int .i64 b] w fun e w' => e = .returned (.bool false) ∧ w = w' := by
  by_cases h0 : a ≤ x
  · have h1 : ¬ x ≤ b := by omega
    go_enter Tryz.func55, Tryz.ntmps55
    go_wp2
    go_ret
    exact ⟨by first | rfl | (simp; done) | (simp; omega), rfl⟩
  · go_enter Tryz.func55, Tryz.ntmps55
    go_wp2
    go_ret
    exact ⟨by first | rfl | (simp; done) | (simp; omega), rfl⟩

end Go.Proofs.YtbcaldhcgoclgaaGreatDoor
set_option linter.unusedVariables false
set_option linter.unusedSimpArgs false
namespace Go.Proofs.YtbcaldhcgoclgaaGreatDoor
open Go.RowKit

/-- the first of the reasons, 0 where there is none. -/
def cdT (e m : Int) (key iv : ByteArray) : Int := if 0 ≤ e ∧ e ≤ 2 then (if 0 ≤ m ∧ m ≤ 2 then (if kOk key then (if m = 0 ∨ iv.size = 16 then 0 else 4) else 3) else 2) else 1
theorem cdT_eng (e m : Int) (key iv : ByteArray) (h : ¬ (0 ≤ e ∧ e ≤ 2)) : cdT e m key iv = 1 := if_neg h
theorem cdT_mode (e m : Int) (key iv : ByteArray) (h : 0 ≤ e ∧ e ≤ 2) (hm : ¬ (0 ≤ m ∧ m ≤ 2)) : cdT e m key iv = 2 := by unfold cdT; rw [if_pos h, if_neg hm]
theorem cdT_key (e m : Int) (key iv : ByteArray) (h : 0 ≤ e ∧ e ≤ 2) (hm : 0 ≤ m ∧ m ≤ 2) (hk : ¬ kOk key) : cdT e m key iv = 3 := by unfold cdT; rw [if_pos h, if_pos hm, if_neg hk]
theorem cdT_iv (e m : Int) (key iv : ByteArray) (h : 0 ≤ e ∧ e ≤ 2) (hm : 0 ≤ m ∧ m ≤ 2) (hk : kOk key) (hi : ¬ (m = 0 ∨ iv.size = 16)) : cdT e m key iv = 4 := by unfold cdT; rw [if_pos h, if_pos hm, if_pos hk, if_neg hi]
theorem cdT_ok (e m : Int) (key iv : ByteArray) (h : 0 ≤ e ∧ e ≤ 2) (hm : 0 ≤ m ∧ m ≤ 2) (hk : kOk key) (hi : m = 0 ∨ iv.size = 16) : cdT e m key iv = 0 := by unfold cdT; rw [if_pos h, if_pos hm, if_pos hk, if_pos hi]

set_option maxRecDepth 100000 in
theorem eng_yes (n : Int) (h : 0 ≤ n ∧ n ≤ 2) (w : World) :
    Calls Tryz.prog 126 #[.int .i64 n] w fun e w' => e = .returned (.bool true) ∧ w = w' := by
  obtain ⟨h0, h1⟩ := h
  go_enter Tryz.func126, Tryz.ntmps126
  go_wp2
  go_ret
  exact ⟨rfl, rfl⟩
set_option maxRecDepth 100000 in
theorem eng_no (n : Int) (h : ¬ (0 ≤ n ∧ n ≤ 2)) (w : World) :
    Calls Tryz.prog 126 #[.int .i64 n] w fun e w' => e = .returned (.bool false) ∧ w = w' := by
  by_cases h0 : 0 ≤ n
  · have h1 : ¬ n ≤ 2 := fun h2 => h ⟨h0, h2⟩
    clear h
    go_enter Tryz.func126, Tryz.ntmps126
    go_wp2
    go_ret
    exact ⟨rfl, rfl⟩
  · clear h
    go_enter Tryz.func126, Tryz.ntmps126
    go_wp2
    go_ret
    exact ⟨rfl, rfl⟩
theorem keyI_yes (s : ByteArray) (h : kOk s) (w : World) :
    Calls Tryz.prog 39 #[.string s] w fun e w' => e = .returned (.bool true) ∧ w = w' := by
  have := KeyOk_impl s w; rwa [decide_eq_true h] at this
theorem keyI_no (s : ByteArray) (h : ¬ kOk s) (w : World) :
    Calls Tryz.prog 39 #[.string s] w fun e w' => e = .returned (.bool false) ∧ w = w' := by
  have := KeyOk_impl s w; rwa [decide_eq_false h] at this

/-- what refuses, as an error. -/
def refV (c : Int) : Value := if c = 0 then .nilIface else .iface 106 (.int .i64 c)
theorem iv_yes (m : Int) (n : Nat) (h : m = 0 ∨ n = 16) (hm : ¬ m = 0) : (n : Int) = 16 := by rcases h with h | h <;> omega

set_option maxRecDepth 100000 in
set_option maxHeartbeats 1600000 in
theorem refusal_impl (e m : Int) (key iv : ByteArray) (w : World) :
    Calls Tryz.prog 93 #[.int .i64 e, .int .i64 m, .string key, .string iv] w fun x w' => x = .returned (refV (cdT e m key iv)) ∧ w = w' := by
  by_cases he : 0 ≤ e ∧ e ≤ 2
  · have HE := Lib.hid (eng_yes e he w)
    by_cases hm : 0 ≤ m ∧ m ≤ 2
    · have HM := Lib.hid (modeOk_yes m hm.1 hm.2 w)
      by_cases hk : kOk key
      · have HK := Lib.hid (keyI_yes key hk w)
        by_cases hi : m = 0 ∨ iv.size = 16
        · rw [cdT_ok e m key iv he hm hk hi]
          by_cases h0 : m = 0
          · subst h0
            clear he hm hk hi
            go_enter Tryz.func93, Tryz.ntmps93
            go_wp2_with fail
            refine HE.out.mono ?_; rintro e w' ⟨rfl, rfl⟩
            go_wp2_with fail
            refine HM.out.mono ?_; rintro e w' ⟨rfl, rfl⟩
            go_wp2_with fail
            refine HK.out.mono ?_; rintro e w' ⟨rfl, rfl⟩
            go_wp2
            go_ret
            exact ⟨rfl, rfl⟩
          · have h16 := iv_yes m iv.size hi h0
            have q1 : (m != 0) = true := bne_iff_ne.2 h0
            clear he hm hk hi h0
            go_enter Tryz.func93, Tryz.ntmps93
            go_wp2_with fail
            refine HE.out.mono ?_; rintro e w' ⟨rfl, rfl⟩
            go_wp2_with fail
            refine HM.out.mono ?_; rintro e w' ⟨rfl, rfl⟩
            go_wp2_with fail
            refine HK.out.mono ?_; rintro e w' ⟨rfl, rfl⟩
            go_wp2
            go_ret
            exact ⟨rfl, rfl⟩
        · rw [cdT_iv e m key iv he hm hk hi]
          have h0 : ¬ m = 0 := fun h => hi (.inl h)
          have h16 : ¬ (iv.size : Int) = 16 := fun h => hi (.inr (by omega))
          have q1 : (m != 0) = true := bne_iff_ne.2 h0
          have q2 : ((iv.size : Int) != 16) = true := bne_iff_ne.2 h16
          clear he hm hk hi h0 h16
          go_enter Tryz.func93, Tryz.ntmps93
          go_wp2_with fail
          refine HE.out.mono ?_; rintro e w' ⟨rfl, rfl⟩
          go_wp2_with fail
          refine HM.out.mono ?_; rintro e w' ⟨rfl, rfl⟩
          go_wp2_with fail
          refine HK.out.mono ?_; rintro e w' ⟨rfl, rfl⟩
          go_wp2
          go_ret
          exact ⟨rfl, rfl⟩
      · have HK := Lib.hid (keyI_no key hk w)
        rw [cdT_key e m key iv he hm hk]
        clear he hm hk
        go_enter Tryz.func93, Tryz.ntmps93
        go_wp2_with fail
        refine HE.out.mono ?_; rintro e w' ⟨rfl, rfl⟩
        go_wp2_with fail
        refine HM.out.mono ?_; rintro e w' ⟨rfl, rfl⟩
        go_wp2_with fail
        refine HK.out.mono ?_; rintro e w' ⟨rfl, rfl⟩
        go_wp2
        go_ret
        exact ⟨rfl, rfl⟩
    · have HM := Lib.hid (modeOk_no m (by omega) w)
      rw [cdT_mode e m key iv he hm]
      clear he hm
      go_enter Tryz.func93, Tryz.ntmps93
      go_wp2_with fail
      refine HE.out.mono ?_; rintro e w' ⟨rfl, rfl⟩
      go_wp2_with fail
      refine HM.out.mono ?_; rintro e w' ⟨rfl, rfl⟩
      go_wp2
      go_ret
      exact ⟨rfl, rfl⟩
  · have HE := Lib.hid (eng_no e he w)
    rw [cdT_eng e m key iv he]
    clear he
    go_enter Tryz.func93, Tryz.ntmps93
    go_wp2_with fail
    refine HE.out.mono ?_; rintro e w' ⟨rfl, rfl⟩
    go_wp2
    go_ret
    exact ⟨rfl, rfl⟩

end Go.Proofs.YtbcaldhcgoclgaaGreatDoor
set_option linter.unusedVariables false
set_option linter.unusedSimpArgs false
namespace Go.Proofs.YtbcaldhcgoclgaaGreatDoor
open Go Go.RowKit Go.Extern.Stop Go.Stop Go.Extern

theorem as_nil (t : Value) (w : World) :
    Calls Tryz.prog 120 #[.nilIface, t] w fun e w' => e = .returned (.bool false) ∧ w' = w := by
  go_enter Tryz.func120, Tryz.ntmps120
  go_wp2
  go_ret
  exact ⟨rfl, rfl⟩

theorem as_valueOfP (t : Addr) (w : World) : (ReflectliteValue.unpack (.iface 146 (.pointer (some t)))).run Tryz.prog w
    = .ok (.agg #[.pointer (some ⟨4, 146, none⟩), .pointer (some ⟨w.heap.size, 0, none⟩), .int .u64 150]) (w.alloc (.cells #[.pointer (some t)] 146)) := by kernel_rfl
theorem as_typeP (a : Addr) (w : World) : (ReflectliteValue.methodAny (ReflectliteValue.valueError "reflectlite.Value.Type" 0) (fun t _ _ _ => ReflectliteType.toType t) #[.agg #[.pointer (some ⟨4, 146, none⟩), .pointer (some a), .int .u64 150]]).run Tryz.prog w
    = .ok (.iface 249 (.agg #[.pointer (some ⟨4, 146, none⟩)])) w := by kernel_rfl
theorem as_methodKind (h : Value) (w : World) : (Go.method 424 249 (.agg #[h]) "Kind").run Tryz.prog w = .ok (277, h) w := by kernel_rfl
theorem as_kindP (w : World) : ((ReflectliteType.abiMethod fun t => (fun a : Nat => Value.int IntKind.u8 (a : Int)) <$> Rtype.kind t) #[.pointer (some ⟨4, 146, none⟩)]).run Tryz.prog w = .ok (.int .u8 22) w := by kernel_rfl
theorem as_kindC (w : World) : ((ReflectliteType.abiMethod fun t => (fun a : Nat => Value.int IntKind.u8 (a : Int)) <$> Rtype.kind t) #[.pointer (some ⟨4, 106, none⟩)]).run Tryz.prog w = .ok (.int .u8 2) w := by kernel_rfl

theorem as_rlm (z : Sem Value) (f : TypeId → Addr → Nat → Nat → Sem Value) (v : Value) :
    ReflectliteValue.method z f #[v] = (do match ← ReflectliteValue.parts v with | none => z | some (t, a, fl) => f t a fl (fl % 32)) := rfl
theorem as_partsP (a : Addr) (w : World) : (ReflectliteValue.parts (.agg #[.pointer (some ⟨4, 146, none⟩), .pointer (some a), .int .u64 150])).run Tryz.prog w = .ok (some (146, a, 150)) w := by kernel_rfl
theorem as_isNilP (a p : Addr) (W : World) (ha : W.cell? a = some (.pointer (some p))) :
    (ReflectliteValue.method (ReflectliteValue.valueError "reflectlite.Value.IsNil" 0) ReflectliteValue.isNil #[.agg #[.pointer (some ⟨4, 146, none⟩), .pointer (some a), .int .u64 150]]).run Tryz.prog W = .ok (.bool false) W := by
  rw [as_rlm]
  simp only [Sem.run_bind, as_partsP, Result.andThen]
  simp [ReflectliteValue.isNil, loadVar, isAgg, underlying, Tryz.underlying146, ha, Result.andThen]

theorem as_methodElem (h : Value) (w : World) : (Go.method 424 249 (.agg #[h]) "Elem").run Tryz.prog w = .ok (316, .agg #[h]) w := by kernel_rfl
theorem as_methodImplements (h : Value) (w : World) : (Go.method 424 249 (.agg #[h]) "Implements").run Tryz.prog w = .ok (317, .agg #[h]) w := by kernel_rfl
theorem as_methodAssignableTo (h : Value) (w : World) : (Go.method 424 249 (.agg #[h]) "AssignableTo").run Tryz.prog w = .ok (314, .agg #[h]) w := by kernel_rfl
theorem as_elemP (w : World) : (ReflectliteType.method ReflectliteType.elem #[.agg #[.pointer (some ⟨4, 146, none⟩)]]).run Tryz.prog w = .ok (.iface 249 (.agg #[.pointer (some ⟨4, 106, none⟩)])) w := by kernel_rfl
theorem as_implementsC (w : World) : (ReflectliteType.relation "Implements" ReflectliteType.implements_ #[.agg #[.pointer (some ⟨4, 106, none⟩)], .iface 249 (.agg #[.pointer (some ⟨4, 65, none⟩)])]).run Tryz.prog w = .ok (.bool true) w := by kernel_rfl
theorem as_typeOfC (v : Value) (w : World) : (ReflectliteType.typeOf #[.iface 106 v]).run Tryz.prog w = .ok (.iface 249 (.agg #[.pointer (some ⟨4, 106, none⟩)])) w := by kernel_rfl
theorem as_assignableC (w : World) : (ReflectliteType.relation "AssignableTo" ReflectliteType.assignableTo #[.agg #[.pointer (some ⟨4, 106, none⟩)], .iface 249 (.agg #[.pointer (some ⟨4, 106, none⟩)])]).run Tryz.prog w = .ok (.bool true) w := by kernel_rfl
theorem as_valueOfC (x : Int) (w : World) : (ReflectliteValue.unpack (.iface 106 (.int .i64 x))).run Tryz.prog w
    = .ok (.agg #[.pointer (some ⟨4, 106, none⟩), .pointer (some ⟨w.heap.size, 0, none⟩), .int .u64 130]) (w.alloc (.cells #[.int .i64 x] 106)) := by kernel_rfl
theorem as_elemOfP (w : World) : (Rtype.elem? 146).run Tryz.prog w = .ok (some 106) w := by kernel_rfl
theorem as_mkC (p : Addr) (w : World) : (ReflectliteValue.mk 106 p ReflectliteValue.flagAddr).run Tryz.prog w = .ok (.agg #[.pointer (some ⟨4, 106, none⟩), .pointer (some p), .int .u64 386]) w := by kernel_rfl
theorem as_elemVP (a p : Addr) (W : World) (ha : W.cell? a = some (.pointer (some p))) :
    (ReflectliteValue.method (ReflectliteValue.valueError "reflectlite.Value.Elem" 0) ReflectliteValue.elem #[.agg #[.pointer (some ⟨4, 146, none⟩), .pointer (some a), .int .u64 150]]).run Tryz.prog W
      = .ok (.agg #[.pointer (some ⟨4, 106, none⟩), .pointer (some p), .int .u64 386]) W := by
  rw [as_rlm]
  simp only [Sem.run_bind, as_partsP, Result.andThen]
  simp [ReflectliteValue.elem, loadVar, isAgg, underlying, Tryz.underlying146, ha, Result.andThen, as_elemOfP, as_mkC]
theorem as_rls (v x : Value) : ReflectliteValue.set #[v, x] = (do
    let (some (dst, a, fl), some (src, b, _)) := (← ReflectliteValue.parts v, ← ReflectliteValue.parts x)
      | unsupported (.noEntry "extern/(internal/reflectlite.Value).Set.zeroValue")
    if fl / ReflectliteValue.flagAddr % 2 == 0 then unsupported (.noEntry "extern/(internal/reflectlite.Value).Set.unaddressable")
    let val ← loadVar src b
    if ← Rtype.directlyAssignable dst src then storeVar dst a val
    else if ← Rtype.implements dst src then
      if (← Rtype.kind src) == 20 then
        match val with
        | .nilIface => unsupported (.noEntry "extern/reflectlite: a nil value of one interface type handed on as a value of another")
        | _ => storeVar dst a val
      else storeVar dst a (.iface src val)
    else panicString ("reflectlite.Set: value of type " ++ (← Rtype.spelt src) ++ " is not assignable to type " ++ (← Rtype.spelt dst))
    pure (.tuple #[])) := rfl
theorem as_partsCa (a : Addr) (w : World) : (ReflectliteValue.parts (.agg #[.pointer (some ⟨4, 106, none⟩), .pointer (some a), .int .u64 386])).run Tryz.prog w = .ok (some (106, a, 386)) w := by kernel_rfl
theorem as_partsC (a : Addr) (w : World) : (ReflectliteValue.parts (.agg #[.pointer (some ⟨4, 106, none⟩), .pointer (some a), .int .u64 130])).run Tryz.prog w = .ok (some (106, a, 130)) w := by kernel_rfl
theorem as_directC (w : World) : (Rtype.directlyAssignable 106 106).run Tryz.prog w = .ok true w := by kernel_rfl
theorem as_setC (ta b : Addr) (x : Int) (old : Value) (W : World) (hb : W.cell? b = some (.int .i64 x)) (ht : W.cell? ta = some old) (hf : W.frozen? ta = false) :
    (ReflectliteValue.set #[.agg #[.pointer (some ⟨4, 106, none⟩), .pointer (some ta), .int .u64 386], .agg #[.pointer (some ⟨4, 106, none⟩), .pointer (some b), .int .u64 130]]).run Tryz.prog W
      = .ok (.tuple #[]) (W.setCell ta (.int .i64 x)) := by
  rw [as_rls]
  simp only [Sem.run_bind, as_partsCa, as_partsC, Result.andThen]
  simp [ReflectliteValue.flagAddr, loadVar, isAgg, underlying, Tryz.underlying106, hb, Result.andThen, as_directC, storeVar, Value.cells, storeCells, Addr.add]
  rw [run_store Tryz.prog W ta _ _ (by rfl)]
  simp [ht, hf]

theorem lt_of_cell {w : World} {a : Addr} {v : Value} (h : w.cell? a = some v) : a.block < w.heap.size := by
  rcases Nat.lt_or_ge a.block w.heap.size with h1 | h1
  · exact h1
  · simp [World.cell?, Array.getElem?_eq_none h1] at h

set_option maxHeartbeats 4000000 in
theorem as_hit (x : Int) (t : Addr) (old : Value) (w : World) (hg : w.cell? ⟨1, 0, none⟩ = some (.iface 249 (.agg #[.pointer (some ⟨4, 65, none⟩)]))) (ht0 : w.cell? t = some old) (hf0 : w.frozen? t = false) :
    Calls Tryz.prog 120 #[.iface 106 (.int .i64 x), .iface 146 (.pointer (some t))] w fun ev w' => ev = .returned (.bool true) ∧ w' = ((((w.alloc (.cells #[.pointer (some t)] 146)).alloc (.cells #[.pointer (some ⟨4, 146, none⟩), .pointer (some ⟨w.heap.size, 0, none⟩), .int .u64 150] 195)).alloc (.cells #[.pointer (some ⟨4, 146, none⟩), .pointer (some ⟨w.heap.size, 0, none⟩), .int .u64 150] 195)).alloc (.cells #[.int .i64 x] 106)).setCell t (.int .i64 x) := by
  have h6 := @run_callFunc_extern Tryz.prog 169 _ (fun args => ReflectliteValue.unpack (args.getD 0 (.tuple #[]))) Tryz.func169 (by kernel_rfl) (by kernel_rfl) (by kernel_rfl) (by kernel_rfl)
  have h7 := @run_callFunc_extern Tryz.prog 170 _ (ReflectliteValue.methodAny (ReflectliteValue.valueError "reflectlite.Value.Type" 0) (fun t _ _ _ => ReflectliteType.toType t)) Tryz.func170 (by kernel_rfl) (by kernel_rfl) (by kernel_rfl) (by kernel_rfl)
  have h8 := @run_callFunc_extern Tryz.prog 171 _ (ReflectliteValue.method (ReflectliteValue.valueError "reflectlite.Value.IsNil" 0) ReflectliteValue.isNil) Tryz.func171 (by kernel_rfl) (by kernel_rfl) (by kernel_rfl) (by kernel_rfl)
  have h27 := @run_callFunc_extern Tryz.prog 277 _ (ReflectliteType.abiMethod fun t => do pure (.int .u8 (← Rtype.kind t))) Tryz.func277 (by kernel_rfl) (by kernel_rfl) (by kernel_rfl) (by kernel_rfl)
  have h37 := @run_callFunc_extern Tryz.prog 316 _ (ReflectliteType.method ReflectliteType.elem) Tryz.func316 (by kernel_rfl) (by kernel_rfl) (by kernel_rfl) (by kernel_rfl)
  have h38 := @run_callFunc_extern Tryz.prog 317 _ (ReflectliteType.relation "Implements" ReflectliteType.implements_) Tryz.func317 (by kernel_rfl) (by kernel_rfl) (by kernel_rfl) (by kernel_rfl)
  have h10 := @run_callFunc_extern Tryz.prog 225 _ ReflectliteType.typeOf Tryz.func225 (by kernel_rfl) (by kernel_rfl) (by kernel_rfl) (by kernel_rfl)
  have h35 := @run_callFunc_extern Tryz.prog 314 _ (ReflectliteType.relation "AssignableTo" ReflectliteType.assignableTo) Tryz.func314 (by kernel_rfl) (by kernel_rfl) (by kernel_rfl) (by kernel_rfl)
  have h11 := @run_callFunc_extern Tryz.prog 226 _ (ReflectliteValue.method (ReflectliteValue.valueError "reflectlite.Value.Elem" 0) ReflectliteValue.elem) Tryz.func226 (by kernel_rfl) (by kernel_rfl) (by kernel_rfl) (by kernel_rfl)
  have h12 := @run_callFunc_extern Tryz.prog 227 _ ReflectliteValue.set Tryz.func227 (by kernel_rfl) (by kernel_rfl) (by kernel_rfl) (by kernel_rfl)
  have tO := as_typeOfC
  have mA := as_methodAssignableTo
  have a25 := as_assignableC
  have v25 := as_valueOfC
  have f6 := as_valueOfP
  have f7 := as_typeP
  have mK := as_methodKind
  have mE := as_methodElem
  have mI := as_methodImplements
  have k27 := as_kindP
  have k25 := as_kindC
  have e27 := as_elemP
  have i25 := as_implementsC
  have n8 := as_isNilP ⟨w.heap.size, 0, none⟩ t ((w.alloc (.cells #[.pointer (some t)] 146)).alloc (.cells #[.pointer (some ⟨4, 146, none⟩), .pointer (some ⟨w.heap.size, 0, none⟩), .int .u64 150] 195)) (by simp)
  have hlt : 1 < w.heap.size := lt_of_cell hg
  have hg2 : ((w.alloc (.cells #[.pointer (some t)] 146)).alloc (.cells #[.pointer (some ⟨4, 146, none⟩), .pointer (some ⟨w.heap.size, 0, none⟩), .int .u64 150] 195)).cell? ⟨1, 0, none⟩ = some (.iface 249 (.agg #[.pointer (some ⟨4, 65, none⟩)])) := by
    rw [World.cell?_alloc_lt _ _ ⟨1, 0, none⟩ (by simp <;> omega), World.cell?_alloc_lt _ _ ⟨1, 0, none⟩ hlt]; exact hg
  have htl : t.block < w.heap.size := lt_of_cell ht0
  have el := as_elemVP ⟨w.heap.size, 0, none⟩ t (((w.alloc (.cells #[.pointer (some t)] 146)).alloc (.cells #[.pointer (some ⟨4, 146, none⟩), .pointer (some ⟨w.heap.size, 0, none⟩), .int .u64 150] 195)).alloc (.cells #[.pointer (some ⟨4, 146, none⟩), .pointer (some ⟨w.heap.size, 0, none⟩), .int .u64 150] 195)) (by rw [World.cell?_alloc_lt _ _ ⟨w.heap.size, 0, none⟩ (by simp <;> omega)]; simp)
  have st := as_setC t ⟨w.heap.size + 1 + 1 + 1, 0, none⟩ x old ((((w.alloc (.cells #[.pointer (some t)] 146)).alloc (.cells #[.pointer (some ⟨4, 146, none⟩), .pointer (some ⟨w.heap.size, 0, none⟩), .int .u64 150] 195)).alloc (.cells #[.pointer (some ⟨4, 146, none⟩), .pointer (some ⟨w.heap.size, 0, none⟩), .int .u64 150] 195)).alloc (.cells #[.int .i64 x] 106))
    (by rw [World.cell?_alloc_at _ _ _ _ (by simp)]; rfl)
    (by rw [World.cell?_alloc_lt _ _ t (by simp <;> omega), World.cell?_alloc_lt _ _ t (by simp <;> omega), World.cell?_alloc_lt _ _ t (by simp <;> omega), World.cell?_alloc_lt _ _ t htl]; exact ht0)
    (by rw [World.frozen?_alloc_old _ _ t (by simp <;> omega), World.frozen?_alloc_old _ _ t (by simp <;> omega), World.frozen?_alloc_old _ _ t (by simp <;> omega), World.frozen?_alloc_old _ _ t (Nat.ne_of_lt htl)]; exact hf0)
  go_enter Tryz.func120, Tryz.ntmps120
  go_wp2
  refine wp_loop_rounds 1 ?_
  rw [rounds_succ]
  go_wp2
  go_ret
  exact ⟨rfl, rfl⟩

/-! ### codeOf -/
theorem codeOf_nil (w : World) :
    Calls Tryz.prog 86 #[.nilIface] w fun e w' => e = .returned (.int .i64 0) ∧ Below w.heap.size w w' := by
  go_enter Tryz.func86, Tryz.ntmps86
  go_wp2_with (go_at_call 120; refine (as_nil _ _).mono ?_; rintro e w' ⟨rfl, rfl⟩)
  go_ret
  exact ⟨rfl, (Below.refl _ _).alloc (Nat.le_refl _) _⟩
theorem codeOf_hit (x : Int) (w : World) (hg : w.cell? ⟨1, 0, none⟩ = some (.iface 249 (.agg #[.pointer (some ⟨4, 65, none⟩)]))) :
    Calls Tryz.prog 86 #[.iface 106 (.int .i64 x)] w fun e w' => e = .returned (.int .i64 x) ∧ Below w.heap.size w w' := by
  have hlt : 1 < w.heap.size := lt_of_cell hg
  have hgA : (w.alloc (.cells #[.int .i64 0] 106)).cell? ⟨1, 0, none⟩ = some (.iface 249 (.agg #[.pointer (some ⟨4, 65, none⟩)])) := by
    rw [World.cell?_alloc_lt _ _ ⟨1, 0, none⟩ hlt]; exact hg
  have htA : (w.alloc (.cells #[.int .i64 0] 106)).cell? ⟨w.heap.size, 0, none⟩ = some (.int .i64 0) := by simp
  have hfA : (w.alloc (.cells #[.int .i64 0] 106)).frozen? ⟨w.heap.size, 0, none⟩ = false := by simp
  go_enter Tryz.func86, Tryz.ntmps86
  go_wp2_with (go_at_call 120; refine (as_hit x _ (.int .i64 0) _ hgA htA hfA).mono ?_; rintro e w' ⟨rfl, rfl⟩)
  go_ret
  refine ⟨rfl, ?_⟩
  exact (((((Below.refl _ _).alloc (Nat.le_refl _) _).alloc (by simp) _).alloc (by simp <;> omega) _).alloc (by simp <;> omega) _).alloc (by simp <;> omega) _
end Go.Proofs.YtbcaldhcgoclgaaGreatDoor
set_option linter.unusedVariables false
set_option linter.unusedSimpArgs false
namespace Go.Proofs.YtbcaldhcgoclgaaGreatDoor
open Go Go.RowKit

theorem withCode_nil (x : ByteArray) (w : World) :
    Calls Tryz.prog 58 #[.string x, .nilIface] w fun e w' => e = .returned (.tuple #[.string x, .int .i64 0]) ∧ Below w.heap.size w w' := by
  have H := Lib.hid (codeOf_nil w)
  go_enter Tryz.func58, Tryz.ntmps58
  go_wp2_with fail
  refine H.out.mono ?_; rintro e w1 ⟨rfl, hb1⟩
  go_wp2
  go_ret2
  exact ⟨rfl, hb1⟩
theorem en_chain (L : ByteArray → ByteArray) (iv s : ByteArray) (m : Nat) (h : (padT s).size = 16 * m) : txt (catB fun j => chB L iv (blk (byteOf (padT s))) (j + 1)) (16 * m) = enT L true iv s := by
  unfold enT
  rw [h]
  rfl
set_option maxRecDepth 100000 in
set_option maxHeartbeats 1600000 in
theorem encrypted_chain (n : Int) (key iv s : ByteArray) (hn : 0 ≤ n ∧ n ≤ 2) (hk : kOk key) (hv : iv.size = 16) (hs : s.size ≤ 1048576) (w : World) (hf : Fac4 w 0 mxF) :
    Calls Tryz.prog 67 #[.int .i64 n, .int .i64 1, .string key, .string iv, .string s] w fun e w' => e = .returned (.tuple #[.string (enT (lockT key) true iv s), .nilIface]) ∧ Below w.heap.size w w' := by
  have HR := fun W => Lib.hid (refusal_impl n 1 key iv W)
  rw [cdT_ok n 1 key iv hn (by omega) hk (.inr hv), show refV 0 = .nilIface from if_pos rfl] at HR
  have hco : coT n key ⟨#[]⟩ = 0 := coT_ok n key ⟨#[]⟩ hn hk rfl
  have HE := Lib.hid (lockEng n key ⟨#[]⟩ hco w hf)
  have HP := fun W => Lib.hid (Pad_impl s (by omega) W)
  have hpw := padT_whole s
  have hps : (padT s).size = s.size + padN s := padT_size s
  have hpn := padN_in s
  have hm : (padT s).size = 16 * ((padT s).size / 16) := by omega
  have HC := fun v W he => Lib.hid (chained_impl key iv (padT s) hk hv ((padT s).size / 16) hm (by omega) v W he)
  simp only [en_chain (lockT key) iv s ((padT s).size / 16) hm] at HC
  generalize enT (lockT key) true iv s = r at *
  generalize padT s = p at *
  clear hco hm hpn hps hpw hs hn hv hf hk
  go_enter Tryz.func67, Tryz.ntmps67
  go_wp2_with fail
  refine (HR _).out.mono ?_; rintro e w1 ⟨rfl, rfl⟩
  go_wp2_with fail
  refine HE.out.mono ?_; rintro e w1 ⟨v, rfl, hev, hb1⟩
  go_wp2_with fail
  refine (HP _).out.mono ?_; rintro e w2 ⟨rfl, hb2⟩
  have hev2 := hev.up hb2
  have hb3 := hb1.trans (hb2.mono hb1.size)
  clear hb1 hb2 hev
  go_wp2_with fail
  refine (HC _ _ hev2).out.mono ?_; rintro e w3 ⟨rfl, hb4⟩
  have hb5 := hb3.trans (hb4.mono hb3.size)
  clear hb3 hb4 hev2
  go_wp2
  go_ret2
  exact ⟨rfl, hb5⟩
set_option maxRecDepth 100000 in
theorem Encrypt_chain (n : Int) (key iv s : ByteArray) (hn : 0 ≤ n ∧ n ≤ 2) (hk : kOk key) (hv : iv.size = 16) (hs : s.size ≤ 1048576) (w : World) (hf : Fac4 w 0 mxF) :
    Calls Tryz.prog 35 #[.int .i64 n, .int .i64 1, .string key, .string iv, .string s] w fun e w' => e = .returned (.tuple #[.string (enT (lockT key) true iv s), .int .i64 0]) ∧ Below w.heap.size w w' := by
  have H1 := Lib.hid (encrypted_chain n key iv s hn hk hv hs w hf)
  have H2 := fun W => Lib.hid (withCode_nil (enT (lockT key) true iv s) W)
  generalize enT (lockT key) true iv s = r at *
  clear hn hk hv hs hf
  go_enter Tryz.func35, Tryz.ntmps35
  go_wp2_with fail
  refine H1.out.mono ?_; rintro e w1 ⟨rfl, hb1⟩
  go_wp2_with fail
  refine (H2 _).out.mono ?_; rintro e w2 ⟨rfl, hb2⟩
  have hb3 := hb1.trans (hb2.mono hb1.size)
  clear hb1 hb2
  go_wp2
  go_ret2
  exact ⟨rfl, hb3⟩
end Go.Proofs.YtbcaldhcgoclgaaGreatDoor
