/-
  A passage of a block under a key: how it begins, and all its steps behind one another, with the deferred recover.
-/
import Derived.Test.YtipcgdhjlpjcaaaGreatDoorPassE
import Derived.Test.YtipcgdhjlpjcaaaGreatDoorPassF
import Derived.Recover
import Derived.Lib.BufferWrite
set_option linter.unusedVariables false
set_option linter.unusedSimpArgs false
namespace Go.Proofs.YtipcgdhjlpjcaaaGreatDoor
open Go Go.RowKit Go.Proofs.YtipcgdhjlpjcaaaGreatDoor.Lk
attribute [local go_sem ↓] Go.wp_at_zero Go.wp_at_succ

theorem up_data (s : ByteArray) (hs : s.size = 16) : upTo (byteOf s) 16 = s.data.toList := by
  have h2 := congrArg (fun b => b.data.toList) (txt_own s 16 hs)
  simpa [txt] using h2
theorem copied_ps (w : World) (p : Nat) (kv : Value) (f : Nat → UInt8) (sv uv bv : Value) (s : ByteArray) (hs : s.size = 16) (hp : PsAt w p kv f sv uv bv) :
    (Builtin.copy_ #[22, 9] 3 #[.slice (some ⟨p, 1, none⟩) 16 16, .string s]).run Tryz.prog w = .ok (.int .i64 16) (w.setRow p (psC kv (byteOf s) sv uv bv).toArray) := by
  have h := Lib.run_copy_row_string (P := Tryz.prog) w 22 9 3 5 p 1 16 16 s (psC kv f sv uv bv).toArray 71 Tryz.underlying22 (by kernel_rfl) hp (by omega) (by rw [hs, List.size_toArray, psC_length]; decide)
  rw [h]
  have e : ((psC kv f sv uv bv).toArray.toList.take 1 ++ Lib.byteCells s.data.toList ++ (psC kv f sv uv bv).toArray.toList.drop (1 + s.size)).toArray = (psC kv (byteOf s) sv uv bv).toArray := by
    have h1 : (psC kv f sv uv bv).take 1 = [kv] := rfl
    have h2 : (psC kv f sv uv bv).drop (1 + s.size) = [sv, uv, bv] := by
      rw [hs]; unfold psC
      show List.drop 16 (cells8 (upTo f 16) ++ [sv, uv, bv]) = _
      rw [List.drop_left' (by rw [cells8_length, upTo_length])]
    have h3 : Lib.byteCells s.data.toList = cells8 (upTo (byteOf s) 16) := by rw [up_data s hs]; rfl
    show ((psC kv f sv uv bv).take 1 ++ _ ++ (psC kv f sv uv bv).drop (1 + s.size)).toArray = _
    rw [h1, h2, h3]; unfold psC
    rw [List.append_assoc, List.singleton_append]
  rw [e, hs]; rfl
theorem passage_fin {w w1 w2 w3 : World} {T U X R : Array Value} {t : TypeId} (hT : tabOf sbox = T) (hU : tabOf ubox = U) (hb1 : Below w.heap.size w w1) (hb2 : Below w1.heap.size w1 w2) (hb3 : Below (w2.alloc (.cells T 53)).heap.size (w2.alloc (.cells T 53)) w3) :
    Below w1.heap.size w1 (((w3.alloc (.cells U 53)).alloc (.cells X t)).setRow (w3.heap.size + 1) R) ∧ BoxAt (((w3.alloc (.cells U 53)).alloc (.cells X t)).setRow (w3.heap.size + 1) R) w2.heap.size sbox ∧ BoxAt (((w3.alloc (.cells U 53)).alloc (.cells X t)).setRow (w3.heap.size + 1) R) w3.heap.size ubox ∧ w1.heap.size ≤ w2.heap.size ∧ w2.heap.size < w3.heap.size ∧ Below w.heap.size w (((w3.alloc (.cells U 53)).alloc (.cells X t)).setRow (w3.heap.size + 1) R) := by
  have s2 := hb2.size
  have s3 := hb3.size
  rw [World.size_alloc] at s3 hb3
  have e3 : Below (w3.heap.size + 1) (w3.alloc (.cells U 53)) (((w3.alloc (.cells U 53)).alloc (.cells X t)).setRow (w3.heap.size + 1) R) :=
    below_setRow ((Below.refl _ _).alloc (by rw [World.size_alloc]; exact Nat.le_refl _) _) (Nat.le_refl _) R
  have e2 : Below (w2.heap.size + 1) (w2.alloc (.cells T 53)) (((w3.alloc (.cells U 53)).alloc (.cells X t)).setRow (w3.heap.size + 1) R) :=
    (hb3.alloc s3 _).trans (e3.mono (by omega))
  have e1 : Below w1.heap.size w1 (((w3.alloc (.cells U 53)).alloc (.cells X t)).setRow (w3.heap.size + 1) R) :=
    (hb2.alloc s2 _).trans (e2.mono (by omega))
  exact ⟨e1, (BoxAt.is w2 hT).below e2 (by omega), (BoxAt.is w3 hU).below e3 (by omega), s2, by omega, hb1.trans (e1.mono hb1.size)⟩
set_option maxRecDepth 100000 in
set_option maxHeartbeats 1600000 in
theorem passageOf_yes (key s : ByteArray) (n : Nat) (h : kOf key n) (hs : s.size = 16) (w : World) :
    Calls Tryz.prog 54 #[.string key, .string s] w fun e w' => ∃ p g c q1 q2, e = .returned (.pointer (some ⟨p, 0, none⟩)) ∧ PsAt w' p (.slice (some ⟨g, 0, none⟩) (n + 7) c) (byteOf s) (reader q1) (reader q2) (.slice none 0 0) ∧
      w'.ownsRow w.heap.size 48 16 (.slice (some ⟨g, 0, none⟩) (n + 7) c) (n + 7) (keyC (rkS key n) (List.range (n + 7))) ∧ BoxAt w' q1 sbox ∧ BoxAt w' q2 ubox ∧ (g < p ∧ q1 < p ∧ q2 < p ∧ w.heap.size ≤ p) ∧ Below w.heap.size w w' := by
  have hs2 : (s.size : Int) = 16 := by omega
  have HR := Lib.hid (roundKeys_impl key n h w)
  obtain ⟨T, hT⟩ : ∃ T, tabOf sbox = T := ⟨_, rfl⟩
  have HT := Lib.hid hT
  have HS := fun w => Lib.hid (subBox_any w)
  obtain ⟨U, hU⟩ : ∃ U, tabOf ubox = U := ⟨_, rfl⟩
  have HU := Lib.hid hU
  have HV := fun w => Lib.hid (unsubBox_any w)
  simp only [hT] at HS
  simp only [hU] at HV
  have HS16 := Lib.hid hs
  clear hT hU h hs
  go_enter Tryz.func54, Tryz.ntmps54
  go_wp2_with fail
  refine HR.out.mono ?_; rintro e w1 ⟨g, c, rfl, ho1, hb1⟩
  have HO1 := Lib.hid ho1
  have HB1 := Lib.hid hb1
  clear ho1 hb1 HR
  go_wp2_with fail
  refine (HS _).out.mono ?_; rintro e w2 ⟨rfl, hb2⟩
  have HB2 := Lib.hid hb2
  clear hb2
  go_wp2_with fail
  refine (readerOf_impl T w2).mono ?_; rintro e w' ⟨rfl, rfl⟩
  go_wp2_with fail
  refine (HV _).out.mono ?_; rintro e w3 ⟨rfl, hb3⟩
  have HB3 := Lib.hid hb3
  clear hb3
  go_wp2_with fail
  refine (readerOf_impl U w3).mono ?_; rintro e w' ⟨rfl, rfl⟩
  have P1 : Hid (PsAt ((w3.alloc (.cells U 53)).alloc (.cells #[.slice (some ⟨g, 0, none⟩) (n + 7) c, .int .u8 0, .int .u8 0, .int .u8 0, .int .u8 0, .int .u8 0, .int .u8 0, .int .u8 0, .int .u8 0, .int .u8 0, .int .u8 0, .int .u8 0, .int .u8 0, .int .u8 0, .int .u8 0, .int .u8 0, .int .u8 0, reader w2.heap.size, reader w3.heap.size, .slice none 0 0] 71)) (w3.heap.size + 1) (.slice (some ⟨g, 0, none⟩) (n + 7) c) (fun _ => 0) (reader w2.heap.size) (reader w3.heap.size) (.slice none 0 0)) := by
    refine Lib.hid ?_
    have := heap_alloc_new (w3.alloc (.cells U 53)) (.cells #[.slice (some ⟨g, 0, none⟩) (n + 7) c, .int .u8 0, .int .u8 0, .int .u8 0, .int .u8 0, .int .u8 0, .int .u8 0, .int .u8 0, .int .u8 0, .int .u8 0, .int .u8 0, .int .u8 0, .int .u8 0, .int .u8 0, .int .u8 0, .int .u8 0, .int .u8 0, reader w2.heap.size, reader w3.heap.size, .slice none 0 0] 71)
    rw [World.size_alloc] at this
    exact this
  have hcp := copied_ps _ _ _ _ _ _ _ s HS16.out P1.out
  have Q1 := Lib.hid (setRow_heap _ _ _ (psC (.slice (some ⟨g, 0, none⟩) (n + 7) c) (byteOf s) (reader w2.heap.size) (reader w3.heap.size) (.slice none 0 0)).toArray _ _ P1.out)
  have F1 := fun X R t => Lib.hid (passage_fin (X := X) (R := R) (t := t) HT.out HU.out HB1.out HB2.out HB3.out)
  unfold reader at hcp Q1 ⊢
  clear P1 HT HU HS HV HS16
  go_wp2
  go_ret
  obtain ⟨f1, f2, f3, f4, f5, f6⟩ := (F1 _ _ _).out
  refine ⟨_, g, c, w2.heap.size, w3.heap.size, rfl, Q1.out, owns_below HO1.out f1, f2, f3, ⟨?_, by omega, by omega, ?_⟩, f6⟩
  · have := HO1.out.lt g rfl; omega
  · have := HB1.out.size; omega
set_option maxRecDepth 100000 in
theorem passageOf_no (key s : ByteArray) (hs : ¬ s.size = 16) (w : World) :
    Calls Tryz.prog 54 #[.string key, .string s] w fun e w' => ∃ u pv, e = .panicked [{ v := .iface u pv, recovered := false }] ∧ w = w' := by
  have hs2 : ¬ (s.size : Int) = 16 := by omega
  clear hs
  go_enter Tryz.func54, Tryz.ntmps54
  go_wp2
  exact ⟨rfl, _, _, rfl, rfl⟩
/-- the deferred function: of a passage that panics it takes the panic, and the blocks are none; else it does nothing. -/
theorem catch_panicking (p : Addr) (x : Value) (u : TypeId) (pv : Value) (older : List PanicEntry) (w : World) (hc : w.cell? p = some x) (hz : w.frozen? p = false) :
    CallsD Tryz.prog 52 #[.pointer (some p)] (.panicking ({ v := .iface u pv, recovered := false } :: older)) w fun e u' w' =>
      e = .returned (.tuple #[]) ∧ u' = .panicking ({ v := .iface u pv, recovered := true } :: older) ∧ w' = w.setCell p (.slice none 0 0) := by
  refine callsD_of_wpS Tryz.func52 rfl fun c₀ cs hu => ?_
  apply wpS_seq
  apply wpS_region
  simp [wpOpsS, go_sem, recoverD, hu, Tryz.ntmps52, Exit.thenS]
  refine wpS_cond (t := true) (by simp [Act.eval, Array.replicate]) ?_
  simp only [if_true]
  apply wpS_region
  simp [wpOpsS, go_sem, hc, hz, bodyPostS, results, Tryz.results52]
theorem catch_idle (p : Addr) (w : World) :
    CallsD Tryz.prog 52 #[.pointer (some p)] .returning w fun e u' w' => e = .returned (.tuple #[]) ∧ u' = .returning ∧ w' = w := by
  refine callsD_of_wpS Tryz.func52 rfl fun c₀ cs hu => ?_
  apply wpS_seq
  apply wpS_region
  simp [wpOpsS, go_sem, recoverD, hu, Tryz.ntmps52, Exit.thenS]
  refine wpS_cond (t := false) (by simp [Act.eval, Array.replicate]) ?_
  simp only [Bool.false_eq_true, if_false]
  refine wpS_of_wp (wp_skip ?_)
  cases c₀
  simp_all [bodyPostS, results, Tryz.results52]
set_option maxRecDepth 100000 in
theorem passed_nokey (key s : ByteArray) (h : ¬ kOk key) (v : Value) (w : World) :
    Calls Tryz.prog 28 #[.string key, .string s, v] w fun e w' => e = .returned (.slice none 0 0) ∧ Below w.heap.size w w' := by
  have hmf : ∀ (fn : Fn) (first cap : Array Value) (w : World), (Instr.makeFunc fn first cap).run Tryz.prog w = .ok (.func fn first cap) w := fun _ _ _ _ => rfl
  have HK := fun w => Lib.hid (KeyOk_impl key w)
  rw [decide_eq_false h] at HK
  clear h
  go_enter_defers Tryz.func28, Tryz.ntmps28
  go_wp2_with fail
  refine (HK _).out.mono ?_; rintro e w' ⟨rfl, rfl⟩
  go_wp2
  refine leaves_cons (f := 52) (args := #[.pointer (some ⟨w.heap.size, 0, none⟩)]) (by simp) (by simp [go_sem]) ?_
  refine (catch_idle ⟨w.heap.size, 0, none⟩ _).mono ?_
  rintro e u' w'' ⟨rfl, rfl, rfl⟩
  simp [Leaves, settle, results, Tryz.results28, go_sem]
  exact (Below.refl _ _).alloc (Nat.le_refl _) _
set_option maxRecDepth 100000 in
theorem passed_noblock (key s : ByteArray) (h : kOk key) (hs : ¬ s.size = 16) (v : Value) (w : World) :
    Calls Tryz.prog 28 #[.string key, .string s, v] w fun e w' => e = .returned (.slice none 0 0) ∧ Below w.heap.size w w' := by
  have hmf : ∀ (fn : Fn) (first cap : Array Value) (w : World), (Instr.makeFunc fn first cap).run Tryz.prog w = .ok (.func fn first cap) w := fun _ _ _ _ => rfl
  have HK := fun w => Lib.hid (KeyOk_impl key w)
  have HP := fun w => Lib.hid (passageOf_no key s hs w)
  rw [decide_eq_true h] at HK
  clear h hs
  go_enter_defers Tryz.func28, Tryz.ntmps28
  go_wp2_with fail
  refine (HK _).out.mono ?_; rintro e w' ⟨rfl, rfl⟩
  go_wp2_with fail
  refine (HP _).out.mono ?_; rintro e w' ⟨u, pv, rfl, rfl⟩
  go_wp2
  refine leaves_cons (f := 52) (args := #[.pointer (some ⟨w.heap.size, 0, none⟩)]) (by simp) (by simp [go_sem]) ?_
  refine (catch_panicking ⟨w.heap.size, 0, none⟩ (.slice none 0 0) u pv [] _ ?_ ?_).mono ?_
  · simp [go_sem]
  · simp [go_sem]
  rintro e u' w'' ⟨rfl, rfl, rfl⟩
  simp [Leaves, settle, results, Tryz.results28, go_sem]
  exact (Below.refl _ _).alloc (Nat.le_refl _) _
/-- what the keys' row holds. -/
theorem keysIn_of {w : World} {H g c m B p : Nat} {K : Nat → ByteArray} (ho : w.ownsRow H 48 16 (.slice (some ⟨g, 0, none⟩) m c) m (keyC K (List.range m))) (hg : g < B) (hn : g ≠ p) : KeysIn w (.slice (some ⟨g, 0, none⟩) m c) K 0 m B p := by
  have hc : m ≤ c ∧ c ≤ 9223372036854775807 := by
    rcases ho.2 with ⟨e, _⟩ | ⟨g', cap, cur, e, _, _, h1, h2, _⟩
    · cases e
    · injection e with e1 e2 e3; subst e3; exact ⟨h1, h2⟩
  refine ⟨g, 0, c, rfl, hc.1, hc.2, hg, hn, fun i hi j v hv => ?_⟩
  have hj : j < 16 := by have := (List.getElem?_eq_some_iff.1 hv).1; rwa [cells8_length, upTo_length] at this
  show w.cell? ⟨g, 0 + 16 * i + j, none⟩ = some v
  rw [Nat.zero_add, ho.cellAt (16 * i + j) (by omega), keyC_at K m i j hi hj, ← hv, Nat.zero_add]
theorem stV_at (p : Nat) (l : List PStp) (k : Nat) (s : PStp) (h : l[k]? = some s) : (stV p l)[k]? = some (stF p s) := by unfold stV; rw [List.getElem?_map, h]; rfl
theorem enters_step (s : PStp) (args : Array Value) (w : World) : (callFunc s.fn args).run Tryz.prog w = .ok (.enter s.fn args) w := by
  cases s
  · exact enters_of Tryz.func65 (by kernel_rfl) rfl args w
  · exact enters_of Tryz.func55 (by kernel_rfl) rfl args w
  · exact enters_of Tryz.func66 (by kernel_rfl) rfl args w
  · exact enters_of Tryz.func57 (by kernel_rfl) rfl args w
  · exact enters_of Tryz.func67 (by kernel_rfl) rfl args w
  · exact enters_of Tryz.func56 (by kernel_rfl) rfl args w
  · exact enters_of Tryz.func68 (by kernel_rfl) rfl args w
  · exact enters_of Tryz.func59 (by kernel_rfl) rfl args w
set_option maxRecDepth 100000 in
set_option maxHeartbeats 1600000 in
theorem passed_yes (key s : ByteArray) (n : Nat) (h : kOf key n) (hs : s.size = 16) (F : FuncId) (l : List PStp) (N : Nat) (hN : l.length = N) (hN2 : N ≤ 1000) (hN1 : 1 ≤ N) (w : World) (hf : MxF w)
    (HE : ∀ (args : Array Value) (W : World), (callFunc F args).run Tryz.prog W = .ok (.enter F args) W)
    (HF : ∀ (p g o c : Nat) (f : Nat → UInt8) (sv uv bv : Value) (W : World), PsAt W p (.slice (some ⟨g, o, none⟩) (n + 7) c) f sv uv bv →
      Calls Tryz.prog F #[.pointer (some ⟨p, 0, none⟩)] W fun e w' => ∃ v, e = .returned v ∧ w'.ownsRow W.heap.size 1 1 v N (stV p l) ∧ Below W.heap.size W w')
    (q0 : Pas) (hq0 : q0 = ⟨0, n + 7, s, []⟩) (hok : okAll (rkS key n) l q0) :
    Calls Tryz.prog 28 #[.string key, .string s, fnV F] w fun e w' => ∃ v, e = .returned v ∧ w'.ownsRow w.heap.size 9 1 v (runAll (rkS key n) l q0).bs.length ((runAll (rkS key n) l q0).bs.map .string) ∧ Below w.heap.size w w' := by
  have hmf : ∀ (fn : Fn) (first cap : Array Value) (w : World), (Instr.makeFunc fn first cap).run Tryz.prog w = .ok (.func fn first cap) w := fun _ _ _ _ => rfl
  have HK := fun w => Lib.hid (KeyOk_impl key w)
  have HP := fun w => Lib.hid (passageOf_yes key s n h hs w)
  rw [decide_eq_true h.ok] at HK
  have hfit : q0.fits (n + 7) := by subst hq0; exact ⟨hs, by show 0 + (n + 7) ≤ n + 7; omega, by show 0 + (n + 7) = n + 7; omega⟩
  have hle := h.le
  have HFIT := Lib.hid hfit
  have HOK := Lib.hid hok
  have HQ0 := Lib.hid hq0
  have HMX := Lib.hid hf
  have HFF := fun p g o c f sv uv bv W hW => Lib.hid (HF p g o c f sv uv bv W hW)
  have HLE := Lib.hid hle
  clear h hs hok hq0 hf HF hfit hle
  unfold fnV
  go_enter_defers Tryz.func28, Tryz.ntmps28
  go_wp2_with fail
  refine (HK _).out.mono ?_; rintro e w' ⟨rfl, rfl⟩
  go_wp2_with fail
  refine (HP _).out.mono ?_; rintro e w1 ⟨p, g, c, q1, q2, rfl, p1, p2, p3, p4, p5, p6⟩
  have P1 := Lib.hid p1
  have P2 := Lib.hid p2
  have P3 := Lib.hid p3
  have P4 := Lib.hid p4
  have P5 := Lib.hid p5
  have P6 := Lib.hid p6
  clear p1 p2 p3 p4 p5 p6
  go_wp2_with fail
  refine (HFF _ _ _ _ _ _ _ _ _ P1.out).out.mono ?_; rintro e w2 ⟨v, rfl, hv, hb2⟩
  have hv0 := hv
  obtain ⟨g2, cap2, rfl, hgB, hg2⟩ := hv.form (by omega)
  have H0 : Hid (Below w.heap.size w w1) := Lib.hid (((Below.refl _ w).alloc (Nat.le_refl _) _).trans (P6.out.mono (by simp)))
  have H2 : Hid (Below w.heap.size w w2) := Lib.hid (H0.out.trans (hb2.mono H0.out.size))
  have hsz1 := P6.out.size
  have hsz2 := hb2.size
  have hp5 := P5.out
  have hp1 := P1.out.lt
  rw [World.size_alloc] at hsz1 hp5
  have HH : Hid (w2.heap[w.heap.size]? = some (.cells #[.slice none 0 0] 28 (0, 0))) := Lib.hid ((hb2.block _ (by omega)).trans ((P6.out.block _ (by rw [World.size_alloc]; omega)).trans (heap_alloc_new w _)))
  have HS : Hid (∀ k s, l[k]? = some s → w2.cell? ⟨g2, k, none⟩ = some (stF p s)) := Lib.hid fun k s hk => by
    have hkl : k < N := by rw [← hN]; exact (List.getElem?_eq_some_iff.1 hk).1
    exact (hv.cellAt k (by omega)).trans (stV_at p l k s hk)
  have PI : Hid (PIn (rkS key n) p w2.heap.size w2 q0) := Lib.hid (by
    rw [HQ0.out]
    have k1 := owns_below P2.out (hb2.mono (Nat.le_refl _))
    have hgw := P2.out.lt g rfl
    refine ⟨_, .slice none 0 0, q1, q2, P1.out.of_block (hb2.block p hp1), keysIn_of k1 (by omega) (by omega), ⟨P3.out.below hb2 P3.out.lt, ?_, by omega⟩, ⟨P4.out.below hb2 P4.out.lt, ?_, by omega⟩, World.ownsRow_nil _ _ _ _, ⟨by omega, Nat.le_refl _⟩, Fac4.below HMX.out H2.out HMX.out.1, ?_⟩
    · omega
    · omega
    · have := HMX.out.1; omega)
  have hgp : g2 ≠ p := by omega
  have hHB : w.heap.size < w2.heap.size := by omega
  have hHp : w.heap.size ≠ p := by omega
  have hHp2 : w.heap.size ≤ p := by omega
  have hT : n + 7 ≤ 1000 := by have := HLE.out; omega
  clear hv hv0 hb2 hsz1 hsz2 hp5 hp1 P1 P2 P3 P4 P5 P6 H0 HK HP HFF HE HQ0 HLE HMX
  go_wp2
  go_loopw [21] (fun v wr => ∃ k : Nat, k ≤ N ∧ v = .int .i64 k ∧ PIn (rkS key n) p w2.heap.size wr (runAll (rkS key n) (l.take k) q0) ∧ Moved p w2.heap.size w2 wr) (fun v _ => N - (intOf v).toNat)
  case atStart => exact ⟨0, Nat.zero_le _, rfl, PI.out, Moved.refl _ _ _⟩
  case round =>
    obtain ⟨k, hk, rfl, hpi, hmv⟩ := hrel
    by_cases hlt : k < N
    · obtain ⟨st, hst⟩ : ∃ st, l[k]? = some st := ⟨_, List.getElem?_eq_getElem (by omega)⟩
      have hcell : wr.cell? ⟨g2, k, none⟩ = some (stF p st) := (World.cell?_of_block (a := ⟨g2, k, none⟩) (hmv.block g2 hg2 hgp)).trans (HS.out k st hst)
      have hat := okAll_at (rkS key n) l q0 HOK.out k st hst
      have PC := Lib.hid (pstep (rkS key n) (n + 7) p w2.heap.size st _ hT (fits_at (rkS key n) (n + 7) l q0 HFIT.out HOK.out k) hat.1 wr hpi)
      have HAT := Lib.hid hat.2
      have ent := enters_step st
      have HMV := Lib.hid hmv
      have hk0 : (0 : Int) ≤ (k : Int) := by omega
      have hk1 : (k : Int) < (N : Int) := by omega
      unfold stF at hcell
      generalize st.fn = fn at *
      clear hpi hmv hat hst HS PI HH
      go_wp2_with fail
      refine PC.out.mono ?_; rintro e w3 ⟨rfl, r1, r2⟩
      have R1 := Lib.hid r1
      have R2 := Lib.hid (HMV.out.trans r2)
      clear r1 r2 PC
      go_wp2
      go_roundw
      case rel => exact ⟨k + 1, by omega, by go_num, by rw [HAT.out]; exact R1.out, R2.out⟩
      case measure => simp [intOf]; omega
    · obtain rfl : k = N := by omega
      rw [List.take_of_length_le (by omega)] at hpi
      obtain ⟨kv, bv, x1, x2, hps, -, -, -, hob, -, -⟩ := hpi
      have c19 := hps.c19
      have hbl := (hmv.block w.heap.size hHB hHp).trans HH.out
      have hcc := cell_of_row wr w.heap.size 0 _ _ _ hbl
      have hz := frozen_of_row wr w.heap.size 0 _ _ hbl
      obtain ⟨A, nn, cc, rfl⟩ : ∃ A nn cc, bv = .slice A nn cc := by
        rcases hob.2 with ⟨rfl, _⟩ | ⟨g, cap, cur, rfl, _⟩
        · exact ⟨_, _, _, rfl⟩
        · exact ⟨_, _, _, rfl⟩
      have G1 := fun u => Lib.hid (owns_down (own_far hob hHB 0 u) (Nat.le_of_lt hHB))
      have G2 := fun u => Lib.hid ((H2.out.trans (hmv.below hHp2 (Nat.le_of_lt hHB))).setCell (p := ⟨w.heap.size, 0, none⟩) (Nat.le_refl _) u)
      clear hps hob hmv hbl HS PI HH HOK HFIT
      simp at hcc
      go_wp2
      refine leaves_cons (f := 52) (args := #[.pointer (some ⟨w.heap.size, 0, none⟩)]) (by simp) (by simp [go_sem]) ?_
      refine (catch_idle ⟨w.heap.size, 0, none⟩ _).mono ?_
      rintro e u' w'' ⟨rfl, rfl, rfl⟩
      simp [Leaves, settle, results, Tryz.results28, go_sem, hcc, hz]
      exact ⟨(G1 _).out, (G2 _).out⟩
end Go.Proofs.YtipcgdhjlpjcaaaGreatDoor
