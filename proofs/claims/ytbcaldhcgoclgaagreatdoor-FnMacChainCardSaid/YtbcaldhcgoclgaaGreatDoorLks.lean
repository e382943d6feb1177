/-
  Contracts and facts that the laws of this seat use: RevI, LkA, KeysI, LkT.
-/
import Derived.Test.YtbcaldhcgoclgaaGreatDoorStoreAt
import Derived.Test.YtbcaldhcgoclgaaGreatDoorTabs
import Derived.Deep.MidRow
import Derived.Test.YtbcaldhcgoclgaaGreatDoorFoursI
import Derived.Test.YtbcaldhcgoclgaaGreatDoorUnmix
set_option linter.unusedVariables false
set_option linter.unusedSimpArgs false
namespace Go.Proofs.YtbcaldhcgoclgaaGreatDoor
open Go Go.RowKit

/-- fours of which the first k and the last k are turned round. -/
def swF (f : Nat → UInt32) (m k i : Nat) : UInt32 := if i / 4 < k ∨ m - 1 - k < i / 4 then f (4 * (m - 1 - i / 4) + i % 4) else f i
def revF (f : Nat → UInt32) (m i : Nat) : UInt32 := f (4 * (m - 1 - i / 4) + i % 4)
theorem swF_0 (f : Nat → UInt32) (m i : Nat) (hi : i < 4 * m) : swF f m 0 i = f i := by unfold swF; rw [if_neg (by omega)]
theorem swF_end (f : Nat → UInt32) (m k i : Nat) (hi : i < 4 * m) (hk : m ≤ 2 * k + 1) (hk2 : 2 * k ≤ m) : swF f m k i = revF f m i := by
  unfold swF revF
  by_cases h : i / 4 < k ∨ m - 1 - k < i / 4
  · rw [if_pos h]
  · rw [if_neg h]
    have : i = 4 * (m - 1 - i / 4) + i % 4 := by omega
    rw [← this]
def SwIs (cur : Array Value) (f : Nat → UInt32) (m k : Nat) : Prop := ∀ i, i < 4 * m → cur[i]? = some (.int .u32 ((swF f m k i).toNat : Int))
theorem sw_put (cur : Array Value) (f : Nat → UInt32) (m k J : Nat) (hJ : J = m - 1 - k) (hk : k < J) (hm : 4 * m ≤ cur.size) (h : SwIs cur f m k) :
    SwIs (putAt (putAt cur (4 * k) (ar32 (fun c => f (4 * J + c)) 4)) (4 * J) (ar32 (fun c => f (4 * k + c)) 4)) f m (k + 1) := by
  have s1 : (putAt cur (4 * k) (ar32 (fun c => f (4 * J + c)) 4)).size = cur.size := putAt_size _ _ _ (by rw [ar32_size]; omega)
  intro i hi
  rw [putAt_get _ _ _ (by rw [s1, ar32_size]; omega), ar32_size]
  by_cases b : 4 * J ≤ i ∧ i < 4 * J + 4
  · rw [if_neg (by omega), if_pos b.2, ar32_at _ _ _ (by omega)]
    unfold swF
    rw [if_pos (by omega), show 4 * (m - 1 - i / 4) + i % 4 = 4 * k + (i - 4 * J) by omega]
  · have e : (if i < 4 * J then (putAt cur (4 * k) (ar32 (fun c => f (4 * J + c)) 4))[i]? else if i < 4 * J + 4 then (ar32 (fun c => f (4 * k + c)) 4)[i - 4 * J]? else (putAt cur (4 * k) (ar32 (fun c => f (4 * J + c)) 4))[i]?) = (putAt cur (4 * k) (ar32 (fun c => f (4 * J + c)) 4))[i]? := by
      by_cases c : i < 4 * J
      · rw [if_pos c]
      · rw [if_neg c, if_neg (by omega)]
    rw [e, putAt_get _ _ _ (by rw [ar32_size]; omega), ar32_size]
    by_cases a : 4 * k ≤ i ∧ i < 4 * k + 4
    · rw [if_neg (by omega), if_pos a.2, ar32_at _ _ _ (by omega)]
      unfold swF
      rw [if_pos (by omega), show 4 * (m - 1 - i / 4) + i % 4 = 4 * J + (i - 4 * k) by omega]
    · have e2 : (if i < 4 * k then cur[i]? else if i < 4 * k + 4 then (ar32 (fun c => f (4 * J + c)) 4)[i - 4 * k]? else cur[i]?) = cur[i]? := by
        by_cases c : i < 4 * k
        · rw [if_pos c]
        · rw [if_neg c, if_neg (by omega)]
      rw [e2, h i hi]
      unfold swF
      by_cases d : i / 4 < k ∨ m - 1 - k < i / 4
      · rw [if_pos d, if_pos (by omega)]
      · rw [if_neg d, if_neg (by omega)]
theorem sw_range {w : World} {g : Nat} {t : TypeId} {cur : Array Value} {f : Nat → UInt32} {m k q : Nat} (hr : RAt w g t cur) (h : SwIs cur f m k) (hq : q < m) (h1 : k ≤ q) (h2 : q ≤ m - 1 - k) :
    w.rangeAt g (4 * q) (cells32 (upTo (fun c => f (4 * q + c)) 4)) := fun j v hv => by
  have hj : j < 4 := by have := (List.getElem?_eq_some_iff.1 hv).1; rwa [cells32_length, upTo_length] at this
  have e := h (4 * q + j) (by omega)
  unfold swF at e
  rw [if_neg (by omega)] at e
  rw [hr.cell e, ← hv]
  exact (cells32_at _ _ _ (upTo_at (fun c => f (4 * q + c)) 4 j hj)).symm
theorem fw_len (h : Nat → UInt32) : (Tryz.prog.info? 128).map (·.size) = some (cells32 (upTo h 4)).length := by rw [cells32_length, upTo_length]; kernel_rfl
theorem size_setRow8 (w : World) (g : Nat) (cs : Array Value) : (w.setRow g cs).heap.size = w.heap.size := by simp [World.setRow]
theorem only_setRow {a w : World} {g : Nat} (h : a.grownBy w (some g)) (cs : Array Value) : a.grownBy (w.setRow g cs) (some g) :=
  ⟨h.os, h.tape, h.output, by rw [size_setRow8]; exact h.size, fun k hk hn => (setRow_other w g k cs (fun e => hn (by rw [e]))).trans (h.block k hk hn)⟩
theorem only_drew8 {a w : World} {g : Nat} (h : a.grownBy w (some g)) : a.grownBy w.drew (some g) := ⟨h.os, h.tape, h.output, h.size, h.block⟩
end Go.Proofs.YtbcaldhcgoclgaaGreatDoor
set_option linter.unusedVariables false
set_option linter.unusedSimpArgs false
namespace Go.Proofs.YtbcaldhcgoclgaaGreatDoor
open Go Go.RowKit
attribute [local go_sem ↓] Go.wp_at_zero Go.wp_at_succ

/-- words that can be read. -/
def WCell (w : World) (g L : Nat) (f : Nat → UInt32) : Prop := g < w.heap.size ∧ ∀ j, j < L → w.cell? ⟨g, j, none⟩ = some (.int .u32 ((f j).toNat : Int))
theorem WCell.below {w w' : World} {g L : Nat} {f : Nat → UInt32} (h : WCell w g L f) (hb : Below w.heap.size w w') : WCell w' g L f :=
  ⟨Nat.lt_of_lt_of_le h.1 hb.size, fun j hj => (hb.cell (p := ⟨g, j, none⟩) h.1).trans (h.2 j hj)⟩
theorem wc_of {w : World} {B g L c : Nat} {e : TypeId} {f : Nat → UInt32} (h : w.ownsRow B e 1 (.slice (some ⟨g, 0, none⟩) L c) L (cells32 (upTo f L))) : WCell w g L f :=
  ⟨(h.lt g rfl).2, fun j hj => (h.cellAt j (by omega)).trans (cells32_at _ _ _ (upTo_at f L j hj))⟩
/-- keys, four words each, where a slice points. -/
def KeysAt (w : World) (kv : Value) (m : Nat) (K : Nat → UInt32) : Prop :=
  ∃ g c, kv = .slice (some ⟨g, 0, none⟩) m c ∧ m ≤ c ∧ c ≤ 9223372036854775807 ∧ g < w.heap.size ∧ ∀ i, i < 4 * m → w.cell? ⟨g, i, none⟩ = some (.int .u32 ((K i).toNat : Int))
theorem KeysAt.below {w w' : World} {kv : Value} {m : Nat} {K : Nat → UInt32} (h : KeysAt w kv m K) (hb : Below w.heap.size w w') : KeysAt w' kv m K := by
  obtain ⟨g, c, h1, h2, h3, h4, h5⟩ := h
  exact ⟨g, c, h1, h2, h3, Nat.lt_of_lt_of_le h4 hb.size, fun i hi => (hb.cell (p := ⟨g, i, none⟩) h4).trans (h5 i hi)⟩
theorem own_cap {w : World} {B g m c s : Nat} {e : TypeId} {xs : List Value} (h : w.ownsRow B e s (.slice (some ⟨g, 0, none⟩) m c) m xs) : ∃ cur, RAt w g e cur ∧ m ≤ c ∧ c ≤ 9223372036854775807 ∧ cur.size = c * s ∧ cur.toList.take (m * s) = xs ∧ B ≤ g := by
  rcases h.2 with ⟨hv, _⟩ | ⟨g', cap, cur, hv, hb, hg, hn, hm, hs, ht⟩
  · cases hv
  · cases hv
    exact ⟨cur, hg, hn, by unfold maxLen at hm; omega, hs, ht, hb⟩
theorem keys_of_own {w : World} {B g m c : Nat} {e : TypeId} {f : Nat → UInt32} {L : Nat} (hL : L = 4 * m) (h : w.ownsRow B e 4 (.slice (some ⟨g, 0, none⟩) m c) m (cells32 (upTo f L))) : KeysAt w (.slice (some ⟨g, 0, none⟩) m c) m f := by
  obtain ⟨cur, hr, h1, h2, -⟩ := own_cap h
  exact ⟨g, c, rfl, h1, h2, hr.lt, fun i hi => (h.cellAt i (by omega)).trans (cells32_at _ _ _ (upTo_at f L i (by omega)))⟩
theorem tl_zero : ((Tryz.prog.info? 126).bind (·.zero)).map (·.cells.size) = some 1282 := by kernel_rfl
/-- where the parts of a tableLock stand. -/
def tlPl (x : Nat) : Option (Nat × Nat) := (#[(0, 1024), (1024, 256), (1280, 1), (1281, 1)] : Array (Nat × Nat))[x]?
theorem exec_build4 {P : Program} {ev : Operand → Value} {o : Oper} {t : TypeId} {x0 x1 x2 x3 : Operand} {X : Array Value} {w : World} (v0 v1 v2 v3 : Value) (ho : o.op = .build t #[(0, x0), (1, x1), (2, x2), (3, x3)]) (h0 : ev x0 = v0) (h1 : ev x1 = v1) (h2 : ev x2 = v2) (h3 : ev x3 = v3)
    (h : (Instr.build t #[(0, v0), (1, v1), (2, v2), (3, v3)]).run P w = .ok (.agg X) w) : (execOp ev o).run P w = .ok (.value (.agg X)) w := by
  subst h0 h1 h2 h3
  have e : (#[(0, x0), (1, x1), (2, x2), (3, x3)] : Array (Nat × Operand)).map (fun (i, x) => (i, ev x)) = #[(0, ev x0), (1, ev x1), (2, ev x2), (3, ev x3)] := by simp
  unfold execOp
  simp only [ho]
  rw [e, Sem.run_bind, h]
  rfl
set_option maxRecDepth 100000 in
theorem build_tl (h : Nat → UInt32) (f : UInt8 → UInt8) (A : Option Addr) (m c : Nat) (d : Int) : ∃ X, TlX X h f (.slice A m c) d ∧ ∀ W, (Instr.build 126 #[(0, .agg (ar32 h 1024)), (1, .agg (tabOf f)), (2, .slice A m c), (3, .int .i64 d)]).run Tryz.prog W = .ok (.agg X) W := by
  cases hq : Tryz.prog.info? 126 with
  | none => have := tl_zero; rw [hq] at this; cases this
  | some i =>
    cases hz : i.zero with
    | none => have := tl_zero; rw [hq] at this; simp [hz] at this
    | some z =>
      have hZ : z.cells.size = 1282 := by have := tl_zero; rw [hq] at this; simpa [hz] using this
      refine ⟨_, tlx_put z.cells h f (.slice A m c) d hZ, fun W => ?_⟩
      have s1 : (putAt z.cells 0 (ar32 h 1024)).size = 1282 := by rw [putAt_size _ _ _ (by rw [ar32_size, hZ]; omega), hZ]
      have s2 : (putAt (putAt z.cells 0 (ar32 h 1024)) 1024 (tabOf f)).size = 1282 := by rw [putAt_size _ _ _ (by rw [tabOf_size, s1]; omega), s1]
      have s3 : (putAt (putAt (putAt z.cells 0 (ar32 h 1024)) 1024 (tabOf f)) 1280 #[.slice A m c]).size = 1282 := by rw [putAt_size _ _ _ (by rw [s2]; simp), s2]
      refine run_build_struct 126 _ _ i z #[(0, 1024), (1024, 256), (1280, 1), (1281, 1)] _ W Tryz.underlying126 hq hz (by kernel_rfl) ?_
      show Instr.fill tlPl z.cells [(0, .agg (ar32 h 1024)), (1, .agg (tabOf f)), (2, .slice A m c), (3, .int .i64 d)] = _
      rw [fill_at tlPl _ 0 0 1024 (.agg (ar32 h 1024)) (ar32 h 1024) _ rfl rfl (ar32_size h 1024) (by rw [hZ]; omega)]
      rw [fill_at tlPl _ 1 1024 256 (.agg (tabOf f)) (tabOf f) _ rfl rfl (tabOf_size f) (by show _ ≤ (putAt z.cells 0 (ar32 h 1024)).size; rw [s1]; omega)]
      rw [fill_at tlPl _ 2 1280 1 (.slice A m c) #[.slice A m c] _ rfl rfl rfl (by show _ ≤ (putAt (putAt z.cells 0 (ar32 h 1024)) 1024 (tabOf f)).size; rw [s2]; omega)]
      rw [fill_at tlPl _ 3 1281 1 (.int .i64 d) #[.int .i64 d] _ rfl rfl rfl (by show _ ≤ (putAt (putAt (putAt z.cells 0 (ar32 h 1024)) 1024 (tabOf f)) 1280 #[.slice A m c]).size; rw [s3]; omega)]
      rw [Instr.fill]
theorem exp_cells (s : ByteArray) (n : Nat) (h : kOf s n) (W : World) :
    Calls Tryz.prog 109 #[.string s] W fun e w' => ∃ g, e = .returned (.slice (some ⟨g, 0, none⟩) (kL n) (kL n)) ∧ WCell w' g (kL n) (ew s n) ∧ Below W.heap.size W w' :=
  (expanded_yes s n h W).mono fun e w' ⟨h1, h2, h3⟩ => ⟨_, h1, wc_of h2, h3⟩
theorem fours_keys (n g : Nat) (hn : n ≤ 8) (f : Nat → UInt32) (W : World) (hw : WCell W g (kL n) f) :
    Calls Tryz.prog 108 #[.slice (some ⟨g, 0, none⟩) (kL n) (kL n)] W fun e w' => ∃ g' c, e = .returned (.slice (some ⟨g', 0, none⟩) (n + 7) c) ∧ KeysAt w' (.slice (some ⟨g', 0, none⟩) (n + 7) c) (n + 7) f ∧ Below W.heap.size W w' :=
  (Fo.foursOf_impl g (kL n) (n + 6) f (by unfold kL; omega) (by unfold kL; omega) W hw.1 hw.2).mono fun e w' ⟨g', c, h1, h2, h3⟩ => ⟨g', c, h1, keys_of_own (by unfold kL; omega) h2, h3⟩
theorem fours_own (n g : Nat) (hn : n ≤ 8) (f : Nat → UInt32) (W : World) (hw : WCell W g (kL n) f) :
    Calls Tryz.prog 108 #[.slice (some ⟨g, 0, none⟩) (kL n) (kL n)] W fun e w' => ∃ g' c cur, e = .returned (.slice (some ⟨g', 0, none⟩) (n + 7) c) ∧ RAt w' g' 128 cur ∧ n + 7 ≤ c ∧ c ≤ 9223372036854775807 ∧ 4 * (n + 7) ≤ cur.size ∧ (∀ i, i < 4 * (n + 7) → cur[i]? = some (.int .u32 ((f i).toNat : Int))) ∧ W.heap.size ≤ g' ∧ Below W.heap.size W w' :=
  (Fo.foursOf_impl g (kL n) (n + 6) f (by unfold kL; omega) (by unfold kL; omega) W hw.1 hw.2).mono fun e w' ⟨g', c, h1, h2, h3⟩ => by
    obtain ⟨cur, hr, h4, h5, h6, h7, h8⟩ := own_cap h2
    refine ⟨g', c, cur, h1, hr, h4, h5, by omega, fun i hi => ?_, h8, h3⟩
    have e1 : (cur.toList.take ((n + 7) * 4))[i]? = cur[i]? := by rw [List.getElem?_take_of_lt (by omega)]; simp
    rw [← e1, h7]
    exact cells32_at _ _ _ (upTo_at f (kL n) i (by unfold kL; omega))
theorem fac4_cells {W : World} {g : Nat} {f : Nat → UInt8} (h : Fac4 W g f) : W.cell? ⟨g, 0, none⟩ = some (.int .u8 ((f 0).toNat : Int)) ∧ W.cell? ⟨g, 1, none⟩ = some (.int .u8 ((f 1).toNat : Int)) ∧ W.cell? ⟨g, 2, none⟩ = some (.int .u8 ((f 2).toNat : Int)) ∧ W.cell? ⟨g, 3, none⟩ = some (.int .u8 ((f 3).toNat : Int)) := h.2
end Go.Proofs.YtbcaldhcgoclgaaGreatDoor
set_option linter.unusedVariables false
set_option linter.unusedSimpArgs false
namespace Go.Proofs.YtbcaldhcgoclgaaGreatDoor
open Go Go.RowKit
attribute [local go_sem ↓] Go.wp_at_zero Go.wp_at_succ

set_option maxRecDepth 100000 in
set_option maxHeartbeats 3200000 in
theorem keysThere_impl (s : ByteArray) (n : Nat) (hn : kOf s n) (w : World) :
    Calls Tryz.prog 74 #[.string s] w fun e w' => ∃ g c, e = .returned (.slice (some ⟨g, 0, none⟩) (n + 7) c) ∧ KeysAt w' (.slice (some ⟨g, 0, none⟩) (n + 7) c) (n + 7) (ew s n) ∧ Below w.heap.size w w' := by
  have hle := hn.le
  have CE := Lib.hid (exp_cells s n hn w)
  have CF := fun g W hw => Lib.hid (fours_keys n g (by omega) (ew s n) W hw)
  generalize ew s n = fw at *
  generalize kL n = L at *
  clear hle
  go_enter Tryz.func74, Tryz.ntmps74
  go_wp2_with fail
  refine CE.out.mono ?_; rintro e w1 ⟨gE, rfl, hw, hb1⟩
  have HB1 := Lib.hid hb1
  have HW := Lib.hid hw
  clear hb1 hw
  go_wp2_with fail
  refine (CF _ _ HW.out).out.mono ?_; rintro e w2 ⟨g, c, rfl, hk, hb2⟩
  have HB2 := Lib.hid (HB1.out.trans (hb2.mono HB1.out.size))
  have HK := Lib.hid hk
  clear hb2 hk
  go_wp2
  exact ⟨rfl, _, results_tmp rfl _ _ _, g, c, rfl, HK.out, HB2.out⟩
end Go.Proofs.YtbcaldhcgoclgaaGreatDoor
set_option linter.unusedVariables false
set_option linter.unusedSimpArgs false
namespace Go.Proofs.YtbcaldhcgoclgaaGreatDoor
open Go Go.RowKit
attribute [local go_sem ↓] Go.wp_at_zero Go.wp_at_succ

set_option maxRecDepth 100000 in
set_option maxHeartbeats 12800000 in
theorem lockTables_impl (s : ByteArray) (n : Nat) (hn : kOf s n) (w : World) (hf : Fac4 w 0 mxF) :
    Calls Tryz.prog 72 #[.string s] w fun e w' => ∃ p X kv, e = .returned (.pointer (some ⟨p, 0, none⟩)) ∧ RAt w' p 126 X ∧ TlX X (tbF sbox mxF) sbox kv 1 ∧ KeysAt w' kv (n + 7) (ew s n) ∧ Below w.heap.size w w' := by
  have hle := hn.le
  have CB := fun W => Lib.hid (subBox_any W)
  have CT := fun W => Lib.hid (tablesOf_impl sbox mxF W)
  have CK := fun W (_ : Below w.heap.size w W) => Lib.hid (keysThere_impl s n hn W)
  have BL := Lib.hid (fun A m c => build_tl (tbF sbox mxF) sbox A m c 1)
  simp only [fac] at CT
  have HSF : Hid (∀ W, Below w.heap.size w W → W.cell? ⟨0, 0, none⟩ = some (.int .u8 ((mxF 0).toNat : Int)) ∧ W.cell? ⟨0, 1, none⟩ = some (.int .u8 ((mxF 1).toNat : Int)) ∧ W.cell? ⟨0, 2, none⟩ = some (.int .u8 ((mxF 2).toNat : Int)) ∧ W.cell? ⟨0, 3, none⟩ = some (.int .u8 ((mxF 3).toNat : Int))) := Lib.hid fun W hW => fac4_cells (hf.below hW hf.1)
  have HB0 : Hid (Below w.heap.size w w.drew) := Lib.hid (Below.refl w.heap.size w).drew
  have hS0 := HSF.out w.drew HB0.out
  obtain ⟨TX, hTX⟩ : ∃ TX : Value → Array Value → Prop, (fun kv X => TlX X (tbF sbox mxF) sbox kv 1) = TX := ⟨_, rfl⟩
  have HBL : Hid (∀ A m c, ∃ X, TX (.slice A m c) X ∧ ∀ W, (Instr.build 126 #[(0, .agg (ar32 (tbF sbox mxF) 1024)), (1, .agg (tabOf sbox)), (2, .slice A m c), (3, .int .i64 1)]).run Tryz.prog W = .ok (.agg X) W) := Lib.hid (by rw [← hTX]; exact BL.out)
  have HTX : Hid (∀ kv X, TX kv X → TlX X (tbF sbox mxF) sbox kv 1) := Lib.hid (by rw [← hTX]; exact fun _ _ h => h)
  clear BL hTX hf hle
  generalize ar32 (tbF sbox mxF) 1024 = TT at *
  generalize tabOf sbox = TB at *
  generalize ew s n = fw at *
  generalize mxF = fm at *
  go_enter Tryz.func72, Tryz.ntmps72
  go_wp2
  refine wp_region_held_drew (S := fun w' => w'.cell? ⟨0, 0, none⟩ = some (.int .u8 ((fm 0).toNat : Int)) ∧ w'.cell? ⟨0, 1, none⟩ = some (.int .u8 ((fm 1).toNat : Int)) ∧ w'.cell? ⟨0, 2, none⟩ = some (.int .u8 ((fm 2).toNat : Int)) ∧ w'.cell? ⟨0, 3, none⟩ = some (.int .u8 ((fm 3).toNat : Int))) (by kernel_rfl) hS0 (fun hS => ?_)
  refine tk 1 (v := ?_) ?_ hS ?_
  rotate_left
  · intro w hSw
    obtain ⟨s0, s1, s2, s3⟩ := hSw
    go_simp
    first | done | with_reducible rfl
  try simp only [lay]
  refine tk 4 (v := ?_) ?_ hS ?_
  rotate_left
  · intro w hSw
    obtain ⟨s0, s1, s2, s3⟩ := hSw
    go_simp
    first | done | with_reducible rfl
  try simp only [lay]
  refine wpAnyH_ready (rs := [0]) (by kernel_rfl) (by simp) ?_
  refine AllReadyH.cons rfl (fun K hK => ?_) (AllReadyH.nil)
  go_simp
  refine (CB _).out.mono ?_; rintro e v1 ⟨rfl, hb⟩
  have HB1 := Lib.hid (HB0.out.trans (hb.mono HB0.out.size))
  clear hb
  refine hK.out _ _ (HSF.out _ HB1.out) (fun hS1 => ?_)
  clear hK K
  try simp only [lay]
  refine wpAnyH_ready (rs := [2]) (by kernel_rfl) (by simp) ?_
  refine AllReadyH.cons rfl (fun K hK => ?_) (AllReadyH.nil)
  go_simp
  refine (CT _).out.mono ?_; rintro e v2 ⟨rfl, hb⟩
  have HB2 := Lib.hid (HB1.out.trans (hb.mono HB1.out.size))
  clear hb
  refine hK.out _ _ (HSF.out _ HB2.out) (fun hS2 => ?_)
  clear hK K
  try simp only [lay]
  refine wpAnyH_ready (rs := [3]) (by kernel_rfl) (by simp) ?_
  refine AllReadyH.cons rfl (fun K hK => ?_) (AllReadyH.nil)
  go_simp
  refine (CB _).out.mono ?_; rintro e v3 ⟨rfl, hb⟩
  have HB3 := Lib.hid (HB2.out.trans (hb.mono HB2.out.size))
  clear hb
  refine hK.out _ _ (HSF.out _ HB3.out) (fun hS3 => ?_)
  clear hK K
  try simp only [lay]
  refine wpAnyH_ready (rs := [5]) (by kernel_rfl) (by simp) ?_
  refine AllReadyH.cons rfl (fun K hK => ?_) (AllReadyH.nil)
  go_simp
  refine (CK _ HB3.out).out.mono ?_; rintro e v4 ⟨gK, cK, rfl, hk, hb⟩
  have HB4 := Lib.hid (HB3.out.trans (hb.mono HB3.out.size))
  have HK4 := Lib.hid hk
  clear hk
  clear hb
  refine hK.out _ _ (HSF.out _ HB4.out) (fun hS4 => ?_)
  clear hK K
  try simp only [lay]
  obtain ⟨X, hX, hbuild⟩ := HBL.out (some ⟨gK, 0, none⟩) (n + 7) cK
  have HX := Lib.hid (HTX.out _ _ hX)
  clear hX
  refine wpAnyH_take (i := 6) (v := .agg X) rfl (by kernel_rfl) (by kernel_rfl) (by kernel_rfl) (fun _ _ _ h => h) (Or.inl ⟨by kernel_rfl, ?_⟩) hS4 ?_
  · intro w hSw
    exact exec_build4 (.agg TT) (.agg TB) (.slice (some ⟨gK, 0, none⟩) (n + 7) cK) (.int .i64 1) rfl rfl rfl rfl rfl (hbuild w)
  try simp only [lay]
  clear hbuild
  have HA := Lib.hid (HB4.out.trans ((al_up v4 (.cells X 126)).mono HB4.out.size))
  refine wpAnyH_ready (rs := [7]) (by kernel_rfl) (by simp) ?_
  refine AllReadyH.cons rfl (fun K hK => ?_) AllReadyH.nil
  go_simp
  refine hK.out _ _ (HSF.out _ HA.out) (fun hS9 => ?_)
  clear hK K
  try simp only [lay]
  refine tk 8 (v := ?_) ?_ hS9 ?_
  rotate_left
  · intro w hSw
    go_simp
    first | done | with_reducible rfl
  try simp only [lay]
  refine wpAnyH_done (by kernel_rfl) ?_ _
  have HR := Lib.hid (RAt.new v4 126 X)
  have HKF := Lib.hid (HK4.out.below (al_up v4 (.cells X 126)))
  clear hS hS9
  go_wp2
  go_ret
  exact ⟨_, X, _, rfl, HR.out, HX.out, HKF.out, HA.out⟩
end Go.Proofs.YtbcaldhcgoclgaaGreatDoor
