/-
  The small steps of a passage that add a key; all steps together.
-/
import Derived.Test.YtipcgdhjlpjcaaaGreatDoorPassC
set_option linter.unusedVariables false
set_option linter.unusedSimpArgs false
namespace Go.Proofs.YtipcgdhjlpjcaaaGreatDoor
open Go Go.RowKit
attribute [local go_sem ↓] Go.wp_at_zero Go.wp_at_succ

/-- the keys from lo on, n of them, lie where kv points. -/
def KeysIn (w : World) (kv : Value) (K : Nat → ByteArray) (lo n B p : Nat) : Prop :=
  ∃ g o c, kv = .slice (some ⟨g, o, none⟩) n c ∧ n ≤ c ∧ c ≤ 9223372036854775807 ∧ g < B ∧ g ≠ p ∧ ∀ i, i < n → w.rangeAt g (o + 16 * i) (cells8 (upTo (byteOf (K (lo + i))) 16))
theorem rangeAt_block {w w' : World} {b o : Nat} {cs : List Value} (h : w.rangeAt b o cs) (hb : w'.heap[b]? = w.heap[b]?) : w'.rangeAt b o cs := fun j v hv => (World.cell?_of_block (a := ⟨b, o + j, none⟩) hb).trans (h j v hv)
theorem KeysIn.moved {w w' : World} {kv : Value} {K : Nat → ByteArray} {lo n B p : Nat} (h : KeysIn w kv K lo n B p) (hm : Moved p B w w') : KeysIn w' kv K lo n B p := by
  obtain ⟨g, o, c, h1, h2, h3, h4, h5, h6⟩ := h
  exact ⟨g, o, c, h1, h2, h3, h4, h5, fun i hi => rangeAt_block (h6 i hi) (hm.block g h4 h5)⟩
set_option maxRecDepth 100000 in
set_option maxHeartbeats 1600000 in
theorem addFirst_step (p B : Nat) (g o n c : Nat) (sv uv bv : Value) (f k : Nat → UInt8) (m : Nat) (l : List Value) (hm : m ≤ 1000) (w : World) (hp : PsAt w p (.slice (some ⟨g, o, none⟩) (n + 1) c) f sv uv bv) (ho : w.ownsRow B 9 1 bv m l) (hpB : p < B) (hB : B ≤ w.heap.size)
    (hc : n + 1 ≤ c) (hc2 : c ≤ 9223372036854775807) (hr : w.rangeAt g o (cells8 (upTo k 16))) :
    Calls Tryz.prog 65 #[.pointer (some ⟨p, 0, none⟩)] w fun e w' => e = .returned (.tuple #[]) ∧ ∃ bv' o' c', PsAt w' p (.slice (some ⟨g, o', none⟩) n c') (fun i => f i ^^^ k i) sv uv bv' ∧ n ≤ c' ∧ c' ≤ 9223372036854775807 ∧ (0 < n → o' = o + 16) ∧ w'.ownsRow B 9 1 bv' (m + 1) (l ++ [.string (txt (fun i => f i ^^^ k i) 16)]) ∧ Moved p B w w' ∧ w.heap.size ≤ w'.heap.size := by
  have hi := st_info16
  have hlen : (Tryz.prog.info? 48).map (·.size) = some (cells8 (upTo k 16)).length := by rw [cells8_length, upTo_length]; exact hi
  have HA := Lib.hid (add_impl p B _ sv uv bv f k m l hm w hp ho hpB hB)
  have c0 := hp.c0
  have z0 := hp.fz 0
  unfold stA at HA
  obtain ⟨L, hL⟩ : ∃ L, cells8 (upTo k 16) = L := ⟨_, rfl⟩
  rw [hL] at hr hlen HA
  have hn1 : ((n + 1 : Nat) : Int) ≤ (c : Int) := by omega
  have hn2 : (c : Int) ≤ 9223372036854775807 := by omega
  clear hL hp ho
  go_enter Tryz.func65, Tryz.ntmps65
  go_wp2_with (refine wpList_load_mid rfl 48 _ rfl g o rfl L _ hr Tryz.underlying48 rfl hlen ?_)
  refine HA.out.mono ?_; rintro e w1 ⟨rfl, bv', q1, q2, q3, q4⟩
  have d0 := q1.c0
  have dz := q1.fz 0
  have G1 := fun v => Lib.hid (q1.keys v)
  have G2 := fun v => Lib.hid (own_far q2 hpB 0 v)
  have G3 := fun v => Lib.hid (q3.setCell 0 v)
  have G4 : ∀ v, Hid (w.heap.size ≤ (w1.setCell ⟨p, 0, none⟩ v).heap.size) := fun v => Lib.hid (by simpa [World.setCell] using q4)
  clear q1 q2 q3 q4 HA hr hlen c0 z0
  go_wp2
  all_goals go_end0
  all_goals exact ⟨rfl, bv', _, _, (G1 _).out, by omega, by omega, by omega, (G2 _).out, (G3 _).out, (G4 _).out⟩
set_option maxRecDepth 100000 in
set_option maxHeartbeats 1600000 in
theorem addLast_step (p B : Nat) (g o n c : Nat) (sv uv bv : Value) (f k : Nat → UInt8) (m : Nat) (l : List Value) (hm : m ≤ 1000) (w : World) (hp : PsAt w p (.slice (some ⟨g, o, none⟩) (n + 1) c) f sv uv bv) (ho : w.ownsRow B 9 1 bv m l) (hpB : p < B) (hB : B ≤ w.heap.size)
    (hn : n ≤ 1000) (hc : n + 1 ≤ c) (hc2 : c ≤ 9223372036854775807) (hr : w.rangeAt g (o + n * 16) (cells8 (upTo k 16))) :
    Calls Tryz.prog 55 #[.pointer (some ⟨p, 0, none⟩)] w fun e w' => e = .returned (.tuple #[]) ∧ ∃ bv', PsAt w' p (.slice (some ⟨g, o, none⟩) n c) (fun i => f i ^^^ k i) sv uv bv' ∧ w'.ownsRow B 9 1 bv' (m + 1) (l ++ [.string (txt (fun i => f i ^^^ k i) 16)]) ∧ Moved p B w w' ∧ w.heap.size ≤ w'.heap.size := by
  have hi := st_info16
  have hlen : (Tryz.prog.info? 48).map (·.size) = some (cells8 (upTo k 16)).length := by rw [cells8_length, upTo_length]; exact hi
  have HA := Lib.hid (add_impl p B _ sv uv bv f k m l hm w hp ho hpB hB)
  have c0 := hp.c0
  have z0 := hp.fz 0
  unfold stA at HA
  obtain ⟨L, hL⟩ : ∃ L, cells8 (upTo k 16) = L := ⟨_, rfl⟩
  rw [hL] at hr hlen HA
  have hn1 : ((n + 1 : Nat) : Int) ≤ (c : Int) := by omega
  have hn3 : (n : Int) ≤ (c : Int) := by omega
  have hn4 : (n : Int) ≤ 1000 := by omega
  have hn5 : n ≤ c := by omega
  have hn2 : (c : Int) ≤ 9223372036854775807 := by omega
  clear hL hp ho
  go_enter Tryz.func55, Tryz.ntmps55
  go_wp2_with (refine wpList_load_mid rfl 48 _ rfl g (o + n * 16) rfl L _ hr Tryz.underlying48 rfl hlen ?_)
  refine HA.out.mono ?_; rintro e w1 ⟨rfl, bv', q1, q2, q3, q4⟩
  have d0 := q1.c0
  have dz := q1.fz 0
  have G1 := fun v => Lib.hid (q1.keys v)
  have G2 := fun v => Lib.hid (own_far q2 hpB 0 v)
  have G3 := fun v => Lib.hid (q3.setCell 0 v)
  have G4 : ∀ v, Hid (w.heap.size ≤ (w1.setCell ⟨p, 0, none⟩ v).heap.size) := fun v => Lib.hid (by simpa [World.setCell] using q4)
  clear q1 q2 q3 q4 HA hr hlen c0 z0
  go_wp2
  all_goals go_end0
  all_goals exact ⟨rfl, bv', (G1 _).out, (G2 _).out, (G3 _).out, (G4 _).out⟩

theorem mapT_byte (f : UInt8 → UInt8) (s : ByteArray) (i : Nat) (h : i < s.size) : byteOf (mapT f s) i = f (byteOf s i) := by
  have hl : i < s.data.toList.length := by simpa using h
  unfold byteOf mapT
  rw [List.getD_eq_getElem?_getD, List.getD_eq_getElem?_getD]
  simp only [List.getElem?_map, List.getElem?_eq_getElem hl, Option.map_some, Option.getD_some]
theorem own_moved {w w' : World} {B p e n size : Nat} {v : Value} {xs : List Value} (h : w.ownsRow B e size v n xs) (hp : p < B) (hm : Moved p w.heap.size w w') : w'.ownsRow B e size v n xs := by
  refine ⟨h.1, ?_⟩
  rcases h.2 with hn | ⟨g, cap, cur, hv, hB, hg, rest⟩
  · exact .inl hn
  · exact .inr ⟨g, cap, cur, hv, hB, (hm.block g (Array.getElem?_eq_some_iff.1 hg).1 (by omega)).trans hg, rest⟩
theorem Moved.down {p B B2 : Nat} {w w' : World} (h : Moved p B2 w w') (hB : B ≤ B2) : Moved p B w w' := ⟨h.os, h.tape, h.output, h.size, fun k hk hn => h.block k (by omega) hn⟩
theorem MxF.moved {p B : Nat} {w w' : World} (h : MxF w) (hm : Moved p B w w') (hp : 0 < p) (hB : p < B) : MxF w' := by
  have hb := hm.block 0 (by omega) (by omega)
  exact ⟨Nat.lt_of_lt_of_le h.1 hm.size, (World.cell?_of_block (a := ⟨_, 0, none⟩) hb).trans h.2.1, (World.cell?_of_block (a := ⟨_, 1, none⟩) hb).trans h.2.2.1, (World.cell?_of_block (a := ⟨_, 2, none⟩) hb).trans h.2.2.2.1, (World.cell?_of_block (a := ⟨_, 3, none⟩) hb).trans h.2.2.2.2⟩
/-- a passage on its way: what it holds lies in memory. -/
def PIn (K : Nat → ByteArray) (p B : Nat) (w : World) (q : Pas) : Prop :=
  ∃ kv bv q1 q2, PsAt w p kv (byteOf q.S) (reader q1) (reader q2) bv ∧ KeysIn w kv K q.lo q.n B p ∧ (BoxAt w q1 sbox ∧ q1 < B ∧ q1 ≠ p) ∧ (BoxAt w q2 ubox ∧ q2 < B ∧ q2 ≠ p) ∧ w.ownsRow B 9 1 bv q.bs.length (q.bs.map .string) ∧ (p < B ∧ B ≤ w.heap.size) ∧ (MxF w ∧ 0 < p)
theorem pin_moved {K : Nat → ByteArray} {p B : Nat} {w w' : World} {kv bv : Value} {q1 q2 lo n : Nat} (S : ByteArray) (bs : List ByteArray) (hps : PsAt w' p kv (byteOf S) (reader q1) (reader q2) bv) (hm : Moved p B w w') (hk : KeysIn w' kv K lo n B p) (hb1 : BoxAt w q1 sbox ∧ q1 < B ∧ q1 ≠ p) (hb2 : BoxAt w q2 ubox ∧ q2 < B ∧ q2 ≠ p)
    (ho : w'.ownsRow B 9 1 bv bs.length (bs.map .string)) (hB : p < B ∧ B ≤ w.heap.size) (hf : MxF w ∧ 0 < p) : PIn K p B w' ⟨lo, n, S, bs⟩ :=
  ⟨kv, bv, q1, q2, hps, hk, ⟨(hm.block q1 hb1.2.1 hb1.2.2).trans hb1.1, hb1.2⟩, ⟨(hm.block q2 hb2.2.1 hb2.2.2).trans hb2.1, hb2.2⟩, ho, ⟨hB.1, Nat.le_trans hB.2 hm.size⟩, hf.1.moved hm hf.2 hB.1, hf.2⟩
def PStp.fn : PStp → Nat
  | .addF => 65
  | .addL => 55
  | .box => 66
  | .unbox => 57
  | .shift => 67
  | .unshift => 56
  | .mix => 68
  | .unmix => 59
theorem pstep (K : Nat → ByteArray) (T p B : Nat) (s : PStp) (q : Pas) (hT : T ≤ 1000) (hq : q.fits T) (hok : s.ok q) (w : World) (h : PIn K p B w q) :
    Calls Tryz.prog s.fn #[.pointer (some ⟨p, 0, none⟩)] w fun e w' => e = .returned (.tuple #[]) ∧ PIn K p B w' (s.run K q) ∧ Moved p B w w' := by
  obtain ⟨kv, bv, q1, q2, hps, hk, hb1, hb2, ho, hB, hf⟩ := h
  obtain ⟨f1, f2, f3⟩ := hq
  have same : ∀ (S : ByteArray) (w' : World), PsAt w' p kv (byteOf S) (reader q1) (reader q2) bv → Moved p w.heap.size w w' → PIn K p B w' ⟨q.lo, q.n, S, q.bs⟩ ∧ Moved p B w w' := fun S w' g1 g2 =>
    ⟨pin_moved S q.bs g1 (g2.down hB.2) (hk.moved (g2.down hB.2)) hb1 hb2 (own_moved ho hB.1 g2) hB hf, g2.down hB.2⟩
  cases s with
  | addF =>
    have hn := hok rfl
    obtain ⟨n, hn2⟩ : ∃ n, q.n = n + 1 := ⟨q.n - 1, by omega⟩
    obtain ⟨g, o, c, rfl, e1, e2, e3, e4, e5⟩ := hk
    rw [hn2] at hps e1 e5
    have h0 := e5 0 (by omega)
    refine (addFirst_step p B g o n c (reader q1) (reader q2) bv (byteOf q.S) (byteOf (K q.lo)) q.bs.length _ (by omega) w hps ho hB.1 hB.2 e1 e2 (by simpa using h0)).mono ?_
    rintro e w1 ⟨rfl, bv', o', c', r1, r2, r3, r4, r5, r6, r7⟩
    refine ⟨rfl, ?_, r6⟩
    have hn3 : q.n - 1 = n := by omega
    show PIn K p B w1 ⟨q.lo + 1, q.n - 1, xorS q.S (K q.lo), q.bs ++ [xorS q.S (K q.lo)]⟩
    rw [hn3]
    refine pin_moved _ _ (r1.congr fun i hi => (xorS_byte _ _ i hi).symm) r6 ⟨g, o', c', rfl, r2, r3, e3, e4, fun i hi => ?_⟩ hb1 hb2 ?_ hB hf
    · rw [r4 (by omega)]
      have := rangeAt_block (e5 (i + 1) (by omega)) (r6.block g e3 e4)
      rw [show o + 16 * (i + 1) = o + 16 + 16 * i by omega, show q.lo + (i + 1) = q.lo + 1 + i by omega] at this
      exact this
    · rw [List.length_append, List.map_append]; exact r5
  | addL =>
    have hn := hok rfl
    obtain ⟨n, hn2⟩ : ∃ n, q.n = n + 1 := ⟨q.n - 1, by omega⟩
    obtain ⟨g, o, c, rfl, e1, e2, e3, e4, e5⟩ := hk
    rw [hn2] at hps e1 e5
    have h0 := e5 n (by omega)
    refine (addLast_step p B g o n c (reader q1) (reader q2) bv (byteOf q.S) (byteOf (K (q.lo + n))) q.bs.length _ (by omega) w hps ho hB.1 hB.2 (by omega) e1 e2 (by rw [Nat.mul_comm]; exact h0)).mono ?_
    rintro e w1 ⟨rfl, bv', r1, r5, r6, r7⟩
    refine ⟨rfl, ?_, r6⟩
    have hn3 : q.n - 1 = n := by omega
    show PIn K p B w1 ⟨q.lo, q.n - 1, xorS q.S (K (q.lo + (q.n - 1))), q.bs ++ [xorS q.S (K (q.lo + (q.n - 1)))]⟩
    rw [hn3]
    refine pin_moved _ _ (r1.congr fun i hi => (xorS_byte _ _ i hi).symm) r6 ⟨g, o, c, rfl, by omega, e2, e3, e4, fun i hi => ?_⟩ hb1 hb2 ?_ hB hf
    · exact rangeAt_block (e5 i (by omega)) (r6.block g e3 e4)
    · rw [List.length_append, List.map_append]; exact r5
  | box =>
    refine (boxBytes_step p w.heap.size q1 kv (reader q2) bv (byteOf q.S) _ w hps (Nat.le_refl _) (Lib.hid (changed_impl sbox (byteOf q.S) q1 w.drew hb1.1))).mono ?_
    rintro e w1 ⟨rfl, r1, r2, r3⟩
    exact ⟨rfl, same _ w1 (r1.congr fun i hi => (mapT_byte _ _ i (by omega)).symm) r2⟩
  | unbox =>
    refine (unboxBytes_step p w.heap.size q2 kv (reader q1) bv (byteOf q.S) _ w hps (Nat.le_refl _) (Lib.hid (changed_impl ubox (byteOf q.S) q2 w.drew hb2.1))).mono ?_
    rintro e w1 ⟨rfl, r1, r2, r3⟩
    exact ⟨rfl, same _ w1 (r1.congr fun i hi => (mapT_byte _ _ i (by omega)).symm) r2⟩
  | shift =>
    refine (shiftRows_step p w.heap.size kv (reader q1) (reader q2) bv (byteOf q.S) _ w hps (Nat.le_refl _) (Lib.hid (shifted_impl (byteOf q.S) w))).mono ?_
    rintro e w1 ⟨rfl, r1, r2, r3⟩
    exact ⟨rfl, same _ w1 (r1.congr fun i hi => (shS_byte 1 _ i hi).symm) r2⟩
  | unshift =>
    refine (unshiftRows_step p w.heap.size kv (reader q1) (reader q2) bv (byteOf q.S) _ w hps (Nat.le_refl _) (Lib.hid (unshifted_impl (byteOf q.S) w))).mono ?_
    rintro e w1 ⟨rfl, r1, r2, r3⟩
    exact ⟨rfl, same _ w1 (r1.congr fun i hi => (shS_byte 3 _ i hi).symm) r2⟩
  | mix =>
    refine (mixColumns_step p w.heap.size kv (reader q1) (reader q2) bv (byteOf q.S) _ w hps (Nat.le_refl _) (Lib.hid (smixed_impl (byteOf q.S) w hf.1))).mono ?_
    rintro e w1 ⟨rfl, r1, r2, r3⟩
    exact ⟨rfl, same _ w1 (r1.congr fun i hi => (ofW_byte (fun j => mxW (colW q.S j)) i hi).symm) r2⟩
  | unmix =>
    refine (unmixColumns_step p w.heap.size kv (reader q1) (reader q2) bv (byteOf q.S) _ w hps (Nat.le_refl _) (Lib.hid (sunmixed_impl (byteOf q.S) w hf.1))).mono ?_
    rintro e w1 ⟨rfl, r1, r2, r3⟩
    exact ⟨rfl, same _ w1 (r1.congr fun i hi => (ofW_byte (fun j => unmixW (colW q.S j)) i hi).symm) r2⟩
end Go.Proofs.YtipcgdhjlpjcaaaGreatDoor
