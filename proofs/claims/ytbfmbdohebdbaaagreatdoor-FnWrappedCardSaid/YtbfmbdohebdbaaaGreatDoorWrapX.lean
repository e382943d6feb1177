/-
  Contracts and facts that the laws of this seat use: EngT, WrapJ, WrapU, IsC, WrapK.
-/
import Derived.Test.YtbfmbdohebdbaaaGreatDoorEng
import Derived.Test.YtbfmbdohebdbaaaGreatDoorLockSp
import Derived.Test.YtbfmbdohebdbaaaGreatDoorWrapW
import Derived.Test.YtbfmbdohebdbaaaGreatDoorEncG
set_option linter.unusedVariables false
set_option linter.unusedSimpArgs false
namespace Go.Proofs.YtbfmbdohebdbaaaGreatDoor
open Go Go.RowKit
attribute [local go_sem ↓] Go.wp_at_zero Go.wp_at_succ

/-- an engine by words, and what of memory it hangs on. -/
def EngT (w : World) (v : Value) (T : ByteArray → ByteArray) : Prop :=
  ∃ (p : Nat) (X : Array Value) (kv : Value) (m : Nat) (K : Nat → UInt32), v = .iface 80 (.agg #[.pointer (some ⟨p, 0, none⟩)]) ∧ RAt w p 130 X ∧ KeysAt w kv m K ∧ 0 < m ∧
    ∀ V, RAt V p 130 X → KeysAt V kv m K → EngAt V v T
theorem EngT.eng {w : World} {v : Value} {T : ByteArray → ByteArray} (h : EngT w v T) : EngAt w v T := by
  obtain ⟨p, X, kv, m, K, hv, h1, h2, h3, h4⟩ := h
  exact h4 w h1 h2
theorem EngT.up {w W : World} {v : Value} {T : ByteArray → ByteArray} (h : EngT w v T) (hb : Below w.heap.size w W) : EngT W v T := by
  obtain ⟨p, X, kv, m, K, hv, h1, h2, h3, h4⟩ := h
  exact ⟨p, X, kv, m, K, hv, h1.up hb, h2.below hb, h3, h4⟩
theorem EngT.drew {w : World} {v : Value} {T : ByteArray → ByteArray} (h : EngT w v T) : EngT w.drew v T := h
/-- a cell of a row of texts is set. -/
theorem EngT.set {w : World} {v : Value} {T : ByteArray → ByteArray} {B g n c j : Nat} {x : Value} {xs : List ByteArray} (h : EngT w v T) (ho : w.ownsRow B 9 1 (.slice (some ⟨g, 0, none⟩) n c) n (xs.map .string)) (hn : 0 < n) : EngT (w.setCell ⟨g, j, none⟩ x) v T := by
  obtain ⟨p, X, kv, m, K, hv, h1, h2, h3, h4⟩ := h
  obtain ⟨cur, hr, -⟩ := own_cap ho
  have hpg : p ≠ g := by
    rintro rfl
    have e := Option.some.inj (h1.symm.trans hr)
    injection e with _ e2 _
    exact absurd e2 (by decide)
  obtain ⟨q, c', rfl, k1, k2, k3, k4⟩ := h2
  have hqg : q ≠ g := by
    rintro rfl
    have c0 := k4 0 (by omega)
    have hl : (xs.map Value.string).length = n := by have := ho.1; omega
    rw [ho.cellAt 0 (by omega), List.getElem?_map] at c0
    cases h : xs[0]? with
    | none => rw [h] at c0; cases c0
    | some y => rw [h] at c0; cases c0
  refine ⟨p, X, _, m, K, hv, h1.far j x hpg, ⟨q, c', rfl, k1, k2, ?_, fun i hi => ?_⟩, h3, h4⟩
  · rw [World.size_setCell]; exact k3
  · exact (World.cell?_of_block (a := ⟨q, i, none⟩) (heap_setCell_other w ⟨g, j, none⟩ q x hqg)).trans (k4 i hi)
theorem et_each (T : ByteArray → ByteArray) (b : ByteArray) (hb : b.size = 16) (hT : (T b).size = 16) : txt (eachB T (byteOf b)) (16 * 1) = T b := by
  refine b_ext _ _ 16 (txt_size _ _) hT fun i hi => ?_
  rw [txt_byte _ _ _ (by omega)]
  unfold eachB
  have h0 : i / 16 = 0 := by omega
  have h1 : i % 16 = i := by omega
  have e : blk (byteOf b) 0 = b := by
    refine Eq.trans (txt_ext _ (byteOf b) 16 fun k hk => ?_) (txt_own b 16 hb)
    rw [Nat.mul_zero, Nat.zero_add]
  rw [h0, h1, e]
theorem et_turn (back : Bool) (key b : ByteArray) (hk : kOk key) (hb : b.size = 16) (v : Value) (w : World) (he : EngT w v (wayT back key)) :
    Calls Tryz.prog 40 #[v, .string b] w fun e w' => e = .returned (.string (wayT back key b)) ∧ Below w.heap.size w w' := by
  have h := eng_turn back key b 1 (by omega) (by omega) v w he.eng w rfl
  rw [et_each _ b hb (wayT_size back key b hk hb)] at h
  exact h
set_option maxRecDepth 100000 in
theorem lockTab (key : ByteArray) (hk : kOk key) (w : World) (hm : Fac4 w 1 mxF) :
    Calls Tryz.prog 39 #[.int .i64 1, .string key] w fun e w' => ∃ v, e = .returned v ∧ EngT w' v (wayT false key) ∧ Below w.heap.size w w' := by
  obtain ⟨n, hn⟩ := hk.of
  have hle := hn.le
  have CT := Lib.hid (lockTables_impl key n hn w hm)
  clear hm
  go_enter Tryz.func39, Tryz.ntmps39
  go_wp2_with fail
  refine CT.out.mono ?_; rintro e w1 ⟨p, X, kv, rfl, h1, h2, h3, h4⟩
  have HE : Hid (EngT w1 (.iface 80 (.agg #[.pointer (some ⟨p, 0, none⟩)])) (wayT false key)) := Lib.hid ⟨p, X, kv, n + 7, _, rfl, h1, h3, by omega, fun V q1 q2 => ⟨_, _, _, 1, rfl, ⟨by omega, by omega⟩, nil_table _, meth_table _, enters_of Tryz.func228 (by kernel_rfl) rfl, atOnce_table _,
    fun v g q c W hW hq0 hq1 hqc hst => tbThrough_impl p W v (wayT false key) (fun b hb => wayT_size false key b hn.ok hb) (fun b hb W2 hW2 => by
      have H := through_impl p b hb X sbox kv 1 (by omega) tab h2 (n + 5) (by omega) (ew key n) W2 (q1.up (hW.trans (hW2.mono hW.size))) (q2.below (hW.trans (hW2.mono hW.size)))
      have e1 := lock_words key n b hb
      rw [lock_T key n hn b hb, ← e1]; exact H) g q c (by omega) hqc hst⟩⟩
  have HB := Lib.hid h4
  clear h1 h2 h3 h4 CT
  go_wp2
  go_ret
  exact ⟨_, rfl, HE.out, HB.out⟩
set_option maxRecDepth 100000 in
theorem unlockTab (key : ByteArray) (hk : kOk key) (w : World) (hu : Fac4 w 2 unF) :
    Calls Tryz.prog 45 #[.int .i64 1, .string key] w fun e w' => ∃ v, e = .returned v ∧ EngT w' v (wayT true key) ∧ Below w.heap.size w w' := by
  obtain ⟨n, hn⟩ := hk.of
  have hle := hn.le
  have CT := Lib.hid (unlockTables_impl key n hn w hu)
  clear hu
  go_enter Tryz.func45, Tryz.ntmps45
  go_wp2_with fail
  refine CT.out.mono ?_; rintro e w1 ⟨p, X, kv, rfl, h1, h2, h3, h4⟩
  have HE : Hid (EngT w1 (.iface 80 (.agg #[.pointer (some ⟨p, 0, none⟩)])) (wayT true key)) := Lib.hid ⟨p, X, kv, n + 7, _, rfl, h1, h3, by omega, fun V q1 q2 => ⟨_, _, _, 1, rfl, ⟨by omega, by omega⟩, nil_table _, meth_table _, enters_of Tryz.func228 (by kernel_rfl) rfl, atOnce_table _,
    fun v g q c W hW hq0 hq1 hqc hst => tbThrough_impl p W v (wayT true key) (fun b hb => wayT_size true key b hn.ok hb) (fun b hb W2 hW2 => by
      have H := through_impl p b hb X ubox kv 3 (by omega) utab h2 (n + 5) (by omega) (revF (uw key n) (n + 7)) W2 (q1.up (hW.trans (hW2.mono hW.size))) (q2.below (hW.trans (hW2.mono hW.size)))
      have e1 := unlock_rev key n b hb
      rw [unlock_T key n hn b hb, ← e1]; exact H) g q c (by omega) hqc hst⟩⟩
  have HB := Lib.hid h4
  clear h1 h2 h3 h4 CT
  go_wp2
  go_ret
  exact ⟨_, rfl, HE.out, HB.out⟩
end Go.Proofs.YtbfmbdohebdbaaaGreatDoor
set_option linter.unusedVariables false
set_option linter.unusedSimpArgs false
namespace Go.Proofs.YtbfmbdohebdbaaaGreatDoor
open Go Go.RowKit
attribute [local go_sem ↓] Go.wp_at_zero Go.wp_at_succ

set_option maxRecDepth 100000 in
theorem wrapped_key (key s : ByteArray) (hk : ¬ kOk key) (w : World) :
    Calls Tryz.prog 25 #[.string key, .string s] w fun e w' => e = .returned (.tuple #[.string ⟨#[]⟩, codeV 3]) ∧ Below w.heap.size w w' := by
  have H1 := Lib.hid (parts_key key s hk 16 64 w)
  unfold codeV at *
  clear hk
  go_enter Tryz.func25, Tryz.ntmps25
  go_wp2_with fail
  refine H1.out.mono ?_; rintro e w1 ⟨rfl, hb1⟩
  go_wp2
  go_ret2
  exact ⟨rfl, hb1⟩
set_option maxRecDepth 100000 in
theorem wrapped_len (key s : ByteArray) (hk : kOk key) (h : ¬ wrOk key s) (h4 : s.size ≤ 1048576) (w : World) :
    Calls Tryz.prog 25 #[.string key, .string s] w fun e w' => e = .returned (.tuple #[.string ⟨#[]⟩, codeV 5]) ∧ Below w.heap.size w w' := by
  have H1 := Lib.hid (parts_len key s hk 16 64 (fun x => h ⟨hk, x⟩) (by omega) h4 w)
  unfold codeV at *
  clear hk h h4
  go_enter Tryz.func25, Tryz.ntmps25
  go_wp2_with fail
  refine H1.out.mono ?_; rintro e w1 ⟨rfl, hb1⟩
  go_wp2
  go_ret2
  exact ⟨rfl, hb1⟩
set_option maxRecDepth 100000 in
theorem unwrapped_key (key s : ByteArray) (hk : ¬ kOk key) (w : World) :
    Calls Tryz.prog 30 #[.string key, .string s] w fun e w' => e = .returned (.tuple #[.string ⟨#[]⟩, codeV 3]) ∧ Below w.heap.size w w' := by
  have H1 := Lib.hid (parts_key key s hk 24 72 w)
  unfold codeV at *
  clear hk
  go_enter Tryz.func30, Tryz.ntmps30
  go_wp2_with fail
  refine H1.out.mono ?_; rintro e w1 ⟨rfl, hb1⟩
  go_wp2
  go_ret2
  exact ⟨rfl, hb1⟩
set_option maxRecDepth 100000 in
theorem unwrapped_len (key s : ByteArray) (hk : kOk key) (h : ¬ uwOk key s) (h4 : s.size ≤ 1048576) (w : World) :
    Calls Tryz.prog 30 #[.string key, .string s] w fun e w' => e = .returned (.tuple #[.string ⟨#[]⟩, codeV 5]) ∧ Below w.heap.size w w' := by
  have H1 := Lib.hid (parts_len key s hk 24 72 (fun x => h ⟨hk, x⟩) (by omega) h4 w)
  unfold codeV at *
  clear hk h h4
  go_enter Tryz.func30, Tryz.ntmps30
  go_wp2_with fail
  refine H1.out.mono ?_; rintro e w1 ⟨rfl, hb1⟩
  go_wp2
  go_ret2
  exact ⟨rfl, hb1⟩
set_option maxRecDepth 100000 in
set_option maxHeartbeats 4000000 in
theorem wrapped_ok (key s : ByteArray) (n : Nat) (h : wrOk key s) (hn : s.size = 8 * n) (w : World) (hm : Fac4 w 1 mxF) :
    Calls Tryz.prog 25 #[.string key, .string s] w fun e w' => e = .returned (.tuple #[.string (wrG (lockT key) n s), .nilIface]) ∧ Below w.heap.size w w' := by
  obtain ⟨hk, h1, h2, h3⟩ := h
  have HP := Lib.hid (parts_ok key s hk n (by omega) hn 16 64 h1 h2 (by omega) w)
  have HL := fun W hW => Lib.hid (lockTab key hk W hW)
  have HM : Hid (∀ W, Below w.heap.size w W → Fac4 W 1 mxF) := Lib.hid fun W hW => hm.below hW hm.1
  have hL : ∀ b : ByteArray, b.size = 16 → (lockT key b).size = 16 := fun b hb => lock_16 key b hk hb
  have HT : Hid (∀ b : ByteArray, b.size = 16 → ∀ v W, EngT W v (wayT false key) → Calls Tryz.prog 40 #[v, .string b] W fun e w' => e = .returned (.string (lockT key b)) ∧ Below W.heap.size W w') := Lib.hid fun b hb v W he => et_turn false key b hk hb v W he
  obtain ⟨F, hF⟩ : ∃ F, wrF (lockT key) n wrMk (ptZ s n) = F := ⟨_, rfl⟩
  have hF0 : F 0 = (wrMk, ptZ s n) := by rw [← hF]; rfl
  have hFs : ∀ k, F (k + 1) = (tuB (hd8 (lockT key ((F k).1 ++ (F k).2 (k % n)))) (k + 1), setP (F k).2 (k % n) (tl8 (lockT key ((F k).1 ++ (F k).2 (k % n))))) := fun k => by rw [← hF]; rfl
  have hF8 : ∀ k, Parts8 (F k).1 (F k).2 := fun k => by rw [← hF]; exact wrF_8 hL n _ _ (wr_parts s n hn) k
  have hG : wrG (lockT key) n s = (F (6 * n)).1 ++ jnB (F (6 * n)).2 n := by rw [← hF]; rfl
  rw [hG]
  have H0 : Hid ((upTo (ptB s) n) = upTo (F 0).2 n) := Lib.hid (by rw [hF0]; exact upTo_congr _ _ n fun j hj => (ptZ_at s n j hj).symm)
  have HF0 : Hid ((F 0).1 = wrMk) := Lib.hid (by rw [hF0])
  have HFS := Lib.hid hFs
  have HF8 := Lib.hid hF8
  have HL16 := Lib.hid hL
  have HN : Hid (2 ≤ n ∧ n ≤ 8) := Lib.hid ⟨by omega, by omega⟩
  generalize lockT key = L at *
  clear hF hF0 hFs hF8 hL hG hm hk h1 h2 h3 hn
  go_enter Tryz.func25, Tryz.ntmps25
  go_wp2_with fail
  refine HP.out.mono ?_; rintro e w1 ⟨g, c, rfl, hc1, hc2, hgB, hown, hb1⟩
  rw [H0.out] at hown
  have HB1 := Lib.hid hb1
  have HO1 := Lib.hid hown
  clear hb1 hown HP
  go_wp2_with fail
  refine (HL _ (HM.out _ HB1.out)).out.mono ?_; rintro e w2 ⟨v, rfl, hev, hb2⟩
  have HO2 := Lib.hid (own_texts_below HO1.out hb2)
  have HB2 := Lib.hid (HB1.out.trans (hb2.mono HB1.out.size))
  have HE2 := Lib.hid hev
  clear hev hb2 HL HM HB1 HO1
  have q6 : IntKind.i64.wrap (6 * (n : Int)) = 6 * (n : Int) := IntWalk.i64_in _ (by have := HN.out; omega)
  go_wp2
  go_loopw [9, 10, 11, 12, 27] (fun f _ _ _ i wr => ∃ k : Nat, k ≤ 6 * n ∧ i = .int .i64 (k : Int) ∧ f = .string (F k).1 ∧ wr.ownsRow w.heap.size 9 1 (.slice (some ⟨g, 0, none⟩) n c) n ((upTo (F k).2 n).map .string) ∧ EngT wr v (wayT false key) ∧ Below w.heap.size w wr) (fun _ _ _ _ i _ => 6 * n - (intOf i).toNat)
  case atStart => exact ⟨0, by omega, rfl, by rw [HF0.out]; rfl, HO2.out, HE2.out, HB2.out⟩
  case round =>
    obtain ⟨k, hk, rfl, rfl, hown, hev, hbel⟩ := hrel
    by_cases hlt : k < 6 * n
    · have hk1 : (k : Int) < 6 * (n : Int) := by omega
      have hkb : k ≤ 48 := by have := HN.out; omega
      obtain ⟨p, hp⟩ : ∃ p, k % n = p := ⟨_, rfl⟩
      have hpn : p < n := by rw [← hp]; exact Nat.mod_lt _ (by have := HN.out; omega)
      have hrem := mod_fact k n p hp
      have hn0 : ¬ (n : Int) = 0 := by have := HN.out; omega
      have hnz : ¬ n = 0 := by have := HN.out; omega
      have hp0 : (0 : Int) ≤ (p : Int) := by omega
      have hp1 : (p : Int) < (n : Int) := by omega
      have hcell := cell_texts hown p hpn
      obtain ⟨s1, s2⟩ := HF8.out k
      have hstep := HFS.out k
      rw [hp] at hstep
      obtain ⟨y, hy⟩ : ∃ y, (F k).2 p = y := ⟨_, rfl⟩
      have y8 : y.size = 8 := by rw [← hy]; exact s2 p
      rw [hy] at hcell hstep
      obtain ⟨r, hr⟩ : ∃ r, (F k).2 = r := ⟨_, rfl⟩
      rw [hr] at hown hstep
      obtain ⟨a, ha⟩ : ∃ a, (F k).1 = a := ⟨_, rfl⟩
      rw [ha] at s1 hstep
      rw [ha]
      have hcat : ¬ 9223372036854775807 < a.size + y.size := by omega
      have hx16 : (a ++ y).size = 16 := by rw [ByteArray.size_append, s1, y8]
      obtain ⟨x, hx⟩ : ∃ x, a ++ y = x := ⟨_, rfl⟩
      rw [hx] at hx16 hstep
      have HX := Lib.hid hx
      have hz16 := HL16.out x hx16
      have HTK := fun W he => Lib.hid (HT.out x hx16 v W he)
      obtain ⟨z, hz⟩ : ∃ z, L x = z := ⟨_, rfl⟩
      simp only [hz] at HTK
      rw [hz] at hz16 hstep
      have HTU := fun W => Lib.hid (turned_impl (hd8 z) k (hd8_size z hz16) (by omega) W)
      have sl1 := to_8 z hz16
      have sl2 := from_8 z hz16
      have HST := Lib.hid hstep
      have HOW := Lib.hid hown
      have HEV := Lib.hid hev
      have HBE := Lib.hid hbel
      generalize hd8 z = zh at *
      generalize tl8 z = zt at *
      generalize tuB zh (k + 1) = tu at *
      clear hown hev hbel hstep hx hz hy hr ha HT HFS HF8 HL16 hp y8 s1 s2 hz16 hx16 HO2 HE2 HB2
      go_wp2_with fail
      rw [HX.out]
      refine (HTK _ HEV.out).out.mono ?_; rintro e w3 ⟨rfl, hb3⟩
      have ho3 := own_texts_below HOW.out hb3
      have he3 := HEV.out.up hb3
      have hB3 := HBE.out.trans (hb3.mono HBE.out.size)
      clear hb3 HTK hcell
      go_wp2
      refine wp_region_held_drew (S := fun _ => True) (by kernel_rfl) trivial (fun hS => ?_)
      refine tk 0 (v := ?_) ?_ trivial ?_
      rotate_left
      · intro w hSw
        go_simp
        first | done | with_reducible rfl
      try simp only [lay]
      refine tk 1 (v := ?_) ?_ trivial ?_
      rotate_left
      · intro w hSw
        go_simp
        first | done | with_reducible rfl
      try simp only [lay]
      refine tk 2 (v := ?_) ?_ trivial ?_
      rotate_left
      · intro w hSw
        go_simp
        first | done | with_reducible rfl
      try simp only [lay]
      refine tk 3 (v := ?_) ?_ trivial ?_
      rotate_left
      · intro w hSw
        go_simp
        first | done | with_reducible rfl
      try simp only [lay]
      refine tk 4 (v := ?_) ?_ trivial ?_
      rotate_left
      · intro w hSw
        go_simp
        first | done | with_reducible rfl
      try simp only [lay]
      refine tk 6 (v := ?_) ?_ trivial ?_
      rotate_left
      · intro w hSw
        go_simp
        first | done | with_reducible rfl
      try simp only [lay]
      refine tk 7 (v := ?_) ?_ trivial ?_
      rotate_left
      · intro w hSw
        go_simp
        first | done | with_reducible rfl
      try simp only [lay]
      refine wpAnyH_ready (rs := [5]) (by kernel_rfl) (by simp) ?_
      refine AllReadyH.cons rfl (fun K hK => ?_) AllReadyH.nil
      go_simp
      refine (HTU _).out.mono ?_; rintro e w4 ⟨rfl, hb4⟩
      have ho4 := own_texts_below (w := w3.drew) ho3 hb4
      have hc4 := cell_texts ho4 p hpn
      have hf4 := ho4.frozenAt p
      have he4 := he3.drew.up hb4
      have hB4 := hB3.drew.trans (hb4.mono hB3.size)
      have hsz4 := hb4.size
      refine hK.out _ _ trivial (fun _ => ?_)
      clear hK K
      try simp only [lay]
      refine tk 8 (v := ?_) ?_ trivial ?_
      rotate_left
      · intro w hSw
        go_simp
        first | done | with_reducible rfl
      try simp only [lay]
      refine tk 9 (v := ?_) ?_ trivial ?_
      rotate_left
      · intro w hSw
        go_simp
        first | done | with_reducible rfl
      try simp only [lay]
      refine wpAnyH_ready (rs := [10]) (by kernel_rfl) (by simp) ?_
      refine AllReadyH.cons rfl (fun K hK => ?_) AllReadyH.nil
      go_simp
      refine hK.out _ _ trivial (fun _ => ?_)
      clear hK K
      try simp only [lay]
      refine wpAnyH_done (by kernel_rfl) ?_ _
      have ho5 := own_setS (i := p) (x := zt) ho4
      have he5 : EngT (w4.setCell ⟨g, p, none⟩ (.string zt)) v (wayT false key) := he4.set ho4 (by omega)
      have hB5 : Below w.heap.size w (w4.setCell ⟨g, p, none⟩ (.string zt)) := hB4.setCell hgB _
      have HO5 := Lib.hid ho5
      have HE5 := Lib.hid he5
      have HB5 := Lib.hid hB5
      clear ho5 he5 hB5 ho4 he4 hB4 hc4 hf4 hb4 ho3 he3 hB3 sl1 sl2 HTU
      go_wp2
      go_roundw
      case rel => exact ⟨k + 1, by omega, by go_num, by rw [HST.out], by rw [HST.out]; exact HO5.out, HE5.out, HB5.out⟩
      case measure => simp [intOf]; omega
    · obtain rfl : k = 6 * n := by omega
      have s12 := HF8.out (6 * n)
      obtain ⟨curr, hra, -⟩ := own_cap hown
      have HJ := Lib.hid (join_impl w.heap.size g 0 n c (F (6 * n)).2 s12.2 (by have := HN.out; omega) wr hra.lt hc1 (fun j hj => by rw [Nat.zero_add]; exact cell_texts hown j hj))
      have hjs := jnB_size (F (6 * n)).2 s12.2 n
      have hfs := s12.1
      have hcat : ¬ 9223372036854775807 < (F (6 * n)).1.size + (jnB (F (6 * n)).2 n).size := by have := HN.out; omega
      have hk1 : ¬ ((6 * n : Nat) : Int) < 6 * (n : Int) := by omega
      have HBE := Lib.hid hbel
      obtain ⟨jn, hjn⟩ : ∃ jn, jnB (F (6 * n)).2 n = jn := ⟨_, rfl⟩
      obtain ⟨fr, hfr⟩ : ∃ fr, (F (6 * n)).1 = fr := ⟨_, rfl⟩
      have HFIN : Hid (fr ++ jn = (F (6 * n)).1 ++ jnB (F (6 * n)).2 n) := Lib.hid (by rw [hjn, hfr])
      rw [hjn] at HJ hcat
      rw [hfr] at hcat
      rw [hfr]
      clear hjn hfr hown hev hbel hra hjs hfs s12 HT HFS HF8 HL16 HO2 HE2 HB2
      go_wp2_with fail
      refine HJ.out.mono ?_; rintro e w3 ⟨rfl, hb3⟩
      have hB3 := HBE.out.trans (hb3.mono HBE.out.size)
      clear hb3
      go_wp2
      go_ret2
      exact ⟨congrArg (fun z => Ending.returned (.tuple #[.string z, .nilIface])) HFIN.out, hB3⟩
end Go.Proofs.YtbfmbdohebdbaaaGreatDoor
set_option linter.unusedVariables false
set_option linter.unusedSimpArgs false
namespace Go.Proofs.YtbfmbdohebdbaaaGreatDoor
open Go Go.RowKit
attribute [local go_sem ↓] Go.wp_at_zero Go.wp_at_succ

theorem cut_1 (g M n c : Nat) (hM : n + 1 = M) (hc : M ≤ c) (hn : 1 ≤ n) (W : World) :
    (Instr.slice 46 (.slice (some ⟨g, 0, none⟩) M c) (some (.int .i64 1)) none none).run Tryz.prog W = .ok (.slice (some ⟨g, 1, none⟩) n (c - 1)) W := by
  have he : Tryz.prog.elem 46 = 9 := by kernel_rfl
  have hsz : (sizeOf 9).run Tryz.prog W = .ok 1 W := by kernel_rfl
  rw [run_slice_l (P := Tryz.prog) W 46 (some ⟨g, 0, none⟩) M c (by rw [he]; exact Tryz.underlying46) .i64 1 (by omega) (by omega), he, hsz]
  simp only [Result.andThen, sliced]
  rw [if_neg (by simp; omega)]
  simp [Addr.add]
  omega
theorem own_cons {w : World} {B g N c n : Nat} {a : ByteArray} {r : Nat → ByteArray} (h : w.ownsRow B 9 1 (.slice (some ⟨g, 0, none⟩) N c) N ((upTo (consB a r) N).map .string)) (hN : n + 1 = N) (j : Nat) (hj : j < n) : w.cell? ⟨g, 1 + j, none⟩ = some (.string (r j)) := by
  have := cell_texts h (1 + j) (by omega)
  rw [this, show 1 + j = j + 1 by omega]
  rfl
theorem setP_cons (a : ByteArray) (r : Nat → ByteArray) (i : Nat) (x : ByteArray) : setP (consB a r) (1 + i) x = consB a (setP r i x) := by
  funext j
  cases j with
  | zero => unfold setP; rw [if_neg (by omega)]; rfl
  | succ j =>
    show (if j + 1 = 1 + i then x else r j) = (if j = i then x else r j)
    by_cases e : j = i
    · rw [if_pos (by omega), if_pos e]
    · rw [if_neg (by omega), if_neg e]
def noFit (a : Addr) : Value := .iface 232 (.pointer (some a))
/-- what unwrapped answers of a text of right size. -/
def uwOut (U : ByteArray → ByteArray) (n : Nat) (s : ByteArray) (a : Addr) : Value :=
  if (uwP U n s).1 = wrMk then .tuple #[.string (jnB (uwP U n s).2 n), .nilIface] else .tuple #[.string ⟨#[]⟩, noFit a]
set_option maxRecDepth 100000 in
set_option maxHeartbeats 4000000 in
theorem unwrapped_ok (key s : ByteArray) (n : Nat) (h : uwOk key s) (hn : s.size = 8 * (n + 1)) (fa : Addr) (w : World) (hm : Fac4 w 1 mxF) (hu : Fac4 w 2 unF) (hE : w.cell? ⟨0, 0, none⟩ = some (noFit fa)) :
    Calls Tryz.prog 30 #[.string key, .string s] w fun e w' => e = .returned (uwOut (unlockT key) n s fa) ∧ Below w.heap.size w w' := by
  obtain ⟨hk, h1, h2, h3⟩ := h
  have HP := Lib.hid (parts_ok key s hk (n + 1) (by omega) hn 24 72 h1 h2 (by omega) w)
  have HL := fun W hW2 => Lib.hid (unlockTab key hk W hW2)
  have HM : Hid (∀ W, Below w.heap.size w W → Fac4 W 1 mxF) := Lib.hid fun W hW => hm.below hW hm.1
  have HU : Hid (∀ W, Below w.heap.size w W → Fac4 W 2 unF) := Lib.hid fun W hW => hu.below hW hu.1
  have HER : Hid (∀ W, Below w.heap.size w W → W.cell? ⟨0, 0, none⟩ = some (noFit fa)) := Lib.hid fun W hW => (hW.cell (p := ⟨0, 0, none⟩) (World.block_lt_of_cell? w _ hE)).trans hE
  have hL : ∀ b : ByteArray, b.size = 16 → (unlockT key b).size = 16 := fun b hb => unlock_16 key b hk hb
  have HT : Hid (∀ b : ByteArray, b.size = 16 → ∀ v W, EngT W v (wayT true key) → Calls Tryz.prog 40 #[v, .string b] W fun e w' => e = .returned (.string (unlockT key b)) ∧ Below W.heap.size W w') := Lib.hid fun b hb v W he => et_turn true key b hk hb v W he
  obtain ⟨H, hH⟩ : ∃ H : Nat → ByteArray × (Nat → ByteArray), (fun k => uwF (unlockT key) n (6 * n) (ptB s 0) (upZ s n) (6 * n - k)) = H := ⟨_, rfl⟩
  have hH0 : H (6 * n) = (ptB s 0, upZ s n) := by rw [← hH]; show uwF _ _ _ _ _ (6 * n - 6 * n) = _; rw [Nat.sub_self]; rfl
  have hHs : ∀ m, m + 1 ≤ 6 * n → H m = (hd8 (unlockT key (tuB (H (m + 1)).1 (m + 1) ++ (H (m + 1)).2 (m % n))), setP (H (m + 1)).2 (m % n) (tl8 (unlockT key (tuB (H (m + 1)).1 (m + 1) ++ (H (m + 1)).2 (m % n))))) := fun m hm => by rw [← hH]; exact uw_step _ _ _ _ m hm
  have hH8 : ∀ k, Parts8 (H k).1 (H k).2 := fun k => by rw [← hH]; exact uwF_8 hL n _ _ _ (uw_parts s n hn) _
  have hG : uwOut (unlockT key) n s fa = if (H 0).1 = wrMk then .tuple #[.string (jnB (H 0).2 n), .nilIface] else .tuple #[.string ⟨#[]⟩, noFit fa] := by rw [← hH]; rfl
  obtain ⟨out, hout⟩ : ∃ out, uwOut (unlockT key) n s fa = out := ⟨_, rfl⟩
  rw [hout]
  have HOUT := Lib.hid (hout.symm.trans hG)
  clear hout
  obtain ⟨x0, hx0⟩ : ∃ x0, ptB s 0 = x0 := ⟨_, rfl⟩
  have H0 : Hid (upTo (ptB s) (n + 1) = upTo (consB x0 (H (6 * n)).2) (n + 1)) := Lib.hid (by
    rw [hH0]
    refine upTo_congr _ _ (n + 1) fun j hj => ?_
    cases j with
    | zero => exact hx0
    | succ j => exact (ptZ_at s (n + 1) (j + 1) hj).symm)
  have HF0 : Hid ((H (6 * n)).1 = x0) := Lib.hid (by rw [hH0]; exact hx0)
  have HFS := Lib.hid hHs
  have HF8 := Lib.hid hH8
  have HL16 := Lib.hid hL
  have HN : Hid (2 ≤ n ∧ n ≤ 8) := Lib.hid ⟨by omega, by omega⟩
  generalize unlockT key = U at *
  clear hH hH0 hHs hH8 hL hG hm hu hE hk h1 h2 h3 hn hx0
  obtain ⟨M, hM⟩ : ∃ M, n + 1 = M := ⟨_, rfl⟩
  rw [hM] at HP H0
  have HMM := Lib.hid hM
  clear hM
  go_enter Tryz.func30, Tryz.ntmps30
  go_wp2_with fail
  refine HP.out.mono ?_; rintro e w1 ⟨g, c, rfl, hc1, hc2, hgB, hown, hb1⟩
  rw [H0.out] at hown
  have c0 := cell_texts hown 0 (by have := HMM.out; omega)
  rw [show consB x0 (H (6 * n)).2 0 = x0 from rfl] at c0
  have hcut := cut_1 g M n c HMM.out hc1 (by have := HN.out; omega)
  have hM0 : (0 : Int) < (M : Int) := by have := HMM.out; omega
  have hM1 : 0 < M := by have := HMM.out; omega
  obtain ⟨curg, hrag, -⟩ := own_cap hown
  have hg1 : g < w1.heap.size := hrag.lt
  have HB1 := Lib.hid hb1
  have HO1 := Lib.hid hown
  clear hb1 hown HP hrag
  go_wp2
  refine wp_region_held_drew (S := fun W => W.cell? ⟨g, 0, none⟩ = some (.string x0)) (by kernel_rfl) c0 (fun hS => ?_)
  refine tk 0 (v := ?_) ?_ hS ?_
  rotate_left
  · intro w hSw
    go_simp
    first | done | with_reducible rfl
  try simp only [lay]
  refine tk 2 (v := ?_) ?_ hS ?_
  rotate_left
  · intro w hSw
    go_simp
    first | done | with_reducible rfl
  try simp only [lay]
  refine tk 3 (v := ?_) ?_ hS ?_
  rotate_left
  · intro w hSw
    go_simp
    first | done | with_reducible rfl
  try simp only [lay]
  refine tk 4 (v := ?_) ?_ hS ?_
  rotate_left
  · intro w hSw
    go_simp
    first | done | with_reducible rfl
  try simp only [lay]
  refine tk 5 (v := ?_) ?_ hS ?_
  rotate_left
  · intro w hSw
    go_simp
    first | done | with_reducible rfl
  try simp only [lay]
  refine tk 6 (v := ?_) ?_ hS ?_
  rotate_left
  · intro w hSw
    go_simp
    first | done | with_reducible rfl
  try simp only [lay]
  refine wpAnyH_ready (rs := [1]) (by kernel_rfl) (by simp) ?_
  refine AllReadyH.cons rfl (fun K hK => ?_) AllReadyH.nil
  go_simp
  refine (HL _ (HU.out _ HB1.out.drew)).out.mono ?_; rintro e w2 ⟨v, rfl, hev, hb2⟩
  have ho2 := own_texts_below (w := w1.drew) HO1.out hb2
  have hB2 := HB1.out.drew.trans (hb2.mono HB1.out.size)
  have d0 := (hb2.cell (p := ⟨g, 0, none⟩) (show g < w1.drew.heap.size from hg1)).trans c0
  refine hK.out _ _ d0 (fun hS2 => ?_)
  clear hK K
  try simp only [lay]
  refine tk 7 (v := ?_) ?_ hS2 ?_
  rotate_left
  · intro w hSw
    go_simp
    first | done | with_reducible rfl
  try simp only [lay]
  refine tk 8 (v := ?_) ?_ hS2 ?_
  rotate_left
  · intro w hSw
    go_simp
    first | done | with_reducible rfl
  try simp only [lay]
  refine tk 9 (v := ?_) ?_ hS2 ?_
  rotate_left
  · intro w hSw
    go_simp
    first | done | with_reducible rfl
  try simp only [lay]
  refine wpAnyH_done (by kernel_rfl) ?_ _
  have HO2 := Lib.hid ho2
  have HB2 := Lib.hid hB2
  have HE2 := Lib.hid hev
  have hg2 : g < w2.heap.size := Nat.lt_of_lt_of_le hg1 hb2.size
  clear hev hb2 ho2 hB2 HL HM HU HB1 HO1 hS hS2 d0 c0
  have q6 : IntKind.i64.wrap (6 * (n : Int)) = 6 * (n : Int) := IntWalk.i64_in _ (by have := HN.out; omega)
  have q7 : IntKind.i64.wrap (6 * (n : Int) - 1) = 6 * (n : Int) - 1 := IntWalk.i64_in _ (by have := HN.out; omega)
  go_wp2
  go_loopw [9, 10, 11, 12] (fun f i _ _ wr => ∃ k : Nat, k ≤ 6 * n ∧ i = .int .i64 ((k : Int) - 1) ∧ f = .string (H k).1 ∧ wr.ownsRow w.heap.size 9 1 (.slice (some ⟨g, 0, none⟩) M c) M ((upTo (consB x0 (H k).2) M).map .string) ∧ EngT wr v (wayT true key) ∧ Below w.heap.size w wr ∧ g < wr.heap.size) (fun _ i _ _ _ => (intOf i + 1).toNat)
  case atStart => exact ⟨6 * n, by omega, by go_num, by rw [HF0.out], HO2.out, HE2.out, HB2.out, hg2⟩
  case round =>
    obtain ⟨k, hk, rfl, rfl, hown, hev, hbel, hgw⟩ := hrel
    by_cases hlt : 0 < k
    · obtain ⟨m, rfl⟩ : ∃ m, k = m + 1 := ⟨k - 1, by omega⟩
      have e1 : ((m + 1 : Nat) : Int) - 1 = (m : Int) := by omega
      rw [e1]
      have hk0 : (0 : Int) ≤ (m : Int) := by omega
      have hkb : m ≤ 48 := by have := HN.out; omega
      obtain ⟨p, hp⟩ : ∃ p, m % n = p := ⟨_, rfl⟩
      have hpn : p < n := by rw [← hp]; exact Nat.mod_lt _ (by have := HN.out; omega)
      have hrem := mod_fact m n p hp
      have hn0 : ¬ (n : Int) = 0 := by have := HN.out; omega
      have hnz : ¬ n = 0 := by have := HN.out; omega
      have hp0 : (0 : Int) ≤ (p : Int) := by omega
      have hp1 : (p : Int) < (n : Int) := by omega
      have hcell := own_cons hown HMM.out p hpn
      obtain ⟨s1, s2⟩ := HF8.out (m + 1)
      have hstep := HFS.out m (by omega)
      rw [hp] at hstep
      obtain ⟨y, hy⟩ : ∃ y, (H (m + 1)).2 p = y := ⟨_, rfl⟩
      have y8 : y.size = 8 := by rw [← hy]; exact s2 p
      rw [hy] at hcell hstep
      obtain ⟨r, hr⟩ : ∃ r, (H (m + 1)).2 = r := ⟨_, rfl⟩
      rw [hr] at hown hstep
      obtain ⟨a, ha⟩ : ∃ a, (H (m + 1)).1 = a := ⟨_, rfl⟩
      rw [ha] at s1 hstep
      rw [ha]
      have t8 := tuB_size a (m + 1) s1
      have HTU := fun W => Lib.hid (turned_impl a m s1 (by omega) W)
      obtain ⟨ta, hta⟩ : ∃ ta, tuB a (m + 1) = ta := ⟨_, rfl⟩
      rw [hta] at t8 hstep
      simp only [hta] at HTU
      have hcat : ¬ 9223372036854775807 < ta.size + y.size := by omega
      have hx16 : (ta ++ y).size = 16 := by rw [ByteArray.size_append, t8, y8]
      obtain ⟨x, hx⟩ : ∃ x, ta ++ y = x := ⟨_, rfl⟩
      rw [hx] at hx16 hstep
      have HX := Lib.hid hx
      have hz16 := HL16.out x hx16
      have HTK := fun W he => Lib.hid (HT.out x hx16 v W he)
      obtain ⟨z, hz⟩ : ∃ z, U x = z := ⟨_, rfl⟩
      simp only [hz] at HTK
      rw [hz] at hz16 hstep
      have sl1 := to_8 z hz16
      have sl2 := from_8 z hz16
      have HST := Lib.hid hstep
      have HOW := Lib.hid hown
      have HEV := Lib.hid hev
      have HBE := Lib.hid hbel
      generalize hd8 z = zh at *
      generalize tl8 z = zt at *
      clear hown hev hbel hstep hx hz hy hr ha hta HT HFS HF8 HL16 hp y8 t8 s1 s2 hz16 hx16 HO2 HE2 HB2 hcut
      go_wp2
      refine wp_region_held_drew (S := fun W => W.cell? ⟨g, 1 + p, none⟩ = some (.string y)) (by kernel_rfl) hcell (fun hS => ?_)
      refine tk 0 (v := ?_) ?_ hS ?_
      rotate_left
      · intro w hSw
        go_simp
        first | done | with_reducible rfl
      try simp only [lay]
      refine tk 1 (v := ?_) ?_ hS ?_
      rotate_left
      · intro w hSw
        go_simp
        first | done | with_reducible rfl
      try simp only [lay]
      refine tk 2 (v := ?_) ?_ hS ?_
      rotate_left
      · intro w hSw
        go_simp
        first | done | with_reducible rfl
      try simp only [lay]
      refine tk 4 (v := ?_) ?_ hS ?_
      rotate_left
      · intro w hSw
        go_simp
        first | done | with_reducible rfl
      try simp only [lay]
      refine tk 5 (v := ?_) ?_ hS ?_
      rotate_left
      · intro w hSw
        go_simp
        first | done | with_reducible rfl
      try simp only [lay]
      refine tk 6 (v := ?_) ?_ hS ?_
      rotate_left
      · intro w hSw
        go_simp
        first | done | with_reducible rfl
      try simp only [lay]
      refine tk 7 (v := ?_) ?_ hS ?_
      rotate_left
      · intro w hSw
        go_simp
        first | done | with_reducible rfl
      try simp only [lay]
      refine wpAnyH_ready (rs := [3]) (by kernel_rfl) (by simp) ?_
      refine AllReadyH.cons rfl (fun K hK => ?_) AllReadyH.nil
      go_simp
      refine (HTU _).out.mono ?_; rintro e w3 ⟨rfl, hb3⟩
      have ho3 := own_texts_below (w := wr.drew) HOW.out hb3
      have he3 := HEV.out.drew.up hb3
      have hB3 := HBE.out.drew.trans (hb3.mono HBE.out.size)
      have d3 := (hb3.cell (p := ⟨g, 1 + p, none⟩) (show g < wr.drew.heap.size from hgw)).trans hcell
      refine hK.out _ _ d3 (fun hS3 => ?_)
      clear hK K
      try simp only [lay]
      refine tk 8 (v := ?_) ?_ hS3 ?_
      rotate_left
      · intro w hSw
        go_simp
        first | done | with_reducible rfl
      try simp only [lay]
      refine wpAnyH_ready (rs := [9]) (by kernel_rfl) (by simp) ?_
      refine AllReadyH.cons rfl (fun K hK => ?_) AllReadyH.nil
      go_simp
      rw [HX.out]
      refine (HTK _ he3).out.mono ?_; rintro e w4 ⟨rfl, hb4⟩
      have ho4 := own_texts_below ho3 hb4
      have he4 := he3.up hb4
      have hB4 := hB3.trans (hb4.mono hB3.size)
      have d4 := (hb4.cell (p := ⟨g, 1 + p, none⟩) (Nat.lt_of_lt_of_le hgw hb3.size)).trans d3
      refine hK.out _ _ d4 (fun hS4 => ?_)
      clear hK K
      try simp only [lay]
      refine tk 10 (v := ?_) ?_ hS4 ?_
      rotate_left
      · intro w hSw
        go_simp
        first | done | with_reducible rfl
      try simp only [lay]
      refine wpAnyH_done (by kernel_rfl) ?_ _
      have HO4 := Lib.hid ho4
      have HE4 := Lib.hid he4
      have HB4 := Lib.hid hB4
      have hc4 := d4
      have hf4 := ho4.frozenAt (1 + p)
      clear ho3 he3 hB3 d3 hb3 ho4 he4 hB4 hb4 HTK HTU hcell hS hS3 hS4 d4
      go_wp2
      refine wp_region_held_drew (S := fun _ => True) (by kernel_rfl) trivial (fun hS => ?_)
      refine tk 0 (v := ?_) ?_ trivial ?_
      rotate_left
      · intro w hSw
        go_simp
        first | done | with_reducible rfl
      try simp only [lay]
      refine tk 1 (v := ?_) ?_ trivial ?_
      rotate_left
      · intro w hSw
        go_simp
        first | done | with_reducible rfl
      try simp only [lay]
      refine tk 2 (v := ?_) ?_ trivial ?_
      rotate_left
      · intro w hSw
        go_simp
        first | done | with_reducible rfl
      try simp only [lay]
      refine tk 3 (v := ?_) ?_ trivial ?_
      rotate_left
      · intro w hSw
        go_simp
        first | done | with_reducible rfl
      try simp only [lay]
      refine tk 4 (v := ?_) ?_ trivial ?_
      rotate_left
      · intro w hSw
        go_simp
        first | done | with_reducible rfl
      try simp only [lay]
      refine tk 5 (v := ?_) ?_ trivial ?_
      rotate_left
      · intro w hSw
        go_simp
        first | done | with_reducible rfl
      try simp only [lay]
      refine tk 6 (v := ?_) ?_ trivial ?_
      rotate_left
      · intro w hSw
        go_simp
        first | done | with_reducible rfl
      try simp only [lay]
      refine tk 7 (v := ?_) ?_ trivial ?_
      rotate_left
      · intro w hSw
        go_simp
        first | done | with_reducible rfl
      try simp only [lay]
      refine wpAnyH_ready (rs := [8]) (by kernel_rfl) (by simp) ?_
      refine AllReadyH.cons rfl (fun K hK => ?_) AllReadyH.nil
      go_simp
      refine hK.out _ _ trivial (fun _ => ?_)
      clear hK K
      try simp only [lay]
      refine wpAnyH_done (by kernel_rfl) ?_ _
      have ho5 := own_setS (w := w4.drew) (i := 1 + p) (x := zt) HO4.out
      rw [setP_cons] at ho5
      have he5 : EngT (w4.drew.setCell ⟨g, 1 + p, none⟩ (.string zt)) v (wayT true key) := EngT.set (w := w4.drew) HE4.out HO4.out (by have := HMM.out; omega)
      have hB5 : Below w.heap.size w (w4.drew.setCell ⟨g, 1 + p, none⟩ (.string zt)) := HB4.out.drew.setCell hgB _
      have hg5 : g < (w4.drew.setCell ⟨g, 1 + p, none⟩ (.string zt)).heap.size := by
        obtain ⟨_, hr, -⟩ := own_cap ho5
        exact hr.lt
      have HO5 := Lib.hid ho5
      have HE5 := Lib.hid he5
      have HB5 := Lib.hid hB5
      have HG5 := Lib.hid hg5
      have hm2 : m ≤ 6 * n := by omega
      clear ho5 he5 hB5 hg5 HO4 HE4 HB4 hc4 hf4 sl1 sl2
      go_wp2
      go_roundw
      case rel => exact ⟨m, hm2, by go_num, by rw [HST.out], by rw [HST.out]; exact HO5.out, HE5.out, HB5.out, HG5.out⟩
      case measure => simp [intOf]
    · obtain rfl : k = 0 := by omega
      have s12 := HF8.out 0
      have HJ := Lib.hid (join_impl w.heap.size g 1 n (c - 1) (H 0).2 s12.2 (by have := HN.out; omega) wr hgw (by have := HMM.out; omega) (fun j hj => own_cons hown HMM.out j hj))
      have HBE := Lib.hid hbel
      have HEE := Lib.hid (HER.out _ hbel)
      obtain ⟨fr, hfr⟩ : ∃ fr, (H 0).1 = fr := ⟨_, rfl⟩
      obtain ⟨jn, hjn⟩ : ∃ jn, jnB (H 0).2 n = jn := ⟨_, rfl⟩
      have HFIN : Hid (out = if fr = wrMk then Value.tuple #[.string jn, .nilIface] else .tuple #[.string ⟨#[]⟩, noFit fa]) := Lib.hid (by rw [HOUT.out, hfr, hjn])
      rw [hfr]
      rw [hjn] at HJ
      clear hfr hjn
      by_cases hfit : fr = wrMk
      · have HFI : Hid (fr = wrMk) := Lib.hid hfit
        rw [hfit]
        unfold wrMk
        clear hown hev hbel s12 HT HFS HF8 HL16 HO2 HE2 HB2 hcut
        go_wp2_with fail
        refine HJ.out.mono ?_; rintro e w3 ⟨rfl, hb3⟩
        have hB3 := HBE.out.trans (hb3.mono HBE.out.size)
        clear hb3
        go_wp2
        go_ret2
        exact ⟨congrArg Ending.returned (HFIN.out.trans (if_pos HFI.out)).symm, hB3⟩
      · have HFI : Hid (¬ fr = wrMk) := Lib.hid hfit
        have hne := fr_ne hfit
        have hcE : wr.drew.cell? ⟨0, 0, none⟩ = some (noFit fa) := HEE.out
        unfold noFit at hcE
        clear hown hev hbel s12 HT HFS HF8 HL16 HO2 HE2 HB2 hcut HJ hfit
        go_wp2
        refine wp_region_held_drew (S := fun W => W.cell? ⟨0, 0, none⟩ = some (.iface 232 (.pointer (some fa)))) (by kernel_rfl) hcE (fun hS => ?_)
        refine tk 0 (v := ?_) ?_ hS ?_
        rotate_left
        · intro w hSw
          go_simp
          first | done | with_reducible rfl
        try simp only [lay]
        refine tk 1 (v := ?_) ?_ hS ?_
        rotate_left
        · intro w hSw
          go_simp
          first | done | with_reducible rfl
        try simp only [lay]
        refine tk 2 (v := ?_) ?_ hS ?_
        rotate_left
        · intro w hSw
          go_simp
          first | done | with_reducible rfl
        try simp only [lay]
        refine wpAnyH_done (by kernel_rfl) ?_ _
        go_wp2
        go_ret2
        exact ⟨congrArg Ending.returned (HFIN.out.trans (if_neg HFI.out)).symm, HBE.out.drew⟩
end Go.Proofs.YtbfmbdohebdbaaaGreatDoor
set_option linter.unusedVariables false
set_option linter.unusedSimpArgs false
namespace Go.Proofs.YtbfmbdohebdbaaaGreatDoor
open Go Go.RowKit Go.Extern.Stop Go.Stop Go.Extern

theorem is_typeOf (v : Value) (w : World) : (Extern.ReflectliteType.typeOf #[.iface 232 v]).run Tryz.prog w = .ok (.iface 108 (.agg #[.pointer (some ⟨5, 232, none⟩)])) w := by kernel_rfl
theorem is_comparable (w : World) : ((Extern.ReflectliteType.method fun t => do Rtype.noPackHeld "Comparable" t; (fun a => Value.bool a.comparable) <$> typeInfo t) #[.agg #[.pointer (some ⟨5, 232, none⟩)]]).run Tryz.prog w = .ok (.bool true) w := by kernel_rfl
theorem is_methodComparable (h : Value) (w : World) : (Go.method 376 108 (.agg #[h]) "Comparable").run Tryz.prog w = .ok (248, .agg #[h]) w := by kernel_rfl
theorem is_comp : (Tryz.prog.info? 232).map (·.comparable) = some true := by kernel_rfl
theorem is_size : (Tryz.prog.info? 264).map (·.size) = some 1 := by kernel_rfl
theorem no_isC (v : Value) (xT : TypeId) (w : World) : (Instr.typeAssert (.iface 73 v) xT 110 true).run Tryz.prog w = .ok (.tuple #[.nilIface, .bool false]) w := run_typeAssert_lacksB Tryz.underlying110 (by kernel_rfl) (by kernel_rfl) v xT w
theorem no_unC (v : Value) (xT : TypeId) (w : World) : (Instr.typeAssert (.iface 73 v) xT 113 true).run Tryz.prog w = .ok (.tuple #[.nilIface, .bool false]) w := run_typeAssert_lacksB Tryz.underlying113 (by kernel_rfl) (by kernel_rfl) v xT w
theorem no_unsC (v : Value) (xT : TypeId) (w : World) : (Instr.typeAssert (.iface 73 v) xT 115 true).run Tryz.prog w = .ok (.tuple #[.nilIface, .bool false]) w := run_typeAssert_lacksB Tryz.underlying115 (by kernel_rfl) (by kernel_rfl) v xT w
theorem is_nil (b : Addr) (w : World) :
    Calls Tryz.prog 36 #[.nilIface, .iface 232 (.pointer (some b))] w fun e w' => e = .returned (.bool false) ∧ w' = w := by
  have hn := run_eql_iface_nil_left (P := Tryz.prog) w 232 (.pointer (some b)) Tryz.underlying41
  go_enter Tryz.func36, Tryz.ntmps36
  go_wp2
  go_ret
  exact ⟨rfl, rfl⟩
theorem is_same (a : Addr) (w : World) :
    Calls Tryz.prog 36 #[.iface 232 (.pointer (some a)), .iface 232 (.pointer (some a))] w fun e w' => e = .returned (.bool true) ∧ w' = w := by
  obtain ⟨i, hi, hcmp⟩ := Option.map_eq_some_iff.1 is_comp
  obtain ⟨j, hj, hjs⟩ := Option.map_eq_some_iff.1 is_size
  have h8 := @run_callFunc_extern Tryz.prog 52 _ Extern.ReflectliteType.typeOf Tryz.func52 (by kernel_rfl) (by kernel_rfl) (by kernel_rfl) (by kernel_rfl)
  have h32 := @run_callFunc_extern Tryz.prog 248 _ (Extern.ReflectliteType.method fun t => do Rtype.noPackHeld "Comparable" t; pure (.bool (← typeInfo t).comparable)) Tryz.func248 (by kernel_rfl) (by kernel_rfl) (by kernel_rfl) (by kernel_rfl)
  have tT := is_typeOf
  have cT := is_comparable
  have mR := is_methodComparable
  have heq := run_eql_iface_ptr_same (P := Tryz.prog) w a Tryz.underlying41 Tryz.underlying232 hi hcmp hj
  go_enter Tryz.func36, Tryz.ntmps36
  go_wp2
  refine wp_loop_rounds 1 ?_
  rw [rounds_succ]
  go_wp2
  go_ret
  exact ⟨rfl, rfl⟩
theorem is_code (x : Int) (b : Addr) (w : World) :
    Calls Tryz.prog 36 #[.iface 73 (.int .i64 x), .iface 232 (.pointer (some b))] w fun e w' => e = .returned (.bool false) ∧ w' = w := by
  have h8 := @run_callFunc_extern Tryz.prog 52 _ Extern.ReflectliteType.typeOf Tryz.func52 (by kernel_rfl) (by kernel_rfl) (by kernel_rfl) (by kernel_rfl)
  have h32 := @run_callFunc_extern Tryz.prog 248 _ (Extern.ReflectliteType.method fun t => do Rtype.noPackHeld "Comparable" t; pure (.bool (← typeInfo t).comparable)) Tryz.func248 (by kernel_rfl) (by kernel_rfl) (by kernel_rfl) (by kernel_rfl)
  have tT := is_typeOf
  have cT := is_comparable
  have mR := is_methodComparable
  have nE := no_isC
  have uE := no_unC
  have vE := no_unsC
  have hty := run_eql_iface_types (P := Tryz.prog) 73 232 (.int .i64 x) (.pointer (some b)) Tryz.underlying41 (by decide) w
  go_enter Tryz.func36, Tryz.ntmps36
  go_wp2
  refine wp_loop_rounds 1 ?_
  rw [rounds_succ]
  go_wp2
  go_ret
  exact ⟨rfl, rfl⟩
end Go.Proofs.YtbfmbdohebdbaaaGreatDoor
set_option linter.unusedVariables false
set_option linter.unusedSimpArgs false
namespace Go.Proofs.YtbfmbdohebdbaaaGreatDoor
open Go Go.RowKit
attribute [local go_sem ↓] Go.wp_at_zero Go.wp_at_succ

/-- what Wrap reads of the package's variables. -/
structure WFac (w : World) (fa : Addr) : Prop where
  mx : Fac4 w 1 mxF
  fit : w.cell? ⟨0, 0, none⟩ = some (noFit fa)
  err : w.cell? ⟨3, 0, none⟩ = some (.iface 108 (.agg #[.pointer (some ⟨5, 41, none⟩)]))
theorem WFac.up {w w' : World} {fa : Addr} (h : WFac w fa) (hb : Below w.heap.size w w') : WFac w' fa :=
  ⟨h.mx.below hb h.mx.1, (hb.cell (p := ⟨0, 0, none⟩) (lt_of_cell h.fit)).trans h.fit, (hb.cell (p := ⟨3, 0, none⟩) (lt_of_cell h.err)).trans h.err⟩
theorem wc_nil (x : ByteArray) (w : World) :
    Calls Tryz.prog 37 #[.string x, .nilIface] w fun e w' => e = .returned (.tuple #[.string x, .int .i64 0]) ∧ Below w.heap.size w w' := by
  have H := Lib.hid (codeOf_nil w)
  go_enter Tryz.func37, Tryz.ntmps37
  go_wp2_with fail
  refine H.out.mono ?_; rintro e w1 ⟨rfl, hb1⟩
  go_wp2
  go_ret2
  exact ⟨rfl, hb1⟩
theorem wc_hit (x : ByteArray) (c : Int) (fa : Addr) (w : World) (hf : WFac w fa) :
    Calls Tryz.prog 37 #[.string x, codeV c] w fun e w' => e = .returned (.tuple #[.string x, .int .i64 c]) ∧ Below w.heap.size w w' := by
  have H := Lib.hid (codeOf_hit c w hf.err)
  unfold codeV
  go_enter Tryz.func37, Tryz.ntmps37
  go_wp2_with fail
  refine H.out.mono ?_; rintro e w1 ⟨rfl, hb1⟩
  go_wp2
  go_ret2
  exact ⟨rfl, hb1⟩
theorem ww_nil (x : ByteArray) (fa : Addr) (w : World) (hf : WFac w fa) :
    Calls Tryz.prog 24 #[.string x, .nilIface] w fun e w' => e = .returned (.tuple #[.string x, .int .i64 0]) ∧ Below w.heap.size w w' := by
  have H1 := Lib.hid (is_nil fa w)
  have H2 := Lib.hid (wc_nil x w)
  have hc := hf.fit
  unfold noFit at hc
  clear hf
  go_enter Tryz.func24, Tryz.ntmps24
  go_wp2_with fail
  refine H1.out.mono ?_; rintro e w1 ⟨rfl, rfl⟩
  go_wp2_with fail
  refine H2.out.mono ?_; rintro e w1 ⟨rfl, hb1⟩
  go_wp2
  go_ret2
  exact ⟨rfl, hb1⟩
theorem ww_hit (x : ByteArray) (c : Int) (fa : Addr) (w : World) (hf : WFac w fa) :
    Calls Tryz.prog 24 #[.string x, codeV c] w fun e w' => e = .returned (.tuple #[.string x, .int .i64 c]) ∧ Below w.heap.size w w' := by
  have H1 := Lib.hid (is_code c fa w)
  have H2 := Lib.hid (wc_hit x c fa w hf)
  have hc := hf.fit
  unfold noFit at hc
  unfold codeV at *
  clear hf
  go_enter Tryz.func24, Tryz.ntmps24
  go_wp2_with fail
  refine H1.out.mono ?_; rintro e w1 ⟨rfl, rfl⟩
  go_wp2_with fail
  refine H2.out.mono ?_; rintro e w1 ⟨rfl, hb1⟩
  go_wp2
  go_ret2
  exact ⟨rfl, hb1⟩
theorem ww_seal (x : ByteArray) (fa : Addr) (w : World) (hf : WFac w fa) :
    Calls Tryz.prog 24 #[.string x, noFit fa] w fun e w' => e = .returned (.tuple #[.string ⟨#[]⟩, .int .i64 7]) ∧ Below w.heap.size w w' := by
  have H1 := Lib.hid (is_same fa w)
  have hc := hf.fit
  unfold noFit at *
  clear hf
  go_enter Tryz.func24, Tryz.ntmps24
  go_wp2_with fail
  refine H1.out.mono ?_; rintro e w1 ⟨rfl, rfl⟩
  go_wp2
  go_ret2
  exact ⟨rfl, Below.refl _ _⟩
set_option maxRecDepth 100000 in
theorem Wrap_face {key s : ByteArray} {x : ByteArray} {v : Value} {co : Int} {y : ByteArray} {w : World} (H1 : Calls Tryz.prog 25 #[.string key, .string s] w fun e w' => e = .returned (.tuple #[.string x, v]) ∧ Below w.heap.size w w')
    (H2 : ∀ W, Below w.heap.size w W → Calls Tryz.prog 24 #[.string x, v] W fun e w' => e = .returned (.tuple #[.string y, .int .i64 co]) ∧ Below W.heap.size W w') :
    Calls Tryz.prog 10 #[.string key, .string s] w fun e w' => e = .returned (.tuple #[.string y, .int .i64 co]) ∧ Below w.heap.size w w' := by
  have H1 := Lib.hid H1
  have H2 := Lib.hid H2
  go_enter Tryz.func10, Tryz.ntmps10
  go_wp2_with fail
  refine H1.out.mono ?_; rintro e w1 ⟨rfl, hb1⟩
  go_wp2_with fail
  refine (H2.out _ hb1).mono ?_; rintro e w2 ⟨rfl, hb2⟩
  have hb := hb1.trans (hb2.mono hb1.size)
  clear hb1 hb2
  go_wp2
  go_ret2
  exact ⟨rfl, hb⟩
set_option maxRecDepth 100000 in
theorem Unwrap_face {key s : ByteArray} {x : ByteArray} {v : Value} {co : Int} {y : ByteArray} {w : World} (H1 : Calls Tryz.prog 30 #[.string key, .string s] w fun e w' => e = .returned (.tuple #[.string x, v]) ∧ Below w.heap.size w w')
    (H2 : ∀ W, Below w.heap.size w W → Calls Tryz.prog 24 #[.string x, v] W fun e w' => e = .returned (.tuple #[.string y, .int .i64 co]) ∧ Below W.heap.size W w') :
    Calls Tryz.prog 12 #[.string key, .string s] w fun e w' => e = .returned (.tuple #[.string y, .int .i64 co]) ∧ Below w.heap.size w w' := by
  have H1 := Lib.hid H1
  have H2 := Lib.hid H2
  go_enter Tryz.func12, Tryz.ntmps12
  go_wp2_with fail
  refine H1.out.mono ?_; rintro e w1 ⟨rfl, hb1⟩
  go_wp2_with fail
  refine (H2.out _ hb1).mono ?_; rintro e w2 ⟨rfl, hb2⟩
  have hb := hb1.trans (hb2.mono hb1.size)
  clear hb1 hb2
  go_wp2
  go_ret2
  exact ⟨rfl, hb⟩
theorem Wrap_impl (key s : ByteArray) (fa : Addr) (hs : s.size ≤ 1048576) (w : World) (hf : WFac w fa) :
    Calls Tryz.prog 10 #[.string key, .string s] w fun e w' => e = .returned (.tuple #[.string (wrT key s), .int .i64 (wrC key s)]) ∧ Below w.heap.size w w' := by
  by_cases hk : kOk key
  · by_cases h : wrOk key s
    · rw [wrC_ok key s h, show wrT key s = wrG (lockT key) (s.size / 8) s from if_pos h]
      exact Wrap_face (wrapped_ok key s (s.size / 8) h (by have := h.2.2.2; omega) w hf.mx) fun W hW => ww_nil _ fa W (hf.up hW)
    · rw [wrC_len key s hk h, wrT_no key s h]
      exact Wrap_face (wrapped_len key s hk h hs w) fun W hW => ww_hit _ 5 fa W (hf.up hW)
  · rw [wrC_key key s hk, wrT_no key s (fun h => hk h.1)]
    exact Wrap_face (wrapped_key key s hk w) fun W hW => ww_hit _ 3 fa W (hf.up hW)
theorem Unwrap_impl (key s : ByteArray) (fa : Addr) (hs : s.size ≤ 1048576) (w : World) (hf : WFac w fa) (hu : Fac4 w 2 unF) :
    Calls Tryz.prog 12 #[.string key, .string s] w fun e w' => e = .returned (.tuple #[.string (uwT key s), .int .i64 (uwC key s)]) ∧ Below w.heap.size w w' := by
  by_cases hk : kOk key
  · by_cases h : uwOk key s
    · have H := unwrapped_ok key s (s.size / 8 - 1) h (by have := h.2; omega) fa w hf.mx hu hf.fit
      by_cases hfit : uwFit key s
      · rw [uwC_fit key s hfit, show uwT key s = jnB (uwP (unlockT key) (s.size / 8 - 1) s).2 (s.size / 8 - 1) from if_pos hfit]
        unfold uwOut at H
        rw [if_pos hfit.2] at H
        exact Unwrap_face H fun W hW => ww_nil _ fa W (hf.up hW)
      · rw [uwC_seal key s h hfit, uwT_no key s hfit]
        unfold uwOut at H
        rw [if_neg (fun x => hfit ⟨h, x⟩)] at H
        exact Unwrap_face H fun W hW => ww_seal _ fa W (hf.up hW)
    · rw [uwC_len key s hk h, uwT_no key s (fun x => h x.1)]
      exact Unwrap_face (unwrapped_len key s hk h hs w) fun W hW => ww_hit _ 5 fa W (hf.up hW)
  · rw [uwC_key key s hk, uwT_no key s (fun x => hk x.1.1)]
    exact Unwrap_face (unwrapped_key key s hk w) fun W hW => ww_hit _ 3 fa W (hf.up hW)
end Go.Proofs.YtbfmbdohebdbaaaGreatDoor
