/-
  Contracts and facts that the laws of this seat use: W75, W76.
-/
import Derived.Test.YtbcaldhcgoclgaaGreatDoorSealD
import Derived.Test.YtbcaldhcgoclgaaGreatDoorEncG
import Derived.Test.YtbcaldhcgoclgaaGreatDoorWideW
import Derived.Deep.RegionHeld3
import Derived.Test.YtbcaldhcgoclgaaGreatDoorLockLaid
import Derived.Test.YtbcaldhcgoclgaaGreatDoorRows
import Derived.LaidLaws
import Derived.LaidHandle
import Derived.Stop.Joined
import Derived.RowKit
import Derived.RowKitTokens
set_option linter.unusedVariables false
set_option linter.unusedSimpArgs false
namespace Go.Proofs.YtbcaldhcgoclgaaGreatDoor
open Go.RowKit

/-- a text of whole blocks, of which the last one is turned by the subkey: its chain has the seal as its last block but one. -/
theorem chain_mac (L : ByteArray → ByteArray) (hL : ∀ b, b.size = 16 → (L b).size = 16) (s : ByteArray) (m : Nat) (hs : s.size = 16 * (m + 1)) :
    (enT L true zer16 (s.extract 0 (16 * m) ++ macLast L (macTail s))).extract (16 * m) (16 * m + 16) = macB L s ∧ (enT L true zer16 (s.extract 0 (16 * m) ++ macLast L (macTail s))).size = 16 * m + 32 := by
  have hm : macN s = m := by unfold macN; omega
  have hx : (s.extract 0 (16 * m)).size = 16 * m := by rw [ByteArray.size_extract]; omega
  have htz : (s.extract 0 (16 * m) ++ macLast L (macTail s)).size = 16 * m + 16 := by rw [ByteArray.size_append, hx, macLast_size]
  have hpn : padN (s.extract 0 (16 * m) ++ macLast L (macTail s)) = 16 := by unfold padN; rw [htz]; omega
  have hez : (enT L true zer16 (s.extract 0 (16 * m) ++ macLast L (macTail s))).size = 16 * m + 32 := by rw [enT_size, htz, hpn]
  refine ⟨?_, hez⟩
  refine b_ext _ _ 16 (by rw [ByteArray.size_extract]; omega) (macB_size hL s) fun i hi => ?_
  rw [byte_cut _ _ _ _ (by rw [hez]; omega) (by omega)]
  unfold enT
  rw [txt_byte _ _ _ (by rw [padT_size, htz, hpn]; omega)]
  unfold catB
  rw [show (16 * m + i) / 16 = m by omega, show (16 * m + i) % 16 = i by omega]
  show byteOf (chB L zer16 (blk (byteOf (padT (s.extract 0 (16 * m) ++ macLast L (macTail s))))) (m + 1)) i = _
  have hb : ∀ j, j < m + 1 → blk (byteOf (padT (s.extract 0 (16 * m) ++ macLast L (macTail s)))) j = macP L s j := fun j hj => by
    have h1 := mac_text L s j (by omega)
    rw [hm] at h1
    rw [← h1]
    exact blk_ext fun k hk => padT_lo _ _ (by rw [htz]; omega)
  rw [chB_ext L zer16 (m + 1) hb]
  unfold macB
  rw [hm]
theorem sub_is (key a b : ByteArray) (ha : sk1 key = a) (hb : sk2 key = b) (w : World) (hf : MxF w) :
    Calls Tryz.prog 17 #[.string key] w fun e w' => e = .returned (.tuple #[.string a, .string b]) ∧ Below w.heap.size w w' := by
  rw [← ha, ← hb]; exact Subkeys_impl key w hf
theorem xor_iz (a b r : ByteArray) (ha : a.size = 16) (hb : b.size = 16) (h : xorS a b = r) (w : World) :
    Calls Tryz.prog 34 #[.string a, .string b] w fun e w' => e = .returned (.string r) ∧ Below w.heap.size w w' := by
  rw [← h]; exact imXor_16 a b ha hb w
theorem both_run (s : ByteArray) (A : Nat) (h : A + 16 ≤ s.size) (b : Int) (hb : b = (A : Int) + 16) (W : World) :
    (Instr.slice 9 (.string s) (some (.int .i64 (A : Int))) (some (.int .i64 b)) none).run Tryz.prog W = .ok (.string (s.extract A (A + 16))) W := by
  subst hb
  have h1 := run_slice_string (P := Tryz.prog) W 9 s .i64 .i64 (A : Int) ((A : Int) + 16) Tryz.underlying9 (by omega) (by omega) (by omega)
  rw [h1, Int.toNat_natCast, show ((A : Int) + 16).toNat = A + 16 by omega]
/-- sixteen bytes 0, made by the call. -/
def ZM (w : World) (g : Nat) : Prop := w.heap[g]? = some (.cells (mk8 16) 5 (0, 0))
theorem zm_conv {w : World} {g : Nat} (h : ZM w g) : (convert 22 9 (.slice (some ⟨g, 0, none⟩) 16 16)).run Tryz.prog w = .ok (.string zer16) w := by
  have h2 := made_conv (by omega) h
  rw [zer16_txt] at h2
  exact h2
set_option maxRecDepth 100000 in
set_option maxHeartbeats 3200000 in
theorem walk_FnMacChain (a0 : Option Addr) (len0 cap0 : Nat) (z0 : List Int) (w : World) (w0 : IsRow .u8 w a0 len0 cap0 z0) (hf : MxF w) :
    Calls Tryz.prog 7 #[.slice a0 len0 cap0] w fun e w' => e = .returned (.bool true) ∧ Below w.heap.size w w' := by
  obtain ⟨hcode, hlen⟩ := w0.code
  clear w0
  have HF : Hid (∀ W, Below w.heap.size w W → MxF W) := Lib.hid (fun W hW => hf.below hW (Nat.le_refl _))
  clear hf
  by_cases hl : len0 ≤ 1048576
  · have H := Lib.hid hcode
    obtain ⟨x0, hx0, A0⟩ := at_fix 0 (by omega) w a0 len0 cap0 hcode hl
    have HA0 := Lib.hid A0
    clear hcode A0
    obtain ⟨i0, hi, hz0, hz1, hz2⟩ := info_parts Tryz.info5
    have HMK : ∀ W : World, Below w.heap.size w W → ∃ W', (Instr.makeSlice 22 (.int .i64 16) (.int .i64 16)).run Tryz.prog W = .ok (.slice (some ⟨W.heap.size, 0, none⟩) 16 16) W' ∧ Below w.heap.size w W' ∧ ZM W' W.heap.size := fun W hW => ⟨_, run_make8 Tryz.underlying22 hi hz0 hz1 hz2 16 16 (by omega) (by omega) W, hW.alloc hW.size _, heap_alloc_new W _⟩
    clear hi hz0 hz1 hz2
    go_enter Tryz.func7, Tryz.ntmps7
    go_wp2_with fail
    refine (big_small _ _ _ _ hl).mono ?_; rintro e w' ⟨rfl, rfl⟩
    go_wp2_with fail
    refine (aKey_any _ _ _ _ H.out hl).mono ?_; rintro e w1 ⟨key, rfl, hk, hb1⟩
    have hbb := hb1
    clear hb1
    go_wp2_with fail
    refine (HA0.out _ hbb).mono ?_; rintro e w3 ⟨rfl, rfl⟩
    have hr0 : (x0 : Int).tmod 4 = ((x0 % 4 : Nat) : Int) := by rw [Int.tmod_eq_emod_of_nonneg (by omega)]; omega
    have hx01 : (x0 : Int) < 256 := by omega
    have hx00 : (0 : Int) ≤ (x0 : Int) := by omega
    obtain ⟨m, hm⟩ : ∃ m, x0 % 4 = m := ⟨_, rfl⟩
    have hm4 : m < 4 := by omega
    rw [hm] at hr0
    have hn : (1 : Int) + (m : Int) = ((m + 1 : Nat) : Int) := by omega
    have hmul : (16 : Int) * ((m + 1 : Nat) : Int) = ((16 * (m + 1) : Nat) : Int) := by omega
    have hsub : ((16 * (m + 1) : Nat) : Int) - 16 = ((16 * m : Nat) : Int) := by omega
    have hadd : ((16 * (m + 1) : Nat) : Int) + 16 = ((16 * m + 32 : Nat) : Int) := by omega
    have hn1 : ((m + 1 : Nat) : Int) ≤ 4 := by omega
    have hn0 : (0 : Int) ≤ ((m + 1 : Nat) : Int) := by omega
    have hq1 : ((16 * (m + 1) : Nat) : Int) ≤ 64 := by omega
    have hq0 : (0 : Int) ≤ ((16 * (m + 1) : Nat) : Int) := by omega
    have hA1 : ((16 * m : Nat) : Int) ≤ 64 := by omega
    have hA0 : (0 : Int) ≤ ((16 * m : Nat) : Int) := by omega
    have hmi1 : (m : Int) < 4 := by omega
    have hmi0 : (0 : Int) ≤ (m : Int) := by omega
    have BL := fun W hW => Lib.hid (bytes_law 40 (16 * (m + 1)) (by omega) W a0 len0 cap0 hW hl)
    obtain ⟨Q, hQ⟩ : ∃ Q : Int, ((16 * (m + 1) : Nat) : Int) = Q := ⟨_, rfl⟩
    have HBH := Lib.hid (show Q = ((16 * m : Nat) : Int) + 16 by omega)
    rw [hQ] at hmul hsub hadd hq1 hq0
    obtain ⟨A, hA⟩ : ∃ A, 16 * m = A := ⟨_, rfl⟩
    obtain ⟨k32, hk32⟩ : ∃ k32, 16 * m + 32 = k32 := ⟨_, rfl⟩
    rw [hA] at hsub hA1 hA0
    rw [hk32] at hadd
    have HA := Lib.hid hA
    have HK32 := Lib.hid hk32
    clear hA hk32
    simp only [hQ] at BL
    obtain ⟨N, hN⟩ : ∃ N : Int, ((m + 1 : Nat) : Int) = N := ⟨_, rfl⟩
    rw [hN] at hn hmul hn1 hn0
    clear hQ hN
    go_wp2_with fail
    refine (BL _ ((H.out.below hbb (Nat.le_refl _)).up hbb.size)).out.mono ?_; rintro e w4 ⟨s, rfl, hs, hq⟩
    replace hbb := hbb.trans (hq.mono hbb.size)
    clear hq BL
    have hL : ∀ b : ByteArray, b.size = 16 → (lockT key b).size = 16 := fun b hb => lock_size key b hk hb
    obtain ⟨hc1, hc2⟩ := chain_mac (lockT key) hL s m hs
    have hmN : macN s = m := by unfold macN; omega
    have htl : s.extract (16 * m) s.size = macTail s := by unfold macTail; rw [hmN]
    have h16 : (macTail s).size = 16 := by rw [macTail_size, hmN]; omega
    have hml : macLast (lockT key) (macTail s) = xorS (macTail s) (sub1 (lockT key)) := if_pos h16
    obtain ⟨a, ha⟩ : ∃ a, sk1 key = a := ⟨_, rfl⟩
    obtain ⟨b, hb⟩ : ∃ b, sk2 key = b := ⟨_, rfl⟩
    have haz : a.size = 16 := by rw [← ha]; exact sk1_size key hk
    have c1 := fun W hW => Lib.hid (sub_is key a b ha hb W hW)
    have hA := HA.out
    have hk32 := HK32.out
    have hbh := HBH.out
    have s1 := from_run s (16 * m) (by omega)
    have s2 := to_run s (16 * m) (by omega)
    rw [htl] at s1
    obtain ⟨Y, hY⟩ : ∃ Y, macLast (lockT key) (macTail s) = Y := ⟨_, rfl⟩
    have c2 := fun W => Lib.hid (xor_iz (macTail s) a Y h16 haz (by rw [← hY, hml, ← sk1_yes key hk, ha]) W)
    rw [hY] at hc1 hc2
    obtain ⟨tx, htx⟩ : ∃ tx, s.extract 0 (16 * m) ++ Y = tx := ⟨_, rfl⟩
    rw [htx] at hc1 hc2
    have hYz : Y.size = 16 := by rw [← hY]; exact macLast_size _ _
    have hxz : (s.extract 0 (16 * m)).size = 16 * m := by rw [ByteArray.size_extract]; omega
    have htz : tx.size ≤ 1048576 := by rw [← htx, ByteArray.size_append]; omega
    have hcat : ¬ 9223372036854775807 < (s.extract 0 (16 * m)).size + Y.size := by omega
    have c3 := fun W hW => Lib.hid (Encrypt_chain 0 key zer16 tx (by omega) hk zer16_size htz W hW)
    obtain ⟨X, hX⟩ : ∃ X, enT (lockT key) true zer16 tx = X := ⟨_, rfl⟩
    simp only [hX] at c3
    rw [hX] at hc1 hc2
    obtain ⟨R, hR⟩ : ∃ R, macB (lockT key) s = R := ⟨_, rfl⟩
    rw [hR] at hc1
    have c4 := fun W hW => Lib.hid (mac_is key s R (by omega) (by rw [macT_yes key s hk, hR]) W hW)
    have c5 := fun W => Lib.hid (mac_sp key s R (by omega) (by rw [macT_yes key s hk, hR]) W)
    have s3 := both_run X (16 * m) (by omega) Q hbh
    rw [hc1] at s3
    have hXz : (X.size : Int) = ((16 * m + 32 : Nat) : Int) := by rw [hc2]
    have hcat2 : ¬ 9223372036854775807 < (s.extract 0 (16 * m)).size + 16 := by omega
    have hw1 : IntKind.i64.wrap Q = Q := IntWalk.i64_in _ (by omega)
    have hw2 : IntKind.i64.wrap (A : Int) = (A : Int) := IntWalk.i64_in _ (by omega)
    have hw3 : IntKind.i64.wrap (Q - 16) = (A : Int) := by rw [hsub]; exact hw2
    have hw4 : IntKind.i64.wrap (Q + 16) = (k32 : Int) := by rw [hadd]; exact IntWalk.i64_in _ (by omega)
    have hw5 : IntKind.i64.wrap (k32 : Int) = (k32 : Int) := IntWalk.i64_in _ (by omega)
    clear hs hL hc1 hc2 hmN htl h16 hml ha hb haz hY hYz hxz htz hX hR hk hbh
    generalize macTail s = z at *
    rw [hA] at hcat hcat2 htx s2
    rw [hA] at s1 s3
    rw [hk32] at hXz
    generalize s.extract 0 A = x at *
    clear hA hk32 HA HK32 HBH
    go_wp2_with fail
    refine ((c1 _ (HF.out _ hbb)).out).mono ?_; rintro e wq ⟨rfl, hq⟩
    replace hbb := hbb.trans (hq.mono hbb.size)
    clear hq
    go_wp2_with fail
    refine ((c2 _).out).mono ?_; rintro e wq ⟨rfl, hq⟩
    replace hbb := hbb.trans (hq.mono hbb.size)
    clear hq
    clear c1 c2 s1
    go_wp2_with fail
    refine wp_region_held_drew (S := fun W => Below w.heap.size w W) (by kernel_rfl) hbb.drew (fun hS => ?_)
    have h0 := hS
    refine tk 0 (v := ?_) ?_ h0 ?_
    rotate_left
    · intro w hSw
      go_simp
      first | done | with_reducible rfl
    try simp only [lay]
    refine tk 3 (v := ?_) ?_ h0 ?_
    rotate_left
    · intro w hSw
      go_simp
      first | done | with_reducible rfl
    try simp only [lay]
    refine tk 4 (v := ?_) ?_ h0 ?_
    rotate_left
    · intro w hSw
      go_simp
      first | done | with_reducible rfl
    try simp only [lay]
    refine tk 5 (v := ?_) ?_ h0 ?_
    rotate_left
    · intro w hSw
      go_simp
      first | done | with_reducible rfl
    try simp only [lay]
    refine tk 6 (v := ?_) ?_ h0 ?_
    rotate_left
    · intro w hSw
      go_simp
      first | done | with_reducible rfl
    try simp only [lay]
    refine tk 7 (v := ?_) ?_ h0 ?_
    rotate_left
    · intro w hSw
      go_simp
      first | done | with_reducible rfl
    try simp only [lay]
    refine tk 8 (v := ?_) ?_ h0 ?_
    rotate_left
    · intro w hSw
      go_simp
      first | done | with_reducible rfl
    try simp only [lay]
    refine tk 9 (v := ?_) ?_ h0 ?_
    rotate_left
    · intro w hSw
      go_simp
      first | done | with_reducible rfl
    try simp only [lay]
    refine wpAnyH_ready (rs := [1]) (by kernel_rfl) (by simp) ?_
    refine AllReadyH.cons rfl (fun K hK => ?_) AllReadyH.nil
    obtain ⟨x1, hmk1, h1, HZ⟩ := HMK _ h0
    have HZ1 := Lib.hid HZ
    clear HZ
    go_simp
    refine hK.out _ _ h1 (fun _ => ?_)
    clear hK K hmk1
    try simp only [lay]
    refine wpAnyH_ready (rs := [2]) (by kernel_rfl) (by simp) ?_
    refine AllReadyH.cons rfl (fun K hK => ?_) AllReadyH.nil
    have hcv := zm_conv (g := wq.heap.size) HZ1.out
    go_simp
    refine hK.out _ _ h1 (fun _ => ?_)
    clear hK K hcv
    try simp only [lay]
    refine wpAnyH_ready (rs := [10]) (by kernel_rfl) (by simp) ?_
    refine AllReadyH.cons rfl (fun K hK => ?_) AllReadyH.nil
    go_simp
    refine ((c3 _ (HF.out _ h1)).out).mono ?_; rintro e x2 ⟨rfl, hq⟩
    have h2 := h1.trans (hq.mono h1.size)
    clear hq
    refine hK.out _ _ h2 (fun _ => ?_)
    clear hK K
    try simp only [lay]
    refine tk 11 (v := ?_) ?_ h2 ?_
    rotate_left
    · intro w hSw
      go_simp
      first | done | with_reducible rfl
    try simp only [lay]
    refine tk 12 (v := ?_) ?_ h2 ?_
    rotate_left
    · intro w hSw
      go_simp
      first | done | with_reducible rfl
    try simp only [lay]
    refine tk 14 (v := ?_) ?_ h2 ?_
    rotate_left
    · intro w hSw
      go_simp
      first | done | with_reducible rfl
    try simp only [lay]
    refine tk 13 (v := ?_) ?_ h2 ?_
    rotate_left
    · intro w hSw
      go_simp
      first | done | with_reducible rfl
    try simp only [lay]
    refine tk 15 (v := ?_) ?_ h2 ?_
    rotate_left
    · intro w hSw
      go_simp
      first | done | with_reducible rfl
    try simp only [lay]
    refine wpAnyH_done (by kernel_rfl) ?_ _
    clear hS h0 h1 c3 s2 HMK
    go_wp2_with fail
    refine wp_region_held_drew (S := fun W => Below w.heap.size w W) (by kernel_rfl) h2.drew (fun hS => ?_)
    have h3 := hS
    refine tk 0 (v := ?_) ?_ h3 ?_
    rotate_left
    · intro w hSw
      go_simp
      first | done | with_reducible rfl
    try simp only [lay]
    refine tk 1 (v := ?_) ?_ h3 ?_
    rotate_left
    · intro w hSw
      go_simp
      first | done | with_reducible rfl
    try simp only [lay]
    refine tk 2 (v := ?_) ?_ h3 ?_
    rotate_left
    · intro w hSw
      go_simp
      first | done | with_reducible rfl
    try simp only [lay]
    refine tk 3 (v := ?_) ?_ h3 ?_
    rotate_left
    · intro w hSw
      go_simp
      first | done | with_reducible rfl
    try simp only [lay]
    refine tk 4 (v := ?_) ?_ h3 ?_
    rotate_left
    · intro w hSw
      go_simp
      first | done | with_reducible rfl
    try simp only [lay]
    refine tk 5 (v := ?_) ?_ h3 ?_
    rotate_left
    · intro w hSw
      go_simp
      first | done | with_reducible rfl
    try simp only [lay]
    refine tk 6 (v := ?_) ?_ h3 ?_
    rotate_left
    · intro w hSw
      go_simp
      first | done | with_reducible rfl
    try simp only [lay]
    refine tk 7 (v := ?_) ?_ h3 ?_
    rotate_left
    · intro w hSw
      go_simp
      first | done | with_reducible rfl
    try simp only [lay]
    refine tk 8 (v := ?_) ?_ h3 ?_
    rotate_left
    · intro w hSw
      go_simp
      first | done | with_reducible rfl
    try simp only [lay]
    refine tk 9 (v := ?_) ?_ h3 ?_
    rotate_left
    · intro w hSw
      go_simp
      first | done | with_reducible rfl
    try simp only [lay]
    refine tk 10 (v := ?_) ?_ h3 ?_
    rotate_left
    · intro w hSw
      go_simp
      first | done | with_reducible rfl
    try simp only [lay]
    refine tk 11 (v := ?_) ?_ h3 ?_
    rotate_left
    · intro w hSw
      go_simp
      first | done | with_reducible rfl
    try simp only [lay]
    refine tk 12 (v := ?_) ?_ h3 ?_
    rotate_left
    · intro w hSw
      go_simp
      first | done | with_reducible rfl
    try simp only [lay]
    refine tk 13 (v := ?_) ?_ h3 ?_
    rotate_left
    · intro w hSw
      go_simp
      first | done | with_reducible rfl
    try simp only [lay]
    refine tk 14 (v := ?_) ?_ h3 ?_
    rotate_left
    · intro w hSw
      go_simp
      first | done | with_reducible rfl
    try simp only [lay]
    refine tk 15 (v := ?_) ?_ h3 ?_
    rotate_left
    · intro w hSw
      go_simp
      first | done | with_reducible rfl
    try simp only [lay]
    refine wpAnyH_ready (rs := [16]) (by kernel_rfl) (by simp) ?_
    refine AllReadyH.cons rfl (fun K hK => ?_) AllReadyH.nil
    go_simp
    refine ((c4 _ (HF.out _ h3)).out).mono ?_; rintro e x4 ⟨rfl, hq⟩
    have h4 := h3.trans (hq.mono h3.size)
    clear hq
    refine hK.out _ _ h4 (fun _ => ?_)
    clear hK K
    try simp only [lay]
    refine tk 17 (v := ?_) ?_ h4 ?_
    rotate_left
    · intro w hSw
      go_simp
      first | done | with_reducible rfl
    try simp only [lay]
    refine tk 18 (v := ?_) ?_ h4 ?_
    rotate_left
    · intro w hSw
      go_simp
      first | done | with_reducible rfl
    try simp only [lay]
    refine tk 19 (v := ?_) ?_ h4 ?_
    rotate_left
    · intro w hSw
      go_simp
      first | done | with_reducible rfl
    try simp only [lay]
    refine tk 20 (v := ?_) ?_ h4 ?_
    rotate_left
    · intro w hSw
      go_simp
      first | done | with_reducible rfl
    try simp only [lay]
    refine tk 21 (v := ?_) ?_ h4 ?_
    rotate_left
    · intro w hSw
      go_simp
      first | done | with_reducible rfl
    try simp only [lay]
    refine tk 23 (v := ?_) ?_ h4 ?_
    rotate_left
    · intro w hSw
      go_simp
      first | done | with_reducible rfl
    try simp only [lay]
    refine tk 24 (v := ?_) ?_ h4 ?_
    rotate_left
    · intro w hSw
      go_simp
      first | done | with_reducible rfl
    try simp only [lay]
    refine wpAnyH_ready (rs := [22]) (by kernel_rfl) (by simp) ?_
    refine AllReadyH.cons rfl (fun K hK => ?_) AllReadyH.nil
    go_simp
    refine ((c4 _ (HF.out _ h4)).out).mono ?_; rintro e x5 ⟨rfl, hq⟩
    have h5 := h4.trans (hq.mono h4.size)
    clear hq
    refine hK.out _ _ h5 (fun _ => ?_)
    clear hK K
    try simp only [lay]
    refine wpAnyH_ready (rs := [25]) (by kernel_rfl) (by simp) ?_
    refine AllReadyH.cons rfl (fun K hK => ?_) AllReadyH.nil
    go_simp
    refine ((c5 _).out).mono ?_; rintro e x6 ⟨rfl, hq⟩
    have h6 := h5.trans (hq.mono h5.size)
    clear hq
    refine hK.out _ _ h6 (fun _ => ?_)
    clear hK K
    try simp only [lay]
    refine tk 26 (v := ?_) ?_ h6 ?_
    rotate_left
    · intro w hSw
      go_simp
      first | done | with_reducible rfl
    try simp only [lay]
    refine tk 27 (v := ?_) ?_ h6 ?_
    rotate_left
    · intro w hSw
      go_simp
      first | done | with_reducible rfl
    try simp only [lay]
    refine tk 28 (v := ?_) ?_ h6 ?_
    rotate_left
    · intro w hSw
      go_simp
      first | done | with_reducible rfl
    try simp only [lay]
    refine wpAnyH_done (by kernel_rfl) ?_ _
    go_wp2
    go_ret
    exact ⟨rfl, h6⟩
  · go_enter Tryz.func7, Tryz.ntmps7
    go_wp2_with fail
    refine (big_great _ _ _ _ (by omega) hlen).mono ?_; rintro e w' ⟨rfl, rfl⟩
    go_wp2
    go_ret
    exact ⟨rfl, Below.refl _ _⟩
end Go.Proofs.YtbcaldhcgoclgaaGreatDoor
set_option linter.unusedVariables false
namespace Go.Proofs.YtbcaldhcgoclgaaGreatDoor
open Go Go.RowKit

theorem facts_FnMacChain {W : World} (h : laidMetH Tryz.prog Rows.fnMacChainRow.laid W) : MxF W := by
  have h' : laidMet Tryz.prog [("loop.example/g00835/impl.mixFactors", Lib.tabData .u8 [2, 1, 1, 3])] W ∧ handlesMet Tryz.prog [("errors.errorType", Rows.laid_errors_errorType)] W := h
  exact mxf_laid h'.1
/-- a world that holds them: the settled one, the cells of both variables laid. -/
noncomputable def errMix (os : Os) : World :=
  let w0 := World.holding Tryz.prog os ⟨#[], #[], []⟩
  { w0 with heap := (w0.heap.modify 1 fun
      | .cells _ t frozen => .cells #[.iface 249 (.agg #[.pointer (some ⟨4, 65, none⟩)])] t frozen
      | o => o).modify 0 fun
      | .cells _ t frozen => .cells #[.int .u8 2, .int .u8 1, .int .u8 1, .int .u8 3] t frozen
      | o => o }
theorem errMix_met (os : Os) (args : Array Value) : laidMetH Tryz.prog Rows.fnMacChainRow.laid ((errMix os).forCall (fun _ _ => 0) ⟨#[], args, []⟩).memory :=
  laidMetH_of_parts (laidMet_of_run' 8 (by kernel_rfl) (by kernel_rfl)) (by kernel_rfl)
end Go.Proofs.YtbcaldhcgoclgaaGreatDoor
