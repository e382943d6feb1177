/-
  Contracts and facts that the laws of this seat use: GfS, FillI, ChainI, SubI, MacI, MacS.
-/
import Derived.Test.YtbcaldhcgoclgaaGreatDoorGf
import Derived.Test.YtbcaldhcgoclgaaGreatDoorPadW
import Derived.Test.YtbcaldhcgoclgaaGreatDoorSums
import Derived.Deep.RegionHeld3
import Derived.WalkKit
import Derived.LoopTactic
import Derived.OwnWalk
import Derived.WalkLawsBesides
import Derived.WalkSpells
import Derived.Outline
import Derived.Below
import Derived.IntWalk
import Derived.Laws.OwnMore
import Derived.Test.YtbcaldhcgoclgaaGreatDoorEng
import Derived.Test.YtbcaldhcgoclgaaGreatDoorEachS
import Derived.Test.YtbcaldhcgoclgaaGreatDoorWideW
import Derived.Test.YtbcaldhcgoclgaaGreatDoorPass
import Derived.Test.YtbcaldhcgoclgaaGreatDoorLockSp
set_option linter.unusedVariables false
set_option linter.unusedSimpArgs false
namespace Go.Proofs.YtbcaldhcgoclgaaGreatDoor
open Go.RowKit

theorem txt_zero (n : Nat) : (⟨(List.replicate n (0 : UInt8)).toArray⟩ : ByteArray) = txt (fun _ => 0) n := by
  unfold txt
  congr 2
  apply List.ext_getElem?
  intro i
  by_cases h : i < n
  · rw [upTo_at _ n i h, List.getElem?_replicate, if_pos h]
  · rw [List.getElem?_eq_none (by simp; omega), List.getElem?_eq_none (by rw [upTo_length]; omega)]
theorem zer16_txt : txt (fun _ => 0) 16 = zer16 := by
  refine b_ext _ _ 16 (txt_size _ _) zer16_size fun i hi => ?_
  rw [txt_byte _ _ _ hi, zer16_byte i hi]
theorem made_conv {w : World} {g n : Nat} (hn : n ≤ 281474976710656) (h : w.heap[g]? = some (.cells (mk8 n) 5 (0, 0))) : (convert 22 9 (.slice (some ⟨g, 0, none⟩) n n)).run Tryz.prog w = .ok (.string (txt (fun _ => 0) n)) w := by
  have ho : w.ownsRow 0 5 1 (.slice (some ⟨g, 0, none⟩) n n) n (cells8 (List.replicate n 0)) := by
    rw [← mk8_list]
    exact ⟨by simp [mk8_size], .inr ⟨g, n, mk8 n, rfl, Nat.zero_le _, h, Nat.le_refl _, by unfold maxLen; omega, by rw [mk8_size]; omega, List.take_of_length_le (by simp [mk8_size])⟩⟩
  have := run_string_own Tryz.underlying22 Tryz.underlying5 Tryz.underlying9 ho
  rw [txt_zero] at this
  exact this
theorem l14Zero_spec (n : Nat) (hn : n ≤ 281474976710656) (w : World) :
    Calls Tryz.prog 48 #[.int .i64 (n : Int)] w fun e w' => e = .returned (.string (txt (fun _ => 0) n)) ∧ Below w.heap.size w w' := by
  obtain ⟨i0, hi, hz0, hz1, hz2⟩ := info_parts Tryz.info5
  have hmk := run_make8 Tryz.underlying22 hi hz0 hz1 hz2 n n (Nat.le_refl _) hn w
  have hg : (w.alloc (.cells (mk8 n) 5)).heap[w.heap.size]? = some (.cells (mk8 n) 5 (0, 0)) := heap_alloc_new w _
  have hconv := made_conv hn hg
  have hb : Below w.heap.size w (w.alloc (.cells (mk8 n) 5)) := (Below.refl _ _).alloc (Nat.le_refl _) _
  have HB := Lib.hid hb
  clear hi hz0 hz1 hz2 hg hb
  go_enter Tryz.func48, Tryz.ntmps48
  go_wp2
  go_ret
  exact ⟨rfl, HB.out⟩
/-- what goes on from byte to byte. -/
def crF (f : Nat → UInt8) (k : Nat) : Nat := if k = 0 then 0 else (f (k - 1)).toNat % 2
theorem crF_le (f : Nat → UInt8) (k : Nat) : crF f k ≤ 1 := by unfold crF; split <;> omega
theorem dn_up (f : Nat → UInt8) (k : Nat) : (crF f k * 256 + (f k).toNat) / 2 = (UInt8.ofNat (dnF f k)).toNat ∧ (crF f k * 256 + (f k).toNat) % 2 = crF f (k + 1) := by
  have hx := (f k).toNat_lt
  have hc := crF_le f k
  have e : dnF f k = (crF f k * 256 + (f k).toNat) / 2 := by
    unfold dnF
    show ((f k).toNat + 256 * crF f k) / 2 = _
    congr 1; omega
  refine ⟨?_, ?_⟩
  · rw [e, UInt8.toNat_ofNat', Nat.mod_eq_of_lt (by omega)]
  · show _ = (f (k + 1 - 1)).toNat % 2
    rw [Nat.add_sub_cancel]; omega
theorem dn_or (x c : Nat) (hx : x < 256) (hc : c ≤ 1) : bits .or .i64 (x : Int) ((c : Int) * 256) = ((c * 256 + x : Nat) : Int) := by
  have h := nat_or_add c x 8 (by omega)
  have e : (c : Int) * 256 = ((c * 256 : Nat) : Int) := by omega
  rw [e, i64_or_nat _ _ (by omega) (by omega), Nat.or_comm, h]
theorem dn_rel {F : Nat → UInt8} {w w2 w1 : World} {k : Nat} {e : TypeId} {u v : Value} {o : Obj} {x : UInt8} (hx : F k = x)
    (hown2 : w2.ownsRow w.heap.size e 1 u k (cells8 (upTo F k))) (hbel2 : Below w.heap.size w w2)
    (hown3 : w1.ownsRow w.heap.size e 1 v (k + 1) (cells8 (upTo F k) ++ [.int .u8 (x.toNat : Int)]))
    (hgrow : (w2.alloc o).grownBy w1 u.ownBlock) :
    w1.ownsRow w.heap.size e 1 v (k + 1) (cells8 (upTo F (k + 1))) ∧ Below w.heap.size w w1 := by
  refine ⟨?_, ?_⟩
  · rw [upTo_succ, cells8_append, hx]
    exact hown3
  · have h1 : Below w.heap.size w (w2.alloc o) := hbel2.alloc hbel2.size _
    exact h1.grown hgrow h1.size (fun b hb => (hown2.lt b hb).1)
set_option maxRecDepth 100000 in
set_option maxHeartbeats 1600000 in
theorem l14Down_spec (s : ByteArray) (hs : s.size = 16) (w : World) :
    Calls Tryz.prog 176 #[.string s] w fun e w' => e = .returned (.tuple #[.string (txt (fun i => UInt8.ofNat (dnF (byteOf s) i)) 16), .int .i64 ((crF (byteOf s) 16 : Nat) : Int)]) ∧ Below w.heap.size w w' := by
  obtain ⟨i0, hi, hz0, hz1, hz2⟩ := info_parts Tryz.info5
  have ST := fun k => Lib.hid (dn_up (byteOf s) k)
  have CR := fun k => Lib.hid (crF_le (byteOf s) k)
  have C0 : Hid (crF (byteOf s) 0 = 0) := Lib.hid rfl
  have HB := fun k (h : k < s.size) => Lib.hid (byteOf_at s k h)
  obtain ⟨F, hF⟩ : ∃ F : Nat → UInt8, (fun i => UInt8.ofNat (dnF (byteOf s) i)) = F := ⟨_, rfl⟩
  have hFk : ∀ k, UInt8.ofNat (dnF (byteOf s) k) = F k := fun k => congrFun hF k
  simp only [hFk] at ST
  rw [hF]
  clear hF hFk
  go_enter Tryz.func176, Tryz.ntmps176
  go_wp2
  go_loopw [4, 5, 6] (fun v c i wr => ∃ k : Nat, k ≤ 16 ∧ i = .int .i64 k ∧ c = .int .i64 (crF (byteOf s) k : Nat) ∧ wr.ownsRow w.heap.size 5 1 v k (cells8 (upTo F k)) ∧ Below w.heap.size w wr) (fun _ _ i _ => 16 - (intOf i).toNat)
  case atStart => exact ⟨0, Nat.zero_le _, rfl, by rw [C0.out]; rfl, World.ownsRow_lit w #[] 0 (Nat.le_refl _) (by simp [maxLen]) rfl, (Below.refl _ _).alloc (Nat.le_refl _) _⟩
  case round =>
    obtain ⟨k, hk, rfl, rfl, hown, hbel⟩ := hrel
    by_cases hlt : k < 16
    · obtain ⟨e1, e2⟩ := (ST k).out
      have hc := (CR k).out
      have hks : k < s.size := by omega
      have hby := (HB k hks).out
      have E2 : Hid (crF (byteOf s) (k + 1) = crF (byteOf s) (k + 1)) := Lib.hid rfl
      obtain ⟨x, hx⟩ : ∃ x, F k = x := ⟨_, rfl⟩
      rw [hx] at e1
      have HX := Lib.hid hx
      have hd := x.toNat_lt
      have hxb := s[k].toNat_lt
      rw [← hby] at e1 e2
      have hor := dn_or s[k].toNat (crF (byteOf s) k) hxb hc
      obtain ⟨c, hcc⟩ : ∃ c, crF (byteOf s) k = c := ⟨_, rfl⟩
      obtain ⟨d, hdd⟩ : ∃ d, crF (byteOf s) (k + 1) = d := ⟨_, rfl⟩
      rw [hcc] at e1 e2 hor hc
      rw [hdd] at e2
      obtain ⟨X, hX⟩ : ∃ X, c * 256 + s[k].toNat = X := ⟨_, rfl⟩
      rw [hX] at e1 e2 hor
      have hand : bits .and .i64 (X : Int) 1 = (d : Int) := (i64_mask (X : Int) 1 (by omega)).trans (by show (X : Int) % 2 = (d : Int); omega)
      have hhalf : (X : Int) / 2 = (x.toNat : Int) := by omega
      have HD := Lib.hid hdd
      have hX1 : (X : Int) < 512 := by omega
      have hX0 : (0 : Int) ≤ (X : Int) := by omega
      have hc' : (s[k].toNat : Int) < 256 := by omega
      have hd' : (x.toNat : Int) < 256 := by omega
      have hk0 : (0 : Int) ≤ (k : Int) := by omega
      have hk1 : (k : Int) < 16 := by omega
      have hk2 : (k : Int) < (s.size : Int) := by omega
      have hc1 : (c : Int) ≤ 1 := by omega
      rw [hcc]
      clear hX e1 e2 hby hcc hdd hd hxb hx ST CR HB
      go_wp2_with (at_builtin; refine stp ?_)
      refine unstp ?_
      refine wpList_append_lies _ rfl (.tmp 20) (.tmp 24) 22 rfl w.heap.size 5 i0 (.int .u8 0) 1 1 Tryz.underlying22 hi hz0 hz1 hz2 rfl (by decide) u4 k (cells8 (upTo F k)) rfl (hown.alloc _) ⟨wr.heap.size, 0, none⟩ 1 1 [.int .u8 (x.toNat : Int)] rfl rfl (World.news_of_block (cs := #[.int .u8 (x.toNat : Int)]) (heap_alloc_new wr _)) (by simp [Value.oneCell']) (by omega) (by unfold maxLen; omega) (by omega) (by have := hbel.size; simp; omega) (wr.heap.size + 1) (by simp) ?_
      intro g2 cap2 w5 hown5 hgrow hat hlt5
      have hrel := dn_rel HX.out hown hbel hown5 hgrow
      clear hown hbel hown5 hgrow hat hlt5
      go_wp2
      go_roundw
      case rel => exact ⟨k + 1, by omega, by go_num, by rw [HD.out], hrel.1, hrel.2⟩
      case measure => simp [intOf]; omega
    · obtain rfl : k = 16 := by omega
      have hconv := run_string_own Tryz.underlying22 Tryz.underlying5 Tryz.underlying9 hown
      rw [show (⟨(upTo F 16).toArray⟩ : ByteArray) = txt F 16 from rfl] at hconv
      clear ST CR HB
      go_wp2
      go_ret2
      exact ⟨rfl, hbel⟩
theorem first_run (s : ByteArray) (h : 0 < s.size) (W : World) :
    (Instr.index 9 (.string s) (.int .i64 0)).run Tryz.prog W = .ok (.int .u8 ((byteOf s 0).toNat : Int)) W := by
  have hi : (0 : Int) ≤ 0 ∧ (0 : Int) < (s.size : Int) := by omega
  rw [run_index_string W 9 s .i64 _ Tryz.underlying9, dif_pos hi]
  simp only [Int.toNat_zero]
  rw [byteOf_at s 0 h]
theorem at_run (s : ByteArray) (k : Nat) (h : k < s.size) (W : World) :
    (Instr.index 9 (.string s) (.int .i64 (k : Int))).run Tryz.prog W = .ok (.int .u8 ((byteOf s k).toNat : Int)) W := by
  have hi : (0 : Int) ≤ (k : Int) ∧ (k : Int) < (s.size : Int) := by omega
  rw [run_index_string W 9 s .i64 _ Tryz.underlying9, dif_pos hi]
  simp only [Int.toNat_natCast]
  rw [byteOf_at s k h]
theorem behind_run (s : ByteArray) (h : 1 ≤ s.size) (W : World) :
    (Instr.slice 9 (.string s) (some (.int .i64 1)) none none).run Tryz.prog W = .ok (.string (s.extract 1 s.size)) W := by
  rw [run_slice_string_l (P := Tryz.prog) W 9 s Tryz.underlying9 .i64 1 (by omega) (by omega)]
  rfl
theorem lit1_drew (b : UInt8) (w : World) :
    (convert 22 9 (.slice (some ⟨w.heap.size, 0, none⟩) 1 1)).run Tryz.prog (w.alloc (.cells #[.int .u8 (b.toNat : Int)] 5)).drew = .ok (.string ⟨#[b]⟩) (w.alloc (.cells #[.int .u8 (b.toNat : Int)] 5)).drew := lit1 b _ rfl w.drew
theorem gfXor_spec (a b : ByteArray) (ha : a.size = 16) (hb : b.size = 16) (w : World) :
    Calls Tryz.prog 49 #[.string a, .string b] w fun e w' => e = .returned (.string (xorS a b)) ∧ Below w.heap.size w w' := by
  rw [← xorOf_S a b ha hb]; exact xor_spec a b w (by omega) (by omega)
/-- a byte turned at the head. -/
theorem dn_head (s : ByteArray) (h : (byteOf s 15).toNat % 2 = 1) :
    (⟨#[byteOf (txt (fun i => UInt8.ofNat (dnF (byteOf s) i)) 16) 0 ^^^ 225]⟩ : ByteArray) ++ (txt (fun i => UInt8.ofNat (dnF (byteOf s) i)) 16).extract 1 16 = dnT s := by
  rw [dnT_1 s h]
  have hz : ((txt (fun i => UInt8.ofNat (dnF (byteOf s) i)) 16).extract 1 16).size = 15 := by rw [ByteArray.size_extract, txt_size]; rfl
  refine b_ext _ _ 16 (by rw [ByteArray.size_append, hz]; rfl) (txt_size _ _) fun i hi => ?_
  rw [txt_byte _ _ _ hi]
  by_cases h0 : i = 0
  · subst h0
    rw [byte_app_l _ _ _ (by show 0 < 1; omega), if_pos rfl]
    show byteOf (txt _ 16) 0 ^^^ 225 = _
    rw [txt_byte _ _ _ (by omega)]
  · rw [byte_app_r _ _ _ (by show 1 ≤ i; omega), if_neg h0, UInt8.xor_zero]
    show byteOf ((txt _ 16).extract 1 16) (i - 1) = _
    rw [byte_cut _ _ _ _ (by rw [txt_size]; omega) (by omega), txt_byte _ _ _ (by omega), show 1 + (i - 1) = i by omega]
set_option maxRecDepth 100000 in
set_option maxHeartbeats 3200000 in
theorem BlockTimes_spec_yes (a b : ByteArray) (ha : a.size = 16) (hb : b.size = 16) (w : World) :
    Calls Tryz.prog 125 #[.string a, .string b] w fun e w' => e = .returned (.string (tmB a b)) ∧ Below w.heap.size w w' := by
  have h1 : (a.size : Int) = 16 := by omega
  have h2 : (b.size : Int) = 16 := by omega
  have HZ := fun W => Lib.hid (l14Zero_spec 16 (by omega) W)
  rw [zer16_txt] at HZ
  have HX := fun k W => Lib.hid (gfXor_spec (tmZ k a b) (tmA k a) (tmZ_size k a b) (tmA_size k a) W)
  have HD := fun k W => Lib.hid (l14Down_spec (tmA k a) (tmA_size k a) W)
  have HB := fun k (h : k < 128) => Lib.hid (gf_bit_txt b k h)
  have HI := fun k (h : k < 16) W => Lib.hid (at_run b k (by omega) W)
  have HE : Hid (tmZ 128 a b = tmB a b) := Lib.hid rfl
  have HA0 : Hid (tmA 0 a = a) := Lib.hid (tmA_0 a ha)
  go_enter Tryz.func125, Tryz.ntmps125
  go_wp2_with fail
  refine (HZ _).out.mono ?_; rintro e w1 ⟨rfl, hb1⟩
  go_wp2_with fail
  go_loopw [0, 5, 6] (fun av zv i wr => ∃ k : Nat, k ≤ 128 ∧ i = .int .i64 k ∧ av = .string (tmA k a) ∧ zv = .string (tmZ k a b) ∧ Below w.heap.size w wr) (fun _ _ i _ => 128 - (intOf i).toNat)
  case atStart => exact ⟨0, by omega, rfl, by rw [HA0.out], rfl, hb1⟩
  case round =>
    clear hb1
    obtain ⟨k, hk, rfl, rfl, rfl, hbel⟩ := hrel
    by_cases hlt : k < 128
    · have hk0 : (0 : Int) ≤ (k : Int) := by omega
      have hk1 : (k : Int) < 128 := by omega
      have hq : (k : Int).tdiv 8 = ((k / 8 : Nat) : Int) := by rw [Int.tdiv_eq_ediv_of_nonneg (by omega)]; omega
      have hr : (k : Int).tmod 8 = ((k % 8 : Nat) : Int) := by rw [Int.tmod_eq_emod_of_nonneg (by omega)]; omega
      have hm : (7 : Int) - ((k % 8 : Nat) : Int) = ((7 - k % 8 : Nat) : Int) := by omega
      have hix := fun W => (HI (k / 8) (by omega) W).out
      have hbit := (HB k hlt).out
      have hb8 := bit_of (byteOf b (k / 8)) (7 - k % 8)
      have hup := tmA_up k a
      have hcr : crF (byteOf (tmA k a)) 16 = (byteOf (tmA k a) 15).toNat % 2 := rfl
      have hX := fun W => (HX k W).out
      have hD := fun W => (HD k W).out
      have hxl := (byteOf b (k / 8)).toNat_lt
      have hxl2 : ((byteOf b (k / 8)).toNat : Int) < 256 := by omega
      rw [hcr] at hD
      have hs16 := tmA_size k a
      have hd0 := dnT_0 (tmA k a)
      have hd1 := dn_head (tmA k a)
      have hn0 := txt_size (fun i => UInt8.ofNat (dnF (byteOf (tmA k a)) i)) 16
      have hm8 : ((7 - k % 8 : Nat) : Int) < 8 := by omega
      have hm0 : (0 : Int) ≤ ((7 - k % 8 : Nat) : Int) := by omega
      have hrr : ((k % 8 : Nat) : Int) < 8 := by omega
      have hrr0 : (0 : Int) ≤ ((k % 8 : Nat) : Int) := by omega
      have hqq : ((k / 8 : Nat) : Int) < 16 := by omega
      have hqq0 : (0 : Int) ≤ ((k / 8 : Nat) : Int) := by omega
      clear HZ HX HD HB HI HE HA0 hcr
      generalize (byteOf b (k / 8)).toNat / 2 ^ (7 - k % 8) % 2 = y at *
      generalize (byteOf b (k / 8)).toNat = x at *
      generalize 7 - k % 8 = m at *
      generalize k % 8 = r at *
      generalize k / 8 = q at *
      by_cases hy : y = 1
      · subst hy
        have hz := tmZ_yes k a b (by rw [hbit]; rfl)
        rw [← hz] at hX
        clear hbit
        go_wp2_with fail
        refine (hX _).mono ?_; rintro e w2 ⟨rfl, hb2⟩
        have HBEL := hbel.trans (hb2.mono hbel.size)
        clear hb2 hX hbel
        go_wp2_with fail
        refine (hD _).mono ?_; rintro e w3 ⟨rfl, hb3⟩
        have hbel3 := HBEL.trans (hb3.mono HBEL.size)
        by_cases hp : (byteOf (tmA k a) 15).toNat % 2 = 1
        · have hh := hd1 hp
          rw [hp]
          have hfst := first_run (txt (fun i => UInt8.ofNat (dnF (byteOf (tmA k a)) i)) 16) (by rw [txt_size]; omega)
          have hbeh := behind_run (txt (fun i => UInt8.ofNat (dnF (byteOf (tmA k a)) i)) 16) (by rw [txt_size]; omega)
          rw [hn0] at hbeh
          rw [← hup] at hh
          clear hd0 hd1 hD hup hp hb3
          generalize txt (fun i => UInt8.ofNat (dnF (byteOf (tmA k a)) i)) 16 = NX at *
          have hxx : bits .xor .u8 ((byteOf NX 0).toNat : Int) 225 = ((byteOf NX 0 ^^^ 225).toNat : Int) := u8_xor_bytes (byteOf NX 0) 225
          have hnz : (NX.size : Int) = 16 := by omega
          generalize byteOf NX 0 ^^^ 225 = z at *
          have hcv : (convert 22 9 (.slice (some ⟨w3.heap.size, 0, none⟩) 1 1)).run Tryz.prog ((w3.alloc (.cells #[.int .u8 (z.toNat : Int)] 5)).drew) = .ok (.string ⟨#[z]⟩) ((w3.alloc (.cells #[.int .u8 (z.toNat : Int)] 5)).drew) := lit1_drew z w3
          have hcx : (⟨#[z]⟩ : ByteArray) ++ NX.extract 1 16 = tmA (k + 1) a := hh
          have htl : (NX.extract 1 16).size = 15 := by rw [ByteArray.size_extract]; omega
          have hhd : (⟨#[z]⟩ : ByteArray).size = 1 := rfl
          generalize NX.extract 1 16 = tl at *
          generalize (⟨#[z]⟩ : ByteArray) = hd at *
          have htot : hd.size + tl.size ≤ maxLen := by rw [htl, hhd]; unfold maxLen; omega
          generalize byteOf NX 0 = n0 at *
          go_wp2
          have hbel4 : Below w.heap.size w ((w3.alloc (.cells #[.int .u8 (z.toNat : Int)] 5)).drew) := (hbel3.alloc hbel3.size _).drew
          go_region
          all_goals
            go_wp2
            go_roundw
            case rel => exact ⟨k + 1, by omega, by go_num, rfl, by rw [hz], hbel4⟩
            case measure => simp [intOf]; omega
        · have hp0 : (byteOf (tmA k a) 15).toNat % 2 = 0 := by omega
          have hh := hd0 hp0
          rw [← hup] at hh
          rw [hp0]
          clear hd0 hd1 hD hup hp hb3
          go_wp2
          go_roundw
          case rel => exact ⟨k + 1, by omega, by go_num, by rw [hh], by rw [hz], hbel3⟩
          case measure => simp [intOf]; omega
      · have hy0 : (y : Int) ≠ 1 := by omega
        have hz := tmZ_no k a b (by rw [hbit]; exact decide_eq_false hy)
        have HBEL := hbel
        clear hbit hX hbel
        go_wp2_with fail
        refine (hD _).mono ?_; rintro e w3 ⟨rfl, hb3⟩
        have hbel3 := HBEL.trans (hb3.mono HBEL.size)
        by_cases hp : (byteOf (tmA k a) 15).toNat % 2 = 1
        · have hh := hd1 hp
          rw [hp]
          have hfst := first_run (txt (fun i => UInt8.ofNat (dnF (byteOf (tmA k a)) i)) 16) (by rw [txt_size]; omega)
          have hbeh := behind_run (txt (fun i => UInt8.ofNat (dnF (byteOf (tmA k a)) i)) 16) (by rw [txt_size]; omega)
          rw [hn0] at hbeh
          rw [← hup] at hh
          clear hd0 hd1 hD hup hp hb3
          generalize txt (fun i => UInt8.ofNat (dnF (byteOf (tmA k a)) i)) 16 = NX at *
          have hxx : bits .xor .u8 ((byteOf NX 0).toNat : Int) 225 = ((byteOf NX 0 ^^^ 225).toNat : Int) := u8_xor_bytes (byteOf NX 0) 225
          have hnz : (NX.size : Int) = 16 := by omega
          generalize byteOf NX 0 ^^^ 225 = z at *
          have hcv : (convert 22 9 (.slice (some ⟨w3.heap.size, 0, none⟩) 1 1)).run Tryz.prog ((w3.alloc (.cells #[.int .u8 (z.toNat : Int)] 5)).drew) = .ok (.string ⟨#[z]⟩) ((w3.alloc (.cells #[.int .u8 (z.toNat : Int)] 5)).drew) := lit1_drew z w3
          have hcx : (⟨#[z]⟩ : ByteArray) ++ NX.extract 1 16 = tmA (k + 1) a := hh
          have htl : (NX.extract 1 16).size = 15 := by rw [ByteArray.size_extract]; omega
          have hhd : (⟨#[z]⟩ : ByteArray).size = 1 := rfl
          generalize NX.extract 1 16 = tl at *
          generalize (⟨#[z]⟩ : ByteArray) = hd at *
          have htot : hd.size + tl.size ≤ maxLen := by rw [htl, hhd]; unfold maxLen; omega
          generalize byteOf NX 0 = n0 at *
          go_wp2
          have hbel4 : Below w.heap.size w ((w3.alloc (.cells #[.int .u8 (z.toNat : Int)] 5)).drew) := (hbel3.alloc hbel3.size _).drew
          go_region
          all_goals
            go_wp2
            go_roundw
            case rel => exact ⟨k + 1, by omega, by go_num, rfl, by rw [hz], hbel4⟩
            case measure => simp [intOf]; omega
        · have hp0 : (byteOf (tmA k a) 15).toNat % 2 = 0 := by omega
          have hh := hd0 hp0
          rw [← hup] at hh
          rw [hp0]
          clear hd0 hd1 hD hup hp hb3
          go_wp2
          go_roundw
          case rel => exact ⟨k + 1, by omega, by go_num, by rw [hh], by rw [hz], hbel3⟩
          case measure => simp [intOf]; omega
    · obtain rfl : k = 128 := by omega
      rw [HE.out]
      clear HZ HX HD HB HI HE HA0
      go_wp2
      go_ret
      exact ⟨rfl, hbel⟩
set_option maxRecDepth 100000 in
theorem BlockTimes_spec_no (a b : ByteArray) (h : ¬ (a.size = 16 ∧ b.size = 16)) (w : World) :
    Calls Tryz.prog 125 #[.string a, .string b] w fun e w' => e = .returned (.string ⟨#[]⟩) ∧ Below w.heap.size w w' := by
  by_cases h1 : a.size = 16
  · have h2 : ¬ (b.size : Int) = 16 := by omega
    have h3 : (a.size : Int) = 16 := by omega
    go_enter Tryz.func125, Tryz.ntmps125
    go_wp2
    go_ret
    exact ⟨rfl, Below.refl _ _⟩
  · have h2 : ¬ (a.size : Int) = 16 := by omega
    go_enter Tryz.func125, Tryz.ntmps125
    go_wp2
    go_ret
    exact ⟨rfl, Below.refl _ _⟩
theorem BlockTimes_spec (a b : ByteArray) (w : World) :
    Calls Tryz.prog 125 #[.string a, .string b] w fun e w' => e = .returned (.string (tmI a b)) ∧ Below w.heap.size w w' := by
  by_cases h : a.size = 16 ∧ b.size = 16
  · rw [tmI_yes a b h.1 h.2]; exact BlockTimes_spec_yes a b h.1 h.2 w
  · rw [tmI_no a b h]; exact BlockTimes_spec_no a b h w
end Go.Proofs.YtbcaldhcgoclgaaGreatDoor
set_option linter.unusedVariables false
set_option linter.unusedSimpArgs false
namespace Go.Proofs.YtbcaldhcgoclgaaGreatDoor
open Go.RowKit

theorem pieces_impl (n : Nat) (hn : n ≤ 1073741824) (w : World) :
    Calls Tryz.prog 40 #[.int .i64 (n : Int), .int .i64 16] w fun e w' => e = .returned (.int .i64 (((n + 15) / 16 : Nat) : Int)) ∧ w = w' := by
  have h1 : (n : Int) ≤ 1073741824 := by omega
  have h0 : (0 : Int) ≤ (n : Int) := by omega
  have hd : ((n : Int) + 16 - 1).tdiv 16 = (((n + 15) / 16 : Nat) : Int) := by rw [Int.tdiv_eq_ediv_of_nonneg (by omega)]; omega
  have hq : (((n + 15) / 16 : Nat) : Int) ≤ 1073741824 := by omega
  have hq0 : (0 : Int) ≤ (((n + 15) / 16 : Nat) : Int) := by omega
  generalize (n + 15) / 16 = q at *
  go_enter Tryz.func40, Tryz.ntmps40
  go_wp2
  go_ret
  exact ⟨rfl, rfl⟩
theorem copy_none (g gb cb : Nat) (W : World) : (Builtin.copy_ #[22, 22] 3 #[.slice (some ⟨g, 0, none⟩) 0 0, .slice (some ⟨gb, 0, none⟩) 0 cb]).run Tryz.prog W = .ok (.int .i64 0) W := by
  simp [Builtin.copy_, go_sem, run_underlying Tryz.underlying22]
set_option maxRecDepth 100000 in
set_option maxHeartbeats 1600000 in
theorem withBytes_none (s : ByteArray) (hs : s.size ≤ 1073741824) (gb cb : Nat) (w : World) :
    Calls Tryz.prog 77 #[.string s, .slice (some ⟨gb, 0, none⟩) 0 cb] w fun e w' => e = .returned (.string s) ∧ Below w.heap.size w w' := by
  obtain ⟨i0, hi, hz0, hz1, hz2⟩ := info_parts Tryz.info5
  have hmk := run_make8 Tryz.underlying22 hi hz0 hz1 hz2 s.size s.size (by omega) (by omega) w
  obtain ⟨W1, hW1⟩ : ∃ W1, w.alloc (.cells (mk8 s.size) 5) = W1 := ⟨_, rfl⟩
  have hg1 : W1.heap[w.heap.size]? = some (.cells (mk8 s.size) 5 (0, 0)) := by rw [← hW1]; exact heap_alloc_new w _
  have hb1 : Below w.heap.size w W1 := by rw [← hW1]; exact (Below.refl _ _).alloc (Nat.le_refl _) _
  rw [hW1] at hmk
  have hcp := Lib.run_copy_row_string (P := Tryz.prog) W1 22 9 3 5 w.heap.size 0 s.size s.size s (mk8 s.size) 5 Tryz.underlying22 size1 hg1 (by omega) (by rw [mk8_size]; omega)
  have hrt := row_text s 0
  rw [Nat.add_zero] at hrt
  rw [hrt] at hcp
  have hg2 := setRow_heap W1 w.heap.size _ (cells8 (s.data.toList ++ List.replicate 0 0)).toArray _ _ hg1
  have hb2 := below_setRow hb1 (Nat.le_refl w.heap.size) (cells8 (s.data.toList ++ List.replicate 0 0)).toArray
  obtain ⟨W2, hW2⟩ : ∃ W2, W1.setRow w.heap.size (cells8 (s.data.toList ++ List.replicate 0 0)).toArray = W2 := ⟨_, rfl⟩
  rw [hW2] at hcp hg2 hb2
  have hN : (cells8 (s.data.toList ++ List.replicate 0 0)).length = s.size := by simp [cells8_length]
  have hown : W2.ownsRow w.heap.size 5 1 (.slice (some ⟨w.heap.size, 0, none⟩) s.size s.size) s.size (cells8 (s.data.toList ++ List.replicate 0 0)) :=
    ⟨by rw [hN]; omega, .inr ⟨w.heap.size, s.size, _, rfl, Nat.le_refl _, hg2, Nat.le_refl _, by unfold maxLen; omega, by simp [cells8_length], List.take_of_length_le (by show (cells8 _).length ≤ _; rw [hN]; omega)⟩⟩
  have hconv := run_string_own Tryz.underlying22 Tryz.underlying5 Tryz.underlying9 hown
  rw [moreT_list, moreT_0] at hconv
  have HB := Lib.hid hb2
  have hs2 : (s.size : Int) ≤ 1073741824 := by omega
  have hs0 : (0 : Int) ≤ (s.size : Int) := by omega
  clear hW1 hW2 hg1 hb1 hg2 hb2 hown hN hrt hs hi hz0 hz1 hz2
  go_enter Tryz.func77, Tryz.ntmps77
  have hcn := copy_none w.heap.size gb cb W2
  go_wp2
  go_ret
  exact ⟨rfl, HB.out⟩
set_option maxRecDepth 100000 in
set_option maxHeartbeats 1600000 in
theorem filled_impl (s : ByteArray) (hs : s.size ≤ 1073741824) (w : World) :
    Calls Tryz.prog 76 #[.string s] w fun e w' => e = .returned (.string (zpT s)) ∧ Below w.heap.size w w' := by
  obtain ⟨i0, hi, hz0, hz1, hz2⟩ := info_parts Tryz.info5
  have HP := fun W => Lib.hid (pieces_impl s.size hs W)
  have hlt := zpN_lt s
  have hsub : (16 : Int) * (((s.size + 15) / 16 : Nat) : Int) - (s.size : Int) = ((zpN s : Nat) : Int) := by unfold zpN; omega
  have hmk := fun W => run_make8 Tryz.underlying22 hi hz0 hz1 hz2 (zpN s) (zpN s) (Nat.le_refl _) (by omega) W
  have HW : ∀ (g : Nat) (W : World), W.heap[g]? = some (.cells (mk8 (zpN s)) 5 (0, 0)) → Hid (Calls Tryz.prog 77 #[.string s, .slice (some ⟨g, 0, none⟩) (zpN s) (zpN s)] W fun e w' => e = .returned (.string (zpT s)) ∧ Below W.heap.size W w') := fun g W hg => Lib.hid (by
    by_cases h0 : zpN s = 0
    · have hz : zpT s = s := by unfold zpT; rw [h0, txt_nil, app_nil]
      rw [hz, h0]
      exact withBytes_none s hs g 0 W
    · exact withBytes_impl s 0 (zpN s) hs (by omega) (by omega) g (zpN s) W (fun j hj => by
        rw [cell_of_row W g j _ _ _ hg]
        have : (mk8 (zpN s))[j]? = some (cell8 0) := by
          rw [← Array.getElem?_toList, mk8_list]
          unfold cells8
          rw [List.getElem?_map, List.getElem?_replicate, if_pos hj]; rfl
        exact this) (Array.getElem?_eq_some_iff.1 hg).1)
  have hq : (((s.size + 15) / 16 : Nat) : Int) ≤ 1073741824 := by omega
  have hq0 : (0 : Int) ≤ (((s.size + 15) / 16 : Nat) : Int) := by omega
  have hs2 : (s.size : Int) ≤ 1073741824 := by omega
  have hs0 : (0 : Int) ≤ (s.size : Int) := by omega
  have hn1 : ((zpN s : Nat) : Int) < 16 := by omega
  have hn0 : (0 : Int) ≤ ((zpN s : Nat) : Int) := by omega
  have hnat : zpN s < 16 := hlt
  generalize (s.size + 15) / 16 = q at *
  generalize zpT s = r at *
  generalize zpN s = n at *
  clear hlt hi hz0 hz1 hz2 hs
  go_enter Tryz.func76, Tryz.ntmps76
  go_wp2_with fail
  refine (HP _).out.mono ?_; rintro e w1 ⟨rfl, rfl⟩
  go_wp2_with fail
  have hb0 : Below w.heap.size w (w.alloc (.cells (mk8 n) 5)) := (Below.refl _ _).alloc (Nat.le_refl _) _
  refine (HW _ _ (heap_alloc_new w _)).out.mono ?_; rintro e w2 ⟨rfl, hb2⟩
  have HB := Lib.hid (hb0.trans (hb2.mono hb0.size))
  clear hb0 hb2
  go_wp2
  go_ret
  exact ⟨rfl, HB.out⟩
set_option maxRecDepth 100000 in
set_option maxHeartbeats 1600000 in
theorem l14Whole_spec (s : ByteArray) (hs : s.size ≤ 1073741824) (w : World) :
    Calls Tryz.prog 92 #[.string s] w fun e w' => e = .returned (.string (zpT s)) ∧ Below w.heap.size w w' := by
  have hlt := zpN_lt s
  have hmod := zpN_mod s
  have hr : (s.size : Int).tmod 16 = ((s.size % 16 : Nat) : Int) := by rw [Int.tmod_eq_emod_of_nonneg (by omega)]; omega
  have hr2 : ((16 : Int) - ((s.size % 16 : Nat) : Int)).tmod 16 = ((zpN s : Nat) : Int) := by rw [Int.tmod_eq_emod_of_nonneg (by omega), hmod]; omega
  have HZ := fun W => Lib.hid (l14Zero_spec (zpN s) (by omega) W)
  have hcat : s ++ txt (fun _ => 0) (zpN s) = zpT s := rfl
  have hz : (txt (fun _ => 0) (zpN s)).size = zpN s := txt_size _ _
  have htot : s.size + (txt (fun _ => 0) (zpN s)).size ≤ maxLen := by rw [hz]; unfold maxLen; omega
  have hs2 : (s.size : Int) ≤ 1073741824 := by omega
  have hs0 : (0 : Int) ≤ (s.size : Int) := by omega
  have hm1 : ((s.size % 16 : Nat) : Int) < 16 := by omega
  have hm0 : (0 : Int) ≤ ((s.size % 16 : Nat) : Int) := by omega
  have htot2 : ¬ 9223372036854775807 < s.size + zpN s := by omega
  clear hmod hlt hs
  generalize txt (fun _ => 0) (zpN s) = z at *
  generalize zpN s = n at *
  generalize s.size % 16 = r at *
  go_enter Tryz.func92, Tryz.ntmps92
  go_wp2_with fail
  refine (HZ _).out.mono ?_; rintro e w1 ⟨rfl, hb1⟩
  go_wp2
  go_ret
  exact ⟨rfl, hb1⟩
end Go.Proofs.YtbcaldhcgoclgaaGreatDoor
set_option linter.unusedVariables false
set_option linter.unusedSimpArgs false
namespace Go.Proofs.YtbcaldhcgoclgaaGreatDoor
open Go Go.RowKit
attribute [local go_sem ↓] Go.wp_at_zero Go.wp_at_succ

theorem EngAt.up {w W : World} {v : Value} {T : ByteArray → ByteArray} (h : EngAt w v T) (hb : Below w.heap.size w W) : EngAt W v T := by
  obtain ⟨t, x, F, most, rfl, h1, h2, h3, h4, h5, h6⟩ := h
  exact ⟨t, x, F, most, rfl, h1, h2, h3, h4, h5, fun v g q c V hV => h6 v g q c V (hb.trans (hV.mono hb.size))⟩
theorem each_one (T : ByteArray → ByteArray) (b : ByteArray) (hb : b.size = 16) (hT : (T b).size = 16) : txt (eachB T (byteOf b)) (16 * 1) = T b := by
  refine b_ext _ _ 16 (txt_size _ _) hT fun i hi => ?_
  rw [txt_byte _ _ _ (by omega)]
  unfold eachB
  have h0 : i / 16 = 0 := by omega
  have h1 : i % 16 = i := by omega
  have e : blk (byteOf b) 0 = b := by
    refine Eq.trans (txt_ext _ (byteOf b) 16 fun k hk => ?_) (txt_own b 16 hb)
    rw [Nat.mul_zero, Nat.zero_add]
  rw [h0, h1, e]
theorem turn_one (key b : ByteArray) (hk : kOk key) (hb : b.size = 16) (v : Value) (w : World) (he : EngAt w v (wayT false key)) :
    Calls Tryz.prog 71 #[v, .string b] w fun e w' => e = .returned (.string (lockT key b)) ∧ Below w.heap.size w w' := by
  have h := eng_turn false key b 1 (by omega) (by omega) v w he w rfl
  rw [each_one _ b hb (wayT_size false key b hk hb)] at h
  exact h
theorem imXor_16 (a b : ByteArray) (ha : a.size = 16) (hb : b.size = 16) (w : World) :
    Calls Tryz.prog 34 #[.string a, .string b] w fun e w' => e = .returned (.string (xorS a b)) ∧ Below w.heap.size w w' := by
  rw [← xorOf_S a b ha hb]; exact xor_impl a b w (by omega) (by omega)
set_option maxRecDepth 100000 in
set_option maxHeartbeats 1600000 in
theorem chained_impl (key iv s : ByteArray) (hk : kOk key) (hv : iv.size = 16) (m : Nat) (hm : s.size = 16 * m) (hs : s.size ≤ 4194304) (v : Value) (w : World) (he : EngAt w v (wayT false key)) :
    Calls Tryz.prog 41 #[v, .string iv, .string s] w fun e w' => e = .returned (.string (txt (catB fun j => chB (lockT key) iv (blk (byteOf s)) (j + 1)) (16 * m))) ∧ Below w.heap.size w w' := by
  obtain ⟨i0, hi, hz0, hz1, hz2⟩ := info_parts Tryz.info5
  have hL : ∀ b : ByteArray, b.size = 16 → (lockT key b).size = 16 := fun b hb => wayT_size false key b hk hb
  obtain ⟨C, hC⟩ : ∃ C : Nat → ByteArray, chB (lockT key) iv (blk (byteOf s)) = C := ⟨_, rfl⟩
  have hCz : ∀ j, (C j).size = 16 := fun j => by rw [← hC]; exact chB_size hL iv hv _ j
  have hC0 : C 0 = iv := by rw [← hC]; rfl
  have hCs : ∀ j, lockT key (xorS (blk (byteOf s) j) (C j)) = C (j + 1) := fun j => by rw [← hC]; rfl
  have HX := fun j W => Lib.hid (imXor_16 (blk (byteOf s) j) (C j) (blk_size _ _) (hCz j) W)
  have HT : Hid (∀ j W, Below w.heap.size w W → Calls Tryz.prog 71 #[v, .string (xorS (blk (byteOf s) j) (C j))] W fun e w' => e = .returned (.string (C (j + 1))) ∧ Below W.heap.size W w') := Lib.hid (fun j W hW => by
    have h := turn_one key (xorS (blk (byteOf s) j) (C j)) hk (xorS_size _ _) v W (he.up hW)
    rw [hCs] at h
    exact h)
  obtain ⟨r, hr⟩ : ∃ r, catB (fun j => C (j + 1)) = r := ⟨_, rfl⟩
  have HR := fun j => Lib.hid (show blk r j = C (j + 1) by rw [← hr]; exact catB_blk _ j (hCz (j + 1)))
  have HSL := fun j h W => Lib.hid (slice_16 s j h (by omega) W)
  have HU := fun j => Lib.hid (each_up r j)
  have HCZ := fun j => Lib.hid (hCz j)
  have hls : ((s.size : Nat) : Int) = 16 * (m : Int) := by omega
  have HM : Hid (m ≤ 262144 ∧ s.size = 16 * m) := Lib.hid ⟨by omega, hm⟩
  have HC0 := Lib.hid hC0
  rw [hC, hr]
  clear hL hC hCz hC0 hCs hr hk hv hm hs he
  go_enter Tryz.func41, Tryz.ntmps41
  go_wp2
  go_loopw [7, 8, 9] (fun v a i wr => ∃ j : Nat, j ≤ m ∧ i = .int .i64 (16 * (j : Int)) ∧ a = .string (C j) ∧ wr.ownsRow w.heap.size 5 1 v (16 * j) (cells8 (upTo r (16 * j))) ∧ Below w.heap.size w wr) (fun _ _ i _ => 16 * m - (intOf i).toNat)
  case atStart => exact ⟨0, by omega, rfl, by rw [HC0.out], World.ownsRow_nil _ _ _ _, Below.refl _ _⟩
  case round =>
    obtain ⟨j, hj, rfl, rfl, hown, hbel⟩ := hrel
    by_cases hlt : j < m
    · have hj1 : 16 * (j : Int) < 16 * (m : Int) := by omega
      have hj0 : (0 : Int) ≤ (j : Int) := by omega
      have q1 : IntKind.i64.wrap (16 * (j : Int) + 16) = 16 * (j : Int) + 16 := IntWalk.i64_in _ (by have := HM.out; omega)
      have hsl := fun W => (HSL j (by have := HM.out; omega) W).out
      have z2 := HCZ (j + 1)
      have HS := HU j
      rw [(HR j).out] at HS
      have CX := fun W => (HX j W).out
      have CT := fun W hW => Lib.hid (HT.out j W hW)
      have HO := Lib.hid hown
      have HB := Lib.hid hbel
      clear HSL HU HCZ HX HT hown hbel HR
      generalize xorS (blk (byteOf s) j) (C j) = X at *
      generalize blk (byteOf s) j = D1 at *
      generalize hD : C (j + 1) = D at *
      go_wp2_with fail
      refine (CX _).mono ?_; rintro e w2 ⟨rfl, hb2⟩
      have HO2 := Lib.hid (own_below HO.out hb2)
      have HB2 := Lib.hid (HB.out.trans (hb2.mono HB.out.size))
      clear hb2 HO HB CX
      go_wp2_with fail
      refine (CT _ HB2.out).out.mono ?_; rintro e w3 ⟨rfl, hb3⟩
      have HO3 := Lib.hid (own_below HO2.out hb3)
      have HB3 := Lib.hid (HB2.out.trans (hb3.mono HB2.out.size))
      clear hb3 HO2 HB2 CT
      go_wp2_with (at_builtin; refine stp ?_)
      refine unstp ?_
      refine Lib.wpList_append_own_string _ rfl (.tmp 26) (.tmp 27) 22 9 rfl w.heap.size 5 i0 Tryz.underlying22 Tryz.underlying9 hi hz0 hz1 hz2 _ (16 * j) (cells8 (upTo r (16 * j))) rfl HO3.out D rfl (by rw [z2.out]; have := HM.out; unfold maxLen; omega) (by rw [z2.out]; have := HM.out; omega) HB3.out.size ?_
      intro v5 w5 hown5 hgrow hnil
      rw [HS.out, z2.out, show 16 * j + 16 = 16 * (j + 1) by omega] at hown5
      have HB5 := Lib.hid (HB3.out.grown hgrow HB3.out.size (fun b hb => (HO3.out.lt b hb).1))
      have HO5 := Lib.hid hown5
      clear hown5 hgrow hnil HO3 HB3 HS
      go_wp2
      go_roundw
      case rel => exact ⟨j + 1, by omega, by go_num, by rw [hD], HO5.out, HB5.out⟩
      case measure => simp [intOf]; omega
    · obtain rfl : j = m := by omega
      have hconv := run_string_own Tryz.underlying22 Tryz.underlying5 Tryz.underlying9 hown
      have HB := Lib.hid hbel
      clear hown hbel HSL HU HCZ HX HT HR
      go_wp2
      go_ret
      exact ⟨rfl, HB.out⟩
end Go.Proofs.YtbcaldhcgoclgaaGreatDoor
set_option linter.unusedVariables false
set_option linter.unusedSimpArgs false
namespace Go.Proofs.YtbcaldhcgoclgaaGreatDoor
open Go Go.RowKit

theorem nought_lit : (⟨#[0, 0, 0, 0, 0, 0, 0, 0, 0, 0, 0, 0, 0, 0, 0, 0]⟩ : ByteArray) = zer16 := by decide +kernel
/-- the two keys under which a last block is turned; nothing for a key that isn't right. -/
def sk1 (key : ByteArray) : ByteArray := dblI (lockT key zer16)
def sk2 (key : ByteArray) : ByteArray := dblI (sk1 key)
theorem lock_size (key b : ByteArray) (hk : kOk key) (hb : b.size = 16) : (lockT key b).size = 16 := by rw [lockT_yes key b hk hb]; exact lockS_size _ _ _
theorem sk1_yes (key : ByteArray) (hk : kOk key) : sk1 key = sub1 (lockT key) := dblI_yes _ (lock_size key _ hk zer16_size)
theorem sk2_yes (key : ByteArray) (hk : kOk key) : sk2 key = sub2 (lockT key) := by
  unfold sk2
  rw [sk1_yes key hk]
  exact dblI_yes _ (sub1_size _)
theorem dblI_nil : dblI ⟨#[]⟩ = ⟨#[]⟩ := dblI_no _ (by decide)
theorem sk1_no (key : ByteArray) (hk : ¬ kOk key) : sk1 key = ⟨#[]⟩ := by
  unfold sk1
  rw [lockT_no key _ (fun h => hk h.1), dblI_nil]
theorem sk2_no (key : ByteArray) (hk : ¬ kOk key) : sk2 key = ⟨#[]⟩ := by
  unfold sk2
  rw [sk1_no key hk, dblI_nil]
theorem sk1_size (key : ByteArray) (hk : kOk key) : (sk1 key).size = 16 := by rw [sk1_yes key hk]; exact sub1_size _
theorem sk2_size (key : ByteArray) (hk : kOk key) : (sk2 key).size = 16 := by rw [sk2_yes key hk]; exact sub2_size _
set_option maxRecDepth 100000 in
set_option maxHeartbeats 1600000 in
theorem Subkeys_impl (key : ByteArray) (w : World) (hf : MxF w) :
    Calls Tryz.prog 17 #[.string key] w fun e w' => e = .returned (.tuple #[.string (sk1 key), .string (sk2 key)]) ∧ Below w.heap.size w w' := by
  have H1 := Lib.hid (Lock_impl key zer16 w hf)
  have H2 := fun W => Lib.hid (Doubled_impl (lockT key zer16) W)
  have H3 := fun W => Lib.hid (Doubled_impl (sk1 key) W)
  rw [show dblI (lockT key zer16) = sk1 key from rfl] at H2
  rw [show dblI (sk1 key) = sk2 key from rfl] at H3
  obtain ⟨x, hx⟩ : ∃ x, lockT key zer16 = x := ⟨_, rfl⟩
  rw [hx] at H1
  simp only [hx] at H2
  rw [← nought_lit] at H1
  clear hx
  generalize sk1 key = y at *
  generalize sk2 key = z at *
  clear hf
  go_enter Tryz.func17, Tryz.ntmps17
  go_wp2_with fail
  refine H1.out.mono ?_; rintro e w1 ⟨rfl, hb1⟩
  go_wp2_with fail
  refine (H2 _).out.mono ?_; rintro e w2 ⟨rfl, hb2⟩
  go_wp2_with fail
  refine (H3 _).out.mono ?_; rintro e w3 ⟨rfl, hb3⟩
  have hb12 := hb1.trans (hb2.mono hb1.size)
  have hb13 := hb12.trans (hb3.mono hb12.size)
  clear hb1 hb2 hb3 hb12
  go_wp2
  go_ret2
  exact ⟨rfl, hb13⟩
set_option maxRecDepth 100000 in
set_option maxHeartbeats 1600000 in
theorem Subkeys_spec (key : ByteArray) (w : World) :
    Calls Tryz.prog 18 #[.string key] w fun e w' => e = .returned (.tuple #[.string (sk1 key), .string (sk2 key)]) ∧ Below w.heap.size w w' := by
  have HK := fun W => Lib.hid (KeyOk_spec key W)
  by_cases hk : kOk key
  · rw [decide_eq_true hk] at HK
    have H0 := fun W => Lib.hid (l14Zero_spec 16 (by omega) W)
    rw [zer16_txt] at H0
    have H1 := fun W => Lib.hid (Lock_spec key zer16 W)
    have H2 := fun W => Lib.hid (Doubled_spec (lockT key zer16) W)
    have H3 := fun W => Lib.hid (Doubled_spec (sk1 key) W)
    rw [show dblI (lockT key zer16) = sk1 key from rfl] at H2
    rw [show dblI (sk1 key) = sk2 key from rfl] at H3
    generalize lockT key _ = x at *
    generalize sk1 key = y at *
    generalize sk2 key = z at *
    generalize zer16 = o at *
    clear hk
    go_enter Tryz.func18, Tryz.ntmps18
    go_wp2_with fail
    refine (HK _).out.mono ?_; rintro e w' ⟨rfl, rfl⟩
    go_wp2_with fail
    refine (H0 _).out.mono ?_; rintro e w0 ⟨rfl, hb0⟩
    go_wp2_with fail
    refine (H1 _).out.mono ?_; rintro e w1 ⟨rfl, hb1⟩
    go_wp2_with fail
    refine (H2 _).out.mono ?_; rintro e w2 ⟨rfl, hb2⟩
    go_wp2_with fail
    refine (H3 _).out.mono ?_; rintro e w3 ⟨rfl, hb3⟩
    have hb11 := hb0.trans (hb1.mono hb0.size)
    have hb12 := hb11.trans (hb2.mono hb11.size)
    have hb13 := hb12.trans (hb3.mono hb12.size)
    clear hb0 hb1 hb2 hb3 hb12 hb11
    go_wp2
    go_ret2
    exact ⟨rfl, hb13⟩
  · rw [decide_eq_false hk] at HK
    rw [sk1_no key hk, sk2_no key hk]
    go_enter Tryz.func18, Tryz.ntmps18
    go_wp2_with fail
    refine (HK _).out.mono ?_; rintro e w' ⟨rfl, rfl⟩
    go_wp2
    go_ret2
    exact ⟨rfl, Below.refl _ _⟩
end Go.Proofs.YtbcaldhcgoclgaaGreatDoor
set_option linter.unusedVariables false
set_option linter.unusedSimpArgs false
namespace Go.Proofs.YtbcaldhcgoclgaaGreatDoor
open Go Go.RowKit

def macT (key s : ByteArray) : ByteArray := if kOk key then macB (lockT key) s else ⟨#[]⟩
theorem macT_yes (key s : ByteArray) (hk : kOk key) : macT key s = macB (lockT key) s := if_pos hk
theorem macT_no (key s : ByteArray) (hk : ¬ kOk key) : macT key s = ⟨#[]⟩ := if_neg hk
theorem macT_size (key s : ByteArray) (hk : kOk key) : (macT key s).size = 16 := by
  rw [macT_yes key s hk]
  exact macB_size (fun b hb => lock_size key b hk hb) s
theorem lit_128 (w : World) : (w.alloc (.cells #[.int .u8 128] 5)).cell? ⟨w.heap.size, 0, none⟩ = some (cell8 128) :=
  (cell_of_row _ w.heap.size 0 _ _ _ (heap_alloc_new w _)).trans rfl
set_option maxRecDepth 100000 in
set_option maxHeartbeats 1600000 in
theorem lastOfMac_impl (key t : ByteArray) (hk : kOk key) (ht : t.size ≤ 16) (w : World) (hf : MxF w) :
    Calls Tryz.prog 43 #[.string key, .string t] w fun e w' => e = .returned (.string (macLast (lockT key) t)) ∧ Below w.heap.size w w' := by
  have HS := Lib.hid (Subkeys_impl key w hf)
  rw [sk1_yes key hk, sk2_yes key hk] at HS
  by_cases h16 : t.size = 16
  · have hr : macLast (lockT key) t = xorS t (sub1 (lockT key)) := if_pos h16
    have HX := fun W => Lib.hid (imXor_16 t (sub1 (lockT key)) h16 (sub1_size _) W)
    rw [← hr] at HX
    have k1 : (t.size : Int) = 16 := by omega
    generalize macLast (lockT key) t = r at *
    generalize sub1 (lockT key) = a at *
    generalize sub2 (lockT key) = b at *
    clear hf hk hr ht h16
    go_enter Tryz.func43, Tryz.ntmps43
    go_wp2_with fail
    refine HS.out.mono ?_; rintro e w1 ⟨rfl, hb1⟩
    go_wp2_with fail
    refine (HX _).out.mono ?_; rintro e w2 ⟨rfl, hb2⟩
    have hb := hb1.trans (hb2.mono hb1.size)
    clear hb1 hb2
    go_wp2
    go_ret
    exact ⟨rfl, hb⟩
  · have hr : macLast (lockT key) t = xorS (macPad t) (sub2 (lockT key)) := if_neg h16
    have hp := macPad_size t (by omega)
    have HX := fun W => Lib.hid (imXor_16 (macPad t) (sub2 (lockT key)) hp (sub2_size _) W)
    rw [← hr] at HX
    have HW := fun (g : Nat) (W : World) hx hg => Lib.hid (withBytes_impl t 128 1 (by omega) (by omega) (by omega) g 1 W hx hg)
    rw [show moreT t 128 1 = t ++ ⟨#[128]⟩ from rfl] at HW
    have HF := fun W => Lib.hid (filled_impl (t ++ ⟨#[128]⟩) (by rw [ByteArray.size_append]; show t.size + 1 ≤ _; omega) W)
    rw [show zpT (t ++ ⟨#[128]⟩) = macPad t from rfl] at HF
    have k1 : ¬ (t.size : Int) = 16 := by omega
    generalize macLast (lockT key) t = r at *
    generalize sub1 (lockT key) = a at *
    generalize sub2 (lockT key) = b at *
    generalize macPad t = p at *
    generalize t ++ (⟨#[128]⟩ : ByteArray) = q at *
    clear hf hk hr ht h16 hp
    go_enter Tryz.func43, Tryz.ntmps43
    go_wp2_with fail
    refine HS.out.mono ?_; rintro e w1 ⟨rfl, hb1⟩
    go_wp2_with fail
    have hb1a := hb1.alloc hb1.size (.cells #[.int .u8 128] 5)
    refine (HW w1.heap.size _ (fun j hj => by obtain rfl : j = 0 := (by omega); exact lit_128 w1) (by simp)).out.mono ?_; rintro e w2 ⟨rfl, hb2⟩
    have hb3 := hb1a.trans (hb2.mono hb1a.size)
    clear hb1 hb1a hb2
    go_wp2_with fail
    refine (HF _).out.mono ?_; rintro e w3 ⟨rfl, hb4⟩
    go_wp2_with fail
    refine (HX _).out.mono ?_; rintro e w4 ⟨rfl, hb5⟩
    have hb6 := hb3.trans (hb4.mono hb3.size)
    have hb := hb6.trans (hb5.mono hb6.size)
    clear hb3 hb4 hb5 hb6
    go_wp2
    go_ret
    exact ⟨rfl, hb⟩
theorem to_run (s : ByteArray) (A : Nat) (h : A ≤ s.size) (W : World) :
    (Instr.slice 9 (.string s) none (some (.int .i64 (A : Int))) none).run Tryz.prog W = .ok (.string (s.extract 0 A)) W := by
  rw [run_slice_string_h (P := Tryz.prog) W 9 s Tryz.underlying9 .i64 _ (by omega) (by omega)]
  rw [Int.toNat_natCast]
theorem from_run (s : ByteArray) (A : Nat) (h : A ≤ s.size) (W : World) :
    (Instr.slice 9 (.string s) (some (.int .i64 (A : Int))) none none).run Tryz.prog W = .ok (.string (s.extract A s.size)) W := by
  rw [run_slice_string_l (P := Tryz.prog) W 9 s Tryz.underlying9 .i64 _ (by omega) (by omega)]
  rw [Int.toNat_natCast]
/-- the last block of what is chained is the seal. -/
theorem mac_end (L : ByteArray → ByteArray) (hL : ∀ b, b.size = 16 → (L b).size = 16) (s : ByteArray) :
    (txt (catB fun j => chB L zer16 (blk (byteOf (s.extract 0 (16 * macN s) ++ macLast L (macTail s)))) (j + 1)) (16 * (macN s + 1))).extract (16 * macN s) (16 * (macN s + 1)) = macB L s := by
  refine b_ext _ _ 16 (by rw [ByteArray.size_extract, txt_size]; omega) (macB_size hL s) fun i hi => ?_
  rw [byte_cut _ _ _ _ (by rw [txt_size]; omega) (by omega), txt_byte _ _ _ (by omega)]
  unfold catB
  rw [show (16 * macN s + i) / 16 = macN s by omega, show (16 * macN s + i) % 16 = i by omega]
  show byteOf (chB L zer16 (blk (byteOf (s.extract 0 (16 * macN s) ++ macLast L (macTail s)))) (macN s + 1)) i = _
  rw [chB_ext L zer16 (q := macP L s) (macN s + 1) fun j hj => mac_text L s j (by omega)]
  rfl
set_option maxRecDepth 100000 in
set_option maxHeartbeats 1600000 in
theorem Mac_impl (key s : ByteArray) (hs : s.size ≤ 1048576) (w : World) (hf : MxF w) :
    Calls Tryz.prog 15 #[.string key, .string s] w fun e w' => e = .returned (.string (macT key s)) ∧ Below w.heap.size w w' := by
  have CK := fun W => Lib.hid (KeyOk_impl key W)
  by_cases hk : kOk key
  · rw [decide_eq_true hk] at CK
    rw [macT_yes key s hk]
    have hL : ∀ b : ByteArray, b.size = 16 → (lockT key b).size = 16 := fun b hb => lock_size key b hk hb
    have hml := macN_le s
    have hmt := macTail_le s
    have hls := macLast_size (lockT key) (macTail s)
    have hx : (s.extract 0 (16 * macN s)).size = 16 * macN s := by rw [ByteArray.size_extract]; omega
    have htz : (s.extract 0 (16 * macN s) ++ macLast (lockT key) (macTail s)).size = 16 * (macN s + 1) := by rw [ByteArray.size_append, hx, hls]; omega
    have hco : coT 1 key ⟨#[]⟩ = 0 := coT_ok 1 key ⟨#[]⟩ (by omega) hk rfl
    have HE := fun W (hW : MxF W) => Lib.hid (lockEng 1 key ⟨#[]⟩ hco W hW)
    have HF : Hid (∀ W, Below w.heap.size w W → MxF W) := Lib.hid (fun W hW => hf.below hW (Nat.le_refl _))
    have HM := fun W hW => Lib.hid (lastOfMac_impl key (macTail s) hk hmt W hW)
    have HC := fun v W he => Lib.hid (chained_impl key zer16 (s.extract 0 (16 * macN s) ++ macLast (lockT key) (macTail s)) hk zer16_size (macN s + 1) htz (by omega) v W he)
    have HP := fun W => Lib.hid (pieces_impl s.size (by omega) W)
    have hend := mac_end (lockT key) hL s
    have htxz : (txt (catB fun j => chB (lockT key) zer16 (blk (byteOf (s.extract 0 (16 * macN s) ++ macLast (lockT key) (macTail s)))) (j + 1)) (16 * (macN s + 1))).size = 16 * (macN s + 1) := txt_size _ _
    have hmb := macB_size hL s
    have HCL := fun W => Lib.hid (clone_pad (macB (lockT key) s) W (by omega))
    have s1 := to_run s (16 * macN s) hml
    have s2 := from_run s (16 * macN s) hml
    rw [show s.extract (16 * macN s) s.size = macTail s from rfl] at s2
    have hq : max (0 : Int) ((((s.size + 15) / 16 : Nat) : Int) - 1) = ((macN s : Nat) : Int) := by unfold macN; omega
    have hq2 : (16 : Int) * ((macN s : Nat) : Int) = ((16 * macN s : Nat) : Int) := by omega
    have hq3 : (((s.size + 15) / 16 : Nat) : Int) ≤ 100000 := by omega
    have hq4 : (0 : Int) ≤ (((s.size + 15) / 16 : Nat) : Int) := by omega
    have hn1 : ((macN s : Nat) : Int) ≤ 100000 := by omega
    have hn0 : (0 : Int) ≤ ((macN s : Nat) : Int) := by omega
    have hcat : ¬ 9223372036854775807 < (s.extract 0 (16 * macN s)).size + (macLast (lockT key) (macTail s)).size := by omega
    obtain ⟨T, hT⟩ : ∃ T, txt (catB fun j => chB (lockT key) zer16 (blk (byteOf (s.extract 0 (16 * macN s) ++ macLast (lockT key) (macTail s)))) (j + 1)) (16 * (macN s + 1)) = T := ⟨_, rfl⟩
    simp only [hT] at HC hend htxz
    rw [← nought_lit] at HC
    have s3 := from_run T (16 * macN s) (by omega)
    rw [htxz, hend] at s3
    obtain ⟨tx, htx⟩ : ∃ tx, s.extract 0 (16 * macN s) ++ macLast (lockT key) (macTail s) = tx := ⟨_, rfl⟩
    simp only [htx] at HC
    clear hT hend htxz htz hml hmt hx hmb hf hco hL hls
    generalize macB (lockT key) s = r at *
    generalize macLast (lockT key) (macTail s) = y at *
    generalize macTail s = z at *
    generalize s.extract 0 (16 * macN s) = x at *
    obtain ⟨A, hA⟩ : ∃ A, 16 * macN s = A := ⟨_, rfl⟩
    have hA1 : (A : Int) ≤ 1600000 := by omega
    have hA0 : (0 : Int) ≤ (A : Int) := by omega
    rw [hA] at s1 s2 s3 hq2
    generalize macN s = mN at *
    generalize (s.size + 15) / 16 = q at *
    clear hA
    go_enter Tryz.func15, Tryz.ntmps15
    go_wp2_with fail
    refine (CK _).out.mono ?_; rintro e w1 ⟨rfl, rfl⟩
    go_wp2_with fail
    refine (HP _).out.mono ?_; rintro e w1 ⟨rfl, rfl⟩
    go_wp2_with fail
    refine wp_region_held_drew (S := fun W => Below w.heap.size w W) (by kernel_rfl) (Below.refl w.heap.size w).drew (fun hS => ?_)
    have h0 := hS
    refine tk 0 (v := ?_) ?_ h0 ?_
    rotate_left
    · intro w hSw
      go_simp
      first | done | with_reducible rfl
    try simp only [lay]
    refine tk 2 (v := ?_) ?_ h0 ?_
    rotate_left
    · intro w hSw
      go_simp
      first | done | with_reducible rfl
    try simp only [lay]
    refine tk 3 (v := ?_) ?_ h0 ?_
    rotate_left
    · intro w hSw
      go_simp
      first | done | with_reducible rfl
    try simp only [lay]
    refine tk 4 (v := ?_) ?_ h0 ?_
    rotate_left
    · intro w hSw
      go_simp
      first | done | with_reducible rfl
    try simp only [lay]
    refine tk 5 (v := ?_) ?_ h0 ?_
    rotate_left
    · intro w hSw
      go_simp
      first | done | with_reducible rfl
    try simp only [lay]
    refine tk 6 (v := ?_) ?_ h0 ?_
    rotate_left
    · intro w hSw
      go_simp
      first | done | with_reducible rfl
    try simp only [lay]
    refine tk 7 (v := ?_) ?_ h0 ?_
    rotate_left
    · intro w hSw
      go_simp
      first | done | with_reducible rfl
    try simp only [lay]
    refine tk 8 (v := ?_) ?_ h0 ?_
    rotate_left
    · intro w hSw
      go_simp
      first | done | with_reducible rfl
    try simp only [lay]
    refine wpAnyH_ready (rs := [1]) (by kernel_rfl) (by simp) ?_
    refine AllReadyH.cons rfl (fun K hK => ?_) AllReadyH.nil
    go_simp
    refine ((HE _ (HF.out _ h0)).out).mono ?_; rintro e x1 ⟨v, rfl, hev, hq⟩
    have h1 := h0.trans (hq.mono h0.size)
    clear hq
    refine hK.out _ _ h1 (fun _ => ?_)
    clear hK K
    try simp only [lay]
    refine wpAnyH_ready (rs := [9]) (by kernel_rfl) (by simp) ?_
    refine AllReadyH.cons rfl (fun K hK => ?_) AllReadyH.nil
    go_simp
    refine ((HM _ (HF.out _ h1)).out).mono ?_; rintro e x2 ⟨rfl, hq⟩
    have h2 := h1.trans (hq.mono h1.size)
    have hev2 := hev.up hq
    clear hq hev
    refine hK.out _ _ h2 (fun _ => ?_)
    clear hK K
    try simp only [lay]
    refine tk 10 (v := ?_) ?_ h2 ?_
    rotate_left
    · intro w hSw
      go_simp
      first | done | with_reducible rfl
    try simp only [lay]
    refine wpAnyH_ready (rs := [11]) (by kernel_rfl) (by simp) ?_
    refine AllReadyH.cons rfl (fun K hK => ?_) AllReadyH.nil
    go_simp
    refine ((HC v _ hev2).out).mono ?_; rintro e x3 ⟨rfl, hq⟩
    have h3 := h2.trans (hq.mono h2.size)
    clear hq hev2
    refine hK.out _ _ h3 (fun _ => ?_)
    clear hK K
    try simp only [lay]
    refine tk 12 (v := ?_) ?_ h3 ?_
    rotate_left
    · intro w hSw
      go_simp
      first | done | with_reducible rfl
    try simp only [lay]
    refine wpAnyH_done (by kernel_rfl) ?_ _
    clear hS h0 h1 h2 HE HM HC HF s1 s2
    go_wp2_with fail
    refine (HCL _).out.mono ?_; rintro e x4 ⟨rfl, hq⟩
    have h4 := h3.trans (hq.mono h3.size)
    clear hq h3
    go_wp2
    go_ret
    exact ⟨rfl, h4⟩
  · rw [decide_eq_false hk] at CK
    rw [macT_no key s hk]
    go_enter Tryz.func15, Tryz.ntmps15
    go_wp2_with fail
    refine (CK _).out.mono ?_; rintro e w1 ⟨rfl, rfl⟩
    go_wp2
    go_ret
    exact ⟨rfl, Below.refl _ _⟩
theorem toList_data (a : ByteArray) : a.toList = a.data.toList := ByteArray.toList_eq a
theorem pre_yes (m t : ByteArray) (h : t.size ≤ m.size) : Lib.hasPrefix m.data.toList t.data.toList = ((m.extract 0 t.size).toList == t.toList) := by
  rw [toList_data, toList_data]
  have e : (m.extract 0 t.size).data.toList = m.data.toList.take t.data.toList.length := by
    rw [ByteArray.data_extract, Array.toList_extract]
    simp [List.extract]
  rw [e]
  unfold Lib.hasPrefix
  rw [Bool.eq_iff_iff, List.isPrefixOf_iff_prefix, List.prefix_iff_eq_take, beq_iff_eq]
  exact ⟨fun h => h.symm, fun h => h.symm⟩
theorem pre_no (m t : ByteArray) (h : m.size < t.size) : Lib.hasPrefix m.data.toList t.data.toList = false := by
  unfold Lib.hasPrefix
  rw [Bool.eq_false_iff]
  intro e
  have h2 := (List.isPrefixOf_iff_prefix.1 e).length_le
  have e1 : t.data.toList.length = t.size := by simp
  have e2 : m.data.toList.length = m.size := by simp
  omega
def okT (key s tag : ByteArray) : Bool := decide (4 ≤ tag.size) && Lib.hasPrefix (macT key s).data.toList tag.data.toList
theorem MacOk_impl (key s tag : ByteArray) (hs : s.size ≤ 1048576) (w : World) (hf : MxF w) :
    Calls Tryz.prog 22 #[.string key, .string s, .string tag] w fun e w' => e = .returned (.bool (okT key s tag)) ∧ Below w.heap.size w w' := by
  have HM := Lib.hid (Mac_impl key s hs w hf)
  have HP := fun W => Lib.hid (Tryz.strings_HasPrefix (macT key s) tag W)
  unfold okT
  generalize macT key s = m at *
  generalize Lib.hasPrefix m.data.toList tag.data.toList = b at *
  by_cases h : 4 ≤ tag.size
  · have h1 : (4 : Int) ≤ (tag.size : Int) := by omega
    rw [decide_eq_true h, Bool.true_and]
    clear h hs hf
    go_enter Tryz.func22, Tryz.ntmps22
    go_wp2_with fail
    refine HM.out.mono ?_; rintro e w1 ⟨rfl, hb1⟩
    go_wp2_with fail
    refine (HP _).out.mono ?_; rintro e w2 ⟨rfl, rfl⟩
    cases b <;>
    · go_wp2
      go_ret
      exact ⟨rfl, hb1⟩
  · have h1 : ¬ (4 : Int) ≤ (tag.size : Int) := by omega
    rw [decide_eq_false h, Bool.false_and]
    clear h hs hf
    go_enter Tryz.func22, Tryz.ntmps22
    go_wp2
    go_ret
    exact ⟨rfl, Below.refl _ _⟩
end Go.Proofs.YtbcaldhcgoclgaaGreatDoor
set_option linter.unusedVariables false
set_option linter.unusedSimpArgs false
namespace Go.Proofs.YtbcaldhcgoclgaaGreatDoor
open Go.RowKit
attribute [local go_sem ↓] Go.wp_at_zero Go.wp_at_succ

theorem full_text (a : ByteArray) (h : a.size = 16) : a.toList.isEmpty = false := by
  rw [toList_data, List.isEmpty_eq_false_iff]
  intro e
  have h2 := congrArg List.length e
  have e1 : a.data.toList.length = a.size := by simp
  rw [e1, h] at h2
  cases h2
theorem macPad_cat (t : ByteArray) (h : t.size ≤ 15) : t ++ ⟨#[128]⟩ ++ txt (fun _ => 0) (15 - t.size) = macPad t := by
  unfold macPad zpT
  have e : zpN (t ++ ⟨#[128]⟩) = 15 - t.size := by
    unfold zpN
    rw [ByteArray.size_append]
    show 16 * ((t.size + 1 + 15) / 16) - (t.size + 1) = _
    omega
  rw [e]
/-- what the chain of whole blocks and the last one come to. -/
theorem mac_last (key s : ByteArray) : lockT key (xorS (chB (lockT key) zer16 (blk (byteOf s)) (macN s)) (macLast (lockT key) (macTail s))) = macB (lockT key) s := by
  rw [macB_eq, xorS_comm]
set_option maxRecDepth 100000 in
set_option maxHeartbeats 3200000 in
theorem Mac_spec_a (key s : ByteArray) (hk : kOk key) (hs : s.size ≤ 1048576) (h0 : s.size % 16 = 0) (h1 : 0 < s.size) (w : World) :
    Calls Tryz.prog 19 #[.string key, .string s] w fun e w' => e = .returned (.string (macB (lockT key) s)) ∧ Below w.heap.size w w' := by
  obtain ⟨mN, hmN⟩ : ∃ mN, macN s = mN := ⟨_, rfl⟩
  have hml := macN_le s
  have hmt := macTail_le s
  have hts := macTail_size s
  have hfr := from_run s (16 * macN s) hml
  rw [show s.extract (16 * macN s) s.size = macTail s from rfl] at hfr
  rw [hmN] at hml hts hfr
  rw [show ((16 * mN : Nat) : Int) = 16 * (mN : Int) by omega] at hfr
  have HK := fun W => Lib.hid (Subkeys_spec key W)
  rw [sk1_yes key hk, sk2_yes key hk] at HK
  have hne := full_text _ (sub1_size (lockT key))
  have HZ := fun W => Lib.hid (l14Zero_spec 16 (by omega) W)
  rw [zer16_txt] at HZ
  obtain ⟨C, hC⟩ : ∃ C : Nat → ByteArray, chB (lockT key) zer16 (blk (byteOf s)) = C := ⟨_, rfl⟩
  have hL : ∀ b : ByteArray, b.size = 16 → (lockT key b).size = 16 := fun b hb => lock_size key b hk hb
  have hCz : ∀ j, (C j).size = 16 := fun j => by rw [← hC]; exact chB_size hL zer16 zer16_size _ j
  have hC0 : C 0 = zer16 := by rw [← hC]; rfl
  have hCs : ∀ j, lockT key (xorS (C j) (blk (byteOf s) j)) = C (j + 1) := fun j => by rw [xorS_comm, ← hC]; rfl
  have HX := fun j W => Lib.hid (gfXor_spec (C j) (blk (byteOf s) j) (hCz j) (blk_size _ _) W)
  have HLk := fun j W => Lib.hid (Lock_spec key (xorS (C j) (blk (byteOf s) j)) W)
  simp only [hCs] at HLk
  have HSL := fun j h W => Lib.hid (slice_16 s j h (by omega) W)
  have HC0 := Lib.hid hC0
  have hlast := mac_last key s
  rw [hmN, hC] at hlast
  have hyz := macLast_size (lockT key) (macTail s)
  have HXl := fun W => Lib.hid (gfXor_spec (C mN) (macLast (lockT key) (macTail s)) (hCz mN) hyz W)
  have HLl := fun W => Lib.hid (Lock_spec key (xorS (C mN) (macLast (lockT key) (macTail s))) W)
  rw [hlast] at HLl
  have hm1 : (mN : Int) ≤ 262144 := by omega
  have hm0 : (0 : Int) ≤ (mN : Int) := by omega
  have hs1 : (s.size : Int) ≤ 4194304 := by omega
  have hs0 : (0 : Int) ≤ (s.size : Int) := by omega
  have hq : (s.size : Int).tdiv 16 = ((s.size / 16 : Nat) : Int) := by rw [Int.tdiv_eq_ediv_of_nonneg (by omega)]; omega
  have hqq : ((s.size / 16 : Nat) : Int) ≤ 262144 := by omega
  have hqq0 : (0 : Int) ≤ ((s.size / 16 : Nat) : Int) := by omega
  have HML := Lib.hid hml
  have h16 : (macTail s).size = 16 := by rw [hts, ← hmN]; unfold macN; omega
  have e1 : ((s.size / 16 : Nat) : Int) * 16 = (s.size : Int) := by omega
  have e2 : (0 : Int) < (s.size : Int) := by omega
  have e3 : (s.size : Int) - 16 = 16 * (mN : Int) := by rw [← hmN]; unfold macN; omega
  have HY := fun W => Lib.hid (gfXor_spec (macTail s) (sub1 (lockT key)) h16 (sub1_size _) W)
  rw [show xorS (macTail s) (sub1 (lockT key)) = macLast (lockT key) (macTail s) from (if_pos h16).symm] at HY
  have k16 : ((macTail s).size : Int) = 16 := by omega
  clear hC hCs hL hk hlast hmN hC0 hts hml hmt
  generalize macLast (lockT key) (macTail s) = Y at *
  generalize sub1 (lockT key) = a at *
  generalize sub2 (lockT key) = b at *
  generalize macTail s = z at *
  generalize macB (lockT key) s = R at *
  generalize s.size / 16 = q at *
  go_enter Tryz.func19, Tryz.ntmps19
  go_wp2_with fail
  refine (HK _).out.mono ?_; rintro e w1 ⟨rfl, hb1⟩
  go_wp2_with fail
  refine (HY _).out.mono ?_; rintro e w2 ⟨rfl, hq⟩
  have hb2 := hb1.trans (hq.mono hb1.size)
  clear hq hb1
  go_wp2_with fail
  refine (HZ _).out.mono ?_; rintro e w3 ⟨rfl, hq⟩
  have hb3 := hb2.trans (hq.mono hb2.size)
  clear hq hb2
  go_wp2_with fail
  go_loopw [9, 10] (fun o v wr => ∃ k : Nat, k ≤ mN ∧ v = .int .i64 (16 * (k : Int)) ∧ o = .string (C k) ∧ Below w.heap.size w wr) (fun _ v _ => 16 * mN - (intOf v).toNat)
  case atStart => exact ⟨0, by omega, rfl, by rw [HC0.out], hb3⟩
  case round =>
    clear hb3
    obtain ⟨k, hk2, rfl, rfl, hbel⟩ := hrel
    by_cases hlt : k < mN
    · have hk1 : 16 * (k : Int) < 16 * (mN : Int) := by omega
      have hk0 : (0 : Int) ≤ (k : Int) := by omega
      have hsl := fun W => (HSL k (by have := HML.out; omega) W).out
      have hX := fun W => (HX k W).out
      have hT := fun W => (HLk k W).out
      clear HSL HX HLk HXl HLl HY HZ HK
      generalize blk (byteOf s) k = bk at *
      generalize xorS (C k) bk = xk at *
      go_wp2_with fail
      refine (hX _).mono ?_; rintro e w4 ⟨rfl, hb4⟩
      go_wp2_with fail
      refine (hT _).mono ?_; rintro e w5 ⟨rfl, hb5⟩
      have hb6 := hbel.trans (hb4.mono hbel.size)
      have hb7 := hb6.trans (hb5.mono hb6.size)
      clear hb4 hb5 hb6 hsl hX hT
      go_wp2
      go_roundw
      case rel => exact ⟨k + 1, by omega, by go_num, rfl, hb7⟩
      case measure => simp [intOf]; omega
    · obtain rfl : k = mN := by omega
      have hneg : ¬ (16 * (k : Int)) < 16 * (k : Int) := by omega
      clear HSL HX HLk HY HZ HK
      generalize xorS (C k) Y = xl at *
      go_wp2_with fail
      refine (HXl _).out.mono ?_; rintro e w4 ⟨rfl, hb4⟩
      go_wp2_with fail
      refine (HLl _).out.mono ?_; rintro e w5 ⟨rfl, hb5⟩
      have hb6 := hbel.trans (hb4.mono hbel.size)
      have hb7 := hb6.trans (hb5.mono hb6.size)
      clear hb4 hb5 hb6
      go_wp2
      go_ret
      exact ⟨rfl, hb7⟩
set_option maxRecDepth 100000 in
set_option maxHeartbeats 3200000 in
theorem Mac_spec_b (key s : ByteArray) (hk : kOk key) (hs : s.size ≤ 1048576) (h0 : s.size = 0) (w : World) :
    Calls Tryz.prog 19 #[.string key, .string s] w fun e w' => e = .returned (.string (macB (lockT key) s)) ∧ Below w.heap.size w w' := by
  have hmN : macN s = 0 := by unfold macN; omega
  have htl : macTail s = s := by
    unfold macTail
    rw [hmN]
    refine b_ext _ _ 0 (by rw [ByteArray.size_extract]; omega) h0 fun i hi => by omega
  have HK := fun W => Lib.hid (Subkeys_spec key W)
  rw [sk1_yes key hk, sk2_yes key hk] at HK
  have hne := full_text _ (sub1_size (lockT key))
  have HZ := fun W => Lib.hid (l14Zero_spec 16 (by omega) W)
  rw [zer16_txt] at HZ
  have hlast := mac_last key s
  rw [hmN, htl] at hlast
  have hlast2 : lockT key (xorS zer16 (macLast (lockT key) s)) = macB (lockT key) s := hlast
  have hyz := macLast_size (lockT key) s
  have HXl := fun W => Lib.hid (gfXor_spec zer16 (macLast (lockT key) s) zer16_size hyz W)
  have HLl := fun W => Lib.hid (Lock_spec key (xorS zer16 (macLast (lockT key) s)) W)
  rw [hlast2] at HLl
  have e1 : (s.size : Int) = 0 := by omega
  have h16 : ¬ s.size = 16 := by omega
  have hmp := macPad_cat s (by omega)
  rw [h0] at hmp
  have hps := macPad_size s (by omega)
  have HY := fun W => Lib.hid (gfXor_spec (macPad s) (sub2 (lockT key)) hps (sub2_size _) W)
  rw [show xorS (macPad s) (sub2 (lockT key)) = macLast (lockT key) s from (if_neg h16).symm] at HY
  have HZ2 := fun W => Lib.hid (l14Zero_spec 15 (by omega) W)
  have hz15 : (txt (fun _ => 0) 15).size = 15 := txt_size _ _
  have hc1 : (s ++ ⟨#[128]⟩).size = 1 := by rw [ByteArray.size_append, h0]; rfl
  have k1 : ¬ 9223372036854775807 < s.size + 1 := by omega
  have k2 : ¬ 9223372036854775807 < (s ++ ⟨#[128]⟩).size + (txt (fun _ => 0) 15).size := by omega
  have hmp2 : s ++ ⟨#[128]⟩ ++ txt (fun _ => 0) 15 = macPad s := hmp
  clear hmp
  generalize macLast (lockT key) s = Y at *
  generalize macPad s = p at *
  generalize sub1 (lockT key) = a at *
  generalize sub2 (lockT key) = b at *
  generalize macB (lockT key) s = R at *
  generalize txt (fun _ => 0) 15 = o15 at *
  clear hmN htl hlast hlast2 hk hyz hs h0
  go_enter Tryz.func19, Tryz.ntmps19
  go_wp2_with fail
  refine (HK _).out.mono ?_; rintro e w1 ⟨rfl, hb1⟩
  go_wp2_with fail
  refine (HZ2 _).out.mono ?_; rintro e w2a ⟨rfl, hq⟩
  have hb1a := hb1.trans (hq.mono hb1.size)
  clear hq hb1
  go_wp2_with fail
  refine (HY _).out.mono ?_; rintro e w2 ⟨rfl, hq⟩
  have hb2 := hb1a.trans (hq.mono hb1a.size)
  clear hq hb1a
  go_wp2_with fail
  refine (HZ _).out.mono ?_; rintro e w3 ⟨rfl, hq⟩
  have hb3 := hb2.trans (hq.mono hb2.size)
  clear hq hb2
  go_wp2_with fail
  clear HK HZ2 HY HZ
  go_loopw [9, 10] (fun o v wr => v = .int .i64 0 ∧ o = .string zer16 ∧ Below w.heap.size w wr) (fun _ v _ => 0)
  case atStart => exact ⟨rfl, rfl, hb3⟩
  case round =>
    clear hb3
    obtain ⟨rfl, rfl, hbel⟩ := hrel
    generalize xorS zer16 Y = xl at *
    go_wp2_with fail
    refine (HXl _).out.mono ?_; rintro e w4 ⟨rfl, hb4⟩
    go_wp2_with fail
    refine (HLl _).out.mono ?_; rintro e w5 ⟨rfl, hb5⟩
    have hb6 := hbel.trans (hb4.mono hbel.size)
    have hb7 := hb6.trans (hb5.mono hb6.size)
    clear hb4 hb5 hb6
    go_wp2
    go_ret
    exact ⟨rfl, hb7⟩
set_option maxRecDepth 100000 in
set_option maxHeartbeats 3200000 in
theorem Mac_spec_c (key s : ByteArray) (hk : kOk key) (hs : s.size ≤ 1048576) (h0 : ¬ s.size % 16 = 0) (w : World) :
    Calls Tryz.prog 19 #[.string key, .string s] w fun e w' => e = .returned (.string (macB (lockT key) s)) ∧ Below w.heap.size w w' := by
  obtain ⟨mN, hmN⟩ : ∃ mN, macN s = mN := ⟨_, rfl⟩
  have hml := macN_le s
  have hmt := macTail_le s
  have hts := macTail_size s
  have hfr := from_run s (16 * macN s) hml
  rw [show s.extract (16 * macN s) s.size = macTail s from rfl] at hfr
  rw [hmN] at hml hts hfr
  rw [show ((16 * mN : Nat) : Int) = 16 * (mN : Int) by omega] at hfr
  have HK := fun W => Lib.hid (Subkeys_spec key W)
  rw [sk1_yes key hk, sk2_yes key hk] at HK
  have hne := full_text _ (sub1_size (lockT key))
  have HZ := fun W => Lib.hid (l14Zero_spec 16 (by omega) W)
  rw [zer16_txt] at HZ
  obtain ⟨C, hC⟩ : ∃ C : Nat → ByteArray, chB (lockT key) zer16 (blk (byteOf s)) = C := ⟨_, rfl⟩
  have hL : ∀ b : ByteArray, b.size = 16 → (lockT key b).size = 16 := fun b hb => lock_size key b hk hb
  have hCz : ∀ j, (C j).size = 16 := fun j => by rw [← hC]; exact chB_size hL zer16 zer16_size _ j
  have hC0 : C 0 = zer16 := by rw [← hC]; rfl
  have hCs : ∀ j, lockT key (xorS (C j) (blk (byteOf s) j)) = C (j + 1) := fun j => by rw [xorS_comm, ← hC]; rfl
  have HX := fun j W => Lib.hid (gfXor_spec (C j) (blk (byteOf s) j) (hCz j) (blk_size _ _) W)
  have HLk := fun j W => Lib.hid (Lock_spec key (xorS (C j) (blk (byteOf s) j)) W)
  simp only [hCs] at HLk
  have HSL := fun j h W => Lib.hid (slice_16 s j h (by omega) W)
  have HC0 := Lib.hid hC0
  have hlast := mac_last key s
  rw [hmN, hC] at hlast
  have hyz := macLast_size (lockT key) (macTail s)
  have HXl := fun W => Lib.hid (gfXor_spec (C mN) (macLast (lockT key) (macTail s)) (hCz mN) hyz W)
  have HLl := fun W => Lib.hid (Lock_spec key (xorS (C mN) (macLast (lockT key) (macTail s))) W)
  rw [hlast] at HLl
  have hm1 : (mN : Int) ≤ 262144 := by omega
  have hm0 : (0 : Int) ≤ (mN : Int) := by omega
  have hs1 : (s.size : Int) ≤ 4194304 := by omega
  have hs0 : (0 : Int) ≤ (s.size : Int) := by omega
  have hq : (s.size : Int).tdiv 16 = ((s.size / 16 : Nat) : Int) := by rw [Int.tdiv_eq_ediv_of_nonneg (by omega)]; omega
  have hqq : ((s.size / 16 : Nat) : Int) ≤ 262144 := by omega
  have hqq0 : (0 : Int) ≤ ((s.size / 16 : Nat) : Int) := by omega
  have HML := Lib.hid hml
  have h16 : ¬ (macTail s).size = 16 := by rw [hts, ← hmN]; unfold macN; omega
  have e1 : ((s.size / 16 : Nat) : Int) * 16 = 16 * (mN : Int) := by rw [← hmN]; unfold macN; omega
  have e2 : ¬ 16 * (mN : Int) = (s.size : Int) := by rw [← hmN]; unfold macN; omega
  have hmp := macPad_cat (macTail s) (by omega)
  have hps := macPad_size (macTail s) (by omega)
  have HY := fun W => Lib.hid (gfXor_spec (macPad (macTail s)) (sub2 (lockT key)) hps (sub2_size _) W)
  rw [show xorS (macPad (macTail s)) (sub2 (lockT key)) = macLast (lockT key) (macTail s) from (if_neg h16).symm] at HY
  have HZ2 := fun W => Lib.hid (l14Zero_spec (15 - (macTail s).size) (by omega) W)
  have k16 : ¬ ((macTail s).size : Int) = 16 := by omega
  have k15 : (15 : Int) - ((macTail s).size : Int) = ((15 - (macTail s).size : Nat) : Int) := by omega
  have hz15 : (txt (fun _ => 0) (15 - (macTail s).size)).size = 15 - (macTail s).size := txt_size _ _
  have hc1 : (macTail s ++ ⟨#[128]⟩).size = (macTail s).size + 1 := by rw [ByteArray.size_append]; rfl
  have k1 : ¬ 9223372036854775807 < (macTail s).size + 1 := by omega
  have k2 : ¬ 9223372036854775807 < (macTail s ++ ⟨#[128]⟩).size + (txt (fun _ => 0) (15 - (macTail s).size)).size := by omega
  have k3 : ¬ 9223372036854775807 < (macTail s).size + 1 + (15 - (macTail s).size) := by omega
  have kt : ((macTail s).size : Int) ≤ 15 := by omega
  have k4 : ((15 - (macTail s).size : Nat) : Int) ≤ 15 := by omega
  have k5 : (0 : Int) ≤ ((15 - (macTail s).size : Nat) : Int) := by omega
  clear hC hCs hL hk hlast hmN hC0 hts hml hmt
  generalize macLast (lockT key) (macTail s) = Y at *
  generalize macPad (macTail s) = p at *
  generalize sub1 (lockT key) = a at *
  generalize sub2 (lockT key) = b at *
  generalize macB (lockT key) s = R at *
  generalize txt (fun _ => 0) (15 - (macTail s).size) = o15 at *
  generalize macTail s = z at *
  generalize s.size / 16 = q at *
  go_enter Tryz.func19, Tryz.ntmps19
  go_wp2_with fail
  refine (HK _).out.mono ?_; rintro e w1 ⟨rfl, hb1⟩
  go_wp2_with fail
  refine (HZ2 _).out.mono ?_; rintro e w2a ⟨rfl, hq⟩
  have hb1a := hb1.trans (hq.mono hb1.size)
  clear hq hb1
  go_wp2_with fail
  refine (HY _).out.mono ?_; rintro e w2 ⟨rfl, hq⟩
  have hb2 := hb1a.trans (hq.mono hb1a.size)
  clear hq hb1a
  go_wp2_with fail
  refine (HZ _).out.mono ?_; rintro e w3 ⟨rfl, hq⟩
  have hb3 := hb2.trans (hq.mono hb2.size)
  clear hq hb2
  go_wp2_with fail
  go_loopw [9, 10] (fun o v wr => ∃ k : Nat, k ≤ mN ∧ v = .int .i64 (16 * (k : Int)) ∧ o = .string (C k) ∧ Below w.heap.size w wr) (fun _ v _ => 16 * mN - (intOf v).toNat)
  case atStart => exact ⟨0, by omega, rfl, by rw [HC0.out], hb3⟩
  case round =>
    clear hb3
    obtain ⟨k, hk2, rfl, rfl, hbel⟩ := hrel
    by_cases hlt : k < mN
    · have hk1 : 16 * (k : Int) < 16 * (mN : Int) := by omega
      have hk0 : (0 : Int) ≤ (k : Int) := by omega
      have hsl := fun W => (HSL k (by have := HML.out; omega) W).out
      have hX := fun W => (HX k W).out
      have hT := fun W => (HLk k W).out
      clear HSL HX HLk HXl HLl HY HZ HK
      generalize blk (byteOf s) k = bk at *
      generalize xorS (C k) bk = xk at *
      go_wp2_with fail
      refine (hX _).mono ?_; rintro e w4 ⟨rfl, hb4⟩
      go_wp2_with fail
      refine (hT _).mono ?_; rintro e w5 ⟨rfl, hb5⟩
      have hb6 := hbel.trans (hb4.mono hbel.size)
      have hb7 := hb6.trans (hb5.mono hb6.size)
      clear hb4 hb5 hb6 hsl hX hT
      go_wp2
      go_roundw
      case rel => exact ⟨k + 1, by omega, by go_num, rfl, hb7⟩
      case measure => simp [intOf]; omega
    · obtain rfl : k = mN := by omega
      have hneg : ¬ (16 * (k : Int)) < 16 * (k : Int) := by omega
      clear HSL HX HLk HY HZ HK
      generalize xorS (C k) Y = xl at *
      go_wp2_with fail
      refine (HXl _).out.mono ?_; rintro e w4 ⟨rfl, hb4⟩
      go_wp2_with fail
      refine (HLl _).out.mono ?_; rintro e w5 ⟨rfl, hb5⟩
      have hb6 := hbel.trans (hb4.mono hbel.size)
      have hb7 := hb6.trans (hb5.mono hb6.size)
      clear hb4 hb5 hb6
      go_wp2
      go_ret
      exact ⟨rfl, hb7⟩
set_option maxRecDepth 100000 in
set_option maxHeartbeats 1600000 in
theorem Mac_spec (key s : ByteArray) (hs : s.size ≤ 1048576) (w : World) :
    Calls Tryz.prog 19 #[.string key, .string s] w fun e w' => e = .returned (.string (macT key s)) ∧ Below w.heap.size w w' := by
  by_cases hk : kOk key
  · rw [macT_yes key s hk]
    by_cases h0 : s.size = 0
    · exact Mac_spec_b key s hk hs h0 w
    · by_cases h1 : s.size % 16 = 0
      · exact Mac_spec_a key s hk hs h1 (by omega) w
      · exact Mac_spec_c key s hk hs h1 w
  · have HK := fun W => Lib.hid (Subkeys_spec key W)
    rw [sk1_no key hk, sk2_no key hk] at HK
    rw [macT_no key s hk]
    clear hk hs
    go_enter Tryz.func19, Tryz.ntmps19
    go_wp2_with fail
    refine (HK _).out.mono ?_; rintro e w1 ⟨rfl, hb1⟩
    go_wp2
    go_ret
    exact ⟨rfl, hb1⟩
set_option maxRecDepth 100000 in
set_option maxHeartbeats 1600000 in
theorem MacOk_spec (key s tag : ByteArray) (hs : s.size ≤ 1048576) (w : World) :
    Calls Tryz.prog 24 #[.string key, .string s, .string tag] w fun e w' => e = .returned (.bool (okT key s tag)) ∧ Below w.heap.size w w' := by
  have HM := Lib.hid (Mac_spec key s hs w)
  have hy := fun h => pre_yes (macT key s) tag h
  have hn := fun h => pre_no (macT key s) tag h
  have hr := fun (h : tag.size ≤ (macT key s).size) W => to_run (macT key s) tag.size h W
  unfold okT
  generalize macT key s = m at *
  have HI := fun W => Lib.hid (in_any (tag.size : Int) 4 (m.size : Int) W)
  clear hs
  by_cases h : (4 : Int) ≤ (tag.size : Int) ∧ (tag.size : Int) ≤ (m.size : Int)
  · rw [decide_eq_true h] at HI
    rw [decide_eq_true (show 4 ≤ tag.size by omega), Bool.true_and, hy (by omega)]
    have hr2 := hr (by omega)
    have h4 : (0 : Int) ≤ (tag.size : Int) := by omega
    have h5 : (tag.size : Int) ≤ (m.size : Int) := h.2
    clear hy hn hr h
    generalize hx : m.extract 0 tag.size = x at *
    clear hx
    go_enter Tryz.func24, Tryz.ntmps24
    go_wp2_with fail
    refine HM.out.mono ?_; rintro e w1 ⟨rfl, hb1⟩
    go_wp2_with fail
    refine (HI _).out.mono ?_; rintro e w2 ⟨rfl, rfl⟩
    go_wp2
    go_ret
    exact ⟨rfl, hb1⟩
  · rw [decide_eq_false h] at HI
    have hb : (decide (4 ≤ tag.size) && Lib.hasPrefix m.data.toList tag.data.toList) = false := by
      by_cases h4 : 4 ≤ tag.size
      · rw [hn (by omega), Bool.and_false]
      · rw [decide_eq_false h4, Bool.false_and]
    rw [hb]
    clear hy hn hr h hb
    go_enter Tryz.func24, Tryz.ntmps24
    go_wp2_with fail
    refine HM.out.mono ?_; rintro e w1 ⟨rfl, hb1⟩
    go_wp2_with fail
    refine (HI _).out.mono ?_; rintro e w2 ⟨rfl, rfl⟩
    go_wp2
    go_ret
    exact ⟨rfl, hb1⟩
end Go.Proofs.YtbcaldhcgoclgaaGreatDoor
