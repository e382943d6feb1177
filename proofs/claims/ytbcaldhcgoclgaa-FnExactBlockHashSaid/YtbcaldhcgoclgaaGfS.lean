/-
  What spec's BlockTimes answers: blocks moved down byte by byte.
-/
import Derived.Test.YtbcaldhcgoclgaaGf
import Derived.Test.YtbcaldhcgoclgaaPadW
import Derived.Test.YtbcaldhcgoclgaaSums
import Derived.Deep.RegionHeld3
import Derived.WalkKit
import Derived.LoopTactic
import Derived.OwnWalk
import Derived.WalkLawsBesides
import Derived.WalkSpells
import Derived.Outline
import Derived.Below
import Derived.IntWalk
import Derived.Laws.OwnMore
set_option linter.unusedVariables false
set_option linter.unusedSimpArgs false
namespace Go.Proofs.Ytbcaldhcgoclgaa
open Go.RowKit

theorem txt_zero (n : Nat) : (⟨(List.replicate n (0 : UInt8)).toArray⟩ : ByteArray) = txt (fun _ => 0) n := by
  unfold txt
  congr 2
  apply List.ext_getElem?
  intro i
  by_cases h : i < n
  · rw [upTo_at _ n i h, List.getElem?_replicate, if_pos h]
  · rw [List.getElem?_eq_none (by simp; omega), List.getElem?_eq_none (by rw [upTo_length]; omega)]
theorem zer16_txt : txt (fun _ => 0) 16 = zer16 := by
  refine b_ext _ _ 16 (txt_size _ _) zer16_size fun i hi => ?_
  rw [txt_byte _ _ _ hi, zer16_byte i hi]
theorem made_conv {w : World} {g n : Nat} (hn : n ≤ 281474976710656) (h : w.heap[g]? = some (.cells (mk8 n) 5 (0, 0))) : (convert 22 9 (.slice (some ⟨g, 0, none⟩) n n)).run Try.prog w = .ok (.string (txt (fun _ => 0) n)) w := by
  have ho : w.ownsRow 0 5 1 (.slice (some ⟨g, 0, none⟩) n n) n (cells8 (List.replicate n 0)) := by
    rw [← mk8_list]
    exact ⟨by simp [mk8_size], .inr ⟨g, n, mk8 n, rfl, Nat.zero_le _, h, Nat.le_refl _, by unfold maxLen; omega, by rw [mk8_size]; omega, List.take_of_length_le (by simp [mk8_size])⟩⟩
  have := run_string_own Try.underlying22 Try.underlying5 Try.underlying9 ho
  rw [txt_zero] at this
  exact this
theorem l14Zero_spec (n : Nat) (hn : n ≤ 281474976710656) (w : World) :
    Calls Try.prog 21 #[.int .i64 (n : Int)] w fun e w' => e = .returned (.string (txt (fun _ => 0) n)) ∧ Below w.heap.size w w' := by
  obtain ⟨i0, hi, hz0, hz1, hz2⟩ := info_parts Try.info5
  have hmk := run_make8 Try.underlying22 hi hz0 hz1 hz2 n n (Nat.le_refl _) hn w
  have hg : (w.alloc (.cells (mk8 n) 5)).heap[w.heap.size]? = some (.cells (mk8 n) 5 (0, 0)) := heap_alloc_new w _
  have hconv := made_conv hn hg
  have hb : Below w.heap.size w (w.alloc (.cells (mk8 n) 5)) := (Below.refl _ _).alloc (Nat.le_refl _) _
  have HB := Lib.hid hb
  clear hi hz0 hz1 hz2 hg hb
  go_enter Try.func21, Try.ntmps21
  go_wp2
  go_ret
  exact ⟨rfl, HB.out⟩
/-- what goes on from byte to byte. -/
def crF (f : Nat → UInt8) (k : Nat) : Nat := if k = 0 then 0 else (f (k - 1)).toNat % 2
theorem crF_le (f : Nat → UInt8) (k : Nat) : crF f k ≤ 1 := by unfold crF; split <;> omega
theorem dn_up (f : Nat → UInt8) (k : Nat) : (crF f k * 256 + (f k).toNat) / 2 = (UInt8.ofNat (dnF f k)).toNat ∧ (crF f k * 256 + (f k).toNat) % 2 = crF f (k + 1) := by
  have hx := (f k).toNat_lt
  have hc := crF_le f k
  have e : dnF f k = (crF f k * 256 + (f k).toNat) / 2 := by
    unfold dnF
    show ((f k).toNat + 256 * crF f k) / 2 = _
    congr 1; omega
  refine ⟨?_, ?_⟩
  · rw [e, UInt8.toNat_ofNat', Nat.mod_eq_of_lt (by omega)]
  · show _ = (f (k + 1 - 1)).toNat % 2
    rw [Nat.add_sub_cancel]; omega
theorem dn_or (x c : Nat) (hx : x < 256) (hc : c ≤ 1) : bits .or .i64 (x : Int) ((c : Int) * 256) = ((c * 256 + x : Nat) : Int) := by
  have h := nat_or_add c x 8 (by omega)
  have e : (c : Int) * 256 = ((c * 256 : Nat) : Int) := by omega
  rw [e, i64_or_nat _ _ (by omega) (by omega), Nat.or_comm, h]
theorem dn_rel {F : Nat → UInt8} {w w2 w1 : World} {k : Nat} {e : TypeId} {u v : Value} {o : Obj} {x : UInt8} (hx : F k = x)
    (hown2 : w2.ownsRow w.heap.size e 1 u k (cells8 (upTo F k))) (hbel2 : Below w.heap.size w w2)
    (hown3 : w1.ownsRow w.heap.size e 1 v (k + 1) (cells8 (upTo F k) ++ [.int .u8 (x.toNat : Int)]))
    (hgrow : (w2.alloc o).grownBy w1 u.ownBlock) :
    w1.ownsRow w.heap.size e 1 v (k + 1) (cells8 (upTo F (k + 1))) ∧ Below w.heap.size w w1 := by
  refine ⟨?_, ?_⟩
  · rw [upTo_succ, cells8_append, hx]
    exact hown3
  · have h1 : Below w.heap.size w (w2.alloc o) := hbel2.alloc hbel2.size _
    exact h1.grown hgrow h1.size (fun b hb => (hown2.lt b hb).1)
set_option maxRecDepth 100000 in
set_option maxHeartbeats 1600000 in
theorem l14Down_spec (s : ByteArray) (hs : s.size = 16) (w : World) :
    Calls Try.prog 23 #[.string s] w fun e w' => e = .returned (.tuple #[.string (txt (fun i => UInt8.ofNat (dnF (byteOf s) i)) 16), .int .i64 ((crF (byteOf s) 16 : Nat) : Int)]) ∧ Below w.heap.size w w' := by
  obtain ⟨i0, hi, hz0, hz1, hz2⟩ := info_parts Try.info5
  have ST := fun k => Lib.hid (dn_up (byteOf s) k)
  have CR := fun k => Lib.hid (crF_le (byteOf s) k)
  have C0 : Hid (crF (byteOf s) 0 = 0) := Lib.hid rfl
  have HB := fun k (h : k < s.size) => Lib.hid (byteOf_at s k h)
  obtain ⟨F, hF⟩ : ∃ F : Nat → UInt8, (fun i => UInt8.ofNat (dnF (byteOf s) i)) = F := ⟨_, rfl⟩
  have hFk : ∀ k, UInt8.ofNat (dnF (byteOf s) k) = F k := fun k => congrFun hF k
  simp only [hFk] at ST
  rw [hF]
  clear hF hFk
  go_enter Try.func23, Try.ntmps23
  go_wp2
  go_loopw [4, 5, 6] (fun v c i wr => ∃ k : Nat, k ≤ 16 ∧ i = .int .i64 k ∧ c = .int .i64 (crF (byteOf s) k : Nat) ∧ wr.ownsRow w.heap.size 5 1 v k (cells8 (upTo F k)) ∧ Below w.heap.size w wr) (fun _ _ i _ => 16 - (intOf i).toNat)
  case atStart => exact ⟨0, Nat.zero_le _, rfl, by rw [C0.out]; rfl, World.ownsRow_lit w #[] 0 (Nat.le_refl _) (by simp [maxLen]) rfl, (Below.refl _ _).alloc (Nat.le_refl _) _⟩
  case round =>
    obtain ⟨k, hk, rfl, rfl, hown, hbel⟩ := hrel
    by_cases hlt : k < 16
    · obtain ⟨e1, e2⟩ := (ST k).out
      have hc := (CR k).out
      have hks : k < s.size := by omega
      have hby := (HB k hks).out
      have E2 : Hid (crF (byteOf s) (k + 1) = crF (byteOf s) (k + 1)) := Lib.hid rfl
      obtain ⟨x, hx⟩ : ∃ x, F k = x := ⟨_, rfl⟩
      rw [hx] at e1
      have HX := Lib.hid hx
      have hd := x.toNat_lt
      have hxb := s[k].toNat_lt
      rw [← hby] at e1 e2
      have hor := dn_or s[k].toNat (crF (byteOf s) k) hxb hc
      obtain ⟨c, hcc⟩ : ∃ c, crF (byteOf s) k = c := ⟨_, rfl⟩
      obtain ⟨d, hdd⟩ : ∃ d, crF (byteOf s) (k + 1) = d := ⟨_, rfl⟩
      rw [hcc] at e1 e2 hor hc
      rw [hdd] at e2
      obtain ⟨X, hX⟩ : ∃ X, c * 256 + s[k].toNat = X := ⟨_, rfl⟩
      rw [hX] at e1 e2 hor
      have hand : bits .and .i64 (X : Int) 1 = (d : Int) := (i64_mask (X : Int) 1 (by omega)).trans (by show (X : Int) % 2 = (d : Int); omega)
      have hhalf : (X : Int) / 2 = (x.toNat : Int) := by omega
      have HD := Lib.hid hdd
      have hX1 : (X : Int) < 512 := by omega
      have hX0 : (0 : Int) ≤ (X : Int) := by omega
      have hc' : (s[k].toNat : Int) < 256 := by omega
      have hd' : (x.toNat : Int) < 256 := by omega
      have hk0 : (0 : Int) ≤ (k : Int) := by omega
      have hk1 : (k : Int) < 16 := by omega
      have hk2 : (k : Int) < (s.size : Int) := by omega
      have hc1 : (c : Int) ≤ 1 := by omega
      rw [hcc]
      clear hX e1 e2 hby hcc hdd hd hxb hx ST CR HB
      go_wp2_with (at_builtin; refine stp ?_)
      refine unstp ?_
      refine wpList_append_lies _ rfl (.tmp 20) (.tmp 24) 22 rfl w.heap.size 5 i0 (.int .u8 0) 1 1 Try.underlying22 hi hz0 hz1 hz2 rfl (by decide) u4 k (cells8 (upTo F k)) rfl (hown.alloc _) ⟨wr.heap.size, 0, none⟩ 1 1 [.int .u8 (x.toNat : Int)] rfl rfl (World.news_of_block (cs := #[.int .u8 (x.toNat : Int)]) (heap_alloc_new wr _)) (by simp [Value.oneCell']) (by omega) (by unfold maxLen; omega) (by omega) (by have := hbel.size; simp; omega) (wr.heap.size + 1) (by simp) ?_
      intro g2 cap2 w5 hown5 hgrow hat hlt5
      have hrel := dn_rel HX.out hown hbel hown5 hgrow
      clear hown hbel hown5 hgrow hat hlt5
      go_wp2
      go_roundw
      case rel => exact ⟨k + 1, by omega, by go_num, by rw [HD.out], hrel.1, hrel.2⟩
      case measure => simp [intOf]; omega
    · obtain rfl : k = 16 := by omega
      have hconv := run_string_own Try.underlying22 Try.underlying5 Try.underlying9 hown
      rw [show (⟨(upTo F 16).toArray⟩ : ByteArray) = txt F 16 from rfl] at hconv
      clear ST CR HB
      go_wp2
      go_ret2
      exact ⟨rfl, hbel⟩
theorem first_run (s : ByteArray) (h : 0 < s.size) (W : World) :
    (Instr.index 9 (.string s) (.int .i64 0)).run Try.prog W = .ok (.int .u8 ((byteOf s 0).toNat : Int)) W := by
  have hi : (0 : Int) ≤ 0 ∧ (0 : Int) < (s.size : Int) := by omega
  rw [run_index_string W 9 s .i64 _ Try.underlying9, dif_pos hi]
  simp only [Int.toNat_zero]
  rw [byteOf_at s 0 h]
theorem at_run (s : ByteArray) (k : Nat) (h : k < s.size) (W : World) :
    (Instr.index 9 (.string s) (.int .i64 (k : Int))).run Try.prog W = .ok (.int .u8 ((byteOf s k).toNat : Int)) W := by
  have hi : (0 : Int) ≤ (k : Int) ∧ (k : Int) < (s.size : Int) := by omega
  rw [run_index_string W 9 s .i64 _ Try.underlying9, dif_pos hi]
  simp only [Int.toNat_natCast]
  rw [byteOf_at s k h]
theorem behind_run (s : ByteArray) (h : 1 ≤ s.size) (W : World) :
    (Instr.slice 9 (.string s) (some (.int .i64 1)) none none).run Try.prog W = .ok (.string (s.extract 1 s.size)) W := by
  rw [run_slice_string_l (P := Try.prog) W 9 s Try.underlying9 .i64 1 (by omega) (by omega)]
  rfl
theorem lit1_drew (b : UInt8) (w : World) :
    (convert 22 9 (.slice (some ⟨w.heap.size, 0, none⟩) 1 1)).run Try.prog (w.alloc (.cells #[.int .u8 (b.toNat : Int)] 5)).drew = .ok (.string ⟨#[b]⟩) (w.alloc (.cells #[.int .u8 (b.toNat : Int)] 5)).drew := lit1 b _ rfl w.drew
theorem gfXor_spec (a b : ByteArray) (ha : a.size = 16) (hb : b.size = 16) (w : World) :
    Calls Try.prog 22 #[.string a, .string b] w fun e w' => e = .returned (.string (xorS a b)) ∧ Below w.heap.size w w' := by
  rw [← xorOf_S a b ha hb]; exact xor_spec a b w (by omega) (by omega)
/-- a byte turned at the head. -/
theorem dn_head (s : ByteArray) (h : (byteOf s 15).toNat % 2 = 1) :
    (⟨#[byteOf (txt (fun i => UInt8.ofNat (dnF (byteOf s) i)) 16) 0 ^^^ 225]⟩ : ByteArray) ++ (txt (fun i => UInt8.ofNat (dnF (byteOf s) i)) 16).extract 1 16 = dnT s := by
  rw [dnT_1 s h]
  have hz : ((txt (fun i => UInt8.ofNat (dnF (byteOf s) i)) 16).extract 1 16).size = 15 := by rw [ByteArray.size_extract, txt_size]; rfl
  refine b_ext _ _ 16 (by rw [ByteArray.size_append, hz]; rfl) (txt_size _ _) fun i hi => ?_
  rw [txt_byte _ _ _ hi]
  by_cases h0 : i = 0
  · subst h0
    rw [byte_app_l _ _ _ (by show 0 < 1; omega), if_pos rfl]
    show byteOf (txt _ 16) 0 ^^^ 225 = _
    rw [txt_byte _ _ _ (by omega)]
  · rw [byte_app_r _ _ _ (by show 1 ≤ i; omega), if_neg h0, UInt8.xor_zero]
    show byteOf ((txt _ 16).extract 1 16) (i - 1) = _
    rw [byte_cut _ _ _ _ (by rw [txt_size]; omega) (by omega), txt_byte _ _ _ (by omega), show 1 + (i - 1) = i by omega]
set_option maxRecDepth 100000 in
set_option maxHeartbeats 3200000 in
theorem BlockTimes_spec_yes (a b : ByteArray) (ha : a.size = 16) (hb : b.size = 16) (w : World) :
    Calls Try.prog 10 #[.string a, .string b] w fun e w' => e = .returned (.string (tmB a b)) ∧ Below w.heap.size w w' := by
  have h1 : (a.size : Int) = 16 := by omega
  have h2 : (b.size : Int) = 16 := by omega
  have HZ := fun W => Lib.hid (l14Zero_spec 16 (by omega) W)
  rw [zer16_txt] at HZ
  have HX := fun k W => Lib.hid (gfXor_spec (tmZ k a b) (tmA k a) (tmZ_size k a b) (tmA_size k a) W)
  have HD := fun k W => Lib.hid (l14Down_spec (tmA k a) (tmA_size k a) W)
  have HB := fun k (h : k < 128) => Lib.hid (gf_bit_txt b k h)
  have HI := fun k (h : k < 16) W => Lib.hid (at_run b k (by omega) W)
  have HE : Hid (tmZ 128 a b = tmB a b) := Lib.hid rfl
  have HA0 : Hid (tmA 0 a = a) := Lib.hid (tmA_0 a ha)
  go_enter Try.func10, Try.ntmps10
  go_wp2_with fail
  refine (HZ _).out.mono ?_; rintro e w1 ⟨rfl, hb1⟩
  go_wp2_with fail
  go_loopw [0, 5, 6] (fun av zv i wr => ∃ k : Nat, k ≤ 128 ∧ i = .int .i64 k ∧ av = .string (tmA k a) ∧ zv = .string (tmZ k a b) ∧ Below w.heap.size w wr) (fun _ _ i _ => 128 - (intOf i).toNat)
  case atStart => exact ⟨0, by omega, rfl, by rw [HA0.out], rfl, hb1⟩
  case round =>
    clear hb1
    obtain ⟨k, hk, rfl, rfl, rfl, hbel⟩ := hrel
    by_cases hlt : k < 128
    · have hk0 : (0 : Int) ≤ (k : Int) := by omega
      have hk1 : (k : Int) < 128 := by omega
      have hq : (k : Int).tdiv 8 = ((k / 8 : Nat) : Int) := by rw [Int.tdiv_eq_ediv_of_nonneg (by omega)]; omega
      have hr : (k : Int).tmod 8 = ((k % 8 : Nat) : Int) := by rw [Int.tmod_eq_emod_of_nonneg (by omega)]; omega
      have hm : (7 : Int) - ((k % 8 : Nat) : Int) = ((7 - k % 8 : Nat) : Int) := by omega
      have hix := fun W => (HI (k / 8) (by omega) W).out
      have hbit := (HB k hlt).out
      have hb8 := bit_of (byteOf b (k / 8)) (7 - k % 8)
      have hup := tmA_up k a
      have hcr : crF (byteOf (tmA k a)) 16 = (byteOf (tmA k a) 15).toNat % 2 := rfl
      have hX := fun W => (HX k W).out
      have hD := fun W => (HD k W).out
      have hxl := (byteOf b (k / 8)).toNat_lt
      have hxl2 : ((byteOf b (k / 8)).toNat : Int) < 256 := by omega
      rw [hcr] at hD
      have hs16 := tmA_size k a
      have hd0 := dnT_0 (tmA k a)
      have hd1 := dn_head (tmA k a)
      have hn0 := txt_size (fun i => UInt8.ofNat (dnF (byteOf (tmA k a)) i)) 16
      have hm8 : ((7 - k % 8 : Nat) : Int) < 8 := by omega
      have hm0 : (0 : Int) ≤ ((7 - k % 8 : Nat) : Int) := by omega
      have hrr : ((k % 8 : Nat) : Int) < 8 := by omega
      have hrr0 : (0 : Int) ≤ ((k % 8 : Nat) : Int) := by omega
      have hqq : ((k / 8 : Nat) : Int) < 16 := by omega
      have hqq0 : (0 : Int) ≤ ((k / 8 : Nat) : Int) := by omega
      clear HZ HX HD HB HI HE HA0 hcr
      generalize (byteOf b (k / 8)).toNat / 2 ^ (7 - k % 8) % 2 = y at *
      generalize (byteOf b (k / 8)).toNat = x at *
      generalize 7 - k % 8 = m at *
      generalize k % 8 = r at *
      generalize k / 8 = q at *
      by_cases hy : y = 1
      · subst hy
        have hz := tmZ_yes k a b (by rw [hbit]; rfl)
        rw [← hz] at hX
        clear hbit
        go_wp2_with fail
        refine (hX _).mono ?_; rintro e w2 ⟨rfl, hb2⟩
        have HBEL := hbel.trans (hb2.mono hbel.size)
        clear hb2 hX hbel
        go_wp2_with fail
        refine (hD _).mono ?_; rintro e w3 ⟨rfl, hb3⟩
        have hbel3 := HBEL.trans (hb3.mono HBEL.size)
        by_cases hp : (byteOf (tmA k a) 15).toNat % 2 = 1
        · have hh := hd1 hp
          rw [hp]
          have hfst := first_run (txt (fun i => UInt8.ofNat (dnF (byteOf (tmA k a)) i)) 16) (by rw [txt_size]; omega)
          have hbeh := behind_run (txt (fun i => UInt8.ofNat (dnF (byteOf (tmA k a)) i)) 16) (by rw [txt_size]; omega)
          rw [hn0] at hbeh
          rw [← hup] at hh
          clear hd0 hd1 hD hup hp hb3
          generalize txt (fun i => UInt8.ofNat (dnF (byteOf (tmA k a)) i)) 16 = NX at *
          have hxx : bits .xor .u8 ((byteOf NX 0).toNat : Int) 225 = ((byteOf NX 0 ^^^ 225).toNat : Int) := u8_xor_bytes (byteOf NX 0) 225
          have hnz : (NX.size : Int) = 16 := by omega
          generalize byteOf NX 0 ^^^ 225 = z at *
          have hcv : (convert 22 9 (.slice (some ⟨w3.heap.size, 0, none⟩) 1 1)).run Try.prog ((w3.alloc (.cells #[.int .u8 (z.toNat : Int)] 5)).drew) = .ok (.string ⟨#[z]⟩) ((w3.alloc (.cells #[.int .u8 (z.toNat : Int)] 5)).drew) := lit1_drew z w3
          have hcx : (⟨#[z]⟩ : ByteArray) ++ NX.extract 1 16 = tmA (k + 1) a := hh
          have htl : (NX.extract 1 16).size = 15 := by rw [ByteArray.size_extract]; omega
          have hhd : (⟨#[z]⟩ : ByteArray).size = 1 := rfl
          generalize NX.extract 1 16 = tl at *
          generalize (⟨#[z]⟩ : ByteArray) = hd at *
          have htot : hd.size + tl.size ≤ maxLen := by rw [htl, hhd]; unfold maxLen; omega
          generalize byteOf NX 0 = n0 at *
          go_wp2
          have hbel4 : Below w.heap.size w ((w3.alloc (.cells #[.int .u8 (z.toNat : Int)] 5)).drew) := (hbel3.alloc hbel3.size _).drew
          go_region
          all_goals
            go_wp2
            go_roundw
            case rel => exact ⟨k + 1, by omega, by go_num, rfl, by rw [hz], hbel4⟩
            case measure => simp [intOf]; omega
        · have hp0 : (byteOf (tmA k a) 15).toNat % 2 = 0 := by omega
          have hh := hd0 hp0
          rw [← hup] at hh
          rw [hp0]
          clear hd0 hd1 hD hup hp hb3
          go_wp2
          go_roundw
          case rel => exact ⟨k + 1, by omega, by go_num, by rw [hh], by rw [hz], hbel3⟩
          case measure => simp [intOf]; omega
      · have hy0 : (y : Int) ≠ 1 := by omega
        have hz := tmZ_no k a b (by rw [hbit]; exact decide_eq_false hy)
        have HBEL := hbel
        clear hbit hX hbel
        go_wp2_with fail
        refine (hD _).mono ?_; rintro e w3 ⟨rfl, hb3⟩
        have hbel3 := HBEL.trans (hb3.mono HBEL.size)
        by_cases hp : (byteOf (tmA k a) 15).toNat % 2 = 1
        · have hh := hd1 hp
          rw [hp]
          have hfst := first_run (txt (fun i => UInt8.ofNat (dnF (byteOf (tmA k a)) i)) 16) (by rw [txt_size]; omega)
          have hbeh := behind_run (txt (fun i => UInt8.ofNat (dnF (byteOf (tmA k a)) i)) 16) (by rw [txt_size]; omega)
          rw [hn0] at hbeh
          rw [← hup] at hh
          clear hd0 hd1 hD hup hp hb3
          generalize txt (fun i => UInt8.ofNat (dnF (byteOf (tmA k a)) i)) 16 = NX at *
          have hxx : bits .xor .u8 ((byteOf NX 0).toNat : Int) 225 = ((byteOf NX 0 ^^^ 225).toNat : Int) := u8_xor_bytes (byteOf NX 0) 225
          have hnz : (NX.size : Int) = 16 := by omega
          generalize byteOf NX 0 ^^^ 225 = z at *
          have hcv : (convert 22 9 (.slice (some ⟨w3.heap.size, 0, none⟩) 1 1)).run Try.prog ((w3.alloc (.cells #[.int .u8 (z.toNat : Int)] 5)).drew) = .ok (.string ⟨#[z]⟩) ((w3.alloc (.cells #[.int .u8 (z.toNat : Int)] 5)).drew) := lit1_drew z w3
          have hcx : (⟨#[z]⟩ : ByteArray) ++ NX.extract 1 16 = tmA (k + 1) a := hh
          have htl : (NX.extract 1 16).size = 15 := by rw [ByteArray.size_extract]; omega
          have hhd : (⟨#[z]⟩ : ByteArray).size = 1 := rfl
          generalize NX.extract 1 16 = tl at *
          generalize (⟨#[z]⟩ : ByteArray) = hd at *
          have htot : hd.size + tl.size ≤ maxLen := by rw [htl, hhd]; unfold maxLen; omega
          generalize byteOf NX 0 = n0 at *
          go_wp2
          have hbel4 : Below w.heap.size w ((w3.alloc (.cells #[.int .u8 (z.toNat : Int)] 5)).drew) := (hbel3.alloc hbel3.size _).drew
          go_region
          all_goals
            go_wp2
            go_roundw
            case rel => exact ⟨k + 1, by omega, by go_num, rfl, by rw [hz], hbel4⟩
            case measure => simp [intOf]; omega
        · have hp0 : (byteOf (tmA k a) 15).toNat % 2 = 0 := by omega
          have hh := hd0 hp0
          rw [← hup] at hh
          rw [hp0]
          clear hd0 hd1 hD hup hp hb3
          go_wp2
          go_roundw
          case rel => exact ⟨k + 1, by omega, by go_num, by rw [hh], by rw [hz], hbel3⟩
          case measure => simp [intOf]; omega
    · obtain rfl : k = 128 := by omega
      rw [HE.out]
      clear HZ HX HD HB HI HE HA0
      go_wp2
      go_ret
      exact ⟨rfl, hbel⟩
set_option maxRecDepth 100000 in
theorem BlockTimes_spec_no (a b : ByteArray) (h : ¬ (a.size = 16 ∧ b.size = 16)) (w : World) :
    Calls Try.prog 10 #[.string a, .string b] w fun e w' => e = .returned (.string ⟨#[]⟩) ∧ Below w.heap.size w w' := by
  by_cases h1 : a.size = 16
  · have h2 : ¬ (b.size : Int) = 16 := by omega
    have h3 : (a.size : Int) = 16 := by omega
    go_enter Try.func10, Try.ntmps10
    go_wp2
    go_ret
    exact ⟨rfl, Below.refl _ _⟩
  · have h2 : ¬ (a.size : Int) = 16 := by omega
    go_enter Try.func10, Try.ntmps10
    go_wp2
    go_ret
    exact ⟨rfl, Below.refl _ _⟩
theorem BlockTimes_spec (a b : ByteArray) (w : World) :
    Calls Try.prog 10 #[.string a, .string b] w fun e w' => e = .returned (.string (tmI a b)) ∧ Below w.heap.size w w' := by
  by_cases h : a.size = 16 ∧ b.size = 16
  · rw [tmI_yes a b h.1 h.2]; exact BlockTimes_spec_yes a b h.1 h.2 w
  · rw [tmI_no a b h]; exact BlockTimes_spec_no a b h w
end Go.Proofs.Ytbcaldhcgoclgaa
