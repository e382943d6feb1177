/-
  Plain facts on tables of words: what a round does to a byte, the rounds of words, there and back. No program.
-/
import Derived.Test.YtbfmbdohebdbaaaGreatDoorLockM
set_option linter.unusedVariables false
namespace Go.Proofs.YtbfmbdohebdbaaaGreatDoor
open Go Go.RowKit

/-- the tables' words. -/
def tab (k : Nat) (b : UInt8) : UInt32 := rot (spr mxF (sbox b)) (upBy k)
def utab (k : Nat) (b : UInt8) : UInt32 := rot (spr unF (ubox b)) (upBy k)
theorem tab_0 (b : UInt8) : tab 0 b = spr mxF (sbox b) := rot_0 _
theorem utab_0 (b : UInt8) : utab 0 b = spr unF (ubox b) := rot_0 _
theorem tab_up (b : UInt8) (k : Nat) (hk : k < 4) : rot (tab 0 b) (upBy k) = tab k b := by rw [tab_0]; rfl
theorem utab_up (b : UInt8) (k : Nat) (hk : k < 4) : rot (utab 0 b) (upBy k) = utab k b := by rw [utab_0]; rfl
/-- Table and Untable as they answer. -/
def tableI (k b : Int) : Int := if 0 ≤ k ∧ k ≤ 3 then ((tab k.toNat (b8 b)).toNat : Int) else -1
def untableI (k b : Int) : Int := if 0 ≤ k ∧ k ≤ 3 then ((utab k.toNat (b8 b)).toNat : Int) else -1
theorem tableI_at (k : Nat) (b : UInt8) (hk : k ≤ 3) : tableI (k : Int) (b.toNat : Int) = ((tab k b).toNat : Int) := by
  unfold tableI; rw [if_pos (by omega), b8_of]; rfl
theorem untableI_at (k : Nat) (b : UInt8) (hk : k ≤ 3) : untableI (k : Int) (b.toNat : Int) = ((utab k b).toNat : Int) := by
  unfold untableI; rw [if_pos (by omega), b8_of]; rfl
/-- four words of which the bytes are looked up and added, the first k of them. -/
def tbTo (s : Nat → UInt32) (i : Nat) (c : UInt32) : Nat → UInt32
  | 0 => c
  | k + 1 => tbTo s i c k ^^^ tab k (wb (s ((i + k) % 4)) k)
def utTo (s : Nat → UInt32) (i : Nat) (c : UInt32) : Nat → UInt32
  | 0 => c
  | k + 1 => utTo s i c k ^^^ utab k (wb (s ((i + 4 - k) % 4)) k)
/-- a word of the bytes that a round looks up. -/
def tbRow (s : Nat → UInt32) (i : Nat) : UInt32 := mkW (sbox (wb (s ((i + 0) % 4)) 0)) (sbox (wb (s ((i + 1) % 4)) 1)) (sbox (wb (s ((i + 2) % 4)) 2)) (sbox (wb (s ((i + 3) % 4)) 3))
def utRow (s : Nat → UInt32) (i : Nat) : UInt32 := mkW (ubox (wb (s ((i + 4 - 0) % 4)) 0)) (ubox (wb (s ((i + 4 - 1) % 4)) 1)) (ubox (wb (s ((i + 4 - 2) % 4)) 2)) (ubox (wb (s ((i + 4 - 3) % 4)) 3))
theorem mix_sum (f : Nat → UInt8) (a b c d : UInt8) : mixW f (mkW a b c d) = rot (spr f a) (upBy 0) ^^^ rot (spr f b) (upBy 1) ^^^ rot (spr f c) (upBy 2) ^^^ rot (spr f d) (upBy 3) := by
  unfold mixW
  simp only [mixTo, wb0_mk, wb1_mk, wb2_mk, wb3_mk, UInt32.zero_xor]
theorem tbTo_4 (s : Nat → UInt32) (i : Nat) (c : UInt32) : tbTo s i c 4 = c ^^^ mxW (tbRow s i) := by
  unfold tbRow mxW
  rw [mix_sum]
  simp only [tbTo, tab, UInt32.xor_assoc]
theorem utTo_4 (s : Nat → UInt32) (i : Nat) (c : UInt32) : utTo s i c 4 = c ^^^ unmixW (utRow s i) := by
  unfold utRow
  rw [← unmix_f, mix_sum]
  simp only [utTo, utab, UInt32.xor_assoc]
theorem mapT_b (f : UInt8 → UInt8) (s : ByteArray) (i : Nat) (h : i < s.size) : byteOf (mapT f s) i = f (byteOf s i) := by
  have hl : i < s.data.toList.length := by simpa using h
  unfold byteOf mapT
  rw [List.getD_eq_getElem?_getD, List.getD_eq_getElem?_getD]
  simp only [List.getElem?_map, List.getElem?_eq_getElem hl, Option.map_some, Option.getD_some]
theorem tbRow_is (s : Nat → UInt32) (i : Nat) (hi : i < 4) : tbRow s i = colW (shS 1 (mapT sbox (ofW s))) i := by
  have hb : ∀ r, r < 4 → byteOf (shS 1 (mapT sbox (ofW s))) (4 * i + r) = sbox (wb (s ((i + r) % 4)) r) := fun r hr => by
    rw [shS_byte _ _ _ (by omega), mapT_b _ _ _ (by rw [ofW_size]; exact shAt_lt _ _), ofW_byte _ _ (shAt_lt _ _)]
    have h4 : r = 0 ∨ r = 1 ∨ r = 2 ∨ r = 3 := by omega
    have e1 : shAt 1 (4 * i + r) / 4 = (i + r) % 4 := by unfold shAt; rcases h4 with rfl | rfl | rfl | rfl <;> omega
    have e2 : shAt 1 (4 * i + r) % 4 = r := by unfold shAt; rcases h4 with rfl | rfl | rfl | rfl <;> omega
    rw [e1, e2]
  unfold colW getW tbRow
  have h0 := hb 0 (by omega)
  rw [Nat.add_zero] at h0
  rw [h0, hb 1 (by omega), hb 2 (by omega), hb 3 (by omega)]
theorem utRow_is (s : Nat → UInt32) (i : Nat) (hi : i < 4) : utRow s i = colW (udS (ofW s)) i := by
  have hb : ∀ r, r < 4 → byteOf (udS (ofW s)) (4 * i + r) = ubox (wb (s ((i + 4 - r) % 4)) r) := fun r hr => by
    unfold udS
    rw [mapT_b _ _ _ (by rw [shS_size]; omega), shS_byte _ _ _ (by omega), ofW_byte _ _ (shAt_lt _ _)]
    have h4 : r = 0 ∨ r = 1 ∨ r = 2 ∨ r = 3 := by omega
    have e1 : shAt 3 (4 * i + r) / 4 = (i + 4 - r) % 4 := by unfold shAt; rcases h4 with rfl | rfl | rfl | rfl <;> omega
    have e2 : shAt 3 (4 * i + r) % 4 = r := by unfold shAt; rcases h4 with rfl | rfl | rfl | rfl <;> omega
    rw [e1, e2]
  unfold colW getW utRow
  have h0 := hb 0 (by omega)
  rw [Nat.add_zero] at h0
  rw [h0, hb 1 (by omega), hb 2 (by omega), hb 3 (by omega)]
theorem ofW_xor (f g : Nat → UInt32) : ofW (fun i => f i ^^^ g i) = xorS (ofW f) (ofW g) := by
  refine txt_ext _ _ 16 fun i hi => ?_
  show wb (f (i / 4) ^^^ g (i / 4)) (i % 4) = byteOf (ofW f) i ^^^ byteOf (ofW g) i
  rw [wb_xor, ofW_byte _ _ hi, ofW_byte _ _ hi]
theorem xorS_comm (a b : ByteArray) : xorS a b = xorS b a := txt_ext _ _ 16 fun i hi => x_comm _ _
/-- a round by tables is a round byte by byte. -/
theorem tb_round (s k : Nat → UInt32) : ofW (fun i => tbTo s i (k i) 4) = xorS (mxS (rdS (ofW s))) (ofW k) := by
  rw [xorS_comm, mxS, ← ofW_xor]
  refine ofW_ext _ _ fun i hi => ?_
  rw [tbTo_4, tbRow_is s i hi]; rfl
theorem ut_round (s k : Nat → UInt32) : ofW (fun i => utTo s i (k i) 4) = xorS (unS (udS (ofW s))) (ofW k) := by
  rw [xorS_comm, unS, ← ofW_xor]
  refine ofW_ext _ _ fun i hi => ?_
  rw [utTo_4, utRow_is s i hi]
theorem unS_xor (a b : ByteArray) : unS (xorS a b) = xorS (unS a) (unS b) := by
  refine txt_ext _ _ 16 fun i hi => ?_
  show wb (unmixW (colW (xorS a b) (i / 4))) (i % 4) = byteOf (unS a) i ^^^ byteOf (unS b) i
  rw [colW_xor _ _ _ (by omega), ← unmix_f, mixW_xor, unmix_f, unmix_f, wb_xor]
  unfold unS
  rw [ofW_byte _ _ hi, ofW_byte _ _ hi]
/-- the round keys of words that are unmixed. -/
def ukS (s : ByteArray) (n i : Nat) : ByteArray := ofW fun j => uw s n (4 * i + j)
theorem ukS_mid (s : ByteArray) (n i : Nat) (h0 : 0 < i) (h1 : i < n + 6) : ukS s n i = unS (rkS s n i) := by
  refine ofW_ext _ _ fun j hj => ?_
  have hL : kL n = 4 * (n + 7) := rfl
  rw [uw_in s n _ ⟨by omega, by omega⟩]
  unfold rkS
  rw [colW_ofW _ j hj]
theorem ukS_end (s : ByteArray) (n i : Nat) (h : i = 0 ∨ i = n + 6) : ukS s n i = rkS s n i := by
  refine ofW_ext _ _ fun j hj => ?_
  have hL : kL n = 4 * (n + 7) := rfl
  exact uw_out s n _ (by omega)
/-- the steps back by tables are those from outside. -/
theorem out_tab (K : Nat → ByteArray) (r : Nat) (t : ByteArray) (j : Nat) (h : j + 1 < r) : outS K r t (j + 1) = xorS (unS (udS (outS K r t j))) (unS (K (r - 1 - j))) := by
  rw [outS, dimS, if_pos (by omega), unS_xor]
/-- the words of the steps there and back, of which the last one is no table's. -/
def stW (w : Nat → UInt32) (s : ByteArray) : Nat → Nat → UInt32
  | 0, i => colW s i ^^^ w i
  | j + 1, i => tbTo (stW w s j) i (w (4 * (j + 1) + i)) 4
def utW (w : Nat → UInt32) (r : Nat) (t : ByteArray) : Nat → Nat → UInt32
  | 0, i => colW t i ^^^ w (4 * r + i)
  | j + 1, i => utTo (utW w r t j) i (w (4 * (r - 1 - j) + i)) 4
theorem stW_is (s : ByteArray) (n r : Nat) (t : ByteArray) (ht : t.size = 16) : ∀ j, j < r → ofW (stW (ew s n) t j) = stepS (rkS s n) r t j
  | 0, _ => by
    show ofW (fun i => colW t i ^^^ ew s n i) = xorS t (rkS s n 0)
    rw [ofW_xor, ofW_colW t ht]
    refine congrArg (xorS t) ?_
    exact ofW_ext _ _ fun i hi => by rw [Nat.mul_zero, Nat.zero_add]
  | j + 1, h => by
    show ofW (fun i => tbTo (stW (ew s n) t j) i (ew s n (4 * (j + 1) + i)) 4) = _
    rw [tb_round (stW (ew s n) t j) (fun i => ew s n (4 * (j + 1) + i)), stW_is s n r t ht j (by omega), stepS, midS, if_pos h]; rfl
theorem utW_is (s : ByteArray) (n : Nat) (t : ByteArray) (ht : t.size = 16) : ∀ j, j < n + 6 → ofW (utW (uw s n) (n + 6) t j) = outS (rkS s n) (n + 6) t j
  | 0, _ => by
    show ofW (fun i => colW t i ^^^ uw s n (4 * (n + 6) + i)) = xorS t (rkS s n (n + 6))
    rw [ofW_xor, ofW_colW t ht, ← ukS_end s n (n + 6) (.inr rfl)]; rfl
  | j + 1, h => by
    show ofW (fun i => utTo (utW (uw s n) (n + 6) t j) i (uw s n (4 * (n + 6 - 1 - j) + i)) 4) = _
    rw [ut_round (utW (uw s n) (n + 6) t j) (fun i => uw s n (4 * (n + 6 - 1 - j) + i)), utW_is s n t ht j (by omega), out_tab _ _ _ _ (by omega), ← ukS_mid s n _ (by omega) (by omega)]; rfl
/-- .. and the last step of both. -/
theorem stW_last (s : ByteArray) (n : Nat) (t : ByteArray) (ht : t.size = 16) : xorS (rdS (ofW (stW (ew s n) t (n + 5)))) (rkS s n (n + 6)) = lockS (rkS s n) (n + 6) t := by
  rw [stW_is s n (n + 6) t ht _ (by omega)]
  have e : lockS (rkS s n) (n + 6) t = xorS (midS (n + 6) (n + 5 + 1) (rdS (stepS (rkS s n) (n + 6) t (n + 5)))) (rkS s n (n + 5 + 1)) := rfl
  rw [e, midS, if_neg (by omega)]
theorem utW_last (s : ByteArray) (n : Nat) (t : ByteArray) (ht : t.size = 16) : xorS (udS (ofW (utW (uw s n) (n + 6) t (n + 5)))) (rkS s n 0) = unlockS (rkS s n) (n + 6) t := by
  rw [utW_is s n t ht _ (by omega)]
  exact out_last (rkS s n) (n + 6) t (by omega)
/-- TableRound as it answers. -/
def roundI (a b : List Int) : List Int := if a.length = 4 ∧ b.length = 4 then upTo (fun i => ((tbTo (fun j => w32 (a.getD j 0)) i (w32 (b.getD i 0)) 4).toNat : Int)) 4 else []
/-- a round of words, by whatever tells what a byte adds, each row taken d columns further on; its first k bytes. -/
def rndTo (T : Nat → UInt8 → UInt32) (d : Nat) (s : Nat → UInt32) (i : Nat) (c : UInt32) : Nat → UInt32
  | 0 => c
  | k + 1 => rndTo T d s i c k ^^^ T k (wb (s ((i + d * k) % 4)) k)
def rndW (T : Nat → UInt8 → UInt32) (d : Nat) (s c : Nat → UInt32) (i : Nat) : UInt32 := rndTo T d s i (c i) 4
theorem rnd_tab (s c : Nat → UInt32) (i : Nat) : rndW tab 1 s c i = tbTo s i (c i) 4 := by
  unfold rndW; simp only [rndTo, tbTo, Nat.one_mul]
theorem rnd_utab (s c : Nat → UInt32) (i : Nat) : rndW utab 3 s c i = utTo s i (c i) 4 := by
  have e0 : (i + 3 * 0) % 4 = (i + 4 - 0) % 4 := by omega
  have e1 : (i + 3 * 1) % 4 = (i + 4 - 1) % 4 := by omega
  have e2 : (i + 3 * 2) % 4 = (i + 4 - 2) % 4 := by omega
  have e3 : (i + 3 * 3) % 4 = (i + 4 - 3) % 4 := by omega
  unfold rndW; simp only [rndTo, utTo]
  rw [e0, e1, e2, e3]
theorem rndTo_congr {T : Nat → UInt8 → UInt32} {d : Nat} {s s2 : Nat → UInt32} {i : Nat} {c : UInt32} (h : ∀ j, j < 4 → s j = s2 j) : ∀ k, rndTo T d s i c k = rndTo T d s2 i c k
  | 0 => rfl
  | k + 1 => by rw [rndTo, rndTo, rndTo_congr h k, h _ (Nat.mod_lt _ (by omega))]
/-- a byte of a box, at its own place in a word. -/
def boxT (f : UInt8 → UInt8) : Nat → UInt8 → UInt32
  | 0, b => mkW (f b) 0 0 0
  | 1, b => mkW 0 (f b) 0 0
  | 2, b => mkW 0 0 (f b) 0
  | _, b => mkW 0 0 0 (f b)
theorem boxT_nat (f : UInt8 → UInt8) (k : Nat) (hk : k < 4) (b : UInt8) (m : Nat) (hm : m = 2 ^ (24 - 8 * k)) : (boxT f k b).toNat = (f b).toNat * m := by
  have z : (0 : UInt8).toNat = 0 := rfl
  have h4 : k = 0 ∨ k = 1 ∨ k = 2 ∨ k = 3 := by omega
  rcases h4 with rfl | rfl | rfl | rfl
  · have e : m = 16777216 := hm
    have h := mkW_nat (f b) 0 0 0
    rw [z] at h
    show (mkW (f b) 0 0 0).toNat = (f b).toNat * m
    rw [h, e]; omega
  · have e : m = 65536 := hm
    have h := mkW_nat 0 (f b) 0 0
    rw [z] at h
    show (mkW 0 (f b) 0 0).toNat = (f b).toNat * m
    rw [h, e]; omega
  · have e : m = 256 := hm
    have h := mkW_nat 0 0 (f b) 0
    rw [z] at h
    show (mkW 0 0 (f b) 0).toNat = (f b).toNat * m
    rw [h, e]; omega
  · have e : m = 1 := hm
    have h := mkW_nat 0 0 0 (f b)
    rw [z] at h
    show (mkW 0 0 0 (f b)).toNat = (f b).toNat * m
    rw [h, e]; omega
theorem box4 (a b c d : UInt8) : mkW a 0 0 0 ^^^ (mkW 0 b 0 0 ^^^ (mkW 0 0 c 0 ^^^ mkW 0 0 0 d)) = mkW a b c d := by
  rw [mkW_xor, mkW_xor, mkW_xor]
  simp only [x_zero, zero_x]
theorem rnd_box (f : UInt8 → UInt8) (d : Nat) (s c : Nat → UInt32) (i : Nat) : rndW (boxT f) d s c i = c i ^^^ mkW (f (wb (s ((i + d * 0) % 4)) 0)) (f (wb (s ((i + d * 1) % 4)) 1)) (f (wb (s ((i + d * 2) % 4)) 2)) (f (wb (s ((i + d * 3) % 4)) 3)) := by
  have h : rndW (boxT f) d s c i = c i ^^^ boxT f 0 (wb (s ((i + d * 0) % 4)) 0) ^^^ boxT f 1 (wb (s ((i + d * 1) % 4)) 1) ^^^ boxT f 2 (wb (s ((i + d * 2) % 4)) 2) ^^^ boxT f 3 (wb (s ((i + d * 3) % 4)) 3) := rfl
  rw [h]
  generalize wb (s ((i + d * 0) % 4)) 0 = b0
  generalize wb (s ((i + d * 1) % 4)) 1 = b1
  generalize wb (s ((i + d * 2) % 4)) 2 = b2
  generalize wb (s ((i + d * 3) % 4)) 3 = b3
  rw [← box4, UInt32.xor_assoc, UInt32.xor_assoc, UInt32.xor_assoc]
  rfl
theorem rnd_sbox (s c : Nat → UInt32) : ofW (rndW (boxT sbox) 1 s c) = xorS (rdS (ofW s)) (ofW c) := by
  rw [xorS_comm]
  have e : ofW (colW (rdS (ofW s))) = rdS (ofW s) := ofW_colW _ (shS_size _ _)
  conv => rhs; rw [← e]
  rw [← ofW_xor]
  refine ofW_ext _ _ fun i hi => ?_
  rw [rnd_box]
  simp only [Nat.one_mul]
  exact congrArg (c i ^^^ ·) (tbRow_is s i hi)
theorem rnd_ubox (s c : Nat → UInt32) : ofW (rndW (boxT ubox) 3 s c) = xorS (udS (ofW s)) (ofW c) := by
  rw [xorS_comm]
  have e : ofW (colW (udS (ofW s))) = udS (ofW s) := ofW_colW _ (by unfold udS; rw [mapT_size, shS_size])
  conv => rhs; rw [← e]
  rw [← ofW_xor]
  refine ofW_ext _ _ fun i hi => ?_
  have e0 : (i + 3 * 0) % 4 = (i + 4 - 0) % 4 := by omega
  have e1 : (i + 3 * 1) % 4 = (i + 4 - 1) % 4 := by omega
  have e2 : (i + 3 * 2) % 4 = (i + 4 - 2) % 4 := by omega
  have e3 : (i + 3 * 3) % 4 = (i + 4 - 3) % 4 := by omega
  rw [rnd_box, e0, e1, e2, e3]
  exact congrArg (c i ^^^ ·) (utRow_is s i hi)
/-- the words of the rounds that mix, one behind the other, by whatever tells; keys by their number. -/
def wlkW (T : Nat → UInt8 → UInt32) (d : Nat) (K : Nat → Nat → UInt32) (s : ByteArray) : Nat → Nat → UInt32
  | 0 => fun i => colW s i ^^^ K 0 i
  | j + 1 => rndW T d (wlkW T d K s j) (K (j + 1))
theorem wlk_lock (s : ByteArray) (n : Nat) (t : ByteArray) : ∀ j, wlkW tab 1 (fun j i => ew s n (4 * j + i)) t j = stW (ew s n) t j
  | 0 => by funext i; show colW t i ^^^ ew s n (4 * 0 + i) = colW t i ^^^ ew s n i; rw [Nat.mul_zero, Nat.zero_add]
  | j + 1 => by
    funext i
    rw [wlkW, rnd_tab, wlk_lock s n t j]; rfl
theorem wlk_unlock (s : ByteArray) (n : Nat) (t : ByteArray) : ∀ j, j < n + 6 → wlkW utab 3 (fun j i => uw s n (4 * (n + 6 - j) + i)) t j = utW (uw s n) (n + 6) t j
  | 0, _ => rfl
  | j + 1, h => by
    funext i
    rw [wlkW, rnd_utab, wlk_unlock s n t j (by omega)]
    show utTo _ i (uw s n (4 * (n + 6 - (j + 1)) + i)) 4 = utTo _ i (uw s n (4 * (n + 6 - 1 - j) + i)) 4
    rw [show n + 6 - (j + 1) = n + 6 - 1 - j by omega]
/-- what is locked by words is what is locked byte by byte. -/
theorem lock_words (s : ByteArray) (n : Nat) (t : ByteArray) (ht : t.size = 16) :
    ofW (rndW (boxT sbox) 1 (wlkW tab 1 (fun j i => ew s n (4 * j + i)) t (n + 5)) (fun i => ew s n (4 * (n + 6) + i))) = lockS (rkS s n) (n + 6) t := by
  rw [rnd_sbox, wlk_lock, ← stW_last s n t ht]; rfl
theorem unlock_words (s : ByteArray) (n : Nat) (t : ByteArray) (ht : t.size = 16) :
    ofW (rndW (boxT ubox) 3 (wlkW utab 3 (fun j i => uw s n (4 * (n + 6 - j) + i)) t (n + 5)) (fun i => uw s n (4 * (n + 6 - (n + 6)) + i))) = unlockS (rkS s n) (n + 6) t := by
  rw [rnd_ubox, wlk_unlock s n t (n + 5) (by omega), ← utW_last s n t ht, Nat.sub_self, ← ukS_end s n 0 (.inl rfl)]; rfl
end Go.Proofs.YtbfmbdohebdbaaaGreatDoor
