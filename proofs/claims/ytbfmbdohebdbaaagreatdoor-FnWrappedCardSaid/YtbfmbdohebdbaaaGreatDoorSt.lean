/-
  Contracts and facts that the laws of this seat use: StI, SliceMath, StJ.
-/
import Derived.Test.YtbfmbdohebdbaaaGreatDoorStoreAt
import Derived.Test.YtbfmbdohebdbaaaGreatDoorShift
import Derived.Test.YtbfmbdohebdbaaaGreatDoorArr32
import Derived.Test.YtbfmbdohebdbaaaGreatDoorBits
import Derived.Lib.AppendStr
import Derived.Lib.BufferWrite
import Derived.Deep.MidRow
import Derived.Deep.AppendLies
import Derived.Test.YtbfmbdohebdbaaaGreatDoorPlLk
import Derived.Test.YtbfmbdohebdbaaaGreatDoorTableMath
import Derived.Lib.SlBytesRow
set_option linter.unusedVariables false
set_option linter.unusedSimpArgs false
namespace Go.Proofs.YtbfmbdohebdbaaaGreatDoor
open Go Go.RowKit
attribute [local go_sem ↓] Go.wp_at_zero Go.wp_at_succ

theorem run_copy_head {P : Program} (w : World) (dT sT ty elem : TypeId) (g o dLen dCap : Nat) (s : ByteArray) (cur : Array Value) (t : TypeId)
    (hu : P.underlying dT = some (.slice elem)) (hs : (P.info? elem).map (·.size) = some 1) (hg : w.heap[g]? = some (.cells cur t (0, 0))) (hle : dLen ≤ s.size) (hfit : o + dLen ≤ cur.size) (cs : List Value) (hcs : (Lib.strCells s).take dLen = cs) :
    (Builtin.copy_ #[dT, sT] ty #[.slice (some ⟨g, o, none⟩) dLen dCap, .string s]).run P w = .ok (goInt dLen) (w.setRow g (putAt cur o cs.toArray)) := by
  have hlen : cs.length = dLen := by rw [← hcs, List.length_take, Lib.strCells_length]; omega
  have hone : ∀ u ∈ cs, u.oneCell' = true := fun u hu => Lib.strCells_oneCell s u (by rw [← hcs] at hu; exact List.mem_of_mem_take hu)
  have hst := run_storeCells_at P g o t cs 0 cur w hg (by rw [hlen]; simpa using hfit) hone
  have hmin : Nat.min s.size dLen = dLen := Nat.min_eq_right hle
  have htk : List.take dLen (List.map (fun b : UInt8 => Value.int IntKind.u8 (b.toNat : Int)) s.data.toList) = cs := hcs
  simp only [Nat.add_zero] at hst
  have e : putAt cur o cs.toArray = (cur.toList.take o ++ cs ++ cur.toList.drop (o + cs.length)).toArray := by unfold putAt; simp
  rw [e]
  cases hq : P.info? elem with
  | none => simp [hq] at hs
  | some i =>
    simp [Builtin.copy_, run_underlying hu, Builtin.lenOf, Builtin.firstCells, sizeOf, typeInfo, hq, hmin]
    rw [htk, hst]
    simp [Result.andThen]
theorem wp_copy_head {P : Program} {o : Oper} {a : Act} {w : World} {K : Act → World → Prop} {Q : Exit → Act → World → Prop} (d x : Operand) (dT sT : TypeId)
    (ho : o.op = .call { callee := .builtin .copy, args := #[d, x], argTypes := #[dT, sT] }) (elem : TypeId) (hu : P.underlying dT = some (.slice elem)) (hs : (P.info? elem).map (·.size) = some 1)
    (g off dLen dCap : Nat) (hd : a.eval d = .slice (some ⟨g, off, none⟩) dLen dCap) (s : ByteArray) (hx : a.eval x = .string s) (cur : Array Value) (t : TypeId)
    (hg : w.heap[g]? = some (.cells cur t (0, 0))) (hle : dLen ≤ s.size) (hfit : off + dLen ≤ cur.size) (cs : List Value) (hcs : (Lib.strCells s).take dLen = cs)
    (h : K (a.put o.dst (goInt dLen)) (w.setRow g (putAt cur off cs.toArray))) : o.wp P a w K Q := by
  have hrun := run_copy_head (P := P) w dT sT o.type elem g off dLen dCap s cur t hu hs hg hle hfit cs hcs
  unfold Oper.wp execOp
  simp only [ho, resolve, invoke, builtin, Sem.run_bind, Sem.run_pure, Result.andThen_ok, List.map_toArray, List.map_cons, List.map_nil, hd, hx, hrun]
  exact h
/-- the cells of n bytes of which the first k are known, the others 0. -/
def stT (f : Nat → UInt8) (n k : Nat) : Array Value := (cells8 (rowTo f (fun _ => 0) n k)).toArray
theorem stT_size (f : Nat → UInt8) (n k : Nat) : (stT f n k).size = n := by simp [stT, cells8_length, rowTo_length]
theorem stT_at (f : Nat → UInt8) (n k i : Nat) (hi : i < n) : (stT f n k)[i]? = some (cell8 (if i < k then f i else 0)) := by
  unfold stT cells8; rw [List.getElem?_toArray, List.getElem?_map, rowTo_at f _ n k i hi]; rfl
theorem stT_all (f : Nat → UInt8) (n : Nat) : stT f n n = (cells8 (upTo f n)).toArray := by unfold stT; rw [rowTo_all _ _ _ _ (Nat.le_refl _)]
theorem stT_put (f : Nat → UInt8) (n k : Nat) (h : k + 16 ≤ n) : putAt (stT f n k) k (cells8 (upTo (fun i => f (k + i)) 16)).toArray = stT f n (k + 16) := by
  have l : (cells8 (upTo (fun i => f (k + i)) 16)).toArray.size = 16 := by simp [cells8_length, upTo_length]
  have hs : (putAt (stT f n k) k (cells8 (upTo (fun i => f (k + i)) 16)).toArray).size = n := by rw [putAt_size _ _ _ (by rw [l, stT_size]; omega), stT_size]
  apply Array.ext_getElem?
  intro i
  by_cases hi : i < n
  · rw [putAt_get _ _ _ (by rw [l, stT_size]; omega), l, stT_at f n (k + 16) i hi]
    by_cases h1 : i < k
    · rw [if_pos h1, stT_at f n k i hi, if_pos h1, if_pos (by omega)]
    · rw [if_neg h1]
      by_cases h2 : i < k + 16
      · rw [if_pos h2, if_pos h2, List.getElem?_toArray, cells8, List.getElem?_map, upTo_at _ _ _ (by omega)]
        show some (cell8 (f (k + (i - k)))) = _
        rw [show k + (i - k) = i by omega]
      · rw [if_neg h2, if_neg h2, stT_at f n k i hi, if_neg h1]
  · rw [Array.getElem?_eq_none (by omega), Array.getElem?_eq_none (by rw [stT_size]; omega)]
theorem zero16_at : ∀ j : Nat, j < 16 → zero16[j]! = .int .u8 0
  | 0, _ => rfl
  | 1, _ => rfl
  | 2, _ => rfl
  | 3, _ => rfl
  | 4, _ => rfl
  | 5, _ => rfl
  | 6, _ => rfl
  | 7, _ => rfl
  | 8, _ => rfl
  | 9, _ => rfl
  | 10, _ => rfl
  | 11, _ => rfl
  | 12, _ => rfl
  | 13, _ => rfl
  | 14, _ => rfl
  | 15, _ => rfl
  | n + 16, h => absurd h (by omega)
theorem made_states (f : Nat → UInt8) (n : Nat) : madeCells (Value.agg zero16).cells n = stT f n 0 := by
  apply Array.ext_getElem?
  intro i
  by_cases hi : i < n
  · rw [stT_at f n 0 i hi, if_neg (by omega)]
    have e1 := zero16_at (i % 16) (Nat.mod_lt _ (by omega))
    unfold madeCells
    rw [Array.getElem?_map, Array.getElem?_range, if_pos hi]
    show some (zero16[i % 16]!) = _
    rw [e1]; rfl
  · rw [Array.getElem?_eq_none (by rw [size_madeCells]; omega), Array.getElem?_eq_none (by rw [stT_size]; omega)]
theorem infoSt : (Tryz.prog.info? 146).map (fun i => (i.zero, i.size, i.bytes)) = some (some (.agg zero16), 16, 16) := by kernel_rfl
theorem txt_16 (s : ByteArray) (k : Nat) (h : k + 16 ≤ s.size) : (Lib.strCells (s.extract k s.size)).take 16 = cells8 (upTo (fun i => byteOf s (k + i)) 16) := by
  have hz : (s.extract k s.size).size = s.size - k := by rw [ByteArray.size_extract]; omega
  apply List.ext_getElem?
  intro i
  by_cases hi : i < 16
  · rw [List.getElem?_take_of_lt hi, cells8, List.getElem?_map, upTo_at _ _ _ hi, Lib.strCells, List.getElem?_map]
    have e : (s.extract k s.size).data.toList[i]? = some (byteOf (s.extract k s.size) i) := by
      have hl : i < (s.extract k s.size).data.toList.length := by rw [Array.length_toList]; show i < (s.extract k s.size).size; omega
      rw [List.getElem?_eq_getElem hl, byteOf, List.getD_eq_getElem?_getD, List.getElem?_eq_getElem hl]; rfl
    rw [e, ← byteOf_at _ _ (by omega), ByteArray.getElem_extract, byteOf_at]; rfl
  · rw [List.getElem?_eq_none (by rw [List.length_take]; omega), List.getElem?_eq_none (by rw [cells8_length, upTo_length]; omega)]
set_option maxRecDepth 100000 in
set_option maxHeartbeats 6400000 in
theorem statesOf_impl (t : ByteArray) (m : Nat) (hm : t.size / 16 = m) (ht : t.size ≤ 4194304) (w : World) :
    Calls Tryz.prog 94 #[.string t] w fun e w' => e = .returned (.slice (some ⟨w.heap.size, 0, none⟩) m m) ∧ w'.ownsRow w.heap.size 146 16 (.slice (some ⟨w.heap.size, 0, none⟩) m m) m (cells8 (upTo (byteOf t) (16 * m))) ∧ Below w.heap.size w w' := by
  obtain ⟨i0, hi, hz0, hz1, hz2⟩ := info_parts infoSt
  have hmk0 := run_make (P := Tryz.prog) w 90 146 i0 (.agg zero16) Tryz.underlying90 hi hz0 .i64 .i64 (m : Int) (m : Int) (by omega) (Int.le_refl _) (by rw [hz2]; omega) (by omega)
  rw [hz1, Int.toNat_natCast, made_states (byteOf t)] at hmk0
  have r0 := RAt.new w 146 (stT (byteOf t) (m * 16) 0)
  have b0 : Below w.heap.size w (w.alloc (.cells (stT (byteOf t) (m * 16) 0) 146)) := (Below.refl _ _).alloc (Nat.le_refl _) _
  have hq : ((t.size : Int)).tdiv 16 = (m : Int) := by rw [Int.tdiv_eq_ediv_of_nonneg (by omega)]; omega
  have hmI : IntKind.i64.wrap (m : Int) = (m : Int) := IntWalk.i64_in _ (by omega)
  have HPUT := fun k h => Lib.hid (stT_put (byteOf t) (m * 16) k h)
  have HTX := fun k h => Lib.hid (txt_16 t k h)
  have HSZ : Hid (16 * m ≤ t.size) := Lib.hid (by omega)
  have HSM := Lib.hid ht
  have HZ1 : Hid ((Tryz.prog.info? 5).map (·.size) = some 1) := Lib.hid (by kernel_rfl)
  have HTS := fun k => Lib.hid (stT_size (byteOf t) (m * 16) k)
  have HALL := Lib.hid (stT_all (byteOf t) (m * 16))
  obtain ⟨F, hF⟩ : ∃ F, stT (byteOf t) (m * 16) = F := ⟨_, rfl⟩
  rw [hF] at hmk0 r0 b0 HPUT HALL
  simp only [hF] at HTS
  clear hF hi hz0 hz1 hz2 hm ht
  go_enter Tryz.func94, Tryz.ntmps94
  go_wp2
  go_loopw [11] (fun v wr => ∃ k : Nat, k ≤ m ∧ v = .int .i64 k ∧ RAt wr w.heap.size 146 (F (16 * k)) ∧ Below w.heap.size w wr) (fun v _ => m - (intOf v).toNat)
  case atStart => exact ⟨0, by omega, rfl, r0, b0⟩
  case round =>
    obtain ⟨k, hk, rfl, g1, hbel⟩ := hrel
    by_cases hlt : k < m
    · have hk1 : (k : Int) < (m : Int) := by omega
      have hk0 : (0 : Int) ≤ (k : Int) := by omega
      have q1 : IntKind.i64.wrap (16 * (k : Int)) = 16 * (k : Int) := IntWalk.i64_in _ (by have := HSM.out; have := HSZ.out; omega)
      have q2 : IntKind.i64.wrap ((k : Int) + 1) = (k : Int) + 1 := IntWalk.i64_in _ (by have := HSM.out; have := HSZ.out; omega)
      have hsl := fun W => run_slice_string_l (P := Tryz.prog) W 9 t Tryz.underlying9 .i64 (16 * (k : Int)) (by omega) (by have := HSZ.out; omega)
      have ekk : (16 * (k : Int)).toNat = 16 * k := by omega
      simp only [ekk] at hsl
      have HCS := HTX (16 * k) (by have := HSZ.out; omega)
      have HLE : Hid (16 ≤ (t.extract (16 * k) t.size).size) := Lib.hid (by rw [ByteArray.size_extract]; have := HSZ.out; omega)
      have hput := (HPUT (16 * k) (by omega)).out
      have HFIT : Hid (16 * k + 16 ≤ (F (16 * k)).size) := Lib.hid (by rw [(HTS (16 * k)).out]; omega)
      generalize t.extract (16 * k) t.size = X at *
      obtain ⟨CSL, hCSL⟩ : ∃ CSL, cells8 (upTo (fun i => byteOf t (16 * k + i)) 16) = CSL := ⟨_, rfl⟩
      rw [hCSL] at HCS hput
      have G1 : Hid (RAt wr.drew w.heap.size 146 (F (16 * k))) := Lib.hid g1
      have R2 : Hid (RAt (wr.drew.setRow w.heap.size (putAt (F (16 * k)) (16 * k) CSL.toArray)) w.heap.size 146 (F (16 * (k + 1)))) := Lib.hid (by
        have h := G1.out.row (putAt (F (16 * k)) (16 * k) CSL.toArray)
        have e : F (16 * (k + 1)) = putAt (F (16 * k)) (16 * k) CSL.toArray := by rw [hput, show 16 * (k + 1) = 16 * k + 16 by omega]
        rw [e]; exact h)
      have B2 : Hid (Below w.heap.size w (wr.drew.setRow w.heap.size (putAt (F (16 * k)) (16 * k) CSL.toArray))) := Lib.hid (below_setRow hbel.drew (Nat.le_refl _) _)
      generalize F (16 * k) = CUR at *
      have ek : ∀ q : Nat, q * 16 = 16 * q := fun q => Nat.mul_comm _ _
      clear g1 hbel hput hCSL HPUT HTX r0 b0 hmk0
      go_wp2
      refine wp_region_held_drew (S := fun _ => True) (by kernel_rfl) trivial (fun hS => ?_)
      refine tk 0 (v := ?_) ?_ trivial ?_
      rotate_left
      · intro w hSw
        go_simp
        first | done | with_reducible rfl
      try simp only [lay]
      refine tk 1 (v := ?_) ?_ trivial ?_
      rotate_left
      · intro w hSw
        go_simp
        first | done | with_reducible rfl
      try simp only [lay]
      refine tk 2 (v := ?_) ?_ trivial ?_
      rotate_left
      · intro w hSw
        go_simp
        first | done | with_reducible rfl
      try simp only [lay]
      refine tk 3 (v := ?_) ?_ trivial ?_
      rotate_left
      · intro w hSw
        go_simp
        first | done | with_reducible rfl
      try simp only [lay]
      refine tk 4 (v := ?_) ?_ trivial ?_
      rotate_left
      · intro w hSw
        go_simp
        first | done | with_reducible rfl
      try simp only [lay]
      refine tk 5 (v := ?_) ?_ trivial ?_
      rotate_left
      · intro w hSw
        go_simp
        first | done | with_reducible rfl
      try simp only [lay]
      refine tk 6 (v := ?_) ?_ trivial ?_
      rotate_left
      · intro w hSw
        go_simp
        first | done | with_reducible rfl
      try simp only [lay]
      refine tk 7 (v := ?_) ?_ trivial ?_
      rotate_left
      · intro w hSw
        go_simp
        first | done | with_reducible rfl
      try simp only [lay]
      refine wpAnyH_ready (rs := [8]) (by kernel_rfl) (by simp) ?_
      refine AllReadyH.cons rfl (fun K hK => ?_) AllReadyH.nil
      refine Eq.mpr (if_pos (by rfl)) ?_
      refine wp_copy_head (.tmp 17) (.tmp 21) 22 9 rfl 5 Tryz.underlying22 HZ1.out w.heap.size (16 * k) 16 _ (by first | rfl | (simp [ek]; done)) X rfl CUR 146 (by exact G1.out) HLE.out HFIT.out CSL HCS.out ?_
      refine hK.out _ _ trivial (fun _ => ?_)
      clear hK K
      try simp only [lay]
      refine wpAnyH_done (by kernel_rfl) ?_ _
      clear hS
      go_wp2
      go_roundw
      case rel => exact ⟨k + 1, by omega, by go_num, R2.out, B2.out⟩
      case measure => simp [intOf]; omega
    · obtain rfl : k = m := by omega
      have hown : wr.ownsRow w.heap.size 146 16 (.slice (some ⟨w.heap.size, 0, none⟩) k k) k (cells8 (upTo (byteOf t) (16 * k))) := by
        have e : F (16 * k) = (cells8 (upTo (byteOf t) (16 * k))).toArray := by have := HALL.out; rw [Nat.mul_comm k 16] at this; exact this
        rw [e] at g1
        refine ⟨by rw [cells8_length, upTo_length]; omega, .inr ⟨w.heap.size, k, _, rfl, Nat.le_refl _, g1, Nat.le_refl _, by have := HSM.out; have := HSZ.out; unfold maxLen; omega, by rw [List.size_toArray, cells8_length, upTo_length]; omega, ?_⟩⟩
        exact List.take_of_length_le (by rw [Array.length_toList, List.size_toArray, cells8_length, upTo_length]; omega)
      have HO := Lib.hid hown
      have HB := Lib.hid hbel
      clear hown hbel g1 HPUT HTX r0 b0 hmk0
      go_wp2
      go_ret
      exact ⟨rfl, HO.out, HB.out⟩
end Go.Proofs.YtbfmbdohebdbaaaGreatDoor
set_option linter.unusedVariables false
set_option linter.unusedSimpArgs false
namespace Go.Proofs.YtbfmbdohebdbaaaGreatDoor
open Go Go.RowKit

/-- the bytes of planes behind round k: a box, rows taken d on, columns mixed but in the last round, a key. -/
def wkP (f : UInt8 → UInt8) (d : Nat) (m : UInt32 → UInt32) (K : Nat → ByteArray) (r : Nat) (s : Nat → UInt8) : Nat → Nat → UInt8
  | 0 => fun i => s i ^^^ keyB (K 0) i
  | k + 1 => fun i => (if k + 1 < r then colsB m (rowsB d fun i => f (wkP f d m K r s k i)) else rowsB d fun i => f (wkP f d m K r s k i)) i ^^^ keyB (K (k + 1)) i
theorem wkP_mid (f : UInt8 → UInt8) (d : Nat) (m : UInt32 → UInt32) (K : Nat → ByteArray) (r : Nat) (s : Nat → UInt8) (k : Nat) (h : k + 1 < r) : wkP f d m K r s (k + 1) = fun i => colsB m (rowsB d fun i => f (wkP f d m K r s k i)) i ^^^ keyB (K (k + 1)) i := by
  show (fun i => (if k + 1 < r then colsB m (rowsB d fun i => f (wkP f d m K r s k i)) else rowsB d fun i => f (wkP f d m K r s k i)) i ^^^ keyB (K (k + 1)) i) = _
  rw [if_pos h]
theorem wkP_end (f : UInt8 → UInt8) (d : Nat) (m : UInt32 → UInt32) (K : Nat → ByteArray) (s : Nat → UInt8) (k : Nat) : wkP f d m K (k + 1) s (k + 1) = fun i => rowsB d (fun i => f (wkP f d m K (k + 1) s k i)) i ^^^ keyB (K (k + 1)) i := by
  show (fun i => (if k + 1 < k + 1 then colsB m (rowsB d fun i => f (wkP f d m K (k + 1) s k i)) else rowsB d fun i => f (wkP f d m K (k + 1) s k i)) i ^^^ keyB (K (k + 1)) i) = _
  rw [if_neg (by omega)]
theorem wkP_lk (K : Nat → ByteArray) (r : Nat) (s : Nat → UInt8) : ∀ k, wkP sbox 1 mxW K r s k = lkP K r s k
  | 0 => rfl
  | k + 1 => by rw [lkP_up, ← wkP_lk K r s k]; rfl
theorem blk_ud (v : Nat → UInt8) (j : Nat) : blk (rowsB 3 fun i => ubox (v i)) j = udS (blk v j) := by
  rw [← rowsB_blk]
  unfold udS
  refine b_ext _ _ 16 (shS_size _ _) (by rw [mapT_size, shS_size]) fun i hi => ?_
  rw [mapT_b _ _ _ (by rw [shS_size]; exact hi), shS_byte _ _ _ hi, shS_byte _ _ _ hi, blk_byte _ _ _ (shAt_lt _ _), blk_byte _ _ _ (shAt_lt _ _)]
theorem blk_un (v : Nat → UInt8) (j : Nat) : blk (colsB unmixW v) j = unS (blk v j) := (colsB_blk unmixW v j).symm
/-- the keys of the way back, in the order in which they are added. -/
def kbS (key : ByteArray) (n j : Nat) : ByteArray := ukS key n (n + 6 - j)
theorem kbS_size (key : ByteArray) (n j : Nat) : (kbS key n j).size = 16 := by unfold kbS ukS; exact ofW_size _
theorem blk_wkb (key : ByteArray) (n : Nat) (s : Nat → UInt8) (j : Nat) : ∀ k, k < n + 6 → blk (wkP ubox 3 unmixW (kbS key n) (n + 6) s k) j = outS (rkS key n) (n + 6) (blk s j) k
  | 0, _ => by
    show blk (fun i => s i ^^^ keyB (kbS key n 0) i) j = xorS (blk s j) (rkS key n (n + 6))
    rw [blk_key _ _ (kbS_size _ _ _) j]
    unfold kbS
    rw [Nat.sub_zero, ukS_end key n (n + 6) (.inr rfl)]
  | k + 1, h => by
    rw [wkP_mid _ _ _ _ _ _ _ h, blk_key _ _ (kbS_size _ _ _) j, blk_un, blk_ud, blk_wkb key n s j k (by omega), out_tab _ _ _ _ h]
    unfold kbS
    rw [ukS_mid key n _ (by omega) (by omega), show n + 6 - (k + 1) = n + 6 - 1 - k by omega]
theorem blk_wk_back (key : ByteArray) (n : Nat) (s : Nat → UInt8) (j : Nat) : blk (wkP ubox 3 unmixW (kbS key n) (n + 6) s (n + 6)) j = unlockS (rkS key n) (n + 6) (blk s j) := by
  rw [show n + 6 = (n + 5) + 1 from rfl, wkP_end, blk_key _ _ (kbS_size _ _ _) j, blk_ud, show n + 5 + 1 = n + 6 from rfl, blk_wkb key n s j (n + 5) (by omega)]
  unfold kbS
  rw [Nat.sub_self, ukS_end key n 0 (.inl rfl)]
  exact out_last (rkS key n) (n + 6) (blk s j) (by omega)
theorem blk_wk_there (key : ByteArray) (n : Nat) (s : Nat → UInt8) (j : Nat) : blk (wkP sbox 1 mxW (rkS key n) (n + 6) s (n + 6)) j = lockS (rkS key n) (n + 6) (blk s j) := by
  rw [wkP_lk, blk_lk _ (fun i => rkS_size _ _ _)]; rfl
/-- each block of a text changed by itself. -/
def eachB (g : ByteArray → ByteArray) (s : Nat → UInt8) (i : Nat) : UInt8 := byteOf (g (blk s (i / 16))) (i % 16)
theorem eachB_blk (g : ByteArray → ByteArray) (hg : ∀ b, b.size = 16 → (g b).size = 16) (s : Nat → UInt8) (j : Nat) : blk (eachB g s) j = g (blk s j) := by
  refine Eq.trans (txt_ext _ (byteOf (g (blk s j))) 16 fun i hi => ?_) (txt_own _ 16 (hg _ (blk_size _ _)))
  unfold eachB
  rw [show (16 * j + i) / 16 = j by omega, show (16 * j + i) % 16 = i by omega]
/-- what becomes of a block under a key, there or back. -/
def wayT (back : Bool) (key : ByteArray) (b : ByteArray) : ByteArray := if back then unlockT key b else lockT key b
theorem wayT_size (back : Bool) (key b : ByteArray) (hk : kOk key) (hb : b.size = 16) : (wayT back key b).size = 16 := by
  unfold wayT
  cases back
  · simp only [Bool.false_eq_true, if_false]; rw [lockT_yes key b hk hb]; exact lockS_size _ _ _
  · simp only [if_true]; rw [unlockT_yes key b hk hb]; exact unlockS_size _ _ _
theorem wayT_inv (back : Bool) (key b : ByteArray) (hk : kOk key) (hb : b.size = 16) : wayT (!back) key (wayT back key b) = b := by
  unfold wayT
  cases back
  · simp only [Bool.not_false, if_true, Bool.false_eq_true, if_false]
    rw [lockT_yes key b hk hb, unlockT_yes key _ hk (lockS_size _ _ _), unlock_lock _ _ _ hb]
  · simp only [Bool.not_true, if_true, Bool.false_eq_true, if_false]
    rw [unlockT_yes key b hk hb, lockT_yes key _ hk (unlockS_size _ _ _), lock_unlock _ _ _ hb]
/-- what LockSliced and UnlockSliced answer. -/
def slT (back : Bool) (key s : ByteArray) : ByteArray := if kOk key ∧ s.size % 16 = 0 then txt (eachB (wayT back key) (byteOf s)) s.size else ⟨#[]⟩
theorem slT_no (back : Bool) (key s : ByteArray) (h : ¬ (kOk key ∧ s.size % 16 = 0)) : slT back key s = ⟨#[]⟩ := if_neg h
theorem slT_yes (back : Bool) (key s : ByteArray) (hk : kOk key) (h : s.size % 16 = 0) : slT back key s = txt (eachB (wayT back key) (byteOf s)) s.size := if_pos ⟨hk, h⟩
theorem slT_size (back : Bool) (key s : ByteArray) (hk : kOk key) (h : s.size % 16 = 0) : (slT back key s).size = s.size := by rw [slT_yes _ _ _ hk h, txt_size]
end Go.Proofs.YtbfmbdohebdbaaaGreatDoor
set_option linter.unusedVariables false
set_option linter.unusedSimpArgs false
namespace Go.Proofs.YtbfmbdohebdbaaaGreatDoor
open Go Go.RowKit
attribute [local go_sem ↓] Go.wp_at_zero Go.wp_at_succ

/-- m blocks of the bytes s stand in the row at g. -/
def StBl (w : World) (g m : Nat) (s : Nat → UInt8) : Prop := g < w.heap.size ∧ ∀ j, j < m → w.rangeAt g (16 * j) (cells8 (upTo (fun i => s (16 * j + i)) 16))
theorem StBl.below {w w' : World} {B g m : Nat} {s : Nat → UInt8} (h : StBl w g m s) (hb : Below B w w') (hg : g < B) : StBl w' g m s :=
  ⟨Nat.lt_of_lt_of_le h.1 hb.size, fun j hj => fun q v hv => (World.cell?_of_block (a := ⟨g, 16 * j + q, none⟩) (hb.block g hg)).trans (h.2 j hj q v hv)⟩
theorem StBl.up {w w' : World} {g m : Nat} {s : Nat → UInt8} (h : StBl w g m s) (hb : Below w.heap.size w w') : StBl w' g m s := h.below hb h.1
theorem StBl.of_own {w : World} {B g m c : Nat} {s : Nat → UInt8} (h : w.ownsRow B 146 16 (.slice (some ⟨g, 0, none⟩) m c) m (cells8 (upTo s (16 * m)))) : StBl w g m s := by
  refine ⟨(h.lt g rfl).2, fun j hj => fun q v hv => ?_⟩
  have hq : q < 16 := by have := (List.getElem?_eq_some_iff.1 hv).1; rwa [cells8_length, upTo_length] at this
  rw [h.cellAt (16 * j + q) (by omega), ← hv, cells8, cells8, List.getElem?_map, List.getElem?_map, upTo_at s _ _ (by omega), upTo_at _ _ _ hq]
theorem cells8_16 (s : Nat → UInt8) (k : Nat) : cells8 (upTo s (16 * k)) ++ cells8 (upTo (fun i => s (16 * k + i)) 16) = cells8 (upTo s (16 * (k + 1))) := by
  have h := congrArg (fun x : ByteArray => x.data.toList) (txt_blk_up s k)
  have h2 : upTo s (16 * k) ++ upTo (fun i => s (16 * k + i)) 16 = upTo s (16 * (k + 1)) := by simpa [txt, blk] using h
  rw [← h2, cells8_append]
theorem st_len (s : Nat → UInt8) : (Tryz.prog.info? 146).map (·.size) = some (cells8 (upTo s 16)).length := by rw [cells8_length, upTo_length]; kernel_rfl
theorem sts_size (s : Nat → UInt8) : (Tryz.prog.info? 146).map (·.size) = some (cells8 (upTo s 16)).toArray.size := by rw [List.size_toArray]; exact st_len s
theorem sts_one (l : List UInt8) : (cells8 l).toArray.all (·.oneCell') = true := all_oneCell_toArray (cells8_oneCell l)
theorem conv_row {w : World} {g S c : Nat} {l : List UInt8} {t : TypeId} (hS : l.length = S) (h : RAt w g t (cells8 l).toArray) : (convert 22 9 (.slice (some ⟨g, 0, none⟩) S c)).run Tryz.prog w = .ok (.string ⟨l.toArray⟩) w := by
  subst hS
  refine run_convert_bytes_back (P := Tryz.prog) w 22 9 5 ⟨g, 0, none⟩ c l Tryz.underlying22 Tryz.underlying5 Tryz.underlying9 (fun j hj => ?_)
  rw [show (⟨g, 0, none⟩ : Addr).add j = ⟨g, j, none⟩ by unfold Addr.add; split <;> simp_all]
  refine h.cell ?_
  rw [List.getElem?_toArray, cells8, List.getElem?_map, List.getElem?_eq_getElem hj]; rfl
set_option maxRecDepth 100000 in
theorem textOf_nil (w : World) :
    Calls Tryz.prog 65 #[.slice none 0 0] w fun e w' => e = .returned (.string ⟨#[]⟩) ∧ Below w.heap.size w w' := by
  have h0 : w.ownsRow w.heap.size 5 1 (.slice none 0 0) 0 (cells8 []) := World.ownsRow_nil _ _ _ _
  have hconv := run_string_own Tryz.underlying22 Tryz.underlying5 Tryz.underlying9 h0
  clear h0
  go_enter Tryz.func65, Tryz.ntmps65
  go_wp2
  go_loopw [3, 8] (fun tv v wr => tv = .slice none 0 0 ∧ v = .int .i64 0 ∧ wr = w) (fun _ _ _ => 0)
  case atStart => exact ⟨rfl, rfl, rfl⟩
  case round =>
    obtain ⟨rfl, rfl, rfl⟩ := hrel
    go_wp2
    go_ret
    exact ⟨rfl, Below.refl _ _⟩
set_option maxRecDepth 100000 in
set_option maxHeartbeats 3200000 in
theorem textOf_impl (s : Nat → UInt8) (g m c : Nat) (hm : m ≤ 262144) (hmc : m ≤ c) (w : World) (hv : StBl w g m s) :
    Calls Tryz.prog 65 #[.slice (some ⟨g, 0, none⟩) m c] w fun e w' => e = .returned (.string (txt s (16 * m))) ∧ Below w.heap.size w w' := by
  obtain ⟨i0, hi, hz0, hz1, hz2⟩ := info_parts Tryz.info5
  have HV : Hid (∀ W, Below w.heap.size w W → ∀ j, j < m → W.rangeAt g (16 * j) (cells8 (upTo (fun i => s (16 * j + i)) 16))) := Lib.hid fun W hW => (hv.up hW).2
  have HU := fun k => Lib.hid (cells8_16 s k)
  have HL := fun f => Lib.hid (st_len f)
  have HSZ := fun f => Lib.hid (sts_size f)
  have hmI : (m : Int) ≤ 262144 := by omega
  have hmcI : (m : Int) ≤ (c : Int) := by omega
  have HM := Lib.hid hm
  clear hv hm hmc
  go_enter Tryz.func65, Tryz.ntmps65
  go_wp2
  go_loopw [3, 8] (fun tv v wr => ∃ k : Nat, k ≤ m ∧ v = .int .i64 k ∧ wr.ownsRow w.heap.size 5 1 tv (16 * k) (cells8 (upTo s (16 * k))) ∧ Below w.heap.size w wr) (fun _ v _ => m - (intOf v).toNat)
  case atStart => exact ⟨0, by omega, rfl, World.ownsRow_nil _ _ _ _, Below.refl _ _⟩
  case round =>
    obtain ⟨k, hk, rfl, hown, hbel⟩ := hrel
    by_cases hlt : k < m
    · have hk1 : (k : Int) < (m : Int) := by omega
      have hk0 : (0 : Int) ≤ (k : Int) := by omega
      have q2 : IntKind.i64.wrap ((k : Int) + 1) = (k : Int) + 1 := IntWalk.i64_in _ (by omega)
      have RK := Lib.hid (HV.out wr hbel k hlt)
      have hlk := (HL (fun i => s (16 * k + i))).out
      have hsk := (HSZ (fun i => s (16 * k + i))).out
      have hone := sts_one (upTo (fun i => s (16 * k + i)) 16)
      have hul := (HU k)
      obtain ⟨LK, hLK⟩ : ∃ LK, cells8 (upTo (fun i => s (16 * k + i)) 16) = LK := ⟨_, rfl⟩
      have hl1 : Hid (LK.length = 16) := Lib.hid (by rw [← hLK, cells8_length, upTo_length])
      have HN1 : Hid (∀ u ∈ LK, u.oneCell' = true) := Lib.hid (by rw [← hLK]; exact cells8_oneCell _)
      rw [hLK] at RK hlk hsk hone hul
      have M := Lib.hid (RAt.new wr 146 zero16)
      have hz : zero16.size = LK.toArray.size := (show zero16.size = 16 from rfl).trans (by rw [List.size_toArray, hl1.out])
      obtain ⟨W6, hW6⟩ : ∃ W6, (wr.alloc (.cells zero16 146)).setRow wr.heap.size LK.toArray = W6 := ⟨_, rfl⟩
      have r6 : Hid (RAt W6 wr.heap.size 146 LK.toArray) := Lib.hid (by rw [← hW6]; exact M.out.row _)
      have b6 : Below wr.heap.size wr W6 := hW6 ▸ below_setRow ((Below.refl _ _).alloc (Nat.le_refl _) _) (Nat.le_refl _) _
      have HO := Lib.hid (own_below hown b6)
      have HB6 := Lib.hid (hbel.trans (b6.mono hbel.size))
      have HS6 : Hid (wr.heap.size < W6.heap.size ∧ w.heap.size ≤ W6.heap.size) := Lib.hid ⟨r6.out.lt, Nat.le_trans hbel.size b6.size⟩
      have HW6 := Lib.hid hW6
      unfold zero16 at M HW6 hz
      clear hown hbel hLK hW6 b6 HV HU HL HSZ
      go_wp2_with (first
        | (refine wpList_load_mid rfl 146 _ rfl g _ rfl LK _ (by first | exact RK.out | (rw [Nat.mul_comm]; exact RK.out)) Tryz.underlying146 rfl hlk ?_)
        | (refine wpList_store_row rfl 146 _ _ rfl wr.heap.size LK.toArray rfl rfl 146 _ M.out hsk hz hone ?_; rw [HW6.out])
        | (at_builtin; refine stp ?_))
      refine unstp ?_
      refine wpList_append_lies W6 rfl (.tmp 12) (.tmp 13) 22 rfl w.heap.size 5 i0 _ 1 1 Tryz.underlying22 hi hz0 hz1 hz2 rfl (by decide) _ (16 * k) (cells8 (upTo s (16 * k))) rfl HO.out ⟨wr.heap.size, 0, none⟩ 16 16 LK rfl (by rw [hl1.out]) (World.news_of_block (cs := LK.toArray) r6.out) HN1.out (by omega) (by have := HM.out; unfold maxLen; omega) (by have := HM.out; omega) HS6.out.2 W6.heap.size rfl ?_
      intro g2 c2 w7 hown7 hgrow hat hlt7
      have HO7 := Lib.hid (hul.out ▸ hown7)
      have HB7 := Lib.hid (HB6.out.grown hgrow HB6.out.size (fun b hb => (HO.out.lt b hb).1))
      clear hown7 hgrow hat hlt7 HO HB6 HS6 r6 M
      go_wp2
      go_roundw
      case rel => exact ⟨k + 1, by omega, by go_num, HO7.out, HB7.out⟩
      case measure => simp [intOf]; omega
    · obtain rfl : k = m := by omega
      have hconv := run_string_own Tryz.underlying22 Tryz.underlying5 Tryz.underlying9 hown
      have HB := Lib.hid hbel
      clear hown hbel HV HU HL HSZ
      go_wp2
      go_ret
      exact ⟨rfl, HB.out⟩
set_option maxRecDepth 100000 in
set_option maxHeartbeats 3200000 in
theorem eachBlock_cap (s : Nat → UInt8) (T : ByteArray → ByteArray) (hT : ∀ b, b.size = 16 → (T b).size = 16) (G : FuncId) (x : Value) (g m c : Nat) (hm : m ≤ 262144) (hmc : m ≤ c) (w : World) (hv : StBl w g m s)
    (HE : ∀ (args : Array Value) (W : World), (callFunc G args).run Tryz.prog W = .ok (.enter G args) W)
    (HG : ∀ j, j < m → ∀ W, Below w.heap.size w W → Calls Tryz.prog G #[.string (blk s j), x] W fun e w' => e = .returned (.string (T (blk s j))) ∧ Below W.heap.size W w') :
    Calls Tryz.prog 220 #[.slice (some ⟨g, 0, none⟩) m c, .func (.func G) #[] #[x]] w fun e w' => ∃ dv, e = .returned dv ∧ w'.ownsRow w.heap.size 146 16 dv m (cells8 (upTo (eachB T s) (16 * m))) ∧ Below w.heap.size w w' := by
  obtain ⟨i0, hi, hz0, hz1, hz2⟩ := info_parts infoSt
  have HV : Hid (∀ W, Below w.heap.size w W → ∀ j, j < m → W.rangeAt g (16 * j) (cells8 (upTo (fun i => s (16 * j + i)) 16))) := Lib.hid fun W hW => (hv.up hW).2
  have HU := fun k => Lib.hid (cells8_16 (eachB T s) k)
  have HL := fun f => Lib.hid (st_len f)
  have HSZ := fun f => Lib.hid (sts_size f)
  have HGH := fun j hj W hW => Lib.hid (HG j hj W hW)
  have HBK : Hid (∀ k, cells8 (upTo (byteOf (T (blk s k))) 16) = cells8 (upTo (fun i => eachB T s (16 * k + i)) 16)) := Lib.hid fun k => by
    rw [← eachB_blk T hT s k]
    refine congrArg cells8 (upTo_congr _ _ _ fun i hi => ?_)
    exact blk_byte _ _ _ hi
  have HSO : Hid (∀ k W, Calls Tryz.prog 94 #[.string (T (blk s k))] W fun e w' => e = .returned (.slice (some ⟨W.heap.size, 0, none⟩) 1 1) ∧ w'.ownsRow W.heap.size 146 16 (.slice (some ⟨W.heap.size, 0, none⟩) 1 1) 1 (cells8 (upTo (byteOf (T (blk s k))) 16)) ∧ Below W.heap.size W w') := Lib.hid fun k W =>
    statesOf_impl (T (blk s k)) 1 (by rw [hT _ (blk_size s k)]) (by rw [hT _ (blk_size s k)]; omega) W
  have HTX : Hid (∀ k, (⟨(upTo (fun i => s (16 * k + i)) 16).toArray⟩ : ByteArray) = blk s k) := Lib.hid fun k => rfl
  have hmI : (m : Int) ≤ 262144 := by omega
  have hmcI : (m : Int) ≤ (c : Int) := by omega
  have HM := Lib.hid hm
  clear hv hm hmc HG hT
  go_enter Tryz.func220, Tryz.ntmps220
  go_wp2
  go_loopw [5, 10] (fun dv v wr => ∃ k : Nat, k ≤ m ∧ v = .int .i64 k ∧ wr.ownsRow w.heap.size 146 16 dv k (cells8 (upTo (eachB T s) (16 * k))) ∧ Below w.heap.size w wr) (fun _ v _ => m - (intOf v).toNat)
  case atStart => exact ⟨0, by omega, rfl, World.ownsRow_nil _ _ _ _, Below.refl _ _⟩
  case round =>
    obtain ⟨k, hk, rfl, hown, hbel⟩ := hrel
    by_cases hlt : k < m
    · have hk1 : (k : Int) < (m : Int) := by omega
      have hk0 : (0 : Int) ≤ (k : Int) := by omega
      have q2 : IntKind.i64.wrap ((k : Int) + 1) = (k : Int) + 1 := IntWalk.i64_in _ (by omega)
      have RK := Lib.hid (HV.out wr hbel k hlt)
      have hlk := (HL (fun i => s (16 * k + i))).out
      have hsk := (HSZ (fun i => s (16 * k + i))).out
      have hone := sts_one (upTo (fun i => s (16 * k + i)) 16)
      have hul := (HU k)
      have HSK := fun W => Lib.hid (HSO.out k W)
      have hbk := HBK.out k
      have htx := HTX.out k
      have HGK := HGH k hlt
      obtain ⟨LK, hLK⟩ : ∃ LK, cells8 (upTo (fun i => s (16 * k + i)) 16) = LK := ⟨_, rfl⟩
      have hl1 : Hid (LK.length = 16) := Lib.hid (by rw [← hLK, cells8_length, upTo_length])
      rw [hLK] at RK hlk hsk hone
      obtain ⟨OUT, hOUT⟩ : ∃ OUT, T (blk s k) = OUT := ⟨_, rfl⟩
      rw [hOUT] at hbk
      simp only [hOUT] at HSK HGK
      have hl2 : Hid ((cells8 (upTo (byteOf OUT) 16)).length = 16) := Lib.hid (by rw [cells8_length, upTo_length])
      have hn2 : Hid (∀ u ∈ cells8 (upTo (byteOf OUT) 16), u.oneCell' = true) := Lib.hid (cells8_oneCell _)
      rw [← hbk] at hul
      have M := Lib.hid (RAt.new wr 146 zero16)
      have hz : zero16.size = LK.toArray.size := (show zero16.size = 16 from rfl).trans (by rw [List.size_toArray, hl1.out])
      obtain ⟨W6, hW6⟩ : ∃ W6, (wr.alloc (.cells zero16 146)).setRow wr.heap.size LK.toArray = W6 := ⟨_, rfl⟩
      have r6 : Hid (RAt W6 wr.heap.size 146 LK.toArray) := Lib.hid (by rw [← hW6]; exact M.out.row _)
      have b6 : Below wr.heap.size wr W6 := hW6 ▸ below_setRow ((Below.refl _ _).alloc (Nat.le_refl _) _) (Nat.le_refl _) _
      have HO := Lib.hid (own_below hown b6)
      have HB6 := Lib.hid (hbel.trans (b6.mono hbel.size))
      have hconv := conv_row (l := upTo (fun i => s (16 * k + i)) 16) (S := 16) (c := 16) (by rw [upTo_length]) (by rw [hLK]; exact r6.out)
      rw [htx] at hconv
      have HW6 := Lib.hid hW6
      have HCG := Lib.hid (HGK W6 HB6.out)
      have HMK : Hid (k < 262144) := Lib.hid (by have := HM.out; omega)
      unfold zero16 at M HW6 hz
      clear hown hbel hLK hW6 b6 HV HU HL HSZ htx hbk HBK HSO HTX hOUT HGK HGH
      generalize cells8 (upTo (byteOf OUT) 16) = LO at *
      generalize blk s k = BI at *
      go_wp2_with (first
        | (refine wpList_load_mid rfl 146 _ rfl g _ rfl LK _ (by first | exact RK.out | (rw [Nat.mul_comm]; exact RK.out)) Tryz.underlying146 rfl hlk ?_)
        | (refine wpList_store_row rfl 146 _ _ rfl wr.heap.size LK.toArray rfl rfl 146 _ M.out hsk hz hone ?_; rw [HW6.out]))
      refine HCG.out.out.mono ?_; rintro e w7 ⟨rfl, hb7⟩
      have HO7 := Lib.hid (own_below HO.out hb7)
      have HB7 := Lib.hid (HB6.out.trans (hb7.mono HB6.out.size))
      clear hb7 HO HB6 HCG r6 M HW6 RK
      go_wp2_with fail
      refine (HSK _).out.mono ?_; rintro e w8 ⟨rfl, h8, hb8⟩
      have HO8 := Lib.hid (own_below HO7.out hb8)
      have HB8 := Lib.hid (HB7.out.trans (hb8.mono HB7.out.size))
      have HR8 := Lib.hid (h8.cells (g := w7.heap.size) rfl)
      have HS8 : Hid (w.heap.size ≤ w8.heap.size) := Lib.hid HB8.out.size
      clear h8 hb8 HO7 HB7 HSK
      go_wp2_with (at_builtin; refine stp ?_)
      refine unstp ?_
      refine wpList_append_lies w8 rfl (.tmp 14) (.tmp 19) 90 rfl w.heap.size 146 i0 _ 16 16 Tryz.underlying90 hi hz0 hz1 hz2 rfl (by decide) _ k (cells8 (upTo (eachB T s) (16 * k))) rfl HO8.out ⟨w7.heap.size, 0, none⟩ 1 1 LO rfl (by rw [hl2.out]) HR8.out hn2.out (by omega) (by have := HMK.out; unfold maxLen; omega) (by have := HMK.out; omega) HS8.out w8.heap.size rfl ?_
      intro g2 c2 w9 hown9 hgrow hat hlt9
      have HO9 := Lib.hid (hul.out ▸ hown9)
      have HB9 := Lib.hid (HB8.out.grown hgrow HB8.out.size (fun b hb => (HO8.out.lt b hb).1))
      clear hown9 hgrow hat hlt9 HO8 HB8 HS8 HR8
      go_wp2
      go_roundw
      case rel => exact ⟨k + 1, by omega, by go_num, HO9.out, HB9.out⟩
      case measure => simp [intOf]; omega
    · obtain rfl : k = m := by omega
      have HB := Lib.hid hbel
      have HO := Lib.hid hown
      clear hown hbel HV HU HL HSZ HBK HSO HTX HGH
      go_wp2
      go_ret
      exact ⟨_, rfl, HO.out, HB.out⟩
set_option maxRecDepth 100000 in
set_option maxHeartbeats 3200000 in
theorem eachBlock_meth (s : Nat → UInt8) (T : ByteArray → ByteArray) (hT : ∀ b, b.size = 16 → (T b).size = 16) (G : FuncId) (x : Value) (g m c : Nat) (hm : m ≤ 262144) (hmc : m ≤ c) (w : World) (hv : StBl w g m s)
    (HE : ∀ (args : Array Value) (W : World), (callFunc G args).run Tryz.prog W = .ok (.enter G args) W)
    (HG : ∀ j, j < m → ∀ W, Below w.heap.size w W → Calls Tryz.prog G #[x, .string (blk s j)] W fun e w' => e = .returned (.string (T (blk s j))) ∧ Below W.heap.size W w') :
    Calls Tryz.prog 220 #[.slice (some ⟨g, 0, none⟩) m c, .func (.func G) #[x] #[]] w fun e w' => ∃ dv, e = .returned dv ∧ w'.ownsRow w.heap.size 146 16 dv m (cells8 (upTo (eachB T s) (16 * m))) ∧ Below w.heap.size w w' := by
  obtain ⟨i0, hi, hz0, hz1, hz2⟩ := info_parts infoSt
  have HV : Hid (∀ W, Below w.heap.size w W → ∀ j, j < m → W.rangeAt g (16 * j) (cells8 (upTo (fun i => s (16 * j + i)) 16))) := Lib.hid fun W hW => (hv.up hW).2
  have HU := fun k => Lib.hid (cells8_16 (eachB T s) k)
  have HL := fun f => Lib.hid (st_len f)
  have HSZ := fun f => Lib.hid (sts_size f)
  have HGH := fun j hj W hW => Lib.hid (HG j hj W hW)
  have HBK : Hid (∀ k, cells8 (upTo (byteOf (T (blk s k))) 16) = cells8 (upTo (fun i => eachB T s (16 * k + i)) 16)) := Lib.hid fun k => by
    rw [← eachB_blk T hT s k]
    refine congrArg cells8 (upTo_congr _ _ _ fun i hi => ?_)
    exact blk_byte _ _ _ hi
  have HSO : Hid (∀ k W, Calls Tryz.prog 94 #[.string (T (blk s k))] W fun e w' => e = .returned (.slice (some ⟨W.heap.size, 0, none⟩) 1 1) ∧ w'.ownsRow W.heap.size 146 16 (.slice (some ⟨W.heap.size, 0, none⟩) 1 1) 1 (cells8 (upTo (byteOf (T (blk s k))) 16)) ∧ Below W.heap.size W w') := Lib.hid fun k W =>
    statesOf_impl (T (blk s k)) 1 (by rw [hT _ (blk_size s k)]) (by rw [hT _ (blk_size s k)]; omega) W
  have HTX : Hid (∀ k, (⟨(upTo (fun i => s (16 * k + i)) 16).toArray⟩ : ByteArray) = blk s k) := Lib.hid fun k => rfl
  have hmI : (m : Int) ≤ 262144 := by omega
  have hmcI : (m : Int) ≤ (c : Int) := by omega
  have HM := Lib.hid hm
  clear hv hm hmc HG hT
  go_enter Tryz.func220, Tryz.ntmps220
  go_wp2
  go_loopw [5, 10] (fun dv v wr => ∃ k : Nat, k ≤ m ∧ v = .int .i64 k ∧ wr.ownsRow w.heap.size 146 16 dv k (cells8 (upTo (eachB T s) (16 * k))) ∧ Below w.heap.size w wr) (fun _ v _ => m - (intOf v).toNat)
  case atStart => exact ⟨0, by omega, rfl, World.ownsRow_nil _ _ _ _, Below.refl _ _⟩
  case round =>
    obtain ⟨k, hk, rfl, hown, hbel⟩ := hrel
    by_cases hlt : k < m
    · have hk1 : (k : Int) < (m : Int) := by omega
      have hk0 : (0 : Int) ≤ (k : Int) := by omega
      have q2 : IntKind.i64.wrap ((k : Int) + 1) = (k : Int) + 1 := IntWalk.i64_in _ (by omega)
      have RK := Lib.hid (HV.out wr hbel k hlt)
      have hlk := (HL (fun i => s (16 * k + i))).out
      have hsk := (HSZ (fun i => s (16 * k + i))).out
      have hone := sts_one (upTo (fun i => s (16 * k + i)) 16)
      have hul := (HU k)
      have HSK := fun W => Lib.hid (HSO.out k W)
      have hbk := HBK.out k
      have htx := HTX.out k
      have HGK := HGH k hlt
      obtain ⟨LK, hLK⟩ : ∃ LK, cells8 (upTo (fun i => s (16 * k + i)) 16) = LK := ⟨_, rfl⟩
      have hl1 : Hid (LK.length = 16) := Lib.hid (by rw [← hLK, cells8_length, upTo_length])
      rw [hLK] at RK hlk hsk hone
      obtain ⟨OUT, hOUT⟩ : ∃ OUT, T (blk s k) = OUT := ⟨_, rfl⟩
      rw [hOUT] at hbk
      simp only [hOUT] at HSK HGK
      have hl2 : Hid ((cells8 (upTo (byteOf OUT) 16)).length = 16) := Lib.hid (by rw [cells8_length, upTo_length])
      have hn2 : Hid (∀ u ∈ cells8 (upTo (byteOf OUT) 16), u.oneCell' = true) := Lib.hid (cells8_oneCell _)
      rw [← hbk] at hul
      have M := Lib.hid (RAt.new wr 146 zero16)
      have hz : zero16.size = LK.toArray.size := (show zero16.size = 16 from rfl).trans (by rw [List.size_toArray, hl1.out])
      obtain ⟨W6, hW6⟩ : ∃ W6, (wr.alloc (.cells zero16 146)).setRow wr.heap.size LK.toArray = W6 := ⟨_, rfl⟩
      have r6 : Hid (RAt W6 wr.heap.size 146 LK.toArray) := Lib.hid (by rw [← hW6]; exact M.out.row _)
      have b6 : Below wr.heap.size wr W6 := hW6 ▸ below_setRow ((Below.refl _ _).alloc (Nat.le_refl _) _) (Nat.le_refl _) _
      have HO := Lib.hid (own_below hown b6)
      have HB6 := Lib.hid (hbel.trans (b6.mono hbel.size))
      have hconv := conv_row (l := upTo (fun i => s (16 * k + i)) 16) (S := 16) (c := 16) (by rw [upTo_length]) (by rw [hLK]; exact r6.out)
      rw [htx] at hconv
      have HW6 := Lib.hid hW6
      have HCG := Lib.hid (HGK W6 HB6.out)
      have HMK : Hid (k < 262144) := Lib.hid (by have := HM.out; omega)
      unfold zero16 at M HW6 hz
      clear hown hbel hLK hW6 b6 HV HU HL HSZ htx hbk HBK HSO HTX hOUT HGK HGH
      generalize cells8 (upTo (byteOf OUT) 16) = LO at *
      generalize blk s k = BI at *
      go_wp2_with (first
        | (refine wpList_load_mid rfl 146 _ rfl g _ rfl LK _ (by first | exact RK.out | (rw [Nat.mul_comm]; exact RK.out)) Tryz.underlying146 rfl hlk ?_)
        | (refine wpList_store_row rfl 146 _ _ rfl wr.heap.size LK.toArray rfl rfl 146 _ M.out hsk hz hone ?_; rw [HW6.out]))
      refine HCG.out.out.mono ?_; rintro e w7 ⟨rfl, hb7⟩
      have HO7 := Lib.hid (own_below HO.out hb7)
      have HB7 := Lib.hid (HB6.out.trans (hb7.mono HB6.out.size))
      clear hb7 HO HB6 HCG r6 M HW6 RK
      go_wp2_with fail
      refine (HSK _).out.mono ?_; rintro e w8 ⟨rfl, h8, hb8⟩
      have HO8 := Lib.hid (own_below HO7.out hb8)
      have HB8 := Lib.hid (HB7.out.trans (hb8.mono HB7.out.size))
      have HR8 := Lib.hid (h8.cells (g := w7.heap.size) rfl)
      have HS8 : Hid (w.heap.size ≤ w8.heap.size) := Lib.hid HB8.out.size
      clear h8 hb8 HO7 HB7 HSK
      go_wp2_with (at_builtin; refine stp ?_)
      refine unstp ?_
      refine wpList_append_lies w8 rfl (.tmp 14) (.tmp 19) 90 rfl w.heap.size 146 i0 _ 16 16 Tryz.underlying90 hi hz0 hz1 hz2 rfl (by decide) _ k (cells8 (upTo (eachB T s) (16 * k))) rfl HO8.out ⟨w7.heap.size, 0, none⟩ 1 1 LO rfl (by rw [hl2.out]) HR8.out hn2.out (by omega) (by have := HMK.out; unfold maxLen; omega) (by have := HMK.out; omega) HS8.out w8.heap.size rfl ?_
      intro g2 c2 w9 hown9 hgrow hat hlt9
      have HO9 := Lib.hid (hul.out ▸ hown9)
      have HB9 := Lib.hid (HB8.out.grown hgrow HB8.out.size (fun b hb => (HO8.out.lt b hb).1))
      clear hown9 hgrow hat hlt9 HO8 HB8 HS8 HR8
      go_wp2
      go_roundw
      case rel => exact ⟨k + 1, by omega, by go_num, HO9.out, HB9.out⟩
      case measure => simp [intOf]; omega
    · obtain rfl : k = m := by omega
      have HB := Lib.hid hbel
      have HO := Lib.hid hown
      clear hown hbel HV HU HL HSZ HBK HSO HTX HGH
      go_wp2
      go_ret
      exact ⟨_, rfl, HO.out, HB.out⟩
end Go.Proofs.YtbfmbdohebdbaaaGreatDoor
