/-
  Four blocks that are locked as planes.
-/
import Derived.Test.YtbfmbdohebdbaaaGreatDoorPlCol
import Derived.Test.YtbfmbdohebdbaaaGreatDoorPlT
import Derived.Test.YtbfmbdohebdbaaaGreatDoorLockSp
import Derived.Test.YtbfmbdohebdbaaaGreatDoorLockM
set_option linter.unusedVariables false
set_option linter.unusedSimpArgs false
namespace Go.Proofs.YtbfmbdohebdbaaaGreatDoor
open Go Go.RowKit

/-- the bytes of planes behind round k, under round keys K of which the last is the r-th. -/
def lkP (K : Nat → ByteArray) (r : Nat) (s : Nat → UInt8) : Nat → Nat → UInt8
  | 0 => fun i => s i ^^^ keyB (K 0) i
  | k + 1 => fun i => (if k + 1 < r then colsB mxW (rowsB 1 fun i => sbox (lkP K r s k i)) else rowsB 1 fun i => sbox (lkP K r s k i)) i ^^^ keyB (K (k + 1)) i
theorem lkP_up (K : Nat → ByteArray) (r : Nat) (s : Nat → UInt8) (k : Nat) : lkP K r s (k + 1) = fun i => (if k + 1 < r then colsB mxW (rowsB 1 fun i => sbox (lkP K r s k i)) else rowsB 1 fun i => sbox (lkP K r s k i)) i ^^^ keyB (K (k + 1)) i := rfl
theorem blk_key (v : Nat → UInt8) (b : ByteArray) (hb : b.size = 16) (j : Nat) : blk (fun i => v i ^^^ keyB b i) j = xorS (blk v j) b := by
  refine txt_ext _ _ 16 fun i hi => ?_
  have e : (16 * j + i) % 16 = i := by omega
  show v (16 * j + i) ^^^ keyB b (16 * j + i) = byteOf (blk v j) i ^^^ byteOf b i
  rw [blk_byte v j i hi]
  unfold keyB
  rw [if_pos hb, e]
theorem blk_rd (v : Nat → UInt8) (j : Nat) : blk (rowsB 1 fun i => sbox (v i)) j = rdS (blk v j) := by
  rw [← rowsB_blk]
  unfold rdS
  congr 1
theorem blk_mx (v : Nat → UInt8) (j : Nat) : blk (colsB mxW v) j = mxS (blk v j) := (colsB_blk mxW v j).symm
theorem blk_lk (K : Nat → ByteArray) (hK : ∀ i, (K i).size = 16) (r : Nat) (s : Nat → UInt8) (j : Nat) : ∀ k, blk (lkP K r s k) j = stepS K r (blk s j) k
  | 0 => blk_key s (K 0) (hK 0) j
  | k + 1 => by
    rw [lkP_up, blk_key _ _ (hK (k + 1)) j]
    show _ = xorS (midS r (k + 1) (rdS (stepS K r (blk s j) k))) (K (k + 1))
    rw [← blk_lk K hK r s j k]
    unfold midS
    by_cases h : k + 1 < r
    · rw [if_pos h, if_pos h, blk_mx, blk_rd]
    · rw [if_neg h, if_neg h, blk_rd]
/-- what the four blocks become: each is locked. -/
theorem blk_lock (key : ByteArray) (hk : kOk key) (s : Nat → UInt8) (j : Nat) : blk (lkP (rkS key (key.size / 4)) (key.size / 4 + 6) s (key.size / 4 + 6)) j = lockT key (blk s j) := by
  rw [lockT_yes key _ hk (blk_size s j), blk_lk _ (fun i => rkS_size _ _ _)]; rfl
theorem rkT_rkS (key : ByteArray) (hk : kOk key) (i : Nat) (h : i ≤ key.size / 4 + 6) : rkT key (i : Int) = rkS key (key.size / 4) i := by
  obtain ⟨n, hn⟩ := hk.of
  rw [rkT_of key n hn i (by rw [hn.div] at h; exact h), hn.div]
  rfl
end Go.Proofs.YtbfmbdohebdbaaaGreatDoor
