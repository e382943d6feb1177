/-
  The walk of laws.FnUnmixed.
-/
import Derived.Test.YtkbnnlhilnnpeaaDoorW28
import Derived.Test.YtkbnnlhilnnpeaaDoorW31
set_option linter.unusedVariables false
set_option linter.unusedSimpArgs false
namespace Go.Proofs.YtkbnnlhilnnpeaaDoor
open Go.RowKit

/-- four numbers of a list that can be read. -/
def Four (b o i : Nat) (x0 x1 x2 x3 : UInt32) (w : World) : Prop := b < w.heap.size ∧ w.cell? ⟨b, o + i, none⟩ = some (.int .i64 (x0.toNat : Int)) ∧ w.cell? ⟨b, o + (i + 1), none⟩ = some (.int .i64 (x1.toNat : Int)) ∧ w.cell? ⟨b, o + (i + 2), none⟩ = some (.int .i64 (x2.toNat : Int)) ∧ w.cell? ⟨b, o + (i + 3), none⟩ = some (.int .i64 (x3.toNat : Int))
theorem Four.next {b o i : Nat} {x0 x1 x2 x3 : UInt32} {w w' : World} (h : Four b o i x0 x1 x2 x3 w) (hb : Below w.heap.size w w') : Four b o i x0 x1 x2 x3 w' :=
  ⟨Nat.lt_of_lt_of_le h.1 hb.size, (hb.cell (p := ⟨b, o + i, none⟩) h.1).trans h.2.1, (hb.cell (p := ⟨b, o + (i + 1), none⟩) h.1).trans h.2.2.1, (hb.cell (p := ⟨b, o + (i + 2), none⟩) h.1).trans h.2.2.2.1, (hb.cell (p := ⟨b, o + (i + 3), none⟩) h.1).trans h.2.2.2.2⟩
theorem fnums_at (f : Nat → UInt32) (L j : Nat) (h : j < (nums (upTo f L)).length) : (nums (upTo f L))[j] = ((f j).toNat : Int) := by
  simp only [nums, List.getElem_map, upTo_get]
theorem irow_at {w : World} {A : Option Addr} {f : Nat → UInt32} {L j : Nat} (h : IRow w A L (nums (upTo f L))) (hj : j < L) : ∃ b o, A = some ⟨b, o, none⟩ ∧ b < w.heap.size ∧ w.cell? ⟨b, o + j, none⟩ = some (.int .i64 ((f j).toNat : Int)) := by
  obtain ⟨b, o, hA, hb, hc⟩ := h.2 j (by rw [nums_length, upTo_length]; exact hj)
  rw [fnums_at] at hc
  exact ⟨b, o, hA, hb, hc⟩
theorem irow_four {w : World} {A : Option Addr} {f : Nat → UInt32} {L i : Nat} (h : IRow w A L (nums (upTo f L))) (hi : i + 3 < L) : ∃ b o, A = some ⟨b, o, none⟩ ∧ Four b o i (f i) (f (i + 1)) (f (i + 2)) (f (i + 3)) w := by
  obtain ⟨b, o, rfl, hb, h0⟩ := irow_at (j := i) h (by omega)
  obtain ⟨b1, o1, e1, _, h1⟩ := irow_at (j := i + 1) h (by omega)
  obtain ⟨b2, o2, e2, _, h2⟩ := irow_at (j := i + 2) h (by omega)
  obtain ⟨b3, o3, e3, _, h3⟩ := irow_at (j := i + 3) h (by omega)
  cases e1; cases e2; cases e3
  exact ⟨b, o, rfl, hb, h0, h1, h2, h3⟩
/-- the words of a list from a place on, four of them, as a block. -/
def blkAt (f : Nat → UInt32) (i : Nat) : ByteArray := ofW fun j => f (i + j)
theorem cat_four (f : Nat → UInt32) (i : Nat) : ∃ c1 c2 : ByteArray, putW (f i) ++ putW (f (i + 1)) = c1 ∧ c1 ++ putW (f (i + 2)) = c2 ∧ c2 ++ putW (f (i + 3)) = blkAt f i ∧ c1.size = 8 ∧ c2.size = 12 := by
  refine ⟨outW (fun j => f (i + j)) 2, outW (fun j => f (i + j)) 3, ?_, ?_, ?_, outW_size _ _, outW_size _ _⟩
  · rw [← outW_up (fun j => f (i + j)) 1, ← outW_1 (fun j => f (i + j))]; rfl
  · exact outW_up (fun j => f (i + j)) 2
  · exact outW_up (fun j => f (i + j)) 3
theorem put_is (y : UInt32) (p : ByteArray) (hp : putW y = p) (w : World) :
    Calls Tryd.prog 17 #[.int .i64 (y.toNat : Int)] w fun e w' => e = .returned (.string p) ∧ Below w.heap.size w w' := by
  have h := PutWord_spec (y.toNat : Int) w
  rw [w32_of, hp] at h; exact h
theorem blk_edge (s : ByteArray) (n i : Nat) (h : i = 0 ∨ i + 4 = kL n) : blkAt (uw s n) i = blkAt (ew s n) i :=
  ofW_ext _ _ fun j hj => uw_out s n _ (by omega)
theorem blk_mid (s : ByteArray) (n i : Nat) (h0 : 4 ≤ i) (h : i + 8 ≤ kL n) : mxS (blkAt (uw s n) i) = blkAt (ew s n) i := by
  refine ofW_ext _ _ fun j hj => ?_
  show mxW (colW (ofW _) j) = _
  rw [colW_ofW _ j hj]
  rw [uw_in s n (i + j) (by omega), mx_un]
set_option maxRecDepth 100000 in
set_option maxHeartbeats 6400000 in
theorem walk_FnUnmixed (a0 : Option Addr) (len0 cap0 : Nat) (z0 : List Int) (w : World) (w0 : IsRow .u8 w a0 len0 cap0 z0) (hf : UnF w ∧ MxF w) :
    Calls Tryd.prog 3 #[.slice a0 len0 cap0] w fun e w' => e = .returned (.bool true) ∧ Below w.heap.size w w' := by
  obtain ⟨hcode, hlen⟩ := w0.code
  clear w0
  by_cases hl : len0 ≤ 1048576
  · have H := Lib.hid hcode
    have HU : Hid (∀ W, Below w.heap.size w W → UnF W) := Lib.hid (fun W hW => Fac4.below hf.1 hW hf.1.1)
    have HF : Hid (∀ W, Below w.heap.size w W → MxF W) := Lib.hid (fun W hW => hf.2.below hW (Nat.le_refl _))
    clear hcode hf
    go_enter Tryd.func3, Tryd.ntmps3
    go_wp2_with fail
    refine (big_small _ _ _ _ hl).mono ?_; rintro e w' ⟨rfl, rfl⟩
    go_wp2_with fail
    refine (draw_Unmixed _ _ _ _ H.out hl).mono ?_; rintro e w1 ⟨s, rfl, hs, hb1⟩
    have C1 := fun W hW => Lib.hid (Unmixed_impl s W (HU.out W hW))
    have C2 := fun W => Lib.hid (Unmixed_spec s W)
    have C3 := fun W => Lib.hid (Expand_spec s W)
    have HB1 := Lib.hid hb1
    clear hb1 HU
    by_cases hk : kOk s
    · obtain ⟨n, hn⟩ := hk.of
      rw [unInts_of s n hn] at C1 C2
      rw [exInts_of s n hn] at C3
      have HE : Hid (∀ i, i = 0 ∨ i + 4 = kL n → blkAt (uw s n) i = blkAt (ew s n) i) := Lib.hid (blk_edge s n)
      have HM : Hid (∀ i, 4 ≤ i → i + 8 ≤ kL n → mxS (blkAt (uw s n) i) = blkAt (ew s n) i) := Lib.hid (fun i => blk_mid s n i)
      obtain ⟨L, hL⟩ : ∃ L, kL n = L := ⟨_, rfl⟩
      have hLn : L = 4 * (n + 7) := by rw [← hL]; rfl
      rw [hL] at C1 C2 C3 HE HM
      obtain ⟨f, hf⟩ : ∃ f, uw s n = f := ⟨_, rfl⟩
      obtain ⟨g, hg⟩ : ∃ g, ew s n = g := ⟨_, rfl⟩
      rw [hf] at C1 C2 HE HM
      rw [hg] at C3 HE HM
      have l1 : (nums (upTo f L)).length = L := by rw [nums_length, upTo_length]
      have l2 : (nums (upTo g L)).length = L := by rw [nums_length, upTo_length]
      have R1 : Hid (∀ {w' A i}, IRow w' A L (nums (upTo f L)) → i + 3 < L → ∃ b o, A = some ⟨b, o, none⟩ ∧ Four b o i (f i) (f (i + 1)) (f (i + 2)) (f (i + 3)) w') := Lib.hid irow_four
      have R2 : Hid (∀ {w' A i}, IRow w' A L (nums (upTo g L)) → i + 3 < L → ∃ b o, A = some ⟨b, o, none⟩ ∧ Four b o i (g i) (g (i + 1)) (g (i + 2)) (g (i + 3)) w') := Lib.hid irow_four
      generalize nums (upTo f L) = lf at *
      generalize nums (upTo g L) = lg at *
      have O1 : Hid (∀ {e : Ending} {W W' : World}, OwnInts W lf e W' → ∃ A c, e = .returned (.slice A L c) ∧ W'.ownsRow W.heap.size 3 1 (.slice A L c) L (cells64 lf) ∧ IRow W' A L lf ∧ L ≤ c ∧ c ≤ 9223372036854775807 ∧ Below W.heap.size W W') := Lib.hid (fun h => by rw [← l1]; exact OwnInts.open h)
      have O2 : Hid (∀ {e : Ending} {W W' : World}, OwnInts W lg e W' → ∃ A c, e = .returned (.slice A L c) ∧ W'.ownsRow W.heap.size 3 1 (.slice A L c) L (cells64 lg) ∧ IRow W' A L lg ∧ L ≤ c ∧ c ≤ 9223372036854775807 ∧ Below W.heap.size W W') := Lib.hid (fun h => by rw [← l2]; exact OwnInts.open h)
      have HLN : Hid (L = 4 * (n + 7)) := Lib.hid hLn
      have hL60 : (L : Int) ≤ 60 := by have := hn.le; omega
      have hL44 : (44 : Int) ≤ (L : Int) := by have := hn.le; omega
      clear l1 l2 hL hLn hn hk hs hf hg
      go_wp2_with fail
      refine (C1 _ HB1.out).out.mono ?_; rintro e w2 ho2
      obtain ⟨A2, c2, rfl, hown2, hr2, hc2, hcm2, hb2⟩ := O1.out ho2
      have R22 := Lib.hid hr2
      have HB2 := Lib.hid (HB1.out.trans (hb2.mono HB1.out.size))
      clear ho2 hown2 hr2 hb2
      go_wp2_with fail
      refine (C2 _).out.mono ?_; rintro e w3 ho3
      obtain ⟨A3, c3, rfl, hown3, hr3, hc3, hcm3, hb3⟩ := O1.out ho3
      have R23 := Lib.hid (R22.out.below hb3)
      have R3 := Lib.hid hr3
      have HB3 := Lib.hid (HB2.out.trans (hb3.mono HB2.out.size))
      clear ho3 hown3 hr3 hb3
      go_wp2_with fail
      refine (samei_any _ _ _ _ _ _ _ R23.out R3.out (by omega)).mono ?_; rintro e w4 ⟨rfl, k4, rfl⟩
      have R4 := Lib.hid (R23.out.drewN k4)
      have HB4 := Lib.hid (below_drewN HB3.out k4)
      clear R23 R3 HB3 R22 HB2
      generalize w3.drewN k4 = w4 at *
      go_wp2_with fail
      refine (C3 _).out.mono ?_; rintro e w5 ho5
      obtain ⟨A5, c5, rfl, hown5, hr5, hc5, hcm5, hb5⟩ := O2.out ho5
      have R45 := Lib.hid (R4.out.below hb5)
      have R5 := Lib.hid hr5
      have HB5 := Lib.hid (HB4.out.trans (hb5.mono HB4.out.size))
      clear ho5 hown5 hr5 hb5 R4 HB4 C1 C2 C3
      go_wp2
      go_loopw [6] (fun v wr => ∃ i : Nat, Hid (i ≤ L ∧ i % 4 = 0) ∧ v = .int .i64 i ∧ IRow wr A2 L lf ∧ IRow wr A5 L lg ∧ Below w.heap.size w wr) (fun v _ => L - (intOf v).toNat)
      case atStart => exact ⟨0, Lib.hid ⟨by omega, rfl⟩, rfl, R45.out, R5.out, HB5.out⟩
      case round =>
        obtain ⟨i, HI, rfl, hir1, hir2, hbel⟩ := hrel
        have hiL := HI.out.1
        have q3 : IntKind.i64.wrap ((i : Int) + 3) = (i : Int) + 3 := IntWalk.i64_in _ (by omega)
        by_cases hlt : i + 3 < L
        · have hlt1 : (i : Int) + 3 < (L : Int) := by omega
          have hlt2 : (i : Int) < (L : Int) := by omega
          have hlt3 : (i : Int) + 1 < (L : Int) := by omega
          have hlt4 : (i : Int) + 2 < (L : Int) := by omega
          have hi0 : (0 : Int) ≤ (i : Int) := by omega
          have hi1 : (0 : Int) ≤ (i : Int) + 1 := by omega
          have hi2 : (0 : Int) ≤ (i : Int) + 2 := by omega
          have hi3 : (0 : Int) ≤ (i : Int) + 3 := by omega
          have t1 : ((i : Int) + 1).toNat = i + 1 := by omega
          have t2 : ((i : Int) + 2).toNat = i + 2 := by omega
          have t3 : ((i : Int) + 3).toNat = i + 3 := by omega
          have q1 : IntKind.i64.wrap ((i : Int) + 1) = (i : Int) + 1 := IntWalk.i64_in _ (by omega)
          have q2 : IntKind.i64.wrap ((i : Int) + 2) = (i : Int) + 2 := IntWalk.i64_in _ (by omega)
          have q4 : IntKind.i64.wrap ((i : Int) + 4) = (i : Int) + 4 := IntWalk.i64_in _ (by omega)
          obtain ⟨b1, o1, rfl, F1⟩ := R1.out hir1 hlt
          obtain ⟨b2, o2, rfl, F2⟩ := R2.out hir2 hlt
          obtain ⟨p1, p2, e1, e2, e3, z1, z2⟩ := cat_four f i
          obtain ⟨r1, r2, g1, g2, g3, y1, y2⟩ := cat_four g i
          obtain ⟨a, ha⟩ : ∃ a, blkAt f i = a := ⟨_, rfl⟩
          obtain ⟨b, hb⟩ : ∃ b, blkAt g i = b := ⟨_, rfl⟩
          have hEE := HE.out i
          have hMM := HM.out i
          rw [ha, hb] at hEE hMM
          rw [ha] at e3
          rw [hb] at g3
          have ha16 : a.size = 16 := by rw [← ha]; exact ofW_size _
          have HEE := Lib.hid hEE
          have HMM := Lib.hid hMM
          have HA16 := Lib.hid ha16
          have hx0 := w32_lt (f i)
          have hx1 := w32_lt (f (i + 1))
          have hx2 := w32_lt (f (i + 2))
          have hx3 := w32_lt (f (i + 3))
          have hy0 := w32_lt (g i)
          have hy1 := w32_lt (g (i + 1))
          have hy2 := w32_lt (g (i + 2))
          have hy3 := w32_lt (g (i + 3))
          generalize f i = x0 at *
          generalize f (i + 1) = x1 at *
          generalize f (i + 2) = x2 at *
          generalize f (i + 3) = x3 at *
          generalize g i = v0 at *
          generalize g (i + 1) = v1 at *
          generalize g (i + 2) = v2 at *
          generalize g (i + 3) = v3 at *
          have s4 : ∀ x : UInt32, (putW x).size = 4 := fun x => rfl
          have k0 := s4 x0
          have k1 := s4 x1
          have k2 := s4 x2
          have k3 := s4 x3
          have m0 := s4 v0
          have m1 := s4 v1
          have m2 := s4 v2
          have m3 := s4 v3
          have uC0 := fun W => Lib.hid (put_is x0 _ rfl W)
          have uC1 := fun W => Lib.hid (put_is x1 _ rfl W)
          have uC2 := fun W => Lib.hid (put_is x2 _ rfl W)
          have uC3 := fun W => Lib.hid (put_is x3 _ rfl W)
          have vC0 := fun W => Lib.hid (put_is v0 _ rfl W)
          have vC1 := fun W => Lib.hid (put_is v1 _ rfl W)
          have vC2 := fun W => Lib.hid (put_is v2 _ rfl W)
          have vC3 := fun W => Lib.hid (put_is v3 _ rfl W)
          generalize putW x0 = A0 at *
          generalize putW x1 = A1 at *
          generalize putW x2 = A2 at *
          generalize putW x3 = A3 at *
          generalize putW v0 = V0 at *
          generalize putW v1 = V1 at *
          generalize putW v2 = V2 at *
          generalize putW v3 = V3 at *
          have d1 := fun W => cat_is A0 A1 p1 e1 (by omega) (by omega) W
          have d2 := fun W => cat_is p1 A2 p2 e2 (by omega) (by omega) W
          have d3 := fun W => cat_is p2 A3 a e3 (by omega) (by omega) W
          have d4 := fun W => cat_is V0 V1 r1 g1 (by omega) (by omega) W
          have d5 := fun W => cat_is r1 V2 r2 g2 (by omega) (by omega) W
          have d6 := fun W => cat_is r2 V3 b g3 (by omega) (by omega) W
          have n1 : (A0.size : Int) + (A1.size : Int) ≤ 140737488355328 := by omega
          have n2 : (p1.size : Int) + (A2.size : Int) ≤ 140737488355328 := by omega
          have n3 : (p2.size : Int) + (A3.size : Int) ≤ 140737488355328 := by omega
          have n4 : (V0.size : Int) + (V1.size : Int) ≤ 140737488355328 := by omega
          have n5 : (r1.size : Int) + (V2.size : Int) ≤ 140737488355328 := by omega
          have n6 : (r2.size : Int) + (V3.size : Int) ≤ 140737488355328 := by omega
          have I1 := Lib.hid hir1
          have I2 := Lib.hid hir2
          have HB := Lib.hid hbel
          have FF1 := Lib.hid F1
          have FF2 := Lib.hid F2
          clear e1 e2 e3 g1 g2 g3 z1 z2 y1 y2 k0 k1 k2 k3 m0 m1 m2 m3 s4 ha hb ha16 hEE hMM hir1 hir2 hbel F1 F2 HE HM R1 R2 O1 O2 R45 R5 HB5
          go_wp2
          have uS0 : Four b1 o1 i x0 x1 x2 x3 wr.drew := FF1.out
          have uB0 : Below wr.heap.size wr wr.drew := (Below.refl _ _).drew
          refine wp_region_held_drew (S := Four b1 o1 i x0 x1 x2 x3) (by kernel_rfl) uS0 (fun uS0' => ?_)
          refine wpAnyH_take (i := 0) (v := ?_) rfl (by kernel_rfl) (by kernel_rfl) (by kernel_rfl) (fun _ _ _ h => h) (Or.inl ⟨by kernel_rfl, ?_⟩) (by assumption) ?_
          rotate_left
          · intro w hSw
            go_simp
            first | done | with_reducible rfl
          try simp only [List.getElem_toArray, List.getElem_cons_succ, List.getElem_cons_zero, Act.put, List.setIfInBounds_toArray, List.set_cons_zero, List.set_cons_succ]
          refine wpAnyH_take (i := 1) (v := ?_) rfl (by kernel_rfl) (by kernel_rfl) (by kernel_rfl) (fun _ _ _ h => h) (Or.inl ⟨by kernel_rfl, ?_⟩) (by assumption) ?_
          rotate_left
          · intro w hSw
            go_simp
            first | done | with_reducible rfl
          try simp only [List.getElem_toArray, List.getElem_cons_succ, List.getElem_cons_zero, Act.put, List.setIfInBounds_toArray, List.set_cons_zero, List.set_cons_succ]
          refine wpAnyH_take (i := 2) (v := ?_) rfl (by kernel_rfl) (by kernel_rfl) (by kernel_rfl) (fun _ _ _ h => h) (Or.inl ⟨by kernel_rfl, ?_⟩) (by assumption) ?_
          rotate_left
          · intro w hSw
            go_simp
            first | done | with_reducible rfl
          try simp only [List.getElem_toArray, List.getElem_cons_succ, List.getElem_cons_zero, Act.put, List.setIfInBounds_toArray, List.set_cons_zero, List.set_cons_succ]
          refine wpAnyH_take (i := 3) (v := ?_) rfl (by kernel_rfl) (by kernel_rfl) (by kernel_rfl) (fun _ _ _ h => h) (Or.inl ⟨by kernel_rfl, ?_⟩) (by assumption) ?_
          rotate_left
          · intro w hSw
            obtain ⟨_, d0, d1, d2, d3⟩ := hSw
            go_simp
            first | done | with_reducible rfl
          try simp only [List.getElem_toArray, List.getElem_cons_succ, List.getElem_cons_zero, Act.put, List.setIfInBounds_toArray, List.set_cons_zero, List.set_cons_succ]
          refine wpAnyH_take (i := 5) (v := ?_) rfl (by kernel_rfl) (by kernel_rfl) (by kernel_rfl) (fun _ _ _ h => h) (Or.inl ⟨by kernel_rfl, ?_⟩) (by assumption) ?_
          rotate_left
          · intro w hSw
            go_simp
            first | done | with_reducible rfl
          try simp only [List.getElem_toArray, List.getElem_cons_succ, List.getElem_cons_zero, Act.put, List.setIfInBounds_toArray, List.set_cons_zero, List.set_cons_succ]
          refine wpAnyH_take (i := 6) (v := ?_) rfl (by kernel_rfl) (by kernel_rfl) (by kernel_rfl) (fun _ _ _ h => h) (Or.inl ⟨by kernel_rfl, ?_⟩) (by assumption) ?_
          rotate_left
          · intro w hSw
            go_simp
            first | done | with_reducible rfl
          try simp only [List.getElem_toArray, List.getElem_cons_succ, List.getElem_cons_zero, Act.put, List.setIfInBounds_toArray, List.set_cons_zero, List.set_cons_succ]
          refine wpAnyH_take (i := 7) (v := ?_) rfl (by kernel_rfl) (by kernel_rfl) (by kernel_rfl) (fun _ _ _ h => h) (Or.inl ⟨by kernel_rfl, ?_⟩) (by assumption) ?_
          rotate_left
          · intro w hSw
            go_simp
            first | done | with_reducible rfl
          try simp only [List.getElem_toArray, List.getElem_cons_succ, List.getElem_cons_zero, Act.put, List.setIfInBounds_toArray, List.set_cons_zero, List.set_cons_succ]
          refine wpAnyH_take (i := 8) (v := ?_) rfl (by kernel_rfl) (by kernel_rfl) (by kernel_rfl) (fun _ _ _ h => h) (Or.inl ⟨by kernel_rfl, ?_⟩) (by assumption) ?_
          rotate_left
          · intro w hSw
            go_simp
            first | done | with_reducible rfl
          try simp only [List.getElem_toArray, List.getElem_cons_succ, List.getElem_cons_zero, Act.put, List.setIfInBounds_toArray, List.set_cons_zero, List.set_cons_succ]
          refine wpAnyH_take (i := 9) (v := ?_) rfl (by kernel_rfl) (by kernel_rfl) (by kernel_rfl) (fun _ _ _ h => h) (Or.inl ⟨by kernel_rfl, ?_⟩) (by assumption) ?_
          rotate_left
          · intro w hSw
            obtain ⟨_, d0, d1, d2, d3⟩ := hSw
            go_simp
            first | done | with_reducible rfl
          try simp only [List.getElem_toArray, List.getElem_cons_succ, List.getElem_cons_zero, Act.put, List.setIfInBounds_toArray, List.set_cons_zero, List.set_cons_succ]
          refine wpAnyH_take (i := 12) (v := ?_) rfl (by kernel_rfl) (by kernel_rfl) (by kernel_rfl) (fun _ _ _ h => h) (Or.inl ⟨by kernel_rfl, ?_⟩) (by assumption) ?_
          rotate_left
          · intro w hSw
            go_simp
            first | done | with_reducible rfl
          try simp only [List.getElem_toArray, List.getElem_cons_succ, List.getElem_cons_zero, Act.put, List.setIfInBounds_toArray, List.set_cons_zero, List.set_cons_succ]
          refine wpAnyH_take (i := 13) (v := ?_) rfl (by kernel_rfl) (by kernel_rfl) (by kernel_rfl) (fun _ _ _ h => h) (Or.inl ⟨by kernel_rfl, ?_⟩) (by assumption) ?_
          rotate_left
          · intro w hSw
            go_simp
            first | done | with_reducible rfl
          try simp only [List.getElem_toArray, List.getElem_cons_succ, List.getElem_cons_zero, Act.put, List.setIfInBounds_toArray, List.set_cons_zero, List.set_cons_succ]
          refine wpAnyH_take (i := 14) (v := ?_) rfl (by kernel_rfl) (by kernel_rfl) (by kernel_rfl) (fun _ _ _ h => h) (Or.inl ⟨by kernel_rfl, ?_⟩) (by assumption) ?_
          rotate_left
          · intro w hSw
            go_simp
            first | done | with_reducible rfl
          try simp only [List.getElem_toArray, List.getElem_cons_succ, List.getElem_cons_zero, Act.put, List.setIfInBounds_toArray, List.set_cons_zero, List.set_cons_succ]
          refine wpAnyH_take (i := 15) (v := ?_) rfl (by kernel_rfl) (by kernel_rfl) (by kernel_rfl) (fun _ _ _ h => h) (Or.inl ⟨by kernel_rfl, ?_⟩) (by assumption) ?_
          rotate_left
          · intro w hSw
            go_simp
            first | done | with_reducible rfl
          try simp only [List.getElem_toArray, List.getElem_cons_succ, List.getElem_cons_zero, Act.put, List.setIfInBounds_toArray, List.set_cons_zero, List.set_cons_succ]
          refine wpAnyH_take (i := 16) (v := ?_) rfl (by kernel_rfl) (by kernel_rfl) (by kernel_rfl) (fun _ _ _ h => h) (Or.inl ⟨by kernel_rfl, ?_⟩) (by assumption) ?_
          rotate_left
          · intro w hSw
            obtain ⟨_, d0, d1, d2, d3⟩ := hSw
            go_simp
            first | done | with_reducible rfl
          try simp only [List.getElem_toArray, List.getElem_cons_succ, List.getElem_cons_zero, Act.put, List.setIfInBounds_toArray, List.set_cons_zero, List.set_cons_succ]
          refine wpAnyH_take (i := 19) (v := ?_) rfl (by kernel_rfl) (by kernel_rfl) (by kernel_rfl) (fun _ _ _ h => h) (Or.inl ⟨by kernel_rfl, ?_⟩) (by assumption) ?_
          rotate_left
          · intro w hSw
            go_simp
            first | done | with_reducible rfl
          try simp only [List.getElem_toArray, List.getElem_cons_succ, List.getElem_cons_zero, Act.put, List.setIfInBounds_toArray, List.set_cons_zero, List.set_cons_succ]
          refine wpAnyH_take (i := 20) (v := ?_) rfl (by kernel_rfl) (by kernel_rfl) (by kernel_rfl) (fun _ _ _ h => h) (Or.inl ⟨by kernel_rfl, ?_⟩) (by assumption) ?_
          rotate_left
          · intro w hSw
            go_simp
            first | done | with_reducible rfl
          try simp only [List.getElem_toArray, List.getElem_cons_succ, List.getElem_cons_zero, Act.put, List.setIfInBounds_toArray, List.set_cons_zero, List.set_cons_succ]
          refine wpAnyH_take (i := 21) (v := ?_) rfl (by kernel_rfl) (by kernel_rfl) (by kernel_rfl) (fun _ _ _ h => h) (Or.inl ⟨by kernel_rfl, ?_⟩) (by assumption) ?_
          rotate_left
          · intro w hSw
            go_simp
            first | done | with_reducible rfl
          try simp only [List.getElem_toArray, List.getElem_cons_succ, List.getElem_cons_zero, Act.put, List.setIfInBounds_toArray, List.set_cons_zero, List.set_cons_succ]
          refine wpAnyH_take (i := 22) (v := ?_) rfl (by kernel_rfl) (by kernel_rfl) (by kernel_rfl) (fun _ _ _ h => h) (Or.inl ⟨by kernel_rfl, ?_⟩) (by assumption) ?_
          rotate_left
          · intro w hSw
            go_simp
            first | done | with_reducible rfl
          try simp only [List.getElem_toArray, List.getElem_cons_succ, List.getElem_cons_zero, Act.put, List.setIfInBounds_toArray, List.set_cons_zero, List.set_cons_succ]
          refine wpAnyH_take (i := 23) (v := ?_) rfl (by kernel_rfl) (by kernel_rfl) (by kernel_rfl) (fun _ _ _ h => h) (Or.inl ⟨by kernel_rfl, ?_⟩) (by assumption) ?_
          rotate_left
          · intro w hSw
            obtain ⟨_, d0, d1, d2, d3⟩ := hSw
            go_simp
            first | done | with_reducible rfl
          try simp only [List.getElem_toArray, List.getElem_cons_succ, List.getElem_cons_zero, Act.put, List.setIfInBounds_toArray, List.set_cons_zero, List.set_cons_succ]
          refine wpAnyH_ready (rs := [4]) (by kernel_rfl) (by simp) ?_
          refine AllReadyH.cons rfl (fun K hK => ?_) AllReadyH.nil
          go_simp
          refine (uC0 _).out.mono ?_; rintro e uw1 ⟨rfl, hb⟩
          have uS1 := uS0.next hb
          have uB1 := uB0.trans (hb.mono uB0.size)
          clear hb
          refine hK.out _ _ uS1 (fun _ => ?_)
          clear hK K
          try simp only [List.getElem_toArray, List.getElem_cons_succ, List.getElem_cons_zero, Act.put, List.setIfInBounds_toArray, List.set_cons_zero, List.set_cons_succ]
          refine wpAnyH_ready (rs := [10]) (by kernel_rfl) (by simp) ?_
          refine AllReadyH.cons rfl (fun K hK => ?_) AllReadyH.nil
          go_simp
          refine (uC1 _).out.mono ?_; rintro e uw2 ⟨rfl, hb⟩
          have uS2 := uS1.next hb
          have uB2 := uB1.trans (hb.mono uB1.size)
          clear hb
          refine hK.out _ _ uS2 (fun _ => ?_)
          clear hK K
          try simp only [List.getElem_toArray, List.getElem_cons_succ, List.getElem_cons_zero, Act.put, List.setIfInBounds_toArray, List.set_cons_zero, List.set_cons_succ]
          refine wpAnyH_take (i := 11) (v := ?_) rfl (by kernel_rfl) (by kernel_rfl) (by kernel_rfl) (fun _ _ _ h => h) (Or.inl ⟨by kernel_rfl, ?_⟩) (by assumption) ?_
          rotate_left
          · intro w hSw
            go_simp
            first | done | with_reducible rfl
          try simp only [List.getElem_toArray, List.getElem_cons_succ, List.getElem_cons_zero, Act.put, List.setIfInBounds_toArray, List.set_cons_zero, List.set_cons_succ]
          refine wpAnyH_ready (rs := [17]) (by kernel_rfl) (by simp) ?_
          refine AllReadyH.cons rfl (fun K hK => ?_) AllReadyH.nil
          go_simp
          refine (uC2 _).out.mono ?_; rintro e uw3 ⟨rfl, hb⟩
          have uS3 := uS2.next hb
          have uB3 := uB2.trans (hb.mono uB2.size)
          clear hb
          refine hK.out _ _ uS3 (fun _ => ?_)
          clear hK K
          try simp only [List.getElem_toArray, List.getElem_cons_succ, List.getElem_cons_zero, Act.put, List.setIfInBounds_toArray, List.set_cons_zero, List.set_cons_succ]
          refine wpAnyH_take (i := 18) (v := ?_) rfl (by kernel_rfl) (by kernel_rfl) (by kernel_rfl) (fun _ _ _ h => h) (Or.inl ⟨by kernel_rfl, ?_⟩) (by assumption) ?_
          rotate_left
          · intro w hSw
            go_simp
            first | done | with_reducible rfl
          try simp only [List.getElem_toArray, List.getElem_cons_succ, List.getElem_cons_zero, Act.put, List.setIfInBounds_toArray, List.set_cons_zero, List.set_cons_succ]
          refine wpAnyH_ready (rs := [24]) (by kernel_rfl) (by simp) ?_
          refine AllReadyH.cons rfl (fun K hK => ?_) AllReadyH.nil
          go_simp
          refine (uC3 _).out.mono ?_; rintro e uw4 ⟨rfl, hb⟩
          have uS4 := uS3.next hb
          have uB4 := uB3.trans (hb.mono uB3.size)
          clear hb
          refine hK.out _ _ uS4 (fun _ => ?_)
          clear hK K
          try simp only [List.getElem_toArray, List.getElem_cons_succ, List.getElem_cons_zero, Act.put, List.setIfInBounds_toArray, List.set_cons_zero, List.set_cons_succ]
          refine wpAnyH_take (i := 25) (v := ?_) rfl (by kernel_rfl) (by kernel_rfl) (by kernel_rfl) (fun _ _ _ h => h) (Or.inl ⟨by kernel_rfl, ?_⟩) (by assumption) ?_
          rotate_left
          · intro w hSw
            go_simp
            first | done | with_reducible rfl
          try simp only [List.getElem_toArray, List.getElem_cons_succ, List.getElem_cons_zero, Act.put, List.setIfInBounds_toArray, List.set_cons_zero, List.set_cons_succ]
          refine wpAnyH_take (i := 26) (v := ?_) rfl (by kernel_rfl) (by kernel_rfl) (by kernel_rfl) (fun _ _ _ h => h) (Or.inl ⟨by kernel_rfl, ?_⟩) (by assumption) ?_
          rotate_left
          · intro w hSw
            go_simp
            first | done | with_reducible rfl
          try simp only [List.getElem_toArray, List.getElem_cons_succ, List.getElem_cons_zero, Act.put, List.setIfInBounds_toArray, List.set_cons_zero, List.set_cons_succ]
          refine wpAnyH_done (by kernel_rfl) ?_ _
          have vS0 : Four b2 o2 i v0 v1 v2 v3 uw4.drew := (show Four b2 o2 i v0 v1 v2 v3 uw4 from FF2.out.next uB4)
          have vB0 : Below wr.heap.size wr uw4.drew := uB4.drew
          clear uS0 uS1 uS2 uS3 uS4 uS0' uB0 uB1 uB2 uB3 uB4 uC0 uC1 uC2 uC3 d1 d2 d3 n1 n2 n3 FF1 FF2
          go_wp2
          refine wp_region_held_drew (S := Four b2 o2 i v0 v1 v2 v3) (by kernel_rfl) vS0 (fun vS0' => ?_)
          refine wpAnyH_take (i := 0) (v := ?_) rfl (by kernel_rfl) (by kernel_rfl) (by kernel_rfl) (fun _ _ _ h => h) (Or.inl ⟨by kernel_rfl, ?_⟩) (by assumption) ?_
          rotate_left
          · intro w hSw
            go_simp
            first | done | with_reducible rfl
          try simp only [List.getElem_toArray, List.getElem_cons_succ, List.getElem_cons_zero, Act.put, List.setIfInBounds_toArray, List.set_cons_zero, List.set_cons_succ]
          refine wpAnyH_take (i := 1) (v := ?_) rfl (by kernel_rfl) (by kernel_rfl) (by kernel_rfl) (fun _ _ _ h => h) (Or.inl ⟨by kernel_rfl, ?_⟩) (by assumption) ?_
          rotate_left
          · intro w hSw
            go_simp
            first | done | with_reducible rfl
          try simp only [List.getElem_toArray, List.getElem_cons_succ, List.getElem_cons_zero, Act.put, List.setIfInBounds_toArray, List.set_cons_zero, List.set_cons_succ]
          refine wpAnyH_take (i := 2) (v := ?_) rfl (by kernel_rfl) (by kernel_rfl) (by kernel_rfl) (fun _ _ _ h => h) (Or.inl ⟨by kernel_rfl, ?_⟩) (by assumption) ?_
          rotate_left
          · intro w hSw
            go_simp
            first | done | with_reducible rfl
          try simp only [List.getElem_toArray, List.getElem_cons_succ, List.getElem_cons_zero, Act.put, List.setIfInBounds_toArray, List.set_cons_zero, List.set_cons_succ]
          refine wpAnyH_take (i := 3) (v := ?_) rfl (by kernel_rfl) (by kernel_rfl) (by kernel_rfl) (fun _ _ _ h => h) (Or.inl ⟨by kernel_rfl, ?_⟩) (by assumption) ?_
          rotate_left
          · intro w hSw
            obtain ⟨_, d0, d1, d2, d3⟩ := hSw
            go_simp
            first | done | with_reducible rfl
          try simp only [List.getElem_toArray, List.getElem_cons_succ, List.getElem_cons_zero, Act.put, List.setIfInBounds_toArray, List.set_cons_zero, List.set_cons_succ]
          refine wpAnyH_take (i := 5) (v := ?_) rfl (by kernel_rfl) (by kernel_rfl) (by kernel_rfl) (fun _ _ _ h => h) (Or.inl ⟨by kernel_rfl, ?_⟩) (by assumption) ?_
          rotate_left
          · intro w hSw
            go_simp
            first | done | with_reducible rfl
          try simp only [List.getElem_toArray, List.getElem_cons_succ, List.getElem_cons_zero, Act.put, List.setIfInBounds_toArray, List.set_cons_zero, List.set_cons_succ]
          refine wpAnyH_take (i := 6) (v := ?_) rfl (by kernel_rfl) (by kernel_rfl) (by kernel_rfl) (fun _ _ _ h => h) (Or.inl ⟨by kernel_rfl, ?_⟩) (by assumption) ?_
          rotate_left
          · intro w hSw
            go_simp
            first | done | with_reducible rfl
          try simp only [List.getElem_toArray, List.getElem_cons_succ, List.getElem_cons_zero, Act.put, List.setIfInBounds_toArray, List.set_cons_zero, List.set_cons_succ]
          refine wpAnyH_take (i := 7) (v := ?_) rfl (by kernel_rfl) (by kernel_rfl) (by kernel_rfl) (fun _ _ _ h => h) (Or.inl ⟨by kernel_rfl, ?_⟩) (by assumption) ?_
          rotate_left
          · intro w hSw
            go_simp
            first | done | with_reducible rfl
          try simp only [List.getElem_toArray, List.getElem_cons_succ, List.getElem_cons_zero, Act.put, List.setIfInBounds_toArray, List.set_cons_zero, List.set_cons_succ]
          refine wpAnyH_take (i := 8) (v := ?_) rfl (by kernel_rfl) (by kernel_rfl) (by kernel_rfl) (fun _ _ _ h => h) (Or.inl ⟨by kernel_rfl, ?_⟩) (by assumption) ?_
          rotate_left
          · intro w hSw
            go_simp
            first | done | with_reducible rfl
          try simp only [List.getElem_toArray, List.getElem_cons_succ, List.getElem_cons_zero, Act.put, List.setIfInBounds_toArray, List.set_cons_zero, List.set_cons_succ]
          refine wpAnyH_take (i := 9) (v := ?_) rfl (by kernel_rfl) (by kernel_rfl) (by kernel_rfl) (fun _ _ _ h => h) (Or.inl ⟨by kernel_rfl, ?_⟩) (by assumption) ?_
          rotate_left
          · intro w hSw
            obtain ⟨_, d0, d1, d2, d3⟩ := hSw
            go_simp
            first | done | with_reducible rfl
          try simp only [List.getElem_toArray, List.getElem_cons_succ, List.getElem_cons_zero, Act.put, List.setIfInBounds_toArray, List.set_cons_zero, List.set_cons_succ]
          refine wpAnyH_take (i := 12) (v := ?_) rfl (by kernel_rfl) (by kernel_rfl) (by kernel_rfl) (fun _ _ _ h => h) (Or.inl ⟨by kernel_rfl, ?_⟩) (by assumption) ?_
          rotate_left
          · intro w hSw
            go_simp
            first | done | with_reducible rfl
          try simp only [List.getElem_toArray, List.getElem_cons_succ, List.getElem_cons_zero, Act.put, List.setIfInBounds_toArray, List.set_cons_zero, List.set_cons_succ]
          refine wpAnyH_take (i := 13) (v := ?_) rfl (by kernel_rfl) (by kernel_rfl) (by kernel_rfl) (fun _ _ _ h => h) (Or.inl ⟨by kernel_rfl, ?_⟩) (by assumption) ?_
          rotate_left
          · intro w hSw
            go_simp
            first | done | with_reducible rfl
          try simp only [List.getElem_toArray, List.getElem_cons_succ, List.getElem_cons_zero, Act.put, List.setIfInBounds_toArray, List.set_cons_zero, List.set_cons_succ]
          refine wpAnyH_take (i := 14) (v := ?_) rfl (by kernel_rfl) (by kernel_rfl) (by kernel_rfl) (fun _ _ _ h => h) (Or.inl ⟨by kernel_rfl, ?_⟩) (by assumption) ?_
          rotate_left
          · intro w hSw
            go_simp
            first | done | with_reducible rfl
          try simp only [List.getElem_toArray, List.getElem_cons_succ, List.getElem_cons_zero, Act.put, List.setIfInBounds_toArray, List.set_cons_zero, List.set_cons_succ]
          refine wpAnyH_take (i := 15) (v := ?_) rfl (by kernel_rfl) (by kernel_rfl) (by kernel_rfl) (fun _ _ _ h => h) (Or.inl ⟨by kernel_rfl, ?_⟩) (by assumption) ?_
          rotate_left
          · intro w hSw
            go_simp
            first | done | with_reducible rfl
          try simp only [List.getElem_toArray, List.getElem_cons_succ, List.getElem_cons_zero, Act.put, List.setIfInBounds_toArray, List.set_cons_zero, List.set_cons_succ]
          refine wpAnyH_take (i := 16) (v := ?_) rfl (by kernel_rfl) (by kernel_rfl) (by kernel_rfl) (fun _ _ _ h => h) (Or.inl ⟨by kernel_rfl, ?_⟩) (by assumption) ?_
          rotate_left
          · intro w hSw
            obtain ⟨_, d0, d1, d2, d3⟩ := hSw
            go_simp
            first | done | with_reducible rfl
          try simp only [List.getElem_toArray, List.getElem_cons_succ, List.getElem_cons_zero, Act.put, List.setIfInBounds_toArray, List.set_cons_zero, List.set_cons_succ]
          refine wpAnyH_take (i := 19) (v := ?_) rfl (by kernel_rfl) (by kernel_rfl) (by kernel_rfl) (fun _ _ _ h => h) (Or.inl ⟨by kernel_rfl, ?_⟩) (by assumption) ?_
          rotate_left
          · intro w hSw
            go_simp
            first | done | with_reducible rfl
          try simp only [List.getElem_toArray, List.getElem_cons_succ, List.getElem_cons_zero, Act.put, List.setIfInBounds_toArray, List.set_cons_zero, List.set_cons_succ]
          refine wpAnyH_take (i := 20) (v := ?_) rfl (by kernel_rfl) (by kernel_rfl) (by kernel_rfl) (fun _ _ _ h => h) (Or.inl ⟨by kernel_rfl, ?_⟩) (by assumption) ?_
          rotate_left
          · intro w hSw
            go_simp
            first | done | with_reducible rfl
          try simp only [List.getElem_toArray, List.getElem_cons_succ, List.getElem_cons_zero, Act.put, List.setIfInBounds_toArray, List.set_cons_zero, List.set_cons_succ]
          refine wpAnyH_take (i := 21) (v := ?_) rfl (by kernel_rfl) (by kernel_rfl) (by kernel_rfl) (fun _ _ _ h => h) (Or.inl ⟨by kernel_rfl, ?_⟩) (by assumption) ?_
          rotate_left
          · intro w hSw
            go_simp
            first | done | with_reducible rfl
          try simp only [List.getElem_toArray, List.getElem_cons_succ, List.getElem_cons_zero, Act.put, List.setIfInBounds_toArray, List.set_cons_zero, List.set_cons_succ]
          refine wpAnyH_take (i := 22) (v := ?_) rfl (by kernel_rfl) (by kernel_rfl) (by kernel_rfl) (fun _ _ _ h => h) (Or.inl ⟨by kernel_rfl, ?_⟩) (by assumption) ?_
          rotate_left
          · intro w hSw
            go_simp
            first | done | with_reducible rfl
          try simp only [List.getElem_toArray, List.getElem_cons_succ, List.getElem_cons_zero, Act.put, List.setIfInBounds_toArray, List.set_cons_zero, List.set_cons_succ]
          refine wpAnyH_take (i := 23) (v := ?_) rfl (by kernel_rfl) (by kernel_rfl) (by kernel_rfl) (fun _ _ _ h => h) (Or.inl ⟨by kernel_rfl, ?_⟩) (by assumption) ?_
          rotate_left
          · intro w hSw
            obtain ⟨_, d0, d1, d2, d3⟩ := hSw
            go_simp
            first | done | with_reducible rfl
          try simp only [List.getElem_toArray, List.getElem_cons_succ, List.getElem_cons_zero, Act.put, List.setIfInBounds_toArray, List.set_cons_zero, List.set_cons_succ]
          refine wpAnyH_ready (rs := [4]) (by kernel_rfl) (by simp) ?_
          refine AllReadyH.cons rfl (fun K hK => ?_) AllReadyH.nil
          go_simp
          refine (vC0 _).out.mono ?_; rintro e vw1 ⟨rfl, hb⟩
          have vS1 := vS0.next hb
          have vB1 := vB0.trans (hb.mono vB0.size)
          clear hb
          refine hK.out _ _ vS1 (fun _ => ?_)
          clear hK K
          try simp only [List.getElem_toArray, List.getElem_cons_succ, List.getElem_cons_zero, Act.put, List.setIfInBounds_toArray, List.set_cons_zero, List.set_cons_succ]
          refine wpAnyH_ready (rs := [10]) (by kernel_rfl) (by simp) ?_
          refine AllReadyH.cons rfl (fun K hK => ?_) AllReadyH.nil
          go_simp
          refine (vC1 _).out.mono ?_; rintro e vw2 ⟨rfl, hb⟩
          have vS2 := vS1.next hb
          have vB2 := vB1.trans (hb.mono vB1.size)
          clear hb
          refine hK.out _ _ vS2 (fun _ => ?_)
          clear hK K
          try simp only [List.getElem_toArray, List.getElem_cons_succ, List.getElem_cons_zero, Act.put, List.setIfInBounds_toArray, List.set_cons_zero, List.set_cons_succ]
          refine wpAnyH_take (i := 11) (v := ?_) rfl (by kernel_rfl) (by kernel_rfl) (by kernel_rfl) (fun _ _ _ h => h) (Or.inl ⟨by kernel_rfl, ?_⟩) (by assumption) ?_
          rotate_left
          · intro w hSw
            go_simp
            first | done | with_reducible rfl
          try simp only [List.getElem_toArray, List.getElem_cons_succ, List.getElem_cons_zero, Act.put, List.setIfInBounds_toArray, List.set_cons_zero, List.set_cons_succ]
          refine wpAnyH_ready (rs := [17]) (by kernel_rfl) (by simp) ?_
          refine AllReadyH.cons rfl (fun K hK => ?_) AllReadyH.nil
          go_simp
          refine (vC2 _).out.mono ?_; rintro e vw3 ⟨rfl, hb⟩
          have vS3 := vS2.next hb
          have vB3 := vB2.trans (hb.mono vB2.size)
          clear hb
          refine hK.out _ _ vS3 (fun _ => ?_)
          clear hK K
          try simp only [List.getElem_toArray, List.getElem_cons_succ, List.getElem_cons_zero, Act.put, List.setIfInBounds_toArray, List.set_cons_zero, List.set_cons_succ]
          refine wpAnyH_take (i := 18) (v := ?_) rfl (by kernel_rfl) (by kernel_rfl) (by kernel_rfl) (fun _ _ _ h => h) (Or.inl ⟨by kernel_rfl, ?_⟩) (by assumption) ?_
          rotate_left
          · intro w hSw
            go_simp
            first | done | with_reducible rfl
          try simp only [List.getElem_toArray, List.getElem_cons_succ, List.getElem_cons_zero, Act.put, List.setIfInBounds_toArray, List.set_cons_zero, List.set_cons_succ]
          refine wpAnyH_ready (rs := [24]) (by kernel_rfl) (by simp) ?_
          refine AllReadyH.cons rfl (fun K hK => ?_) AllReadyH.nil
          go_simp
          refine (vC3 _).out.mono ?_; rintro e vw4 ⟨rfl, hb⟩
          have vS4 := vS3.next hb
          have vB4 := vB3.trans (hb.mono vB3.size)
          clear hb
          refine hK.out _ _ vS4 (fun _ => ?_)
          clear hK K
          try simp only [List.getElem_toArray, List.getElem_cons_succ, List.getElem_cons_zero, Act.put, List.setIfInBounds_toArray, List.set_cons_zero, List.set_cons_succ]
          refine wpAnyH_take (i := 25) (v := ?_) rfl (by kernel_rfl) (by kernel_rfl) (by kernel_rfl) (fun _ _ _ h => h) (Or.inl ⟨by kernel_rfl, ?_⟩) (by assumption) ?_
          rotate_left
          · intro w hSw
            go_simp
            first | done | with_reducible rfl
          try simp only [List.getElem_toArray, List.getElem_cons_succ, List.getElem_cons_zero, Act.put, List.setIfInBounds_toArray, List.set_cons_zero, List.set_cons_succ]
          refine wpAnyH_take (i := 26) (v := ?_) rfl (by kernel_rfl) (by kernel_rfl) (by kernel_rfl) (fun _ _ _ h => h) (Or.inl ⟨by kernel_rfl, ?_⟩) (by assumption) ?_
          rotate_left
          · intro w hSw
            go_simp
            first | done | with_reducible rfl
          try simp only [List.getElem_toArray, List.getElem_cons_succ, List.getElem_cons_zero, Act.put, List.setIfInBounds_toArray, List.set_cons_zero, List.set_cons_succ]
          refine wpAnyH_done (by kernel_rfl) ?_ _
          have HB4 := Lib.hid (HB.out.trans (vB4.mono HB.out.size))
          have J1 := Lib.hid (I1.out.below vB4)
          have J2 := Lib.hid (I2.out.below vB4)
          clear vS0 vS1 vS2 vS3 vS4 vS0' vB0 vB1 vB2 vB3 vB4 vC0 vC1 vC2 vC3 d4 d5 d6 n4 n5 n6 I1 I2 HB
          by_cases h0 : i = 0
          · obtain rfl := HEE.out (.inl h0)
            have h1 : (i : Int) = 0 := by omega
            have HI0 := Lib.hid h0
            clear h0 HEE HMM HA16 HF t1 t2 t3 q1 q2 q3
            go_wp2
            go_roundw
            case rel => exact ⟨4, Lib.hid ⟨by omega, rfl⟩, rfl, J1.out, J2.out, HB4.out⟩
            case measure => have := HI0.out; simp [intOf]; omega
          · by_cases h4 : i + 4 = L
            · obtain rfl := HEE.out (.inr h4)
              have h1 : ¬ (i : Int) = 0 := by omega
              have h2 : (i : Int) + 4 = (L : Int) := by omega
              have h3 : (0 : Int) < (i : Int) := by omega
              have HI4 := Lib.hid h4
              clear h0 h4 HEE HMM HA16 HF t1 t2 t3 q1 q2 q3
              go_wp2
              go_roundw
              case rel => exact ⟨L, Lib.hid ⟨Nat.le_refl _, by have := HLN.out; omega⟩, rfl, J1.out, J2.out, HB4.out⟩
              case measure => simp [intOf]; omega
            · have hlm := HLN.out
              have him := HI.out.2
              have h1 : ¬ (i : Int) = 0 := by omega
              have h2 : ¬ (i : Int) + 4 = (L : Int) := by omega
              have h3 : (0 : Int) < (i : Int) := by omega
              have h5 : (i : Int) + 4 < (L : Int) := by omega
              have CM := fun W hW => Lib.hid (Mix_16 a b HA16.out (HMM.out (by omega) (by omega)) W (HF.out W hW))
              have HI4 := Lib.hid (show i + 4 ≤ L by omega)
              clear h0 h4 HEE HMM HA16 t1 t2 t3 q1 q2 q3 hlm him
              go_wp2_with fail
              refine (CM _ HB4.out).out.mono ?_; rintro e w6 ⟨rfl, hb6⟩
              have HB6 := Lib.hid (HB4.out.trans (hb6.mono HB4.out.size))
              have J3 := Lib.hid (J1.out.below hb6)
              have J4 := Lib.hid (J2.out.below hb6)
              clear hb6 HB4 J1 J2 CM
              go_wp2
              go_roundw
              case rel => exact ⟨i + 4, Lib.hid ⟨HI4.out, by have := HI.out.2; omega⟩, by go_num, J3.out, J4.out, HB6.out⟩
              case measure => simp [intOf]; omega
        · have hlt1 : ¬ (i : Int) + 3 < (L : Int) := by omega
          have HB := Lib.hid hbel
          clear hir1 hir2 hbel HE HM R1 R2 O1 O2 R45 R5 HB5
          go_wp2
          go_ret
          exact ⟨rfl, HB.out⟩
    · rw [unInts_no s hk] at C1 C2
      rw [exInts_no s hk] at C3
      have O1 : Hid (∀ {e : Ending} {W W' : World}, OwnInts W [] e W' → ∃ A c, e = .returned (.slice A 0 c) ∧ W'.ownsRow W.heap.size 3 1 (.slice A 0 c) 0 (cells64 []) ∧ IRow W' A 0 [] ∧ 0 ≤ c ∧ c ≤ 9223372036854775807 ∧ Below W.heap.size W W') := Lib.hid (fun h => OwnInts.open h)
      clear hk hs HF
      go_wp2_with fail
      refine (C1 _ HB1.out).out.mono ?_; rintro e w2 ho2
      obtain ⟨A2, c2, rfl, hown2, hr2, hc2, hcm2, hb2⟩ := O1.out ho2
      have R22 := Lib.hid hr2
      have HB2 := Lib.hid (HB1.out.trans (hb2.mono HB1.out.size))
      clear ho2 hown2 hr2 hb2
      go_wp2_with fail
      refine (C2 _).out.mono ?_; rintro e w3 ho3
      obtain ⟨A3, c3, rfl, hown3, hr3, hc3, hcm3, hb3⟩ := O1.out ho3
      have R23 := Lib.hid (R22.out.below hb3)
      have R3 := Lib.hid hr3
      have HB3 := Lib.hid (HB2.out.trans (hb3.mono HB2.out.size))
      clear ho3 hown3 hr3 hb3
      go_wp2_with fail
      refine (samei_any _ _ _ _ _ _ _ R23.out R3.out (by omega)).mono ?_; rintro e w4 ⟨rfl, k4, rfl⟩
      have HB4 := Lib.hid (below_drewN HB3.out k4)
      clear R23 R3 HB3 R22 HB2
      generalize w3.drewN k4 = w4 at *
      go_wp2_with fail
      refine (C3 _).out.mono ?_; rintro e w5 ho5
      obtain ⟨A5, c5, rfl, hown5, hr5, hc5, hcm5, hb5⟩ := O1.out ho5
      have HB5 := Lib.hid (HB4.out.trans (hb5.mono HB4.out.size))
      clear ho5 hown5 hr5 hb5 HB4 C1 C2 C3
      go_wp2
      go_loopw [6] (fun v wr => v = .int .i64 0 ∧ Below w.heap.size w wr) (fun _ _ => 0)
      case atStart => exact ⟨rfl, HB5.out⟩
      case round =>
        obtain ⟨rfl, hbel⟩ := hrel
        have HB := Lib.hid hbel
        clear hbel HB5
        go_wp2
        go_ret
        exact ⟨rfl, HB.out⟩
  · go_enter Tryd.func3, Tryd.ntmps3
    go_wp2_with fail
    refine (big_great _ _ _ _ (by omega) hlen).mono ?_; rintro e w' ⟨rfl, rfl⟩
    go_wp2
    go_ret
    exact ⟨rfl, Below.refl _ _⟩
end Go.Proofs.YtkbnnlhilnnpeaaDoor
