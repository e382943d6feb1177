/-
  What impl's blocks of planes answer whose rows are turned; PlaneRows.
-/
import Derived.Test.YtbfmbdohebdbaaaGreatDoorCirc
import Derived.Deep.CutRange
set_option linter.unusedVariables false
set_option linter.unusedSimpArgs false
namespace Go.Proofs.YtbfmbdohebdbaaaGreatDoor
open Go Go.RowKit

/-- what stays while a row is cut out and turned: the argument, the answer's place, the sum so far. -/
def HoldR (w : World) (P1 cur : Array Value) (V : World) : Prop := RQ V w.heap.size 255 P1 ∧ (∃ Z : Array Value, Z.size = 8 ∧ RQ V (w.heap.size + 1) 135 Z) ∧ RQ V (w.heap.size + 1 + 1) 135 cur ∧ Below w.heap.size w V
theorem HoldR.next {w V V' : World} {P1 cur : Array Value} (h : HoldR w P1 cur V) (hb : Below V.heap.size V V') : HoldR w P1 cur V' :=
  ⟨h.1.up hb, h.2.1.elim (fun Z hZ => ⟨Z, hZ.1, hZ.2.up hb⟩), h.2.2.1.up hb, h.2.2.2.trans (hb.mono h.2.2.2.size)⟩
theorem HoldR.lt {w V : World} {P1 cur : Array Value} (h : HoldR w P1 cur V) : w.heap.size + 1 + 1 < V.heap.size := h.2.2.1.lt
theorem HoldR.put {w V : World} {P1 cur : Array Value} (h : HoldR w P1 cur V) (g : Nat) (hg : w.heap.size + 1 + 1 < g) (R : Array Value) : HoldR w P1 cur (V.setRow g R) :=
  ⟨(setRow_other V g w.heap.size R (by omega)).trans h.1, h.2.1.elim (fun Z hZ => ⟨Z, hZ.1, (setRow_other V g (w.heap.size + 1) R (by omega)).trans hZ.2⟩), (setRow_other V g (w.heap.size + 1 + 1) R (by omega)).trans h.2.2.1, below_setRow h.2.2.2 (by omega) R⟩
theorem HoldR.fin {w V : World} {P1 cur : Array Value} (h : HoldR w P1 cur V) (R : Array Value) : HoldR w P1 R (V.setRow (w.heap.size + 1 + 1) R) :=
  ⟨(setRow_other V _ w.heap.size R (by omega)).trans h.1, h.2.1.elim (fun Z hZ => ⟨Z, hZ.1, (setRow_other V _ (w.heap.size + 1) R (by omega)).trans hZ.2⟩), h.2.2.1.row R, below_setRow h.2.2.2 (by omega) R⟩
/-- .. and a row that is cut out. -/
def HoldS (w : World) (P1 cur : Array Value) (g : Nat) (K : Array Value) (V : World) : Prop := HoldR w P1 cur V ∧ RQ V g 255 K
theorem HoldS.next {w V V' : World} {P1 cur : Array Value} {g : Nat} {K : Array Value} (h : HoldS w P1 cur g K V) (hb : Below V.heap.size V V') : HoldS w P1 cur g K V' := ⟨h.1.next hb, h.2.up hb⟩
theorem exec_build1 {P : Program} {ev : Operand → Value} {o : Oper} {w : World} (t : TypeId) (x : Operand) (ho : o.op = .build t #[(0, x)]) (c cells : Array Value) (hx : ev x = .agg c) (hf : P.built t [(0, .agg c)] = some cells) : (execOp ev o).run P w = .ok (.value (.agg cells)) w := by
  have hc : P.built t ((#[(0, x)] : Array (Nat × Operand)).map fun (i, x) => (i, ev x)).toList = some cells := by simpa [hx] using hf
  unfold execOp
  simp only [ho, Sem.run_bind, run_build w t _ cells hc, Result.andThen_ok]
  rfl
theorem built_blocks (h : Nat → Nat) : Tryz.prog.built 255 [(0, .agg (arQ h 8))] = some (arQ h 8) := by kernel_rfl
theorem row_num (r : Nat) : IntKind.u64.wrap (1229782938247303441 * 2 ^ r) = (rowQ r : Int) := by
  have h := shlQ (fstW 4) r
  rw [fst_lits.1] at h
  unfold rowQ
  rw [fst_lits.1]
  exact h
set_option maxRecDepth 100000 in
set_option maxHeartbeats 6400000 in
theorem rowsP (s : Nat → UInt8) (d : Nat) (hd : d ≤ 3) (w : World) :
    Calls Tryz.prog 237 #[.agg (pc s), .int .i64 (d : Int)] w fun e w' => e = .returned (.agg (pc (fun i => rowsTo d s i 4))) ∧ Below w.heap.size w w' := by
  obtain ⟨aa, haa⟩ : ∃ aa : Nat → Nat → UInt8, (fun r i => rowsTo d s i r) = aa := ⟨_, rfl⟩
  have e4 : (fun i => rowsTo d s i 4) = aa 4 := by rw [← haa]
  have HK := fun r W => Lib.hid (andP s (rowQ r) (Nat.mod_lt _ (by omega)) W)
  have HT := fun r k hk W => Lib.hid (turned16 (keepW (rowQ r) s) k hk W)
  have HX : ∀ r k, d * r % 4 = k → ∀ W, Hid (Calls Tryz.prog 137 #[.agg (pc (aa r)), .agg (pc (fun i => keepW (rowQ r) s (onAt 16 (4 * k) i)))] W fun e w' => e = .returned (.agg (pc (aa (r + 1)))) ∧ Below W.heap.size W w') := fun r k hk W => Lib.hid (by
    have h := xorP (aa r) (fun i => keepW (rowQ r) s (onAt 16 (4 * k) i)) W
    have e : (fun i => aa r i ^^^ keepW (rowQ r) s (onAt 16 (4 * k) i)) = aa (r + 1) := by rw [← haa, ← hk]; rfl
    rwa [e] at h)
  have e0 : aa 0 = fun _ => 0 := by rw [← haa]; rfl
  rw [e4]
  obtain ⟨P1, hP1⟩ : ∃ P1, pc s = P1 := ⟨_, rfl⟩
  have i1 := blocks_info s
  have j1 := planes_info s
  rw [hP1] at HK i1 j1 ⊢
  clear e4 haa hP1
  obtain ⟨W, hW⟩ : ∃ W, ((w.alloc (.cells P1 255)).alloc (.cells zeroQ 135)).alloc (.cells zeroQ 135) = W := ⟨_, rfl⟩
  obtain ⟨a1, a2, a3, hb⟩ := newQ3 w _ _ _ _ _ _ hW
  have a3 : RQ W (w.heap.size + 1 + 1) 135 (pc (aa 0)) := by rw [e0, ← zeroQ_pc]; exact a3
  have h0 : HoldR w P1 (pc (aa 0)) W := ⟨a1, ⟨zeroQ, rfl, a2⟩, a3, hb⟩
  have HW := Lib.hid hW
  clear hW a1 a2 a3 hb e0
  unfold zeroQ at HW
  go_enter Tryz.func237, Tryz.ntmps237
  go_wp2
  rw [HW.out]
  go_loopw [8] (fun v wr => ∃ r : Nat, r ≤ 4 ∧ v = .int .i64 r ∧ HoldR w P1 (pc (aa r)) wr) (fun v _ => 4 - (intOf v).toNat)
  case atStart => exact ⟨0, by omega, rfl, h0⟩
  case round =>
    obtain ⟨r, hr, rfl, g0⟩ := hrel
    by_cases hlt : r < 4
    · have hr1 : (r : Int) < 4 := by omega
      have hr0 : (0 : Int) ≤ (r : Int) := by omega
      have hm := row_num r
      obtain ⟨k, hk⟩ : ∃ k, d * r % 4 = k := ⟨_, rfl⟩
      have hk4 : k < 4 := by rw [← hk]; exact Nat.mod_lt _ (by omega)
      have C1 := fun W => Lib.hid (fst4 W)
      have C2 := fun W => HK r W
      have C3 := fun W => HT r k hk4 W
      have C4 := fun W => HX r k hk W
      clear h0 HK HT HX
      go_upto_region 5 with fail
      go_cut [7, 8] from 8 to 27 (fun v7 v8 wx => ∃ g7, v7 = .pointer (some ⟨g7, 0, none⟩) ∧ v8 = .int .i64 (r : Int) ∧ HoldR w P1 (pc (aa r)) wx ∧ RQ wx g7 255 (pc (keepW (rowQ r) s)) ∧ w.heap.size + 1 + 1 < g7)
      case first =>
        have bi := blocks_info (keepW (rowQ r) s)
        have bo := pc_one (keepW (rowQ r) s)
        have bz : #[Value.int .u64 0, .int .u64 0, .int .u64 0, .int .u64 0, .int .u64 0, .int .u64 0, .int .u64 0, .int .u64 0].size = (pc (keepW (rowQ r) s)).size := by rw [pc_size]; rfl
        have hbk : Tryz.prog.built 255 [(0, .agg (pc (keepW (rowQ r) s)))] = some (pc (keepW (rowQ r) s)) := built_blocks _
        generalize pc (keepW (rowQ r) s) = K1 at *
        generalize pc (aa r) = cur at *
        generalize rowQ r = m at *
        have hS0 : HoldR w P1 cur wr.drew := ⟨g0.1, g0.2.1, g0.2.2.1, g0.2.2.2.drew⟩
        clear g0 hk C3 C4
        refine wp_region_held_drew (S := HoldR w P1 cur) (by kernel_rfl) hS0 (fun hS1 => ?_)
        generalize wr.drew = wq at *
        refine tk 0 (v := ?_) ?_ (by assumption) ?_
        rotate_left
        · intro w hSw
          go_simp
          first | done | with_reducible rfl
        try simp only [lay]
        refine wpAnyH_take (i := 1) (v := .agg P1) rfl (by kernel_rfl) (by kernel_rfl) (by kernel_rfl) (fun _ _ _ h => h) (Or.inl ⟨by kernel_rfl, fun V hV => exec_load_row 135 _ rfl w.heap.size rfl 255 P1 _ hV.1 Tryz.underlying135 rfl j1⟩) (by assumption) ?_
        try simp only [lay]
        refine tk 3 (v := ?_) ?_ (by assumption) ?_
        rotate_left
        · intro w hSw
          go_simp
          first | done | with_reducible rfl
        try simp only [lay]
        refine wpAnyH_ready (rs := [2, 7]) (by kernel_rfl) (by simp) ?_
        refine AllReadyH.cons rfl (fun K hK => ?_) (AllReadyH.cons rfl (fun K hK => ?_) AllReadyH.nil)
        · go_simp
          refine (C1 _).out.mono ?_; rintro e x1 ⟨rfl, rfl⟩
          refine hK.out _ _ hS1 (fun _ => ?_)
          clear hK K
          try simp only [lay]
          refine tk 4 (v := ?_) ?_ (by assumption) ?_
          rotate_left
          · intro w hSw
            go_simp
            first | done | with_reducible rfl
          try simp only [lay]
          refine wpAnyH_ready (rs := [5, 7]) (by kernel_rfl) (by simp) ?_
          refine AllReadyH.cons rfl (fun K hK => ?_) (AllReadyH.cons rfl (fun K hK => ?_) AllReadyH.nil)
          · go_simp
            refine (C2 _).out.mono ?_; rintro e x5 ⟨rfl, hb⟩
            have hS5 := hS1.next hb
            clear hb
            refine hK.out _ _ hS5 (fun hS5 => ?_)
            clear hK K
            try simp only [lay]
            refine wpAnyH_take (i := 6) (v := .agg K1) rfl (by kernel_rfl) (by kernel_rfl) (by kernel_rfl) (fun _ _ _ h => h) (Or.inl ⟨by kernel_rfl, fun V hV => exec_build1 255 _ rfl K1 K1 rfl hbk⟩) (by assumption) ?_
            try simp only [lay]
            refine wpAnyH_ready (rs := [7]) (by kernel_rfl) (by simp) ?_
            refine AllReadyH.cons rfl (fun K hK => ?_) AllReadyH.nil
            go_simp
            have hS6 := hS5.next (alQ_up x5 (.cells #[Value.int .u64 0, .int .u64 0, .int .u64 0, .int .u64 0, .int .u64 0, .int .u64 0, .int .u64 0, .int .u64 0] 255))
            have ZA := Lib.hid (RQ.new x5 255 #[Value.int .u64 0, .int .u64 0, .int .u64 0, .int .u64 0, .int .u64 0, .int .u64 0, .int .u64 0, .int .u64 0])
            have ZAL := Lib.hid hS5.lt
            refine hK.out _ _ hS6 (fun hS6 => ?_)
            clear hK K
            try simp only [lay]
            refine wpAnyH_ready (rs := [8]) (by kernel_rfl) (by simp) ?_
            refine AllReadyH.cons rfl (fun K hK => ?_) AllReadyH.nil
            have M := hS6.put x5.heap.size ZAL.out K1
            refine wp_store_row 255 _ _ rfl x5.heap.size K1 rfl rfl 255 _ ZA.out bi bz bo ?_
            refine hK.out _ _ M (fun _ => ?_)
            clear hK K
            try simp only [lay]
            refine wpAnyH_done (by kernel_rfl) ?_ _
            have M1 := Lib.hid (ZA.out.row K1)
            have ML := Lib.hid ZAL.out
            go_wp2_with fail
            go_meet
            exact ⟨x5.heap.size, rfl, rfl, M, M1.out, ML.out⟩
          · go_simp
            have hS2 := hS1.next (alQ_up wq (.cells #[Value.int .u64 0, .int .u64 0, .int .u64 0, .int .u64 0, .int .u64 0, .int .u64 0, .int .u64 0, .int .u64 0] 255))
            have ZA := Lib.hid (RQ.new wq 255 #[Value.int .u64 0, .int .u64 0, .int .u64 0, .int .u64 0, .int .u64 0, .int .u64 0, .int .u64 0, .int .u64 0])
            have ZAL := Lib.hid hS1.lt
            refine hK.out _ _ hS2 (fun hS2 => ?_)
            clear hK K
            try simp only [lay]
            refine wpAnyH_ready (rs := [5]) (by kernel_rfl) (by simp) ?_
            refine AllReadyH.cons rfl (fun K hK => ?_) AllReadyH.nil
            go_simp
            refine (C2 _).out.mono ?_; rintro e x5 ⟨rfl, hb⟩
            have hS5 := hS2.next hb
            have ZA := Lib.hid (ZA.out.up hb)
            clear hb
            refine hK.out _ _ hS5 (fun hS5 => ?_)
            clear hK K
            try simp only [lay]
            refine wpAnyH_take (i := 6) (v := .agg K1) rfl (by kernel_rfl) (by kernel_rfl) (by kernel_rfl) (fun _ _ _ h => h) (Or.inl ⟨by kernel_rfl, fun V hV => exec_build1 255 _ rfl K1 K1 rfl hbk⟩) (by assumption) ?_
            try simp only [lay]
            refine wpAnyH_ready (rs := [8]) (by kernel_rfl) (by simp) ?_
            refine AllReadyH.cons rfl (fun K hK => ?_) AllReadyH.nil
            have M := hS5.put wq.heap.size ZAL.out K1
            refine wp_store_row 255 _ _ rfl wq.heap.size K1 rfl rfl 255 _ ZA.out bi bz bo ?_
            refine hK.out _ _ M (fun _ => ?_)
            clear hK K
            try simp only [lay]
            refine wpAnyH_done (by kernel_rfl) ?_ _
            have M1 := Lib.hid (ZA.out.row K1)
            have ML := Lib.hid ZAL.out
            go_wp2_with fail
            go_meet
            exact ⟨wq.heap.size, rfl, rfl, M, M1.out, ML.out⟩
        · go_simp
          have hS2 := hS1.next (alQ_up wq (.cells #[Value.int .u64 0, .int .u64 0, .int .u64 0, .int .u64 0, .int .u64 0, .int .u64 0, .int .u64 0, .int .u64 0] 255))
          have ZA := Lib.hid (RQ.new wq 255 #[Value.int .u64 0, .int .u64 0, .int .u64 0, .int .u64 0, .int .u64 0, .int .u64 0, .int .u64 0, .int .u64 0])
          have ZAL := Lib.hid hS1.lt
          refine hK.out _ _ hS2 (fun hS2 => ?_)
          clear hK K
          try simp only [lay]
          refine wpAnyH_ready (rs := [2]) (by kernel_rfl) (by simp) ?_
          refine AllReadyH.cons rfl (fun K hK => ?_) AllReadyH.nil
          go_simp
          refine (C1 _).out.mono ?_; rintro e x1 ⟨rfl, rfl⟩
          refine hK.out _ _ hS2 (fun _ => ?_)
          clear hK K
          try simp only [lay]
          refine tk 4 (v := ?_) ?_ (by assumption) ?_
          rotate_left
          · intro w hSw
            go_simp
            first | done | with_reducible rfl
          try simp only [lay]
          refine wpAnyH_ready (rs := [5]) (by kernel_rfl) (by simp) ?_
          refine AllReadyH.cons rfl (fun K hK => ?_) AllReadyH.nil
          go_simp
          refine (C2 _).out.mono ?_; rintro e x5 ⟨rfl, hb⟩
          have hS5 := hS2.next hb
          have ZA := Lib.hid (ZA.out.up hb)
          clear hb
          refine hK.out _ _ hS5 (fun hS5 => ?_)
          clear hK K
          try simp only [lay]
          refine wpAnyH_take (i := 6) (v := .agg K1) rfl (by kernel_rfl) (by kernel_rfl) (by kernel_rfl) (fun _ _ _ h => h) (Or.inl ⟨by kernel_rfl, fun V hV => exec_build1 255 _ rfl K1 K1 rfl hbk⟩) (by assumption) ?_
          try simp only [lay]
          refine wpAnyH_ready (rs := [8]) (by kernel_rfl) (by simp) ?_
          refine AllReadyH.cons rfl (fun K hK => ?_) AllReadyH.nil
          have M := hS5.put wq.heap.size ZAL.out K1
          refine wp_store_row 255 _ _ rfl wq.heap.size K1 rfl rfl 255 _ ZA.out bi bz bo ?_
          refine hK.out _ _ M (fun _ => ?_)
          clear hK K
          try simp only [lay]
          refine wpAnyH_done (by kernel_rfl) ?_ _
          have M1 := Lib.hid (ZA.out.row K1)
          have ML := Lib.hid ZAL.out
          go_wp2_with fail
          go_meet
          exact ⟨wq.heap.size, rfl, rfl, M, M1.out, ML.out⟩
      case rest =>
        obtain ⟨g7, rfl, rfl, h7, h8, h9⟩ := hcut
        have bi := blocks_info (keepW (rowQ r) s)
        have ci := planes_info (aa r)
        have hcz := pc_size (aa r)
        have ri := planes_info (aa (r + 1))
        have ro := pc_one (aa (r + 1))
        have rz : (pc (aa r)).size = (pc (aa (r + 1))).size := by rw [pc_size, pc_size]
        have hrz := pc_size (aa (r + 1))
        obtain ⟨D, hD⟩ : ∃ D, d * r = D := ⟨_, rfl⟩
        have hD9 : D ≤ 9 := by
          have : d * r ≤ 3 * 3 := Nat.mul_le_mul hd (by omega)
          omega
        have q1 : IntKind.i64.wrap ((d : Int) * (r : Int)) = (D : Int) := by
          rw [show (d : Int) * (r : Int) = (D : Int) by rw [← hD, Int.natCast_mul]]
          exact IntWalk.i64_in _ (by omega)
        have e2 : (D : Int).tmod 4 = (k : Int) := by rw [Int.tmod_eq_emod_of_nonneg (by omega)]; omega
        have q3 : IntKind.i64.wrap (4 * (k : Int)) = 4 * (k : Int) := IntWalk.i64_in _ (by omega)
        have e4k : ((4 * k : Nat) : Int) = 4 * (k : Int) := by omega
        rw [e4k] at C3
        obtain ⟨K1, hK1⟩ : ∃ K1, pc (keepW (rowQ r) s) = K1 := ⟨_, rfl⟩
        obtain ⟨cur, hcur⟩ : ∃ cur, pc (aa r) = cur := ⟨_, rfl⟩
        obtain ⟨R, hR⟩ : ∃ R, pc (aa (r + 1)) = R := ⟨_, rfl⟩
        rw [hK1] at h8 bi C3
        rw [hcur] at h7 ci hcz rz C4
        rw [hR] at C4 ri ro rz hrz
        have HR := Lib.hid hR
        generalize pc (fun i => keepW (rowQ r) s (onAt 16 (4 * k) i)) = TT at *
        clear hR hcur hK1 hD hk e4k g0 C1 C2 hm
        have hS0 : ∃ c, Array.size c = 8 ∧ HoldS w P1 c g7 K1 wc.drew := ⟨cur, hcz, ⟨h7.1, h7.2.1, h7.2.2.1, h7.2.2.2.drew⟩, h8⟩
        have hH : HoldS w P1 cur g7 K1 wc.drew := ⟨⟨h7.1, h7.2.1, h7.2.2.1, h7.2.2.2.drew⟩, h8⟩
        clear h7 h8
        go_wp2
        refine wp_region_held_drew (S := fun V => ∃ c, Array.size c = 8 ∧ HoldS w P1 c g7 K1 V) (by kernel_rfl) hS0 (fun hS1 => ?_)
        generalize wc.drew = wq at *
        refine wpAnyH_take (i := 1) (v := .agg K1) rfl (by kernel_rfl) (by kernel_rfl) (by kernel_rfl) (fun _ _ _ h => h) (Or.inl ⟨by kernel_rfl, fun V hV => exec_load_row 255 _ rfl g7 rfl 255 K1 _ (hV.elim fun c h => h.2.2) Tryz.underlying255 rfl bi⟩) (by assumption) ?_
        try simp only [lay]
        refine tk 2 (v := ?_) ?_ (by assumption) ?_
        rotate_left
        · intro w hSw
          obtain ⟨cc, _, _, _⟩ := hSw
          go_simp
          first | done | with_reducible rfl
        try simp only [lay]
        refine tk 3 (v := ?_) ?_ (by assumption) ?_
        rotate_left
        · intro w hSw
          obtain ⟨cc, _, _, _⟩ := hSw
          go_simp
          first | done | with_reducible rfl
        try simp only [lay]
        refine tk 4 (v := ?_) ?_ (by assumption) ?_
        rotate_left
        · intro w hSw
          obtain ⟨cc, _, _, _⟩ := hSw
          go_simp
          first | done | with_reducible rfl
        try simp only [lay]
        refine tk 5 (v := ?_) ?_ (by assumption) ?_
        rotate_left
        · intro w hSw
          obtain ⟨cc, _, _, _⟩ := hSw
          go_simp
          first | done | with_reducible rfl
        try simp only [lay]
        refine tk 6 (v := ?_) ?_ (by assumption) ?_
        rotate_left
        · intro w hSw
          obtain ⟨cc, _, _, _⟩ := hSw
          go_simp
          first | done | with_reducible rfl
        try simp only [lay]
        refine wpAnyH_ready (rs := [0, 7]) (by kernel_rfl) (by simp) ?_
        refine AllReadyH.cons rfl (fun K hK => ?_) (AllReadyH.cons rfl (fun K hK => ?_) AllReadyH.nil)
        · refine wp_load_row 135 _ rfl (w.heap.size + 1 + 1) rfl 135 cur (0, 0) _ hH.1.2.2.1 Tryz.underlying135 rfl ci ?_
          refine hK.out _ _ ⟨cur, hcz, hH⟩ (fun _ => ?_)
          clear hK K
          try simp only [lay]
          refine wpAnyH_ready (rs := [7]) (by kernel_rfl) (by simp) ?_
          refine AllReadyH.cons rfl (fun K hK => ?_) AllReadyH.nil
          go_simp
          refine (C3 _).out.mono ?_; rintro e x1 ⟨rfl, hb⟩
          have hH2 : HoldS w P1 cur g7 K1 x1 := hH.next hb
          clear hb
          refine hK.out _ _ ⟨cur, hcz, hH2⟩ (fun _ => ?_)
          clear hK K
          try simp only [lay]
          refine wpAnyH_ready (rs := [8]) (by kernel_rfl) (by simp) ?_
          refine AllReadyH.cons rfl (fun K hK => ?_) AllReadyH.nil
          go_simp
          refine (C4 _).out.mono ?_; rintro e x2 ⟨rfl, hb⟩
          have hH3 : HoldS w P1 cur g7 K1 x2 := hH2.next hb
          clear hb
          refine hK.out _ _ ⟨cur, hcz, hH3⟩ (fun _ => ?_)
          clear hK K
          try simp only [lay]
          refine wpAnyH_ready (rs := [9]) (by kernel_rfl) (by simp) ?_
          refine AllReadyH.cons rfl (fun K hK => ?_) AllReadyH.nil
          have M : HoldS w P1 R g7 K1 (x2.setRow (w.heap.size + 1 + 1) R) := ⟨hH3.1.fin R, (setRow_other x2 _ g7 R (by omega)).trans hH3.2⟩
          refine wp_store_row 135 _ _ rfl (w.heap.size + 1 + 1) R rfl rfl 135 cur hH3.1.2.2.1 ri rz ro ?_
          refine hK.out _ _ ⟨R, hrz, M⟩ (fun _ => ?_)
          clear hK K
          try simp only [lay]
          refine wpAnyH_done (by kernel_rfl) ?_ _
          have MF := Lib.hid M.1
          clear M hS0 hS1 hH
          go_wp2
          go_roundw
          case rel => exact ⟨r + 1, by omega, by go_num, by rw [HR.out]; exact MF.out⟩
          case measure => simp [intOf]; omega
        · go_simp
          refine (C3 _).out.mono ?_; rintro e x1 ⟨rfl, hb⟩
          have hH2 : HoldS w P1 cur g7 K1 x1 := hH.next hb
          clear hb
          refine hK.out _ _ ⟨cur, hcz, hH2⟩ (fun _ => ?_)
          clear hK K
          try simp only [lay]
          refine wpAnyH_ready (rs := [0]) (by kernel_rfl) (by simp) ?_
          refine AllReadyH.cons rfl (fun K hK => ?_) AllReadyH.nil
          refine wp_load_row 135 _ rfl (w.heap.size + 1 + 1) rfl 135 cur (0, 0) _ hH2.1.2.2.1 Tryz.underlying135 rfl ci ?_
          refine hK.out _ _ ⟨cur, hcz, hH2⟩ (fun _ => ?_)
          clear hK K
          try simp only [lay]
          refine wpAnyH_ready (rs := [8]) (by kernel_rfl) (by simp) ?_
          refine AllReadyH.cons rfl (fun K hK => ?_) AllReadyH.nil
          go_simp
          refine (C4 _).out.mono ?_; rintro e x2 ⟨rfl, hb⟩
          have hH3 : HoldS w P1 cur g7 K1 x2 := hH2.next hb
          clear hb
          refine hK.out _ _ ⟨cur, hcz, hH3⟩ (fun _ => ?_)
          clear hK K
          try simp only [lay]
          refine wpAnyH_ready (rs := [9]) (by kernel_rfl) (by simp) ?_
          refine AllReadyH.cons rfl (fun K hK => ?_) AllReadyH.nil
          have M : HoldS w P1 R g7 K1 (x2.setRow (w.heap.size + 1 + 1) R) := ⟨hH3.1.fin R, (setRow_other x2 _ g7 R (by omega)).trans hH3.2⟩
          refine wp_store_row 135 _ _ rfl (w.heap.size + 1 + 1) R rfl rfl 135 cur hH3.1.2.2.1 ri rz ro ?_
          refine hK.out _ _ ⟨R, hrz, M⟩ (fun _ => ?_)
          clear hK K
          try simp only [lay]
          refine wpAnyH_done (by kernel_rfl) ?_ _
          have MF := Lib.hid M.1
          clear M hS0 hS1 hH
          go_wp2
          go_roundw
          case rel => exact ⟨r + 1, by omega, by go_num, by rw [HR.out]; exact MF.out⟩
          case measure => simp [intOf]; omega
    · obtain rfl : r = 4 := by omega
      obtain ⟨g1, ⟨Z, hZ, g2⟩, g3, hbel⟩ := g0
      have hone := pc_one (aa 4)
      have hsi := planes_info (aa 4)
      have hz : Z.size = (pc (aa 4)).size := by rw [pc_size]; exact hZ
      have hsr := g2.row (pc (aa 4))
      have hbs : Hid (Below w.heap.size w (wr.setRow (w.heap.size + 1) (pc (aa 4)))) := Lib.hid (below_setRow hbel (by omega) _)
      generalize hR : pc (aa 4) = R at *
      have HR := Lib.hid hR
      clear hR h0 HK HT HX
      have G1 := Lib.hid g3
      have G3 := Lib.hid g2
      have HSR := Lib.hid hsr
      clear g1 g2 g3 hsr hbel
      unfold RQ at G1 G3 HSR
      go_wp2_with (first
        | (refine wpList_load_row rfl 135 _ rfl (w.heap.size + 1 + 1) rfl 135 R (0, 0) _ G1.out Tryz.underlying135 rfl hsi ?_)
        | (refine wpList_store_row rfl 135 _ _ rfl (w.heap.size + 1) R rfl rfl 135 Z G3.out hsi hz hone ?_))
      refine bodyPost_ret (v := .agg R) ?_ rfl ⟨by rw [HR.out], hbs.out⟩
      exact results_cell_row rfl _ _ (w.heap.size + 1) 135 R (0, 0) _ rfl HSR.out Tryz.underlying135 rfl hsi
theorem rows_is (s : Nat → UInt8) (d : Nat) (hd : d ≤ 3) (w : World) :
    Calls Tryz.prog 237 #[.agg (pc s), .int .i64 (d : Int)] w fun e w' => e = .returned (.agg (pc (rowsB d s))) ∧ Below w.heap.size w w' := by
  have h := rowsP s d hd w
  rwa [pc_ext fun i hi => rowsTo_4 d (by omega) s i hi] at h
end Go.Proofs.YtbfmbdohebdbaaaGreatDoor
