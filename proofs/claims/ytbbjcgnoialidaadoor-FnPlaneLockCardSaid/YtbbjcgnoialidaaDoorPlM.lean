/-
  What impl's planes answer: inverses, and what is moved.
-/
import Derived.Test.YtbbjcgnoialidaaDoorPlL
set_option linter.unusedVariables false
set_option linter.unusedSimpArgs false
namespace Go.Proofs.YtbbjcgnoialidaaDoor
open Go Go.RowKit

/-- a block made behind a call, with what is stored into it at once. -/
theorem made_at (w W w1 : World) (Z R : Array Value) (t : TypeId) (hB : Below w.heap.size w W) (hb : Below W.heap.size W w1) {W2 : World} (hW : (w1.alloc (.cells Z t)).setRow w1.heap.size R = W2) :
    RQ W2 w1.heap.size t R ∧ Below w.heap.size w W2 ∧ (∀ g u cs, RQ W g u cs → RQ W2 g u cs) ∧ w1.heap.size < W2.heap.size ∧ W.heap.size ≤ w1.heap.size := by
  rw [World.setRow_alloc_new] at hW
  subst hW
  have hB1 := hB.trans (hb.mono hB.size)
  exact ⟨RQ.new w1 t R, hB1.trans ((alQ_up w1 _).mono hB1.size), fun g u cs h => (h.up hb).alloc _, by simp, hb.size⟩
/-- a whole array out of its block, as a region takes it. -/
theorem exec_load_row {P : Program} {ev : Operand → Value} {o : Oper} {w : World} (ty : TypeId) (x : Operand) (ho : o.op = .load ty x) (g : Nat) (hx : ev x = .pointer (some ⟨g, 0, none⟩)) (t : TypeId) (cs : Array Value) (d : TypeDesc) (hg : RQ w g t cs)
    (hu : P.underlying ty = some d) (hd : (match d with | .struct _ | .array _ _ => true | _ => false) = true) (hi : (P.info? ty).map (·.size) = some cs.size) : (execOp ev o).run P w = .ok (.value (.agg cs)) w := by
  unfold execOp
  simp only [ho, hx, Instr.loadAt, Instr.sureAddr, Sem.run_bind, Sem.run_pure, Result.andThen_ok, run_loadVar_row w g t ty cs (0, 0) d hg hu hd hi]
/-- what stays while the last products are made. -/
def Inv5 (w : World) (g6 g5 g3 z : Nat) (P15 P12 P2 : Array Value) (V : World) : Prop := RQ V g6 26 P15 ∧ RQ V g5 26 P12 ∧ RQ V g3 26 P2 ∧ (∃ Z : Array Value, Z.size = 8 ∧ RQ V z 26 Z) ∧ Below w.heap.size w V
theorem Inv5.next {w V V' : World} {g6 g5 g3 z : Nat} {P15 P12 P2 : Array Value} (h : Inv5 w g6 g5 g3 z P15 P12 P2 V) (hb : Below V.heap.size V V') : Inv5 w g6 g5 g3 z P15 P12 P2 V' :=
  ⟨h.1.up hb, h.2.1.up hb, h.2.2.1.up hb, h.2.2.2.1.elim (fun Z hZ => ⟨Z, hZ.1, hZ.2.up hb⟩), h.2.2.2.2.trans (hb.mono h.2.2.2.2.size)⟩
set_option maxRecDepth 100000 in
set_option maxHeartbeats 3200000 in
theorem inverseP (s : Nat → UInt8) (w : World) :
    Calls Tryd.prog 46 #[.agg (pc s)] w fun e w' => e = .returned (.agg (pc (fun i => inv (s i)))) ∧ Below w.heap.size w w' := by
  obtain ⟨s2, h2⟩ : ∃ f : Nat → UInt8, f = fun i => mul (s i) (s i) := ⟨_, rfl⟩
  obtain ⟨s3, h3⟩ : ∃ f : Nat → UInt8, f = fun i => mul (s2 i) (s i) := ⟨_, rfl⟩
  obtain ⟨s6, h6⟩ : ∃ f : Nat → UInt8, f = fun i => mul (s3 i) (s3 i) := ⟨_, rfl⟩
  obtain ⟨s12, h12⟩ : ∃ f : Nat → UInt8, f = fun i => mul (s6 i) (s6 i) := ⟨_, rfl⟩
  obtain ⟨s15, h15⟩ : ∃ f : Nat → UInt8, f = fun i => mul (s12 i) (s3 i) := ⟨_, rfl⟩
  obtain ⟨s30, h30⟩ : ∃ f : Nat → UInt8, f = fun i => mul (s15 i) (s15 i) := ⟨_, rfl⟩
  obtain ⟨s60, h60⟩ : ∃ f : Nat → UInt8, f = fun i => mul (s30 i) (s30 i) := ⟨_, rfl⟩
  obtain ⟨s120, h120⟩ : ∃ f : Nat → UInt8, f = fun i => mul (s60 i) (s60 i) := ⟨_, rfl⟩
  obtain ⟨s240, h240⟩ : ∃ f : Nat → UInt8, f = fun i => mul (s120 i) (s120 i) := ⟨_, rfl⟩
  obtain ⟨s252, h252⟩ : ∃ f : Nat → UInt8, f = fun i => mul (s240 i) (s12 i) := ⟨_, rfl⟩
  have hlast : (fun i => inv (s i)) = fun i => mul (s252 i) (s2 i) := by
    subst h2 h3 h6 h12 h15 h30 h60 h120 h240 h252
    funext i
    exact (chain_inv (s i)).symm
  obtain ⟨s254, h254⟩ : ∃ f : Nat → UInt8, f = fun i => mul (s252 i) (s2 i) := ⟨_, rfl⟩
  rw [hlast, ← h254]
  have C2 := fun W => Lib.hid (sqP_i s W)
  have C3 := fun W => Lib.hid (timesP s2 s W)
  have C6 := fun W => Lib.hid (sqP_i s3 W)
  have C12 := fun W => Lib.hid (sqP_i s6 W)
  have C15 := fun W => Lib.hid (timesP s12 s3 W)
  have C30 := fun W => Lib.hid (sqP_i s15 W)
  have C60 := fun W => Lib.hid (sqP_i s30 W)
  have C120 := fun W => Lib.hid (sqP_i s60 W)
  have C240 := fun W => Lib.hid (sqP_i s120 W)
  have C252 := fun W => Lib.hid (timesP s240 s12 W)
  have C254 := fun W => Lib.hid (timesP s252 s2 W)
  rw [← h2] at C2; rw [← h3] at C3; rw [← h6] at C6; rw [← h12] at C12; rw [← h15] at C15; rw [← h30] at C30; rw [← h60] at C60; rw [← h120] at C120; rw [← h240] at C240; rw [← h252] at C252; rw [← h254] at C254
  clear h2 h3 h6 h12 h15 h30 h60 h120 h240 h252 h254 hlast
  have i1 := planes_info s
  have i2 := planes_info s2
  have i3 := planes_info s3
  have i12 := planes_info s12
  have i15 := planes_info s15
  have i254 := planes_info s254
  have o2 := pc_one s2
  have o3 := pc_one s3
  have o12 := pc_one s12
  have o15 := pc_one s15
  have o254 := pc_one s254
  have z2 : zeroQ.size = (pc s2).size := by rw [pc_size]; rfl
  have z3 : zeroQ.size = (pc s3).size := by rw [pc_size]; rfl
  have z12 : zeroQ.size = (pc s12).size := by rw [pc_size]; rfl
  have z15 : zeroQ.size = (pc s15).size := by rw [pc_size]; rfl
  have z254 : zeroQ.size = (pc s254).size := by rw [pc_size]; rfl
  generalize pc s = P1 at *
  generalize pc s2 = P2 at *
  generalize pc s3 = P3 at *
  generalize pc s6 = P6 at *
  generalize pc s12 = P12 at *
  generalize pc s15 = P15 at *
  generalize pc s30 = P30 at *
  generalize pc s60 = P60 at *
  generalize pc s120 = P120 at *
  generalize pc s240 = P240 at *
  generalize pc s252 = P252 at *
  generalize pc s254 = P254 at *
  obtain ⟨W0, hW⟩ : ∃ W0, (w.alloc (.cells P1 26)).alloc (.cells zeroQ 26) = W0 := ⟨_, rfl⟩
  obtain ⟨a1, az, hb0⟩ := newQ2 w _ _ _ _ hW
  have HW := Lib.hid hW
  have A1 := Lib.hid a1
  have AZ := Lib.hid az
  have B0 := Lib.hid hb0
  clear hW a1 az hb0
  unfold zeroQ at HW z2 z3 z12 z15
  go_enter Tryd.func46, Tryd.ntmps46
  go_wp2_with (refine wpList_load_row rfl 26 _ rfl w.heap.size rfl 26 P1 (0, 0) _ (by rw [HW.out]; exact A1.out) Tryd.underlying26 rfl i1 ?_)
  rw [HW.out]
  refine (C2 _).out.mono ?_; rintro e v2 ⟨rfl, hb⟩
  obtain ⟨W2, hW⟩ : ∃ W2, (v2.alloc (.cells #[.int .u64 0, .int .u64 0, .int .u64 0, .int .u64 0, .int .u64 0, .int .u64 0, .int .u64 0, .int .u64 0] 26)).setRow v2.heap.size P2 = W2 := ⟨_, rfl⟩
  obtain ⟨nn, nb, nu, nl, ne⟩ := made_at w W0 v2 _ _ _ B0.out hb hW
  have HW2 := Lib.hid hW
  have B2 := Lib.hid nb
  have N2 := Lib.hid nn
  have E2 := Lib.hid ne
  have A1 := Lib.hid (nu _ _ _ A1.out)
  have D2 := Lib.hid (Nat.lt_of_lt_of_le AZ.out.lt ne)
  have AZ := Lib.hid (nu _ _ _ AZ.out)
  clear hW nn nb nu nl ne hb HW B0
  go_wp2_with (first
    | (refine wpList_store_row rfl 26 _ _ rfl v2.heap.size P2 rfl rfl 26 _ (heap_alloc_new v2 _) i2 z2 o2 ?_)
    | (refine wpList_load_row rfl 26 _ rfl v2.heap.size rfl 26 P2 (0, 0) _ (by rw [HW2.out]; exact N2.out) Tryd.underlying26 rfl i2 ?_)
    | (refine wpList_load_row rfl 26 _ rfl w.heap.size rfl 26 P1 (0, 0) _ (by rw [HW2.out]; exact A1.out) Tryd.underlying26 rfl i1 ?_))
  rw [HW2.out]
  refine (C3 _).out.mono ?_; rintro e v3 ⟨rfl, hb⟩
  obtain ⟨W3, hW⟩ : ∃ W3, (v3.alloc (.cells #[.int .u64 0, .int .u64 0, .int .u64 0, .int .u64 0, .int .u64 0, .int .u64 0, .int .u64 0, .int .u64 0] 26)).setRow v3.heap.size P3 = W3 := ⟨_, rfl⟩
  obtain ⟨nn, nb, nu, nl, ne⟩ := made_at w W2 v3 _ _ _ B2.out hb hW
  have HW3 := Lib.hid hW
  have B3 := Lib.hid nb
  have N3 := Lib.hid nn
  have E3 := Lib.hid ne
  have A1 := Lib.hid (nu _ _ _ A1.out)
  have D3 := Lib.hid (Nat.lt_of_lt_of_le AZ.out.lt ne)
  have AZ := Lib.hid (nu _ _ _ AZ.out)
  have N2 := Lib.hid (nu _ _ _ N2.out)
  clear hW nn nb nu nl ne hb HW2 B2
  go_wp2_with (first
    | (refine wpList_store_row rfl 26 _ _ rfl v3.heap.size P3 rfl rfl 26 _ (heap_alloc_new v3 _) i3 z3 o3 ?_)
    | (refine wpList_load_row rfl 26 _ rfl v3.heap.size rfl 26 P3 (0, 0) _ (by rw [HW3.out]; exact N3.out) Tryd.underlying26 rfl i3 ?_))
  rw [HW3.out]
  refine (C6 _).out.mono ?_; rintro e u12 ⟨rfl, hb⟩
  have X12 := Lib.hid hb
  clear hb
  go_wp2_with fail
  refine (C12 _).out.mono ?_; rintro e v12 ⟨rfl, hb⟩
  have hb := X12.out.trans (hb.mono X12.out.size)
  obtain ⟨W12, hW⟩ : ∃ W12, (v12.alloc (.cells #[.int .u64 0, .int .u64 0, .int .u64 0, .int .u64 0, .int .u64 0, .int .u64 0, .int .u64 0, .int .u64 0] 26)).setRow v12.heap.size P12 = W12 := ⟨_, rfl⟩
  obtain ⟨nn, nb, nu, nl, ne⟩ := made_at w W3 v12 _ _ _ B3.out hb hW
  have HW12 := Lib.hid hW
  have B12 := Lib.hid nb
  have N12 := Lib.hid nn
  have E12 := Lib.hid ne
  have A1 := Lib.hid (nu _ _ _ A1.out)
  have D12 := Lib.hid (Nat.lt_of_lt_of_le AZ.out.lt ne)
  have AZ := Lib.hid (nu _ _ _ AZ.out)
  have N2 := Lib.hid (nu _ _ _ N2.out)
  have N3 := Lib.hid (nu _ _ _ N3.out)
  clear hW nn nb nu nl ne hb HW3 B3 X12
  go_wp2_with (first
    | (refine wpList_store_row rfl 26 _ _ rfl v12.heap.size P12 rfl rfl 26 _ (heap_alloc_new v12 _) i12 z12 o12 ?_)
    | (refine wpList_load_row rfl 26 _ rfl v12.heap.size rfl 26 P12 (0, 0) _ (by rw [HW12.out]; exact N12.out) Tryd.underlying26 rfl i12 ?_)
    | (refine wpList_load_row rfl 26 _ rfl v3.heap.size rfl 26 P3 (0, 0) _ (by rw [HW12.out]; exact N3.out) Tryd.underlying26 rfl i3 ?_))
  rw [HW12.out]
  refine (C15 _).out.mono ?_; rintro e v15 ⟨rfl, hb⟩
  obtain ⟨W15, hW⟩ : ∃ W15, (v15.alloc (.cells #[.int .u64 0, .int .u64 0, .int .u64 0, .int .u64 0, .int .u64 0, .int .u64 0, .int .u64 0, .int .u64 0] 26)).setRow v15.heap.size P15 = W15 := ⟨_, rfl⟩
  obtain ⟨nn, nb, nu, nl, ne⟩ := made_at w W12 v15 _ _ _ B12.out hb hW
  have HW15 := Lib.hid hW
  have B15 := Lib.hid nb
  have N15 := Lib.hid nn
  have E15 := Lib.hid ne
  have A1 := Lib.hid (nu _ _ _ A1.out)
  have D15 := Lib.hid (Nat.lt_of_lt_of_le AZ.out.lt ne)
  have AZ := Lib.hid (nu _ _ _ AZ.out)
  have N2 := Lib.hid (nu _ _ _ N2.out)
  have N3 := Lib.hid (nu _ _ _ N3.out)
  have N12 := Lib.hid (nu _ _ _ N12.out)
  clear hW nn nb nu nl ne hb HW12 B12
  go_wp2_with (first
    | (refine wpList_store_row rfl 26 _ _ rfl v15.heap.size P15 rfl rfl 26 _ (heap_alloc_new v15 _) i15 z15 o15 ?_))
  rw [HW15.out]
  have hS0 : Inv5 w v15.heap.size v12.heap.size v2.heap.size (w.heap.size + 1) P15 P12 P2 W15.drew := ⟨N15.out, N12.out, N2.out, ⟨zeroQ, rfl, AZ.out⟩, B15.out.drew⟩
  refine wp_region_held_drew (S := Inv5 w v15.heap.size v12.heap.size v2.heap.size (w.heap.size + 1) P15 P12 P2) (by kernel_rfl) hS0 (fun hS1 => ?_)
  refine wpAnyH_take (i := 0) (v := .agg P15) rfl (by kernel_rfl) (by kernel_rfl) (by kernel_rfl) (fun _ _ _ h => h) (Or.inl ⟨by kernel_rfl, fun V hV => exec_load_row 26 _ rfl v15.heap.size rfl 26 P15 _ hV.1 Tryd.underlying26 rfl i15⟩) (by assumption) ?_
  try simp only [List.getElem_toArray, List.getElem_cons_succ, List.getElem_cons_zero, Act.put, List.setIfInBounds_toArray, List.set_cons_zero, List.set_cons_succ]
  refine wpAnyH_take (i := 5) (v := .agg P12) rfl (by kernel_rfl) (by kernel_rfl) (by kernel_rfl) (fun _ _ _ h => h) (Or.inl ⟨by kernel_rfl, fun V hV => exec_load_row 26 _ rfl v12.heap.size rfl 26 P12 _ hV.2.1 Tryd.underlying26 rfl i12⟩) (by assumption) ?_
  try simp only [List.getElem_toArray, List.getElem_cons_succ, List.getElem_cons_zero, Act.put, List.setIfInBounds_toArray, List.set_cons_zero, List.set_cons_succ]
  refine wpAnyH_take (i := 7) (v := .agg P2) rfl (by kernel_rfl) (by kernel_rfl) (by kernel_rfl) (fun _ _ _ h => h) (Or.inl ⟨by kernel_rfl, fun V hV => exec_load_row 26 _ rfl v2.heap.size rfl 26 P2 _ hV.2.2.1 Tryd.underlying26 rfl i2⟩) (by assumption) ?_
  try simp only [List.getElem_toArray, List.getElem_cons_succ, List.getElem_cons_zero, Act.put, List.setIfInBounds_toArray, List.set_cons_zero, List.set_cons_succ]
  refine wpAnyH_ready (rs := [1]) (by kernel_rfl) (by simp) ?_
  refine AllReadyH.cons rfl (fun K hK => ?_) AllReadyH.nil
  go_simp
  refine (C30 _).out.mono ?_; rintro e x1 ⟨rfl, hb⟩
  have hS2 := hS1.next hb
  clear hb
  refine hK.out _ _ hS2 (fun hS2 => ?_)
  clear hK K
  try simp only [List.getElem_toArray, List.getElem_cons_succ, List.getElem_cons_zero, Act.put, List.setIfInBounds_toArray, List.set_cons_zero, List.set_cons_succ]
  refine wpAnyH_ready (rs := [2]) (by kernel_rfl) (by simp) ?_
  refine AllReadyH.cons rfl (fun K hK => ?_) AllReadyH.nil
  go_simp
  refine (C60 _).out.mono ?_; rintro e x2 ⟨rfl, hb⟩
  have hS3 := hS2.next hb
  clear hb
  refine hK.out _ _ hS3 (fun hS3 => ?_)
  clear hK K
  try simp only [List.getElem_toArray, List.getElem_cons_succ, List.getElem_cons_zero, Act.put, List.setIfInBounds_toArray, List.set_cons_zero, List.set_cons_succ]
  refine wpAnyH_ready (rs := [3]) (by kernel_rfl) (by simp) ?_
  refine AllReadyH.cons rfl (fun K hK => ?_) AllReadyH.nil
  go_simp
  refine (C120 _).out.mono ?_; rintro e x3 ⟨rfl, hb⟩
  have hS4 := hS3.next hb
  clear hb
  refine hK.out _ _ hS4 (fun hS4 => ?_)
  clear hK K
  try simp only [List.getElem_toArray, List.getElem_cons_succ, List.getElem_cons_zero, Act.put, List.setIfInBounds_toArray, List.set_cons_zero, List.set_cons_succ]
  refine wpAnyH_ready (rs := [4]) (by kernel_rfl) (by simp) ?_
  refine AllReadyH.cons rfl (fun K hK => ?_) AllReadyH.nil
  go_simp
  refine (C240 _).out.mono ?_; rintro e x4 ⟨rfl, hb⟩
  have hS5 := hS4.next hb
  clear hb
  refine hK.out _ _ hS5 (fun hS5 => ?_)
  clear hK K
  try simp only [List.getElem_toArray, List.getElem_cons_succ, List.getElem_cons_zero, Act.put, List.setIfInBounds_toArray, List.set_cons_zero, List.set_cons_succ]
  refine wpAnyH_ready (rs := [6]) (by kernel_rfl) (by simp) ?_
  refine AllReadyH.cons rfl (fun K hK => ?_) AllReadyH.nil
  go_simp
  refine (C252 _).out.mono ?_; rintro e x5 ⟨rfl, hb⟩
  have hS6 := hS5.next hb
  clear hb
  refine hK.out _ _ hS6 (fun hS6 => ?_)
  clear hK K
  try simp only [List.getElem_toArray, List.getElem_cons_succ, List.getElem_cons_zero, Act.put, List.setIfInBounds_toArray, List.set_cons_zero, List.set_cons_succ]
  refine wpAnyH_ready (rs := [8]) (by kernel_rfl) (by simp) ?_
  refine AllReadyH.cons rfl (fun K hK => ?_) AllReadyH.nil
  go_simp
  refine (C254 _).out.mono ?_; rintro e x6 ⟨rfl, hb⟩
  have hS7 := hS6.next hb
  clear hb
  refine hK.out _ _ hS7 (fun hS7 => ?_)
  clear hK K
  try simp only [List.getElem_toArray, List.getElem_cons_succ, List.getElem_cons_zero, Act.put, List.setIfInBounds_toArray, List.set_cons_zero, List.set_cons_succ]
  obtain ⟨Z, hZ, hCZ⟩ := hS7.2.2.2.1
  have hzz : Z.size = P254.size := by rw [hZ, ← z254]; rfl
  have MS := hCZ.row P254
  have MB := below_setRow hS7.2.2.2.2 (show w.heap.size ≤ w.heap.size + 1 by omega) P254
  have f15 := D15.out
  have f12 := D12.out
  have f2 := D2.out
  have M1 : RQ (x6.setRow (w.heap.size + 1) P254) v15.heap.size 26 P15 := (setRow_other x6 (w.heap.size + 1) v15.heap.size _ (by omega)).trans hS7.1
  have M2 : RQ (x6.setRow (w.heap.size + 1) P254) v12.heap.size 26 P12 := (setRow_other x6 (w.heap.size + 1) v12.heap.size _ (by omega)).trans hS7.2.1
  have M3 : RQ (x6.setRow (w.heap.size + 1) P254) v2.heap.size 26 P2 := (setRow_other x6 (w.heap.size + 1) v2.heap.size _ (by omega)).trans hS7.2.2.1
  have hP8 : P254.size = 8 := by rw [← z254]; rfl
  refine wpAnyH_ready (rs := [9]) (by kernel_rfl) (by simp) ?_
  refine AllReadyH.cons rfl (fun K hK => ?_) AllReadyH.nil
  refine wp_store_row 26 _ _ rfl (w.heap.size + 1) P254 rfl rfl 26 Z hCZ i254 hzz o254 ?_
  refine hK.out _ _ ⟨M1, M2, M3, ⟨_, hP8, MS⟩, MB⟩ (fun _ => ?_)
  clear hK K
  try simp only [List.getElem_toArray, List.getElem_cons_succ, List.getElem_cons_zero, Act.put, List.setIfInBounds_toArray, List.set_cons_zero, List.set_cons_succ]
  refine wpAnyH_done (by kernel_rfl) ?_ _
  have MS2 := Lib.hid MS
  have MB2 := Lib.hid MB
  clear MS MB M1 M2 M3 hS0 hS1 hS2 hS3 hS4 hS5 hS6 hS7 hCZ hzz f15 f12 f2
  go_wp2
  refine bodyPost_ret (v := .agg P254) ?_ rfl ⟨rfl, MB2.out⟩
  exact results_cell_row rfl _ _ (w.heap.size + 1) 26 _ (0, 0) _ rfl MS2.out Tryd.underlying26 rfl i254
end Go.Proofs.YtbbjcgnoialidaaDoor
