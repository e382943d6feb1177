/-
  What impl.ReadDec answers; the walk of laws.FnExactReadDec; what the row's list of variables gives.
-/
import Derived.Test.YtdhncpkcbeggmaaDoorRead
import Derived.LaidMore
import Derived.Lib.AtoiErrMem
import Derived.Stop.LaidErr
import Derived.Stop.Joined
set_option linter.unusedVariables false
namespace Go.Proofs.YtdhncpkcbeggmaaDoor
open Go.RowKit

/-- The two sentinels of strconv hold errors. -/
def Errs (w : World) : Prop := (∃ te pe, w.cell? ⟨0, 0, none⟩ = some (.iface te pe)) ∧ ∃ te pe, w.cell? ⟨1, 0, none⟩ = some (.iface te pe)

/-- strconv.Atoi where it tells no error, and where it tells one. -/
theorem atoi_two (s : ByteArray) (hs : s.size ≤ 1073741824) :
    (∃ v : Int, Lib.atoiAll s.data.toList = .ok v ∧ -9223372036854775808 ≤ v ∧ v ≤ 9223372036854775807 ∧ ∀ w, Calls Tryd.prog 31 #[.string s] w fun e w' => e = .returned (.tuple #[.int .i64 v, .nilIface]) ∧ Below w.heap.size w w') ∨
    ((∀ v : Int, Lib.atoiAll s.data.toList = .ok v → False) ∧ ∀ w, Errs w → Calls Tryd.prog 31 #[.string s] w fun e w' => ∃ v N, e = .returned (.tuple #[.int .i64 v, .iface 62 (.pointer (some ⟨N, 0, none⟩))]) ∧ Below w.heap.size w w') := by
  rcases h : Lib.atoiAll s.data.toList with v | _ | _
  · obtain ⟨h0, h1⟩ := Lib.atoiAll_bounds h
    refine .inl ⟨v, rfl, h0, h1, fun w => (Tryd.strconv_Atoi_ok s (by omega) v h w).mono fun e w' ⟨he, hw⟩ => ⟨he, ?_⟩⟩
    rcases hw with rfl | ⟨t, rfl⟩
    · exact Below.refl _ _
    · exact Lib.bytesWorld_below _ _ _
  · refine .inr ⟨(fun v hv => by cases hv), fun w herr => ?_⟩
    obtain ⟨⟨te, pe, hc⟩, _⟩ := herr
    exact (Any.strconv_Atoi_syntax Tryd.laysC172 s (by omega) h _ w hc (.inr ⟨te, pe, rfl⟩)).mono fun e w' ⟨N, he, _, _, hb⟩ => ⟨_, N, he, hb⟩
  · refine .inr ⟨(fun v hv => by cases hv), fun w herr => ?_⟩
    obtain ⟨_, ⟨te, pe, hc⟩⟩ := herr
    exact (Any.strconv_Atoi_range Tryd.laysC172 s (by omega) h _ w hc (.inr ⟨te, pe, rfl⟩)).mono fun e w' ⟨N, he, _, _, hb⟩ => ⟨_, N, he, hb⟩

set_option maxRecDepth 100000 in
set_option maxHeartbeats 1600000 in
theorem read_impl (s : ByteArray) (w : World) (hs : s.size ≤ 1073741824) (hp : Pow10 w) (he : Errs w) (hg : 2 < w.heap.size) :
    Calls Tryd.prog 13 #[.string s] w fun e w' => e = .returned (.int .i64 (rd s.data.toList)) ∧ Below w.heap.size w w' := by
  have HP := Lib.hid hp
  have HE := Lib.hid he
  clear hp he
  rcases atoi_two s hs with ⟨v, hv, h0, h1, hc⟩ | ⟨hn, hc⟩
  · have HC := Lib.hid hc
    clear hc
    by_cases hr : 0 ≤ v ∧ v ≤ 999999999
    · obtain ⟨n, rfl⟩ := Int.eq_ofNat_of_zero_le hr.1
      obtain ⟨hr0, hr1⟩ := hr
      by_cases hit : Lib.itoa (n : Int) = s.data.toList
      · have HR := Lib.hid (rd_yes (by omega) hit)
        have HST := Lib.hid ((str_eq (Lib.itoa (n : Int)) s).2 hit)
        clear hv hit
        go_enter Tryd.func13, Tryd.ntmps13
        go_wp2_with fail
        refine (HC.out _).mono ?_; rintro e w1 ⟨rfl, hb1⟩
        go_wp2_with fail
        refine (dec_impl _ _ h0 h1 (pow_below HP.out hb1 hg)).mono ?_; rintro e w2 ⟨rfl, hb2⟩
        rw [HST.out]
        go_wp2
        go_ret
        exact ⟨ret_int (by rw [HR.out]), hb1.trans (hb2.mono hb1.size)⟩
      · have HR : Hid (rd s.data.toList = -1) := Lib.hid (rd_no fun m hm hme => hit (by
          have h2 := atoi_itoa m hm
          rw [hme, hv] at h2
          injection h2 with h2
          rw [h2]
          exact hme))
        have hst := str_ne hit
        clear hv hit
        go_enter Tryd.func13, Tryd.ntmps13
        go_wp2_with fail
        refine (HC.out _).mono ?_; rintro e w1 ⟨rfl, hb1⟩
        go_wp2_with fail
        refine (dec_impl _ _ h0 h1 (pow_below HP.out hb1 hg)).mono ?_; rintro e w2 ⟨rfl, hb2⟩
        go_wp2
        go_ret
        exact ⟨ret_int (by rw [HR.out]), hb1.trans (hb2.mono hb1.size)⟩
    · have HR : Hid (rd s.data.toList = -1) := Lib.hid (rd_no fun m hm hme => hr (by
        have h2 := atoi_itoa m hm
        rw [hme, hv] at h2
        injection h2 with h2
        omega))
      clear hv
      by_cases hneg : v < 0
      · clear hr
        go_enter Tryd.func13, Tryd.ntmps13
        go_wp2_with fail
        refine (HC.out _).mono ?_; rintro e w1 ⟨rfl, hb1⟩
        go_wp2
        go_ret
        exact ⟨ret_int (by rw [HR.out]), hb1⟩
      · have hbig : 999999999 < v := by omega
        clear hr
        go_enter Tryd.func13, Tryd.ntmps13
        go_wp2_with fail
        refine (HC.out _).mono ?_; rintro e w1 ⟨rfl, hb1⟩
        go_wp2
        go_ret
        exact ⟨ret_int (by rw [HR.out]), hb1⟩
  · have HC := Lib.hid hc
    have HR : Hid (rd s.data.toList = -1) := Lib.hid (rd_no fun m hm hme => hn (m : Int) (by rw [← hme]; exact atoi_itoa m hm))
    clear hc hn
    go_enter Tryd.func13, Tryd.ntmps13
    go_wp2_with fail
    refine (HC.out _ HE.out).mono ?_; rintro e w1 ⟨v, N, rfl, hb1⟩
    go_wp2
    go_ret
    exact ⟨ret_int (by rw [HR.out]), hb1⟩

set_option maxHeartbeats 800000 in
theorem walk_FnExactReadDec (a0 : ByteArray) (w0 : a0.size ≤ maxLen) (w : World) (hf : Pow10 w ∧ Errs w ∧ 2 < w.heap.size) :
    Calls Tryd.prog 6 #[.string a0] w fun e w' => e = .returned (.bool true) ∧ Below w.heap.size w w' := by
  unfold maxLen at w0
  have H := Lib.hid hf
  clear hf
  by_cases hs : 1048576 < a0.size
  · go_enter Tryd.func6, Tryd.ntmps6
    go_wp2
    go_ret
    exact ⟨rfl, Below.refl _ _⟩
  · go_enter Tryd.func6, Tryd.ntmps6
    go_wp2_with fail
    refine (read_spec _ _ (by omega)).mono ?_; rintro e w1 ⟨rfl, rfl⟩
    go_wp2_with fail
    refine (read_impl _ _ (by omega) H.out.1 H.out.2.1 H.out.2.2).mono ?_; rintro e w2 ⟨rfl, hb⟩
    go_wp2
    go_ret
    exact ⟨rfl, hb⟩

theorem row89 (u : TypeId) (h : Tryd.prog.typeName? 3 u = some "*errors.errorString") : u = 89 := by
  have star : "*" ++ "errors.errorString" = "*errors.errorString" := by decide
  exact typeName_ptr_named (nm := "errors.errorString") (by rw [star]; kernel_rfl) (by kernel_rfl) (by decide) u (by rw [star]; exact h)
theorem gSyn : Tryd.prog.globalNamed "strconv.ErrSyntax" = some 0 := by kernel_rfl
theorem gRan : Tryd.prog.globalNamed "strconv.ErrRange" = some 1 := by kernel_rfl
theorem tSyn : (Tryd.prog.globals[0]?).map (·.type) = some 41 := by kernel_rfl
theorem tRan : (Tryd.prog.globals[1]?).map (·.type) = some 41 := by kernel_rfl
theorem cellsErr : Tryd.prog.cellsOf 91 = 1 := by kernel_rfl
theorem cellsStr : Tryd.prog.cellsOf 9 = 1 := by kernel_rfl
theorem facts_FnExactReadDec {W : World} (h : laidMetH Tryd.prog Rows.fnExactReadDecRow.laid W) : Pow10 W ∧ Errs W ∧ 2 < W.heap.size := by
  have h' : laidMet Tryd.prog Rows.fnExactReadDecRow.laid W := h
  have h3 := h'.tail.tail
  have hp : Pow10 W := Lib.tabIs_of_head (zs := Lib.pow10Tab) gPow (t := 84) (e := 69) (n := 20) (by kernel_rfl) Tryd.underlying84 Tryd.underlying69 (by kernel_rfl) (by kernel_rfl) h3
  obtain ⟨a1, s1, hv1, _, _, _⟩ := laid_sentinel h3.tail gRan tRan Tryd.underlying41 row89 Tryd.underlying89 Tryd.underlying91 rfl rfl Tryd.underlying9 cellsErr cellsStr
  obtain ⟨a0, s0, hv0, _, _, _⟩ := laid_sentinel h3.tail.tail gSyn tSyn Tryd.underlying41 row89 Tryd.underlying89 Tryd.underlying91 rfl rfl Tryd.underlying9 cellsErr cellsStr
  have hc := hp.cell gPow 0 (by decide)
  exact ⟨hp, ⟨⟨_, _, by simpa using World.var?_cell gSyn hv0 0⟩, ⟨_, _, by simpa using World.var?_cell gRan hv1 0⟩⟩, World.block_lt_of_cell? W _ hc⟩
end Go.Proofs.YtdhncpkcbeggmaaDoor
