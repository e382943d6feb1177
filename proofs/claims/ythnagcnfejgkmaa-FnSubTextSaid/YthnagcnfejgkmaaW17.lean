/-
  The walk of laws.FnSubText: it returns true at every code.
-/
import Derived.Test.YthnagcnfejgkmaaMapT
import Derived.Test.YthnagcnfejgkmaaBoxDraw
import Derived.Test.YthnagcnfejgkmaaBoxMore
import Derived.Test.YthnagcnfejgkmaaDrawN
import Derived.Deep.RegionHeld3
import Derived.Deep.DrawnRows
import Derived.Deep.AppendLies
import Derived.Deep.QuietTactic
import Derived.BigQuiet
import Derived.IntWalk
import Derived.WalkKit
import Derived.LoopTactic
import Derived.OwnWalk
import Derived.WalkLawsBesides
import Derived.WalkSpells
import Derived.Outline
import Derived.Below
set_option linter.unusedVariables false
namespace Go.Proofs.Ythnagcnfejgkmaa
open Go.RowKit

theorem mapT_back {f g : UInt8 → UInt8} (h : ∀ c, g (f c) = c) (s : ByteArray) : mapT g (mapT f s) = s := by
  unfold mapT
  simp [List.map_map, Function.comp_def, h]
theorem mapT_append (f : UInt8 → UInt8) (s t : ByteArray) : mapT f (s ++ t) = mapT f s ++ mapT f t := by
  unfold mapT
  apply ByteArray.ext
  simp
set_option maxRecDepth 100000 in
set_option maxHeartbeats 3200000 in
theorem walk_FnSubText (a0 : Option Addr) (len0 cap0 : Nat) (z0 : List Int) (w : World) (w0 : IsRow .u8 w a0 len0 cap0 z0) :
    Calls Try.prog 5 #[.slice a0 len0 cap0] w fun e w' => e = .returned (.bool true) ∧ Below w.heap.size w w' := by
  obtain ⟨hcode, hlen⟩ := w0.code
  clear w0
  by_cases hl : len0 ≤ 1048576
  · have H := Lib.hid hcode
    clear hcode
    go_enter Try.func5, Try.ntmps5
    go_wp2_with fail
    refine (big_small _ _ _ _ hl).mono ?_; rintro e w' ⟨rfl, rfl⟩
    go_wp2_with fail
    refine (draw_SubText _ _ _ _ H.out hl).mono ?_; rintro e w1 ⟨s, rfl, hs, hb1⟩
    have HC := Lib.hid ((H.out.below hb1 (Nat.le_refl _)).up hb1.size)
    go_wp2_with fail
    refine (draw_UnsubText _ _ _ _ HC.out hl).mono ?_; rintro e w2 ⟨t, rfl, ht, hb2⟩
    have hbb := hb1.trans (hb2.mono hb1.size)
    clear hb1 hb2 HC
    obtain ⟨x, hx⟩ : ∃ x, mapT sbox s = x := ⟨_, rfl⟩
    obtain ⟨y, hy⟩ : ∃ y, mapT ubox t = y := ⟨_, rfl⟩
    obtain ⟨z, hz⟩ : ∃ z, mapT sbox t = z := ⟨_, rfl⟩
    have s1 : x.size = s.size := by rw [← hx, mapT_size]
    have s2 : y.size = t.size := by rw [← hy, mapT_size]
    have s3 : z.size = t.size := by rw [← hz, mapT_size]
    have s4 : (s ++ t).size ≤ 1073741824 := by rw [ByteArray.size_append]; omega
    have e1 : mapT ubox x = s := by rw [← hx]; exact mapT_back ubox_sbox s
    have e2 : mapT sbox y = t := by rw [← hy]; exact mapT_back sbox_ubox t
    have e3 : mapT sbox (s ++ t) = x ++ z := by rw [mapT_append, hx, hz]
    have c1 := fun W => Lib.hid (SubText_impl s W (by omega))
    have c2 := fun W => Lib.hid (UnsubText_impl t W (by omega))
    have c3 := fun W => Lib.hid (SubText_spec s W (by omega))
    have c4 := fun W => Lib.hid (UnsubText_spec t W (by omega))
    have c5 := fun W => Lib.hid (UnsubText_impl x W (by omega))
    have c6 := fun W => Lib.hid (SubText_impl y W (by omega))
    have c7 := fun W => Lib.hid (SubText_impl (s ++ t) W s4)
    have c8 := fun W => Lib.hid (SubText_impl t W (by omega))
    simp only [hx, hy, hz, e1, e2, e3] at c1 c2 c3 c4 c5 c6 c7 c8
    have hadd1 : s.size + t.size ≤ 9223372036854775807 := by omega
    have hadd2 : x.size + z.size ≤ 9223372036854775807 := by omega
    have hcat1 := fun W => run_string_add_sum (P := Try.prog) (w := W) s t hadd1
    have hcat2 := fun W => run_string_add_sum (P := Try.prog) (w := W) x z hadd2
    have hcap1 : (s.size : Int) + (t.size : Int) ≤ 140737488355328 := by omega
    have hcap2 : (x.size : Int) + (z.size : Int) ≤ 140737488355328 := by omega
    clear hx hy hz e1 e2 e3 s4
    go_wp2_with fail
    refine ((c1 _).out).mono ?_; rintro e wq ⟨rfl, hq⟩
    replace hbb := hbb.trans (hq.mono hbb.size)
    clear hq
    go_wp2_with fail
    refine ((c2 _).out).mono ?_; rintro e wq ⟨rfl, hq⟩
    replace hbb := hbb.trans (hq.mono hbb.size)
    clear hq
    go_wp2_with fail
    refine ((c3 _).out).mono ?_; rintro e wq ⟨rfl, hq⟩
    replace hbb := hbb.trans (hq.mono hbb.size)
    clear hq
    go_wp2_with fail
    refine ((c4 _).out).mono ?_; rintro e wq ⟨rfl, hq⟩
    replace hbb := hbb.trans (hq.mono hbb.size)
    clear hq
    go_wp2_with fail
    refine ((c5 _).out).mono ?_; rintro e wq ⟨rfl, hq⟩
    replace hbb := hbb.trans (hq.mono hbb.size)
    clear hq
    go_wp2_with fail
    refine ((c6 _).out).mono ?_; rintro e wq ⟨rfl, hq⟩
    replace hbb := hbb.trans (hq.mono hbb.size)
    clear hq
    go_wp2_with fail
    refine ((c7 _).out).mono ?_; rintro e wq ⟨rfl, hq⟩
    replace hbb := hbb.trans (hq.mono hbb.size)
    clear hq
    go_wp2_with fail
    refine ((c8 _).out).mono ?_; rintro e wq ⟨rfl, hq⟩
    replace hbb := hbb.trans (hq.mono hbb.size)
    clear hq
    go_wp2
    go_ret
    exact ⟨rfl, hbb⟩
  · go_enter Try.func5, Try.ntmps5
    go_wp2_with fail
    refine (big_great _ _ _ _ (by omega) hlen).mono ?_; rintro e w' ⟨rfl, rfl⟩
    go_wp2
    go_ret
    exact ⟨rfl, Below.refl _ _⟩
end Go.Proofs.Ythnagcnfejgkmaa
