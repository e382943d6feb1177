/-
  The walk of laws.FnXor: it returns true at every code.
-/
import Derived.Test.YtdhncpkcbeggmaaCur
import Derived.Test.YtdhncpkcbeggmaaByte
import Derived.Test.YtdhncpkcbeggmaaDraw
import Derived.Test.YtdhncpkcbeggmaaHex
import Derived.Test.YtdhncpkcbeggmaaHexI
import Derived.Test.YtdhncpkcbeggmaaXorI
import Derived.Test.YtdhncpkcbeggmaaOnes
import Derived.Test.YtdhncpkcbeggmaaUnhexI
import Derived.Test.YtdhncpkcbeggmaaBytes
import Derived.Test.YtdhncpkcbeggmaaBent
import Derived.Test.YtdhncpkcbeggmaaDrawHex
import Derived.Test.YtdhncpkcbeggmaaW3
import Derived.Test.YtdhncpkcbeggmaaKit
import Derived.Deep.RegionHeld3
import Derived.Deep.DrawnRows
import Derived.Deep.AppendLies
import Derived.WalkKit
import Derived.LoopTactic
import Derived.OwnWalk
import Derived.WalkLawsBesides
import Derived.WalkSpells
import Derived.Outline
import Derived.Laws.Pointers
import Derived.Deep.QuietTactic
import Derived.BigQuiet
import Derived.IntWalk
set_option linter.unusedVariables false
namespace Go.Proofs.Ytdhncpkcbeggmaa
open Go.RowKit

set_option maxRecDepth 100000 in
set_option maxHeartbeats 1600000 in
theorem draw_ones (w : World) (A : Option Addr) (len cap : Nat) (hcode : CodeAt w w.heap.size A len) (hl : len ≤ 1048576) :
    Calls Try.prog 19 #[.slice A len cap] w fun e w' => ∃ s : ByteArray, e = .returned (.string s) ∧ s.size ≤ 65536 ∧ Below w.heap.size w w' := by
  have H := Lib.hid hcode
  clear hcode
  go_enter Try.func19, Try.ntmps19
  go_wp2_with fail
  refine (new_any _ _ _ _ H.out hl).mono ?_; rintro e w1 ⟨g, rfl, hc1, hb1⟩
  go_wp2_with fail
  refine (below_small _ (by omega) (by omega) _ _ _ _ _ _ hc1).mono ?_; rintro e w2 ⟨x, rfl, hx0, hx1, hc2, hg2⟩
  obtain ⟨n, rfl⟩ := Int.eq_ofNat_of_zero_le hx0
  go_wp2_with fail
  refine (bytes_any n (by omega) _ _ _ _ _ _ hc2).mono ?_; rintro e w3 ⟨s, rfl, hs, hc3, hg3⟩
  have HS := Lib.hid hs
  clear hs
  go_wp2
  go_ret
  exact ⟨_, rfl, by have := HS.out; omega, below_only hb1 (only_trans hg2 hg3) hc1.1 hb1.size⟩

set_option maxRecDepth 100000 in
set_option maxHeartbeats 1600000 in
theorem draw_xor (w : World) (A : Option Addr) (len cap : Nat) (hcode : CodeAt w w.heap.size A len) (hl : len ≤ 1048576) :
    Calls Try.prog 17 #[.slice A len cap] w fun e w' => ∃ s t : ByteArray, e = .returned (.tuple #[.string s, .string t]) ∧ s.size ≤ 65536 ∧ t.size ≤ 65536 ∧ Below w.heap.size w w' := by
  have H := Lib.hid hcode
  clear hcode
  go_enter Try.func17, Try.ntmps17
  go_wp2_with fail
  refine (new_any _ _ _ _ H.out hl).mono ?_; rintro e w1 ⟨g, rfl, hc1, hb1⟩
  go_wp2_with fail
  refine (below_small _ (by omega) (by omega) _ _ _ _ _ _ hc1).mono ?_; rintro e w2 ⟨x, rfl, hx0, hx1, hc2, hg2⟩
  obtain ⟨n, rfl⟩ := Int.eq_ofNat_of_zero_le hx0
  go_wp2_with fail
  refine (bytes_any n (by omega) _ _ _ _ _ _ hc2).mono ?_; rintro e w3 ⟨s, rfl, hs, hc3, hg3⟩
  have HS := Lib.hid hs
  clear hs
  go_wp2_with fail
  refine (below_small _ (by omega) (by omega) _ _ _ _ _ _ hc3).mono ?_; rintro e w4 ⟨x, rfl, hx2, hx3, hc4, hg4⟩
  obtain ⟨m, rfl⟩ := Int.eq_ofNat_of_zero_le hx2
  go_wp2_with fail
  refine (bytes_any m (by omega) _ _ _ _ _ _ hc4).mono ?_; rintro e w5 ⟨t, rfl, ht, hc5, hg5⟩
  have HT := Lib.hid ht
  clear ht
  go_wp2
  go_ret2
  exact ⟨_, _, rfl, by have := HS.out; omega, by have := HT.out; omega, below_only hb1 (only_trans (only_trans hg2 hg3) (only_trans hg4 hg5)) hc1.1 hb1.size⟩

def xorB (a b : ByteArray) : ByteArray := ⟨(xorOf a b).toArray⟩
theorem xorB_data (a b : ByteArray) : (xorB a b).data.toList = xorOf a b := by simp [xorB]
theorem xorB_size (a b : ByteArray) : (xorB a b).size = min a.size b.size := by
  have h1 : (xorB a b).size = (xorOf a b).length := by simp [xorB, ByteArray.size]
  rw [h1, xorOf, List.length_zipWith]; simp
theorem xorB_comm (a b : ByteArray) : xorB b a = xorB a b := by
  unfold xorB xorOf
  rw [List.zipWith_comm]
  congr 3
  funext x y
  exact UInt8.xor_comm _ _
theorem zip_twice : ∀ (a b : List UInt8), List.zipWith (fun x y => x ^^^ y) (List.zipWith (fun x y => x ^^^ y) a b) b = a.take (min a.length b.length)
  | [], b => by simp
  | _ :: _, [] => by simp
  | x :: a, y :: b => by
    simp only [List.zipWith_cons_cons, zip_twice a b, List.length_cons]
    rw [show min (a.length + 1) (b.length + 1) = min a.length b.length + 1 by omega, List.take_succ_cons]
    congr 1
    rw [UInt8.xor_assoc, UInt8.xor_self, UInt8.xor_zero]
theorem xorB_twice (a b : ByteArray) : xorB (xorB a b) b = a.extract 0 (xorB a b).size := by
  rw [Lib.extract_eq, xorB_size]
  unfold xorB
  congr 2
  unfold xorOf
  simp only [List.drop_zero, Nat.sub_zero]
  rw [zip_twice]
  simp
theorem ones_zip_self : ∀ a : List UInt8, ones (List.zipWith (fun x y => x ^^^ y) a a) = 0
  | [] => rfl
  | x :: a => by
    simp only [List.zipWith_cons_cons, ones, ones_zip_self a, UInt8.xor_self]
    decide
def onesB (s : ByteArray) : Int := ones s.data.toList
theorem onesB_bd (s : ByteArray) : 0 ≤ onesB s ∧ onesB s ≤ 8 * (s.size : Int) := by
  have h := ones_bd s.data.toList
  have h2 : s.data.toList.length = s.size := by simp
  rw [h2] at h
  exact h
theorem onesB_append (a b : ByteArray) : onesB (a ++ b) = onesB a + onesB b := by
  unfold onesB
  rw [show (a ++ b).data.toList = a.data.toList ++ b.data.toList by simp, ones_append]
theorem onesB_self (a : ByteArray) : onesB (xorB a a) = 0 := by
  unfold onesB
  rw [xorB_data]
  exact ones_zip_self _
theorem onesB_impl (s : ByteArray) (w : World) (hs : s.size ≤ 1073741824) : Calls Try.prog 21 #[.string s] w fun e w' => e = .returned (.int .i64 (onesB s)) ∧ w = w' := ones_impl s w hs
theorem onesB_spec (s : ByteArray) (w : World) (hs : s.size ≤ 1073741824) : Calls Try.prog 22 #[.string s] w fun e w' => e = .returned (.int .i64 (onesB s)) ∧ w = w' := ones_spec s w hs
theorem xorB_impl (a b : ByteArray) (w : World) (ha : a.size ≤ 1073741824) (hb : b.size ≤ 1073741824) : Calls Try.prog 18 #[.string a, .string b] w fun e w' => e = .returned (.string (xorB a b)) ∧ Below w.heap.size w w' := xor_impl a b w ha hb
theorem xorB_spec (a b : ByteArray) (w : World) (ha : a.size ≤ 1073741824) (hb : b.size ≤ 1073741824) : Calls Try.prog 20 #[.string a, .string b] w fun e w' => e = .returned (.string (xorB a b)) ∧ Below w.heap.size w w' := xor_spec a b w ha hb

set_option maxRecDepth 100000 in
set_option maxHeartbeats 3200000 in
theorem walk_FnXor (a0 : Option Addr) (len0 cap0 : Nat) (z0 : List Int) (w : World) (w0 : IsRow .u8 w a0 len0 cap0 z0) :
    Calls Try.prog 4 #[.slice a0 len0 cap0] w fun e w' => e = .returned (.bool true) ∧ Below w.heap.size w w' := by
  obtain ⟨hcode, hlen⟩ := w0.code
  clear w0
  by_cases hl : len0 ≤ 1048576
  · have H := Lib.hid hcode
    clear hcode
    go_enter Try.func4, Try.ntmps4
    go_wp2_with fail
    refine (big_small _ _ _ _ hl).mono ?_; rintro e w' ⟨rfl, rfl⟩
    go_wp2_with fail
    refine (draw_xor _ _ _ _ H.out hl).mono ?_; rintro e w1 ⟨a, b, rfl, ha, hb, hb1⟩
    go_wp2_with fail
    refine (xorB_impl a b _ (by omega) (by omega)).mono ?_; rintro e w2 ⟨rfl, hb2⟩
    have hb12 := hb1.trans (hb2.mono hb1.size)
    clear hb1 hb2
    go_wp2_with fail
    refine (draw_ones _ _ _ _ ((H.out.below hb12 (Nat.le_refl _)).up hb12.size) hl).mono ?_; rintro e w3 ⟨n, rfl, hn, hb3⟩
    have hb13 := hb12.trans (hb3.mono hb12.size)
    clear hb12 hb3
    go_wp2_with fail
    refine (xorB_spec a b _ (by omega) (by omega)).mono ?_; rintro e w4 ⟨rfl, hb4⟩
    have hb14 := hb13.trans (hb4.mono hb13.size)
    clear hb13 hb4
    go_wp2_with fail
    refine (onesB_impl n _ (by omega)).mono ?_; rintro e w5 ⟨rfl, rfl⟩
    go_wp2_with fail
    refine (onesB_spec n _ (by omega)).mono ?_; rintro e w5 ⟨rfl, rfl⟩
    have e1 := xorB_twice a b
    have e2 := xorB_comm a b
    have hxs := xorB_size a b
    have hx1 : (xorB a b).size ≤ a.size := by omega
    have hx2 : (xorB a b).size ≤ 65536 := by omega
    clear hxs
    generalize xorB a b = x at *
    have hx0 : (0 : Int) ≤ (x.size : Int) := by omega
    have hx3 : (x.size : Int) ≤ (a.size : Int) := by omega
    have o1 := onesB_bd x
    have o2 := onesB_bd n
    have o3 := onesB_bd a
    have c1 := fun W => Lib.hid (xorB_impl x b W (by omega) (by omega))
    rw [e1] at c1
    have c2 := fun W => Lib.hid (xorB_impl b a W (by omega) (by omega))
    rw [e2] at c2
    have hz := xorB_size a a
    have c3 := fun W => Lib.hid (xorB_impl a a W (by omega) (by omega))
    have e4 := onesB_self a
    have hz2 : (xorB a a).size ≤ 65536 := by omega
    clear hz
    generalize xorB a a = z at *
    have c4 := fun W => Lib.hid (onesB_impl z W (by omega))
    rw [e4] at c4
    have hna : (n ++ a).size ≤ 1073741824 := by rw [ByteArray.size_append]; omega
    have c5 := fun W => Lib.hid (onesB_impl (n ++ a) W hna)
    rw [onesB_append] at c5
    clear e1 e2 e4 hna
    have w8 : IntKind.i64.wrap (8 * (x.size : Int)) = 8 * (x.size : Int) := IntWalk.i64_in _ (by omega)
    have wna : IntKind.i64.wrap (onesB n + onesB a) = onesB n + onesB a := IntWalk.i64_in _ (by omega)
    have ole : onesB x ≤ 8 * (x.size : Int) := o1.2
    have hadd : n.size + a.size ≤ 9223372036854775807 := by omega
    have hcat := fun W => run_string_add_sum (P := Try.prog) (w := W) n a hadd
    have hcap : (n.size : Int) + (a.size : Int) ≤ 140737488355328 := by omega
    go_wp2
    go_region_held3 (fun _ => True) (trivial) (first
      | (go_at_call_of 18 (Value.string x); refine (c1 _).out.mono ?_; rintro e y1 ⟨rfl, d1⟩)
      | (go_at_call_of 18 (Value.string b); refine (c2 _).out.mono ?_; rintro e y2 ⟨rfl, d2⟩)
      | (go_at_call_of 18 (Value.string a); refine (c3 _).out.mono ?_; rintro e y3 ⟨rfl, d3⟩)
      | (go_at_call_of 21 (Value.string z); refine (c4 _).out.mono ?_; rintro e y4 ⟨rfl, rfl⟩)
      | (go_at_call_of 21 (Value.string x); refine (onesB_impl x _ (by omega)).mono ?_; rintro e y4 ⟨rfl, rfl⟩)
      | (go_at_call_of 21 (Value.string (n ++ a)); refine (c5 _).out.mono ?_; rintro e y4 ⟨rfl, rfl⟩)
      | (go_at_call_of 21 (Value.string n); refine (onesB_impl n _ (by omega)).mono ?_; rintro e y4 ⟨rfl, rfl⟩)
      | (go_at_call_of 21 (Value.string a); refine (onesB_impl a _ (by omega)).mono ?_; rintro e y4 ⟨rfl, rfl⟩))
    all_goals
      have b1 := (hb14.drew).trans (d1.mono hb14.size)
      have b2 := b1.trans (d2.mono b1.size)
      have b3 := b2.trans (d3.mono b2.size)
      clear w8 wna b1 b2
      go_wp2
      go_ret
      exact ⟨rfl, b3⟩
  · go_enter Try.func4, Try.ntmps4
    go_wp2_with fail
    refine (big_great _ _ _ _ (by omega) hlen).mono ?_; rintro e w' ⟨rfl, rfl⟩
    go_wp2
    go_ret
    exact ⟨rfl, Below.refl _ _⟩
end Go.Proofs.Ytdhncpkcbeggmaa
