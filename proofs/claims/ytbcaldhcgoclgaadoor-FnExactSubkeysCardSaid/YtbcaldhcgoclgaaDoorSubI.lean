/-
  What Subkeys answers, both sides.
-/
import Derived.Test.YtbcaldhcgoclgaaDoorWideW
import Derived.Test.YtbcaldhcgoclgaaDoorPass
import Derived.Test.YtbcaldhcgoclgaaDoorLockSp
import Derived.Test.YtbcaldhcgoclgaaDoorGfS
set_option linter.unusedVariables false
set_option linter.unusedSimpArgs false
namespace Go.Proofs.YtbcaldhcgoclgaaDoor
open Go Go.RowKit

theorem nought_lit : (⟨#[0, 0, 0, 0, 0, 0, 0, 0, 0, 0, 0, 0, 0, 0, 0, 0]⟩ : ByteArray) = zer16 := by decide +kernel
/-- the two keys under which a last block is turned; nothing for a key that isn't right. -/
def sk1 (key : ByteArray) : ByteArray := dblI (lockT key zer16)
def sk2 (key : ByteArray) : ByteArray := dblI (sk1 key)
theorem lock_size (key b : ByteArray) (hk : kOk key) (hb : b.size = 16) : (lockT key b).size = 16 := by rw [lockT_yes key b hk hb]; exact lockS_size _ _ _
theorem sk1_yes (key : ByteArray) (hk : kOk key) : sk1 key = sub1 (lockT key) := dblI_yes _ (lock_size key _ hk zer16_size)
theorem sk2_yes (key : ByteArray) (hk : kOk key) : sk2 key = sub2 (lockT key) := by
  unfold sk2
  rw [sk1_yes key hk]
  exact dblI_yes _ (sub1_size _)
theorem dblI_nil : dblI ⟨#[]⟩ = ⟨#[]⟩ := dblI_no _ (by decide)
theorem sk1_no (key : ByteArray) (hk : ¬ kOk key) : sk1 key = ⟨#[]⟩ := by
  unfold sk1
  rw [lockT_no key _ (fun h => hk h.1), dblI_nil]
theorem sk2_no (key : ByteArray) (hk : ¬ kOk key) : sk2 key = ⟨#[]⟩ := by
  unfold sk2
  rw [sk1_no key hk, dblI_nil]
theorem sk1_size (key : ByteArray) (hk : kOk key) : (sk1 key).size = 16 := by rw [sk1_yes key hk]; exact sub1_size _
theorem sk2_size (key : ByteArray) (hk : kOk key) : (sk2 key).size = 16 := by rw [sk2_yes key hk]; exact sub2_size _
set_option maxRecDepth 100000 in
set_option maxHeartbeats 1600000 in
theorem Subkeys_impl (key : ByteArray) (w : World) (hf : MxF w) :
    Calls Tryd.prog 5 #[.string key] w fun e w' => e = .returned (.tuple #[.string (sk1 key), .string (sk2 key)]) ∧ Below w.heap.size w w' := by
  have H1 := Lib.hid (Lock_impl key zer16 w hf)
  have H2 := fun W => Lib.hid (Doubled_impl (lockT key zer16) W)
  have H3 := fun W => Lib.hid (Doubled_impl (sk1 key) W)
  rw [show dblI (lockT key zer16) = sk1 key from rfl] at H2
  rw [show dblI (sk1 key) = sk2 key from rfl] at H3
  obtain ⟨x, hx⟩ : ∃ x, lockT key zer16 = x := ⟨_, rfl⟩
  rw [hx] at H1
  simp only [hx] at H2
  rw [← nought_lit] at H1
  clear hx
  generalize sk1 key = y at *
  generalize sk2 key = z at *
  clear hf
  go_enter Tryd.func5, Tryd.ntmps5
  go_wp2_with fail
  refine H1.out.mono ?_; rintro e w1 ⟨rfl, hb1⟩
  go_wp2_with fail
  refine (H2 _).out.mono ?_; rintro e w2 ⟨rfl, hb2⟩
  go_wp2_with fail
  refine (H3 _).out.mono ?_; rintro e w3 ⟨rfl, hb3⟩
  have hb12 := hb1.trans (hb2.mono hb1.size)
  have hb13 := hb12.trans (hb3.mono hb12.size)
  clear hb1 hb2 hb3 hb12
  go_wp2
  go_ret2
  exact ⟨rfl, hb13⟩
set_option maxRecDepth 100000 in
set_option maxHeartbeats 1600000 in
theorem Subkeys_spec (key : ByteArray) (w : World) :
    Calls Tryd.prog 4 #[.string key] w fun e w' => e = .returned (.tuple #[.string (sk1 key), .string (sk2 key)]) ∧ Below w.heap.size w w' := by
  have HK := fun W => Lib.hid (KeyOk_spec key W)
  by_cases hk : kOk key
  · rw [decide_eq_true hk] at HK
    have H0 := fun W => Lib.hid (l14Zero_spec 16 (by omega) W)
    rw [zer16_txt] at H0
    have H1 := fun W => Lib.hid (Lock_spec key zer16 W)
    have H2 := fun W => Lib.hid (Doubled_spec (lockT key zer16) W)
    have H3 := fun W => Lib.hid (Doubled_spec (sk1 key) W)
    rw [show dblI (lockT key zer16) = sk1 key from rfl] at H2
    rw [show dblI (sk1 key) = sk2 key from rfl] at H3
    generalize lockT key _ = x at *
    generalize sk1 key = y at *
    generalize sk2 key = z at *
    generalize zer16 = o at *
    clear hk
    go_enter Tryd.func4, Tryd.ntmps4
    go_wp2_with fail
    refine (HK _).out.mono ?_; rintro e w' ⟨rfl, rfl⟩
    go_wp2_with fail
    refine (H0 _).out.mono ?_; rintro e w0 ⟨rfl, hb0⟩
    go_wp2_with fail
    refine (H1 _).out.mono ?_; rintro e w1 ⟨rfl, hb1⟩
    go_wp2_with fail
    refine (H2 _).out.mono ?_; rintro e w2 ⟨rfl, hb2⟩
    go_wp2_with fail
    refine (H3 _).out.mono ?_; rintro e w3 ⟨rfl, hb3⟩
    have hb11 := hb0.trans (hb1.mono hb0.size)
    have hb12 := hb11.trans (hb2.mono hb11.size)
    have hb13 := hb12.trans (hb3.mono hb12.size)
    clear hb0 hb1 hb2 hb3 hb12 hb11
    go_wp2
    go_ret2
    exact ⟨rfl, hb13⟩
  · rw [decide_eq_false hk] at HK
    rw [sk1_no key hk, sk2_no key hk]
    go_enter Tryd.func4, Tryd.ntmps4
    go_wp2_with fail
    refine (HK _).out.mono ?_; rintro e w' ⟨rfl, rfl⟩
    go_wp2
    go_ret2
    exact ⟨rfl, Below.refl _ _⟩
end Go.Proofs.YtbcaldhcgoclgaaDoor
