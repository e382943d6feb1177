/-
  An array of eight words as an argument: opened off its reading, and shut again. No program of its own.
-/
import Derived.Test.YtbbjcgnoialidaaDoorArr64
import Derived.OpenShut
import Derived.ChangeOld
set_option linter.unusedVariables false
set_option linter.unusedSimpArgs false
namespace Go.Proofs.YtbbjcgnoialidaaDoor
open Go Go.RowKit Go.ChangeShapes Go.WideShapes

section
variable {H : Type} {enc : TypeId × Value → H} {P : Program} {w : World} {base : Nat} {spare : Nat → Bool} {held : Bool} {t e : TypeId}
def litQ (x : Nat) : DataW H := .lit (.int .u64 (x : Int))
theorem wf_nat {x : Int} (h : (Lit.int .u64 x).wf = true) : ∃ n : Nat, x = (n : Int) ∧ n < 18446744073709551616 := by
  simp [Lit.wf, IntKind.min, IntKind.max, IntKind.signed, IntKind.bits] at h
  exact ⟨x.toNat, by omega, by omega⟩
theorem nat_wf {n : Nat} (h : n < 18446744073709551616) : (Lit.int .u64 (n : Int)).wf = true := by
  simp [Lit.wf, IntKind.min, IntKind.max, IntKind.signed, IntKind.bits]; omega
theorem list8 {α : Type} (l : List α) (h : l.length = 8) : ∃ a b c d e f g i, l = [a, b, c, d, e, f, g, i] := by
  match l, h with
  | [a, b, c, d, e, f, g, i], _ => exact ⟨a, b, c, d, e, f, g, i, rfl⟩
theorem drop_take {α : Type} (l : List α) (i : Nat) (x : α) (h : l[i]? = some x) : (l.drop i).take 1 = [x] := by
  rw [List.take_one, List.head?_drop, h]; rfl
/-- eight words are read: planes of some text. -/
theorem open_arr8 {r : Reach} {b0 : Nat} {v : Value} {d : DataW H} {ps : List MemPlace} (ht : P.underlying t = some (.array 8 e)) (he : P.underlying e = some (.int .u64)) (hc : P.cellsOf e = 1) (hct : P.cellsOf t = 8)
    (hval : Value.okWide P w r b0 t v) (hd : DataW.Trod enc P w base spare held t v d ps) :
    ∃ s : Nat → UInt8, v = .agg (pc s) ∧ d = .agg ((upTo (plW s) 8).map litQ) ∧ ps = [] := by
  obtain ⟨cs, rfl, hsz, _⟩ : ∃ cs, v = .agg cs ∧ cs.size = P.cellsOf t ∧ Row.okWide P w r b0 t cs := by
    simpa [Value.okWide, ht] using hval
  rw [hct] at hsz
  obtain ⟨fuel, hf⟩ := hd
  obtain ⟨xs, m, rfl, hx, hlen, hl, hel⟩ := DataW.trod_array ht hf
  rw [hc] at hel
  simp only [Nat.mul_one] at hel
  have hcl : cs.toList.length = 8 := by simpa using hsz
  have hval2 : ∀ i, i < 8 → ∃ n : Nat, n < 18446744073709551616 ∧ cs.toList[i]? = some (.int .u64 (n : Int)) ∧ xs[i]? = some (.lit (.int .u64 (n : Int)), []) := by
    intro i hi
    have hxi : i < xs.length := by omega
    have h1 := hel i hi
    rw [List.getElem?_eq_getElem hxi] at h1
    obtain ⟨n, hn, hxx, hw⟩ := DataW.trod_int he h1
    obtain ⟨k, rfl, hk⟩ := wf_nat hw
    refine ⟨k, hk, ?_, ?_⟩
    · have hci : i < cs.toList.length := by omega
      have h2 := drop_take cs.toList i _ (List.getElem?_eq_getElem hci)
      rw [List.getElem?_eq_getElem hci]
      have h3 : (Value.agg cs).cells.toList = cs.toList := rfl
      rw [h3, h2] at hn
      simpa using hn
    · rw [List.getElem?_eq_getElem hxi, hxx]
  have hp : ∃ p : Nat → Nat, ∀ i, i < 8 → p i < 18446744073709551616 ∧ cs.toList[i]? = some (.int .u64 (p i : Int)) ∧ xs[i]? = some (.lit (.int .u64 (p i : Int)), []) := by
    refine ⟨fun i => if h : i < 8 then (hval2 i h).choose else 0, fun i hi => ?_⟩
    simp only [dif_pos hi]
    exact (hval2 i hi).choose_spec
  obtain ⟨p, hp⟩ := hp
  have hpl : ∀ k, k < 8 → plW (byP p) k = p k := fun k hk => plW_byP p k hk (hp k hk).1
  have hcs : cs = arQ p 8 := by
    apply Array.ext'
    apply List.ext_getElem?
    intro i
    by_cases hi : i < 8
    · rw [(hp i hi).2.1]
      have := arQ_at p 8 i hi
      rw [← Array.getElem?_toList] at this
      exact this.symm
    · rw [List.getElem?_eq_none (by omega), List.getElem?_eq_none (by simp [arQ_size]; omega)]
  have hxs : xs = (upTo p 8).map fun (n : Nat) => ((DataW.lit (Lit.int .u64 (n : Int)), []) : DataW H × List MemPlace) := by
    apply List.ext_getElem?
    intro i
    by_cases hi : i < 8
    · rw [(hp i hi).2.2, List.getElem?_map, upTo_at p 8 i hi]; rfl
    · rw [List.getElem?_eq_none (by omega), List.getElem?_eq_none (by simp [upTo_length]; omega)]
  have e1 : upTo p 8 = upTo (plW (byP p)) 8 := upTo_congr _ _ _ fun k hk => (hpl k hk).symm
  simp only [Prod.mk.injEq] at hx
  refine ⟨byP p, ?_, ?_, ?_⟩
  · rw [hcs]
    unfold pc arQ
    rw [e1]
  · rw [hx.1, hxs, ← e1, List.map_map]; rfl
  · rw [hx.2, hxs, List.flatMap_map]; simp
theorem shut_arr8 (s : Nat → UInt8) (ht : P.underlying t = some (.array 8 e)) (he : P.underlying e = some (.int .u64)) (hc : P.cellsOf e = 1) (hct : P.cellsOf t = 8) :
    DataW.Trod enc P w base spare held t (.agg (pc s)) (.agg ((upTo (plW s) 8).map litQ)) [] := by
  have hl := fun k => nat_wf (plW_lt' s k)
  refine ⟨2, ?_⟩
  have e8 : upTo (plW s) 8 = [plW s 0, plW s 1, plW s 2, plW s 3, plW s 4, plW s 5, plW s 6, plW s 7] := rfl
  unfold pc arQ
  rw [e8]
  have h0 := hl 0; have h1 := hl 1; have h2 := hl 2; have h3 := hl 3; have h4 := hl 4; have h5 := hl 5; have h6 := hl 6; have h7 := hl 7
  generalize plW s 0 = p0 at *
  generalize plW s 1 = p1 at *
  generalize plW s 2 = p2 at *
  generalize plW s 3 = p3 at *
  generalize plW s 4 = p4 at *
  generalize plW s 5 = p5 at *
  generalize plW s 6 = p6 at *
  generalize plW s 7 = p7 at *
  simp [DataW.trod, Value.cells, ht, he, hc, hct, cellQ, litQ, h0, h1, h2, h3, h4, h5, h6, h7, show List.range 8 = [0, 1, 2, 3, 4, 5, 6, 7] from rfl]
end
end Go.Proofs.YtbbjcgnoialidaaDoor
