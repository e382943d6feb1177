/-
  A struct of a number and three texts as an argument: opened off its reading, and shut again. No program of its own.
-/
import Derived.Test.YtlcfbeoaddjmnaaStmI
import Derived.OpenShut
import Derived.ChangeOld
import Derived.ChangeArms
import Derived.ChangeMaps5
set_option linter.unusedVariables false
set_option linter.unusedSimpArgs false
namespace Go.Proofs.Ytlcfbeoaddjmnaa
open Go Go.RowKit Go.ChangeShapes Go.WideShapes

section
variable {H : Type} {enc : TypeId × Value → H} {P : Program} {w : World} {base : Nat} {spare : Nat → Bool} {held : Bool} {t : TypeId}
/-- a stream as data. -/
def stmD (n : Int) (key blk left : ByteArray) : DataW H := .agg [.lit (.int .i64 n), .lit (.string key.data.toList), .lit (.string blk.data.toList), .lit (.string left.data.toList)]
theorem list4 {α : Type} (l : List α) (h : l.length = 4) : ∃ a b c d, l = [a, b, c, d] := by
  match l, h with
  | [a, b, c, d], _ => exact ⟨a, b, c, d, rfl⟩
theorem open_stm {r : Reach} {b0 : Nat} {v : Value} {d : DataW H} {ps : List MemPlace} {f0 f1 f2 f3 : Field} (ht : P.underlying t = some (.struct #[f0, f1, f2, f3])) (hct : P.cellsOf t = 4)
    (o0 : f0.offset = 0) (o1 : f1.offset = 1) (o2 : f2.offset = 2) (o3 : f3.offset = 3)
    (u0 : P.underlying f0.type = some (.int .i64)) (u1 : P.underlying f1.type = some .string) (u2 : P.underlying f2.type = some .string) (u3 : P.underlying f3.type = some .string)
    (c0 : P.cellsOf f0.type = 1) (c1 : P.cellsOf f1.type = 1) (c2 : P.cellsOf f2.type = 1) (c3 : P.cellsOf f3.type = 1)
    (hval : Value.okWide P w r b0 t v) (hd : DataW.Trod enc P w base spare held t v d ps) :
    ∃ (n : Int) (key blk left : ByteArray), v = stmV n key blk left ∧ d = stmD n key blk left ∧ ps = [] ∧ (Lit.int .i64 n).wf = true ∧ key.size ≤ maxLen ∧ blk.size ≤ maxLen ∧ left.size ≤ maxLen := by
  obtain ⟨cs, rfl, hsz, _⟩ : ∃ cs, v = .agg cs ∧ cs.size = P.cellsOf t ∧ Row.okWide P w r b0 t cs := by
    simpa [Value.okWide, ht] using hval
  rw [hct] at hsz
  obtain ⟨fuel, hf⟩ := hd
  obtain ⟨xs, m, rfl, hx, hlen, hl, hel⟩ := DataW.trod_struct ht hf
  have hcl : cs.toList.length = 4 := by simpa using hsz
  obtain ⟨k0, k1, k2, k3, hcs⟩ := list4 _ hcl
  obtain ⟨x0, x1, x2, x3, rfl⟩ := list4 xs (by simpa using hl)
  have hcell : (Value.agg cs).cells.toList = [k0, k1, k2, k3] := hcs
  rw [hcell] at hel
  have e0 := hel 0 f0 rfl
  have e1 := hel 1 f1 rfl
  have e2 := hel 2 f2 rfl
  have e3 := hel 3 f3 rfl
  rw [o0, c0] at e0
  rw [o1, c1] at e1
  rw [o2, c2] at e2
  rw [o3, c3] at e3
  simp at e0 e1 e2 e3
  obtain ⟨n, hn, rfl, hw⟩ := DataW.trod_int u0 e0
  obtain ⟨key, hk, rfl, hks⟩ := DataW.trod_string u1 e1
  obtain ⟨blk, hb, rfl, hbs⟩ := DataW.trod_string u2 e2
  obtain ⟨left, hq, rfl, hls⟩ := DataW.trod_string u3 e3
  simp at hn hk hb hq
  subst hn; subst hk; subst hb; subst hq
  refine ⟨n, key, blk, left, ?_, ?_, ?_, hw, hks, hbs, hls⟩
  · unfold stmV; congr 1; exact Array.ext' hcs
  · have := congrArg Prod.fst hx; simpa [stmD] using this
  · have := congrArg Prod.snd hx; simpa using this
theorem shut_stm {f0 f1 f2 f3 : Field} (n : Int) (key blk left : ByteArray) (ht : P.underlying t = some (.struct #[f0, f1, f2, f3])) (hct : P.cellsOf t = 4)
    (o0 : f0.offset = 0) (o1 : f1.offset = 1) (o2 : f2.offset = 2) (o3 : f3.offset = 3)
    (u0 : P.underlying f0.type = some (.int .i64)) (u1 : P.underlying f1.type = some .string) (u2 : P.underlying f2.type = some .string) (u3 : P.underlying f3.type = some .string)
    (c0 : P.cellsOf f0.type = 1) (c1 : P.cellsOf f1.type = 1) (c2 : P.cellsOf f2.type = 1) (c3 : P.cellsOf f3.type = 1)
    (hw : (Lit.int .i64 n).wf = true) (hk : key.size ≤ maxLen) (hb : blk.size ≤ maxLen) (hl : left.size ≤ maxLen) :
    DataW.Trod enc P w base spare held t (stmV n key blk left) (stmD n key blk left) [] := by
  refine ⟨2, ?_⟩
  unfold stmV stmD
  simp [DataW.trod, Value.cells, ht, hct, o0, o1, o2, o3, u0, u1, u2, u3, c0, c1, c2, c3, hw, hk, hb, hl]
end
end Go.Proofs.Ytlcfbeoaddjmnaa
