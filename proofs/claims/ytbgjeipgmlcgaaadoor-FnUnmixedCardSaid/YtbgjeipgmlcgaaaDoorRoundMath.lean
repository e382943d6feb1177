/-
  Plain facts on blocks: rows that are shifted, columns that are mixed by factors, and sums. No program.
-/
import Derived.Test.YtbgjeipgmlcgaaaDoorUnmixMath
import Derived.Test.YtbgjeipgmlcgaaaDoorMath
set_option linter.unusedVariables false
set_option linter.unusedSimpArgs false
namespace Go.Proofs.YtbgjeipgmlcgaaaDoor
open Go Go.RowKit

/-- a text of the n bytes that f tells. -/
def txt (f : Nat → UInt8) (n : Nat) : ByteArray := ⟨(upTo f n).toArray⟩
theorem txt_size (f : Nat → UInt8) (n : Nat) : (txt f n).size = n := by
  show (upTo f n).toArray.size = n
  simp [upTo]
theorem txt_byte (f : Nat → UInt8) (n i : Nat) (h : i < n) : byteOf (txt f n) i = f i := by
  unfold byteOf txt
  rw [List.getD_eq_getElem?_getD, upTo_at f n i h]
  rfl
theorem txt_ext (f g : Nat → UInt8) (n : Nat) (h : ∀ i, i < n → f i = g i) : txt f n = txt g n := by
  unfold txt; rw [upTo_congr f g n h]
theorem txt_own (s : ByteArray) (n : Nat) (h : s.size = n) : txt (byteOf s) n = s := by
  apply ByteArray.ext
  apply Array.ext'
  show upTo (byteOf s) n = s.data.toList
  have hl : s.data.toList.length = n := by simpa using h
  apply List.ext_getElem?
  intro i
  by_cases hi : i < n
  · rw [upTo_at _ _ _ hi]
    unfold byteOf
    rw [List.getD_eq_getElem?_getD, List.getElem?_eq_getElem (by omega)]
    rfl
  · rw [List.getElem?_eq_none (by rw [upTo_length]; omega), List.getElem?_eq_none (by omega)]
theorem b_ext (a b : ByteArray) (n : Nat) (ha : a.size = n) (hb : b.size = n) (h : ∀ i, i < n → byteOf a i = byteOf b i) : a = b := by
  rw [← txt_own a n ha, ← txt_own b n hb]; exact txt_ext _ _ n h
/-- where a byte of a block comes from, when its rows are shifted by so many columns each. -/
def shAt (d i : Nat) : Nat := (i + 4 * d * (i % 4)) % 16
theorem shAt_lt (d i : Nat) : shAt d i < 16 := Nat.mod_lt _ (by omega)
/-- a block whose rows are shifted. -/
def shS (d : Nat) (s : ByteArray) : ByteArray := txt (fun i => byteOf s (shAt d i)) 16
theorem shS_size (d : Nat) (s : ByteArray) : (shS d s).size = 16 := txt_size _ _
theorem shS_byte (d : Nat) (s : ByteArray) (i : Nat) (h : i < 16) : byteOf (shS d s) i = byteOf s (shAt d i) := txt_byte _ _ _ h
theorem sh_13 : ∀ i : Fin 16, shAt 1 (shAt 3 i.val) = i.val ∧ shAt 3 (shAt 1 i.val) = i.val ∧ shAt 1 (shAt 1 (shAt 1 (shAt 1 i.val))) = i.val := by decide +kernel
theorem sh_back (s : ByteArray) (h : s.size = 16) : shS 3 (shS 1 s) = s := by
  refine Eq.trans (txt_ext _ (byteOf s) 16 fun i hi => ?_) (txt_own s 16 h)
  rw [shS_byte 1 s _ (shAt_lt _ _), (sh_13 ⟨i, hi⟩).1]
theorem sh_forth (s : ByteArray) (h : s.size = 16) : shS 1 (shS 3 s) = s := by
  refine Eq.trans (txt_ext _ (byteOf s) 16 fun i hi => ?_) (txt_own s 16 h)
  rw [shS_byte 3 s _ (shAt_lt _ _), (sh_13 ⟨i, hi⟩).2.1]
theorem sh_four (s : ByteArray) (h : s.size = 16) : shS 1 (shS 1 (shS 1 (shS 1 s))) = s := by
  refine Eq.trans (txt_ext _ (byteOf s) 16 fun i hi => ?_) (txt_own s 16 h)
  rw [shS_byte 1 _ _ (shAt_lt _ _), shS_byte 1 _ _ (shAt_lt _ _), shS_byte 1 _ _ (shAt_lt _ _), (sh_13 ⟨i, hi⟩).2.2]
/-- the words of a block, and a block of words. -/
def colW (s : ByteArray) (j : Nat) : UInt32 := getW s (4 * j)
def ofW (f : Nat → UInt32) : ByteArray := txt (fun i => wb (f (i / 4)) (i % 4)) 16
theorem ofW_size (f : Nat → UInt32) : (ofW f).size = 16 := txt_size _ _
theorem ofW_byte (f : Nat → UInt32) (i : Nat) (h : i < 16) : byteOf (ofW f) i = wb (f (i / 4)) (i % 4) := txt_byte _ _ _ h
theorem colW_ofW (f : Nat → UInt32) (j : Nat) (hj : j < 4) : colW (ofW f) j = f j := by
  unfold colW getW
  rw [ofW_byte f _ (by omega), ofW_byte f _ (by omega), ofW_byte f _ (by omega), ofW_byte f _ (by omega)]
  rw [show 4 * j / 4 = j by omega, show 4 * j % 4 = 0 by omega, show (4 * j + 1) / 4 = j by omega, show (4 * j + 1) % 4 = 1 by omega, show (4 * j + 2) / 4 = j by omega, show (4 * j + 2) % 4 = 2 by omega, show (4 * j + 3) / 4 = j by omega, show (4 * j + 3) % 4 = 3 by omega, mkW_wb]
theorem ofW_ext (f g : Nat → UInt32) (h : ∀ j, j < 4 → f j = g j) : ofW f = ofW g :=
  txt_ext _ _ 16 fun i hi => by show wb (f (i / 4)) _ = wb (g (i / 4)) _; rw [h (i / 4) (by omega)]
theorem wb_getW (s : ByteArray) (i j : Nat) (hj : j < 4) : wb (getW s i) j = byteOf s (i + j) := by
  have h4 : j = 0 ∨ j = 1 ∨ j = 2 ∨ j = 3 := by omega
  unfold getW
  rcases h4 with rfl | rfl | rfl | rfl
  · exact wb0_mk _ _ _ _
  · exact wb1_mk _ _ _ _
  · exact wb2_mk _ _ _ _
  · exact wb3_mk _ _ _ _
theorem ofW_colW (s : ByteArray) (h : s.size = 16) : ofW (colW s) = s := by
  refine Eq.trans (txt_ext _ (byteOf s) 16 fun i hi => ?_) (txt_own s 16 h)
  show wb (getW s (4 * (i / 4))) (i % 4) = byteOf s i
  rw [wb_getW _ _ _ (by omega)]; congr 1; omega
theorem putW_b (x : UInt32) (k : Nat) (hk : k < 4) : byteOf (putW x) k = wb x k := by
  have h4 : k = 0 ∨ k = 1 ∨ k = 2 ∨ k = 3 := by omega
  rcases h4 with rfl | rfl | rfl | rfl <;> rfl
theorem ext4 (s : ByteArray) (i : Nat) (h : i + 4 ≤ s.size) : s.extract i (i + 4) = putW (getW s i) := by
  have hs : (s.extract i (i + 4)).size = 4 := by rw [ByteArray.size_extract]; omega
  refine b_ext _ _ 4 hs rfl fun j hj => ?_
  rw [← byteOf_at _ _ (by rw [hs]; exact hj), ByteArray.getElem_extract, byteOf_at, putW_b _ _ hj, wb_getW _ _ _ hj]
theorem mkW_put (a b c d : UInt8) : (⟨#[a, b, c, d]⟩ : ByteArray) = putW (mkW a b c d) := by
  unfold putW; rw [wb0_mk, wb1_mk, wb2_mk, wb3_mk]
/-- the text of the first k of a block's words. -/
def outW (f : Nat → UInt32) (k : Nat) : ByteArray := txt (fun i => wb (f (i / 4)) (i % 4)) (4 * k)
theorem outW_size (f : Nat → UInt32) (k : Nat) : (outW f k).size = 4 * k := txt_size _ _
theorem outW_0 (f : Nat → UInt32) : outW f 0 = ⟨#[]⟩ := rfl
theorem outW_4 (f : Nat → UInt32) : outW f 4 = ofW f := rfl
theorem outW_up (f : Nat → UInt32) (k : Nat) : outW f k ++ putW (f k) = outW f (k + 1) := by
  apply ByteArray.ext
  apply Array.ext'
  rw [ByteArray.data_append, Array.toList_append]
  show upTo (fun i => wb (f (i / 4)) (i % 4)) (4 * k) ++ [wb (f k) 0, wb (f k) 1, wb (f k) 2, wb (f k) 3] = upTo (fun i => wb (f (i / 4)) (i % 4)) (4 * (k + 1))
  rw [show 4 * (k + 1) = 4 * k + 1 + 1 + 1 + 1 by omega, upTo_succ, upTo_succ, upTo_succ, upTo_succ]
  rw [show 4 * k / 4 = k by omega, show 4 * k % 4 = 0 by omega, show (4 * k + 1) / 4 = k by omega, show (4 * k + 1) % 4 = 1 by omega, show (4 * k + 1 + 1) / 4 = k by omega, show (4 * k + 1 + 1) % 4 = 2 by omega, show (4 * k + 1 + 1 + 1) / 4 = k by omega, show (4 * k + 1 + 1 + 1) % 4 = 3 by omega]
  simp only [List.append_assoc, List.cons_append, List.nil_append]
/-- factors one behind the other. -/
def conv (f g : Nat → UInt8) : Nat → UInt8
  | 0 => mul (f 0) (g 0) ^^^ mul (f 1) (g 3) ^^^ mul (f 2) (g 2) ^^^ mul (f 3) (g 1)
  | 1 => mul (f 0) (g 1) ^^^ mul (f 1) (g 0) ^^^ mul (f 2) (g 3) ^^^ mul (f 3) (g 2)
  | 2 => mul (f 0) (g 2) ^^^ mul (f 1) (g 1) ^^^ mul (f 2) (g 0) ^^^ mul (f 3) (g 3)
  | _ => mul (f 0) (g 3) ^^^ mul (f 1) (g 2) ^^^ mul (f 2) (g 1) ^^^ mul (f 3) (g 0)
theorem mixW_congr (f g : Nat → UInt8) (x : UInt32) (h0 : f 0 = g 0) (h1 : f 1 = g 1) (h2 : f 2 = g 2) (h3 : f 3 = g 3) : mixW f x = mixW g x := by
  rw [mixW_bytes, mixW_bytes, h0, h1, h2, h3]
theorem regroup (a b c d e f g h i j k l m n o p : UInt8) :
    (a ^^^ b ^^^ c ^^^ d) ^^^ (e ^^^ f ^^^ g ^^^ h) ^^^ (i ^^^ j ^^^ k ^^^ l) ^^^ (m ^^^ n ^^^ o ^^^ p) = (a ^^^ e ^^^ i ^^^ m) ^^^ (b ^^^ f ^^^ j ^^^ n) ^^^ (c ^^^ g ^^^ k ^^^ o) ^^^ (d ^^^ h ^^^ l ^^^ p) := by
  simp only [x_assoc, x_comm, x_lcomm]
/-- one byte of what is mixed twice. -/
theorem conv_byte (f0 f1 f2 f3 a0 a1 a2 a3 b0 b1 b2 b3 c0 c1 c2 c3 d0 d1 d2 d3 x0 x1 x2 x3 : UInt8) :
    mul f0 (mul a0 x0 ^^^ mul a1 x1 ^^^ mul a2 x2 ^^^ mul a3 x3) ^^^ mul f1 (mul b0 x0 ^^^ mul b1 x1 ^^^ mul b2 x2 ^^^ mul b3 x3) ^^^ mul f2 (mul c0 x0 ^^^ mul c1 x1 ^^^ mul c2 x2 ^^^ mul c3 x3) ^^^ mul f3 (mul d0 x0 ^^^ mul d1 x1 ^^^ mul d2 x2 ^^^ mul d3 x3)
    = mul (mul f0 a0 ^^^ mul f1 b0 ^^^ mul f2 c0 ^^^ mul f3 d0) x0 ^^^ mul (mul f0 a1 ^^^ mul f1 b1 ^^^ mul f2 c1 ^^^ mul f3 d1) x1 ^^^ mul (mul f0 a2 ^^^ mul f1 b2 ^^^ mul f2 c2 ^^^ mul f3 d2) x2 ^^^ mul (mul f0 a3 ^^^ mul f1 b3 ^^^ mul f2 c3 ^^^ mul f3 d3) x3 := by
  simp only [mul_xl, mul_xr, mul_assoc]
  exact regroup _ _ _ _ _ _ _ _ _ _ _ _ _ _ _ _
theorem mix_mix (f g : Nat → UInt8) (x : UInt32) : mixW f (mixW g x) = mixW (conv f g) x := by
  rw [mixW_bytes f, mixW_bytes g, mixW_bytes (conv f g)]
  simp only [wb0_mk, wb1_mk, wb2_mk, wb3_mk, conv_byte, conv]
  generalize mul (f 0) (g 0) = m00
  generalize mul (f 0) (g 1) = m01
  generalize mul (f 0) (g 2) = m02
  generalize mul (f 0) (g 3) = m03
  generalize mul (f 1) (g 0) = m10
  generalize mul (f 1) (g 1) = m11
  generalize mul (f 1) (g 2) = m12
  generalize mul (f 1) (g 3) = m13
  generalize mul (f 2) (g 0) = m20
  generalize mul (f 2) (g 1) = m21
  generalize mul (f 2) (g 2) = m22
  generalize mul (f 2) (g 3) = m23
  generalize mul (f 3) (g 0) = m30
  generalize mul (f 3) (g 1) = m31
  generalize mul (f 3) (g 2) = m32
  generalize mul (f 3) (g 3) = m33
  generalize wb x 0 = x0
  generalize wb x 1 = x1
  generalize wb x 2 = x2
  generalize wb x 3 = x3
  simp only [x_assoc, x_comm, x_lcomm]
theorem mixW_xor (f : Nat → UInt8) (x y : UInt32) : mixW f (x ^^^ y) = mixW f x ^^^ mixW f y := by
  rw [mixW_bytes f (x ^^^ y), mixW_bytes f x, mixW_bytes f y, mkW_xor]
  simp only [wb_xor, mul_xr]
  congr 1 <;> simp only [x_assoc, x_comm, x_lcomm]
/-- the factors of a column that is mixed. -/
def mxF : Nat → UInt8
  | 0 => 2
  | 1 => 1
  | 2 => 1
  | _ => 3
def mxR : Nat → UInt8
  | 0 => 2
  | 1 => 3
  | 2 => 1
  | _ => 1
def idF : Nat → UInt8
  | 0 => 1
  | _ => 0
theorem mixW_id (x : UInt32) : mixW idF x = x := by
  rw [mixW_bytes]
  simp only [idF, mul_1l, mul_0l, x_zero, zero_x]
  exact mkW_wb x
theorem mx_conv : (conv unF mxF 0 = 1 ∧ conv unF mxF 1 = 0 ∧ conv unF mxF 2 = 0 ∧ conv unF mxF 3 = 0) ∧ (conv mxF unF 0 = 1 ∧ conv mxF unF 1 = 0 ∧ conv mxF unF 2 = 0 ∧ conv mxF unF 3 = 0) ∧ (conv (conv mxF mxF) (conv mxF mxF) 0 = 1 ∧ conv (conv mxF mxF) (conv mxF mxF) 1 = 0 ∧ conv (conv mxF mxF) (conv mxF mxF) 2 = 0 ∧ conv (conv mxF mxF) (conv mxF mxF) 3 = 0) := by decide +kernel
/-- a column that is mixed. -/
def mxW (x : UInt32) : UInt32 := mixW mxF x
theorem mxW_f (x : UInt32) : mixW mxF x = mxW x := rfl
theorem un_mx (x : UInt32) : unmixW (mxW x) = x := by
  rw [← unmix_f]; unfold mxW
  rw [mix_mix, mixW_congr _ idF x mx_conv.1.1 mx_conv.1.2.1 mx_conv.1.2.2.1 mx_conv.1.2.2.2, mixW_id]
theorem mx_un (x : UInt32) : mxW (unmixW x) = x := by
  rw [← unmix_f]; unfold mxW
  rw [mix_mix, mixW_congr _ idF x mx_conv.2.1.1 mx_conv.2.1.2.1 mx_conv.2.1.2.2.1 mx_conv.2.1.2.2.2, mixW_id]
theorem mx_four (x : UInt32) : mxW (mxW (mxW (mxW x))) = x := by
  unfold mxW
  rw [mix_mix mxF mxF (mixW mxF (mixW mxF x)), mix_mix mxF mxF x, mix_mix, mixW_congr _ idF x mx_conv.2.2.1 mx_conv.2.2.2.1 mx_conv.2.2.2.2.1 mx_conv.2.2.2.2.2, mixW_id]
theorem mx_xor (x y : UInt32) : mxW (x ^^^ y) = mxW x ^^^ mxW y := mixW_xor mxF x y
theorem alike_all : ∀ n : Fin 256, mul 2 (UInt8.ofNat n.val) ^^^ mul 3 (UInt8.ofNat n.val) ^^^ mul 1 (UInt8.ofNat n.val) ^^^ mul 1 (UInt8.ofNat n.val) = UInt8.ofNat n.val := by decide +kernel
theorem alike (c : UInt8) : mul 2 c ^^^ mul 3 c ^^^ mul 1 c ^^^ mul 1 c = c := by
  have h := alike_all ⟨c.toNat, c.toNat_lt⟩
  simpa using h
theorem mx_alike (c : UInt8) : mxW (mkW c c c c) = mkW c c c c := by
  have h := alike c
  unfold mxW
  rw [mixW_bytes]
  simp only [mxF, wb0_mk, wb1_mk, wb2_mk, wb3_mk]
  congr 1 <;> refine Eq.trans ?_ h <;> simp only [x_assoc, x_comm, x_lcomm]
theorem mx_r (x : UInt32) : mkW (colTo mxR x 0 4) (colTo mxR x 1 4) (colTo mxR x 2 4) (colTo mxR x 3 4) = mxW x :=
  col_mix mxR mxF x rfl rfl rfl rfl
/-- a block whose columns are mixed; one whose columns are mixed back. -/
def mxS (s : ByteArray) : ByteArray := ofW fun j => mxW (colW s j)
def unS (s : ByteArray) : ByteArray := ofW fun j => unmixW (colW s j)
theorem mxS_size (s : ByteArray) : (mxS s).size = 16 := ofW_size _
theorem unS_size (s : ByteArray) : (unS s).size = 16 := ofW_size _
theorem un_mxS (s : ByteArray) (h : s.size = 16) : unS (mxS s) = s := by
  refine Eq.trans (ofW_ext _ (colW s) fun j hj => ?_) (ofW_colW s h)
  show unmixW (colW (ofW _) j) = _
  rw [colW_ofW _ j hj, un_mx]
theorem mx_unS (s : ByteArray) (h : s.size = 16) : mxS (unS s) = s := by
  refine Eq.trans (ofW_ext _ (colW s) fun j hj => ?_) (ofW_colW s h)
  show mxW (colW (ofW _) j) = _
  rw [colW_ofW _ j hj, mx_un]
theorem mx_fourS (s : ByteArray) (h : s.size = 16) : mxS (mxS (mxS (mxS s))) = s := by
  refine Eq.trans (ofW_ext _ (colW s) fun j hj => ?_) (ofW_colW s h)
  show mxW (colW (ofW _) j) = _
  rw [colW_ofW _ j hj]
  show mxW (mxW (colW (ofW _) j)) = _
  rw [colW_ofW _ j hj]
  show mxW (mxW (mxW (colW (ofW _) j))) = _
  rw [colW_ofW _ j hj, mx_four]
/-- the sum of two texts that are as long as one another. -/
def xorS (a b : ByteArray) : ByteArray := txt (fun i => byteOf a i ^^^ byteOf b i) 16
theorem xorS_size (a b : ByteArray) : (xorS a b).size = 16 := txt_size _ _
theorem xorS_byte (a b : ByteArray) (i : Nat) (h : i < 16) : byteOf (xorS a b) i = byteOf a i ^^^ byteOf b i := txt_byte _ _ _ h
theorem xorOf_S (a b : ByteArray) (ha : a.size = 16) (hb : b.size = 16) : (⟨(xorOf a b).toArray⟩ : ByteArray) = xorS a b := by
  have hla : a.data.toList.length = 16 := by simpa using ha
  have hlb : b.data.toList.length = 16 := by simpa using hb
  unfold xorS txt xorOf
  congr 2
  apply List.ext_getElem?
  intro i
  by_cases hi : i < 16
  · rw [upTo_at _ _ _ hi, List.getElem?_zipWith]
    unfold byteOf
    rw [List.getD_eq_getElem?_getD, List.getD_eq_getElem?_getD, List.getElem?_eq_getElem (by omega), List.getElem?_eq_getElem (by omega)]
    rfl
  · rw [List.getElem?_eq_none (by simp; omega), List.getElem?_eq_none (by rw [upTo_length]; omega)]
theorem shS_xor (a b : ByteArray) (d : Nat) : shS d (xorS a b) = xorS (shS d a) (shS d b) := by
  refine txt_ext _ _ 16 fun i hi => ?_
  show byteOf (xorS a b) (shAt d i) = byteOf (shS d a) i ^^^ byteOf (shS d b) i
  rw [xorS_byte _ _ _ (shAt_lt _ _), shS_byte _ _ _ hi, shS_byte _ _ _ hi]
theorem colW_xor (a b : ByteArray) (j : Nat) (hj : j < 4) : colW (xorS a b) j = colW a j ^^^ colW b j := by
  unfold colW
  apply w_ext <;> rw [wb_xor, wb_getW _ _ _ (by omega), wb_getW _ _ _ (by omega), wb_getW _ _ _ (by omega), xorS_byte _ _ _ (by omega)]
theorem mxS_xor (a b : ByteArray) : mxS (xorS a b) = xorS (mxS a) (mxS b) := by
  refine txt_ext _ _ 16 fun i hi => ?_
  show wb (mxW (colW (xorS a b) (i / 4))) (i % 4) = byteOf (mxS a) i ^^^ byteOf (mxS b) i
  rw [colW_xor _ _ _ (by omega), mx_xor, wb_xor]
  unfold mxS
  rw [ofW_byte _ _ hi, ofW_byte _ _ hi]
end Go.Proofs.YtbgjeipgmlcgaaaDoor
