/-
  Three locks that are known, step by step. No program.
-/
import Derived.Test.YtipcgdhjlpjcaaaDoorLockM
set_option linter.unusedVariables false
namespace Go.Proofs.YtipcgdhjlpjcaaaDoor
open Go Go.RowKit

def knB : ByteArray := ⟨#[0, 17, 34, 51, 68, 85, 102, 119, 136, 153, 170, 187, 204, 221, 238, 255]⟩
def kn0 : ByteArray := ⟨#[]⟩
def knK4 : ByteArray := ⟨#[0, 1, 2, 3, 4, 5, 6, 7, 8, 9, 10, 11, 12, 13, 14, 15]⟩
def knW4 : List UInt32 := [66051, 67438087, 134810123, 202182159, 3601495293, 3534713594, 3668343025, 3601561342, 3063074571, 1681767921, 3197879552, 1748022270, 3070194766, 3535980991, 1817775295, 74039105, 1207433148, 2503294467, 4184617660, 4244999677, 1017816040, 2845810155, 1358147415, 2918589098, 1580797821, 4154888854, 2807381441, 178462571, 351891482, 3814711948, 1141563213, 1319747622, 1195607861, 2753324473, 3759586036, 2931784402, 1419326161, 4035270504, 278130076, 3190593358, 319888767, 3818146327, 4077365131, 1294676165]
def knS4 : List ByteArray := [(⟨#[0, 16, 32, 48, 64, 80, 96, 112, 128, 144, 160, 176, 192, 208, 224, 240]⟩ : ByteArray), (⟨#[137, 216, 16, 232, 133, 90, 206, 104, 45, 24, 67, 216, 203, 18, 143, 228]⟩ : ByteArray), (⟨#[73, 21, 89, 143, 85, 229, 215, 160, 218, 202, 148, 250, 31, 10, 99, 247]⟩ : ByteArray), (⟨#[250, 99, 106, 40, 37, 179, 57, 201, 64, 102, 138, 49, 87, 36, 77, 23]⟩ : ByteArray), (⟨#[36, 114, 64, 35, 105, 102, 179, 250, 110, 210, 117, 50, 136, 66, 91, 108]⟩ : ByteArray), (⟨#[200, 22, 119, 188, 155, 122, 201, 59, 37, 2, 121, 146, 176, 38, 25, 150]⟩ : ByteArray), (⟨#[198, 47, 225, 9, 247, 94, 237, 195, 204, 121, 57, 93, 132, 249, 207, 93]⟩ : ByteArray), (⟨#[209, 135, 108, 15, 121, 196, 48, 10, 180, 85, 148, 173, 214, 111, 244, 31]⟩ : ByteArray), (⟨#[253, 227, 186, 210, 5, 229, 208, 215, 53, 71, 150, 78, 241, 254, 55, 241]⟩ : ByteArray), (⟨#[189, 110, 124, 61, 242, 181, 119, 158, 11, 97, 33, 110, 139, 16, 182, 137]⟩ : ByteArray), (⟨#[105, 196, 224, 216, 106, 123, 4, 48, 216, 205, 183, 128, 112, 180, 197, 90]⟩ : ByteArray)]
def knX4 : ByteArray := ⟨#[105, 196, 224, 216, 106, 123, 4, 48, 216, 205, 183, 128, 112, 180, 197, 90]⟩
theorem knW4_lo : ∀ i : Fin 4, getW knK4 (4 * i.val) = knW4.getD i.val 0 := by decide +kernel
theorem knW4_hi : ∀ i : Fin 40, knW4.getD (i.val + 4) 0 = knW4.getD i.val 0 ^^^ growW 4 (i.val + 4) (knW4.getD (i.val + 3) 0) := by decide +kernel
theorem knW4_ew : ∀ i, i < 44 → ew knK4 4 i = knW4.getD i 0 := by
  intro i
  induction i using Nat.strongRecOn with
  | ind i ih =>
    intro hi
    by_cases h : i < 4
    · rw [ew_lo _ _ _ h]; exact knW4_lo ⟨i, h⟩
    · have h2 := knW4_hi ⟨i - 4, by omega⟩
      simp only at h2
      rw [show i - 4 + 4 = i by omega, show i - 4 + 3 = i - 1 by omega] at h2
      rw [ew_hi _ _ _ (by omega) (by omega), ih (i - 4) (by omega) (by omega), ih (i - 1) (by omega) (by omega), h2]
def knR4 (i : Nat) : ByteArray := ofW fun j => knW4.getD (4 * i + j) 0
theorem knR4_is (i : Nat) (hi : i ≤ 10) : rkS knK4 4 i = knR4 i := ofW_ext _ _ fun j hj => knW4_ew _ (by omega)
theorem knS4_0 : (xorS knB (knR4 0)).data.toList = (knS4.getD 0 kn0).data.toList := by decide +kernel
theorem knS4_up : ∀ i : Fin 10, (xorS (midS 10 (i.val + 1) (rdS (knS4.getD i.val kn0))) (knR4 (i.val + 1))).data.toList = (knS4.getD (i.val + 1) kn0).data.toList := by decide +kernel
theorem knS4_is : ∀ i, i ≤ 10 → stepS (rkS knK4 4) 10 knB i = knS4.getD i kn0
  | 0, _ => by
    rw [stepS, knR4_is 0 (by omega)]
    exact ByteArray.ext (Array.ext' knS4_0)
  | i + 1, h => by
    rw [stepS, knS4_is i (by omega), knR4_is (i + 1) h]
    exact ByteArray.ext (Array.ext' (knS4_up ⟨i, by omega⟩))
theorem known4 : lockT knK4 knB = knX4 := by
  rw [lockT_yes _ _ (by unfold kOk; exact .inl rfl) rfl]
  exact knS4_is 10 (Nat.le_refl _)
theorem known4_back : unlockT knK4 knX4 = knB := by
  have hk : kOk knK4 := by unfold kOk; exact .inl rfl
  have h := known4
  rw [lockT_yes _ _ hk rfl] at h
  rw [unlockT_yes _ _ hk rfl, ← h]
  exact unlock_lock _ _ knB rfl
def knK6 : ByteArray := ⟨#[0, 1, 2, 3, 4, 5, 6, 7, 8, 9, 10, 11, 12, 13, 14, 15, 16, 17, 18, 19, 20, 21, 22, 23]⟩
def knW6 : List UInt32 := [66051, 67438087, 134810123, 202182159, 269554195, 336926231, 1481044729, 1547957502, 1414201077, 1481109754, 1213653737, 1547957502, 1090079155, 482000205, 1223705528, 280474434, 1491161515, 77768021, 2130687297, 1648691212, 716524468, 973273334, 1659087197, 1715538952, 4110517618, 2537852286, 3186738890, 2280865340, 3843069793, 2203163497, 873823390, 2740056544, 513816362, 2572355862, 2084806263, 4279371038, 3716025992, 2117074792, 1620035650, 4191994196, 2241814307, 2056084029, 3233818962, 3203388986, 3730841208, 666689324, 2720235535, 3635337778, 2761361971, 444128265, 3289956977, 3819183453]
def knS6 : List ByteArray := [(⟨#[0, 16, 32, 48, 64, 80, 96, 112, 128, 144, 160, 176, 192, 208, 224, 240]⟩ : ByteArray), (⟨#[79, 99, 118, 6, 67, 224, 170, 133, 175, 248, 201, 208, 65, 250, 13, 228]⟩ : ByteArray), (⟨#[203, 2, 129, 140, 23, 210, 175, 156, 98, 170, 100, 66, 139, 178, 95, 215]⟩ : ByteArray), (⟨#[247, 92, 119, 120, 163, 39, 200, 237, 140, 254, 191, 193, 166, 195, 127, 83]⟩ : ByteArray), (⟨#[34, 255, 201, 22, 168, 20, 116, 65, 100, 150, 241, 156, 100, 174, 37, 50]⟩ : ByteArray), (⟨#[128, 18, 30, 7, 118, 253, 29, 138, 141, 140, 49, 188, 150, 93, 31, 238]⟩ : ByteArray), (⟨#[103, 30, 241, 253, 78, 42, 30, 3, 223, 220, 177, 239, 61, 120, 155, 48]⟩ : ByteArray), (⟨#[12, 3, 112, 208, 12, 1, 230, 34, 22, 107, 138, 204, 214, 219, 58, 44]⟩ : ByteArray), (⟨#[114, 85, 218, 211, 15, 184, 3, 16, 224, 13, 108, 107, 64, 208, 82, 124]⟩ : ByteArray), (⟨#[169, 6, 178, 84, 150, 138, 244, 233, 180, 189, 178, 210, 240, 196, 67, 54]⟩ : ByteArray), (⟨#[136, 236, 147, 14, 245, 231, 228, 182, 204, 50, 244, 201, 6, 210, 148, 20]⟩ : ByteArray), (⟨#[175, 183, 62, 235, 28, 209, 184, 81, 98, 40, 15, 39, 251, 32, 213, 133]⟩ : ByteArray), (⟨#[221, 169, 124, 164, 134, 76, 223, 224, 110, 175, 112, 160, 236, 13, 113, 145]⟩ : ByteArray)]
def knX6 : ByteArray := ⟨#[221, 169, 124, 164, 134, 76, 223, 224, 110, 175, 112, 160, 236, 13, 113, 145]⟩
theorem knW6_lo : ∀ i : Fin 6, getW knK6 (4 * i.val) = knW6.getD i.val 0 := by decide +kernel
theorem knW6_hi : ∀ i : Fin 46, knW6.getD (i.val + 6) 0 = knW6.getD i.val 0 ^^^ growW 6 (i.val + 6) (knW6.getD (i.val + 5) 0) := by decide +kernel
theorem knW6_ew : ∀ i, i < 52 → ew knK6 6 i = knW6.getD i 0 := by
  intro i
  induction i using Nat.strongRecOn with
  | ind i ih =>
    intro hi
    by_cases h : i < 6
    · rw [ew_lo _ _ _ h]; exact knW6_lo ⟨i, h⟩
    · have h2 := knW6_hi ⟨i - 6, by omega⟩
      simp only at h2
      rw [show i - 6 + 6 = i by omega, show i - 6 + 5 = i - 1 by omega] at h2
      rw [ew_hi _ _ _ (by omega) (by omega), ih (i - 6) (by omega) (by omega), ih (i - 1) (by omega) (by omega), h2]
def knR6 (i : Nat) : ByteArray := ofW fun j => knW6.getD (4 * i + j) 0
theorem knR6_is (i : Nat) (hi : i ≤ 12) : rkS knK6 6 i = knR6 i := ofW_ext _ _ fun j hj => knW6_ew _ (by omega)
theorem knS6_0 : (xorS knB (knR6 0)).data.toList = (knS6.getD 0 kn0).data.toList := by decide +kernel
theorem knS6_up : ∀ i : Fin 12, (xorS (midS 12 (i.val + 1) (rdS (knS6.getD i.val kn0))) (knR6 (i.val + 1))).data.toList = (knS6.getD (i.val + 1) kn0).data.toList := by decide +kernel
theorem knS6_is : ∀ i, i ≤ 12 → stepS (rkS knK6 6) 12 knB i = knS6.getD i kn0
  | 0, _ => by
    rw [stepS, knR6_is 0 (by omega)]
    exact ByteArray.ext (Array.ext' knS6_0)
  | i + 1, h => by
    rw [stepS, knS6_is i (by omega), knR6_is (i + 1) h]
    exact ByteArray.ext (Array.ext' (knS6_up ⟨i, by omega⟩))
theorem known6 : lockT knK6 knB = knX6 := by
  rw [lockT_yes _ _ (by unfold kOk; exact .inr (.inl rfl)) rfl]
  exact knS6_is 12 (Nat.le_refl _)
theorem known6_back : unlockT knK6 knX6 = knB := by
  have hk : kOk knK6 := by unfold kOk; exact .inr (.inl rfl)
  have h := known6
  rw [lockT_yes _ _ hk rfl] at h
  rw [unlockT_yes _ _ hk rfl, ← h]
  exact unlock_lock _ _ knB rfl
def knK8 : ByteArray := ⟨#[0, 1, 2, 3, 4, 5, 6, 7, 8, 9, 10, 11, 12, 13, 14, 15, 16, 17, 18, 19, 20, 21, 22, 23, 24, 25, 26, 27, 28, 29, 30, 31]⟩
def knW8 : List UInt32 := [66051, 67438087, 134810123, 202182159, 269554195, 336926231, 404298267, 471670303, 2775827103, 2708915352, 2843725459, 2775761052, 374450381, 38059738, 442344641, 104905438, 2928140272, 267459432, 2794378747, 66852199, 1843523912, 1873104786, 1979247443, 1941459341, 3327558271, 3383204119, 1864977644, 1825921419, 1038236277, 1380414951, 666869428, 1409797945, 199004255, 3262843208, 2907850148, 3246857263, 1173726816, 397595527, 806178099, 1678410250, 2094003996, 3199532628, 333888496, 3529615327, 4028300030, 3886557561, 3617940554, 3014649408, 625081969, 2616524837, 2282994645, 1517427722, 1314547353, 2851229664, 2119642026, 3455634922, 620526028, 3205069289, 924500540, 1835589174]
def knS8 : List ByteArray := [(⟨#[0, 16, 32, 48, 64, 80, 96, 112, 128, 144, 160, 176, 192, 208, 224, 240]⟩ : ByteArray), (⟨#[79, 99, 118, 6, 67, 224, 170, 133, 239, 167, 33, 50, 1, 164, 231, 5]⟩ : ByteArray), (⟨#[24, 89, 251, 194, 138, 28, 0, 160, 120, 237, 138, 173, 196, 47, 97, 9]⟩ : ByteArray), (⟨#[151, 92, 102, 193, 203, 159, 63, 168, 169, 58, 40, 223, 142, 225, 15, 99]⟩ : ByteArray), (⟨#[28, 5, 242, 113, 164, 23, 224, 79, 249, 33, 197, 193, 4, 112, 21, 84]⟩ : ByteArray), (⟨#[195, 87, 170, 225, 27, 69, 183, 176, 162, 199, 189, 40, 168, 220, 153, 250]⟩ : ByteArray), (⟨#[127, 7, 65, 67, 203, 78, 36, 62, 193, 12, 129, 93, 131, 117, 213, 76]⟩ : ByteArray), (⟨#[214, 83, 164, 105, 108, 160, 188, 15, 90, 202, 171, 93, 185, 108, 94, 125]⟩ : ByteArray), (⟨#[90, 168, 88, 57, 95, 210, 141, 125, 5, 225, 163, 136, 104, 243, 185, 197]⟩ : ByteArray), (⟨#[74, 130, 72, 81, 197, 126, 126, 71, 100, 61, 229, 12, 42, 243, 232, 201]⟩ : ByteArray), (⟨#[193, 73, 7, 246, 202, 59, 58, 160, 112, 233, 170, 49, 59, 82, 181, 236]⟩ : ByteArray), (⟨#[95, 156, 106, 191, 186, 198, 52, 170, 80, 64, 159, 167, 102, 103, 118, 83]⟩ : ByteArray), (⟨#[81, 102, 4, 149, 67, 83, 149, 3, 20, 251, 134, 228, 1, 146, 37, 33]⟩ : ByteArray), (⟨#[98, 123, 206, 185, 153, 157, 90, 170, 201, 69, 236, 244, 35, 245, 109, 165]⟩ : ByteArray), (⟨#[142, 162, 183, 202, 81, 103, 69, 191, 234, 252, 73, 144, 75, 73, 96, 137]⟩ : ByteArray)]
def knX8 : ByteArray := ⟨#[142, 162, 183, 202, 81, 103, 69, 191, 234, 252, 73, 144, 75, 73, 96, 137]⟩
theorem knW8_lo : ∀ i : Fin 8, getW knK8 (4 * i.val) = knW8.getD i.val 0 := by decide +kernel
theorem knW8_hi : ∀ i : Fin 52, knW8.getD (i.val + 8) 0 = knW8.getD i.val 0 ^^^ growW 8 (i.val + 8) (knW8.getD (i.val + 7) 0) := by decide +kernel
theorem knW8_ew : ∀ i, i < 60 → ew knK8 8 i = knW8.getD i 0 := by
  intro i
  induction i using Nat.strongRecOn with
  | ind i ih =>
    intro hi
    by_cases h : i < 8
    · rw [ew_lo _ _ _ h]; exact knW8_lo ⟨i, h⟩
    · have h2 := knW8_hi ⟨i - 8, by omega⟩
      simp only at h2
      rw [show i - 8 + 8 = i by omega, show i - 8 + 7 = i - 1 by omega] at h2
      rw [ew_hi _ _ _ (by omega) (by omega), ih (i - 8) (by omega) (by omega), ih (i - 1) (by omega) (by omega), h2]
def knR8 (i : Nat) : ByteArray := ofW fun j => knW8.getD (4 * i + j) 0
theorem knR8_is (i : Nat) (hi : i ≤ 14) : rkS knK8 8 i = knR8 i := ofW_ext _ _ fun j hj => knW8_ew _ (by omega)
theorem knS8_0 : (xorS knB (knR8 0)).data.toList = (knS8.getD 0 kn0).data.toList := by decide +kernel
theorem knS8_up : ∀ i : Fin 14, (xorS (midS 14 (i.val + 1) (rdS (knS8.getD i.val kn0))) (knR8 (i.val + 1))).data.toList = (knS8.getD (i.val + 1) kn0).data.toList := by decide +kernel
theorem knS8_is : ∀ i, i ≤ 14 → stepS (rkS knK8 8) 14 knB i = knS8.getD i kn0
  | 0, _ => by
    rw [stepS, knR8_is 0 (by omega)]
    exact ByteArray.ext (Array.ext' knS8_0)
  | i + 1, h => by
    rw [stepS, knS8_is i (by omega), knR8_is (i + 1) h]
    exact ByteArray.ext (Array.ext' (knS8_up ⟨i, by omega⟩))
theorem known8 : lockT knK8 knB = knX8 := by
  rw [lockT_yes _ _ (by unfold kOk; exact .inr (.inr rfl)) rfl]
  exact knS8_is 14 (Nat.le_refl _)
theorem known8_back : unlockT knK8 knX8 = knB := by
  have hk : kOk knK8 := by unfold kOk; exact .inr (.inr rfl)
  have h := known8
  rw [lockT_yes _ _ hk rfl] at h
  rw [unlockT_yes _ _ hk rfl, ← h]
  exact unlock_lock _ _ knB rfl
end Go.Proofs.YtipcgdhjlpjcaaaDoor
