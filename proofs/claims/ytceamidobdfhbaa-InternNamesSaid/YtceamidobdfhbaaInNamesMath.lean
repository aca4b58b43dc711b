/- Package intern's calls: what each answers of a table as it lies, and what it changes; proved by walking their texts, and by the library's contracts. Conditions: the table lies as TabAt says; a name has at most as many bytes as a string can have. -/
import Derived.Test.YtceamidobdfhbaaInLives
import Derived.Test.YtceamidobdfhbaaShelf
import Derived.Carry
namespace Go.Proofs.Ytceamidobdfhbaa.It
open Go.ChangeShapes Go.WideShapes Go.ChangeAt Go.RowKit Go.Maps
open Lx Sh
set_option linter.unusedVariables false
set_option linter.unusedSimpArgs false

/-! ### the names of the chapter's limit: x, and three letters of a to p -/
def lt16 (a : Nat) : UInt8 := UInt8.ofNat (97 + a % 16)
def nmOf (i : Nat) : Nm := [120, lt16 i, lt16 (i / 16), lt16 (i / 256)]
def nms (k : Nat) : List Nm := (List.range k).map nmOf
theorem lt16_toNat (a : Nat) : (lt16 a).toNat = 97 + a % 16 := by
  unfold lt16
  rw [UInt8.toNat_ofNat']
  omega
theorem lt16_more (a : Nat) : isMore (lt16 a) = true := by
  have h := lt16_toNat a
  unfold isMore kindOf
  rw [h]
  rw [if_neg (by omega), if_neg (by omega), if_neg (by omega), if_pos (by omega)]
  rfl
theorem nmOf_name (i : Nat) : nameB (nmOf i) = true := by
  have h1 : isRes (nmOf i) = false := by
    unfold isRes nmOf reservedL
    simp
  have h3 : isMore 120 = true := by decide
  unfold nameB
  rw [h1]
  unfold nmOf
  simp only [List.all_cons, List.all_nil, lt16_more, h3, nextK]
  rfl
theorem nmOf_inj {i j : Nat} (hi : i < 4096) (hj : j < 4096) (h : nmOf i = nmOf j) : i = j := by
  unfold nmOf at h
  injection h with _ h
  injection h with h1 h
  injection h with h2 h
  injection h with h3 h
  have e1 := congrArg UInt8.toNat h1
  have e2 := congrArg UInt8.toNat h2
  have e3 := congrArg UInt8.toNat h3
  rw [lt16_toNat, lt16_toNat] at e1 e2 e3
  omega
theorem nms_len (k : Nat) : (nms k).length = k := by simp [nms]
theorem nms_at {k i : Nat} (hi : i < k) : (nms k)[i]? = some (nmOf i) := by simp [nms, hi]
theorem nms_succ (k : Nat) : nms (k + 1) = nms k ++ [nmOf k] := by simp [nms, List.range_succ]
theorem nms_add {k : Nat} (hk : k < 4096) : addE (nms k) (nmOf k) = 0 := by
  have hn : nmOf k ∉ nms k := by
    intro h
    obtain ⟨i, hi, e⟩ := List.mem_map.1 h
    have hi' : i < k := by simpa using hi
    have := nmOf_inj (by omega) hk e
    omega
  unfold addE
  rw [nmOf_name, if_neg (by simp), if_neg hn, if_neg (by rw [nms_len]; omega)]
theorem nb_y : nameB [121] = true := by kernel_rfl
theorem nb_A : nameB [65] = false := by kernel_rfl
theorem y_not : ([121] : Nm) ∉ nms 4096 := by
  intro h
  obtain ⟨i, hi, e⟩ := List.mem_map.1 h
  simp [nmOf] at e
theorem y_err : addE (nms 4096) [121] = 3 := by
  unfold addE
  rw [nb_y, if_neg (by simp), if_neg y_not, if_pos (by rw [nms_len]; exact Nat.le_refl _)]
theorem x_in : (nms 4096)[0]? = some [120, 97, 97, 97] := by
  rw [nms_at (by omega)]; rfl
theorem x_err : addE (nms 4096) [120, 97, 97, 97] = 6 := by
  have h := nmOf_name 0
  have e : nmOf 0 = [120, 97, 97, 97] := rfl
  rw [e] at h
  unfold addE
  rw [h, if_neg (by simp), if_pos (List.mem_of_getElem? x_in)]
theorem newE_aa : newE [] [[97], [97]] = 6 := by
  simp [newE, addE, nb1]
theorem newE_A : newE [] [[65]] = 7 := by
  simp [newE, addE, nb_A]
end Go.Proofs.Ytceamidobdfhbaa.It
