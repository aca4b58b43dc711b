/- The document's own answers on names and ticks, proved by walking their texts. No conditions. -/
import Derived.Test.YtcmlmfcnbmpajaaDoorSheetItems
namespace Go.Proofs.YtcmlmfcnbmpajaaDoor.Sh
open Go.ChangeShapes Go.WideShapes Go.ChangeAt Go.RowKit
open Lx
set_option linter.unusedVariables false
set_option linter.unusedSimpArgs false

theorem kind5 (c : UInt8) : (kindOf c == 5) = (decide (97 ≤ c.toNat) && decide (c.toNat ≤ 122)) := by
  rw [Bool.eq_iff_iff]
  simp only [beq_iff_eq, Bool.and_eq_true, decide_eq_true_eq]
  unfold kindOf
  split
  · omega
  · split
    · omega
    · split
      · omega
      · split
        · omega
        · split
          · omega
          · split <;> omega
theorem kind6 (c : UInt8) : (kindOf c == 6) = (decide (48 ≤ c.toNat) && decide (c.toNat ≤ 57)) := by
  rw [Bool.eq_iff_iff]
  simp only [beq_iff_eq, Bool.and_eq_true, decide_eq_true_eq]
  unfold kindOf
  split
  · omega
  · split
    · omega
    · split
      · omega
      · split
        · omega
        · split
          · omega
          · split <;> omega
theorem kind7 (c : UInt8) : (kindOf c == 7) = (decide (c.toNat = 45) || decide (c.toNat = 95)) := by
  rw [Bool.eq_iff_iff]
  simp only [beq_iff_eq, Bool.or_eq_true, decide_eq_true_eq]
  unfold kindOf
  split
  · omega
  · split
    · omega
    · split
      · omega
      · split
        · omega
        · split
          · omega
          · split <;> omega
theorem byte_at (s : ByteArray) (i : Nat) (h : i < s.size) : s.data.toList[i]? = some s[i] := by
  have h' : i < s.data.toList.length := by rw [← Lib.size_eq s]; exact h
  rw [List.getElem?_eq_getElem h']
  simp [ByteArray.getElem_eq_getElem_data]
/-- is it a word? -/
def wordB (l : List UInt8) : Bool := decide (l.length ≤ 24) && (nextK l == 5 && l.all isMore)
def litsR : List (List UInt8) := reservedL
theorem reservedR_some (s : ByteArray) (i : Nat) (r : List UInt8) (hr : reservedL[i]? = some r) (h : (r == s.toList) = true) : isRes s.data.toList = true := by
  rw [ByteArray.toList_eq, beq_iff_eq] at h
  unfold isRes
  rw [List.contains_eq_mem, ← h]
  simp [List.mem_of_getElem? hr]
end Go.Proofs.YtcmlmfcnbmpajaaDoor.Sh

