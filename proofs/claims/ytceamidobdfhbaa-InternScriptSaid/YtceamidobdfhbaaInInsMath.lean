/- Package intern's calls: what each answers of a table as it lies, and what it changes; proved by walking their texts, and by the library's contracts. Conditions: the table lies as TabAt says; a name has at most as many bytes as a string can have. -/
import Derived.Test.YtceamidobdfhbaaInRef
import Derived.Test.YtceamidobdfhbaaShelf
import Derived.Carry
namespace Go.Proofs.Ytceamidobdfhbaa.It
open Go.ChangeShapes Go.WideShapes Go.ChangeAt Go.RowKit Go.Maps
open Lx Sh
set_option linter.unusedVariables false
set_option linter.unusedSimpArgs false

/-- a name laid into a sorted row at its place -/
theorem ins_srt {O : List Nm} {x : Nm} {k : Nat} (hk : k ≤ O.length) (hO : O.Pairwise (fun a b => leB a b = true)) (h1 : ∀ j z, k ≤ j → O[j]? = some z → leB x z = true) (h2 : ∀ z, 0 < k → O[k - 1]? = some z → leB z x = true) :
    (O.take k ++ [x] ++ O.drop k).Pairwise (fun a b => leB a b = true) := by
  have hlo : ∀ z ∈ O.take k, leB z x = true := by
    intro z hz
    obtain ⟨j, hj, rfl⟩ := List.getElem_of_mem hz
    have hj2 : j < k ∧ j < O.length := by rw [List.length_take] at hj; omega
    rw [List.getElem_take]
    have hk1 : k - 1 < O.length := by omega
    have hl := h2 O[k - 1] (by omega) (List.getElem?_eq_getElem hk1)
    by_cases e : j = k - 1
    · subst e; exact hl
    · exact le_tr _ _ _ (List.pairwise_iff_getElem.1 hO j (k - 1) hj2.2 hk1 (by omega)) hl
  have hhi : ∀ z ∈ O.drop k, leB x z = true := by
    intro z hz
    obtain ⟨j, hj, rfl⟩ := List.getElem_of_mem hz
    have hj2 : k + j < O.length := by rw [List.length_drop] at hj; omega
    rw [List.getElem_drop]
    exact h1 (k + j) _ (by omega) (List.getElem?_eq_getElem hj2)
  rw [List.append_assoc, List.pairwise_append, List.singleton_append, List.pairwise_cons]
  refine ⟨hO.sublist (List.take_sublist _ _), ⟨hhi, hO.sublist (List.drop_sublist _ _)⟩, fun a ha b hb => ?_⟩
  rcases List.mem_cons.1 hb with rfl | hb
  · exact hlo a ha
  · exact le_tr _ _ _ (hlo a ha) (hhi b hb)
theorem ins_perm (O : List Nm) (x : Nm) (k : Nat) : (O.take k ++ [x] ++ O.drop k).Perm (O ++ [x]) := by
  rw [List.append_assoc]
  refine (List.perm_append_comm_assoc _ _ _).trans ?_
  rw [List.take_append_drop]
  exact List.perm_append_comm
/-- a row of as many sorted names as were gone through -/
def Sorting (w wr : World) (l : List Nm) (i : Nat) (v : Value) (O : List Nm) : Prop :=
  wr.ownsRow w.heap.size 9 1 v i (cs strC O) ∧ O.Perm (l.take i) ∧ O.Pairwise (fun a b => leB a b = true) ∧ Below w.heap.size w wr
theorem less_le {x z : Nm} (h : Op.bytesLess z x = false) : leB x z = true := by
  rw [bytesLess_eq, decide_eq_false_iff_not] at h
  simp only [leB, decide_eq_true_eq]
  exact List.not_lt.1 h
theorem le_of_less {x z : Nm} (h : Op.bytesLess z x = true) : leB z x = true := by
  rw [bytesLess_eq, decide_eq_true_eq] at h
  simp only [leB, decide_eq_true_eq]
  exact List.le_of_lt h
theorem gt_cases (z x : Nm) : ((!(Op.bytesLess z x || (z == x))) = true ∧ leB x z = true) ∨ ((!(Op.bytesLess z x || (z == x))) = false ∧ leB z x = true) := by
  cases h : Op.bytesLess z x with
  | true => right; exact ⟨by simp, le_of_less h⟩
  | false =>
    by_cases e : z = x
    · subst e; right; exact ⟨by simp, by simp [leB]⟩
    · left; exact ⟨by simp [e], less_le h⟩
end Go.Proofs.Ytceamidobdfhbaa.It
