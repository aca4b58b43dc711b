/- Package intern's calls: what each answers of a table as it lies, and what it changes; proved by walking their texts, and by the library's contracts. Conditions: the table lies as TabAt says; a name has at most as many bytes as a string can have. -/
import Derived.Test.YtceamidobdfhbaaInClonesWalk
import Derived.Sort.Walk0
import Derived.Laws.Cover1
import Derived.Test.YtceamidobdfhbaaShelf
import Derived.Carry
namespace Go.Proofs.Ytceamidobdfhbaa.It
open Go.ChangeShapes Go.WideShapes Go.ChangeAt Go.RowKit Go.Maps
open Lx Sh
set_option linter.unusedVariables false
set_option linter.unusedSimpArgs false

theorem srt_mem {L : List Nm} {y : Nm} : y ∈ srt L ↔ y ∈ L := (List.mergeSort_perm L leB).mem_iff
theorem srt_less {L : List Nm} (h : L.Nodup) {p : Nat} {y z : Nm} (hy : (srt L)[p + 1]? = some y) (hz : (srt L)[p]? = some z) : Op.bytesLess z y = true := by
  have hn : (srt L).Nodup := (List.mergeSort_perm L leB).nodup_iff.2 h
  have hp : (srt L).Pairwise (fun a b => leB a b = true) := List.pairwise_mergeSort le_tr le_tot L
  obtain ⟨h1, e1⟩ := List.getElem?_eq_some_iff.1 hy
  obtain ⟨h0, e0⟩ := List.getElem?_eq_some_iff.1 hz
  have a := List.pairwise_iff_getElem.1 hp p (p + 1) h0 h1 (Nat.lt_succ_self p)
  have b := List.pairwise_iff_getElem.1 hn p (p + 1) h0 h1 (Nat.lt_succ_self p)
  rw [e0, e1] at a b
  simp only [leB, decide_eq_true_eq] at a
  rw [bytesLess_eq, decide_eq_true_eq]
  exact List.not_le.1 (fun k => b (List.le_antisymm a k))
theorem num_at {w : World} {X : Nat → Prop} {T : Nat} {L : List Nm} (h : TabAt w X T L) (x : Nm) (hx : x ∈ L) :
    Calls Try.prog 11 #[.pointer (some ⟨T, 0, none⟩), .string ⟨x.toArray⟩] w fun e w' => ∃ i : Nat, e = .returned (.tuple #[.int .i64 (i : Nat), .bool true]) ∧ Hid (Below w.heap.size w w') := by
  have hl : x.length ≤ maxLen := by
    have := name_short (h.good.2.1 x hx)
    have := maxLen_big
    omega
  refine (num_b h x hl).mono ?_
  rintro e w' ⟨i, rfl, hb⟩
  exact ⟨i, by rw [decide_eq_true hx], hb⟩
end Go.Proofs.Ytceamidobdfhbaa.It
