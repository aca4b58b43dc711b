/- Package intern's calls: what each answers of a table as it lies, and what it changes; proved by walking their texts, and by the library's contracts. Conditions: the table lies as TabAt says; a name has at most as many bytes as a string can have. -/
import Derived.Test.YtceamidobdfhbaaInLives
import Derived.ChangeSlices
import Derived.Deep.Strs
import Derived.ChangeArms
import Derived.Test.YtceamidobdfhbaaShelf
import Derived.Carry
namespace Go.Proofs.Ytceamidobdfhbaa.It
open Go.ChangeShapes Go.WideShapes Go.ChangeAt Go.RowKit Go.Maps Go.Deep
open Lx Sh
set_option linter.unusedVariables false
set_option linter.unusedSimpArgs false

theorem laidOut : laidOutB Try.prog = true := by kernel_rfl
theorem cellsStr : Try.prog.cellsOf 9 = 1 := by kernel_rfl
theorem view_strs {H : Type} {enc : TypeId × Value → H} {W : World} {fuel : Nat} {a0 : Option Addr} {len cap : Nat} {d : DataW H} {p : List MemPlace}
    (hf : DataW.trod enc Try.prog W 0 (fun _ => true) true fuel 26 (Value.slice a0 len cap).cells.toList = some (d, p)) :
    ∃ Z : List (List UInt8), Hid (len = Z.length) ∧ len ≤ cap ∧ Rd W (· < W.heap.size) a0 (cs strC Z) ∧ ∀ x ∈ Z, x.length ≤ maxLen := by
  rcases open_strs Try.underlying26 Try.underlying9 cellsStr hf with ⟨hcs, hx⟩ | ⟨a, len', cap', m, Sx, hcs, _, hl, hm, hmm, hx, hcell⟩
  · simp [Value.cells] at hcs
    obtain ⟨rfl, rfl, rfl⟩ := hcs
    exact ⟨[], rfl, Nat.le_refl _, Rd.none_, by simp⟩
  · simp [Value.cells] at hcs
    obtain ⟨rfl, rfl, rfl⟩ := hcs
    simp only [if_true] at hmm
    refine ⟨(List.range len).map (fun i => (Sx i).data.toList), (by show _ = _; simp), hl, fun hn => ⟨a, rfl, ?_, fun j u hu => ?_⟩, fun x hx => ?_⟩
    · have h0 : 0 < len := by rw [cs_length strC 1 (fun _ => rfl)] at hn; simpa using hn
      have := World.block_lt_of_cell? W _ (hcell 0 (by omega)).1
      simpa [block_of_add] using this
    · have hj : j < len := by have := (List.getElem?_eq_some_iff.1 hu).1; rw [cs_length strC 1 (fun _ => rfl)] at this; simpa using this
      have e := str_at (L := (List.range len).map (fun i => (Sx i).data.toList)) (j := j) (x := (Sx j).data.toList) (by simp [hj])
      rw [hu] at e
      rw [(hcell j (by omega)).1, Option.some.inj e]
    · obtain ⟨i, hi, rfl⟩ := List.mem_map.1 hx
      have := (hcell i (by simp at hi; omega)).2
      rwa [Lib.size_eq] at this
end Go.Proofs.Ytceamidobdfhbaa.It
