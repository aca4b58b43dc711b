/- A row of numbers handed in, opened: what it reads as, and that each number fits its kind. -/
import Derived.Test.YteonmabfhilcfaaGreatDoorSheetViews
import Derived.ProofKit
namespace Go.Proofs.YteonmabfhilcfaaGreatDoor.Sh
open Go.ChangeShapes Go.WideShapes Go.ChangeAt Go.RowKit Go.Deep
open Lx
set_option linter.unusedVariables false
theorem cellsInt : Tryz.prog.cellsOf 3 = 1 := by kernel_rfl
section
variable {H : Type} {enc : TypeId × Value → H} {W : World}
theorem view_row {t e : TypeId} (ht : Tryz.prog.underlying t = some (.slice e)) (he : Tryz.prog.underlying e = some (.int .i64)) (hc : Tryz.prog.cellsOf e = 1) {fuel : Nat} {A : Option Addr} {l c : Nat} {x : DataW H × List MemPlace}
    (h : DataW.trod enc Tryz.prog W 0 (fun _ => true) true fuel t (Value.slice A l c).cells.toList = some x) : ∃ Z : List Int, l = Z.length ∧ l ≤ c ∧ Rd W (· < W.heap.size) A (cs intC Z) ∧ ∀ z ∈ Z, -9223372036854775808 ≤ z ∧ z ≤ 9223372036854775807 := by
  obtain ⟨a0, len, cap, Z, h1, h2, h3, h4, h5⟩ := view_rows intC (fun z => -9223372036854775808 ≤ z ∧ z ≤ 9223372036854775807) ht hc (by omega) (fun _ => rfl) (fun _ _ _ h => by
    obtain ⟨s, rfl, -, hw⟩ := DataW.trod_int he h
    exact ⟨s, rfl, bounds_i64 hw⟩) h
  have e1 : [Value.slice A l c] = [.slice a0 len cap] := h1
  injection e1 with e1 _
  injection e1 with e2 e3 e4
  subst e2 e3 e4
  exact ⟨Z, h2, h3, h4, h5⟩
end
end Go.Proofs.YteonmabfhilcfaaGreatDoor.Sh
