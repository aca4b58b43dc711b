/- The document's own list of a sheet's numbers, proved by walking its text. Conditions: at most 60 things of a kind. -/
import Derived.Test.YtcmlmfcnbmpajaaDoorRefNames
namespace Go.Proofs.YtcmlmfcnbmpajaaDoor.Sh
open Go.ChangeShapes Go.WideShapes Go.ChangeAt Go.RowKit
open Lx
set_option linter.unusedVariables false
set_option linter.unusedSimpArgs false

theorem own_one1 (w : World) (n : Nat) (e : TypeId) (u : Value) (hu : u.oneCell' = true) (hn : n ≤ w.heap.size) : (w.alloc (.cells #[u] e)).ownsRow n e 1 (.slice (some ⟨w.heap.size, 0, none⟩) 1 1) 1 [u] :=
  ⟨by simp, .inr ⟨w.heap.size, 1, #[u], rfl, hn, heap_alloc_new w _, by omega, by simp [maxLen], by simp, by simp⟩⟩
end Go.Proofs.YtcmlmfcnbmpajaaDoor.Sh

