/- Comparing routes that are the same, proved by walking the texts. Conditions: at most a million things. · Comparing sheets that are the same, proved by walking the texts. Conditions: at most a million things. · Comparing sheets that are the same, proved by walking the texts. Conditions: at most a million things. -/
import Derived.Test.YtcmlmfcnbmpajaaDoorSameA
import Derived.Test.YtcmlmfcnbmpajaaDoorEachB
import Derived.Test.YtcmlmfcnbmpajaaDoorSheetCheck
namespace Go.Proofs.YtcmlmfcnbmpajaaDoor.Sh
open Go.ChangeShapes Go.WideShapes Go.ChangeAt Go.RowKit
open Lx
set_option linter.unusedVariables false
set_option linter.unusedSimpArgs false

theorem Blk.new2 (w : World) (o : Obj) (t : TypeId) (l : List Value) : Blk ((w.alloc o).alloc (.cells l.toArray t)) (w.heap.size + 1) t l := by
  have := Blk.new (w.alloc o) t l
  simpa using this

end Go.Proofs.YtcmlmfcnbmpajaaDoor.Sh
namespace Go.Proofs.YtcmlmfcnbmpajaaDoor.Sh
open Go.ChangeShapes Go.WideShapes Go.ChangeAt Go.RowKit
open Lx
set_option linter.unusedVariables false
set_option linter.unusedSimpArgs false

end Go.Proofs.YtcmlmfcnbmpajaaDoor.Sh
namespace Go.Proofs.YtcmlmfcnbmpajaaDoor.Sh
open Go.ChangeShapes Go.WideShapes Go.ChangeAt Go.RowKit
open Lx
set_option linter.unusedVariables false
set_option linter.unusedSimpArgs false

end Go.Proofs.YtcmlmfcnbmpajaaDoor.Sh

