/- Contract of window.Next. Conditions: rows hold fewer than a million windows. · Contracts of window.Gap and window.Free. Conditions: rows hold fewer than a million windows. · Arguments opened: rows of numbers and of windows, times, as the contracts want them. No conditions. · The contracts in the words of rows that are carried from world to world. Conditions: rows hold fewer than a million windows. · The document's joined of chapter 8, at any row: the row joined, in memory of its own. Conditions: the row holds fewer than a million windows. · The document's Check and Wins of chapter 8 at any times and horizon, each proved by walking its text. Conditions: numbers are int64. · The document's Wins of chapter 8 at any times and horizon, proved by walking its text. Conditions: numbers are int64. -/
import Derived.Test.YtgdanbfglefiiaaGreatBaJ
import Derived.Test.YtgdanbfglefiiaaGreatBaK
import Derived.RangeFuncBox
import Derived.RangeFuncLeaves
import Derived.Shelf.Abstract
import Derived.OwnWalkIn
import Derived.TacticsInMore
import Derived.LoopNIn
import Derived.LoopIn
import Derived.BigRegionIn
import Derived.RangeFuncNested
import Derived.RangeFuncCalls
import Derived.Shelf.RegionOpen
import Derived.Sort.QuietIn
import Derived.StillTail
import Derived.StillTactics
import Derived.Maps.AppendAt
import Derived.Lib.SliceRun
import Derived.IntWalk
import Derived.ChangeSlices
import Derived.Deep.SlicePairs
import Derived.Deep.Strs
import Derived.ChangeArms
import Derived.Carry
import Derived.OpenShut
import Derived.Lib.QuietBelow
import Derived.Deep.QuietTactic
namespace Go.Proofs.YtgdanbfglefiiaaGreat.Wn
open Go.ChangeShapes Go.WideShapes Go.ChangeAt Go.RowKit Go.Shelf
set_option linter.unusedVariables false
set_option linter.unusedSimpArgs false
attribute [local go_sem] Oper.semAt_some
end Go.Proofs.YtgdanbfglefiiaaGreat.Wn
namespace Go.Proofs.YtgdanbfglefiiaaGreat.Wn
open Go.ChangeShapes Go.WideShapes Go.ChangeAt Go.RowKit Go.Shelf
set_option linter.unusedVariables false
set_option linter.unusedSimpArgs false
attribute [local go_sem] Oper.semAt_some
end Go.Proofs.YtgdanbfglefiiaaGreat.Wn
namespace Go.Proofs.YtgdanbfglefiiaaGreat.Wn
open Go.ChangeShapes Go.WideShapes Go.ChangeAt Go.RowKit Go.Deep
set_option linter.unusedVariables false
set_option linter.unusedSimpArgs false
attribute [local go_sem] Oper.semAt_some
end Go.Proofs.YtgdanbfglefiiaaGreat.Wn
namespace Go.Proofs.YtgdanbfglefiiaaGreat.Wn
open Go.ChangeShapes Go.WideShapes Go.ChangeAt Go.RowKit Go.Deep
set_option linter.unusedVariables false
set_option linter.unusedSimpArgs false
attribute [local go_sem] Oper.semAt_some
section
variable {W W' : World} {A B : Option Addr} {n m c d : Nat} {xs ys zs : List Win}
end
end Go.Proofs.YtgdanbfglefiiaaGreat.Wn
namespace Go.Proofs.YtgdanbfglefiiaaGreat.Wn
open Go.ChangeShapes Go.WideShapes Go.ChangeAt Go.RowKit Go.Deep Go.Sort
set_option linter.unusedVariables false
set_option linter.unusedSimpArgs false
attribute [local go_sem] Oper.semAt_some
end Go.Proofs.YtgdanbfglefiiaaGreat.Wn
namespace Go.Proofs.YtgdanbfglefiiaaGreat.Wn
open Go.ChangeShapes Go.WideShapes Go.ChangeAt Go.RowKit Go.Deep Go.Sort
set_option linter.unusedVariables false
set_option linter.unusedSimpArgs false
attribute [local go_sem] Oper.semAt_some
end Go.Proofs.YtgdanbfglefiiaaGreat.Wn
namespace Go.Proofs.YtgdanbfglefiiaaGreat.Wn
open Go.ChangeShapes Go.WideShapes Go.ChangeAt Go.RowKit Go.Deep Go.Sort
set_option linter.unusedVariables false
set_option linter.unusedSimpArgs false
attribute [local go_sem] Oper.semAt_some
end Go.Proofs.YtgdanbfglefiiaaGreat.Wn
