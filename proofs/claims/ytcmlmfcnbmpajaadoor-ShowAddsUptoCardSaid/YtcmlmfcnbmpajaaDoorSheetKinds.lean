/- Package sheet's reader: path lines, proved by walking their text. Conditions: a token is to come. · Package sheet's reader: door lines, proved by walking their text. Conditions: a token is to come. · Package sheet's reader: trip lines, proved by walking their text. Conditions: a token is to come. · Package sheet's reader: hazard lines, proved by walking their text. Conditions: a token is to come. -/
import Derived.Test.YtcmlmfcnbmpajaaDoorSheetPut
namespace Go.Proofs.YtcmlmfcnbmpajaaDoor.Sh
open Go.ChangeShapes Go.WideShapes Go.ChangeAt Go.RowKit
open Lx
set_option linter.unusedVariables false
set_option linter.unusedSimpArgs false

end Go.Proofs.YtcmlmfcnbmpajaaDoor.Sh
namespace Go.Proofs.YtcmlmfcnbmpajaaDoor.Sh
open Go.ChangeShapes Go.WideShapes Go.ChangeAt Go.RowKit
open Lx
set_option linter.unusedVariables false
set_option linter.unusedSimpArgs false

end Go.Proofs.YtcmlmfcnbmpajaaDoor.Sh
namespace Go.Proofs.YtcmlmfcnbmpajaaDoor.Sh
open Go.ChangeShapes Go.WideShapes Go.ChangeAt Go.RowKit
open Lx
set_option linter.unusedVariables false
set_option linter.unusedSimpArgs false

end Go.Proofs.YtcmlmfcnbmpajaaDoor.Sh
namespace Go.Proofs.YtcmlmfcnbmpajaaDoor.Sh
open Go.ChangeShapes Go.WideShapes Go.ChangeAt Go.RowKit
open Lx
set_option linter.unusedVariables false
set_option linter.unusedSimpArgs false

end Go.Proofs.YtcmlmfcnbmpajaaDoor.Sh

