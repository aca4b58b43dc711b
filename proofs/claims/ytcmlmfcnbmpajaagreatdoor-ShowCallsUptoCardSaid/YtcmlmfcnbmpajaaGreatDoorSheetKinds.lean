/- Package sheet's reader: path lines, proved by walking their text. Conditions: a token is to come. · Package sheet's reader: door lines, proved by walking their text. Conditions: a token is to come. · Package sheet's reader: trip lines, proved by walking their text. Conditions: a token is to come. · Package sheet's reader: hazard lines, proved by walking their text. Conditions: a token is to come. -/
import Derived.Test.YtcmlmfcnbmpajaaGreatDoorSheetPut
namespace Go.Proofs.YtcmlmfcnbmpajaaGreatDoor.Sh
open Go.ChangeShapes Go.WideShapes Go.ChangeAt Go.RowKit
open Lx
set_option linter.unusedVariables false
set_option linter.unusedSimpArgs false

end Go.Proofs.YtcmlmfcnbmpajaaGreatDoor.Sh
namespace Go.Proofs.YtcmlmfcnbmpajaaGreatDoor.Sh
open Go.ChangeShapes Go.WideShapes Go.ChangeAt Go.RowKit
open Lx
set_option linter.unusedVariables false
set_option linter.unusedSimpArgs false

end Go.Proofs.YtcmlmfcnbmpajaaGreatDoor.Sh
namespace Go.Proofs.YtcmlmfcnbmpajaaGreatDoor.Sh
open Go.ChangeShapes Go.WideShapes Go.ChangeAt Go.RowKit
open Lx
set_option linter.unusedVariables false
set_option linter.unusedSimpArgs false

end Go.Proofs.YtcmlmfcnbmpajaaGreatDoor.Sh
namespace Go.Proofs.YtcmlmfcnbmpajaaGreatDoor.Sh
open Go.ChangeShapes Go.WideShapes Go.ChangeAt Go.RowKit
open Lx
set_option linter.unusedVariables false
set_option linter.unusedSimpArgs false

end Go.Proofs.YtcmlmfcnbmpajaaGreatDoor.Sh

