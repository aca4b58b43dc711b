/- Arguments opened: how all types of the program are laid out. -/
import Derived.Test.YteonmabfhilcfaaGreatDoorSheetPut
import Derived.ChangeSlices
import Derived.Deep.Strs
import Derived.ChangeArms
import Derived.Carry
namespace Go.Proofs.YteonmabfhilcfaaGreatDoor.Sh
open Go.ChangeShapes Go.WideShapes Go.ChangeAt Go.RowKit Go.Deep
theorem laidOut : laidOutB Tryz.prog = true := by kernel_rfl
end Go.Proofs.YteonmabfhilcfaaGreatDoor.Sh
