/- The document's Good: its great test (45 operations), taken out of the translation by a function: its order in the text is one that its edges allow. A closed fact, in a text of its own for its memory. -/
import Derived.Test.YtmfocopokadloaaWinSmall
namespace Go.Proofs.Ytmfocopokadloaa.Wn
open Go.ChangeShapes Go.WideShapes Go.ChangeAt Go.RowKit
/-- the operations of region k -/
def opsOf (k : Nat) : Code → Option (Array Oper)
  | .region i ops _ => if i = k then some ops else none
  | .seq a b => match opsOf k a with
    | some c => some c
    | none => opsOf k b
  | .block _ c => opsOf k c
  | .loop c => opsOf k c
  | .scope c => opsOf k c
  | .cond _ a b => match opsOf k a with
    | some c => some c
    | none => opsOf k b
  | _ => none
noncomputable def opsG : Array Oper := (Try.f13.body.bind (opsOf 4)).getD #[]
theorem lexG : Region.lexB .any opsG = true := by kernel_rfl
theorem mixed : Try.prog.follows .mixedOrders = true := by kernel_rfl
end Go.Proofs.Ytmfocopokadloaa.Wn
