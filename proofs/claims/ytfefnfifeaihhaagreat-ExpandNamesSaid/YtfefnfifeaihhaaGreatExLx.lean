/- The law ExpandLater's great test (47 operations), taken out of the translation by a function: its order in the text is one that its edges allow. A closed fact. -/
import Derived.Test.YtfefnfifeaihhaaGreatExH
namespace Go.Proofs.YtfefnfifeaihhaaGreat.Wo
/-- the operations of region k -/
def opsAt (k : Nat) : Code → Option (Array Oper)
  | .region i ops _ => if i = k then some ops else none
  | .seq a b => match opsAt k a with
    | some c => some c
    | none => opsAt k b
  | .block _ c => opsAt k c
  | .loop c => opsAt k c
  | .scope c => opsAt k c
  | .cond _ a b => match opsAt k a with
    | some c => some c
    | none => opsAt k b
  | _ => none
noncomputable def opsL : Array Oper := (Tryz.f6.body.bind (opsAt 20)).getD #[]
theorem lexL : Region.lexB .any opsL = true := by kernel_rfl
theorem mixed : Tryz.prog.follows .mixedOrders = true := by kernel_rfl
end Go.Proofs.YtfefnfifeaihhaaGreat.Wo
