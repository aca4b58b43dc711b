/-
  No cell of these rows narrows 'for every input' (looked for: loops, veiled, ifaces, maps, wideKeys, modest, calm, conditions, laid).
  DERIVED. THE GIVEN ROWS OF THIS SEAT. 6 by the template 'for every input the law returns true; each argument reads behind the call as it read before'; 0 by the template 'total and deterministic' (their statements: YtgdanbfglefiiaaGreatTotals.lean).
  GIVEN WITH THE SEED: the statements are not yours to turn. If you find one false, say at which input.
  Laid BY PROGRAM, IN A SANDBOX (cutbox-rows.mjs): the forced cells as the released guide's own fill.sh prints them over the translation 2893cef9c144c46a… (all of the seat's roots in one cut). By AI agents, Wed Nov 11 2026. No macro, syntax, notation, axiom, sorry.
-/
import Derived.Test.YtgdanbfglefiiaaGreatChecked
import GoSem.Claim
import GoSem.ClaimJoined
import GoSem.ClaimMapViews
import Derived.JoinedTies
import Derived.KernelRfl
namespace Go.Proofs.YtgdanbfglefiiaaGreat
/- THE CELL 'sum', in the pinned program and in every row, IS THE sha256 OF THE DUMP (.gsa) THAT YtgdanbfglefiiaaGreatProg.lean LOADS. Nothing in Lean hashes anything: it is a label: what it is worth is what the hold of that sum in a sandbox is worth. -/
noncomputable def Tryz.pinned : Pinned := { name := "ytgdanbfglefiiaagreat", sum := "2893cef9c144c46a96ebf6ce824533af52b324bebda552851087fb2bf1e46139", checked := Tryz.checked }
namespace Rows
def none {H : Type} : Left H := { results := [], args := [] }

/-- 'timetablelaw09.WorldNames': WHATEVER THE INPUT: true; the input reads as it did. -/
def worldNamesSpec : ChangeSpec := { name := "worldNames", fn := fun _ => fun
  | [] => { results := [.lit (.bool true)], args := [] }
  | _ => none }
def worldNamesRow : OpenClaim := { program := "ytgdanbfglefiiaagreat", sum := "2893cef9c144c46a96ebf6ce824533af52b324bebda552851087fb2bf1e46139", func := "timetable/timetablelaw09.WorldNames", spec := "worldNames", unfollowed := true, recurses := true, apart := false }
def WorldNamesSaid : Prop := worldNamesRow.holds Tryz.pinned (OpenSpec.ofChange worldNamesSpec)

/-- ITS FALSE NEIGHBOUR: 'it returns false'. Refute it at one input. -/
def worldNamesWrong : ChangeSpec := { name := "worldNames", fn := fun _ => fun
  | [] => { results := [.lit (.bool false)], args := [] }
  | _ => none }
def WorldNamesWrongFalsely : Prop := worldNamesRow.holds Tryz.pinned (OpenSpec.ofChange worldNamesWrong)

/-- 'timetablelaw09.WorldCalls': WHATEVER THE INPUT: true; the input reads as it did. -/
def worldCallsSpec : ChangeSpec := { name := "worldCalls", fn := fun _ => fun
  | [d1, d2, d3, d4] => { results := [.lit (.bool true)], args := [d1, d2, d3, d4] }
  | _ => none }
def worldCallsRow : OpenClaim := { program := "ytgdanbfglefiiaagreat", sum := "2893cef9c144c46a96ebf6ce824533af52b324bebda552851087fb2bf1e46139", func := "timetable/timetablelaw09.WorldCalls", spec := "worldCalls", unfollowed := true, recurses := true, apart := false }
def WorldCallsSaid : Prop := worldCallsRow.holds Tryz.pinned (OpenSpec.ofChange worldCallsSpec)

/-- ITS FALSE NEIGHBOUR: 'it returns false'. Refute it at one input. -/
def worldCallsWrong : ChangeSpec := { name := "worldCalls", fn := fun _ => fun
  | [d1, d2, d3, d4] => { results := [.lit (.bool false)], args := [d1, d2, d3, d4] }
  | _ => none }
def WorldCallsWrongFalsely : Prop := worldCallsRow.holds Tryz.pinned (OpenSpec.ofChange worldCallsWrong)

/-- 'timetablelaw09.WorldBack': WHATEVER THE INPUT: true; the input reads as it did. -/
def worldBackSpec : ChangeSpec := { name := "worldBack", fn := fun _ => fun
  | [d] => { results := [.lit (.bool true)], args := [d] }
  | _ => none }
def worldBackRow : OpenClaim := { program := "ytgdanbfglefiiaagreat", sum := "2893cef9c144c46a96ebf6ce824533af52b324bebda552851087fb2bf1e46139", func := "timetable/timetablelaw09.WorldBack", spec := "worldBack", unfollowed := true, recurses := true, apart := false }
def WorldBackSaid : Prop := worldBackRow.holds Tryz.pinned (OpenSpec.ofChange worldBackSpec)

/-- ITS FALSE NEIGHBOUR: 'it returns false'. Refute it at one input. -/
def worldBackWrong : ChangeSpec := { name := "worldBack", fn := fun _ => fun
  | [d] => { results := [.lit (.bool false)], args := [d] }
  | _ => none }
def WorldBackWrongFalsely : Prop := worldBackRow.holds Tryz.pinned (OpenSpec.ofChange worldBackWrong)

/-- 'timetablelaw09.WorldLess': WHATEVER THE INPUT: true; the input reads as it did. -/
def worldLessSpec : ChangeSpec := { name := "worldLess", fn := fun _ => fun
  | [d1, d2, d3] => { results := [.lit (.bool true)], args := [d1, d2, d3] }
  | _ => none }
def worldLessRow : OpenClaim := { program := "ytgdanbfglefiiaagreat", sum := "2893cef9c144c46a96ebf6ce824533af52b324bebda552851087fb2bf1e46139", func := "timetable/timetablelaw09.WorldLess", spec := "worldLess", unfollowed := true, recurses := true, apart := false }
def WorldLessSaid : Prop := worldLessRow.holds Tryz.pinned (OpenSpec.ofChange worldLessSpec)

/-- ITS FALSE NEIGHBOUR: 'it returns false'. Refute it at one input. -/
def worldLessWrong : ChangeSpec := { name := "worldLess", fn := fun _ => fun
  | [d1, d2, d3] => { results := [.lit (.bool false)], args := [d1, d2, d3] }
  | _ => none }
def WorldLessWrongFalsely : Prop := worldLessRow.holds Tryz.pinned (OpenSpec.ofChange worldLessWrong)

/-- 'timetablelaw09.WorldRenames': WHATEVER THE INPUT: true; the input reads as it did. -/
def worldRenamesSpec : ChangeSpec := { name := "worldRenames", fn := fun _ => fun
  | [d] => { results := [.lit (.bool true)], args := [d] }
  | _ => none }
def worldRenamesRow : OpenClaim := { program := "ytgdanbfglefiiaagreat", sum := "2893cef9c144c46a96ebf6ce824533af52b324bebda552851087fb2bf1e46139", func := "timetable/timetablelaw09.WorldRenames", spec := "worldRenames", unfollowed := true, recurses := true, apart := false }
def WorldRenamesSaid : Prop := worldRenamesRow.holds Tryz.pinned (OpenSpec.ofChange worldRenamesSpec)

/-- ITS FALSE NEIGHBOUR: 'it returns false'. Refute it at one input. -/
def worldRenamesWrong : ChangeSpec := { name := "worldRenames", fn := fun _ => fun
  | [d] => { results := [.lit (.bool false)], args := [d] }
  | _ => none }
def WorldRenamesWrongFalsely : Prop := worldRenamesRow.holds Tryz.pinned (OpenSpec.ofChange worldRenamesWrong)

/-- 'timetablelaw09.WorldMore': WHATEVER THE INPUT: true; the input reads as it did. -/
def worldMoreSpec : ChangeSpec := { name := "worldMore", fn := fun _ => fun
  | [d1, d2, d3] => { results := [.lit (.bool true)], args := [d1, d2, d3] }
  | _ => none }
def worldMoreRow : OpenClaim := { program := "ytgdanbfglefiiaagreat", sum := "2893cef9c144c46a96ebf6ce824533af52b324bebda552851087fb2bf1e46139", func := "timetable/timetablelaw09.WorldMore", spec := "worldMore", unfollowed := true, recurses := true, apart := false }
def WorldMoreSaid : Prop := worldMoreRow.holds Tryz.pinned (OpenSpec.ofChange worldMoreSpec)

/-- ITS FALSE NEIGHBOUR: 'it returns false'. Refute it at one input. -/
def worldMoreWrong : ChangeSpec := { name := "worldMore", fn := fun _ => fun
  | [d1, d2, d3] => { results := [.lit (.bool false)], args := [d1, d2, d3] }
  | _ => none }
def WorldMoreWrongFalsely : Prop := worldMoreRow.holds Tryz.pinned (OpenSpec.ofChange worldMoreWrong)

/- THE SECOND FORM. 'bulk': how many values and letters a reading holds, each counted each time it is reached (what is shared counts as often as it is met; a slice's spare places count too). A statement '..UptoSaid' is the law's where the arguments, and the package variables that the reading takes, are together of bulk at most 1048576: NARROWER than '..Said'. Prove '..Said' where nothing that the law and all that it calls make is longer than what came in: it says more and counts as full. Else prove '..UptoSaid'. A law counts once. -/
mutual
def uptoBulk {H : Type} : DataW H → Nat
  | .lit (.string bytes) => bytes.length + 1
  | .lit _ => 1
  | .nil => 1
  | .ptr d => uptoBulk d + 1
  | .slice elems spare => uptoBulkAll elems + uptoBulkAll spare + 1
  | .agg parts => uptoBulkAll parts + 1
  | .iface _ d => uptoBulk d + 1
  | .map entries => uptoBulkEntries entries + 1
  | .held _ => 1
def uptoBulkAll {H : Type} : List (DataW H) → Nat
  | [] => 0
  | d :: r => uptoBulk d + uptoBulkAll r
def uptoBulkEntries {H : Type} : List (Lit × DataW H) → Nat
  | [] => 0
  | x :: r => uptoBulkEntry x + uptoBulkEntries r
def uptoBulkEntry {H : Type} : Lit × DataW H → Nat
  | (.string bytes, d) => bytes.length + uptoBulk d + 1
  | (_, d) => uptoBulk d + 1
 end
def uptoSmall : (H : Type) → List (DataW H) → Bool := fun _ ds => decide (uptoBulkAll ds ≤ 1048576)
def OpenSpec.upto (s : _root_.Go.ChangeSpec) : _root_.Go.OpenSpec := { _root_.Go.OpenSpec.ofChange s with cond := some uptoSmall }

/-- 'timetablelaw09.WorldNames', WHERE WHAT IT READS IS OF BULK AT MOST 1048576: true; the input reads as it did. -/
def worldNamesUptoRow : OpenClaim := { program := "ytgdanbfglefiiaagreat", sum := "2893cef9c144c46a96ebf6ce824533af52b324bebda552851087fb2bf1e46139", func := "timetable/timetablelaw09.WorldNames", spec := "worldNames", unfollowed := true, recurses := true, apart := false, narrowed := true }
def WorldNamesUptoSaid : Prop := worldNamesUptoRow.holds Tryz.pinned (OpenSpec.upto worldNamesSpec)

/-- 'timetablelaw09.WorldCalls', WHERE WHAT IT READS IS OF BULK AT MOST 1048576: true; the input reads as it did. -/
def worldCallsUptoRow : OpenClaim := { program := "ytgdanbfglefiiaagreat", sum := "2893cef9c144c46a96ebf6ce824533af52b324bebda552851087fb2bf1e46139", func := "timetable/timetablelaw09.WorldCalls", spec := "worldCalls", unfollowed := true, recurses := true, apart := false, narrowed := true }
def WorldCallsUptoSaid : Prop := worldCallsUptoRow.holds Tryz.pinned (OpenSpec.upto worldCallsSpec)

/-- 'timetablelaw09.WorldBack', WHERE WHAT IT READS IS OF BULK AT MOST 1048576: true; the input reads as it did. -/
def worldBackUptoRow : OpenClaim := { program := "ytgdanbfglefiiaagreat", sum := "2893cef9c144c46a96ebf6ce824533af52b324bebda552851087fb2bf1e46139", func := "timetable/timetablelaw09.WorldBack", spec := "worldBack", unfollowed := true, recurses := true, apart := false, narrowed := true }
def WorldBackUptoSaid : Prop := worldBackUptoRow.holds Tryz.pinned (OpenSpec.upto worldBackSpec)

/-- 'timetablelaw09.WorldLess', WHERE WHAT IT READS IS OF BULK AT MOST 1048576: true; the input reads as it did. -/
def worldLessUptoRow : OpenClaim := { program := "ytgdanbfglefiiaagreat", sum := "2893cef9c144c46a96ebf6ce824533af52b324bebda552851087fb2bf1e46139", func := "timetable/timetablelaw09.WorldLess", spec := "worldLess", unfollowed := true, recurses := true, apart := false, narrowed := true }
def WorldLessUptoSaid : Prop := worldLessUptoRow.holds Tryz.pinned (OpenSpec.upto worldLessSpec)

/-- 'timetablelaw09.WorldRenames', WHERE WHAT IT READS IS OF BULK AT MOST 1048576: true; the input reads as it did. -/
def worldRenamesUptoRow : OpenClaim := { program := "ytgdanbfglefiiaagreat", sum := "2893cef9c144c46a96ebf6ce824533af52b324bebda552851087fb2bf1e46139", func := "timetable/timetablelaw09.WorldRenames", spec := "worldRenames", unfollowed := true, recurses := true, apart := false, narrowed := true }
def WorldRenamesUptoSaid : Prop := worldRenamesUptoRow.holds Tryz.pinned (OpenSpec.upto worldRenamesSpec)

/-- 'timetablelaw09.WorldMore', WHERE WHAT IT READS IS OF BULK AT MOST 1048576: true; the input reads as it did. -/
def worldMoreUptoRow : OpenClaim := { program := "ytgdanbfglefiiaagreat", sum := "2893cef9c144c46a96ebf6ce824533af52b324bebda552851087fb2bf1e46139", func := "timetable/timetablelaw09.WorldMore", spec := "worldMore", unfollowed := true, recurses := true, apart := false, narrowed := true }
def WorldMoreUptoSaid : Prop := worldMoreUptoRow.holds Tryz.pinned (OpenSpec.upto worldMoreSpec)

end Rows
end Go.Proofs.YtgdanbfglefiiaaGreat
