/-
  No cell of these rows narrows 'for every input' (looked for: loops, veiled, ifaces, maps, wideKeys, modest, calm, conditions, laid).
  DERIVED. THE GIVEN ROWS OF THIS SEAT. 6 by the template 'for every input the law returns true; each argument reads behind the call as it read before'; 0 by the template 'total and deterministic' (their statements: YtfefnfifeaihhaaGreatTotals.lean).
  GIVEN WITH THE SEED: the statements are not yours to turn. If you find one false, say at which input.
  Laid BY PROGRAM, IN A SANDBOX (cutbox-rows.mjs): the forced cells as the released guide's own fill.sh prints them over the translation 2e4497b9903c57b3… (all of the seat's roots in one cut). By AI agents, Wed Nov 11 2026. No macro, syntax, notation, axiom, sorry.
-/
import Derived.Test.YtfefnfifeaihhaaGreatChecked
import GoSem.Claim
import GoSem.ClaimJoined
import GoSem.ClaimMapViews
import Derived.JoinedTies
import Derived.KernelRfl
namespace Go.Proofs.YtfefnfifeaihhaaGreat
/- THE CELL 'sum', in the pinned program and in every row, IS THE sha256 OF THE DUMP (.gsa) THAT YtfefnfifeaihhaaGreatProg.lean LOADS. Nothing in Lean hashes anything: it is a label: what it is worth is what the hold of that sum in a sandbox is worth. -/
noncomputable def Tryz.pinned : Pinned := { name := "ytfefnfifeaihhaagreat", sum := "2e4497b9903c57b3bd11e410b3cf4fedcb627936ef127f8e834c8c440aa0571b", checked := Tryz.checked }
namespace Rows
def none {H : Type} : Left H := { results := [], args := [] }

/-- 'timetablelaw10.ExpandNames': WHATEVER THE INPUT: true; the input reads as it did. -/
def expandNamesSpec : ChangeSpec := { name := "expandNames", fn := fun _ => fun
  | [] => { results := [.lit (.bool true)], args := [] }
  | _ => none }
def expandNamesRow : OpenClaim := { program := "ytfefnfifeaihhaagreat", sum := "2e4497b9903c57b3bd11e410b3cf4fedcb627936ef127f8e834c8c440aa0571b", func := "timetable/timetablelaw10.ExpandNames", spec := "expandNames", unfollowed := true, recurses := true, apart := false }
def ExpandNamesSaid : Prop := expandNamesRow.holds Tryz.pinned (OpenSpec.ofChange expandNamesSpec)

/-- ITS FALSE NEIGHBOUR: 'it returns false'. Refute it at one input. -/
def expandNamesWrong : ChangeSpec := { name := "expandNames", fn := fun _ => fun
  | [] => { results := [.lit (.bool false)], args := [] }
  | _ => none }
def ExpandNamesWrongFalsely : Prop := expandNamesRow.holds Tryz.pinned (OpenSpec.ofChange expandNamesWrong)

/-- 'timetablelaw10.ExpandCalls': WHATEVER THE INPUT: true; the input reads as it did. -/
def expandCallsSpec : ChangeSpec := { name := "expandCalls", fn := fun _ => fun
  | [d1, d2, d3, d4, d5, d6] => { results := [.lit (.bool true)], args := [d1, d2, d3, d4, d5, d6] }
  | _ => none }
def expandCallsRow : OpenClaim := { program := "ytfefnfifeaihhaagreat", sum := "2e4497b9903c57b3bd11e410b3cf4fedcb627936ef127f8e834c8c440aa0571b", func := "timetable/timetablelaw10.ExpandCalls", spec := "expandCalls", unfollowed := true, recurses := true, apart := false }
def ExpandCallsSaid : Prop := expandCallsRow.holds Tryz.pinned (OpenSpec.ofChange expandCallsSpec)

/-- ITS FALSE NEIGHBOUR: 'it returns false'. Refute it at one input. -/
def expandCallsWrong : ChangeSpec := { name := "expandCalls", fn := fun _ => fun
  | [d1, d2, d3, d4, d5, d6] => { results := [.lit (.bool false)], args := [d1, d2, d3, d4, d5, d6] }
  | _ => none }
def ExpandCallsWrongFalsely : Prop := expandCallsRow.holds Tryz.pinned (OpenSpec.ofChange expandCallsWrong)

/-- 'timetablelaw10.ExpandMoves': WHATEVER THE INPUT: true; the input reads as it did. -/
def expandMovesSpec : ChangeSpec := { name := "expandMoves", fn := fun _ => fun
  | [d1, d2] => { results := [.lit (.bool true)], args := [d1, d2] }
  | _ => none }
def expandMovesRow : OpenClaim := { program := "ytfefnfifeaihhaagreat", sum := "2e4497b9903c57b3bd11e410b3cf4fedcb627936ef127f8e834c8c440aa0571b", func := "timetable/timetablelaw10.ExpandMoves", spec := "expandMoves", unfollowed := true, recurses := true, apart := false }
def ExpandMovesSaid : Prop := expandMovesRow.holds Tryz.pinned (OpenSpec.ofChange expandMovesSpec)

/-- ITS FALSE NEIGHBOUR: 'it returns false'. Refute it at one input. -/
def expandMovesWrong : ChangeSpec := { name := "expandMoves", fn := fun _ => fun
  | [d1, d2] => { results := [.lit (.bool false)], args := [d1, d2] }
  | _ => none }
def ExpandMovesWrongFalsely : Prop := expandMovesRow.holds Tryz.pinned (OpenSpec.ofChange expandMovesWrong)

/-- 'timetablelaw10.ExpandLater': WHATEVER THE INPUT: true; the input reads as it did. -/
def expandLaterSpec : ChangeSpec := { name := "expandLater", fn := fun _ => fun
  | [d1, d2, d3, d4] => { results := [.lit (.bool true)], args := [d1, d2, d3, d4] }
  | _ => none }
def expandLaterRow : OpenClaim := { program := "ytfefnfifeaihhaagreat", sum := "2e4497b9903c57b3bd11e410b3cf4fedcb627936ef127f8e834c8c440aa0571b", func := "timetable/timetablelaw10.ExpandLater", spec := "expandLater", unfollowed := true, recurses := true, apart := false }
def ExpandLaterSaid : Prop := expandLaterRow.holds Tryz.pinned (OpenSpec.ofChange expandLaterSpec)

/-- ITS FALSE NEIGHBOUR: 'it returns false'. Refute it at one input. -/
def expandLaterWrong : ChangeSpec := { name := "expandLater", fn := fun _ => fun
  | [d1, d2, d3, d4] => { results := [.lit (.bool false)], args := [d1, d2, d3, d4] }
  | _ => none }
def ExpandLaterWrongFalsely : Prop := expandLaterRow.holds Tryz.pinned (OpenSpec.ofChange expandLaterWrong)

/-- 'timetablelaw10.ExpandFarther': WHATEVER THE INPUT: true; the input reads as it did. -/
def expandFartherSpec : ChangeSpec := { name := "expandFarther", fn := fun _ => fun
  | [d1, d2] => { results := [.lit (.bool true)], args := [d1, d2] }
  | _ => none }
def expandFartherRow : OpenClaim := { program := "ytfefnfifeaihhaagreat", sum := "2e4497b9903c57b3bd11e410b3cf4fedcb627936ef127f8e834c8c440aa0571b", func := "timetable/timetablelaw10.ExpandFarther", spec := "expandFarther", unfollowed := true, recurses := true, apart := false }
def ExpandFartherSaid : Prop := expandFartherRow.holds Tryz.pinned (OpenSpec.ofChange expandFartherSpec)

/-- ITS FALSE NEIGHBOUR: 'it returns false'. Refute it at one input. -/
def expandFartherWrong : ChangeSpec := { name := "expandFarther", fn := fun _ => fun
  | [d1, d2] => { results := [.lit (.bool false)], args := [d1, d2] }
  | _ => none }
def ExpandFartherWrongFalsely : Prop := expandFartherRow.holds Tryz.pinned (OpenSpec.ofChange expandFartherWrong)

/-- 'timetablelaw10.ExpandHalves': WHATEVER THE INPUT: true; the input reads as it did. -/
def expandHalvesSpec : ChangeSpec := { name := "expandHalves", fn := fun _ => fun
  | [d1, d2] => { results := [.lit (.bool true)], args := [d1, d2] }
  | _ => none }
def expandHalvesRow : OpenClaim := { program := "ytfefnfifeaihhaagreat", sum := "2e4497b9903c57b3bd11e410b3cf4fedcb627936ef127f8e834c8c440aa0571b", func := "timetable/timetablelaw10.ExpandHalves", spec := "expandHalves", unfollowed := true, recurses := true, apart := false }
def ExpandHalvesSaid : Prop := expandHalvesRow.holds Tryz.pinned (OpenSpec.ofChange expandHalvesSpec)

/-- ITS FALSE NEIGHBOUR: 'it returns false'. Refute it at one input. -/
def expandHalvesWrong : ChangeSpec := { name := "expandHalves", fn := fun _ => fun
  | [d1, d2] => { results := [.lit (.bool false)], args := [d1, d2] }
  | _ => none }
def ExpandHalvesWrongFalsely : Prop := expandHalvesRow.holds Tryz.pinned (OpenSpec.ofChange expandHalvesWrong)

/- THE SECOND FORM. 'bulk': how many values and letters a reading holds, each counted each time it is reached (what is shared counts as often as it is met; a slice's spare places count too). A statement '..UptoSaid' is the law's where the arguments, and the package variables that the reading takes, are together of bulk at most 1048576: NARROWER than '..Said'. Prove '..Said' where nothing that the law and all that it calls make is longer than what came in: it says more and counts as full. Else prove '..UptoSaid'. A law counts once. -/
mutual
def uptoBulk {H : Type} : DataW H → Nat
  | .lit (.string bytes) => bytes.length + 1
  | .lit _ => 1
  | .nil => 1
  | .ptr d => uptoBulk d + 1
  | .slice elems spare => uptoBulkAll elems + uptoBulkAll spare + 1
  | .agg parts => uptoBulkAll parts + 1
  | .iface _ d => uptoBulk d + 1
  | .map entries => uptoBulkEntries entries + 1
  | .held _ => 1
def uptoBulkAll {H : Type} : List (DataW H) → Nat
  | [] => 0
  | d :: r => uptoBulk d + uptoBulkAll r
def uptoBulkEntries {H : Type} : List (Lit × DataW H) → Nat
  | [] => 0
  | x :: r => uptoBulkEntry x + uptoBulkEntries r
def uptoBulkEntry {H : Type} : Lit × DataW H → Nat
  | (.string bytes, d) => bytes.length + uptoBulk d + 1
  | (_, d) => uptoBulk d + 1
 end
def uptoSmall : (H : Type) → List (DataW H) → Bool := fun _ ds => decide (uptoBulkAll ds ≤ 1048576)
def OpenSpec.upto (s : _root_.Go.ChangeSpec) : _root_.Go.OpenSpec := { _root_.Go.OpenSpec.ofChange s with cond := some uptoSmall }

/-- 'timetablelaw10.ExpandNames', WHERE WHAT IT READS IS OF BULK AT MOST 1048576: true; the input reads as it did. -/
def expandNamesUptoRow : OpenClaim := { program := "ytfefnfifeaihhaagreat", sum := "2e4497b9903c57b3bd11e410b3cf4fedcb627936ef127f8e834c8c440aa0571b", func := "timetable/timetablelaw10.ExpandNames", spec := "expandNames", unfollowed := true, recurses := true, apart := false, narrowed := true }
def ExpandNamesUptoSaid : Prop := expandNamesUptoRow.holds Tryz.pinned (OpenSpec.upto expandNamesSpec)

/-- 'timetablelaw10.ExpandCalls', WHERE WHAT IT READS IS OF BULK AT MOST 1048576: true; the input reads as it did. -/
def expandCallsUptoRow : OpenClaim := { program := "ytfefnfifeaihhaagreat", sum := "2e4497b9903c57b3bd11e410b3cf4fedcb627936ef127f8e834c8c440aa0571b", func := "timetable/timetablelaw10.ExpandCalls", spec := "expandCalls", unfollowed := true, recurses := true, apart := false, narrowed := true }
def ExpandCallsUptoSaid : Prop := expandCallsUptoRow.holds Tryz.pinned (OpenSpec.upto expandCallsSpec)

/-- 'timetablelaw10.ExpandMoves', WHERE WHAT IT READS IS OF BULK AT MOST 1048576: true; the input reads as it did. -/
def expandMovesUptoRow : OpenClaim := { program := "ytfefnfifeaihhaagreat", sum := "2e4497b9903c57b3bd11e410b3cf4fedcb627936ef127f8e834c8c440aa0571b", func := "timetable/timetablelaw10.ExpandMoves", spec := "expandMoves", unfollowed := true, recurses := true, apart := false, narrowed := true }
def ExpandMovesUptoSaid : Prop := expandMovesUptoRow.holds Tryz.pinned (OpenSpec.upto expandMovesSpec)

/-- 'timetablelaw10.ExpandLater', WHERE WHAT IT READS IS OF BULK AT MOST 1048576: true; the input reads as it did. -/
def expandLaterUptoRow : OpenClaim := { program := "ytfefnfifeaihhaagreat", sum := "2e4497b9903c57b3bd11e410b3cf4fedcb627936ef127f8e834c8c440aa0571b", func := "timetable/timetablelaw10.ExpandLater", spec := "expandLater", unfollowed := true, recurses := true, apart := false, narrowed := true }
def ExpandLaterUptoSaid : Prop := expandLaterUptoRow.holds Tryz.pinned (OpenSpec.upto expandLaterSpec)

/-- 'timetablelaw10.ExpandFarther', WHERE WHAT IT READS IS OF BULK AT MOST 1048576: true; the input reads as it did. -/
def expandFartherUptoRow : OpenClaim := { program := "ytfefnfifeaihhaagreat", sum := "2e4497b9903c57b3bd11e410b3cf4fedcb627936ef127f8e834c8c440aa0571b", func := "timetable/timetablelaw10.ExpandFarther", spec := "expandFarther", unfollowed := true, recurses := true, apart := false, narrowed := true }
def ExpandFartherUptoSaid : Prop := expandFartherUptoRow.holds Tryz.pinned (OpenSpec.upto expandFartherSpec)

/-- 'timetablelaw10.ExpandHalves', WHERE WHAT IT READS IS OF BULK AT MOST 1048576: true; the input reads as it did. -/
def expandHalvesUptoRow : OpenClaim := { program := "ytfefnfifeaihhaagreat", sum := "2e4497b9903c57b3bd11e410b3cf4fedcb627936ef127f8e834c8c440aa0571b", func := "timetable/timetablelaw10.ExpandHalves", spec := "expandHalves", unfollowed := true, recurses := true, apart := false, narrowed := true }
def ExpandHalvesUptoSaid : Prop := expandHalvesUptoRow.holds Tryz.pinned (OpenSpec.upto expandHalvesSpec)

end Rows
end Go.Proofs.YtfefnfifeaihhaaGreat
