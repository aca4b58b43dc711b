/-
  No cell of these rows narrows 'for every input' (looked for: loops, veiled, ifaces, maps, wideKeys, modest, calm, conditions, laid).
  DERIVED. THE GIVEN ROWS OF THIS SEAT. 4 by the template 'for every input the law returns true; each argument reads behind the call as it read before'; 0 by the template 'total and deterministic' (their statements: YtoijfdcknigikaaTotals.lean).
  GIVEN WITH THE SEED: the statements are not yours to turn. If you find one false, say at which input.
  Laid BY PROGRAM, IN A SANDBOX (cutbox-rows.mjs): the forced cells as the released guide's own fill.sh prints them over the translation b9b23d52b1fdf476… (all of the seat's roots in one cut). By AI agents, Wed Nov 11 2026. No macro, syntax, notation, axiom, sorry.
-/
import Derived.Test.YtoijfdcknigikaaChecked
import GoSem.Claim
import GoSem.ClaimJoined
import GoSem.ClaimMapViews
import Derived.JoinedTies
import Derived.KernelRfl
namespace Go.Proofs.Ytoijfdcknigikaa
/- THE CELL 'sum', in the pinned program and in every row, IS THE sha256 OF THE DUMP (.gsa) THAT YtoijfdcknigikaaProg.lean LOADS. Nothing in Lean hashes anything: it is a label: what it is worth is what the hold of that sum in a sandbox is worth. -/
noncomputable def Try.pinned : Pinned := { name := "ytoijfdcknigikaa", sum := "b9b23d52b1fdf47662f9b6fa8da71371f3c997d8d2f50fb5d421a0a8b3b7f33d", checked := Try.checked }
namespace Rows
def none {H : Type} : Left H := { results := [], args := [] }

/-- 'timetablelaw01.TickAdds': WHATEVER THE INPUT: true; the input reads as it did. -/
def tickAddsSpec : ChangeSpec := { name := "tickAdds", fn := fun _ => fun
  | [d1, d2, d3] => { results := [.lit (.bool true)], args := [d1, d2, d3] }
  | _ => none }
def tickAddsRow : OpenClaim := { program := "ytoijfdcknigikaa", sum := "b9b23d52b1fdf47662f9b6fa8da71371f3c997d8d2f50fb5d421a0a8b3b7f33d", func := "timetable/timetablelaw01.TickAdds", spec := "tickAdds", unfollowed := true, recurses := true, apart := false }
def TickAddsSaid : Prop := tickAddsRow.holds Try.pinned (OpenSpec.ofChange tickAddsSpec)

/-- ITS FALSE NEIGHBOUR: 'it returns false'. Refute it at one input. -/
def tickAddsWrong : ChangeSpec := { name := "tickAdds", fn := fun _ => fun
  | [d1, d2, d3] => { results := [.lit (.bool false)], args := [d1, d2, d3] }
  | _ => none }
def TickAddsWrongFalsely : Prop := tickAddsRow.holds Try.pinned (OpenSpec.ofChange tickAddsWrong)

/-- 'timetablelaw01.TickRows': WHATEVER THE INPUT: true; the input reads as it did. -/
def tickRowsSpec : ChangeSpec := { name := "tickRows", fn := fun _ => fun
  | [d1, d2, d3, d4] => { results := [.lit (.bool true)], args := [d1, d2, d3, d4] }
  | _ => none }
def tickRowsRow : OpenClaim := { program := "ytoijfdcknigikaa", sum := "b9b23d52b1fdf47662f9b6fa8da71371f3c997d8d2f50fb5d421a0a8b3b7f33d", func := "timetable/timetablelaw01.TickRows", spec := "tickRows", unfollowed := true, recurses := true, apart := false }
def TickRowsSaid : Prop := tickRowsRow.holds Try.pinned (OpenSpec.ofChange tickRowsSpec)

/-- ITS FALSE NEIGHBOUR: 'it returns false'. Refute it at one input. -/
def tickRowsWrong : ChangeSpec := { name := "tickRows", fn := fun _ => fun
  | [d1, d2, d3, d4] => { results := [.lit (.bool false)], args := [d1, d2, d3, d4] }
  | _ => none }
def TickRowsWrongFalsely : Prop := tickRowsRow.holds Try.pinned (OpenSpec.ofChange tickRowsWrong)

/-- 'timetablelaw01.TickTimes': WHATEVER THE INPUT: true; the input reads as it did. -/
def tickTimesSpec : ChangeSpec := { name := "tickTimes", fn := fun _ => fun
  | [d1, d2] => { results := [.lit (.bool true)], args := [d1, d2] }
  | _ => none }
def tickTimesRow : OpenClaim := { program := "ytoijfdcknigikaa", sum := "b9b23d52b1fdf47662f9b6fa8da71371f3c997d8d2f50fb5d421a0a8b3b7f33d", func := "timetable/timetablelaw01.TickTimes", spec := "tickTimes", unfollowed := true, recurses := true, apart := false }
def TickTimesSaid : Prop := tickTimesRow.holds Try.pinned (OpenSpec.ofChange tickTimesSpec)

/-- ITS FALSE NEIGHBOUR: 'it returns false'. Refute it at one input. -/
def tickTimesWrong : ChangeSpec := { name := "tickTimes", fn := fun _ => fun
  | [d1, d2] => { results := [.lit (.bool false)], args := [d1, d2] }
  | _ => none }
def TickTimesWrongFalsely : Prop := tickTimesRow.holds Try.pinned (OpenSpec.ofChange tickTimesWrong)

/-- 'timetablelaw01.TickSubs': WHATEVER THE INPUT: true; the input reads as it did. -/
def tickSubsSpec : ChangeSpec := { name := "tickSubs", fn := fun _ => fun
  | [d1, d2] => { results := [.lit (.bool true)], args := [d1, d2] }
  | _ => none }
def tickSubsRow : OpenClaim := { program := "ytoijfdcknigikaa", sum := "b9b23d52b1fdf47662f9b6fa8da71371f3c997d8d2f50fb5d421a0a8b3b7f33d", func := "timetable/timetablelaw01.TickSubs", spec := "tickSubs", unfollowed := true, recurses := true, apart := false }
def TickSubsSaid : Prop := tickSubsRow.holds Try.pinned (OpenSpec.ofChange tickSubsSpec)

/-- ITS FALSE NEIGHBOUR: 'it returns false'. Refute it at one input. -/
def tickSubsWrong : ChangeSpec := { name := "tickSubs", fn := fun _ => fun
  | [d1, d2] => { results := [.lit (.bool false)], args := [d1, d2] }
  | _ => none }
def TickSubsWrongFalsely : Prop := tickSubsRow.holds Try.pinned (OpenSpec.ofChange tickSubsWrong)

/- THE SECOND FORM. 'bulk': how many values and letters a reading holds, each counted each time it is reached (what is shared counts as often as it is met; a slice's spare places count too). A statement '..UptoSaid' is the law's where the arguments, and the package variables that the reading takes, are together of bulk at most 1048576: NARROWER than '..Said'. Prove '..Said' where nothing that the law and all that it calls make is longer than what came in: it says more and counts as full. Else prove '..UptoSaid'. A law counts once. -/
mutual
def uptoBulk {H : Type} : DataW H → Nat
  | .lit (.string bytes) => bytes.length + 1
  | .lit _ => 1
  | .nil => 1
  | .ptr d => uptoBulk d + 1
  | .slice elems spare => uptoBulkAll elems + uptoBulkAll spare + 1
  | .agg parts => uptoBulkAll parts + 1
  | .iface _ d => uptoBulk d + 1
  | .map entries => uptoBulkEntries entries + 1
  | .held _ => 1
def uptoBulkAll {H : Type} : List (DataW H) → Nat
  | [] => 0
  | d :: r => uptoBulk d + uptoBulkAll r
def uptoBulkEntries {H : Type} : List (Lit × DataW H) → Nat
  | [] => 0
  | x :: r => uptoBulkEntry x + uptoBulkEntries r
def uptoBulkEntry {H : Type} : Lit × DataW H → Nat
  | (.string bytes, d) => bytes.length + uptoBulk d + 1
  | (_, d) => uptoBulk d + 1
 end
def uptoSmall : (H : Type) → List (DataW H) → Bool := fun _ ds => decide (uptoBulkAll ds ≤ 1048576)
def OpenSpec.upto (s : _root_.Go.ChangeSpec) : _root_.Go.OpenSpec := { _root_.Go.OpenSpec.ofChange s with cond := some uptoSmall }

/-- 'timetablelaw01.TickAdds', WHERE WHAT IT READS IS OF BULK AT MOST 1048576: true; the input reads as it did. -/
def tickAddsUptoRow : OpenClaim := { program := "ytoijfdcknigikaa", sum := "b9b23d52b1fdf47662f9b6fa8da71371f3c997d8d2f50fb5d421a0a8b3b7f33d", func := "timetable/timetablelaw01.TickAdds", spec := "tickAdds", unfollowed := true, recurses := true, apart := false, narrowed := true }
def TickAddsUptoSaid : Prop := tickAddsUptoRow.holds Try.pinned (OpenSpec.upto tickAddsSpec)

/-- 'timetablelaw01.TickRows', WHERE WHAT IT READS IS OF BULK AT MOST 1048576: true; the input reads as it did. -/
def tickRowsUptoRow : OpenClaim := { program := "ytoijfdcknigikaa", sum := "b9b23d52b1fdf47662f9b6fa8da71371f3c997d8d2f50fb5d421a0a8b3b7f33d", func := "timetable/timetablelaw01.TickRows", spec := "tickRows", unfollowed := true, recurses := true, apart := false, narrowed := true }
def TickRowsUptoSaid : Prop := tickRowsUptoRow.holds Try.pinned (OpenSpec.upto tickRowsSpec)

/-- 'timetablelaw01.TickTimes', WHERE WHAT IT READS IS OF BULK AT MOST 1048576: true; the input reads as it did. -/
def tickTimesUptoRow : OpenClaim := { program := "ytoijfdcknigikaa", sum := "b9b23d52b1fdf47662f9b6fa8da71371f3c997d8d2f50fb5d421a0a8b3b7f33d", func := "timetable/timetablelaw01.TickTimes", spec := "tickTimes", unfollowed := true, recurses := true, apart := false, narrowed := true }
def TickTimesUptoSaid : Prop := tickTimesUptoRow.holds Try.pinned (OpenSpec.upto tickTimesSpec)

/-- 'timetablelaw01.TickSubs', WHERE WHAT IT READS IS OF BULK AT MOST 1048576: true; the input reads as it did. -/
def tickSubsUptoRow : OpenClaim := { program := "ytoijfdcknigikaa", sum := "b9b23d52b1fdf47662f9b6fa8da71371f3c997d8d2f50fb5d421a0a8b3b7f33d", func := "timetable/timetablelaw01.TickSubs", spec := "tickSubs", unfollowed := true, recurses := true, apart := false, narrowed := true }
def TickSubsUptoSaid : Prop := tickSubsUptoRow.holds Try.pinned (OpenSpec.upto tickSubsSpec)

end Rows
end Go.Proofs.Ytoijfdcknigikaa
