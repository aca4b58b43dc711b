/-
  No cell of these rows narrows 'for every input' (looked for: loops, veiled, ifaces, maps, wideKeys, modest, calm, conditions, laid).
  DERIVED. THE GIVEN ROWS OF THIS SEAT. 6 by the template 'for every input the law returns true; each argument reads behind the call as it read before'; 0 by the template 'total and deterministic' (their statements: YtceamidobdfhbaaTotals.lean).
  GIVEN WITH THE SEED: the statements are not yours to turn. If you find one false, say at which input.
  Laid BY PROGRAM, IN A SANDBOX (cutbox-rows.mjs): the forced cells as the released guide's own fill.sh prints them over the translation 600b14f0c8b20947… (all of the seat's roots in one cut). By AI agents, Wed Nov 11 2026. No macro, syntax, notation, axiom, sorry.
-/
import Derived.Test.YtceamidobdfhbaaChecked
import GoSem.Claim
import GoSem.ClaimJoined
import GoSem.ClaimMapViews
import Derived.JoinedTies
import Derived.KernelRfl
namespace Go.Proofs.Ytceamidobdfhbaa
/- THE CELL 'sum', in the pinned program and in every row, IS THE sha256 OF THE DUMP (.gsa) THAT YtceamidobdfhbaaProg.lean LOADS. Nothing in Lean hashes anything: it is a label: what it is worth is what the hold of that sum in a sandbox is worth. -/
noncomputable def Try.pinned : Pinned := { name := "ytceamidobdfhbaa", sum := "600b14f0c8b209476df8434fc3d4836f484a20c842abb5a61589197e2a43a168", checked := Try.checked }
namespace Rows
def none {H : Type} : Left H := { results := [], args := [] }

/-- 'timetablelaw07.InternNames': WHATEVER THE INPUT: true; the input reads as it did. -/
def internNamesSpec : ChangeSpec := { name := "internNames", fn := fun _ => fun
  | [] => { results := [.lit (.bool true)], args := [] }
  | _ => none }
def internNamesRow : OpenClaim := { program := "ytceamidobdfhbaa", sum := "600b14f0c8b209476df8434fc3d4836f484a20c842abb5a61589197e2a43a168", func := "timetable/timetablelaw07.InternNames", spec := "internNames", unfollowed := true, recurses := true, apart := false }
def InternNamesSaid : Prop := internNamesRow.holds Try.pinned (OpenSpec.ofChange internNamesSpec)

/-- ITS FALSE NEIGHBOUR: 'it returns false'. Refute it at one input. -/
def internNamesWrong : ChangeSpec := { name := "internNames", fn := fun _ => fun
  | [] => { results := [.lit (.bool false)], args := [] }
  | _ => none }
def InternNamesWrongFalsely : Prop := internNamesRow.holds Try.pinned (OpenSpec.ofChange internNamesWrong)

/-- 'timetablelaw07.InternScript': WHATEVER THE INPUT: true; the input reads as it did. -/
def internScriptSpec : ChangeSpec := { name := "internScript", fn := fun _ => fun
  | [d1, d2, d3] => { results := [.lit (.bool true)], args := [d1, d2, d3] }
  | _ => none }
def internScriptRow : OpenClaim := { program := "ytceamidobdfhbaa", sum := "600b14f0c8b209476df8434fc3d4836f484a20c842abb5a61589197e2a43a168", func := "timetable/timetablelaw07.InternScript", spec := "internScript", inPlace := ["maps.clone"], unfollowed := true, recurses := true, apart := false }
def InternScriptSaid : Prop := internScriptRow.holds Try.pinned (OpenSpec.ofChange internScriptSpec)

/-- ITS FALSE NEIGHBOUR: 'it returns false'. Refute it at one input. -/
def internScriptWrong : ChangeSpec := { name := "internScript", fn := fun _ => fun
  | [d1, d2, d3] => { results := [.lit (.bool false)], args := [d1, d2, d3] }
  | _ => none }
def InternScriptWrongFalsely : Prop := internScriptRow.holds Try.pinned (OpenSpec.ofChange internScriptWrong)

/-- 'timetablelaw07.InternNil': WHATEVER THE INPUT: true; the input reads as it did. -/
def internNilSpec : ChangeSpec := { name := "internNil", fn := fun _ => fun
  | [d1, d2] => { results := [.lit (.bool true)], args := [d1, d2] }
  | _ => none }
def internNilRow : OpenClaim := { program := "ytceamidobdfhbaa", sum := "600b14f0c8b209476df8434fc3d4836f484a20c842abb5a61589197e2a43a168", func := "timetable/timetablelaw07.InternNil", spec := "internNil", inPlace := ["maps.clone"], unfollowed := true, recurses := true, apart := false }
def InternNilSaid : Prop := internNilRow.holds Try.pinned (OpenSpec.ofChange internNilSpec)

/-- ITS FALSE NEIGHBOUR: 'it returns false'. Refute it at one input. -/
def internNilWrong : ChangeSpec := { name := "internNil", fn := fun _ => fun
  | [d1, d2] => { results := [.lit (.bool false)], args := [d1, d2] }
  | _ => none }
def InternNilWrongFalsely : Prop := internNilRow.holds Try.pinned (OpenSpec.ofChange internNilWrong)

/-- 'timetablelaw07.InternBoth': WHATEVER THE INPUT: true; the input reads as it did. -/
def internBothSpec : ChangeSpec := { name := "internBoth", fn := fun _ => fun
  | [d] => { results := [.lit (.bool true)], args := [d] }
  | _ => none }
def internBothRow : OpenClaim := { program := "ytceamidobdfhbaa", sum := "600b14f0c8b209476df8434fc3d4836f484a20c842abb5a61589197e2a43a168", func := "timetable/timetablelaw07.InternBoth", spec := "internBoth", unfollowed := true, recurses := true, apart := false }
def InternBothSaid : Prop := internBothRow.holds Try.pinned (OpenSpec.ofChange internBothSpec)

/-- ITS FALSE NEIGHBOUR: 'it returns false'. Refute it at one input. -/
def internBothWrong : ChangeSpec := { name := "internBoth", fn := fun _ => fun
  | [d] => { results := [.lit (.bool false)], args := [d] }
  | _ => none }
def InternBothWrongFalsely : Prop := internBothRow.holds Try.pinned (OpenSpec.ofChange internBothWrong)

/-- 'timetablelaw07.InternClones': WHATEVER THE INPUT: true; the input reads as it did. -/
def internClonesSpec : ChangeSpec := { name := "internClones", fn := fun _ => fun
  | [d1, d2] => { results := [.lit (.bool true)], args := [d1, d2] }
  | _ => none }
def internClonesRow : OpenClaim := { program := "ytceamidobdfhbaa", sum := "600b14f0c8b209476df8434fc3d4836f484a20c842abb5a61589197e2a43a168", func := "timetable/timetablelaw07.InternClones", spec := "internClones", inPlace := ["maps.clone"], unfollowed := true, recurses := true, apart := false }
def InternClonesSaid : Prop := internClonesRow.holds Try.pinned (OpenSpec.ofChange internClonesSpec)

/-- ITS FALSE NEIGHBOUR: 'it returns false'. Refute it at one input. -/
def internClonesWrong : ChangeSpec := { name := "internClones", fn := fun _ => fun
  | [d1, d2] => { results := [.lit (.bool false)], args := [d1, d2] }
  | _ => none }
def InternClonesWrongFalsely : Prop := internClonesRow.holds Try.pinned (OpenSpec.ofChange internClonesWrong)

/-- 'timetablelaw07.InternOrder': WHATEVER THE INPUT: true; the input reads as it did. -/
def internOrderSpec : ChangeSpec := { name := "internOrder", fn := fun _ => fun
  | [d1, d2] => { results := [.lit (.bool true)], args := [d1, d2] }
  | _ => none }
def internOrderRow : OpenClaim := { program := "ytceamidobdfhbaa", sum := "600b14f0c8b209476df8434fc3d4836f484a20c842abb5a61589197e2a43a168", func := "timetable/timetablelaw07.InternOrder", spec := "internOrder", unfollowed := true, recurses := true, apart := false }
def InternOrderSaid : Prop := internOrderRow.holds Try.pinned (OpenSpec.ofChange internOrderSpec)

/-- ITS FALSE NEIGHBOUR: 'it returns false'. Refute it at one input. -/
def internOrderWrong : ChangeSpec := { name := "internOrder", fn := fun _ => fun
  | [d1, d2] => { results := [.lit (.bool false)], args := [d1, d2] }
  | _ => none }
def InternOrderWrongFalsely : Prop := internOrderRow.holds Try.pinned (OpenSpec.ofChange internOrderWrong)

/- THE SECOND FORM. 'bulk': how many values and letters a reading holds, each counted each time it is reached (what is shared counts as often as it is met; a slice's spare places count too). A statement '..UptoSaid' is the law's where the arguments, and the package variables that the reading takes, are together of bulk at most 1048576: NARROWER than '..Said'. Prove '..Said' where nothing that the law and all that it calls make is longer than what came in: it says more and counts as full. Else prove '..UptoSaid'. A law counts once. -/
mutual
def uptoBulk {H : Type} : DataW H → Nat
  | .lit (.string bytes) => bytes.length + 1
  | .lit _ => 1
  | .nil => 1
  | .ptr d => uptoBulk d + 1
  | .slice elems spare => uptoBulkAll elems + uptoBulkAll spare + 1
  | .agg parts => uptoBulkAll parts + 1
  | .iface _ d => uptoBulk d + 1
  | .map entries => uptoBulkEntries entries + 1
  | .held _ => 1
def uptoBulkAll {H : Type} : List (DataW H) → Nat
  | [] => 0
  | d :: r => uptoBulk d + uptoBulkAll r
def uptoBulkEntries {H : Type} : List (Lit × DataW H) → Nat
  | [] => 0
  | x :: r => uptoBulkEntry x + uptoBulkEntries r
def uptoBulkEntry {H : Type} : Lit × DataW H → Nat
  | (.string bytes, d) => bytes.length + uptoBulk d + 1
  | (_, d) => uptoBulk d + 1
 end
def uptoSmall : (H : Type) → List (DataW H) → Bool := fun _ ds => decide (uptoBulkAll ds ≤ 1048576)
def OpenSpec.upto (s : _root_.Go.ChangeSpec) : _root_.Go.OpenSpec := { _root_.Go.OpenSpec.ofChange s with cond := some uptoSmall }

/-- 'timetablelaw07.InternNames', WHERE WHAT IT READS IS OF BULK AT MOST 1048576: true; the input reads as it did. -/
def internNamesUptoRow : OpenClaim := { program := "ytceamidobdfhbaa", sum := "600b14f0c8b209476df8434fc3d4836f484a20c842abb5a61589197e2a43a168", func := "timetable/timetablelaw07.InternNames", spec := "internNames", unfollowed := true, recurses := true, apart := false, narrowed := true }
def InternNamesUptoSaid : Prop := internNamesUptoRow.holds Try.pinned (OpenSpec.upto internNamesSpec)

/-- 'timetablelaw07.InternScript', WHERE WHAT IT READS IS OF BULK AT MOST 1048576: true; the input reads as it did. -/
def internScriptUptoRow : OpenClaim := { program := "ytceamidobdfhbaa", sum := "600b14f0c8b209476df8434fc3d4836f484a20c842abb5a61589197e2a43a168", func := "timetable/timetablelaw07.InternScript", spec := "internScript", inPlace := ["maps.clone"], unfollowed := true, recurses := true, apart := false, narrowed := true }
def InternScriptUptoSaid : Prop := internScriptUptoRow.holds Try.pinned (OpenSpec.upto internScriptSpec)

/-- 'timetablelaw07.InternNil', WHERE WHAT IT READS IS OF BULK AT MOST 1048576: true; the input reads as it did. -/
def internNilUptoRow : OpenClaim := { program := "ytceamidobdfhbaa", sum := "600b14f0c8b209476df8434fc3d4836f484a20c842abb5a61589197e2a43a168", func := "timetable/timetablelaw07.InternNil", spec := "internNil", inPlace := ["maps.clone"], unfollowed := true, recurses := true, apart := false, narrowed := true }
def InternNilUptoSaid : Prop := internNilUptoRow.holds Try.pinned (OpenSpec.upto internNilSpec)

/-- 'timetablelaw07.InternBoth', WHERE WHAT IT READS IS OF BULK AT MOST 1048576: true; the input reads as it did. -/
def internBothUptoRow : OpenClaim := { program := "ytceamidobdfhbaa", sum := "600b14f0c8b209476df8434fc3d4836f484a20c842abb5a61589197e2a43a168", func := "timetable/timetablelaw07.InternBoth", spec := "internBoth", unfollowed := true, recurses := true, apart := false, narrowed := true }
def InternBothUptoSaid : Prop := internBothUptoRow.holds Try.pinned (OpenSpec.upto internBothSpec)

/-- 'timetablelaw07.InternClones', WHERE WHAT IT READS IS OF BULK AT MOST 1048576: true; the input reads as it did. -/
def internClonesUptoRow : OpenClaim := { program := "ytceamidobdfhbaa", sum := "600b14f0c8b209476df8434fc3d4836f484a20c842abb5a61589197e2a43a168", func := "timetable/timetablelaw07.InternClones", spec := "internClones", inPlace := ["maps.clone"], unfollowed := true, recurses := true, apart := false, narrowed := true }
def InternClonesUptoSaid : Prop := internClonesUptoRow.holds Try.pinned (OpenSpec.upto internClonesSpec)

/-- 'timetablelaw07.InternOrder', WHERE WHAT IT READS IS OF BULK AT MOST 1048576: true; the input reads as it did. -/
def internOrderUptoRow : OpenClaim := { program := "ytceamidobdfhbaa", sum := "600b14f0c8b209476df8434fc3d4836f484a20c842abb5a61589197e2a43a168", func := "timetable/timetablelaw07.InternOrder", spec := "internOrder", unfollowed := true, recurses := true, apart := false, narrowed := true }
def InternOrderUptoSaid : Prop := internOrderUptoRow.holds Try.pinned (OpenSpec.upto internOrderSpec)

end Rows
end Go.Proofs.Ytceamidobdfhbaa
