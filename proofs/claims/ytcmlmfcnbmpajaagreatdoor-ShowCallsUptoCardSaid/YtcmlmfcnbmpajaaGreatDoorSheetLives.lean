/- The statements' own examples: what lives answers. Conditions: the library's variables hold what start-up lays. -/
import Derived.Test.YtcmlmfcnbmpajaaGreatDoorSheetParse
import Derived.Test.YtcmlmfcnbmpajaaGreatDoorSameB
namespace Go.Proofs.YtcmlmfcnbmpajaaGreatDoor.Sh
open Go.ChangeShapes Go.WideShapes Go.ChangeAt Go.RowKit
open Lx
set_option linter.unusedVariables false
set_option linter.unusedSimpArgs false

theorem three_box (w : World) (o p q : Obj) : Below w.heap.size w (((w.alloc o).alloc p).alloc q) := (two_box w o p).alloc (by simp; omega) _
theorem Sh.old {w : World} {b : Nat} {x : SheetM} {p : ShA} (h : Sh w (fun k => b ≤ k ∧ k < w.heap.size) x p) : Sh w (· < w.heap.size) x p := h.more fun _ hk => hk.2
def livesA : SheetM := ⟨9, [[97]], [], [], [], [], []⟩
def livesB : SheetM := ⟨9, [], [], [], [⟨[114], [[97], [98], [99]], [5, 3], [2]⟩], [], []⟩
end Go.Proofs.YtcmlmfcnbmpajaaGreatDoor.Sh

